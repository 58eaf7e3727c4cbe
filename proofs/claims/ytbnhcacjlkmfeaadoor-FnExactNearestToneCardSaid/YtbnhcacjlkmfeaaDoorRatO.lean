/- The model's CompareRatios and octaves. -/
import Derived.Test.YtbnhcacjlkmfeaaDoorRatM
import Derived.Test.YtbnhcacjlkmfeaaDoorOctMath
namespace Go.Proofs.YtbnhcacjlkmfeaaDoor
open Go.ChangeShapes Go.WideShapes Go.ChangeAt Go.RowKit
set_option linter.unusedVariables false
set_option linter.unusedSimpArgs false
set_option maxRecDepth 100000

set_option maxHeartbeats 1000000 in
theorem spec_cmp0 (g h o q : Nat) (n d m e : Int) (w : World) (a0 : w.cell? ⟨g, o, none⟩ = some (.int .i64 n)) (a1 : w.cell? ⟨g, o + 1, none⟩ = some (.int .i64 d))
    (b0 : w.cell? ⟨h, q, none⟩ = some (.int .i64 m)) (b1 : w.cell? ⟨h, q + 1, none⟩ = some (.int .i64 e))
    (hn : 1 ≤ n ∧ n ≤ 1000000) (hd : 1 ≤ d ∧ d ≤ 1000000) (hm : 1 ≤ m ∧ m ≤ 1000000) (he : 1 ≤ e ∧ e ≤ 1000000) :
    Calls Tryd.prog 58 #[.pointer (some ⟨g, o, none⟩), .pointer (some ⟨h, q, none⟩)] w fun r w' => r = .returned (.int .i64 (cmpR n d m e)) ∧ ∃ k, w' = w.drewN k := by
  obtain ⟨x1, x2⟩ := mul_rng hn he
  obtain ⟨y1, y2⟩ := mul_rng hm hd
  have HC : Bx (cmpR n d m e = if n * e < m * d then -1 else if m * d < n * e then 1 else 0) := Bx.mk rfl
  have E1 : IntKind.i64.wrap (n * e) = n * e := IntWalk.i64_in _ (by omega)
  have E2 : IntKind.i64.wrap (m * d) = m * d := IntWalk.i64_in _ (by omega)
  clear hn hd hm he
  go_enter Tryd.func58, Tryd.ntmps58
  go_wp2_with (fail)
  go_quiet (fail)
  go_wp2_with (fail)
  go_quiet (fail)
  clear E1 E2
  generalize n * e = x at *
  generalize m * d = y at *
  by_cases h1 : x < y
  · have H := Bx.mk (HC.out.trans (if_pos h1))
    go_wp2_with (fail)
    go_ret
    exact ⟨ret_int H.out.symm, _, rfl⟩
  · have HC2 := Bx.mk (HC.out.trans (if_neg h1))
    by_cases h2 : y < x
    · have H := Bx.mk (HC2.out.trans (if_pos h2))
      go_wp2_with (fail)
      go_ret
      exact ⟨ret_int H.out.symm, _, rfl⟩
    · have H := Bx.mk (HC2.out.trans (if_neg h2))
      go_wp2_with (fail)
      go_ret
      exact ⟨ret_int H.out.symm, _, rfl⟩

/-- what a pair of loops finds -/
def OctOut (t : Int × Int × Int) (w : World) (e : Ending) (w' : World) : Prop := e = .returned (.tuple #[.int .i64 t.1, .int .i64 t.2.1, .int .i64 t.2.2]) ∧ ∃ k, w' = w.drewN k
theorem oct_out {n d a b c : Int} {w : World} {k : Nat} (hn : 1 ≤ n) (hd : 1 ≤ d) (h : OctP n d a b c) : OctOut (octN n d) w (.returned (.tuple #[.int .i64 a, .int .i64 b, .int .i64 c])) (w.drewN k) := by
  rw [octN_eq hn hd h]; exact ⟨rfl, k, rfl⟩
set_option maxHeartbeats 1000000 in
theorem spec_octave (g o : Nat) (n d : Int) (w : World) (a0 : w.cell? ⟨g, o, none⟩ = some (.int .i64 n)) (a1 : w.cell? ⟨g, o + 1, none⟩ = some (.int .i64 d))
    (hn : 1 ≤ n ∧ n ≤ 1000000) (hd : 1 ≤ d ∧ d ≤ 1000000) :
    Calls Tryd.prog 88 #[.pointer (some ⟨g, o, none⟩)] w (OctOut (octN n d) w) := by
  have HN := Bx.mk hn
  have HD := Bx.mk hd
  obtain ⟨n1, n2⟩ := hn
  obtain ⟨d1, d2⟩ := hd
  go_enter Tryd.func88, Tryd.ntmps88
  go_wp2_with (fail)
  go_loop [6, 7] (fun x y => ∃ den k : Int, x = .int .i64 den ∧ y = .int .i64 k ∧ OctA n d den k) (fun x _ => (n - intOf x).toNat)
  case atStart => exact ⟨d, 0, rfl, rfl, octA_start n d⟩
  case round =>
    obtain ⟨den, k, rfl, rfl, hA⟩ := hrel
    obtain ⟨⟨p1, p2⟩, p3, p4⟩ := octA_bd hA HN.out.2 HD.out
    have HA := Bx.mk hA
    clear hA
    by_cases hlt : 2 * den ≤ n
    · go_wp2
      go_round
      case rel => exact ⟨den * 2, k + 1, rfl, rfl, octA_step HA.out hlt⟩
      case measure => simp [intOf]; omega
    · have HB := Bx.mk (octB_start HA.out (by omega))
      go_wp2
      go_loop [5, 7] (fun x y => ∃ num k : Int, x = .int .i64 num ∧ y = .int .i64 k ∧ OctB n d num den k) (fun x _ => (den - intOf x).toNat)
      case atStart => exact ⟨n, k, rfl, rfl, HB.out⟩
      case round =>
        obtain ⟨num, k, rfl, rfl, hB⟩ := hrel
        obtain ⟨⟨q1, q2⟩, _, q3, q4⟩ := octB_bd hB HN.out HD.out
        have HB2 := Bx.mk hB
        clear hB
        by_cases hlt2 : num < den
        · go_wp2
          go_round
          case rel => exact ⟨num * 2, k - 1, rfl, rfl, octB_step HB2.out hlt2⟩
          case measure => simp [intOf]; omega
        · go_wp2
          go_returns
          exact oct_out (k := 0) HN.out.1 HD.out.1 (octB_end HB2.out (by omega))
end Go.Proofs.YtbnhcacjlkmfeaaDoor
