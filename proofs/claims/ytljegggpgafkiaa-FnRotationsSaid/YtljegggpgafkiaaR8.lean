/- The helpers of laws over two inputs of bytes: r8Long, r8At, r8Wide, r8Same, r8Has. -/
import Derived.Test.YtljegggpgafkiaaSrc
import Derived.Test.YtljegggpgafkiaaSc2
namespace Go.Proofs.Ytljegggpgafkiaa
open Go.ChangeShapes Go.WideShapes Go.ChangeAt Go.RowKit
set_option linter.unusedVariables false
set_option linter.unusedSimpArgs false
set_option maxRecDepth 100000

theorem BytesAt.below {w w' : World} {v : Value} {n : Nat} (h : BytesAt w v n) (hb : Below w.heap.size w w') : BytesAt w' v n := by
  obtain ⟨A, c, e, h⟩ := h
  refine ⟨A, c, e, fun h0 => ?_⟩
  obtain ⟨b, o, e, hl, hx⟩ := h h0
  exact ⟨b, o, e, Nat.lt_of_lt_of_le hl hb.size, fun k hk => by
    obtain ⟨x, hc, hr⟩ := hx k hk
    exact ⟨x, (hb.cell (p := ⟨b, o + k, none⟩) hl).trans hc, hr⟩⟩
/-- a choice of the law's input: the same number whenever it is asked for -/
theorem r8_at_fix (v : Value) (n : Nat) (k m : Int) (w : World) (h : BytesAt w v n) (hn : n ≤ 281474976710656) (hk : 0 ≤ k ∧ k ≤ 1000000) (hm : 1 ≤ m ∧ m ≤ 1000000) :
    ∃ x : Int, (0 ≤ x ∧ x < m) ∧ ∀ W, Below w.heap.size w W → Calls Try.prog 7 #[v, .int .i64 k, .int .i64 m] W fun e w' => e = .returned (.int .i64 x) ∧ W = w' := by
  obtain ⟨A, c, rfl, hA⟩ := h
  obtain ⟨m1, m2⟩ := hm
  obtain ⟨k1, k2⟩ := hk
  by_cases h1 : m ≤ 1
  · refine ⟨0, by omega, fun W _ => ?_⟩
    clear hA
    go_enter Try.func7, Try.ntmps7
    go_wp2
    go_ret
    exact ⟨rfl, rfl⟩
  · obtain ⟨k, rfl⟩ : ∃ j : Nat, k = j := ⟨k.toNat, by omega⟩
    by_cases hlt : (k : Int) < n
    · obtain ⟨b, o, rfl, hb, hx⟩ := hA (by omega)
      obtain ⟨x, hc0, hx0, hx1⟩ := hx k (by omega)
      refine ⟨x % m, ⟨Int.emod_nonneg _ (by omega), Int.emod_lt_of_pos _ (by omega)⟩, fun W hW => ?_⟩
      have hc : W.cell? ⟨b, o + k, none⟩ = some (.int .u8 x) := (hW.cell (p := ⟨b, o + k, none⟩) hb).trans hc0
      clear hx hA hc0 hW
      go_enter Try.func7, Try.ntmps7
      go_wp2
      go_ret
      exact ⟨rfl, rfl⟩
    · refine ⟨0, by omega, fun W _ => ?_⟩
      clear hA
      go_enter Try.func7, Try.ntmps7
      go_wp2
      go_ret
      exact ⟨rfl, rfl⟩
theorem r8_wide_fix (v : Value) (n : Nat) (k m : Int) (w : World) (h : BytesAt w v n) (hn : n ≤ 281474976710656) (hk : 0 ≤ k ∧ k ≤ 100000) (hm : 1 ≤ m ∧ m ≤ 100000) :
    Calls Try.prog 18 #[v, .int .i64 k, .int .i64 m] w fun e w' => (∃ x : Int, e = .returned (.int .i64 x) ∧ 0 ≤ x ∧ x < m) ∧ w = w' := by
  obtain ⟨x, ⟨x0, x1⟩, hx⟩ := r8_at_fix v n k 256 w h hn (by omega) (by omega)
  obtain ⟨y, ⟨y0, y1⟩, hy⟩ := r8_at_fix v n (k + 1) 256 w h hn (by omega) (by omega)
  have HX := Bx.mk (hx w (Below.refl _ _))
  have HY := Bx.mk (hy w (Below.refl _ _))
  clear hx hy h
  obtain ⟨m1, m2⟩ := hm
  obtain ⟨k1, k2⟩ := hk
  go_enter Try.func18, Try.ntmps18
  go_wp2_with (fail)
  refine HX.out.mono ?_
  rintro e w' ⟨rfl, rfl⟩
  go_wp2_with (fail)
  refine HY.out.mono ?_
  rintro e w' ⟨rfl, rfl⟩
  go_wp2_with (fail)
  go_ret
  exact ⟨⟨(256 * x + y) % m, rfl, Int.emod_nonneg _ (by omega), Int.emod_lt_of_pos _ (by omega)⟩, rfl⟩
/-- what r8Long answers -/
def LongOut (n m : Nat) (w : World) (e : Ending) (w' : World) : Prop := (∃ b : Bool, e = .returned (.bool b) ∧ (b = false → (n : Int) ≤ 1048576 ∧ (m : Int) ≤ 1048576)) ∧ w = w'
theorem r8_long (A B : Option Addr) (n m c d : Nat) (w : World) (hn : (n : Int) ≤ 9223372036854775807) (hm : (m : Int) ≤ 9223372036854775807) :
    Calls Try.prog 5 #[.slice A n c, .slice B m d] w (LongOut n m w) := by
  by_cases h1 : (1048576 : Int) < n
  · go_enter Try.func5, Try.ntmps5
    go_wp2
    go_ret
    exact ⟨⟨true, rfl, by simp⟩, rfl⟩
  · by_cases h2 : (1048576 : Int) < m
    · go_enter Try.func5, Try.ntmps5
      go_wp2
      go_ret
      exact ⟨⟨true, rfl, by simp⟩, rfl⟩
    · go_enter Try.func5, Try.ntmps5
      go_wp2
      go_ret
      exact ⟨⟨false, rfl, fun _ => ⟨by omega, by omega⟩⟩, rfl⟩
set_option maxHeartbeats 1000000 in
theorem r8_same (va vb : Value) (xs ys : List Int) (w : World) (ha : IntsAt w va xs) (hb : IntsAt w vb ys) (hx : xs.length ≤ 281474976710656) (hy : ys.length ≤ 281474976710656) :
    Calls Try.prog 17 #[va, vb] w fun e w' => e = .returned (.bool (decide (xs = ys))) ∧ ∃ n, w' = w.drewN n := by
  by_cases hl : xs.length = ys.length
  · rcases ha with ⟨rfl, A, c, rfl⟩ | ⟨b1, o1, c1, rfl, _, h1⟩
    · have hy0 : ys = [] := List.eq_nil_of_length_eq_zero hl.symm
      subst hy0
      obtain ⟨B, c', rfl⟩ : ∃ B c', vb = .slice B 0 c' := by
        rcases hb with ⟨_, B, c', h⟩ | ⟨b, o, c', h, _⟩
        · exact ⟨B, c', h⟩
        · exact ⟨_, c', h⟩
      clear hb hl hx hy
      go_enter Try.func17, Try.ntmps17
      go_wp2
      refine wp_loop_rounds 1 ?_
      rw [rounds_succ]
      go_wp2
      go_ret
      exact ⟨ret_bool (by simp), 0, rfl⟩
    · rcases hb with ⟨rfl, B, c', rfl⟩ | ⟨b2, o2, c2, rfl, _, h2⟩
      · have hx0 : xs = [] := List.eq_nil_of_length_eq_zero hl
        subst hx0
        clear hl hx hy h1
        go_enter Try.func17, Try.ntmps17
        go_wp2
        refine wp_loop_rounds 1 ?_
        rw [rounds_succ]
        go_wp2
        go_ret
        exact ⟨ret_bool (by simp), 0, rfl⟩
      · have H1 := Bx.mk h1
        have H2 := Bx.mk h2
        have HL := Bx.mk hl
        have hle : ((xs.length : Int) != (ys.length : Int)) = false := by simp; omega
        clear h1 h2 hl
        go_enter Try.func17, Try.ntmps17
        go_wp2
        go_loopw [5] (fun i wr => ∃ k n : Nat, k ≤ xs.length ∧ i = .int .i64 k ∧ Bx (xs.take k = ys.take k) ∧ wr = w.drewN n) (fun i _ => xs.length - (intOf i).toNat)
        case atStart => exact ⟨0, 0, Nat.zero_le _, rfl, Bx.mk rfl, rfl⟩
        case round =>
          obtain ⟨k, n, hk, rfl, HK, rfl⟩ := hrel
          by_cases hlt : k < xs.length
          · have hlt2 : k < ys.length := by have := HL.out; omega
            have c1 := H1.out k hlt
            have c2 := H2.out k hlt2
            have HS := Bx.mk (take_eq_succ xs ys k hlt hlt2 HK.out)
            have HT := Bx.mk (take_ne xs ys k hlt hlt2)
            generalize xs.getD k 0 = p at c1 HS HT
            generalize ys.getD k 0 = q at c2 HS HT
            by_cases hpq : p = q
            · subst hpq
              have HS2 := Bx.mk (HS.out rfl)
              clear HS HT
              go_wp2
              go_quiet (fail)
              go_wp2
              go_roundw
              case rel => exact ⟨k + 1, _, by omega, by go_num, HS2, rfl⟩
              case measure => simp [intOf]; omega
            · have hne : (p != q) = true := by simpa using hpq
              have HT2 := Bx.mk (HT.out hpq)
              clear HS HT hpq
              go_wp2
              go_quiet (fail)
              go_wp2
              go_ret
              exact ⟨ret_bool (by simpa using HT2.out), n + nq, by rw [World.drewN_drewN]⟩
          · have HE : Bx (xs = ys) := Bx.mk (by have := HK.out; rwa [List.take_of_length_le (by omega), List.take_of_length_le (by have := HL.out; omega)] at this)
            go_wp2
            go_ret
            exact ⟨ret_bool (by simpa using HE.out), _, rfl⟩
  · have hle : ((xs.length : Int) != (ys.length : Int)) = true := by simp; omega
    have HN : Bx (xs ≠ ys) := Bx.mk (by rintro rfl; exact hl rfl)
    obtain ⟨A, c, rfl⟩ : ∃ A c, va = .slice A xs.length c := by
      rcases ha with ⟨rfl, A, c, h⟩ | ⟨b, o, c, h, _⟩
      · exact ⟨A, c, h⟩
      · exact ⟨_, c, h⟩
    obtain ⟨B, c', rfl⟩ : ∃ B c, vb = .slice B ys.length c := by
      rcases hb with ⟨rfl, A, c, h⟩ | ⟨b, o, c, h, _⟩
      · exact ⟨A, c, h⟩
      · exact ⟨_, c, h⟩
    clear ha hb hl
    go_enter Try.func17, Try.ntmps17
    go_wp2
    go_ret
    exact ⟨ret_bool (by simpa using HN.out), 0, rfl⟩

set_option maxHeartbeats 1000000 in
theorem r8_has (v : Value) (zs : List Int) (t : Int) (w : World) (h : IntsAt w v zs) (hm : zs.length ≤ 281474976710656) :
    Calls Try.prog 15 #[v, .int .i64 t] w fun e w' => e = .returned (.bool (hasB zs t)) ∧ w = w' := by
  rcases Nat.eq_zero_or_pos zs.length with h0 | h0
  · obtain ⟨A, c, rfl⟩ := h.len
    have HN : Bx (hasB zs t = false) := Bx.mk (by exact has_miss (fun i hi => by omega))
    have x1 : (zs.length : Int) = 0 := by omega
    rw [h0]
    clear h
    go_enter Try.func15, Try.ntmps15
    go_wp2_with (fail)
    go_loop [5] (fun i => i = .int .i64 0) (fun _ => 0)
    case atStart => rfl
    case round =>
      obtain rfl := hrel
      go_wp2_with (fail)
      go_ret
      exact ⟨ret_bool HN.out.symm, rfl⟩
  · obtain ⟨b, o, c, rfl, hb, hc⟩ := h.form h0
    have HC := Bx.mk hc
    clear h hc
    go_enter Try.func15, Try.ntmps15
    go_wp2_with (fail)
    go_loop [5] (fun i => ∃ k : Nat, k ≤ zs.length ∧ i = .int .i64 k ∧ Bx (∀ i, i < k → zs.getD i 0 ≠ t)) (fun i => zs.length - (intOf i).toNat)
    case atStart => exact ⟨0, Nat.zero_le _, rfl, Bx.mk (fun i hi => by omega)⟩
    case round =>
      obtain ⟨k, hk, rfl, HK⟩ := hrel
      by_cases hlt : k < zs.length
      · have h1 : w.cell? ⟨b, o + k, none⟩ = some (.int .i64 (zs.getD k 0)) := HC.out k hlt
        have x1 : (0 : Int) ≤ (k : Int) := by omega
        have x2 : (k : Int) < (zs.length : Int) := by omega
        by_cases he : zs.getD k 0 = t
        · have HN : Bx (hasB zs t = true) := Bx.mk (by exact has_hit k hlt he HK.out)
          have y1 : (zs.getD k 0 == t) = true := by simpa using he
          clear HK he
          generalize zs.getD k 0 = z at *
          go_wp2_with (fail)
          go_ret
          exact ⟨ret_bool HN.out.symm, rfl⟩
        · have HS : Bx (∀ i, i < k + 1 → zs.getD i 0 ≠ t) := Bx.mk (fun i hi => by
            by_cases hij : i < k
            · exact HK.out i hij
            · obtain rfl : i = k := (by omega); exact he)
          have y1 : (zs.getD k 0 == t) = false := by simpa using he
          clear HK he
          generalize zs.getD k 0 = z at *
          go_wp2_with (fail)
          go_round
          case rel => exact ⟨k + 1, by omega, by go_num, HS⟩
          case measure => simp [intOf]; omega
      · obtain rfl : k = zs.length := by omega
        have HN : Bx (hasB zs t = false) := Bx.mk (by exact has_miss HK.out)
        go_wp2_with (fail)
        go_ret
        exact ⟨ret_bool HN.out.symm, rfl⟩
set_option maxRecDepth 100000 in
/-- a slice of bytes that came in -/
theorem arg_bytes {H : Type} {enc : TypeId × Value → H} {W : World} {b0 : Nat} {v : Value} {d : DataW H} {p : List MemPlace} (hval : Value.okWide Try.prog W .any b0 22 v)
    (h : DataW.Trod enc Try.prog W 0 (fun _ => true) true 22 v d p) (hlt : ∀ x ∈ p, x.block < W.heap.size) : ∃ n : Nat, BytesAt W v n ∧ n ≤ 9223372036854775807 := by
  obtain ⟨a0, len, cap, rfl⟩ := okWide_slice Try.underlying22 hval
  obtain ⟨fuel, hf⟩ := h
  rcases open_ints Try.underlying22 Try.underlying5 (by kernel_rfl) hf with ⟨hcs, hx⟩ | ⟨a, len', cap', zs, hcs, hzl, hl, hm, hz, hx, hcell, hwz⟩
  · simp [Value.cells] at hcs
    obtain ⟨rfl, rfl, rfl⟩ := hcs
    exact ⟨0, ⟨none, 0, rfl, fun h => absurd h (by omega)⟩, by omega⟩
  · simp [Value.cells] at hcs
    obtain ⟨rfl, rfl, rfl⟩ := hcs
    simp only [if_true] at hz
    simp only [Prod.mk.injEq] at hx
    obtain ⟨rfl, rfl⟩ := hx
    refine ⟨len, ⟨some a, cap, rfl, fun h0 => ?_⟩, by unfold maxLen at hm; omega⟩
    obtain ⟨b, off, spot⟩ := a
    have hspot : spot = none := by simpa [Addr.add] using World.cell?_spot (hcell 0 (by omega))
    subst hspot
    have hbW : b < W.heap.size := hlt (.cell b off) (MemPlace.mem_row.2 ⟨0, by omega, by simp⟩)
    refine ⟨b, off, rfl, hbW, fun k hk => ?_⟩
    have := hcell k (by omega)
    rw [show (⟨b, off, none⟩ : Addr).add k = ⟨b, off + k, none⟩ by unfold Addr.add; split <;> simp_all] at this
    have hw := hwz (zs.getD k 0) (by simp [List.getD, show k < zs.length by omega])
    simp [Lit.wf, IntKind.min, IntKind.max, IntKind.bits, IntKind.signed] at hw
    exact ⟨_, this, by simpa using hw⟩
end Go.Proofs.Ytljegggpgafkiaa
