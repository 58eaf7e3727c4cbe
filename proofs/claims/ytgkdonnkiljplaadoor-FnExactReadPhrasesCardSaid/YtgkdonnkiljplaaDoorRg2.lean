/- The laws' own helpers over slices of slices and ragas: sizes, equality. -/
import Derived.Test.YtgkdonnkiljplaaDoorRg
namespace Go.Proofs.YtgkdonnkiljplaaDoor
open Go.ChangeShapes Go.WideShapes Go.ChangeAt Go.RowKit
set_option linter.unusedVariables false
set_option linter.unusedSimpArgs false
set_option maxRecDepth 100000

def szI (n : Nat) (k : Int) : Int := if k < n then -1 else k - n
/-- what is left, or -1 -/
def SzOut (p : Prop) (k : Int) (w : World) (e : Ending) (w' : World) : Prop := ∃ z : Int, e = .returned (.int .i64 z) ∧ (z = -1 ∨ (0 ≤ z ∧ z ≤ k ∧ p)) ∧ Below w.heap.size w w'
theorem quiet_dr {P : Program} {f : FuncId} {args : Array Value} {w : World} {n : Nat} {v : Value}
    (h : Calls P f args (w.drewN n) fun e w' => e = .returned v ∧ ∃ k, w' = (w.drewN n).drewN k) : Calls P f args (w.drewN n) fun e w'' => e = .returned v ∧ ∃ m, w'' = w.drewN m :=
  h.mono fun _ _ ⟨he, k, hk⟩ => ⟨he, n + k, by rw [hk, World.drewN_drewN]⟩
theorem drmore {w wr : World} (h : ∃ n, wr = w.drewN n) (m : Nat) : ∃ n, wr.drewN m = w.drewN n := by
  obtain ⟨n, rfl⟩ := h
  exact ⟨n + m, by rw [World.drewN_drewN]⟩
theorem rtake_succ (xs ys : List (List Int)) (k : Nat) (h1 : k < xs.length) (h2 : k < ys.length) (hp : xs.take k = ys.take k) (he : xs.getD k [] = ys.getD k []) : xs.take (k + 1) = ys.take (k + 1) := by
  simp only [List.getD, List.getElem?_eq_getElem h1, List.getElem?_eq_getElem h2, Option.getD_some] at he
  rw [List.take_succ_eq_append_getElem h1, List.take_succ_eq_append_getElem h2, hp, he]
theorem rtake_ne (xs ys : List (List Int)) (k : Nat) (hn : xs.getD k [] ≠ ys.getD k []) : xs ≠ ys := by
  rintro rfl; exact hn rfl
/-- one row of a slice of rows -/
theorem rows_at {w : World} {A : Option Addr} {n c : Nat} {L : List (List Int)} (h : RowsAt w (.slice A n c) L) (h0 : 0 < L.length) :
    ∃ b o, A = some ⟨b, o, none⟩ ∧ n = L.length ∧ b < w.heap.size ∧ ∀ k, k < L.length → ∃ A' c', w.cell? ⟨b, o + k, none⟩ = some (.slice A' (L.getD k []).length c') ∧ IntsAt w (.slice A' (L.getD k []).length c') (L.getD k []) := by
  rcases h with ⟨rfl, _⟩ | ⟨b, o, c', e, hb, hx⟩
  · simp at h0
  · injection e with e1 e2 e3
    refine ⟨b, o, e1, e2, hb, fun k hk => ?_⟩
    obtain ⟨u, h1, h2⟩ := hx k hk
    obtain ⟨A', c'', rfl⟩ := ints_form h2
    exact ⟨A', c'', h1, h2⟩
theorem eq_rows (va vb : Value) (xs ys : List (List Int)) (w : World) (ha : RowsAt w va xs) (hb : RowsAt w vb ys) (hx : xs.length ≤ 281474976710656) (hy : ys.length ≤ 281474976710656)
    (gx : ∀ k, k < xs.length → (xs.getD k []).length ≤ 281474976710656) (gy : ∀ k, k < ys.length → (ys.getD k []).length ≤ 281474976710656) :
    Calls Tryd.prog 6 #[va, vb] w fun e w' => e = .returned (.bool (decide (xs = ys))) ∧ ∃ n, w' = w.drewN n := by
  obtain ⟨A, c, rfl⟩ := rows_form ha
  obtain ⟨B, d, rfl⟩ := rows_form hb
  by_cases hl : xs.length = ys.length
  · have HL := Bx.mk hl
    have hle : ((xs.length : Int) != (ys.length : Int)) = false := by simp; omega
    have HA := Bx.mk ha
    have HB := Bx.mk hb
    have GX := Bx.mk gx
    have GY := Bx.mk gy
    clear ha hb hl gx gy
    go_enter Tryd.func6, Tryd.ntmps6
    go_wp2
    go_loopw [5] (fun i wr => ∃ k : Nat, k ≤ xs.length ∧ i = .int .i64 k ∧ Bx (xs.take k = ys.take k) ∧ Bx (∃ n, wr = w.drewN n)) (fun i _ => xs.length - (intOf i).toNat)
    case atStart => exact ⟨0, Nat.zero_le _, rfl, Bx.mk rfl, Bx.mk ⟨0, rfl⟩⟩
    case round =>
      obtain ⟨k, hk, rfl, HK, HW⟩ := hrel
      by_cases hlt : k < xs.length
      · have hlt2 : k < ys.length := by have := HL.out; omega
        obtain ⟨b1, o1, rfl, _, l1, H1⟩ := rows_at HA.out (by omega)
        obtain ⟨b2, o2, rfl, _, l2, H2⟩ := rows_at HB.out (by omega)
        obtain ⟨A1, e1, c1, i1⟩ := H1 k hlt
        obtain ⟨A2, e2, c2, i2⟩ := H2 k hlt2
        have c1 : wr.cell? ⟨b1, o1 + k, none⟩ = some (.slice A1 (xs.getD k []).length e1) := by obtain ⟨n, rfl⟩ := HW.out; exact c1
        have c2 : wr.cell? ⟨b2, o2 + k, none⟩ = some (.slice A2 (ys.getD k []).length e2) := by obtain ⟨n, rfl⟩ := HW.out; exact c2
        have hq := fun m => eq_ints _ _ _ _ (wr.drewN m) (by obtain ⟨n, rfl⟩ := HW.out; exact i1) (by obtain ⟨n, rfl⟩ := HW.out; exact i2) (GX.out k hlt) (GY.out k hlt2)
        have HS := Bx.mk (rtake_succ xs ys k hlt hlt2 HK.out)
        have HT := Bx.mk (rtake_ne xs ys k)
        clear i1 i2 H1 H2 HA HB GX GY HK
        generalize xs.getD k [] = p at *
        generalize ys.getD k [] = q at *
        by_cases hpq : p = q
        · have HS2 := Bx.mk (HS.out hpq)
          rw [show decide (p = q) = true from decide_eq_true hpq] at hq
          clear HS HT hpq
          go_wp2_with (fail)
          go_quiet ((go_at_call 12; exact quiet_dr (hq _)))
          go_wp2
          go_roundw
          case rel => exact ⟨k + 1, by omega, by go_num, HS2, Bx.mk (drmore HW.out _)⟩
          case measure => simp [intOf]; omega
        · have HT2 := Bx.mk (HT.out hpq)
          rw [show decide (p = q) = false from decide_eq_false hpq] at hq
          clear HS HT hpq
          go_wp2_with (fail)
          go_quiet ((go_at_call 12; exact quiet_dr (hq _)))
          go_wp2
          go_ret
          exact ⟨ret_bool (by simpa using HT2.out), drmore HW.out _⟩
      · have HE : Bx (xs = ys) := Bx.mk (by have := HK.out; rwa [List.take_of_length_le (by omega), List.take_of_length_le (by have := HL.out; omega)] at this)
        go_wp2
        go_ret
        exact ⟨ret_bool (by simpa using HE.out), HW.out⟩
  · have hle : ((xs.length : Int) != (ys.length : Int)) = true := by simp; omega
    have HN : Bx (xs ≠ ys) := Bx.mk (by rintro rfl; exact hl rfl)
    clear ha hb hl
    go_enter Tryd.func6, Tryd.ntmps6
    go_wp2
    go_ret
    exact ⟨ret_bool (by simpa using HN.out), 0, rfl⟩
end Go.Proofs.YtgkdonnkiljplaaDoor
