/- SameMelody: the model. -/
import Derived.Test.YtendfnimhmnioaaNe
namespace Go.Proofs.Ytendfnimhmnioaa
open Go.ChangeShapes Go.WideShapes Go.ChangeAt Go.RowKit
set_option linter.unusedVariables false
set_option linter.unusedSimpArgs false
set_option maxRecDepth 100000

set_option maxHeartbeats 2000000 in
theorem spec_same9 (va vb : Value) (xs ys : List (Int × Int)) (w : World) (ha : PrsAt w va xs) (hb : PrsAt w vb ys) (hx : xs.length ≤ 1048576) (hy : ys.length ≤ 1048576) :
    Calls Try.prog 55 #[va, vb] w fun e w' => e = .returned (.bool (decide (xs = ys))) ∧ ∃ n, w' = w.drewN n := by
  by_cases hl : xs.length = ys.length
  · rcases Nat.eq_zero_or_pos xs.length with h0 | h0
    · obtain rfl := List.eq_nil_of_length_eq_zero h0
      obtain rfl : ys = [] := List.eq_nil_of_length_eq_zero hl.symm
      obtain ⟨A, c, rfl⟩ := prs_len ha
      obtain ⟨B, c', rfl⟩ := prs_len hb
      clear ha hb hl hx hy h0
      go_enter Try.func55, Try.ntmps55
      go_wp2
      refine wp_loop_rounds 1 ?_
      rw [rounds_succ]
      go_wp2
      go_ret
      exact ⟨ret_bool (by simp), 0, rfl⟩
    · obtain ⟨A, c, rfl⟩ := prs_len ha
      obtain ⟨B, c', rfl⟩ := prs_len hb
      obtain ⟨b1, o1, rfl, l1, h1⟩ := prs_form ha h0
      obtain ⟨b2, o2, rfl, l2, h2⟩ := prs_form hb (by omega)
      have H1 := Bx.mk h1
      have H2 := Bx.mk h2
      have HL := Bx.mk hl
      have hle : ((xs.length : Int) != (ys.length : Int)) = false := by simp; omega
      clear h1 h2 hl ha hb
      go_enter Try.func55, Try.ntmps55
      go_wp2
      go_loopw [5] (fun i wr => ∃ k n : Nat, k ≤ xs.length ∧ i = .int .i64 k ∧ Bx (xs.take k = ys.take k) ∧ wr = w.drewN n) (fun i _ => xs.length - (intOf i).toNat)
      case atStart => exact ⟨0, 0, Nat.zero_le _, rfl, Bx.mk rfl, rfl⟩
      case round =>
        obtain ⟨k, n, hk, rfl, HK, rfl⟩ := hrel
        by_cases hlt : k < xs.length
        · have hlt2 : k < ys.length := by have := HL.out; omega
          obtain ⟨c1, c2⟩ := H1.out k hlt
          obtain ⟨d1, d2⟩ := H2.out k hlt2
          have HS := Bx.mk (ptake_succ xs ys k hlt hlt2 HK.out)
          have HT := Bx.mk (ptake_ne xs ys k)
          generalize pat xs k = p at c1 c2 HS HT
          generalize pat ys k = q at d1 d2 HS HT
          obtain ⟨p1, p2⟩ := p
          obtain ⟨q1, q2⟩ := q
          dsimp only at c1 c2 d1 d2
          have x1 : (0 : Int) ≤ (k : Int) := by omega
          have x2 : (k : Int) < (xs.length : Int) := by omega
          have x3 : (k : Int) < (ys.length : Int) := by omega
          by_cases hp1 : p1 = q1
          · subst hp1
            have he1 : (p1 == p1) = true := by simp
            by_cases hp2 : p2 = q2
            · subst hp2
              have he2 : (p2 == p2) = true := by simp
              have HS2 := Bx.mk (HS.out rfl)
              clear HS HT
              go_wp2
              go_quiet (fail)
              go_wp2
              go_roundw
              case rel => exact ⟨k + 1, _, by omega, by go_num, HS2, rfl⟩
              case measure => simp [intOf]; omega
            · have he2 : (p2 == q2) = false := by simpa using hp2
              have HT2 := Bx.mk (HT.out (by simp [hp2]))
              clear HS HT hp2
              go_wp2
              go_quiet (fail)
              go_wp2
              go_ret
              exact ⟨ret_bool (by simpa using HT2.out), n + nq, by rw [World.drewN_drewN]⟩
          · have he1 : (p1 == q1) = false := by simpa using hp1
            have HT2 := Bx.mk (HT.out (by simp [hp1]))
            clear HS HT hp1
            go_wp2
            go_quiet (fail)
            go_wp2
            go_ret
            exact ⟨ret_bool (by simpa using HT2.out), n + nq, by rw [World.drewN_drewN]⟩
        · have HE : Bx (xs = ys) := Bx.mk (by have := HK.out; rwa [List.take_of_length_le (by omega), List.take_of_length_le (by have := HL.out; omega)] at this)
          go_wp2
          go_ret
          exact ⟨ret_bool (by simpa using HE.out), _, rfl⟩
  · have hle : ((xs.length : Int) != (ys.length : Int)) = true := by simp; omega
    have HN : Bx (xs ≠ ys) := Bx.mk (by rintro rfl; exact hl rfl)
    obtain ⟨A, c, rfl⟩ := prs_len ha
    obtain ⟨B, c', rfl⟩ := prs_len hb
    clear ha hb hl
    go_enter Try.func55, Try.ntmps55
    go_wp2
    go_ret
    exact ⟨ret_bool (by simpa using HN.out), 0, rfl⟩
theorem spec_samemelody (va vb : Value) (xs ys : List (Int × Int)) (w : World) (ha : PrsAt w va xs) (hb : PrsAt w vb ys) (hx : xs.length ≤ 1048576) (hy : ys.length ≤ 1048576) :
    Calls Try.prog 29 #[va, vb] w fun e w' => e = .returned (.bool (decide (xs = ys))) ∧ Below w.heap.size w w' := by
  have hq := spec_same9 va vb xs ys w ha hb hx hy
  obtain ⟨A, c, rfl⟩ := prs_len ha
  obtain ⟨B, c', rfl⟩ := prs_len hb
  clear ha hb
  go_enter Try.func29, Try.ntmps29
  go_wp2_with (fail)
  refine hq.mono ?_
  rintro r w1 ⟨rfl, n, rfl⟩
  go_wp2_with (fail)
  go_ret
  exact ⟨rfl, below_draws (Below.refl _ _) n⟩
end Go.Proofs.Ytendfnimhmnioaa
