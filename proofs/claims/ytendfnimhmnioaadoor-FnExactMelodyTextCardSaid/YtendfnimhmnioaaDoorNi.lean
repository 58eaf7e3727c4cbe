/- Valid melodies: the program. -/
import Derived.Test.YtendfnimhmnioaaDoorNd
import Derived.Test.YtendfnimhmnioaaDoorNe
namespace Go.Proofs.YtendfnimhmnioaaDoor
open Go.ChangeShapes Go.WideShapes Go.ChangeAt Go.RowKit
set_option linter.unusedVariables false
set_option linter.unusedSimpArgs false
set_option maxRecDepth 100000

theorem impl_islen (x : Int) (w : World) :
    Calls Tryd.prog 45 #[.int .i64 x] w fun e w' => e = .returned (.bool (inB x 1 64)) ∧ w = w' := by
  cases hb : inB x 1 64
  · have h := inB_no hb
    clear hb
    by_cases h1 : 1 ≤ x
    · have h2 : ¬ x ≤ 64 := by omega
      have d1 : decide (1 ≤ x) = true := decide_eq_true h1
      have d2 : decide (x ≤ 64) = false := decide_eq_false h2
      clear h
      go_enter Tryd.func45, Tryd.ntmps45
      go_wp2
      go_ret
      exact ⟨rfl, rfl⟩
    · have d1 : decide (1 ≤ x) = false := decide_eq_false h1
      clear h
      go_enter Tryd.func45, Tryd.ntmps45
      go_wp2
      go_ret
      exact ⟨rfl, rfl⟩
  · obtain ⟨h1, h2⟩ := inB_yes hb
    have d1 : decide (1 ≤ x) = true := decide_eq_true h1
    have d2 : decide (x ≤ 64) = true := decide_eq_true h2
    clear hb
    go_enter Tryd.func45, Tryd.ntmps45
    go_wp2
    go_ret
    exact ⟨rfl, rfl⟩
theorem impl_isnote (p n : Int) (w : World) :
    Calls Tryd.prog 63 #[nt p n] w fun e w' => e = .returned (.bool (okN (p, n))) ∧ Below w.heap.size w w' := by
  have hp := fun W => impl_ispitch p W
  have hq := fun W => impl_islen n W
  have hb : Below w.heap.size w (w.alloc (.cells #[.int .i64 p, .int .i64 n] 45)) := (Below.refl _ _).alloc (Nat.le_refl _) _
  have HB := Bx.mk hb
  clear hb
  unfold nt
  cases hb1 : inB p (-12) 23
  · have HE : Bx (okN (p, n) = false) := Bx.mk (by simp [okN, hb1])
    rw [hb1] at hp
    clear hb1
    go_enter Tryd.func63, Tryd.ntmps63
    go_wp2_with (fail)
    refine (hp _).mono ?_
    rintro r w1 ⟨rfl, rfl⟩
    go_wp2_with (fail)
    go_ret
    exact ⟨ret_bool HE.out.symm, HB.out⟩
  · have HE : Bx (okN (p, n) = inB n 1 64) := Bx.mk (by simp [okN, hb1])
    rw [hb1] at hp
    rw [HE.out]
    generalize inB n 1 64 = b at *
    clear hb1 HE
    go_enter Tryd.func63, Tryd.ntmps63
    go_wp2_with (fail)
    refine (hp _).mono ?_
    rintro r w1 ⟨rfl, rfl⟩
    go_wp2_with (fail)
    refine (hq _).mono ?_
    rintro r w1 ⟨rfl, rfl⟩
    go_wp2_with (fail)
    go_ret
    exact ⟨rfl, HB.out⟩
set_option maxHeartbeats 4000000 in
theorem impl_validmelody (v : Value) (l : List (Int × Int)) (w : World) (h : PrsAt w v l) (hm : l.length ≤ 1048576) :
    Calls Tryd.prog 37 #[v] w fun e w' => e = .returned (.bool (okM l)) ∧ Below w.heap.size w w' := by
  obtain ⟨A, c, rfl⟩ := prs_len h
  have HI := Bx.mk h
  clear h
  by_cases h48 : l.length ≤ 48
  · have d1 : decide ((l.length : Int) > 48) = false := decide_eq_false (by omega)
    go_enter Tryd.func37, Tryd.ntmps37
    go_wp2_with (fail)
    go_loopw [10] (fun i wr => ∃ k : Nat, k ≤ l.length ∧ i = .int .i64 k ∧ Bx (∀ i, i < k → okN (pat l i) = true) ∧ Bx (Below w.heap.size w wr)) (fun i _ => l.length - (intOf i).toNat)
    case atStart => exact ⟨0, Nat.zero_le _, rfl, Bx.mk (fun i hi => absurd hi (Nat.not_lt_zero _)), Bx.mk (Below.refl _ _)⟩
    case round =>
      obtain ⟨k, hk, rfl, HK, HW⟩ := hrel
      by_cases hlt : k < l.length
      · have dlt : decide ((k : Int) < (l.length : Int)) = true := decide_eq_true (by omega)
        obtain ⟨b, o, rfl, hb, hc⟩ := prs_form (HI.out.below HW.out) (by omega)
        obtain ⟨h1, h2⟩ := hc k hlt
        have k1 : (0 : Int) ≤ (k : Int) := by omega
        have k2 : (k : Int) < (l.length : Int) := by omega
        have HN := Bx.mk (okM_no (l := l) k hlt)
        have HS := Bx.mk (fun h : okN (pat l k) = true => (fun i (hi : i < k + 1) => by
          by_cases hik : i = k
          · subst hik; exact h
          · exact HK.out i (by omega) : ∀ i, i < k + 1 → okN (pat l i) = true))
        clear hc HK HI
        generalize pat l k = p at *
        obtain ⟨p1, p2⟩ := p
        dsimp only at h1 h2
        have hq := fun W => impl_isnote p1 p2 W
        unfold nt at hq
        cases hb1 : okN (p1, p2)
        · have HE : Bx (okM l = false) := Bx.mk (HN.out hb1)
          rw [hb1] at hq
          clear HN HS hb1
          go_wp2_with (fail)
          refine (hq _).mono ?_
          rintro r w1 ⟨rfl, hb1⟩
          have B1 : Bx (Below w.heap.size w w1) := Bx.mk (Below.trans (by repeat' (first | (with_reducible exact HW.out) | (with_reducible exact Below.refl _ _) | (with_reducible refine Below.alloc ?_ ?_ _) | (with_reducible refine Below.setCell ?_ ?_ _) | exact HW.out.size | go_size)) (hb1.mono (by first | exact HW.out.size | (have := HW.out.size; simp; omega))))
          clear hb1
          go_wp2_with (fail)
          go_ret
          exact ⟨ret_bool HE.out.symm, B1.out⟩
        · have HS2 := Bx.mk (HS.out hb1)
          rw [hb1] at hq
          clear HN HS hb1
          go_wp2_with (fail)
          refine (hq _).mono ?_
          rintro r w1 ⟨rfl, hb1⟩
          have B1 : Bx (Below w.heap.size w w1) := Bx.mk (Below.trans (by repeat' (first | (with_reducible exact HW.out) | (with_reducible exact Below.refl _ _) | (with_reducible refine Below.alloc ?_ ?_ _) | (with_reducible refine Below.setCell ?_ ?_ _) | exact HW.out.size | go_size)) (hb1.mono (by first | exact HW.out.size | (have := HW.out.size; simp; omega))))
          clear hb1
          go_wp2_with (fail)
          go_roundw
          case rel => exact ⟨k + 1, by omega, by go_num, HS2, B1⟩
          case measure => simp [intOf]; omega
      · obtain rfl : k = l.length := by omega
        have dlt : decide ((l.length : Int) < (l.length : Int)) = false := decide_eq_false (by omega)
        have HE : Bx (okM l = true) := Bx.mk ((okM_all HK.out).trans (decide_eq_true h48))
        clear HK
        go_wp2_with (fail)
        go_ret
        exact ⟨ret_bool HE.out.symm, HW.out⟩
  · have d1 : decide ((l.length : Int) > 48) = true := decide_eq_true (by omega)
    have HE : Bx (okM l = false) := Bx.mk (okM_long (by omega))
    go_enter Tryd.func37, Tryd.ntmps37
    go_wp2_with (fail)
    go_ret
    exact ⟨ret_bool HE.out.symm, Below.refl _ _⟩
end Go.Proofs.YtendfnimhmnioaaDoor
