/- Lists of pitches on both sides. -/
import Derived.Test.YtgkdonnkiljplaaDoorRg
import Derived.Test.YtgkdonnkiljplaaDoorSc3
import Derived.Test.YtgkdonnkiljplaaDoorImS
namespace Go.Proofs.YtgkdonnkiljplaaDoor
open Go.ChangeShapes Go.WideShapes Go.ChangeAt Go.RowKit
set_option linter.unusedVariables false
set_option linter.unusedSimpArgs false
set_option maxRecDepth 100000

def pitB (zs : List Int) : Bool := decide (zs.length ≤ 64) && (List.range zs.length).all (fun i => inB (zs.getD i 0) (-12) 23)
theorem pit_no {zs : List Int} (i : Nat) (h : i < zs.length) (hs : inB (zs.getD i 0) (-12) 23 = false) : pitB zs = false := by
  unfold pitB
  rw [Bool.and_eq_false_iff]
  refine .inr ?_
  rw [List.all_eq_false]
  exact ⟨i, by simpa using h, by simpa using hs⟩
theorem pit_all {zs : List Int} (h : ∀ i, i < zs.length → inB (zs.getD i 0) (-12) 23 = true) : pitB zs = decide (zs.length ≤ 64) := by
  unfold pitB
  rw [show (List.range zs.length).all (fun i => inB (zs.getD i 0) (-12) 23) = true by rw [List.all_eq_true]; intro i hi; exact h i (by simpa using hi), Bool.and_true]
theorem pit_yes {zs : List Int} (h : pitB zs = true) : zs.length ≤ 64 ∧ ∀ i, i < zs.length → -12 ≤ zs.getD i 0 ∧ zs.getD i 0 ≤ 23 := by
  unfold pitB at h
  simp only [Bool.and_eq_true, decide_eq_true_eq, List.all_eq_true] at h
  exact ⟨h.1, fun i hi => inB_yes (h.2 i (by simpa using hi))⟩
theorem spec_pits (v : Value) (zs : List Int) (w : World) (h : IntsAt w v zs) (hm : zs.length ≤ 1048576) :
    Calls Tryd.prog 35 #[v] w fun e w' => e = .returned (.bool (pitB zs)) ∧ w = w' := by
  obtain ⟨A, c, rfl⟩ := ints_form h
  have HI := Bx.mk h
  have hp := fun z W => spec_pitch z W
  clear h
  go_enter Tryd.func35, Tryd.ntmps35
  go_wp2_with (fail)
  go_loopw [3] (fun i wr => ∃ k : Nat, k ≤ zs.length ∧ i = .int .i64 k ∧ Bx (∀ i, i < k → inB (zs.getD i 0) (-12) 23 = true) ∧ wr = w) (fun i _ => zs.length - (intOf i).toNat)
  case atStart => exact ⟨0, Nat.zero_le _, rfl, Bx.mk (fun i hi => absurd hi (Nat.not_lt_zero _)), rfl⟩
  case round =>
    obtain ⟨k, hk, rfl, HK, rfl⟩ := hrel
    by_cases hlt : k < zs.length
    · obtain ⟨b, o, cc, hv, _, hc⟩ := HI.out.form (by omega)
      injection hv with hA _ hC
      subst hA hC
      have h1 := hc k hlt
      have k1 : (0 : Int) ≤ (k : Int) := by omega
      have k2 : (k : Int) < (zs.length : Int) := by omega
      have hq := fun W => hp (zs.getD k 0) W
      cases hb : inB (zs.getD k 0) (-12) 23
      · have HE : Bx (pitB zs = false) := Bx.mk (pit_no k hlt hb)
        rw [hb] at hq
        clear hb hp hc HK HI
        generalize zs.getD k 0 = z at *
        go_wp2_with (fail)
        refine (hq _).mono ?_
        rintro r w1 ⟨rfl, rfl⟩
        go_wp2_with (fail)
        go_ret
        exact ⟨ret_bool HE.out.symm, rfl⟩
      · have HS : Bx (∀ i, i < k + 1 → inB (zs.getD i 0) (-12) 23 = true) := Bx.mk (fun i hi => by
          by_cases hik : i = k
          · subst hik; exact hb
          · exact HK.out i (by omega))
        rw [hb] at hq
        clear hb hp hc HK HI
        generalize zs.getD k 0 = z at *
        go_wp2_with (fail)
        refine (hq _).mono ?_
        rintro r w1 ⟨rfl, rfl⟩
        go_wp2_with (fail)
        go_roundw
        case rel => exact ⟨k + 1, by omega, by go_num, HS, by first | rfl | trivial⟩
        case measure => simp [intOf]; omega
    · obtain rfl : k = zs.length := by omega
      have HE : Bx (pitB zs = decide (zs.length ≤ 64)) := Bx.mk (pit_all HK.out)
      go_wp2_with (fail)
      go_ret
      exact ⟨ret_bool (by rw [HE.out, decide_eq_decide]; omega), rfl⟩
theorem impl_pits (v : Value) (zs : List Int) (w : World) (h : IntsAt w v zs) (hm : zs.length ≤ 1048576) :
    Calls Tryd.prog 32 #[v] w fun e w' => e = .returned (.bool (pitB zs)) ∧ w = w' := by
  obtain ⟨A, c, rfl⟩ := ints_form h
  have HI := Bx.mk h
  have hp := fun z W => impl_ispitch z W
  clear h
  by_cases h64 : 64 < zs.length
  · have HE : Bx (pitB zs = false) := Bx.mk (by unfold pitB; rw [decide_eq_false (by omega)]; rfl)
    have d8 : decide ((zs.length : Int) > 64) = true := decide_eq_true (by omega)
    go_enter Tryd.func32, Tryd.ntmps32
    go_wp2_with (fail)
    go_ret
    exact ⟨ret_bool HE.out.symm, rfl⟩
  · have d8 : decide ((zs.length : Int) > 64) = false := decide_eq_false (by omega)
    go_enter Tryd.func32, Tryd.ntmps32
    go_wp2_with (fail)
    go_loopw [10] (fun i wr => ∃ k : Nat, k ≤ zs.length ∧ i = .int .i64 k ∧ Bx (∀ i, i < k → inB (zs.getD i 0) (-12) 23 = true) ∧ wr = w) (fun i _ => zs.length - (intOf i).toNat)
    case atStart => exact ⟨0, Nat.zero_le _, rfl, Bx.mk (fun i hi => absurd hi (Nat.not_lt_zero _)), rfl⟩
    case round =>
      obtain ⟨k, hk, rfl, HK, rfl⟩ := hrel
      by_cases hlt : k < zs.length
      · obtain ⟨b, o, cc, hv, _, hc⟩ := HI.out.form (by omega)
        injection hv with hA _ hC
        subst hA hC
        have h1 := hc k hlt
        have k1 : (0 : Int) ≤ (k : Int) := by omega
        have k2 : (k : Int) < (zs.length : Int) := by omega
        have hq := fun W => hp (zs.getD k 0) W
        cases hb : inB (zs.getD k 0) (-12) 23
        · have HE : Bx (pitB zs = false) := Bx.mk (pit_no k hlt hb)
          rw [hb] at hq
          clear hb hp hc HK HI
          generalize zs.getD k 0 = z at *
          go_wp2_with (fail)
          refine (hq _).mono ?_
          rintro r w1 ⟨rfl, rfl⟩
          go_wp2_with (fail)
          go_ret
          exact ⟨ret_bool HE.out.symm, rfl⟩
        · have HS : Bx (∀ i, i < k + 1 → inB (zs.getD i 0) (-12) 23 = true) := Bx.mk (fun i hi => by
            by_cases hik : i = k
            · subst hik; exact hb
            · exact HK.out i (by omega))
          rw [hb] at hq
          clear hb hp hc HK HI
          generalize zs.getD k 0 = z at *
          go_wp2_with (fail)
          refine (hq _).mono ?_
          rintro r w1 ⟨rfl, rfl⟩
          go_wp2_with (fail)
          go_roundw
          case rel => exact ⟨k + 1, by omega, by go_num, HS, by first | rfl | trivial⟩
          case measure => simp [intOf]; omega
      · obtain rfl : k = zs.length := by omega
        have HE : Bx (pitB zs = true) := Bx.mk ((pit_all HK.out).trans (decide_eq_true (by omega)))
        go_wp2_with (fail)
        go_ret
        exact ⟨ret_bool HE.out.symm, rfl⟩
end Go.Proofs.YtgkdonnkiljplaaDoor
