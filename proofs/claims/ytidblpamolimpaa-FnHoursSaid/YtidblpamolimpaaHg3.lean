/- Lists of valid items: the program. -/
import Derived.Test.YtidblpamolimpaaHg2
namespace Go.Proofs.Ytidblpamolimpaa
open Go.ChangeShapes Go.WideShapes Go.ChangeAt Go.RowKit
set_option linter.unusedVariables false
set_option linter.unusedSimpArgs false
set_option maxRecDepth 100000

set_option maxHeartbeats 4000000 in
theorem impl_validitems (v : Value) (l : List It) (w : World) (h : ItsAt w v l) (hm : SmI l) :
    Calls Try.prog 28 #[v] w fun e w' => e = .returned (.bool (okIts l)) ∧ Below w.heap.size w w' := by
  obtain ⟨A, c, rfl⟩ := its_len h
  have HI := Bx.mk h
  have hn := hm.n
  have HM := Bx.mk hm.x
  have hq := fun W h => impl_incI (.slice A l.length c) l W h hm.n
  have HO : Bx (okIts l = (decide (l.length ≤ 12) && (risI l && allI l))) := Bx.mk rfl
  clear h hm
  by_cases h12 : l.length ≤ 12
  · have d1 : decide ((l.length : Int) > 12) = false := decide_eq_false (by omega)
    cases f1 : risI l
    · simp only [f1] at hq
      have HE : Bx (okIts l = false) := Bx.mk (HO.out.trans (by simp [f1]))
      go_enter Try.func28, Try.ntmps28
      go_wp2_with (fail)
      refine (hq _ HI.out).mono ?_
      rintro r w1 ⟨rfl, hb1⟩
      have B1 := Bx.mk hb1
      clear hb1
      go_wp2_with (fail)
      go_ret
      exact ⟨ret_bool HE.out.symm, B1.out⟩
    · simp only [f1] at hq
      have HA : Bx (okIts l = allI l) := Bx.mk (HO.out.trans (by simp [f1, h12]))
      clear HO f1
      go_enter Try.func28, Try.ntmps28
      go_wp2_with (fail)
      refine (hq _ HI.out).mono ?_
      rintro r w1 ⟨rfl, hb1⟩
      have B1 := Bx.mk hb1
      clear hb1 hq
      go_wp2_with (fail)
      go_loopw [15] (fun i wr => ∃ k : Nat, k ≤ l.length ∧ i = .int .i64 k ∧ Bx (∀ i, i < k → itB (iat l i) = true) ∧ Bx (Below w.heap.size w wr)) (fun i _ => l.length - (intOf i).toNat)
      case atStart => exact ⟨0, Nat.zero_le _, rfl, Bx.mk (fun i hi => by omega), B1⟩
      case round =>
        obtain ⟨k, hk, rfl, HK, HW⟩ := hrel
        by_cases hlt : k < l.length
        · have dlt : decide ((k : Int) < (l.length : Int)) = true := decide_eq_true (by omega)
          obtain ⟨b, o, cc, hv, lb, hc⟩ := (HI.out.below HW.out).form (by omega)
          injection hv with hA _ hC
          subst hA hC
          obtain ⟨c0, c1, c2, c3, c4, c5⟩ := hc k hlt
          have x1 : (0 : Int) ≤ (k : Int) := by omega
          have x2 : (k : Int) < (l.length : Int) := by omega
          have HN : Bx (itB (iat l k) = false → okIts l = false) := Bx.mk (fun h => by
            rw [HA.out]
            cases e : allI l
            · rfl
            · have := (allI_iff l).1 e k hlt
              rw [h] at this; cases this)
          have HY := Bx.mk (fun h : itB (iat l k) = true => (fun i (hi : i < k + 1) => by
            by_cases hij : i < k
            · exact HK.out i hij
            · obtain rfl : i = k := (by omega)
              exact h : ∀ i, i < k + 1 → itB (iat l i) = true))
          have hv := fun W => impl_validitem (iat l k) W (HM.out k hlt).n
          clear hc HK HA B1
          generalize iat l k = x at c0 c1 c2 c3 c4 c5 HY HN hv
          unfold itV at hv
          cases f : itB x
          · have HE := Bx.mk (HN.out f)
            simp only [f] at hv
            clear HN HY f
            go_wp2_with (fail)
            refine (hv _).mono ?_
            rintro r w2 ⟨rfl, hb2⟩
            have B2 : Bx (Below w.heap.size w w2) := Bx.mk (Below.trans (by repeat' (first | (with_reducible exact HW.out) | (with_reducible exact Below.refl _ _) | (with_reducible refine Below.alloc ?_ ?_ _) | (with_reducible refine Below.setCell ?_ ?_ _) | exact HW.out.size | go_size)) (hb2.mono (by first | exact HW.out.size | (have := HW.out.size; simp; omega))))
            clear hb2
            go_wp2_with (fail)
            go_ret
            exact ⟨ret_bool HE.out.symm, B2.out⟩
          · have HS := Bx.mk (HY.out f)
            simp only [f] at hv
            clear HN HY f
            go_wp2_with (fail)
            refine (hv _).mono ?_
            rintro r w2 ⟨rfl, hb2⟩
            have B2 : Bx (Below w.heap.size w w2) := Bx.mk (Below.trans (by repeat' (first | (with_reducible exact HW.out) | (with_reducible exact Below.refl _ _) | (with_reducible refine Below.alloc ?_ ?_ _) | (with_reducible refine Below.setCell ?_ ?_ _) | exact HW.out.size | go_size)) (hb2.mono (by first | exact HW.out.size | (have := HW.out.size; simp; omega))))
            clear hb2
            go_wp2_with (fail)
            go_roundw
            case rel => exact ⟨k + 1, by omega, by go_num, HS, B2⟩
            case measure => simp [intOf]; omega
        · obtain rfl : k = l.length := by omega
          have dlt : decide ((l.length : Int) < (l.length : Int)) = false := decide_eq_false (by omega)
          have HE : Bx (okIts l = true) := Bx.mk (HA.out.trans ((allI_iff l).2 HK.out))
          clear HK HA
          go_wp2_with (fail)
          go_ret
          exact ⟨ret_bool HE.out.symm, HW.out⟩
  · have d1 : decide ((l.length : Int) > 12) = true := decide_eq_true (by omega)
    have HE : Bx (okIts l = false) := Bx.mk (okIts_long (by omega))
    clear HO
    go_enter Try.func28, Try.ntmps28
    go_wp2_with (fail)
    go_ret
    exact ⟨ret_bool HE.out.symm, Below.refl _ _⟩
end Go.Proofs.Ytidblpamolimpaa
