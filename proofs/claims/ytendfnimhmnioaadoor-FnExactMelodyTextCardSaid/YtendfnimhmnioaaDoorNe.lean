/- Valid melodies: the model. -/
import Derived.Test.YtendfnimhmnioaaDoorNd
namespace Go.Proofs.YtendfnimhmnioaaDoor
open Go.ChangeShapes Go.WideShapes Go.ChangeAt Go.RowKit
set_option linter.unusedVariables false
set_option linter.unusedSimpArgs false
set_option maxRecDepth 100000

theorem prs_form {w : World} {A : Option Addr} {c n : Nat} {l : List (Int × Int)} (h : PrsAt w (.slice A n c) l) (h0 : 0 < l.length) : ∃ b o, A = some ⟨b, o, none⟩ ∧ b < w.heap.size ∧ ∀ k, k < l.length → w.cell? ⟨b, o + k * 2, none⟩ = some (.int .i64 (pat l k).1) ∧ w.cell? ⟨b, o + k * 2 + 1, none⟩ = some (.int .i64 (pat l k).2) := by
  rcases h with ⟨rfl, _⟩ | ⟨b, o, c', e, hb, hx⟩
  · simp at h0
  · injection e with e1 e2 e3
    exact ⟨b, o, e1, hb, hx⟩
theorem spec_nlen (n : Int) (w : World) : Calls Tryd.prog 44 #[.int .i64 n] w fun e w' => e = .returned (.bool (inB n 1 64)) ∧ w = w' := by
  have hin := fun W => in_any n 1 64 W
  generalize inB n 1 64 = b at hin ⊢
  go_enter Tryd.func44, Tryd.ntmps44
  go_wp2_with (fail)
  refine (hin _).mono ?_
  rintro e w' ⟨rfl, rfl⟩
  go_wp2_with (fail)
  go_ret
  exact ⟨rfl, rfl⟩
set_option maxHeartbeats 2000000 in
theorem spec_okm (v : Value) (l : List (Int × Int)) (w : World) (h : PrsAt w v l) (hm : l.length ≤ 1048576) :
    Calls Tryd.prog 32 #[v] w fun e w' => e = .returned (.bool (okM l)) ∧ w = w' := by
  obtain ⟨A, c, rfl⟩ := prs_len h
  have HI := Bx.mk h
  clear h
  go_enter Tryd.func32, Tryd.ntmps32
  go_wp2_with (fail)
  go_loopw [3] (fun i wr => ∃ k : Nat, k ≤ l.length ∧ i = .int .i64 k ∧ Bx (∀ i, i < k → okN (pat l i) = true) ∧ wr = w) (fun i _ => l.length - (intOf i).toNat)
  case atStart => exact ⟨0, Nat.zero_le _, rfl, Bx.mk (fun i hi => absurd hi (Nat.not_lt_zero _)), rfl⟩
  case round =>
    obtain ⟨k, hk, rfl, HK, rfl⟩ := hrel
    by_cases hlt : k < l.length
    · obtain ⟨b, o, rfl, hb, hc⟩ := prs_form HI.out (by omega)
      obtain ⟨h1, h2⟩ := hc k hlt
      have k1 : (0 : Int) ≤ (k : Int) := by omega
      have k2 : (k : Int) < (l.length : Int) := by omega
      have HN := Bx.mk (okM_no (l := l) k hlt)
      have HS := Bx.mk (fun h : okN (pat l k) = true => (fun i (hi : i < k + 1) => by
        by_cases hik : i = k
        · subst hik; exact h
        · exact HK.out i (by omega) : ∀ i, i < k + 1 → okN (pat l i) = true))
      clear hc HK HI
      generalize pat l k = p at *
      obtain ⟨p1, p2⟩ := p
      dsimp only at h1 h2
      have hp := fun W => spec_pitch p1 W
      have hq := fun W => spec_nlen p2 W
      cases hb1 : inB p1 (-12) 23
      · have HE : Bx (okM l = false) := Bx.mk (HN.out (by simp [okN, hb1]))
        rw [hb1] at hp
        clear HN HS hb1
        go_wp2_with (fail)
        refine (hp _).mono ?_
        rintro r w1 ⟨rfl, rfl⟩
        go_wp2_with (fail)
        go_ret
        exact ⟨ret_bool HE.out.symm, rfl⟩
      · cases hb2 : inB p2 1 64
        · have HE : Bx (okM l = false) := Bx.mk (HN.out (by simp [okN, hb2]))
          rw [hb1] at hp
          rw [hb2] at hq
          clear HN HS hb1 hb2
          go_wp2_with (fail)
          refine (hp _).mono ?_
          rintro r w1 ⟨rfl, rfl⟩
          go_wp2_with (fail)
          refine (hq _).mono ?_
          rintro r w1 ⟨rfl, rfl⟩
          go_wp2_with (fail)
          go_ret
          exact ⟨ret_bool HE.out.symm, rfl⟩
        · have HS2 := Bx.mk (HS.out (by simp [okN, hb1, hb2]))
          rw [hb1] at hp
          rw [hb2] at hq
          clear HN HS hb1 hb2
          go_wp2_with (fail)
          refine (hp _).mono ?_
          rintro r w1 ⟨rfl, rfl⟩
          go_wp2_with (fail)
          refine (hq _).mono ?_
          rintro r w1 ⟨rfl, rfl⟩
          go_wp2_with (fail)
          go_roundw
          case rel => exact ⟨k + 1, by omega, by go_num, HS2, by first | rfl | trivial⟩
          case measure => simp [intOf]; omega
    · obtain rfl : k = l.length := by omega
      have HE : Bx (okM l = decide (l.length ≤ 48)) := Bx.mk (okM_all HK.out)
      go_wp2_with (fail)
      go_ret
      exact ⟨ret_bool (by rw [HE.out, decide_eq_decide]; omega), rfl⟩
end Go.Proofs.YtendfnimhmnioaaDoor
