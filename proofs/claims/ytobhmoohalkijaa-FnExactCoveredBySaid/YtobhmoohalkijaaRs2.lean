/- The model: l05Ok and ValidRaga. -/
import Derived.Test.YtobhmoohalkijaaRs
namespace Go.Proofs.Ytobhmoohalkijaa
open Go.ChangeShapes Go.WideShapes Go.ChangeAt Go.RowKit
set_option linter.unusedVariables false
set_option linter.unusedSimpArgs false
set_option maxRecDepth 100000

theorem q_below {P : Program} {f : FuncId} {args : Array Value} {w : World} {v : Value} (h : Calls P f args w fun e w' => e = .returned v ∧ ∃ n, w' = w.drewN n) : Calls P f args w fun e w' => e = .returned v ∧ Below w.heap.size w w' :=
  h.mono fun _ _ ⟨he, hw⟩ => ⟨he, quietB hw⟩
set_option maxHeartbeats 4000000 in
theorem spec_ok5 (g : Nat) (R : Rg) (w : World) (h : PtrAt w g R) (hm : Sm R) :
    Calls Try.prog 48 #[.pointer (some ⟨g, 0, none⟩)] w fun e w' => e = .returned (.bool (okG R)) ∧ ∃ n, w' = w.drewN n := by
  obtain ⟨A, a, B, b, C, c, hx, i1, i2, i3⟩ := ptr_form h
  have h0 := hx.c (k := 0) rfl
  have h1 := hx.c (k := 1) rfl
  have h2 := hx.c (k := 2) rfl
  have h3 := hx.c (k := 3) rfl
  have h4 := hx.c (k := 4) rfl
  have h5 := hx.c (k := 5) rfl
  have hl := hx.lt
  have q0 := fun m => spec_name R.s (w.drewN m) (Nat.le_trans hm.s (by decide))
  have q1 := fun m => spec_scale _ R.u (w.drewN m) i1 (Nat.le_trans hm.u (by decide))
  have q2 := fun m => spec_scale _ R.d (w.drewN m) i2 (Nat.le_trans hm.d (by decide))
  have q3 := fun m => spec_tone5 g R R.x (w.drewN m) h hm
  have q4 := fun m => spec_tone5 g R R.y (w.drewN m) h hm
  have q5 := fun m => spec_pairs _ R.f (w.drewN m) i3 hm.f hm.g
  have HO : Bx (okG R = (nmB R.s.data.toList && (scaleB R.u && (scaleB R.d && (hasT R R.x && (hasT R R.y && (decide (R.x ≠ R.y) && pairsB R.f))))))) := Bx.mk rfl
  clear h hx i1 i2 i3 hm
  generalize nmB R.s.data.toList = b0 at q0 HO
  generalize scaleB R.u = b1 at q1 HO
  generalize scaleB R.d = b2 at q2 HO
  generalize hasT R R.x = b3 at q3 HO
  generalize hasT R R.y = b4 at q4 HO
  generalize pairsB R.f = b5 at q5 HO
  cases b0
  · have HE : Bx (okG R = false) := Bx.mk (by rw [HO.out]; simp)
    clear HO
    go_enter Try.func48, Try.ntmps48
    go_wp2_with (fail)
    go_quiet (first | (go_at_call 78; with_reducible exact quiet_eq (q0 _)) | (go_at_call 79; with_reducible exact quiet_dr (q1 _)) | (go_at_call 79; with_reducible exact quiet_dr (q2 _)) | (go_at_call 80; with_reducible exact quiet_eq (q3 _)) | (go_at_call 80; with_reducible exact quiet_eq (q4 _)) | (go_at_call 81; with_reducible exact quiet_dr (q5 _)))
    go_wp2_with (fail)
    go_ret
    exact ⟨ret_bool HE.out.symm, _, rfl⟩
  · skip
    cases b1
    · have HE : Bx (okG R = false) := Bx.mk (by rw [HO.out]; simp)
      clear HO
      go_enter Try.func48, Try.ntmps48
      go_wp2_with (fail)
      go_quiet (first | (go_at_call 78; with_reducible exact quiet_eq (q0 _)) | (go_at_call 79; with_reducible exact quiet_dr (q1 _)) | (go_at_call 79; with_reducible exact quiet_dr (q2 _)) | (go_at_call 80; with_reducible exact quiet_eq (q3 _)) | (go_at_call 80; with_reducible exact quiet_eq (q4 _)) | (go_at_call 81; with_reducible exact quiet_dr (q5 _)))
      go_wp2_with (fail)
      go_ret
      exact ⟨ret_bool HE.out.symm, _, rfl⟩
    · skip
      cases b2
      · have HE : Bx (okG R = false) := Bx.mk (by rw [HO.out]; simp)
        clear HO
        go_enter Try.func48, Try.ntmps48
        go_wp2_with (fail)
        go_quiet (first | (go_at_call 78; with_reducible exact quiet_eq (q0 _)) | (go_at_call 79; with_reducible exact quiet_dr (q1 _)) | (go_at_call 79; with_reducible exact quiet_dr (q2 _)) | (go_at_call 80; with_reducible exact quiet_eq (q3 _)) | (go_at_call 80; with_reducible exact quiet_eq (q4 _)) | (go_at_call 81; with_reducible exact quiet_dr (q5 _)))
        go_wp2_with (fail)
        go_ret
        exact ⟨ret_bool HE.out.symm, _, rfl⟩
      · skip
        cases b3
        · have HE : Bx (okG R = false) := Bx.mk (by rw [HO.out]; simp)
          clear HO
          go_enter Try.func48, Try.ntmps48
          go_wp2_with (fail)
          go_quiet (first | (go_at_call 78; with_reducible exact quiet_eq (q0 _)) | (go_at_call 79; with_reducible exact quiet_dr (q1 _)) | (go_at_call 79; with_reducible exact quiet_dr (q2 _)) | (go_at_call 80; with_reducible exact quiet_eq (q3 _)) | (go_at_call 80; with_reducible exact quiet_eq (q4 _)) | (go_at_call 81; with_reducible exact quiet_dr (q5 _)))
          go_wp2_with (fail)
          go_ret
          exact ⟨ret_bool HE.out.symm, _, rfl⟩
        · skip
          cases b4
          · have HE : Bx (okG R = false) := Bx.mk (by rw [HO.out]; simp)
            clear HO
            go_enter Try.func48, Try.ntmps48
            go_wp2_with (fail)
            go_quiet (first | (go_at_call 78; with_reducible exact quiet_eq (q0 _)) | (go_at_call 79; with_reducible exact quiet_dr (q1 _)) | (go_at_call 79; with_reducible exact quiet_dr (q2 _)) | (go_at_call 80; with_reducible exact quiet_eq (q3 _)) | (go_at_call 80; with_reducible exact quiet_eq (q4 _)) | (go_at_call 81; with_reducible exact quiet_dr (q5 _)))
            go_wp2_with (fail)
            go_ret
            exact ⟨ret_bool HE.out.symm, _, rfl⟩
          · skip
            by_cases hxy : R.x = R.y
            · have e0 : (R.x != R.y) = false := by simpa using hxy
              have HE : Bx (okG R = false) := Bx.mk (by rw [HO.out]; simp [hxy])
              clear HO hxy
              go_enter Try.func48, Try.ntmps48
              go_wp2_with (fail)
              go_quiet (first | (go_at_call 78; with_reducible exact quiet_eq (q0 _)) | (go_at_call 79; with_reducible exact quiet_dr (q1 _)) | (go_at_call 79; with_reducible exact quiet_dr (q2 _)) | (go_at_call 80; with_reducible exact quiet_eq (q3 _)) | (go_at_call 80; with_reducible exact quiet_eq (q4 _)) | (go_at_call 81; with_reducible exact quiet_dr (q5 _)))
              go_wp2_with (fail)
              go_ret
              exact ⟨ret_bool HE.out.symm, _, rfl⟩
            · have e0 : (R.x != R.y) = true := by simpa using hxy
              have HE : Bx (okG R = b5) := Bx.mk (by rw [HO.out]; simp [hxy])
              clear HO hxy
              go_enter Try.func48, Try.ntmps48
              go_wp2_with (fail)
              go_quiet (first | (go_at_call 78; with_reducible exact quiet_eq (q0 _)) | (go_at_call 79; with_reducible exact quiet_dr (q1 _)) | (go_at_call 79; with_reducible exact quiet_dr (q2 _)) | (go_at_call 80; with_reducible exact quiet_eq (q3 _)) | (go_at_call 80; with_reducible exact quiet_eq (q4 _)) | (go_at_call 81; with_reducible exact quiet_dr (q5 _)))
              go_wp2_with (fail)
              go_ret
              exact ⟨ret_bool HE.out.symm, _, rfl⟩
end Go.Proofs.Ytobhmoohalkijaa
