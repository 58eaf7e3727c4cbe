/- EndOf, WorthOf, IsProgramme: the model's own. -/
import Derived.Test.YtmbillcdlcgjiaaHj2
namespace Go.Proofs.Ytmbillcdlcgjiaa
open Go.ChangeShapes Go.WideShapes Go.ChangeAt Go.RowKit
set_option linter.unusedVariables false
set_option linter.unusedSimpArgs false
set_option maxRecDepth 100000

set_option maxHeartbeats 4000000 in
theorem spec_worthof (va v : Value) (l : List It) (zs : List Int) (w : World) (h0 : ItsAt w va l) (h : IntC w v zs) (hm : SmI l) (hz : zs.length ≤ 1048576) :
    Calls Try.prog 50 #[va, v] w fun e w' => e = .returned (.tuple #[.int .i64 (worthE l zs).1, .int .i64 (worthE l zs).2]) ∧ Below w.heap.size w w' := by
  obtain ⟨A, c, rfl⟩ := its_len h0
  obtain ⟨B, cb, rfl, h, hcap⟩ := h
  have HT := Bx.mk h0
  have HI := Bx.mk h
  have HIC : Bx (IntC w (.slice B zs.length cb) zs) := Bx.mk ⟨B, cb, rfl, h, hcap⟩
  have q0 := fun m => spec_okits (.slice A l.length c) l (w.drewN m) (h0.draws m) hm
  have q3 := fun m => spec_order A l.length c (.slice B zs.length cb) zs (w.drewN m) HIC.out hm.n hz
  clear h h0
  have HF : Bx (worthE l zs = if okIts l = false then (0, 1) else if ordB l.length zs = false then (0, 7) else (worthS l zs, 0)) := Bx.mk rfl
  cases f0 : okIts l
  · simp only [f0] at q0
    have HE : Bx (worthE l zs = (0, 1)) := Bx.mk (HF.out.trans (by simp [f0]))
    go_enter Try.func50, Try.ntmps50
    go_wp2_with (fail)
    refine (q0 0).mono ?_
    rintro r w1 ⟨rfl, n, rfl⟩
    go_wp2_with (fail)
    go_ret2
    exact ⟨by rw [HE.out]; rfl, by first | exact below_draws (Below.refl _ _) _ | exact Below.refl _ _ | exact below_draws (below_draws (Below.refl _ _) _) _⟩
  · simp only [f0] at q0
    cases f1 : ordB l.length zs
    · simp only [f1] at q3
      have HE : Bx (worthE l zs = (0, 7)) := Bx.mk (HF.out.trans (by simp [f0, f1]))
      go_enter Try.func50, Try.ntmps50
      go_wp2_with (fail)
      refine (q0 0).mono ?_
      rintro r w1 ⟨rfl, n, rfl⟩
      go_wp2_with (fail)
      refine (q3 _).mono ?_
      rintro r w1 ⟨rfl, n2, rfl⟩
      go_wp2_with (fail)
      go_ret2
      exact ⟨by rw [HE.out]; rfl, by first | exact below_draws (Below.refl _ _) _ | exact Below.refl _ _ | exact below_draws (below_draws (Below.refl _ _) _) _⟩
    · simp only [f1] at q3
      have HE : Bx (worthE l zs = (worthS l zs, 0)) := Bx.mk (HF.out.trans (by simp [f0, f1]))
      have q4 := fun m => spec_worth (.slice A l.length c) (.slice B zs.length cb) l zs (w.drewN m) (HT.out.draws m) HI.out f0 f1 hz
      go_enter Try.func50, Try.ntmps50
      go_wp2_with (fail)
      refine (q0 0).mono ?_
      rintro r w1 ⟨rfl, n, rfl⟩
      go_wp2_with (fail)
      refine (q3 _).mono ?_
      rintro r w1 ⟨rfl, n2, rfl⟩
      go_wp2_with (fail)
      refine (q4 _).mono ?_
      rintro r w1 ⟨rfl, rfl⟩
      go_wp2_with (fail)
      go_ret2
      exact ⟨by rw [HE.out]; rfl, by first | exact below_draws (Below.refl _ _) _ | exact Below.refl _ _ | exact below_draws (below_draws (Below.refl _ _) _) _⟩
set_option maxHeartbeats 4000000 in
theorem spec_endof (va v : Value) (l : List It) (zs : List Int) (mi se : Int) (w : World) (h0 : ItsAt w va l) (h : IntC w v zs) (hm : SmI l) (hz : zs.length ≤ 1048576) :
    Calls Try.prog 46 #[va, v, .int .i64 mi, .int .i64 se] w fun e w' => e = .returned (.tuple #[.int .i64 (endE l zs mi se).1, .int .i64 (endE l zs mi se).2]) ∧ Below w.heap.size w w' := by
  obtain ⟨A, c, rfl⟩ := its_len h0
  obtain ⟨B, cb, rfl, h, hcap⟩ := h
  have HT := Bx.mk h0
  have HI := Bx.mk h
  have HIC : Bx (IntC w (.slice B zs.length cb) zs) := Bx.mk ⟨B, cb, rfl, h, hcap⟩
  have q0 := fun m => spec_okits (.slice A l.length c) l (w.drewN m) (h0.draws m) hm
  have q3 := fun m => spec_order A l.length c (.slice B zs.length cb) zs (w.drewN m) HIC.out hm.n hz
  clear h h0
  have q1 := fun W => spec_min mi W
  have q2 := fun W => spec_sea se W
  have HF : Bx (endE l zs mi se = if okIts l = false then (0, 1) else if (inB mi 0 1439 && inB se 0 5) = false then (0, 2) else if ordB l.length zs = false then (0, 7) else endC (endW l se zs mi)) := Bx.mk rfl
  cases f0 : okIts l
  · simp only [f0] at q0
    have HE : Bx (endE l zs mi se = (0, 1)) := Bx.mk (HF.out.trans (by simp [f0]))
    go_enter Try.func46, Try.ntmps46
    go_wp2_with (fail)
    refine (q0 0).mono ?_
    rintro r w1 ⟨rfl, n, rfl⟩
    go_wp2_with (fail)
    go_ret2
    exact ⟨by rw [HE.out]; rfl, by first | exact below_draws (Below.refl _ _) _ | exact Below.refl _ _ | exact below_draws (below_draws (Below.refl _ _) _) _⟩
  · simp only [f0] at q0
    cases f1 : inB mi 0 1439
    · simp only [f1] at q1
      have HE : Bx (endE l zs mi se = (0, 2)) := Bx.mk (HF.out.trans (by simp [f0, f1]))
      go_enter Try.func46, Try.ntmps46
      go_wp2_with (fail)
      refine (q0 0).mono ?_
      rintro r w1 ⟨rfl, n, rfl⟩
      go_wp2_with (fail)
      refine (q1 _).mono ?_
      rintro r w1 ⟨rfl, rfl⟩
      go_wp2_with (fail)
      go_ret2
      exact ⟨by rw [HE.out]; rfl, by first | exact below_draws (Below.refl _ _) _ | exact Below.refl _ _ | exact below_draws (below_draws (Below.refl _ _) _) _⟩
    · simp only [f1] at q1
      cases f2 : inB se 0 5
      · simp only [f2] at q2
        have HE : Bx (endE l zs mi se = (0, 2)) := Bx.mk (HF.out.trans (by simp [f0, f1, f2]))
        go_enter Try.func46, Try.ntmps46
        go_wp2_with (fail)
        refine (q0 0).mono ?_
        rintro r w1 ⟨rfl, n, rfl⟩
        go_wp2_with (fail)
        refine (q1 _).mono ?_
        rintro r w1 ⟨rfl, rfl⟩
        go_wp2_with (fail)
        refine (q2 _).mono ?_
        rintro r w1 ⟨rfl, rfl⟩
        go_wp2_with (fail)
        go_ret2
        exact ⟨by rw [HE.out]; rfl, by first | exact below_draws (Below.refl _ _) _ | exact Below.refl _ _ | exact below_draws (below_draws (Below.refl _ _) _) _⟩
      · simp only [f2] at q2
        cases f3 : ordB l.length zs
        · simp only [f3] at q3
          have HE : Bx (endE l zs mi se = (0, 7)) := Bx.mk (HF.out.trans (by simp [f0, f1, f2, f3]))
          go_enter Try.func46, Try.ntmps46
          go_wp2_with (fail)
          refine (q0 0).mono ?_
          rintro r w1 ⟨rfl, n, rfl⟩
          go_wp2_with (fail)
          refine (q1 _).mono ?_
          rintro r w1 ⟨rfl, rfl⟩
          go_wp2_with (fail)
          refine (q2 _).mono ?_
          rintro r w1 ⟨rfl, rfl⟩
          go_wp2_with (fail)
          refine (q3 _).mono ?_
          rintro r w1 ⟨rfl, n2, rfl⟩
          go_wp2_with (fail)
          go_ret2
          exact ⟨by rw [HE.out]; rfl, by first | exact below_draws (Below.refl _ _) _ | exact Below.refl _ _ | exact below_draws (below_draws (Below.refl _ _) _) _⟩
        · simp only [f3] at q3
          have q4 := fun m => spec_end (.slice A l.length c) (.slice B zs.length cb) l zs mi se (w.drewN m) (HT.out.draws m) HI.out f0 f3 hz (inB_yes f1) (inB_yes f2).1
          have HG : Bx (endE l zs mi se = endC (endW l se zs mi)) := Bx.mk (HF.out.trans (by simp [f0, f1, f2, f3]))
          generalize endW l se zs mi = u at q4 HG
          clear HF f0 f1 f2 f3
          cases u with
          | none =>
            have HE : Bx (endE l zs mi se = (0, 6)) := Bx.mk HG.out
            go_enter Try.func46, Try.ntmps46
            go_wp2_with (fail)
            refine (q0 0).mono ?_
            rintro r w1 ⟨rfl, n, rfl⟩
            go_wp2_with (fail)
            refine (q1 _).mono ?_
            rintro r w1 ⟨rfl, rfl⟩
            go_wp2_with (fail)
            refine (q2 _).mono ?_
            rintro r w1 ⟨rfl, rfl⟩
            go_wp2_with (fail)
            refine (q3 _).mono ?_
            rintro r w1 ⟨rfl, n2, rfl⟩
            go_wp2_with (fail)
            simp only [Option.getD_none, Option.getD_some, Option.isSome_none, Option.isSome_some] at q4
            refine (q4 _).mono ?_
            rintro r w1 ⟨rfl, n3, rfl⟩
            go_wp2_with (fail)
            go_ret2
            exact ⟨by rw [HE.out]; rfl, by first | exact below_draws (Below.refl _ _) _ | exact Below.refl _ _ | exact below_draws (below_draws (Below.refl _ _) _) _⟩
          | some t =>
            have HE : Bx (endE l zs mi se = (t, 0)) := Bx.mk HG.out
            go_enter Try.func46, Try.ntmps46
            go_wp2_with (fail)
            refine (q0 0).mono ?_
            rintro r w1 ⟨rfl, n, rfl⟩
            go_wp2_with (fail)
            refine (q1 _).mono ?_
            rintro r w1 ⟨rfl, rfl⟩
            go_wp2_with (fail)
            refine (q2 _).mono ?_
            rintro r w1 ⟨rfl, rfl⟩
            go_wp2_with (fail)
            refine (q3 _).mono ?_
            rintro r w1 ⟨rfl, n2, rfl⟩
            go_wp2_with (fail)
            simp only [Option.getD_none, Option.getD_some, Option.isSome_none, Option.isSome_some] at q4
            refine (q4 _).mono ?_
            rintro r w1 ⟨rfl, n3, rfl⟩
            go_wp2_with (fail)
            go_ret2
            exact ⟨by rw [HE.out]; rfl, by first | exact below_draws (Below.refl _ _) _ | exact Below.refl _ _ | exact below_draws (below_draws (Below.refl _ _) _) _⟩
theorem spec_until (mi un : Int) (w : World) (hmi : 0 ≤ mi ∧ mi ≤ 1439) : Calls Try.prog 97 #[.int .i64 mi, .int .i64 un] w fun e w' => e = .returned (.bool (inB un mi (mi + 1440))) ∧ w = w' := by
  have h1 : IntKind.i64.wrap (mi + 1440) = mi + 1440 := IntWalk.i64_in _ (by omega)
  go_enter Try.func97, Try.ntmps97
  go_wp2_with (fail)
  try rw [h1]
  refine (in_any _ _ _ _).mono ?_
  rintro r w1 ⟨rfl, rfl⟩
  go_wp2_with (fail)
  go_ret
  exact ⟨rfl, rfl⟩
set_option maxHeartbeats 4000000 in
theorem spec_isprog (va v : Value) (l : List It) (zs : List Int) (mi un se : Int) (w : World) (h0 : ItsAt w va l) (h : IntC w v zs) (hm : SmI l) (hz : zs.length ≤ 1048576) :
    Calls Try.prog 48 #[va, v, .int .i64 mi, .int .i64 un, .int .i64 se] w fun e w' => e = .returned (.bool (progE l zs mi un se)) ∧ Below w.heap.size w w' := by
  obtain ⟨A, c, rfl⟩ := its_len h0
  obtain ⟨B, cb, rfl, h, hcap⟩ := h
  have HT := Bx.mk h0
  have HI := Bx.mk h
  have HIC : Bx (IntC w (.slice B zs.length cb) zs) := Bx.mk ⟨B, cb, rfl, h, hcap⟩
  have q0 := fun m => spec_okits (.slice A l.length c) l (w.drewN m) (h0.draws m) hm
  have q3 := fun m => spec_order A l.length c (.slice B zs.length cb) zs (w.drewN m) HIC.out hm.n hz
  clear h h0
  have q1 := fun W => spec_min mi W
  have q2 := fun W => spec_sea se W
  have HF : Bx (progE l zs mi un se = (okIts l && (inB mi 0 1439 && inB se 0 5) && inB un mi (mi + 1440) && ordB l.length zs && prgC un (endW l se zs mi))) := Bx.mk rfl
  cases f0 : okIts l
  · simp only [f0] at q0
    have HE : Bx (progE l zs mi un se = false) := Bx.mk (HF.out.trans (by simp [f0]))
    go_enter Try.func48, Try.ntmps48
    go_wp2_with (fail)
    refine (q0 0).mono ?_
    rintro r w1 ⟨rfl, n, rfl⟩
    go_wp2_with (fail)
    go_ret
    exact ⟨ret_bool HE.out.symm, by first | exact below_draws (Below.refl _ _) _ | exact Below.refl _ _ | exact below_draws (below_draws (Below.refl _ _) _) _⟩
  · simp only [f0] at q0
    cases f1 : inB mi 0 1439
    · simp only [f1] at q1
      have HE : Bx (progE l zs mi un se = false) := Bx.mk (HF.out.trans (by simp [f1]))
      go_enter Try.func48, Try.ntmps48
      go_wp2_with (fail)
      refine (q0 0).mono ?_
      rintro r w1 ⟨rfl, n, rfl⟩
      go_wp2_with (fail)
      refine (q1 _).mono ?_
      rintro r w1 ⟨rfl, rfl⟩
      go_wp2_with (fail)
      go_ret
      exact ⟨ret_bool HE.out.symm, by first | exact below_draws (Below.refl _ _) _ | exact Below.refl _ _ | exact below_draws (below_draws (Below.refl _ _) _) _⟩
    · simp only [f1] at q1
      have qu := fun W => spec_until mi un W (inB_yes f1)
      cases f2 : inB se 0 5
      · simp only [f2] at q2
        have HE : Bx (progE l zs mi un se = false) := Bx.mk (HF.out.trans (by simp [f2]))
        go_enter Try.func48, Try.ntmps48
        go_wp2_with (fail)
        refine (q0 0).mono ?_
        rintro r w1 ⟨rfl, n, rfl⟩
        go_wp2_with (fail)
        refine (q1 _).mono ?_
        rintro r w1 ⟨rfl, rfl⟩
        go_wp2_with (fail)
        refine (q2 _).mono ?_
        rintro r w1 ⟨rfl, rfl⟩
        go_wp2_with (fail)
        go_ret
        exact ⟨ret_bool HE.out.symm, by first | exact below_draws (Below.refl _ _) _ | exact Below.refl _ _ | exact below_draws (below_draws (Below.refl _ _) _) _⟩
      · simp only [f2] at q2
        cases f4 : inB un mi (mi + 1440)
        · simp only [f4] at qu
          have HE : Bx (progE l zs mi un se = false) := Bx.mk (HF.out.trans (by simp [f4]))
          go_enter Try.func48, Try.ntmps48
          go_wp2_with (fail)
          refine (q0 0).mono ?_
          rintro r w1 ⟨rfl, n, rfl⟩
          go_wp2_with (fail)
          refine (q1 _).mono ?_
          rintro r w1 ⟨rfl, rfl⟩
          go_wp2_with (fail)
          refine (q2 _).mono ?_
          rintro r w1 ⟨rfl, rfl⟩
          go_wp2_with (fail)
          refine (qu _).mono ?_
          rintro r w1 ⟨rfl, rfl⟩
          go_wp2_with (fail)
          go_ret
          exact ⟨ret_bool HE.out.symm, by first | exact below_draws (Below.refl _ _) _ | exact Below.refl _ _ | exact below_draws (below_draws (Below.refl _ _) _) _⟩
        · simp only [f4] at qu
          cases f3 : ordB l.length zs
          · simp only [f3] at q3
            have HE : Bx (progE l zs mi un se = false) := Bx.mk (HF.out.trans (by simp [f3]))
            go_enter Try.func48, Try.ntmps48
            go_wp2_with (fail)
            refine (q0 0).mono ?_
            rintro r w1 ⟨rfl, n, rfl⟩
            go_wp2_with (fail)
            refine (q1 _).mono ?_
            rintro r w1 ⟨rfl, rfl⟩
            go_wp2_with (fail)
            refine (q2 _).mono ?_
            rintro r w1 ⟨rfl, rfl⟩
            go_wp2_with (fail)
            refine (qu _).mono ?_
            rintro r w1 ⟨rfl, rfl⟩
            go_wp2_with (fail)
            refine (q3 _).mono ?_
            rintro r w1 ⟨rfl, n2, rfl⟩
            go_wp2_with (fail)
            go_ret
            exact ⟨ret_bool HE.out.symm, by first | exact below_draws (Below.refl _ _) _ | exact Below.refl _ _ | exact below_draws (below_draws (Below.refl _ _) _) _⟩
          · simp only [f3] at q3
            have q4 := fun m => spec_end (.slice A l.length c) (.slice B zs.length cb) l zs mi se (w.drewN m) (HT.out.draws m) HI.out f0 f3 hz (inB_yes f1) (inB_yes f2).1
            have HG : Bx (progE l zs mi un se = prgC un (endW l se zs mi)) := Bx.mk (HF.out.trans (by simp [f0, f1, f2, f3, f4]))
            generalize endW l se zs mi = u at q4 HG
            clear HF f0 f1 f2 f3 f4
            cases u with
            | none =>
              have HE : Bx (progE l zs mi un se = false) := Bx.mk HG.out
              go_enter Try.func48, Try.ntmps48
              go_wp2_with (fail)
              refine (q0 0).mono ?_
              rintro r w1 ⟨rfl, n, rfl⟩
              go_wp2_with (fail)
              refine (q1 _).mono ?_
              rintro r w1 ⟨rfl, rfl⟩
              go_wp2_with (fail)
              refine (q2 _).mono ?_
              rintro r w1 ⟨rfl, rfl⟩
              go_wp2_with (fail)
              refine (qu _).mono ?_
              rintro r w1 ⟨rfl, rfl⟩
              go_wp2_with (fail)
              refine (q3 _).mono ?_
              rintro r w1 ⟨rfl, n2, rfl⟩
              go_wp2_with (fail)
              simp only [Option.getD_none, Option.getD_some, Option.isSome_none, Option.isSome_some] at q4
              refine (q4 _).mono ?_
              rintro r w1 ⟨rfl, n3, rfl⟩
              go_wp2_with (fail)
              go_ret
              exact ⟨ret_bool HE.out.symm, by first | exact below_draws (Below.refl _ _) _ | exact Below.refl _ _ | exact below_draws (below_draws (Below.refl _ _) _) _⟩
            | some t =>
              have HE : Bx (progE l zs mi un se = decide (t ≤ un)) := Bx.mk HG.out
              go_enter Try.func48, Try.ntmps48
              go_wp2_with (fail)
              refine (q0 0).mono ?_
              rintro r w1 ⟨rfl, n, rfl⟩
              go_wp2_with (fail)
              refine (q1 _).mono ?_
              rintro r w1 ⟨rfl, rfl⟩
              go_wp2_with (fail)
              refine (q2 _).mono ?_
              rintro r w1 ⟨rfl, rfl⟩
              go_wp2_with (fail)
              refine (qu _).mono ?_
              rintro r w1 ⟨rfl, rfl⟩
              go_wp2_with (fail)
              refine (q3 _).mono ?_
              rintro r w1 ⟨rfl, n2, rfl⟩
              go_wp2_with (fail)
              simp only [Option.getD_none, Option.getD_some, Option.isSome_none, Option.isSome_some] at q4
              refine (q4 _).mono ?_
              rintro r w1 ⟨rfl, n3, rfl⟩
              go_wp2_with (fail)
              go_ret
              exact ⟨ret_bool HE.out.symm, by first | exact below_draws (Below.refl _ _) _ | exact Below.refl _ _ | exact below_draws (below_draws (Below.refl _ _) _) _⟩
end Go.Proofs.Ytmbillcdlcgjiaa
