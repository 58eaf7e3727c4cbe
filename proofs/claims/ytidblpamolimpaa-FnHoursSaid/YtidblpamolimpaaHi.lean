/- FitsTime and NextStart: the program. -/
import Derived.Test.YtidblpamolimpaaHi0
namespace Go.Proofs.Ytidblpamolimpaa
open Go.ChangeShapes Go.WideShapes Go.ChangeAt Go.RowKit
set_option linter.unusedVariables false
set_option linter.unusedSimpArgs false
set_option maxRecDepth 100000

theorem field_slot (a b c d e f : Value) (fn : Fn) (p q : Array Value) (W : World) : (Instr.field 50 (.agg #[a, b, c, d, e, f, .func fn p q]) 1).run Try.prog W = .ok (.func fn p q) W := by
  kernel_rfl
/-- a window is called -/
theorem win_calls {w : World} {F : Value} {x : It} {s : Int} (h : WinAt w F x s) (hx : OkI x) (t : Int) (ht : 0 ≤ t ∧ t ≤ 1000000000000) :
    (F = .func (.func 37) #[] #[] ∧ Calls Try.prog 37 #[.int .i64 t] w (fun e w' => e = .returned (.bool (fitB x s t)) ∧ ∃ n, w' = w.drewN n)) ∨
    ∃ g h, F = .func (.func 39) #[] #[.pointer (some ⟨g, 0, none⟩), .pointer (some ⟨h, 0, none⟩)] ∧ Calls Try.prog 39 #[.int .i64 t, .pointer (some ⟨g, 0, none⟩), .pointer (some ⟨h, 0, none⟩)] w (fun e w' => e = .returned (.bool (fitB x s t)) ∧ ∃ n, w' = w.drewN n) := by
  rcases h with ⟨e, hs⟩ | ⟨g, h, e, b1, b2, hs⟩
  · refine .inl ⟨e, (impl_win1 t w).mono ?_⟩
    rintro r w1 ⟨rfl, rfl⟩
    exact ⟨by simp [fitB, hs], 0, rfl⟩
  · refine .inr ⟨g, h, e, (impl_win2 t x g h w b1 b2 hx ht).mono ?_⟩
    rintro r w1 ⟨rfl, hn⟩
    exact ⟨by simp [fitB, hs], hn⟩
set_option maxHeartbeats 4000000 in
theorem impl_fitstime (x : It) (mi se : Int) (w : World) (hx : WfI x) :
    Calls Try.prog 7 #[itV x, .int .i64 mi, .int .i64 se] w fun e w' => e = .returned (.bool (fitsE x mi se)) ∧ Below w.heap.size w w' := by
  have q0 := fun W => impl_validitem x W hx.n
  have q1 := fun W => impl_moment mi se W
  have hfs := field_slot
  have P0 := BoxN.at w w.heap.size #[.string x.nm, .int .i64 x.f, .int .i64 x.u, .int .i64 x.s, .int .i64 x.m, .int .i64 x.p] 25 rfl
  have B0 := Bx.mk ((Below.refl w.heap.size w).alloc (Nat.le_refl _) (.cells #[.string x.nm, .int .i64 x.f, .int .i64 x.u, .int .i64 x.s, .int .i64 x.m, .int .i64 x.p] 25))
  generalize hW : w.alloc (.cells #[.string x.nm, .int .i64 x.f, .int .i64 x.u, .int .i64 x.s, .int .i64 x.m, .int .i64 x.p] 25) = W0 at P0 B0
  have P0 := Bx.mk P0
  have pl := P0.out.lt
  have HF : Bx (fitsE x mi se = (itB x && (inB mi 0 1439 && (inB se 0 5 && fitB x se mi)))) := Bx.mk rfl
  unfold itV at *
  cases f0 : itB x
  · simp only [f0] at q0
    have HE : Bx (fitsE x mi se = false) := Bx.mk (HF.out.trans (by simp [f0]))
    have c0 := P0.out.c (k := 0) rfl
    have c1 := P0.out.c (k := 1) rfl
    have c2 := P0.out.c (k := 2) rfl
    have c3 := P0.out.c (k := 3) rfl
    have c4 := P0.out.c (k := 4) rfl
    have c5 := P0.out.c (k := 5) rfl
    go_enter Try.func7, Try.ntmps7
    go_wp2_with (fail)
    try rw [hW]
    try clear hW
    refine (q0 _).mono ?_
    rintro r w1 ⟨rfl, hb⟩
    have B1 := Bx.mk (B0.out.trans (hb.mono B0.out.size))
    have P1 := Bx.mk (P0.out.below hb)
    clear hb B0 P0 c0 c1 c2 c3 c4 c5 pl 
    have c0 := P1.out.c (k := 0) rfl
    have c1 := P1.out.c (k := 1) rfl
    have c2 := P1.out.c (k := 2) rfl
    have c3 := P1.out.c (k := 3) rfl
    have c4 := P1.out.c (k := 4) rfl
    have c5 := P1.out.c (k := 5) rfl
    have pl := P1.out.lt
    go_wp2_with (fail)
    go_ret
    exact ⟨ret_bool HE.out.symm, B1.out⟩
  · simp only [f0] at q0
    cases f1 : (inB mi 0 1439 && inB se 0 5)
    · simp only [f1] at q1
      have HE : Bx (fitsE x mi se = false) := Bx.mk (HF.out.trans (by rw [← Bool.and_assoc (inB mi 0 1439), f1]; simp))
      have c0 := P0.out.c (k := 0) rfl
      have c1 := P0.out.c (k := 1) rfl
      have c2 := P0.out.c (k := 2) rfl
      have c3 := P0.out.c (k := 3) rfl
      have c4 := P0.out.c (k := 4) rfl
      have c5 := P0.out.c (k := 5) rfl
      go_enter Try.func7, Try.ntmps7
      go_wp2_with (fail)
      try rw [hW]
      try clear hW
      refine (q0 _).mono ?_
      rintro r w1 ⟨rfl, hb⟩
      have B1 := Bx.mk (B0.out.trans (hb.mono B0.out.size))
      have P1 := Bx.mk (P0.out.below hb)
      clear hb B0 P0 c0 c1 c2 c3 c4 c5 pl 
      have c0 := P1.out.c (k := 0) rfl
      have c1 := P1.out.c (k := 1) rfl
      have c2 := P1.out.c (k := 2) rfl
      have c3 := P1.out.c (k := 3) rfl
      have c4 := P1.out.c (k := 4) rfl
      have c5 := P1.out.c (k := 5) rfl
      have pl := P1.out.lt
      go_wp2_with (fail)
      refine (q1 _).mono ?_
      rintro r wz ⟨rfl, rfl⟩
      go_wp2_with (fail)
      go_ret
      exact ⟨ret_bool HE.out.symm, B1.out⟩
    · simp only [f1] at q1
      have hb := Bool.and_eq_true_iff.1 f1
      have b1 := inB_yes hb.1
      have b2 := inB_yes hb.2
      have hok := (itB_iff x).1 f0
      have HE : Bx (fitsE x mi se = fitB x se mi) := Bx.mk (HF.out.trans (by simp [f0, hb.1, hb.2]))
      have q2 := fun W => impl_slotof x se W hok
      have hwc := fun F W h => win_calls (w := W) (F := F) (s := se) h hok mi ⟨b1.1, by omega⟩
      unfold itV at q2
      unfold slotV at q2
      clear HF f0 f1 hb b1 b2 hok
      have c0 := P0.out.c (k := 0) rfl
      have c1 := P0.out.c (k := 1) rfl
      have c2 := P0.out.c (k := 2) rfl
      have c3 := P0.out.c (k := 3) rfl
      have c4 := P0.out.c (k := 4) rfl
      have c5 := P0.out.c (k := 5) rfl
      go_enter Try.func7, Try.ntmps7
      go_wp2_with (fail)
      try rw [hW]
      try clear hW
      refine (q0 _).mono ?_
      rintro r w1 ⟨rfl, hb⟩
      have B1 := Bx.mk (B0.out.trans (hb.mono B0.out.size))
      have P1 := Bx.mk (P0.out.below hb)
      clear hb B0 P0 c0 c1 c2 c3 c4 c5 pl q0
      have c0 := P1.out.c (k := 0) rfl
      have c1 := P1.out.c (k := 1) rfl
      have c2 := P1.out.c (k := 2) rfl
      have c3 := P1.out.c (k := 3) rfl
      have c4 := P1.out.c (k := 4) rfl
      have c5 := P1.out.c (k := 5) rfl
      have pl := P1.out.lt
      go_wp2_with (fail)
      refine (q1 _).mono ?_
      rintro r wz ⟨rfl, rfl⟩
      go_wp2_with (fail)
      refine (q2 _).mono ?_
      rintro r w2 ⟨F, rfl, hF, hb⟩
      have B2 := Bx.mk (B1.out.trans (hb.mono B1.out.size))
      have P2 := Bx.mk (P1.out.below hb)
      clear hb B1 P1 c0 c1 c2 c3 c4 c5 pl 
      have c0 := P2.out.c (k := 0) rfl
      have c1 := P2.out.c (k := 1) rfl
      have c2 := P2.out.c (k := 2) rfl
      have c3 := P2.out.c (k := 3) rfl
      have c4 := P2.out.c (k := 4) rfl
      have c5 := P2.out.c (k := 5) rfl
      have pl := P2.out.lt
      rcases hwc _ _ hF with ⟨rfl, hc⟩ | ⟨g, h, rfl, hc⟩
      · go_wp2_with (fail)
        refine hc.mono ?_
        rintro r w3 ⟨rfl, n, rfl⟩
        go_wp2_with (fail)
        go_ret
        exact ⟨ret_bool HE.out.symm, below_draws B2.out _⟩
      · go_wp2_with (fail)
        refine hc.mono ?_
        rintro r w3 ⟨rfl, n, rfl⟩
        go_wp2_with (fail)
        go_ret
        exact ⟨ret_bool HE.out.symm, below_draws B2.out _⟩
set_option maxHeartbeats 4000000 in
theorem impl_nextstart (x : It) (mi se : Int) (w : World) (hx : WfI x) :
    Calls Try.prog 6 #[itV x, .int .i64 mi, .int .i64 se] w fun e w' => e = .returned (.tuple #[.int .i64 (nextE x mi se).1, .int .i64 (nextE x mi se).2]) ∧ Below w.heap.size w w' := by
  have q0 := fun W => impl_validitem x W hx.n
  have q1 := fun W => impl_moment mi se W
  have hfs := field_slot
  have P0 := BoxN.at w w.heap.size #[.string x.nm, .int .i64 x.f, .int .i64 x.u, .int .i64 x.s, .int .i64 x.m, .int .i64 x.p] 25 rfl
  have B0 := Bx.mk ((Below.refl w.heap.size w).alloc (Nat.le_refl _) (.cells #[.string x.nm, .int .i64 x.f, .int .i64 x.u, .int .i64 x.s, .int .i64 x.m, .int .i64 x.p] 25))
  generalize hW : w.alloc (.cells #[.string x.nm, .int .i64 x.f, .int .i64 x.u, .int .i64 x.s, .int .i64 x.m, .int .i64 x.p] 25) = W0 at P0 B0
  have P0 := Bx.mk P0
  have pl := P0.out.lt
  have HF : Bx (nextE x mi se = if itB x = false then (0, 1) else if (inB mi 0 1439 && inB se 0 5) = false then (0, 2) else if seaB x se = false then (0, 3) else if winB x mi = true then (mi, 0) else (x.f, 0)) := Bx.mk rfl
  have q3 := fun W => impl_played x se W
  unfold itV at *
  cases f0 : itB x
  · simp only [f0] at q0
    have HE : Bx (nextE x mi se = (0, 1)) := Bx.mk (HF.out.trans (by simp [f0]))
    have c0 := P0.out.c (k := 0) rfl
    have c1 := P0.out.c (k := 1) rfl
    have c2 := P0.out.c (k := 2) rfl
    have c3 := P0.out.c (k := 3) rfl
    have c4 := P0.out.c (k := 4) rfl
    have c5 := P0.out.c (k := 5) rfl
    go_enter Try.func6, Try.ntmps6
    go_wp2_with (fail)
    try rw [hW]
    try clear hW
    refine (q0 _).mono ?_
    rintro r w1 ⟨rfl, hb⟩
    have B1 := Bx.mk (B0.out.trans (hb.mono B0.out.size))
    have P1 := Bx.mk (P0.out.below hb)
    clear hb B0 P0 c0 c1 c2 c3 c4 c5 pl 
    have c0 := P1.out.c (k := 0) rfl
    have c1 := P1.out.c (k := 1) rfl
    have c2 := P1.out.c (k := 2) rfl
    have c3 := P1.out.c (k := 3) rfl
    have c4 := P1.out.c (k := 4) rfl
    have c5 := P1.out.c (k := 5) rfl
    have pl := P1.out.lt
    go_wp2_with (fail)
    go_ret2
    exact ⟨by rw [HE.out]; rfl, B1.out⟩
  · simp only [f0] at q0
    cases f1 : (inB mi 0 1439 && inB se 0 5)
    · simp only [f1] at q1
      have HE : Bx (nextE x mi se = (0, 2)) := Bx.mk (HF.out.trans (by simp [f0, f1]))
      have c0 := P0.out.c (k := 0) rfl
      have c1 := P0.out.c (k := 1) rfl
      have c2 := P0.out.c (k := 2) rfl
      have c3 := P0.out.c (k := 3) rfl
      have c4 := P0.out.c (k := 4) rfl
      have c5 := P0.out.c (k := 5) rfl
      go_enter Try.func6, Try.ntmps6
      go_wp2_with (fail)
      try rw [hW]
      try clear hW
      refine (q0 _).mono ?_
      rintro r w1 ⟨rfl, hb⟩
      have B1 := Bx.mk (B0.out.trans (hb.mono B0.out.size))
      have P1 := Bx.mk (P0.out.below hb)
      clear hb B0 P0 c0 c1 c2 c3 c4 c5 pl 
      have c0 := P1.out.c (k := 0) rfl
      have c1 := P1.out.c (k := 1) rfl
      have c2 := P1.out.c (k := 2) rfl
      have c3 := P1.out.c (k := 3) rfl
      have c4 := P1.out.c (k := 4) rfl
      have c5 := P1.out.c (k := 5) rfl
      have pl := P1.out.lt
      go_wp2_with (fail)
      refine (q1 _).mono ?_
      rintro r wz ⟨rfl, rfl⟩
      go_wp2_with (fail)
      go_ret2
      exact ⟨by rw [HE.out]; rfl, B1.out⟩
    · simp only [f1] at q1
      have hb := Bool.and_eq_true_iff.1 f1
      have b1 := inB_yes hb.1
      have b2 := inB_yes hb.2
      have hok := (itB_iff x).1 f0
      clear hb
      cases f2 : seaB x se
      · simp only [f2] at q3
        have HE : Bx (nextE x mi se = (0, 3)) := Bx.mk (HF.out.trans (by simp [f0, f1, f2]))
        clear HF f0 f1 f2 hok b1 b2
        have c0 := P0.out.c (k := 0) rfl
        have c1 := P0.out.c (k := 1) rfl
        have c2 := P0.out.c (k := 2) rfl
        have c3 := P0.out.c (k := 3) rfl
        have c4 := P0.out.c (k := 4) rfl
        have c5 := P0.out.c (k := 5) rfl
        go_enter Try.func6, Try.ntmps6
        go_wp2_with (fail)
        try rw [hW]
        try clear hW
        refine (q0 _).mono ?_
        rintro r w1 ⟨rfl, hb⟩
        have B1 := Bx.mk (B0.out.trans (hb.mono B0.out.size))
        have P1 := Bx.mk (P0.out.below hb)
        clear hb B0 P0 c0 c1 c2 c3 c4 c5 pl q0
        have c0 := P1.out.c (k := 0) rfl
        have c1 := P1.out.c (k := 1) rfl
        have c2 := P1.out.c (k := 2) rfl
        have c3 := P1.out.c (k := 3) rfl
        have c4 := P1.out.c (k := 4) rfl
        have c5 := P1.out.c (k := 5) rfl
        have pl := P1.out.lt
        go_wp2_with (fail)
        refine (q1 _).mono ?_
        rintro r wz ⟨rfl, rfl⟩
        go_wp2_with (fail)
        refine (q3 _).mono ?_
        rintro r w2 ⟨rfl, hb⟩
        have B2 := Bx.mk (B1.out.trans (hb.mono B1.out.size))
        have P2 := Bx.mk (P1.out.below hb)
        clear hb B1 P1 c0 c1 c2 c3 c4 c5 pl 
        have c0 := P2.out.c (k := 0) rfl
        have c1 := P2.out.c (k := 1) rfl
        have c2 := P2.out.c (k := 2) rfl
        have c3 := P2.out.c (k := 3) rfl
        have c4 := P2.out.c (k := 4) rfl
        have c5 := P2.out.c (k := 5) rfl
        have pl := P2.out.lt
        go_wp2_with (fail)
        go_ret2
        exact ⟨by rw [HE.out]; rfl, B2.out⟩
      · simp only [f2] at q3
        have q2 := fun W => impl_slotof x se W hok
        have hwc := fun F W h => win_calls (w := W) (F := F) (s := se) h hok mi ⟨b1.1, by omega⟩
        rw [show fitB x se mi = winB x mi by simp [fitB, f2]] at hwc
        unfold itV at q2
        unfold slotV at q2
        cases f3 : winB x mi
        · have HE : Bx (nextE x mi se = (x.f, 0)) := Bx.mk (HF.out.trans (by simp [f0, f1, f2, f3]))
          rw [f3] at hwc
          clear HF f0 f1 f2 f3 hok b1 b2
          have c0 := P0.out.c (k := 0) rfl
          have c1 := P0.out.c (k := 1) rfl
          have c2 := P0.out.c (k := 2) rfl
          have c3 := P0.out.c (k := 3) rfl
          have c4 := P0.out.c (k := 4) rfl
          have c5 := P0.out.c (k := 5) rfl
          go_enter Try.func6, Try.ntmps6
          go_wp2_with (fail)
          try rw [hW]
          try clear hW
          refine (q0 _).mono ?_
          rintro r w1 ⟨rfl, hb⟩
          have B1 := Bx.mk (B0.out.trans (hb.mono B0.out.size))
          have P1 := Bx.mk (P0.out.below hb)
          clear hb B0 P0 c0 c1 c2 c3 c4 c5 pl q0
          have c0 := P1.out.c (k := 0) rfl
          have c1 := P1.out.c (k := 1) rfl
          have c2 := P1.out.c (k := 2) rfl
          have c3 := P1.out.c (k := 3) rfl
          have c4 := P1.out.c (k := 4) rfl
          have c5 := P1.out.c (k := 5) rfl
          have pl := P1.out.lt
          go_wp2_with (fail)
          refine (q1 _).mono ?_
          rintro r wz ⟨rfl, rfl⟩
          go_wp2_with (fail)
          refine (q3 _).mono ?_
          rintro r w2 ⟨rfl, hb⟩
          have B2 := Bx.mk (B1.out.trans (hb.mono B1.out.size))
          have P2 := Bx.mk (P1.out.below hb)
          clear hb B1 P1 c0 c1 c2 c3 c4 c5 pl q3
          have c0 := P2.out.c (k := 0) rfl
          have c1 := P2.out.c (k := 1) rfl
          have c2 := P2.out.c (k := 2) rfl
          have c3 := P2.out.c (k := 3) rfl
          have c4 := P2.out.c (k := 4) rfl
          have c5 := P2.out.c (k := 5) rfl
          have pl := P2.out.lt
          go_wp2_with (fail)
          refine (q2 _).mono ?_
          rintro r w3 ⟨F, rfl, hF, hb⟩
          have B3 := Bx.mk (B2.out.trans (hb.mono B2.out.size))
          have P3 := Bx.mk (P2.out.below hb)
          clear hb B2 P2 c0 c1 c2 c3 c4 c5 pl 
          have c0 := P3.out.c (k := 0) rfl
          have c1 := P3.out.c (k := 1) rfl
          have c2 := P3.out.c (k := 2) rfl
          have c3 := P3.out.c (k := 3) rfl
          have c4 := P3.out.c (k := 4) rfl
          have c5 := P3.out.c (k := 5) rfl
          have pl := P3.out.lt
          rcases hwc _ _ hF with ⟨rfl, hc⟩ | ⟨g, h, rfl, hc⟩
          · clear hF
            go_wp2_with (fail)
            refine hc.mono ?_
            rintro r w4 ⟨rfl, n, rfl⟩
            go_wp2_with (fail)
            go_ret2
            exact ⟨by rw [HE.out]; rfl, below_draws B3.out _⟩
          · clear hF
            go_wp2_with (fail)
            refine hc.mono ?_
            rintro r w4 ⟨rfl, n, rfl⟩
            go_wp2_with (fail)
            go_ret2
            exact ⟨by rw [HE.out]; rfl, below_draws B3.out _⟩
        · have HE : Bx (nextE x mi se = (mi, 0)) := Bx.mk (HF.out.trans (by simp [f0, f1, f2, f3]))
          rw [f3] at hwc
          clear HF f0 f1 f2 f3 hok b1 b2
          have c0 := P0.out.c (k := 0) rfl
          have c1 := P0.out.c (k := 1) rfl
          have c2 := P0.out.c (k := 2) rfl
          have c3 := P0.out.c (k := 3) rfl
          have c4 := P0.out.c (k := 4) rfl
          have c5 := P0.out.c (k := 5) rfl
          go_enter Try.func6, Try.ntmps6
          go_wp2_with (fail)
          try rw [hW]
          try clear hW
          refine (q0 _).mono ?_
          rintro r w1 ⟨rfl, hb⟩
          have B1 := Bx.mk (B0.out.trans (hb.mono B0.out.size))
          have P1 := Bx.mk (P0.out.below hb)
          clear hb B0 P0 c0 c1 c2 c3 c4 c5 pl q0
          have c0 := P1.out.c (k := 0) rfl
          have c1 := P1.out.c (k := 1) rfl
          have c2 := P1.out.c (k := 2) rfl
          have c3 := P1.out.c (k := 3) rfl
          have c4 := P1.out.c (k := 4) rfl
          have c5 := P1.out.c (k := 5) rfl
          have pl := P1.out.lt
          go_wp2_with (fail)
          refine (q1 _).mono ?_
          rintro r wz ⟨rfl, rfl⟩
          go_wp2_with (fail)
          refine (q3 _).mono ?_
          rintro r w2 ⟨rfl, hb⟩
          have B2 := Bx.mk (B1.out.trans (hb.mono B1.out.size))
          have P2 := Bx.mk (P1.out.below hb)
          clear hb B1 P1 c0 c1 c2 c3 c4 c5 pl q3
          have c0 := P2.out.c (k := 0) rfl
          have c1 := P2.out.c (k := 1) rfl
          have c2 := P2.out.c (k := 2) rfl
          have c3 := P2.out.c (k := 3) rfl
          have c4 := P2.out.c (k := 4) rfl
          have c5 := P2.out.c (k := 5) rfl
          have pl := P2.out.lt
          go_wp2_with (fail)
          refine (q2 _).mono ?_
          rintro r w3 ⟨F, rfl, hF, hb⟩
          have B3 := Bx.mk (B2.out.trans (hb.mono B2.out.size))
          have P3 := Bx.mk (P2.out.below hb)
          clear hb B2 P2 c0 c1 c2 c3 c4 c5 pl 
          have c0 := P3.out.c (k := 0) rfl
          have c1 := P3.out.c (k := 1) rfl
          have c2 := P3.out.c (k := 2) rfl
          have c3 := P3.out.c (k := 3) rfl
          have c4 := P3.out.c (k := 4) rfl
          have c5 := P3.out.c (k := 5) rfl
          have pl := P3.out.lt
          rcases hwc _ _ hF with ⟨rfl, hc⟩ | ⟨g, h, rfl, hc⟩
          · clear hF
            go_wp2_with (fail)
            refine hc.mono ?_
            rintro r w4 ⟨rfl, n, rfl⟩
            go_wp2_with (fail)
            go_ret2
            exact ⟨by rw [HE.out]; rfl, below_draws B3.out _⟩
          · clear hF
            go_wp2_with (fail)
            refine hc.mono ?_
            rintro r w4 ⟨rfl, n, rfl⟩
            go_wp2_with (fail)
            go_ret2
            exact ⟨by rw [HE.out]; rfl, below_draws B3.out _⟩
end Go.Proofs.Ytidblpamolimpaa
