/- CutMelody: the program, where nothing is cut. -/
import Derived.Test.YtendfnimhmnioaaDoorNy
import Derived.Test.YtendfnimhmnioaaDoorEr6
import Derived.Test.YtendfnimhmnioaaDoorNi3
import Derived.Test.YtendfnimhmnioaaDoorNi8
import Derived.Deep.RegionHeld3
namespace Go.Proofs.YtendfnimhmnioaaDoor
open Go.ChangeShapes Go.WideShapes Go.ChangeAt Go.RowKit Go.Shelf
set_option linter.unusedVariables false
set_option linter.unusedSimpArgs false
set_option maxRecDepth 100000
attribute [local go_sem] Oper.semAt_some

/-- the boxes of CutMelody: the two times -/
structure CuI (g : Nat) (f u : Int) (W : World) : Prop where
  f : BoxN W g #[.int .i64 f] 2
  u : BoxN W (g + 1) #[.int .i64 u] 2
theorem CuI.below {g : Nat} {f u : Int} {W W' : World} (h : CuI g f u W) (hb : Below W.heap.size W W') : CuI g f u W' := ⟨h.f.below hb, h.u.below hb⟩
theorem CuI.kept {w0 g : Nat} {f u : Int} {X Y : World} {row : Option Nat} (h : CuI g f u X) (hg : X.grownBy Y row) (hr : ∀ r, row = some r → w0 ≤ r ∧ ∃ o : Obj, X.heap[r]? = some o ∧ o.isCells = false) : CuI g f u Y :=
  ⟨boxn_keptN h.f hg hr, boxn_keptN h.u hg hr⟩
theorem CuI.start (w : World) (f u : Int) : CuI w.heap.size f u ((w.alloc (.cells #[.int .i64 f] 2)).alloc (.cells #[.int .i64 u] 2)) :=
  ⟨(BoxN.at w w.heap.size #[.int .i64 f] 2 rfl).alloc _, BoxN.at (w.alloc (.cells #[.int .i64 f] 2)) (w.heap.size + 1) #[.int .i64 u] 2 (by simp)⟩
theorem keepC {w W W' : World} {g : Nat} {f u : Int} (h : W.cell? ⟨g, 0, none⟩ = some (.int .i64 f) ∧ W.cell? ⟨g + 1, 0, none⟩ = some (.int .i64 u) ∧ g < W.heap.size ∧ g + 1 < W.heap.size ∧ Below w.heap.size w W ∧ CuI g f u W) (hb : Below W.heap.size W W') :
    W'.cell? ⟨g, 0, none⟩ = some (.int .i64 f) ∧ W'.cell? ⟨g + 1, 0, none⟩ = some (.int .i64 u) ∧ g < W'.heap.size ∧ g + 1 < W'.heap.size ∧ Below w.heap.size w W' ∧ CuI g f u W' := by
  obtain ⟨h1, h2, h3, h4, h7, h8⟩ := h
  have hs := hb.size
  exact ⟨(hb.cell (p := ⟨g, 0, none⟩) h3).trans h1, (hb.cell (p := ⟨g + 1, 0, none⟩) h4).trans h2, by omega, by omega, h7.trans (hb.mono h7.size), h8.below hb⟩
set_option maxHeartbeats 4000000 in
theorem impl_cut_bad (v : Value) (l : List (Int × Int)) (f u : Int) (w : World) (h : PrsAt w v l) (hm : l.length ≤ 1048576) (hok : okM l = false) :
    Calls Tryd.prog 25 #[v, .int .i64 f, .int .i64 u] w (NtOut [] (.int .i64 1) w) := by
  have hq := fun W h => impl_validmelody v l W h hm
  rw [hok] at hq
  have h' := h
  obtain ⟨A, c, rfl⟩ := prs_len h'
  have P0 := CuI.start w f u
  have B0 : Below w.heap.size w ((w.alloc (.cells #[.int .i64 f] 2)).alloc (.cells #[.int .i64 u] 2)) := ((Below.refl _ _).alloc (Nat.le_refl _) _).alloc (by simp) _
  generalize hW : (w.alloc (.cells #[.int .i64 f] 2)).alloc (.cells #[.int .i64 u] 2) = W0 at P0 B0
  have HI := Bx.mk (h.below B0)
  have P0 := Bx.mk P0
  have B0 := Bx.mk B0
  clear h hm h' hok
  go_enter Tryd.func25, Tryd.ntmps25
  go_wp2_with (fail)
  try rw [hW]
  try clear hW
  refine (hq _ HI.out).mono ?_
  rintro r w1 ⟨rfl, hb1⟩
  have B1 := Bx.mk (B0.out.trans (hb1.mono B0.out.size))
  clear hb1 hq HI P0 B0
  go_wp2_with (fail)
  go_ret2
  exact ⟨_, rfl, World.ownsRow_nil _ _ _ _, B1.out⟩
set_option maxHeartbeats 4000000 in
theorem impl_cut_low (v : Value) (l : List (Int × Int)) (f u : Int) (w : World) (h : PrsAt w v l) (hm : l.length ≤ 1048576) (hok : okM l = true) (hf : f < 0) :
    Calls Tryd.prog 25 #[v, .int .i64 f, .int .i64 u] w (NtOut [] (.int .i64 2) w) := by
  have hq := fun W h => impl_validmelody v l W h hm
  rw [hok] at hq
  have h' := h
  obtain ⟨A, c, rfl⟩ := prs_len h'
  have P0 := CuI.start w f u
  have B0 : Below w.heap.size w ((w.alloc (.cells #[.int .i64 f] 2)).alloc (.cells #[.int .i64 u] 2)) := ((Below.refl _ _).alloc (Nat.le_refl _) _).alloc (by simp) _
  generalize hW : (w.alloc (.cells #[.int .i64 f] 2)).alloc (.cells #[.int .i64 u] 2) = W0 at P0 B0
  have HI := Bx.mk (h.below B0)
  have P0 := Bx.mk P0
  have B0 := Bx.mk B0
  have d1 : decide (f < 0) = true := decide_eq_true hf
  clear h hm h' hok
  go_enter Tryd.func25, Tryd.ntmps25
  go_wp2_with (fail)
  try rw [hW]
  try clear hW
  refine (hq _ HI.out).mono ?_
  rintro r w1 ⟨rfl, hb1⟩
  have B1 := Bx.mk (B0.out.trans (hb1.mono B0.out.size))
  have P1 := Bx.mk (P0.out.below hb1)
  clear hb1 hq HI P0 B0
  have y0 := P1.out.f.c (k := 0) rfl
  have y1 := P1.out.u.c (k := 0) rfl
  have l0 := P1.out.f.lt
  have l1 := P1.out.u.lt
  go_wp2_with (fail)
  go_quiet (fail)
  go_wp2_with (fail)
  go_ret2
  exact ⟨_, rfl, World.ownsRow_nil _ _ _ _, below_draws B1.out _⟩
set_option maxHeartbeats 4000000 in
theorem impl_cut_turn (v : Value) (l : List (Int × Int)) (f u : Int) (w : World) (h : PrsAt w v l) (hm : l.length ≤ 1048576) (hok : okM l = true) (hf : ¬ f < 0) (hu : u < f) :
    Calls Tryd.prog 25 #[v, .int .i64 f, .int .i64 u] w (NtOut [] (.int .i64 2) w) := by
  have hq := fun W h => impl_validmelody v l W h hm
  rw [hok] at hq
  have h' := h
  obtain ⟨A, c, rfl⟩ := prs_len h'
  have P0 := CuI.start w f u
  have B0 : Below w.heap.size w ((w.alloc (.cells #[.int .i64 f] 2)).alloc (.cells #[.int .i64 u] 2)) := ((Below.refl _ _).alloc (Nat.le_refl _) _).alloc (by simp) _
  generalize hW : (w.alloc (.cells #[.int .i64 f] 2)).alloc (.cells #[.int .i64 u] 2) = W0 at P0 B0
  have HI := Bx.mk (h.below B0)
  have P0 := Bx.mk P0
  have B0 := Bx.mk B0
  have d1 : decide (f < 0) = false := decide_eq_false hf
  have d2 : decide (u < f) = true := decide_eq_true hu
  clear h hm h' hok
  go_enter Tryd.func25, Tryd.ntmps25
  go_wp2_with (fail)
  try rw [hW]
  try clear hW
  refine (hq _ HI.out).mono ?_
  rintro r w1 ⟨rfl, hb1⟩
  have B1 := Bx.mk (B0.out.trans (hb1.mono B0.out.size))
  have P1 := Bx.mk (P0.out.below hb1)
  clear hb1 hq HI P0 B0
  have y0 := P1.out.f.c (k := 0) rfl
  have y1 := P1.out.u.c (k := 0) rfl
  have l0 := P1.out.f.lt
  have l1 := P1.out.u.lt
  go_wp2_with (fail)
  go_quiet (fail)
  go_wp2_with (fail)
  go_ret2
  exact ⟨_, rfl, World.ownsRow_nil _ _ _ _, below_draws B1.out _⟩
set_option maxHeartbeats 4000000 in
theorem impl_cut_long (v : Value) (l : List (Int × Int)) (f u : Int) (w : World) (h : PrsAt w v l) (hm : l.length ≤ 1048576) (hok : okM l = true) (hf : ¬ f < 0) (hu : ¬ u < f) (hd : durL l < u) :
    Calls Tryd.prog 25 #[v, .int .i64 f, .int .i64 u] w (NtOut [] (.int .i64 2) w) := by
  have hq := fun W h => impl_validmelody v l W h hm
  have hdq := fun W hW => impl_dur v l W hW hok
  rw [hok] at hq
  have h' := h
  obtain ⟨A, c, rfl⟩ := prs_len h'
  have P0 := CuI.start w f u
  have B0 : Below w.heap.size w ((w.alloc (.cells #[.int .i64 f] 2)).alloc (.cells #[.int .i64 u] 2)) := ((Below.refl _ _).alloc (Nat.le_refl _) _).alloc (by simp) _
  generalize hW : (w.alloc (.cells #[.int .i64 f] 2)).alloc (.cells #[.int .i64 u] 2) = W0 at P0 B0
  have HI := Bx.mk (h.below B0)
  have hdq : ∀ W, Below w.heap.size w W → Calls Tryd.prog 53 #[.slice A l.length c] W fun e w' => e = .returned (.int .i64 (durL l)) ∧ Below W.heap.size W w' := fun W hB => hdq W (h.below hB)
  have P0 := Bx.mk P0
  have B0 := Bx.mk B0
  have d1 : decide (f < 0) = false := decide_eq_false hf
  have d2 : decide (u < f) = false := decide_eq_false hu
  have d3 : decide (durL l < u) = true := decide_eq_true hd
  clear h hm h' hok
  generalize durL l = d at *
  go_enter Tryd.func25, Tryd.ntmps25
  go_wp2_with (fail)
  try rw [hW]
  try clear hW
  refine (hq _ HI.out).mono ?_
  rintro r w1 ⟨rfl, hb1⟩
  have B1 := Bx.mk (B0.out.trans (hb1.mono B0.out.size))
  have P1 := Bx.mk (P0.out.below hb1)
  clear hb1 hq HI P0 B0
  have HS0 : Bx (w1.cell? ⟨w.heap.size, 0, none⟩ = some (.int .i64 f) ∧ w1.cell? ⟨w.heap.size + 1, 0, none⟩ = some (.int .i64 u) ∧ w.heap.size < w1.heap.size ∧ w.heap.size + 1 < w1.heap.size ∧ Below w.heap.size w w1 ∧ CuI w.heap.size f u w1) := Bx.mk ⟨P1.out.f.c (k := 0) rfl, P1.out.u.c (k := 0) rfl, P1.out.f.lt, P1.out.u.lt, B1.out, P1.out⟩
  go_wp2_with (fail)
  go_region_held3 (fun W => W.cell? ⟨w.heap.size, 0, none⟩ = some (.int .i64 f) ∧ W.cell? ⟨w.heap.size + 1, 0, none⟩ = some (.int .i64 u) ∧ w.heap.size < W.heap.size ∧ w.heap.size + 1 < W.heap.size ∧ Below w.heap.size w W ∧ CuI w.heap.size f u W)
    (first | (with_reducible exact keepC (by assumption) hb4) | (with_reducible exact keepC (by assumption) (Below.refl _ _).drew) | exact keepC HS0.out (Below.refl _ _).drew)
    ((go_at_call 53; (with_reducible refine (hdq _ (by assumption : _ ∧ _ ∧ _ ∧ _ ∧ _ ∧ _).2.2.2.2.1).mono ?_); rintro r w4 ⟨rfl, hb4⟩; have hS0 := keepC (w := w) (by assumption) hb4))
  have HB1 : Bx (Below w.heap.size w _) := Bx.mk (by assumption : _ ∧ _ ∧ _ ∧ _ ∧ _ ∧ _).2.2.2.2.1
  go_wp2_with (fail)
  go_ret2
  exact ⟨_, rfl, World.ownsRow_nil _ _ _ _, HB1.out⟩
end Go.Proofs.YtendfnimhmnioaaDoor
