/- The writer of melodies: what it holds, and how a reason is kept. -/
import Derived.Test.YtendfnimhmnioaaDoorEr3
import Derived.Test.YtendfnimhmnioaaDoorNs
import Derived.Deep.RegionLaw
import Derived.Deep.AppendLies
namespace Go.Proofs.YtendfnimhmnioaaDoor
open Go.ChangeShapes Go.WideShapes Go.ChangeAt Go.RowKit
set_option linter.unusedVariables false
set_option linter.unusedSimpArgs false
set_option maxRecDepth 100000

/-- a writer: what was written, the reasons -/
structure WrAt (W : World) (g base : Nat) (l : List (Int × Int)) (q : Option Addr) : Prop where
  ex : ∃ sl r, BoxN W g #[sl, r] 55 ∧ W.ownsRow base 45 2 sl l.length (pcl l) ∧ RsAt W r q
theorem WrAt.below {W W' : World} {g base : Nat} {l : List (Int × Int)} {q : Option Addr} (h : WrAt W g base l q) (hb : Below W.heap.size W W') : WrAt W' g base l q := by
  obtain ⟨sl, r, h1, h2, h3⟩ := h.ex
  exact ⟨sl, r, h1.below hb, own_below h2 hb, h3.below hb⟩
theorem WrAt.lt {W : World} {g base : Nat} {l : List (Int × Int)} {q : Option Addr} (h : WrAt W g base l q) : g < W.heap.size := by
  obtain ⟨sl, r, h1, h2, h3⟩ := h.ex
  exact h1.lt
theorem WrAt.start (w : World) : WrAt (w.alloc (.cells #[.slice none 0 0, .nilIface] 55)) w.heap.size (w.heap.size + 1) [] none :=
  ⟨.slice none 0 0, .nilIface, BoxN.at _ _ _ _ rfl, World.ownsRow_nil _ _ _ _, rfl⟩
/-- a step of the writer's: what it keeps -/
structure Stp (g base : Nat) (w w' : World) : Prop where
  kp : ∀ n₀, n₀ ≤ g → n₀ ≤ base → KpX n₀ (some g) w w'
  ko : KeepsOthers w w'
theorem Stp.trans {g base : Nat} {a b c : World} (h : Stp g base a b) (k : Stp g base b c) : Stp g base a c := ⟨fun n h1 h2 => kpX_t (h.kp n h1 h2) (k.kp n h1 h2), h.ko.trans k.ko⟩
theorem Stp.of_below {g base : Nat} {w w' : World} (hg : g < w.heap.size) (h : Below w.heap.size w w') : Stp g base w w' := by
  have hx : ∀ k, XB (some g) w' k ↔ XB (some g) w k := fun k => xb_same (fun j hj => by injection hj with hj; subst hj; exact h.block g hg)
  refine ⟨fun n h1 h2 => ⟨h.mono (by omega), fun k o ho _ _ => (h.block k (Array.getElem?_eq_some_iff.1 ho).1).trans ho, fun k hk => .inl ((hx k).1 hk), fun hh k hk => Nat.lt_of_lt_of_le (hh k ((hx k).1 hk)) h.size⟩, ⟨h.size, fun k o ho hk => ?_⟩⟩
  exact (h.block k (Array.getElem?_eq_some_iff.1 ho).1).trans ho
theorem Stp.set1 {g base : Nat} {w : World} (v : Value) : Stp g base w (w.setCell ⟨g, 1, none⟩ v) := by
  have hx : ∀ k, XB (some g) (w.setCell ⟨g, 1, none⟩ v) k ↔ XB (some g) w k := fun k => by
    unfold XB
    dsimp only
    rw [World.cell?_setCell_other _ ⟨g, 1, none⟩ ⟨g, 0, none⟩ v (by intro e; injection e with e1 e2; cases e2)]
  refine ⟨fun n h1 h2 => ⟨(Below.refl _ _).setCell (p := ⟨g, 1, none⟩) h1 v, fun k o ho _ hk => ?_, fun k hk => .inl ((hx k).1 hk), fun hh k hk => by have := hh k ((hx k).1 hk); simpa [World.setCell] using this⟩, KeepsOthers.setCell _ _ _⟩
  rw [Below.heap_setCell _ _ _ _ (by show k ≠ g; rintro rfl; exact hk (.inl rfl))]
  exact ho
theorem jn_set {W : World} {g o : Nat} {xs : Array Value} (h : BoxN W g xs 55) {v : Value} {q : Option Addr} (hr : RsAt W v q) (u : Value) : RsAt (W.setCell ⟨g, o, none⟩ u) v q := by
  cases q with
  | none => exact hr
  | some x =>
    obtain ⟨j, e, k, c, cs, h1, h2, h3⟩ := hr
    refine ⟨j, e, k, c, cs, h1.other ?_ u, h2.other ?_ u, h3⟩
    · rintro rfl
      unfold BoxN at h h1
      rw [h] at h1
      injection h1 with h1
      injection h1 with _ h2
      exact absurd h2 (by decide)
    · rintro rfl
      unfold BoxN at h h2
      rw [h] at h2
      injection h2 with h1
      injection h1 with _ h2
      exact absurd h2 (by decide)
theorem own_setE {w : World} {base e size n g : Nat} {v : Value} {xs : List Value} {ys : Array Value} {t : TypeId} (h : w.ownsRow base e size v n xs) (hb : BoxN w g ys t) (hne : t ≠ e) (o : Nat) (u : Value) : (w.setCell ⟨g, o, none⟩ u).ownsRow base e size v n xs := by
  have hn := box_ne_rowE h hb hne
  refine ⟨h.1, ?_⟩
  rcases h.2 with h2 | ⟨j, cap, cur, hv, hj, hc, r⟩
  · exact .inl h2
  · exact .inr ⟨j, cap, cur, hv, hj, by rw [Below.heap_setCell _ _ _ _ (by show j ≠ g; rintro rfl; exact hn (by rw [hv]; rfl))]; exact hc, r⟩
set_option maxHeartbeats 2000000 in
theorem impl_fail (g base : Nat) (l : List (Int × Int)) (q : Option Addr) (x : Addr) (w : World) (h : WrAt w g base l q) (hq : q = none ∨ q = some x) :
    Calls Tryd.prog 46 #[.pointer (some ⟨g, 0, none⟩), erV x] w fun e w' => (∃ v, e = .returned v) ∧ WrAt w' g base l (some x) ∧ Stp g base w w' := by
  obtain ⟨sl, r, h1, h2, h3⟩ := h.ex
  have hi := std_is r q x w h3 (fun y hy hne => by rcases hq with rfl | rfl <;> simp_all)
  have HW := Bx.mk h
  have y1 := h1.c (k := 1) rfl
  have yf := h1.fr 1
  have yl := h1.lt
  rcases hq with rfl | rfl
  · have hr : r = .nilIface := h3
    subst hr
    rw [show hasR none x = false from rfl] at hi
    have hB : Below w.heap.size w (w.alloc (.cells #[.nilIface, erV x] 53)) := (Below.refl _ _).alloc (Nat.le_refl _) _
    have hE := BoxN.at w w.heap.size #[.nilIface, erV x] 53 rfl
    have hj := std_join w.heap.size 2 x (w.alloc (.cells #[.nilIface, erV x] 53)) (hE.c (k := 0) rfl) (hE.c (k := 1) rfl)
    have H1 := Bx.mk h1
    have H2 := Bx.mk h2
    have HB := Bx.mk hB
    clear h h1 h2 h3 hB hE
    unfold erV at *
    go_enter Tryd.func46, Tryd.ntmps46
    go_wp2_with (fail)
    refine hi.mono ?_
    rintro e w1 ⟨rfl, rfl⟩
    go_wp2_with (fail)
    refine hj.mono ?_
    rintro e w2 ⟨j, rfl, hjn, hb2⟩
    have B2 := Bx.mk (HB.out.trans (hb2.mono HB.out.size))
    have X2 := Bx.mk (H1.out.below B2.out)
    have O2 := Bx.mk (own_below H2.out B2.out)
    have J2 := Bx.mk hjn
    clear hb2 hjn y1 yf yl hj hi
    have y1 := X2.out.c (k := 1) rfl
    have yf := X2.out.fr 1
    have yl := X2.out.lt
    unfold jnV
    go_wp2_with (fail)
    go_end0
    refine ⟨⟨_, rfl⟩, ⟨sl, jnV j, X2.out.put 1 _, own_setE O2.out X2.out (by decide) _ _, jn_set (q := some x) X2.out ⟨j, rfl, J2.out⟩ _⟩, (Stp.of_below H1.out.lt B2.out).trans (Stp.set1 _)⟩
  · rw [show hasR (some x) x = true by simp [hasR]] at hi
    obtain ⟨j, rfl, hjj⟩ := h3
    clear h h1 h2
    unfold erV jnV at *
    go_enter Tryd.func46, Tryd.ntmps46
    go_wp2_with (fail)
    refine hi.mono ?_
    rintro e w1 ⟨rfl, rfl⟩
    go_wp2_with (fail)
    go_end0
    exact ⟨⟨_, rfl⟩, HW.out, Stp.of_below HW.out.lt (Below.refl _ _)⟩
end Go.Proofs.YtendfnimhmnioaaDoor
