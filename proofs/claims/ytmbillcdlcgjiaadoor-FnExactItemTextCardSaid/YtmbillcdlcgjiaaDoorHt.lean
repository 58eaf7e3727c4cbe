/- ItemText: both sides. -/
import Derived.Test.YtmbillcdlcgjiaaDoorHe
import Derived.Test.YtmbillcdlcgjiaaDoorHv
import Derived.Test.YtmbillcdlcgjiaaDoorListText
import Derived.Test.YtmbillcdlcgjiaaDoorLt
import Derived.Deep.RegionHeld3
namespace Go.Proofs.YtmbillcdlcgjiaaDoor
open Go.ChangeShapes Go.WideShapes Go.ChangeAt Go.RowKit
set_option linter.unusedVariables false
set_option linter.unusedSimpArgs false
set_option maxRecDepth 100000

theorem keepW {w W W' : World} {b q : Nat} {x : It} (h : W.cell? ⟨b, q, none⟩ = some (.string x.nm) ∧ W.cell? ⟨b, q + 1, none⟩ = some (.int .i64 x.f) ∧ W.cell? ⟨b, q + 2, none⟩ = some (.int .i64 x.u) ∧ W.cell? ⟨b, q + 3, none⟩ = some (.int .i64 x.s) ∧ W.cell? ⟨b, q + 4, none⟩ = some (.int .i64 x.m) ∧ W.cell? ⟨b, q + 5, none⟩ = some (.int .i64 x.p) ∧ b < W.heap.size ∧ Below w.heap.size w W) (hb : Below W.heap.size W W') :
    W'.cell? ⟨b, q, none⟩ = some (.string x.nm) ∧ W'.cell? ⟨b, q + 1, none⟩ = some (.int .i64 x.f) ∧ W'.cell? ⟨b, q + 2, none⟩ = some (.int .i64 x.u) ∧ W'.cell? ⟨b, q + 3, none⟩ = some (.int .i64 x.s) ∧ W'.cell? ⟨b, q + 4, none⟩ = some (.int .i64 x.m) ∧ W'.cell? ⟨b, q + 5, none⟩ = some (.int .i64 x.p) ∧ b < W'.heap.size ∧ Below w.heap.size w W' := by
  obtain ⟨h0, h1, h2, h3, h4, h5, l1, l2⟩ := h
  have hs := hb.size
  exact ⟨(hb.cell (p := ⟨b, q, none⟩) l1).trans h0, (hb.cell (p := ⟨b, q + 1, none⟩) l1).trans h1, (hb.cell (p := ⟨b, q + 2, none⟩) l1).trans h2, (hb.cell (p := ⟨b, q + 3, none⟩) l1).trans h3, (hb.cell (p := ⟨b, q + 4, none⟩) l1).trans h4, (hb.cell (p := ⟨b, q + 5, none⟩) l1).trans h5, by omega, l2.trans (hb.mono l2.size)⟩
theorem belW {w W : World} {b q : Nat} {x : It} (h : W.cell? ⟨b, q, none⟩ = some (.string x.nm) ∧ W.cell? ⟨b, q + 1, none⟩ = some (.int .i64 x.f) ∧ W.cell? ⟨b, q + 2, none⟩ = some (.int .i64 x.u) ∧ W.cell? ⟨b, q + 3, none⟩ = some (.int .i64 x.s) ∧ W.cell? ⟨b, q + 4, none⟩ = some (.int .i64 x.m) ∧ W.cell? ⟨b, q + 5, none⟩ = some (.int .i64 x.p) ∧ b < W.heap.size ∧ Below w.heap.size w W) : Below w.heap.size w W := h.2.2.2.2.2.2.2
def numI (x : It) : List Int := [x.f, x.u, x.s, x.m, x.p]
/-- the text of an item -/
def itT (x : It) : ByteArray := (x.nm ++ ⟨#[32]⟩) ++ ⟨(textE (numI x)).toArray⟩
def textI (x : It) : ByteArray := if itB x = true then itT x else ⟨#[]⟩
theorem fitI {x : It} (h : OkI x) : fitL (numI x) = true := by
  obtain ⟨_, hf, hu, _, hs, hm, hp⟩ := h
  unfold fitL numI
  rw [Bool.and_eq_true, decide_eq_true_eq, List.all_eq_true]
  refine ⟨fun z hz => ?_, by simp⟩
  simp only [List.mem_cons, List.not_mem_nil, or_false] at hz
  rcases hz with rfl | rfl | rfl | rfl | rfl <;> exact inB_mk (by omega)
theorem row5 {W : World} {g : Nat} {a b c d e : Int} {t : TypeId} (P : BoxN W g #[.int .i64 a, .int .i64 b, .int .i64 c, .int .i64 d, .int .i64 e] t) : IntsAt W (.slice (some ⟨g, 0, none⟩) 5 5) [a, b, c, d, e] :=
  .inr ⟨g, 0, 5, rfl, P.lt, fun k hk => by
    rcases k with _ | _ | _ | _ | _ | k
    · exact P.c (k := 0) rfl
    · exact P.c (k := 1) rfl
    · exact P.c (k := 2) rfl
    · exact P.c (k := 3) rfl
    · exact P.c (k := 4) rfl
    · simp at hk; omega⟩
theorem c6dw {w : World} {b o : Nat} {x : It} (h : C6 w b o x) (n : Nat) : C6 (w.drewN n) b o x := ⟨h.c0, h.c1, h.c2, h.c3, h.c4, h.c5⟩
theorem box_dr {w : World} {g : Nat} {xs : Array Value} {t : TypeId} (h : BoxN w g xs t) : BoxN w.drew g xs t := h
theorem nm_len {x : It} (h : OkI x) : x.nm.size ≤ 10 := by
  rcases Nat.lt_or_ge 10 x.nm.size with h1 | h1
  · have := nm_long x.nm h1
    rw [h.n] at this; cases this
  · exact h1
set_option maxHeartbeats 4000000 in
theorem spec_l08text (b o : Nat) (x : It) (w : World) (h : C6 w b o x) (hl : b < w.heap.size) (hx : OkI x) :
    Calls Tryd.prog 13 #[.pointer (some ⟨b, o, none⟩)] w fun e w' => e = .returned (.string (itT x)) ∧ Below w.heap.size w w' := by
  obtain ⟨c0, c1, c2, c3, c4, c5⟩ := h
  have hn := nm_len hx
  have q1 := fun g W P => spec_list (.slice (some ⟨g, 0, none⟩) 5 5) (numI x) W (row5 (W := W) (g := g) (t := 2) P) (by simp [numI]) (Bx.mk (fit_all _ (fitI hx)).2)
  have l1 := fit_textlen (fitI hx)
  have HT : Bx (itT x = (x.nm ++ ⟨#[32]⟩) ++ ⟨(textE (numI x)).toArray⟩) := Bx.mk rfl
  generalize textE (numI x) = T1 at *
  have E1 : (9223372036854775807 < x.nm.size + 1) = False := eq_false (by omega)
  have E2 : (9223372036854775807 < x.nm.size + 1 + T1.length) = False := eq_false (by omega)
  have SS0 : Bx (w.cell? ⟨b, o, none⟩ = some (.string x.nm) ∧ w.cell? ⟨b, o + 1, none⟩ = some (.int .i64 x.f) ∧ w.cell? ⟨b, o + 2, none⟩ = some (.int .i64 x.u) ∧ w.cell? ⟨b, o + 3, none⟩ = some (.int .i64 x.s) ∧ w.cell? ⟨b, o + 4, none⟩ = some (.int .i64 x.m) ∧ w.cell? ⟨b, o + 5, none⟩ = some (.int .i64 x.p) ∧ b < w.heap.size ∧ Below w.heap.size w w) := Bx.mk ⟨c0, c1, c2, c3, c4, c5, hl, Below.refl _ _⟩
  clear hx
  go_enter Tryd.func13, Tryd.ntmps13
  go_wp2_with (fail)
  go_region_held3 (fun W => W.cell? ⟨b, o, none⟩ = some (.string x.nm) ∧ W.cell? ⟨b, o + 1, none⟩ = some (.int .i64 x.f) ∧ W.cell? ⟨b, o + 2, none⟩ = some (.int .i64 x.u) ∧ W.cell? ⟨b, o + 3, none⟩ = some (.int .i64 x.s) ∧ W.cell? ⟨b, o + 4, none⟩ = some (.int .i64 x.m) ∧ W.cell? ⟨b, o + 5, none⟩ = some (.int .i64 x.p) ∧ b < W.heap.size ∧ Below w.heap.size w W)
    (first | (with_reducible assumption) | (with_reducible exact keepW (by assumption) hb4) | (with_reducible exact keepW (by assumption) (Below.refl _ _)) | (with_reducible exact keepW (by assumption) (Below.refl _ _).drew) | exact keepW SS0.out (Below.refl _ _).drew | exact keepW (by assumption) ((Below.refl _ _).alloc (Nat.le_refl _) _))
    ((go_at_call 22; (with_reducible refine (q1 _ _ ?_).mono ?_); (first | exact BoxN.at _ _ #[.int .i64 x.f, .int .i64 x.u, .int .i64 x.s, .int .i64 x.m, .int .i64 x.p] _ rfl | exact box_dr (BoxN.at _ _ _ _ rfl)); rintro r w4 ⟨rfl, hb4⟩; have hS0 := keepW (w := w) (by assumption) hb4))
  all_goals
    have HBF := Bx.mk (belW (by assumption))
    go_wp2_with (fail)
    go_ret
    exact ⟨by rw [HT.out]; rfl, HBF.out⟩
theorem spec_itemtext (x : It) (w : World) (hs : x.nm.size ≤ maxLen) : Calls Tryd.prog 6 #[itV x] w fun e w' => e = .returned (.string (textI x)) ∧ Below w.heap.size w w' := by
  have hq0 := fun W h hl => spec_one w.heap.size 0 x W h hl hs
  have HC := Bx.mk (c6_alloc w x 26)
  have HB : Bx (Below w.heap.size w (w.alloc (.cells #[.string x.nm, .int .i64 x.f, .int .i64 x.u, .int .i64 x.s, .int .i64 x.m, .int .i64 x.p] 26))) := Bx.mk ((Below.refl _ _).alloc (Nat.le_refl _) _)
  have HL : Bx (w.heap.size < (w.alloc (.cells #[.string x.nm, .int .i64 x.f, .int .i64 x.u, .int .i64 x.s, .int .i64 x.m, .int .i64 x.p] 26)).heap.size) := Bx.mk (by simp)
  have HF : Bx (textI x = if itB x = true then itT x else ⟨#[]⟩) := Bx.mk rfl
  unfold itV
  cases f0 : itB x
  · simp only [f0] at hq0
    have HE : Bx (textI x = ⟨#[]⟩) := Bx.mk (HF.out.trans (by simp [f0]))
    go_enter Tryd.func6, Tryd.ntmps6
    go_wp2_with (fail)
    refine (hq0 _ HC.out HL.out).mono ?_
    rintro r w1 ⟨rfl, n, rfl⟩
    go_wp2_with (fail)
    go_ret
    exact ⟨by rw [HE.out]; rfl, below_draws HB.out _⟩
  · simp only [f0] at hq0
    have HE : Bx (textI x = itT x) := Bx.mk (HF.out.trans (by simp [f0]))
    have hq1 := fun W h hl => spec_l08text w.heap.size 0 x W h hl ((itB_iff x).1 f0)
    go_enter Tryd.func6, Tryd.ntmps6
    go_wp2_with (fail)
    refine (hq0 _ HC.out HL.out).mono ?_
    rintro r w1 ⟨rfl, n, rfl⟩
    go_wp2_with (fail)
    refine (hq1 _ (c6dw HC.out n) HL.out).mono ?_
    rintro r w2 ⟨rfl, hb⟩
    have B2 := Bx.mk ((below_draws HB.out n).trans (hb.mono (below_draws HB.out n).size))
    clear hb
    go_wp2_with (fail)
    go_ret
    exact ⟨by rw [HE.out]; rfl, B2.out⟩
theorem txt_both {zs : List Int} (h : fitL zs = true) : textL zs = textE zs := by unfold textL; rw [h]; rfl
set_option maxHeartbeats 4000000 in
theorem impl_itemtext (x : It) (w : World) (hs : x.nm.size ≤ maxLen) (htab : Bx (Lib.TabIs Tryd.prog w "internal/strconv.uint64pow10" .u64 Lib.pow10Tab)) : Calls Tryd.prog 8 #[itV x] w fun e w' => e = .returned (.string (textI x)) ∧ Below w.heap.size w w' := by
  have hq0 := fun W => impl_validitem x W hs
  have P0 := BoxN.at w w.heap.size #[.string x.nm, .int .i64 x.f, .int .i64 x.u, .int .i64 x.s, .int .i64 x.m, .int .i64 x.p] 26 rfl
  have B0 := Bx.mk ((Below.refl w.heap.size w).alloc (Nat.le_refl _) (.cells #[.string x.nm, .int .i64 x.f, .int .i64 x.u, .int .i64 x.s, .int .i64 x.m, .int .i64 x.p] 26))
  generalize hW : w.alloc (.cells #[.string x.nm, .int .i64 x.f, .int .i64 x.u, .int .i64 x.s, .int .i64 x.m, .int .i64 x.p] 26) = W0 at P0 B0
  have P0 := Bx.mk P0
  have HF : Bx (textI x = if itB x = true then itT x else ⟨#[]⟩) := Bx.mk rfl
  have c0 := P0.out.c (k := 0) rfl
  have c1 := P0.out.c (k := 1) rfl
  have c2 := P0.out.c (k := 2) rfl
  have c3 := P0.out.c (k := 3) rfl
  have c4 := P0.out.c (k := 4) rfl
  have c5 := P0.out.c (k := 5) rfl
  have pl := P0.out.lt
  unfold itV at *
  cases f0 : itB x
  · simp only [f0] at hq0
    have HE : Bx (textI x = ⟨#[]⟩) := Bx.mk (HF.out.trans (by simp [f0]))
    go_enter Tryd.func8, Tryd.ntmps8
    go_wp2_with (fail)
    try rw [hW]
    try clear hW
    refine (hq0 _).mono ?_
    rintro r w1 ⟨rfl, hb⟩
    have B1 := Bx.mk (B0.out.trans (hb.mono B0.out.size))
    clear hb
    go_wp2_with (fail)
    go_ret
    exact ⟨by rw [HE.out]; rfl, B1.out⟩
  · simp only [f0] at hq0
    have HE : Bx (textI x = itT x) := Bx.mk (HF.out.trans (by simp [f0]))
    have hx := (itB_iff x).1 f0
    have hn := nm_len hx
    have q1 := fun g W P ht => impl_listtext (.slice (some ⟨g, 0, none⟩) 5 5) (numI x) W (row5 (W := W) (g := g) (t := 2) P) (by simp [numI]) ht
    rw [txt_both (fitI hx)] at q1
    have l1 := fit_textlen (fitI hx)
    have HT : Bx (itT x = (x.nm ++ ⟨#[32]⟩) ++ ⟨(textE (numI x)).toArray⟩) := Bx.mk rfl
    generalize textE (numI x) = T1 at *
    have E1 : (9223372036854775807 < x.nm.size + 1) = False := eq_false (by omega)
    have E2 : (9223372036854775807 < x.nm.size + 1 + T1.length) = False := eq_false (by omega)
    clear hx f0
    go_enter Tryd.func8, Tryd.ntmps8
    go_wp2_with (fail)
    try rw [hW]
    try clear hW
    refine (hq0 _).mono ?_
    rintro r w1 ⟨rfl, hb⟩
    have B1 := Bx.mk (B0.out.trans (hb.mono B0.out.size))
    have P1 := Bx.mk (P0.out.below hb)
    clear hb c0 c1 c2 c3 c4 c5 pl hq0
    have HTT : Bx (∀ W, Below w1.heap.size w1 W → Bx (Lib.TabIs Tryd.prog W "internal/strconv.uint64pow10" .u64 Lib.pow10Tab)) := Bx.mk (fun W hb => Bx.mk (tab_below (B1.out.trans (hb.mono B1.out.size)) htab.out))
    have c0 := P1.out.c (k := 0) rfl
    have c1 := P1.out.c (k := 1) rfl
    have c2 := P1.out.c (k := 2) rfl
    have c3 := P1.out.c (k := 3) rfl
    have c4 := P1.out.c (k := 4) rfl
    have c5 := P1.out.c (k := 5) rfl
    have pl := P1.out.lt
    have SS0 : Bx (w1.cell? ⟨w.heap.size, 0, none⟩ = some (.string x.nm) ∧ w1.cell? ⟨w.heap.size, 1, none⟩ = some (.int .i64 x.f) ∧ w1.cell? ⟨w.heap.size, 2, none⟩ = some (.int .i64 x.u) ∧ w1.cell? ⟨w.heap.size, 3, none⟩ = some (.int .i64 x.s) ∧ w1.cell? ⟨w.heap.size, 4, none⟩ = some (.int .i64 x.m) ∧ w1.cell? ⟨w.heap.size, 5, none⟩ = some (.int .i64 x.p) ∧ w.heap.size < w1.heap.size ∧ Below w1.heap.size w1 w1) := Bx.mk ⟨c0, c1, c2, c3, c4, c5, pl, Below.refl _ _⟩
    go_wp2_with (fail)
    go_region_held3 (fun W => W.cell? ⟨w.heap.size, 0, none⟩ = some (.string x.nm) ∧ W.cell? ⟨w.heap.size, 1, none⟩ = some (.int .i64 x.f) ∧ W.cell? ⟨w.heap.size, 2, none⟩ = some (.int .i64 x.u) ∧ W.cell? ⟨w.heap.size, 3, none⟩ = some (.int .i64 x.s) ∧ W.cell? ⟨w.heap.size, 4, none⟩ = some (.int .i64 x.m) ∧ W.cell? ⟨w.heap.size, 5, none⟩ = some (.int .i64 x.p) ∧ w.heap.size < W.heap.size ∧ Below w1.heap.size w1 W)
      (first | (with_reducible assumption) | (with_reducible exact keepW (q := 0) (by assumption) hb4) | (with_reducible exact keepW (q := 0) (by assumption) (Below.refl _ _)) | (with_reducible exact keepW (q := 0) (by assumption) (Below.refl _ _).drew) | exact keepW (q := 0) SS0.out (Below.refl _ _).drew | exact keepW (q := 0) (by assumption) ((Below.refl _ _).alloc (Nat.le_refl _) _))
      ((go_at_call 15; (with_reducible refine (q1 _ _ ?_ ?_).mono ?_); (first | exact BoxN.at _ _ #[.int .i64 x.f, .int .i64 x.u, .int .i64 x.s, .int .i64 x.m, .int .i64 x.p] _ rfl | exact box_dr (BoxN.at _ _ _ _ rfl)); exact HTT.out _ (belW (w := w1) (by assumption)); rintro r w4 ⟨rfl, hb4⟩; have hS0 := keepW (w := w1) (by assumption) hb4))
    all_goals
      have HBF := Bx.mk (belW (by assumption))
      go_wp2_with (fail)
      go_ret
      exact ⟨by rw [HE.out, HT.out]; rfl, B1.out.trans (HBF.out.mono B1.out.size)⟩
end Go.Proofs.YtmbillcdlcgjiaaDoor
