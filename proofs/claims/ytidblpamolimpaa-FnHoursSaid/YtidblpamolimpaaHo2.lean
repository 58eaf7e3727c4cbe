/- FittingAt: the program. -/
import Derived.Test.YtidblpamolimpaaHo
import Derived.Deep.RegionHeld3
namespace Go.Proofs.Ytidblpamolimpaa
open Go.ChangeShapes Go.WideShapes Go.ChangeAt Go.RowKit
set_option linter.unusedVariables false
set_option linter.unusedSimpArgs false
set_option maxRecDepth 100000

theorem keepF {w W W' : World} {gl gs gm b o q c : Nat} {l : List It} {x : It} {mi se : Int} (h : W.cell? ⟨gl, 0, none⟩ = some (.slice (some ⟨b, o, none⟩) l.length c) ∧ W.cell? ⟨gs, 0, none⟩ = some (.int .i64 se) ∧ W.cell? ⟨gm, 0, none⟩ = some (.int .i64 mi) ∧ W.cell? ⟨b, q, none⟩ = some (.string x.nm) ∧ W.cell? ⟨b, q + 1, none⟩ = some (.int .i64 x.f) ∧ W.cell? ⟨b, q + 2, none⟩ = some (.int .i64 x.u) ∧ W.cell? ⟨b, q + 3, none⟩ = some (.int .i64 x.s) ∧ W.cell? ⟨b, q + 4, none⟩ = some (.int .i64 x.m) ∧ W.cell? ⟨b, q + 5, none⟩ = some (.int .i64 x.p) ∧ gl < W.heap.size ∧ gs < W.heap.size ∧ gm < W.heap.size ∧ b < W.heap.size ∧ Below w.heap.size w W) (hb : Below W.heap.size W W') :
    W'.cell? ⟨gl, 0, none⟩ = some (.slice (some ⟨b, o, none⟩) l.length c) ∧ W'.cell? ⟨gs, 0, none⟩ = some (.int .i64 se) ∧ W'.cell? ⟨gm, 0, none⟩ = some (.int .i64 mi) ∧ W'.cell? ⟨b, q, none⟩ = some (.string x.nm) ∧ W'.cell? ⟨b, q + 1, none⟩ = some (.int .i64 x.f) ∧ W'.cell? ⟨b, q + 2, none⟩ = some (.int .i64 x.u) ∧ W'.cell? ⟨b, q + 3, none⟩ = some (.int .i64 x.s) ∧ W'.cell? ⟨b, q + 4, none⟩ = some (.int .i64 x.m) ∧ W'.cell? ⟨b, q + 5, none⟩ = some (.int .i64 x.p) ∧ gl < W'.heap.size ∧ gs < W'.heap.size ∧ gm < W'.heap.size ∧ b < W'.heap.size ∧ Below w.heap.size w W' := by
  obtain ⟨h0, h1, h2, h3, h4, h5, h6, h7, h8, l0, l1, l2, l3, l4⟩ := h
  have hs := hb.size
  exact ⟨(hb.cell (p := ⟨gl, 0, none⟩) l0).trans h0, (hb.cell (p := ⟨gs, 0, none⟩) l1).trans h1, (hb.cell (p := ⟨gm, 0, none⟩) l2).trans h2, (hb.cell (p := ⟨b, q, none⟩) l3).trans h3, (hb.cell (p := ⟨b, q + 1, none⟩) l3).trans h4, (hb.cell (p := ⟨b, q + 2, none⟩) l3).trans h5, (hb.cell (p := ⟨b, q + 3, none⟩) l3).trans h6, (hb.cell (p := ⟨b, q + 4, none⟩) l3).trans h7, (hb.cell (p := ⟨b, q + 5, none⟩) l3).trans h8, by omega, by omega, by omega, by omega, l4.trans (hb.mono l4.size)⟩
theorem belF {w W : World} {gl gs gm b o q c : Nat} {l : List It} {x : It} {mi se : Int} (h : W.cell? ⟨gl, 0, none⟩ = some (.slice (some ⟨b, o, none⟩) l.length c) ∧ W.cell? ⟨gs, 0, none⟩ = some (.int .i64 se) ∧ W.cell? ⟨gm, 0, none⟩ = some (.int .i64 mi) ∧ W.cell? ⟨b, q, none⟩ = some (.string x.nm) ∧ W.cell? ⟨b, q + 1, none⟩ = some (.int .i64 x.f) ∧ W.cell? ⟨b, q + 2, none⟩ = some (.int .i64 x.u) ∧ W.cell? ⟨b, q + 3, none⟩ = some (.int .i64 x.s) ∧ W.cell? ⟨b, q + 4, none⟩ = some (.int .i64 x.m) ∧ W.cell? ⟨b, q + 5, none⟩ = some (.int .i64 x.p) ∧ gl < W.heap.size ∧ gs < W.heap.size ∧ gm < W.heap.size ∧ b < W.heap.size ∧ Below w.heap.size w W) : Below w.heap.size w W := h.2.2.2.2.2.2.2.2.2.2.2.2.2
set_option maxHeartbeats 4000000 in
theorem impl_fit1 (A : Option Addr) (c : Nat) (l : List It) (k : Nat) (mi se : Int) (gl gs gm : Nat) (w : World) (bl : BoxN w gl #[.slice A l.length c] 32) (bs : BoxN w gs #[.int .i64 se] 2) (bm : BoxN w gm #[.int .i64 mi] 2) (h0 : ItsAt w (.slice A l.length c) l) (hk : k < l.length) (hx : OkI (iat l k)) (hmi : 0 ≤ mi ∧ mi ≤ 1439) :
    Calls Try.prog 29 #[.int .i64 k, .pointer (some ⟨gl, 0, none⟩), .pointer (some ⟨gs, 0, none⟩), .pointer (some ⟨gm, 0, none⟩)] w fun e w' => e = .returned (.bool (fitB (iat l k) se mi)) ∧ Below w.heap.size w w' := by
  obtain ⟨b, o, rfl, _, lb, hc⟩ := its_cells h0 (by omega)
  obtain ⟨c0, c1, c2, c3, c4, c5⟩ := hc k hk
  have l0 := bl.c (k := 0) rfl
  have s0 := bs.c (k := 0) rfl
  have m0 := bm.c (k := 0) rfl
  have ll := bl.lt
  have ls := bs.lt
  have lm := bm.lt
  have BM := Bx.mk bm
  have x1 : (0 : Int) ≤ (k : Int) := by omega
  have x2 : (k : Int) < (l.length : Int) := by omega
  generalize iat l k = x at *
  have hq := fun W => impl_slotof x se W hx
  have hwc := fun F W h => win_calls (w := W) (F := F) (s := se) h hx mi ⟨hmi.1, by omega⟩
  have hfs := field_slot
  unfold itV slotV at hq
  have HS0 : Bx (w.cell? ⟨gl, 0, none⟩ = some (.slice (some ⟨b, o, none⟩) l.length c) ∧ w.cell? ⟨gs, 0, none⟩ = some (.int .i64 se) ∧ w.cell? ⟨gm, 0, none⟩ = some (.int .i64 mi) ∧ w.cell? ⟨b, o + k * 6, none⟩ = some (.string x.nm) ∧ w.cell? ⟨b, o + k * 6 + 1, none⟩ = some (.int .i64 x.f) ∧ w.cell? ⟨b, o + k * 6 + 2, none⟩ = some (.int .i64 x.u) ∧ w.cell? ⟨b, o + k * 6 + 3, none⟩ = some (.int .i64 x.s) ∧ w.cell? ⟨b, o + k * 6 + 4, none⟩ = some (.int .i64 x.m) ∧ w.cell? ⟨b, o + k * 6 + 5, none⟩ = some (.int .i64 x.p) ∧ gl < w.heap.size ∧ gs < w.heap.size ∧ gm < w.heap.size ∧ b < w.heap.size ∧ Below w.heap.size w w) := Bx.mk ⟨l0, s0, m0, c0, c1, c2, c3, c4, c5, ll, ls, lm, lb, Below.refl _ _⟩
  clear bl bs bm hc h0
  cases f : seaB x se
  · have hw1 : ∀ F W, WinAt W F x se → F = .func (.func 37) #[] #[] ∧ Calls Try.prog 37 #[.int .i64 mi] W (fun e w' => e = .returned (.bool (fitB x se mi)) ∧ ∃ n, w' = W.drewN n) := fun F W h => by
      rcases h with ⟨e, hs⟩ | ⟨g, h1, e, b1, b2, hs⟩
      · rcases hwc F W (.inl ⟨e, hs⟩) with h | ⟨g, h, e2, _⟩
        · exact h
        · rw [e] at e2; cases e2
      · rw [f] at hs; cases hs
    clear f hwc
    generalize fitB x se mi = fd at *
    go_enter Try.func29, Try.ntmps29
    go_wp2_with (fail)
    go_region_held3 (fun W => W.cell? ⟨gl, 0, none⟩ = some (.slice (some ⟨b, o, none⟩) l.length c) ∧ W.cell? ⟨gs, 0, none⟩ = some (.int .i64 se) ∧ W.cell? ⟨gm, 0, none⟩ = some (.int .i64 mi) ∧ W.cell? ⟨b, o + k * 6, none⟩ = some (.string x.nm) ∧ W.cell? ⟨b, o + k * 6 + 1, none⟩ = some (.int .i64 x.f) ∧ W.cell? ⟨b, o + k * 6 + 2, none⟩ = some (.int .i64 x.u) ∧ W.cell? ⟨b, o + k * 6 + 3, none⟩ = some (.int .i64 x.s) ∧ W.cell? ⟨b, o + k * 6 + 4, none⟩ = some (.int .i64 x.m) ∧ W.cell? ⟨b, o + k * 6 + 5, none⟩ = some (.int .i64 x.p) ∧ gl < W.heap.size ∧ gs < W.heap.size ∧ gm < W.heap.size ∧ b < W.heap.size ∧ Below w.heap.size w W)
      (first | (with_reducible exact keepF (by assumption) hb4) | (with_reducible exact keepF (by assumption) (Below.refl _ _).drew) | exact keepF HS0.out (Below.refl _ _).drew)
      (first
        | (go_at_call 22; (with_reducible refine (hq _).mono ?_); rintro r w4 ⟨F, rfl, hF, hb4⟩; obtain ⟨rfl, hc⟩ := hw1 _ _ hF; have hS0 := keepF (w := w) (by assumption) hb4)
        | (go_at_call 37; (with_reducible refine hc.mono ?_); rintro r w5 ⟨rfl, hdr⟩; have hb4 := quietB hdr; have hS0 := keepF (w := w) (by assumption) hb4))
    all_goals
      have HBF := Bx.mk (belF (by assumption))
      go_wp2_with (fail)
      go_ret
      exact ⟨rfl, HBF.out⟩
  · have hw1 : ∀ F W, WinAt W F x se → ∃ g h, F = .func (.func 39) #[] #[.pointer (some ⟨g, 0, none⟩), .pointer (some ⟨h, 0, none⟩)] ∧ Calls Try.prog 39 #[.int .i64 mi, .pointer (some ⟨g, 0, none⟩), .pointer (some ⟨h, 0, none⟩)] W (fun e w' => e = .returned (.bool (fitB x se mi)) ∧ ∃ n, w' = W.drewN n) := fun F W h => by
      rcases h with ⟨e, hs⟩ | ⟨g, h1, e, b1, b2, hs⟩
      · rw [f] at hs; cases hs
      · rcases hwc F W (.inr ⟨g, h1, e, b1, b2, hs⟩) with ⟨e2, _⟩ | h
        · rw [e] at e2; cases e2
        · exact h
    clear f hwc
    generalize fitB x se mi = fd at *
    go_enter Try.func29, Try.ntmps29
    go_wp2_with (fail)
    go_region_held3 (fun W => W.cell? ⟨gl, 0, none⟩ = some (.slice (some ⟨b, o, none⟩) l.length c) ∧ W.cell? ⟨gs, 0, none⟩ = some (.int .i64 se) ∧ W.cell? ⟨gm, 0, none⟩ = some (.int .i64 mi) ∧ W.cell? ⟨b, o + k * 6, none⟩ = some (.string x.nm) ∧ W.cell? ⟨b, o + k * 6 + 1, none⟩ = some (.int .i64 x.f) ∧ W.cell? ⟨b, o + k * 6 + 2, none⟩ = some (.int .i64 x.u) ∧ W.cell? ⟨b, o + k * 6 + 3, none⟩ = some (.int .i64 x.s) ∧ W.cell? ⟨b, o + k * 6 + 4, none⟩ = some (.int .i64 x.m) ∧ W.cell? ⟨b, o + k * 6 + 5, none⟩ = some (.int .i64 x.p) ∧ gl < W.heap.size ∧ gs < W.heap.size ∧ gm < W.heap.size ∧ b < W.heap.size ∧ Below w.heap.size w W)
      (first | (with_reducible exact keepF (by assumption) hb4) | (with_reducible exact keepF (by assumption) (Below.refl _ _).drew) | exact keepF HS0.out (Below.refl _ _).drew)
      (first
        | (go_at_call 22; (with_reducible refine (hq _).mono ?_); rintro r w4 ⟨F, rfl, hF, hb4⟩; obtain ⟨g, h, rfl, hc⟩ := hw1 _ _ hF; have hS0 := keepF (w := w) (by assumption) hb4)
        | (go_at_call 39; (with_reducible refine hc.mono ?_); rintro r w5 ⟨rfl, hdr⟩; have hb4 := quietB hdr; have hS0 := keepF (w := w) (by assumption) hb4))
    all_goals
      have HBF := Bx.mk (belF (by assumption))
      go_wp2_with (fail)
      go_ret
      exact ⟨rfl, HBF.out⟩
end Go.Proofs.Ytidblpamolimpaa
