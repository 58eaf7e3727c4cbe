/- Valid items: the program's loops. -/
import Derived.Test.YtidblpamolimpaaHg
import Derived.Test.YtidblpamolimpaaHv
namespace Go.Proofs.Ytidblpamolimpaa
open Go.ChangeShapes Go.WideShapes Go.ChangeAt Go.RowKit
set_option linter.unusedVariables false
set_option linter.unusedSimpArgs false
set_option maxRecDepth 100000

theorem risI_yes {l : List It} (h : ∀ i, i < l.length - 1 → nlt (iat l i).nm (iat l (i + 1)).nm = true) : risI l = true :=
  (risI_iff l).2 (fun i hi h0 => by have := h (i - 1) (by omega); rwa [Nat.sub_add_cancel h0] at this)
theorem risI_no {l : List It} (k : Nat) (hk : k < l.length - 1) (h : nlt (iat l k).nm (iat l (k + 1)).nm = false) : risI l = false := by
  cases e : risI l
  · rfl
  · have := (risI_iff l).1 e (k + 1) (by omega) (by omega)
    rw [Nat.add_sub_cancel, h] at this
    cases this
theorem keepI2 {w W W' : World} {b1 b2 y1 y2 : Nat} {x y : It} (h : W.cell? ⟨b1, y1, none⟩ = some (.string x.nm) ∧ W.cell? ⟨b1, y1 + 1, none⟩ = some (.int .i64 x.f) ∧ W.cell? ⟨b1, y1 + 2, none⟩ = some (.int .i64 x.u) ∧ W.cell? ⟨b1, y1 + 3, none⟩ = some (.int .i64 x.s) ∧ W.cell? ⟨b1, y1 + 4, none⟩ = some (.int .i64 x.m) ∧ W.cell? ⟨b1, y1 + 5, none⟩ = some (.int .i64 x.p) ∧ W.cell? ⟨b2, y2, none⟩ = some (.string y.nm) ∧ W.cell? ⟨b2, y2 + 1, none⟩ = some (.int .i64 y.f) ∧ W.cell? ⟨b2, y2 + 2, none⟩ = some (.int .i64 y.u) ∧ W.cell? ⟨b2, y2 + 3, none⟩ = some (.int .i64 y.s) ∧ W.cell? ⟨b2, y2 + 4, none⟩ = some (.int .i64 y.m) ∧ W.cell? ⟨b2, y2 + 5, none⟩ = some (.int .i64 y.p) ∧ b1 < W.heap.size ∧ b2 < W.heap.size ∧ Below w.heap.size w W) (hb : Below W.heap.size W W') :
    W'.cell? ⟨b1, y1, none⟩ = some (.string x.nm) ∧ W'.cell? ⟨b1, y1 + 1, none⟩ = some (.int .i64 x.f) ∧ W'.cell? ⟨b1, y1 + 2, none⟩ = some (.int .i64 x.u) ∧ W'.cell? ⟨b1, y1 + 3, none⟩ = some (.int .i64 x.s) ∧ W'.cell? ⟨b1, y1 + 4, none⟩ = some (.int .i64 x.m) ∧ W'.cell? ⟨b1, y1 + 5, none⟩ = some (.int .i64 x.p) ∧ W'.cell? ⟨b2, y2, none⟩ = some (.string y.nm) ∧ W'.cell? ⟨b2, y2 + 1, none⟩ = some (.int .i64 y.f) ∧ W'.cell? ⟨b2, y2 + 2, none⟩ = some (.int .i64 y.u) ∧ W'.cell? ⟨b2, y2 + 3, none⟩ = some (.int .i64 y.s) ∧ W'.cell? ⟨b2, y2 + 4, none⟩ = some (.int .i64 y.m) ∧ W'.cell? ⟨b2, y2 + 5, none⟩ = some (.int .i64 y.p) ∧ b1 < W'.heap.size ∧ b2 < W'.heap.size ∧ Below w.heap.size w W' := by
  obtain ⟨h0, h1, h2, h3, h4, h5, h6, h7, h8, h9, h10, h11, l1, l2, l3⟩ := h
  have hs := hb.size
  exact ⟨(hb.cell (p := ⟨b1, y1, none⟩) l1).trans h0, (hb.cell (p := ⟨b1, y1 + 1, none⟩) l1).trans h1, (hb.cell (p := ⟨b1, y1 + 2, none⟩) l1).trans h2, (hb.cell (p := ⟨b1, y1 + 3, none⟩) l1).trans h3, (hb.cell (p := ⟨b1, y1 + 4, none⟩) l1).trans h4, (hb.cell (p := ⟨b1, y1 + 5, none⟩) l1).trans h5, (hb.cell (p := ⟨b2, y2, none⟩) l2).trans h6, (hb.cell (p := ⟨b2, y2 + 1, none⟩) l2).trans h7, (hb.cell (p := ⟨b2, y2 + 2, none⟩) l2).trans h8, (hb.cell (p := ⟨b2, y2 + 3, none⟩) l2).trans h9, (hb.cell (p := ⟨b2, y2 + 4, none⟩) l2).trans h10, (hb.cell (p := ⟨b2, y2 + 5, none⟩) l2).trans h11, by omega, by omega, l3.trans (hb.mono l3.size)⟩
set_option maxHeartbeats 1000000 in
theorem impl_incI (v : Value) (l : List It) (w : World) (h : ItsAt w v l) (hm : l.length ≤ 1048576) :
    Calls Try.prog 42 #[v, .func (.func 43) #[] #[]] w fun e w' => e = .returned (.bool (risI l)) ∧ Below w.heap.size w w' := by
  obtain ⟨A, c, rfl⟩ := its_len h
  have HI := Bx.mk h
  have hsub : IntKind.i64.wrap ((l.length : Int) - 1) = (l.length : Int) - 1 := IntWalk.i64_in _ (by omega)
  clear h
  go_enter Try.func42, Try.ntmps42
  go_wp2_with (fail)
  go_loopw [9] (fun i wr => ∃ k : Nat, k ≤ l.length - 1 ∧ i = .int .i64 k ∧ Bx (∀ i, i < k → nlt (iat l i).nm (iat l (i + 1)).nm = true) ∧ Bx (Below w.heap.size w wr)) (fun i _ => l.length - 1 - (intOf i).toNat)
  case atStart => exact ⟨0, Nat.zero_le _, rfl, Bx.mk (fun i hi => by omega), Bx.mk (Below.refl _ _)⟩
  case round =>
    obtain ⟨k, hk, rfl, HK, HW⟩ := hrel
    by_cases hlt : k < l.length - 1
    · have dlt : decide ((k : Int) < (l.length : Int) - 1) = true := decide_eq_true (by omega)
      obtain ⟨b, o, cc, hv, lb, hc⟩ := (HI.out.below HW.out).form (by omega)
      injection hv with hA _ hC
      subst hA hC
      obtain ⟨c0, c1, c2, c3, c4, c5⟩ := hc k (by omega)
      obtain ⟨d0, d1, d2, d3, d4, d5⟩ := hc (k + 1) (by omega)
      have x1 : (0 : Int) ≤ (k : Int) := by omega
      have x2 : (k : Int) < (l.length : Int) := by omega
      have y0 : IntKind.i64.wrap ((k : Int) + 1) = (k : Int) + 1 := IntWalk.i64_in _ (by omega)
      have y1 : (0 : Int) ≤ (k : Int) + 1 := by omega
      have y2 : (k : Int) + 1 < (l.length : Int) := by omega
      have y3 : ((k : Int) + 1).toNat = k + 1 := by omega
      have HY := Bx.mk (fun h : nlt (iat l k).nm (iat l (k + 1)).nm = true => (fun i (hi : i < k + 1) => by
        by_cases hij : i < k
        · exact HK.out i hij
        · obtain rfl : i = k := (by omega)
          exact h : ∀ i, i < k + 1 → nlt (iat l i).nm (iat l (i + 1)).nm = true))
      have HN := Bx.mk (risI_no (l := l) k hlt)
      clear hc HK HI
      generalize iat l k = x at c0 c1 c2 c3 c4 c5 HY HN
      generalize iat l (k + 1) = y at d0 d1 d2 d3 d4 d5 HY HN
      have hq := fun W => impl_cmpn x y W
      have hz := cmp_ge x.nm y.nm
      generalize Lib.compareBytes x.nm.data.toList y.nm.data.toList = z at hq hz
      unfold itV at hq
      have HS0 : Bx (wr.cell? ⟨b, o + k * 6, none⟩ = some (.string x.nm) ∧ wr.cell? ⟨b, o + k * 6 + 1, none⟩ = some (.int .i64 x.f) ∧ wr.cell? ⟨b, o + k * 6 + 2, none⟩ = some (.int .i64 x.u) ∧ wr.cell? ⟨b, o + k * 6 + 3, none⟩ = some (.int .i64 x.s) ∧ wr.cell? ⟨b, o + k * 6 + 4, none⟩ = some (.int .i64 x.m) ∧ wr.cell? ⟨b, o + k * 6 + 5, none⟩ = some (.int .i64 x.p) ∧ wr.cell? ⟨b, o + (k + 1) * 6, none⟩ = some (.string y.nm) ∧ wr.cell? ⟨b, o + (k + 1) * 6 + 1, none⟩ = some (.int .i64 y.f) ∧ wr.cell? ⟨b, o + (k + 1) * 6 + 2, none⟩ = some (.int .i64 y.u) ∧ wr.cell? ⟨b, o + (k + 1) * 6 + 3, none⟩ = some (.int .i64 y.s) ∧ wr.cell? ⟨b, o + (k + 1) * 6 + 4, none⟩ = some (.int .i64 y.m) ∧ wr.cell? ⟨b, o + (k + 1) * 6 + 5, none⟩ = some (.int .i64 y.p) ∧ b < wr.heap.size ∧ b < wr.heap.size ∧ Below w.heap.size w wr) := Bx.mk ⟨c0, c1, c2, c3, c4, c5, d0, d1, d2, d3, d4, d5, lb, lb, HW.out⟩
      cases f : nlt x.nm y.nm
      · have HE := Bx.mk (HN.out f)
        have dz : decide (z ≥ 0) = true := by rw [hz, f]; rfl
        clear HY HN hz f
        go_wp2_with (fail)
        go_region_held3 (fun W => W.cell? ⟨b, o + k * 6, none⟩ = some (.string x.nm) ∧ W.cell? ⟨b, o + k * 6 + 1, none⟩ = some (.int .i64 x.f) ∧ W.cell? ⟨b, o + k * 6 + 2, none⟩ = some (.int .i64 x.u) ∧ W.cell? ⟨b, o + k * 6 + 3, none⟩ = some (.int .i64 x.s) ∧ W.cell? ⟨b, o + k * 6 + 4, none⟩ = some (.int .i64 x.m) ∧ W.cell? ⟨b, o + k * 6 + 5, none⟩ = some (.int .i64 x.p) ∧ W.cell? ⟨b, o + (k + 1) * 6, none⟩ = some (.string y.nm) ∧ W.cell? ⟨b, o + (k + 1) * 6 + 1, none⟩ = some (.int .i64 y.f) ∧ W.cell? ⟨b, o + (k + 1) * 6 + 2, none⟩ = some (.int .i64 y.u) ∧ W.cell? ⟨b, o + (k + 1) * 6 + 3, none⟩ = some (.int .i64 y.s) ∧ W.cell? ⟨b, o + (k + 1) * 6 + 4, none⟩ = some (.int .i64 y.m) ∧ W.cell? ⟨b, o + (k + 1) * 6 + 5, none⟩ = some (.int .i64 y.p) ∧ b < W.heap.size ∧ b < W.heap.size ∧ Below w.heap.size w W)
          (first | (with_reducible exact keepI2 (by assumption) hb4) | (with_reducible exact keepI2 (by assumption) (Below.refl _ _).drew) | exact keepI2 HS0.out (Below.refl _ _).drew)
          ((go_at_call 43; (with_reducible refine (hq _).mono ?_); rintro r w4 ⟨rfl, hb4⟩; have hS0 := keepI2 (w := w) (by assumption) hb4))
        have HB1 : Bx (Below w.heap.size w _) := Bx.mk (by assumption : _ ∧ _ ∧ _ ∧ _ ∧ _ ∧ _ ∧ _ ∧ _ ∧ _ ∧ _ ∧ _ ∧ _ ∧ _ ∧ _ ∧ _).2.2.2.2.2.2.2.2.2.2.2.2.2.2
        go_wp2_with (fail)
        go_ret
        exact ⟨ret_bool HE.out.symm, HB1.out⟩
      · have HS := Bx.mk (HY.out f)
        have dz : decide (z ≥ 0) = false := by rw [hz, f]; rfl
        clear HY HN hz f
        go_wp2_with (fail)
        go_region_held3 (fun W => W.cell? ⟨b, o + k * 6, none⟩ = some (.string x.nm) ∧ W.cell? ⟨b, o + k * 6 + 1, none⟩ = some (.int .i64 x.f) ∧ W.cell? ⟨b, o + k * 6 + 2, none⟩ = some (.int .i64 x.u) ∧ W.cell? ⟨b, o + k * 6 + 3, none⟩ = some (.int .i64 x.s) ∧ W.cell? ⟨b, o + k * 6 + 4, none⟩ = some (.int .i64 x.m) ∧ W.cell? ⟨b, o + k * 6 + 5, none⟩ = some (.int .i64 x.p) ∧ W.cell? ⟨b, o + (k + 1) * 6, none⟩ = some (.string y.nm) ∧ W.cell? ⟨b, o + (k + 1) * 6 + 1, none⟩ = some (.int .i64 y.f) ∧ W.cell? ⟨b, o + (k + 1) * 6 + 2, none⟩ = some (.int .i64 y.u) ∧ W.cell? ⟨b, o + (k + 1) * 6 + 3, none⟩ = some (.int .i64 y.s) ∧ W.cell? ⟨b, o + (k + 1) * 6 + 4, none⟩ = some (.int .i64 y.m) ∧ W.cell? ⟨b, o + (k + 1) * 6 + 5, none⟩ = some (.int .i64 y.p) ∧ b < W.heap.size ∧ b < W.heap.size ∧ Below w.heap.size w W)
          (first | (with_reducible exact keepI2 (by assumption) hb4) | (with_reducible exact keepI2 (by assumption) (Below.refl _ _).drew) | exact keepI2 HS0.out (Below.refl _ _).drew)
          ((go_at_call 43; (with_reducible refine (hq _).mono ?_); rintro r w4 ⟨rfl, hb4⟩; have hS0 := keepI2 (w := w) (by assumption) hb4))
        have HB1 : Bx (Below w.heap.size w _) := Bx.mk (by assumption : _ ∧ _ ∧ _ ∧ _ ∧ _ ∧ _ ∧ _ ∧ _ ∧ _ ∧ _ ∧ _ ∧ _ ∧ _ ∧ _ ∧ _).2.2.2.2.2.2.2.2.2.2.2.2.2.2
        go_wp2_with (fail)
        go_roundw
        case rel => exact ⟨k + 1, by omega, by go_num, HS, HB1⟩
        case measure => simp [intOf]; omega
    · have dlt : decide ((k : Int) < (l.length : Int) - 1) = false := decide_eq_false (by omega)
      have HE := Bx.mk (risI_yes (l := l) (fun i hi => HK.out i (by omega)))
      clear HK
      go_wp2_with (fail)
      go_ret
      exact ⟨ret_bool HE.out.symm, HW.out⟩
end Go.Proofs.Ytidblpamolimpaa
