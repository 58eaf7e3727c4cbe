/- PhraseFits, on both sides. -/
import Derived.Test.YtobhmoohalkijaaPs
import Derived.Test.YtobhmoohalkijaaPi
import Derived.Test.YtobhmoohalkijaaRw3
namespace Go.Proofs.Ytobhmoohalkijaa
open Go.ChangeShapes Go.WideShapes Go.ChangeAt Go.RowKit
set_option linter.unusedVariables false
set_option linter.unusedSimpArgs false
set_option maxRecDepth 100000

def fitsB (R : Rg) (zs : List Int) : Bool := phB zs && ((firstE R zs).2.2 == 3)
set_option maxHeartbeats 4000000 in
theorem spec_fits (v u : Value) (R : Rg) (zs : List Int) (w : World) (h : RgAt w v R) (hm : Sm R) (hu : IntsAt w u zs) (hz : zs.length ≤ 1048576) :
    Calls Try.prog 19 #[v, u] w fun e w' => e = .returned (.bool (fitsB R zs)) ∧ Below w.heap.size w w' := by
  obtain ⟨A, a, B, b, C, c, rfl, i1, i2, i3⟩ := rg_form h
  obtain ⟨D, d, rfl⟩ := ints_form hu
  have hb : Below w.heap.size w (w.alloc (.cells #[.string R.s, .slice A R.u.length a, .slice B R.d.length b, .int .i64 R.x, .int .i64 R.y, .slice C R.f.length c] 32)) := (Below.refl _ _).alloc (Nat.le_refl _) _
  have HX := BoxN.at w w.heap.size #[.string R.s, .slice A R.u.length a, .slice B R.d.length b, .int .i64 R.x, .int .i64 R.y, .slice C R.f.length c] 32 rfl
  generalize hW : w.alloc (.cells #[.string R.s, .slice A R.u.length a, .slice B R.d.length b, .int .i64 R.x, .int .i64 R.y, .slice C R.f.length c] 32) = W at hb HX
  have hk := spec_ok5 w.heap.size R W ⟨_, HX, h.below hb⟩ hm
  have hp := fun m => spec_phrase _ zs (W.drewN m) (hu.below (below_draws hb m)) hz
  have hf := fun m => spec_first _ _ R zs (W.drewN m) (h.below (below_draws hb m)) hm (hu.below (below_draws hb m)) hz
  have h0 := HX.c (k := 0) rfl
  have h1 := HX.c (k := 1) rfl
  have h2 := HX.c (k := 2) rfl
  have h3 := HX.c (k := 3) rfl
  have h4 := HX.c (k := 4) rfl
  have h5 := HX.c (k := 5) rfl
  have hl := HX.lt
  have HB := Bx.mk hb
  have HF : Bx (fitsB R zs = (phB zs && ((firstE R zs).2.2 == 3))) := Bx.mk rfl
  have HN : Bx (okG R = false → (firstE R zs).2.2 = 1) := Bx.mk (fun e => by unfold firstE; rw [e]; rfl)
  clear h i1 i2 i3 hm HX hb hu hz
  unfold Out3 at hf
  generalize fitsB R zs = r at HF ⊢
  generalize firstE R zs = t at hf HF HN
  generalize phB zs = b1 at hp HF
  obtain ⟨t1, t2, t3⟩ := t
  dsimp only at hf HF HN
  cases e0 : okG R
  · have HE : Bx (r = false) := Bx.mk (by rw [HF.out, HN.out e0]; simp)
    rw [e0] at hk
    clear e0 HF HN hf hp
    go_enter Try.func19, Try.ntmps19
    go_wp2_with (fail)
    refine hk.mono ?_
    rintro r w1 ⟨rfl, n, rfl⟩
    go_wp2_with (fail)
    go_ret
    exact ⟨ret_bool HE.out.symm, below_draws HB.out _⟩
  · rw [e0] at hk
    cases b1
    · have HE : Bx (r = false) := Bx.mk (by rw [HF.out]; rfl)
      clear e0 HF HN hf
      go_enter Try.func19, Try.ntmps19
      go_wp2_with (fail)
      refine hk.mono ?_
      rintro r w1 ⟨rfl, n, rfl⟩
      go_wp2_with (fail)
      refine (hp _).mono ?_
      rintro r w1 ⟨rfl, rfl⟩
      go_wp2_with (fail)
      go_ret
      exact ⟨ret_bool HE.out.symm, below_draws HB.out _⟩
    · have HE : Bx (r = (t3 == 3)) := Bx.mk (by rw [HF.out]; rfl)
      clear e0 HF HN
      go_enter Try.func19, Try.ntmps19
      go_wp2_with (fail)
      refine hk.mono ?_
      rintro r w1 ⟨rfl, n, rfl⟩
      go_wp2_with (fail)
      refine (hp _).mono ?_
      rintro r w1 ⟨rfl, rfl⟩
      go_wp2_with (fail)
      refine (hf _).mono ?_
      rintro r w1 ⟨rfl, hb⟩
      have HB2 := Bx.mk ((below_draws HB.out n).trans (hb.mono (below_draws HB.out n).size))
      clear hb h0 h1 h2 h3 h4 h5 hl
      go_wp2_with (fail)
      go_ret
      exact ⟨ret_bool HE.out.symm, HB2.out⟩
set_option maxHeartbeats 4000000 in
theorem impl_fits (v u : Value) (R : Rg) (zs : List Int) (w : World) (h : RgAt w v R) (hm : Sm R) (hu : IntsAt w u zs) (hz : zs.length ≤ 1048576) :
    Calls Try.prog 22 #[v, u] w fun e w' => e = .returned (.bool (fitsB R zs)) ∧ Below w.heap.size w w' := by
  obtain ⟨A, a, B, b, C, c, rfl, i1, i2, i3⟩ := rg_form h
  obtain ⟨D, d, rfl⟩ := ints_form hu
  have hb : Below w.heap.size w (w.alloc (.cells #[.string R.s, .slice A R.u.length a, .slice B R.d.length b, .int .i64 R.x, .int .i64 R.y, .slice C R.f.length c] 32)) := (Below.refl _ _).alloc (Nat.le_refl _) _
  have HX := BoxN.at w w.heap.size #[.string R.s, .slice A R.u.length a, .slice B R.d.length b, .int .i64 R.x, .int .i64 R.y, .slice C R.f.length c] 32 rfl
  generalize hW : w.alloc (.cells #[.string R.s, .slice A R.u.length a, .slice B R.d.length b, .int .i64 R.x, .int .i64 R.y, .slice C R.f.length c] 32) = W at hb HX
  have hp := impl_isphrase _ zs W (hu.below hb) hz
  have hf := impl_first _ _ R zs W (h.below hb) hm (hu.below hb) hz
  have h0 := HX.c (k := 0) rfl
  have h1 := HX.c (k := 1) rfl
  have h2 := HX.c (k := 2) rfl
  have h3 := HX.c (k := 3) rfl
  have h4 := HX.c (k := 4) rfl
  have h5 := HX.c (k := 5) rfl
  have hl := HX.lt
  have HB := Bx.mk hb
  have HF : Bx (fitsB R zs = (phB zs && ((firstE R zs).2.2 == 3))) := Bx.mk rfl
  clear h i1 i2 i3 hm HX hb hu hz
  unfold Out3 at hf
  generalize fitsB R zs = r at HF ⊢
  generalize firstE R zs = t at hf HF
  generalize phB zs = b1 at hp HF
  obtain ⟨t1, t2, t3⟩ := t
  dsimp only at hf HF
  cases b1
  · have HE : Bx (r = false) := Bx.mk (by rw [HF.out]; rfl)
    clear HF hf
    go_enter Try.func22, Try.ntmps22
    go_wp2_with (fail)
    refine hp.mono ?_
    rintro r w1 ⟨rfl, rfl⟩
    go_wp2_with (fail)
    go_ret
    exact ⟨ret_bool HE.out.symm, HB.out⟩
  · have HE : Bx (r = (t3 == 3)) := Bx.mk (by rw [HF.out]; rfl)
    clear HF
    go_enter Try.func22, Try.ntmps22
    go_wp2_with (fail)
    refine hp.mono ?_
    rintro r w1 ⟨rfl, rfl⟩
    go_wp2_with (fail)
    refine hf.mono ?_
    rintro r w2 ⟨rfl, hb⟩
    have HB2 := Bx.mk (HB.out.trans (hb.mono HB.out.size))
    clear hb h0 h1 h2 h3 h4 h5 hl
    go_wp2_with (fail)
    go_ret
    exact ⟨ret_bool HE.out.symm, HB2.out⟩
end Go.Proofs.Ytobhmoohalkijaa
