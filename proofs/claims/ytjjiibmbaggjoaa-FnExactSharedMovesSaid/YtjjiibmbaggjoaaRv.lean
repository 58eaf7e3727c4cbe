/- IsAllowed and ReasonOf on both sides. -/
import Derived.Test.YtjjiibmbaggjoaaRq2
import Derived.Test.YtjjiibmbaggjoaaRs3
namespace Go.Proofs.Ytjjiibmbaggjoaa
open Go.ChangeShapes Go.WideShapes Go.ChangeAt Go.RowKit
set_option linter.unusedVariables false
set_option linter.unusedSimpArgs false
set_option maxRecDepth 100000

def inP (p : Int) : Bool := inB p (-12) 23
def allowB (R : Rg) (p q : Int) : Bool := okG R && (inP p && (inP q && decide (reasonZ R p q = 0)))
def whyE (R : Rg) (p q : Int) : Int × Int := if okG R = true then (if inP p = true ∧ inP q = true then (if reasonZ R p q = 0 then (0, 3) else (reasonZ R p q, 0)) else (0, 2)) else (0, 1)
def Out2 (t : Int × Int) (w : World) (e : Ending) (w' : World) : Prop := e = .returned (.tuple #[.int .i64 t.1, .int .i64 t.2]) ∧ Below w.heap.size w w'
theorem out2 {t : Int × Int} {w w' : World} {a b : Int} (h : t = (a, b)) (hb : Below w.heap.size w w') : Out2 t w (.returned (.tuple #[.int .i64 a, .int .i64 b])) w' := by
  subst h; exact ⟨rfl, hb⟩
set_option maxHeartbeats 4000000 in
theorem spec_allow (v : Value) (R : Rg) (p q : Int) (w : World) (h : RgAt w v R) (hm : Sm R) :
    Calls Try.prog 30 #[v, .int .i64 p, .int .i64 q] w (fun e w' => e = .returned (.bool (allowB R p q)) ∧ Below w.heap.size w w') := by
  obtain ⟨A, a, B, b, C, c, rfl, i1, i2, i3⟩ := rg_form h
  have hb : Below w.heap.size w (w.alloc (.cells #[.string R.s, .slice A R.u.length a, .slice B R.d.length b, .int .i64 R.x, .int .i64 R.y, .slice C R.f.length c] 28)) := (Below.refl _ _).alloc (Nat.le_refl _) _
  have HX := BoxN.at w w.heap.size #[.string R.s, .slice A R.u.length a, .slice B R.d.length b, .int .i64 R.x, .int .i64 R.y, .slice C R.f.length c] 28 rfl
  generalize hW : w.alloc (.cells #[.string R.s, .slice A R.u.length a, .slice B R.d.length b, .int .i64 R.x, .int .i64 R.y, .slice C R.f.length c] 28) = W at hb HX
  have hk := spec_ok5 w.heap.size R W ⟨_, HX, h.below hb⟩ hm
  have hp := fun W => spec_pitch p W
  have hq := fun W => spec_pitch q W
  have HR := Bx.mk (fun (hok : OkG R) m h1 h2 => spec_reason w.heap.size R p q (W.drewN m) ⟨_, HX, h.below (below_draws hb m)⟩ hm hok h1 h2)
  have HB := Bx.mk hb
  have HO : Bx (allowB R p q = (okG R && (inB p (-12) 23 && (inB q (-12) 23 && decide (reasonZ R p q = 0))))) := Bx.mk rfl
  clear h i1 i2 i3 hm HX hb
  cases e0 : okG R
  · have HE : Bx (allowB R p q = false) := Bx.mk (by rw [HO.out, e0]; rfl)
    rw [e0] at hk
    clear e0 HO HR
    go_enter Try.func30, Try.ntmps30
    go_wp2_with (fail)
    refine hk.mono ?_
    rintro r w1 ⟨rfl, n, rfl⟩
    go_wp2_with (fail)
    go_ret
    exact ⟨ret_bool HE.out.symm, below_draws HB.out _⟩
  · rw [e0] at hk
    cases e1 : inB p (-12) 23
    · have HE : Bx (allowB R p q = false) := Bx.mk (by rw [HO.out, e0, e1]; rfl)
      rw [e1] at hp
      clear e0 e1 HO HR
      go_enter Try.func30, Try.ntmps30
      go_wp2_with (fail)
      refine hk.mono ?_
      rintro r w1 ⟨rfl, n, rfl⟩
      go_wp2_with (fail)
      refine (hp _).mono ?_
      rintro r w1 ⟨rfl, rfl⟩
      go_wp2_with (fail)
      go_ret
      exact ⟨ret_bool HE.out.symm, below_draws HB.out _⟩
    · rw [e1] at hp
      cases e2 : inB q (-12) 23
      · have HE : Bx (allowB R p q = false) := Bx.mk (by rw [HO.out, e0, e1, e2]; rfl)
        rw [e2] at hq
        clear e0 e1 e2 HO HR
        go_enter Try.func30, Try.ntmps30
        go_wp2_with (fail)
        refine hk.mono ?_
        rintro r w1 ⟨rfl, n, rfl⟩
        go_wp2_with (fail)
        refine (hp _).mono ?_
        rintro r w1 ⟨rfl, rfl⟩
        go_wp2_with (fail)
        refine (hq _).mono ?_
        rintro r w1 ⟨rfl, rfl⟩
        go_wp2_with (fail)
        go_ret
        exact ⟨ret_bool HE.out.symm, below_draws HB.out _⟩
      · rw [e2] at hq
        have HE : Bx (allowB R p q = (reasonZ R p q == 0)) := Bx.mk (by rw [HO.out, e0, e1, e2, Bool.eq_iff_iff]; simp)
        have hr := fun m => HR.out (ok_yes e0) m (inB_yes e1) (inB_yes e2)
        generalize reasonZ R p q = z at hr HE
        clear e0 e1 e2 HO HR
        go_enter Try.func30, Try.ntmps30
        go_wp2_with (fail)
        refine hk.mono ?_
        rintro r w1 ⟨rfl, n, rfl⟩
        go_wp2_with (fail)
        refine (hp _).mono ?_
        rintro r w1 ⟨rfl, rfl⟩
        go_wp2_with (fail)
        refine (hq _).mono ?_
        rintro r w1 ⟨rfl, rfl⟩
        go_wp2_with (fail)
        refine (hr _).mono ?_
        rintro r w1 ⟨rfl, n, rfl⟩
        go_wp2_with (fail)
        go_ret
        exact ⟨ret_bool HE.out.symm, below_draws HB.out _⟩
set_option maxHeartbeats 4000000 in
theorem impl_allow (v : Value) (R : Rg) (p q : Int) (w : World) (h : RgAt w v R) (hm : Sm R) :
    Calls Try.prog 31 #[v, .int .i64 p, .int .i64 q] w (fun e w' => e = .returned (.bool (allowB R p q)) ∧ Below w.heap.size w w') := by
  obtain ⟨A, a, B, b, C, c, rfl, i1, i2, i3⟩ := rg_form h
  have hb : Below w.heap.size w (w.alloc (.cells #[.string R.s, .slice A R.u.length a, .slice B R.d.length b, .int .i64 R.x, .int .i64 R.y, .slice C R.f.length c] 28)) := (Below.refl _ _).alloc (Nat.le_refl _) _
  have HX := BoxN.at w w.heap.size #[.string R.s, .slice A R.u.length a, .slice B R.d.length b, .int .i64 R.x, .int .i64 R.y, .slice C R.f.length c] 28 rfl
  generalize hW : w.alloc (.cells #[.string R.s, .slice A R.u.length a, .slice B R.d.length b, .int .i64 R.x, .int .i64 R.y, .slice C R.f.length c] 28) = W at hb HX
  have hk := impl_validraga _ R W (h.below hb) hm
  have hp := fun W => impl_ispitch p W
  have hq := fun W => impl_ispitch q W
  have HV := Bx.mk h
  have HM := Bx.mk hm
  have h0 := HX.c (k := 0) rfl
  have h1 := HX.c (k := 1) rfl
  have h2 := HX.c (k := 2) rfl
  have h3 := HX.c (k := 3) rfl
  have h4 := HX.c (k := 4) rfl
  have h5 := HX.c (k := 5) rfl
  have hl := HX.lt
  have HXB := Bx.mk HX
  have HB := Bx.mk hb
  have HO : Bx (allowB R p q = (okG R && (inB p (-12) 23 && (inB q (-12) 23 && decide (reasonZ R p q = 0))))) := Bx.mk rfl
  clear h i1 i2 i3 hm HX hb
  cases e0 : okG R
  · have HE : Bx (allowB R p q = false) := Bx.mk (by rw [HO.out, e0]; rfl)
    rw [e0] at hk
    clear e0 HO 
    go_enter Try.func31, Try.ntmps31
    go_wp2_with (fail)
    refine hk.mono ?_
    rintro r w1 ⟨rfl, hb⟩
    have B1 := Bx.mk (HB.out.trans (hb.mono HB.out.size))
    have X1 := Bx.mk (HXB.out.below hb)
    have h0 := X1.out.c (k := 0) rfl
    have h1 := X1.out.c (k := 1) rfl
    have h2 := X1.out.c (k := 2) rfl
    have h3 := X1.out.c (k := 3) rfl
    have h4 := X1.out.c (k := 4) rfl
    have h5 := X1.out.c (k := 5) rfl
    have hl := X1.out.lt
    clear hb
    go_wp2_with (fail)
    go_ret
    exact ⟨ret_bool HE.out.symm, B1.out⟩
  · rw [e0] at hk
    cases e1 : inB p (-12) 23
    · have HE : Bx (allowB R p q = false) := Bx.mk (by rw [HO.out, e0, e1]; rfl)
      rw [e1] at hp
      clear e0 e1 HO 
      go_enter Try.func31, Try.ntmps31
      go_wp2_with (fail)
      refine hk.mono ?_
      rintro r w1 ⟨rfl, hb⟩
      have B1 := Bx.mk (HB.out.trans (hb.mono HB.out.size))
      have X1 := Bx.mk (HXB.out.below hb)
      have h0 := X1.out.c (k := 0) rfl
      have h1 := X1.out.c (k := 1) rfl
      have h2 := X1.out.c (k := 2) rfl
      have h3 := X1.out.c (k := 3) rfl
      have h4 := X1.out.c (k := 4) rfl
      have h5 := X1.out.c (k := 5) rfl
      have hl := X1.out.lt
      clear hb
      go_wp2_with (fail)
      refine (hp _).mono ?_
      rintro r w1 ⟨rfl, rfl⟩
      go_wp2_with (fail)
      go_ret
      exact ⟨ret_bool HE.out.symm, B1.out⟩
    · rw [e1] at hp
      cases e2 : inB q (-12) 23
      · have HE : Bx (allowB R p q = false) := Bx.mk (by rw [HO.out, e0, e1, e2]; rfl)
        rw [e2] at hq
        clear e0 e1 e2 HO 
        go_enter Try.func31, Try.ntmps31
        go_wp2_with (fail)
        refine hk.mono ?_
        rintro r w1 ⟨rfl, hb⟩
        have B1 := Bx.mk (HB.out.trans (hb.mono HB.out.size))
        have X1 := Bx.mk (HXB.out.below hb)
        have h0 := X1.out.c (k := 0) rfl
        have h1 := X1.out.c (k := 1) rfl
        have h2 := X1.out.c (k := 2) rfl
        have h3 := X1.out.c (k := 3) rfl
        have h4 := X1.out.c (k := 4) rfl
        have h5 := X1.out.c (k := 5) rfl
        have hl := X1.out.lt
        clear hb
        go_wp2_with (fail)
        refine (hp _).mono ?_
        rintro r w1 ⟨rfl, rfl⟩
        go_wp2_with (fail)
        refine (hq _).mono ?_
        rintro r w1 ⟨rfl, rfl⟩
        go_wp2_with (fail)
        go_ret
        exact ⟨ret_bool HE.out.symm, B1.out⟩
      · rw [e2] at hq
        have HE : Bx (allowB R p q = (reasonZ R p q == 0)) := Bx.mk (by rw [HO.out, e0, e1, e2, Bool.eq_iff_iff]; simp)
        have HOK := Bx.mk (ok_yes e0)
        have HRE := Bx.mk (fun mb n W hS => impl_reason R p q mb n W (ok_yes e0) hS (inB_yes e1) (inB_yes e2))
        generalize reasonZ R p q = z at HRE HE
        clear e0 e1 e2 HO 
        go_enter Try.func31, Try.ntmps31
        go_wp2_with (fail)
        refine hk.mono ?_
        rintro r w1 ⟨rfl, hb⟩
        have B1 := Bx.mk (HB.out.trans (hb.mono HB.out.size))
        have X1 := Bx.mk (HXB.out.below hb)
        have h0 := X1.out.c (k := 0) rfl
        have h1 := X1.out.c (k := 1) rfl
        have h2 := X1.out.c (k := 2) rfl
        have h3 := X1.out.c (k := 3) rfl
        have h4 := X1.out.c (k := 4) rfl
        have h5 := X1.out.c (k := 5) rfl
        have hl := X1.out.lt
        clear hb
        go_wp2_with (fail)
        refine (hp _).mono ?_
        rintro r w1 ⟨rfl, rfl⟩
        go_wp2_with (fail)
        refine (hq _).mono ?_
        rintro r w1 ⟨rfl, rfl⟩
        go_wp2_with (fail)
        refine (impl_rules _ R w1 (HV.out.below B1.out) HM.out HOK.out).mono ?_
        rintro r w2 ⟨mb, rfl, hS, hb⟩
        have B2 := Bx.mk (B1.out.trans (hb.mono B1.out.size))
        clear hb
        go_wp2_with (fail)
        refine (HRE.out mb _ w2 hS).mono ?_
        rintro r w3 ⟨rfl, hb⟩
        have B3 := Bx.mk (B2.out.trans (hb.mono B2.out.size))
        clear hb hS
        go_wp2_with (fail)
        go_ret
        exact ⟨ret_bool HE.out.symm, B3.out⟩
set_option maxHeartbeats 4000000 in
theorem spec_why (v : Value) (R : Rg) (p q : Int) (w : World) (h : RgAt w v R) (hm : Sm R) :
    Calls Try.prog 32 #[v, .int .i64 p, .int .i64 q] w (Out2 (whyE R p q) w) := by
  obtain ⟨A, a, B, b, C, c, rfl, i1, i2, i3⟩ := rg_form h
  have hb : Below w.heap.size w (w.alloc (.cells #[.string R.s, .slice A R.u.length a, .slice B R.d.length b, .int .i64 R.x, .int .i64 R.y, .slice C R.f.length c] 28)) := (Below.refl _ _).alloc (Nat.le_refl _) _
  have HX := BoxN.at w w.heap.size #[.string R.s, .slice A R.u.length a, .slice B R.d.length b, .int .i64 R.x, .int .i64 R.y, .slice C R.f.length c] 28 rfl
  generalize hW : w.alloc (.cells #[.string R.s, .slice A R.u.length a, .slice B R.d.length b, .int .i64 R.x, .int .i64 R.y, .slice C R.f.length c] 28) = W at hb HX
  have hk := spec_ok5 w.heap.size R W ⟨_, HX, h.below hb⟩ hm
  have hp := fun W => spec_pitch p W
  have hq := fun W => spec_pitch q W
  have HR := Bx.mk (fun (hok : OkG R) m h1 h2 => spec_reason w.heap.size R p q (W.drewN m) ⟨_, HX, h.below (below_draws hb m)⟩ hm hok h1 h2)
  have HB := Bx.mk hb
  have HO : Bx (whyE R p q = if okG R = true then (if inB p (-12) 23 = true ∧ inB q (-12) 23 = true then (if reasonZ R p q = 0 then (0, 3) else (reasonZ R p q, 0)) else (0, 2)) else (0, 1)) := Bx.mk rfl
  clear h i1 i2 i3 hm HX hb
  cases e0 : okG R
  · have HE : Bx (whyE R p q = (0, 1)) := Bx.mk (by rw [HO.out, e0]; rfl)
    rw [e0] at hk
    clear e0 HO HR
    go_enter Try.func32, Try.ntmps32
    go_wp2_with (fail)
    refine hk.mono ?_
    rintro r w1 ⟨rfl, n, rfl⟩
    go_wp2_with (fail)
    go_returns
    exact out2 HE.out (below_draws HB.out _)
  · rw [e0] at hk
    cases e1 : inB p (-12) 23
    · have HE : Bx (whyE R p q = (0, 2)) := Bx.mk (by rw [HO.out, e0, e1]; simp)
      rw [e1] at hp
      clear e0 e1 HO HR
      go_enter Try.func32, Try.ntmps32
      go_wp2_with (fail)
      refine hk.mono ?_
      rintro r w1 ⟨rfl, n, rfl⟩
      go_wp2_with (fail)
      refine (hp _).mono ?_
      rintro r w1 ⟨rfl, rfl⟩
      go_wp2_with (fail)
      go_returns
      exact out2 HE.out (below_draws HB.out _)
    · rw [e1] at hp
      cases e2 : inB q (-12) 23
      · have HE : Bx (whyE R p q = (0, 2)) := Bx.mk (by rw [HO.out, e0, e1, e2]; simp)
        rw [e2] at hq
        clear e0 e1 e2 HO HR
        go_enter Try.func32, Try.ntmps32
        go_wp2_with (fail)
        refine hk.mono ?_
        rintro r w1 ⟨rfl, n, rfl⟩
        go_wp2_with (fail)
        refine (hp _).mono ?_
        rintro r w1 ⟨rfl, rfl⟩
        go_wp2_with (fail)
        refine (hq _).mono ?_
        rintro r w1 ⟨rfl, rfl⟩
        go_wp2_with (fail)
        go_returns
        exact out2 HE.out (below_draws HB.out _)
      · rw [e2] at hq
        have HE : Bx (whyE R p q = if reasonZ R p q = 0 then (0, 3) else (reasonZ R p q, 0)) := Bx.mk (by rw [HO.out, e0, e1, e2]; simp)
        have hr := fun m => HR.out (ok_yes e0) m (inB_yes e1) (inB_yes e2)
        generalize reasonZ R p q = z at hr HE
        clear e0 e1 e2 HO HR
        by_cases hz : z = 0
        · subst hz
          have HE : Bx (whyE R p q = (0, 3)) := Bx.mk (HE.out.trans (if_pos rfl))
          go_enter Try.func32, Try.ntmps32
          go_wp2_with (fail)
          refine hk.mono ?_
          rintro r w1 ⟨rfl, n, rfl⟩
          go_wp2_with (fail)
          refine (hp _).mono ?_
          rintro r w1 ⟨rfl, rfl⟩
          go_wp2_with (fail)
          refine (hq _).mono ?_
          rintro r w1 ⟨rfl, rfl⟩
          go_wp2_with (fail)
          refine (hr _).mono ?_
          rintro r w1 ⟨rfl, n, rfl⟩
          go_wp2_with (fail)
          go_returns
          exact out2 HE.out (below_draws HB.out _)
        · have HE : Bx (whyE R p q = (z, 0)) := Bx.mk (HE.out.trans (if_neg hz))
          have hz2 : (z == 0) = false := by simpa using hz
          go_enter Try.func32, Try.ntmps32
          go_wp2_with (fail)
          refine hk.mono ?_
          rintro r w1 ⟨rfl, n, rfl⟩
          go_wp2_with (fail)
          refine (hp _).mono ?_
          rintro r w1 ⟨rfl, rfl⟩
          go_wp2_with (fail)
          refine (hq _).mono ?_
          rintro r w1 ⟨rfl, rfl⟩
          go_wp2_with (fail)
          refine (hr _).mono ?_
          rintro r w1 ⟨rfl, n, rfl⟩
          go_wp2_with (fail)
          go_returns
          exact out2 HE.out (below_draws HB.out _)
set_option maxHeartbeats 4000000 in
theorem impl_why (v : Value) (R : Rg) (p q : Int) (w : World) (h : RgAt w v R) (hm : Sm R) :
    Calls Try.prog 33 #[v, .int .i64 p, .int .i64 q] w (Out2 (whyE R p q) w) := by
  obtain ⟨A, a, B, b, C, c, rfl, i1, i2, i3⟩ := rg_form h
  have hb : Below w.heap.size w (w.alloc (.cells #[.string R.s, .slice A R.u.length a, .slice B R.d.length b, .int .i64 R.x, .int .i64 R.y, .slice C R.f.length c] 28)) := (Below.refl _ _).alloc (Nat.le_refl _) _
  have HX := BoxN.at w w.heap.size #[.string R.s, .slice A R.u.length a, .slice B R.d.length b, .int .i64 R.x, .int .i64 R.y, .slice C R.f.length c] 28 rfl
  generalize hW : w.alloc (.cells #[.string R.s, .slice A R.u.length a, .slice B R.d.length b, .int .i64 R.x, .int .i64 R.y, .slice C R.f.length c] 28) = W at hb HX
  have hk := impl_validraga _ R W (h.below hb) hm
  have hp := fun W => impl_ispitch p W
  have hq := fun W => impl_ispitch q W
  have HV := Bx.mk h
  have HM := Bx.mk hm
  have h0 := HX.c (k := 0) rfl
  have h1 := HX.c (k := 1) rfl
  have h2 := HX.c (k := 2) rfl
  have h3 := HX.c (k := 3) rfl
  have h4 := HX.c (k := 4) rfl
  have h5 := HX.c (k := 5) rfl
  have hl := HX.lt
  have HXB := Bx.mk HX
  have HB := Bx.mk hb
  have HO : Bx (whyE R p q = if okG R = true then (if inB p (-12) 23 = true ∧ inB q (-12) 23 = true then (if reasonZ R p q = 0 then (0, 3) else (reasonZ R p q, 0)) else (0, 2)) else (0, 1)) := Bx.mk rfl
  clear h i1 i2 i3 hm HX hb
  cases e0 : okG R
  · have HE : Bx (whyE R p q = (0, 1)) := Bx.mk (by rw [HO.out, e0]; rfl)
    rw [e0] at hk
    clear e0 HO 
    go_enter Try.func33, Try.ntmps33
    go_wp2_with (fail)
    refine hk.mono ?_
    rintro r w1 ⟨rfl, hb⟩
    have B1 := Bx.mk (HB.out.trans (hb.mono HB.out.size))
    have X1 := Bx.mk (HXB.out.below hb)
    have h0 := X1.out.c (k := 0) rfl
    have h1 := X1.out.c (k := 1) rfl
    have h2 := X1.out.c (k := 2) rfl
    have h3 := X1.out.c (k := 3) rfl
    have h4 := X1.out.c (k := 4) rfl
    have h5 := X1.out.c (k := 5) rfl
    have hl := X1.out.lt
    clear hb
    go_wp2_with (fail)
    go_returns
    exact out2 HE.out (B1.out)
  · rw [e0] at hk
    cases e1 : inB p (-12) 23
    · have HE : Bx (whyE R p q = (0, 2)) := Bx.mk (by rw [HO.out, e0, e1]; simp)
      rw [e1] at hp
      clear e0 e1 HO 
      go_enter Try.func33, Try.ntmps33
      go_wp2_with (fail)
      refine hk.mono ?_
      rintro r w1 ⟨rfl, hb⟩
      have B1 := Bx.mk (HB.out.trans (hb.mono HB.out.size))
      have X1 := Bx.mk (HXB.out.below hb)
      have h0 := X1.out.c (k := 0) rfl
      have h1 := X1.out.c (k := 1) rfl
      have h2 := X1.out.c (k := 2) rfl
      have h3 := X1.out.c (k := 3) rfl
      have h4 := X1.out.c (k := 4) rfl
      have h5 := X1.out.c (k := 5) rfl
      have hl := X1.out.lt
      clear hb
      go_wp2_with (fail)
      refine (hp _).mono ?_
      rintro r w1 ⟨rfl, rfl⟩
      go_wp2_with (fail)
      go_returns
      exact out2 HE.out (B1.out)
    · rw [e1] at hp
      cases e2 : inB q (-12) 23
      · have HE : Bx (whyE R p q = (0, 2)) := Bx.mk (by rw [HO.out, e0, e1, e2]; simp)
        rw [e2] at hq
        clear e0 e1 e2 HO 
        go_enter Try.func33, Try.ntmps33
        go_wp2_with (fail)
        refine hk.mono ?_
        rintro r w1 ⟨rfl, hb⟩
        have B1 := Bx.mk (HB.out.trans (hb.mono HB.out.size))
        have X1 := Bx.mk (HXB.out.below hb)
        have h0 := X1.out.c (k := 0) rfl
        have h1 := X1.out.c (k := 1) rfl
        have h2 := X1.out.c (k := 2) rfl
        have h3 := X1.out.c (k := 3) rfl
        have h4 := X1.out.c (k := 4) rfl
        have h5 := X1.out.c (k := 5) rfl
        have hl := X1.out.lt
        clear hb
        go_wp2_with (fail)
        refine (hp _).mono ?_
        rintro r w1 ⟨rfl, rfl⟩
        go_wp2_with (fail)
        refine (hq _).mono ?_
        rintro r w1 ⟨rfl, rfl⟩
        go_wp2_with (fail)
        go_returns
        exact out2 HE.out (B1.out)
      · rw [e2] at hq
        have HE : Bx (whyE R p q = if reasonZ R p q = 0 then (0, 3) else (reasonZ R p q, 0)) := Bx.mk (by rw [HO.out, e0, e1, e2]; simp)
        have HOK := Bx.mk (ok_yes e0)
        have HRE := Bx.mk (fun mb n W hS => impl_reason R p q mb n W (ok_yes e0) hS (inB_yes e1) (inB_yes e2))
        generalize reasonZ R p q = z at HRE HE
        clear e0 e1 e2 HO 
        by_cases hz : z = 0
        · subst hz
          have HE : Bx (whyE R p q = (0, 3)) := Bx.mk (HE.out.trans (if_pos rfl))
          go_enter Try.func33, Try.ntmps33
          go_wp2_with (fail)
          refine hk.mono ?_
          rintro r w1 ⟨rfl, hb⟩
          have B1 := Bx.mk (HB.out.trans (hb.mono HB.out.size))
          have X1 := Bx.mk (HXB.out.below hb)
          have h0 := X1.out.c (k := 0) rfl
          have h1 := X1.out.c (k := 1) rfl
          have h2 := X1.out.c (k := 2) rfl
          have h3 := X1.out.c (k := 3) rfl
          have h4 := X1.out.c (k := 4) rfl
          have h5 := X1.out.c (k := 5) rfl
          have hl := X1.out.lt
          clear hb
          go_wp2_with (fail)
          refine (hp _).mono ?_
          rintro r w1 ⟨rfl, rfl⟩
          go_wp2_with (fail)
          refine (hq _).mono ?_
          rintro r w1 ⟨rfl, rfl⟩
          go_wp2_with (fail)
          refine (impl_rules _ R w1 (HV.out.below B1.out) HM.out HOK.out).mono ?_
          rintro r w2 ⟨mb, rfl, hS, hb⟩
          have B2 := Bx.mk (B1.out.trans (hb.mono B1.out.size))
          clear hb
          go_wp2_with (fail)
          refine (HRE.out mb _ w2 hS).mono ?_
          rintro r w3 ⟨rfl, hb⟩
          have B3 := Bx.mk (B2.out.trans (hb.mono B2.out.size))
          clear hb hS
          go_wp2_with (fail)
          go_returns
          exact out2 HE.out (B3.out)
        · have HE : Bx (whyE R p q = (z, 0)) := Bx.mk (HE.out.trans (if_neg hz))
          have hz2 : (z == 0) = false := by simpa using hz
          go_enter Try.func33, Try.ntmps33
          go_wp2_with (fail)
          refine hk.mono ?_
          rintro r w1 ⟨rfl, hb⟩
          have B1 := Bx.mk (HB.out.trans (hb.mono HB.out.size))
          have X1 := Bx.mk (HXB.out.below hb)
          have h0 := X1.out.c (k := 0) rfl
          have h1 := X1.out.c (k := 1) rfl
          have h2 := X1.out.c (k := 2) rfl
          have h3 := X1.out.c (k := 3) rfl
          have h4 := X1.out.c (k := 4) rfl
          have h5 := X1.out.c (k := 5) rfl
          have hl := X1.out.lt
          clear hb
          go_wp2_with (fail)
          refine (hp _).mono ?_
          rintro r w1 ⟨rfl, rfl⟩
          go_wp2_with (fail)
          refine (hq _).mono ?_
          rintro r w1 ⟨rfl, rfl⟩
          go_wp2_with (fail)
          refine (impl_rules _ R w1 (HV.out.below B1.out) HM.out HOK.out).mono ?_
          rintro r w2 ⟨mb, rfl, hS, hb⟩
          have B2 := Bx.mk (B1.out.trans (hb.mono B1.out.size))
          clear hb
          go_wp2_with (fail)
          refine (HRE.out mb _ w2 hS).mono ?_
          rintro r w3 ⟨rfl, hb⟩
          have B3 := Bx.mk (B2.out.trans (hb.mono B2.out.size))
          clear hb hS
          go_wp2_with (fail)
          go_returns
          exact out2 HE.out (B3.out)
end Go.Proofs.Ytjjiibmbaggjoaa
