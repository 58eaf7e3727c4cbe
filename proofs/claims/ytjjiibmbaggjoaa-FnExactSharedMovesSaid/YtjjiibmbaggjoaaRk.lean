/- KindOf on both sides. -/
import Derived.Test.YtjjiibmbaggjoaaRi3
namespace Go.Proofs.Ytjjiibmbaggjoaa
open Go.ChangeShapes Go.WideShapes Go.ChangeAt Go.RowKit
set_option linter.unusedVariables false
set_option linter.unusedSimpArgs false
set_option maxRecDepth 100000

/-- three numbers -/
def Out3 (t : Int × Int × Int) (w : World) (e : Ending) (w' : World) : Prop := e = .returned (.tuple #[.int .i64 t.1, .int .i64 t.2.1, .int .i64 t.2.2]) ∧ Below w.heap.size w w'
theorem out3 {t : Int × Int × Int} {w w' : World} {a b c : Int} (h : t = (a, b, c)) (hb : Below w.heap.size w w') : Out3 t w (.returned (.tuple #[.int .i64 a, .int .i64 b, .int .i64 c])) w' := by
  subst h; exact ⟨rfl, hb⟩
def kindE (R : Rg) : Int × Int × Int := if okG R = true then ((R.u.length : Int), (R.d.length : Int), 0) else (0, 0, 1)
theorem spec_kind (v : Value) (R : Rg) (w : World) (h : RgAt w v R) (hm : Sm R) : Calls Try.prog 28 #[v] w (Out3 (kindE R) w) := by
  obtain ⟨A, a, B, b, C, c, rfl, i1, i2, i3⟩ := rg_form h
  have hb : Below w.heap.size w (w.alloc (.cells #[.string R.s, .slice A R.u.length a, .slice B R.d.length b, .int .i64 R.x, .int .i64 R.y, .slice C R.f.length c] 28)) := (Below.refl _ _).alloc (Nat.le_refl _) _
  have HX := BoxN.at w w.heap.size #[.string R.s, .slice A R.u.length a, .slice B R.d.length b, .int .i64 R.x, .int .i64 R.y, .slice C R.f.length c] 28 rfl
  generalize hW : w.alloc (.cells #[.string R.s, .slice A R.u.length a, .slice B R.d.length b, .int .i64 R.x, .int .i64 R.y, .slice C R.f.length c] 28) = W at hb HX
  have hk := spec_ok5 w.heap.size R W ⟨_, HX, h.below hb⟩ hm
  have h1 := HX.c (k := 1) rfl
  have h2 := HX.c (k := 2) rfl
  have hl := HX.lt
  have HB := Bx.mk hb
  clear h i1 i2 i3 hm HX hb
  cases e0 : okG R
  · have HE : Bx (kindE R = (0, 0, 1)) := Bx.mk (by unfold kindE; rw [e0]; rfl)
    rw [e0] at hk
    clear e0
    go_enter Try.func28, Try.ntmps28
    go_wp2_with (fail)
    refine hk.mono ?_
    rintro r w1 ⟨rfl, n, rfl⟩
    go_wp2_with (fail)
    go_returns
    exact out3 HE.out (below_draws HB.out n)
  · have HE : Bx (kindE R = ((R.u.length : Int), (R.d.length : Int), 0)) := Bx.mk (by unfold kindE; rw [e0]; rfl)
    rw [e0] at hk
    clear e0
    go_enter Try.func28, Try.ntmps28
    go_wp2_with (fail)
    refine hk.mono ?_
    rintro r w1 ⟨rfl, n, rfl⟩
    go_wp2_with (fail)
    go_quiet (fail)
    go_wp2_with (fail)
    go_returns
    exact out3 HE.out (below_draws (below_draws HB.out _) _)
theorem impl_kind (v : Value) (R : Rg) (w : World) (h : RgAt w v R) (hm : Sm R) : Calls Try.prog 29 #[v] w (Out3 (kindE R) w) := by
  obtain ⟨A, a, B, b, C, c, rfl, i1, i2, i3⟩ := rg_form h
  have hb : Below w.heap.size w (w.alloc (.cells #[.string R.s, .slice A R.u.length a, .slice B R.d.length b, .int .i64 R.x, .int .i64 R.y, .slice C R.f.length c] 28)) := (Below.refl _ _).alloc (Nat.le_refl _) _
  have HX := BoxN.at w w.heap.size #[.string R.s, .slice A R.u.length a, .slice B R.d.length b, .int .i64 R.x, .int .i64 R.y, .slice C R.f.length c] 28 rfl
  generalize hW : w.alloc (.cells #[.string R.s, .slice A R.u.length a, .slice B R.d.length b, .int .i64 R.x, .int .i64 R.y, .slice C R.f.length c] 28) = W at hb HX
  have hk := impl_validraga _ R W (h.below hb) hm
  have h0 := HX.c (k := 0) rfl
  have h1 := HX.c (k := 1) rfl
  have h2 := HX.c (k := 2) rfl
  have h3 := HX.c (k := 3) rfl
  have h4 := HX.c (k := 4) rfl
  have h5 := HX.c (k := 5) rfl
  have hl := HX.lt
  have HB := Bx.mk hb
  have HXB := Bx.mk HX
  clear h i1 i2 i3 hm HX hb
  cases e0 : okG R
  · have HE : Bx (kindE R = (0, 0, 1)) := Bx.mk (by unfold kindE; rw [e0]; rfl)
    rw [e0] at hk
    clear e0
    go_enter Try.func29, Try.ntmps29
    go_wp2_with (fail)
    refine hk.mono ?_
    rintro r w1 ⟨rfl, hb⟩
    have B1 := Bx.mk (HB.out.trans (hb.mono HB.out.size))
    clear hb
    go_wp2_with (fail)
    go_returns
    exact out3 HE.out B1.out
  · have HE : Bx (kindE R = ((R.u.length : Int), (R.d.length : Int), 0)) := Bx.mk (by unfold kindE; rw [e0]; rfl)
    rw [e0] at hk
    clear e0
    go_enter Try.func29, Try.ntmps29
    go_wp2_with (fail)
    refine hk.mono ?_
    rintro r w1 ⟨rfl, hb⟩
    have B1 := Bx.mk (HB.out.trans (hb.mono HB.out.size))
    have X1 := HXB.out.below hb
    have h1 := X1.c (k := 1) rfl
    have h2 := X1.c (k := 2) rfl
    have hl := X1.lt
    clear hb X1
    go_wp2_with (fail)
    go_quiet (fail)
    go_wp2_with (fail)
    go_returns
    exact out3 HE.out (below_draws B1.out _)
end Go.Proofs.Ytjjiibmbaggjoaa
