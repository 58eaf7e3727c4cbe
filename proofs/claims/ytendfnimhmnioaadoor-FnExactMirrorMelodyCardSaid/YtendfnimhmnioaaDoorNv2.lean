/- TransposeMelody and MirrorMelody: the program. -/
import Derived.Test.YtendfnimhmnioaaDoorNv
import Derived.RangeFuncCalls
namespace Go.Proofs.YtendfnimhmnioaaDoor
open Go.ChangeShapes Go.WideShapes Go.ChangeAt Go.RowKit
set_option linter.unusedVariables false
set_option linter.unusedSimpArgs false
set_option maxRecDepth 100000

theorem mkf9 : ∀ (fn : Fn) (first cap : Array Value) (w : World), (Instr.makeFunc fn first cap).run Tryd.prog w = .ok (.func fn first cap) w := fun _ _ _ _ => rfl
theorem er_not {n lo hi : Int} (h : inB n lo hi = false) (h1 : lo ≤ n) : ¬ n ≤ hi := fun h2 => by
  have : inB n lo hi = true := by simp only [inB, Bool.and_eq_true, decide_eq_true_eq]; exact ⟨h1, h2⟩
  rw [h] at this; cases this
theorem impl_tr1 (n x : Int) (g : Nat) (w : World) (hn : -35 ≤ n ∧ n ≤ 35) (hx : -12 ≤ x ∧ x ≤ 23) (h : w.cell? ⟨g, 0, none⟩ = some (.int .i64 n)) (hl : g < w.heap.size) :
    Calls Tryd.prog 39 #[.int .i64 x, .pointer (some ⟨g, 0, none⟩)] w fun e w' => e = .returned (.int .i64 (x + n)) ∧ w' = w := by
  have y0 : IntKind.i64.wrap (x + n) = x + n := IntWalk.i64_in _ (by omega)
  go_enter Tryd.func39, Tryd.ntmps39
  go_wp2
  go_ret
  exact ⟨rfl, rfl⟩
theorem impl_mi1 (n x : Int) (g : Nat) (w : World) (hn : -12 ≤ n ∧ n ≤ 23) (hx : -12 ≤ x ∧ x ≤ 23) (h : w.cell? ⟨g, 0, none⟩ = some (.int .i64 n)) (hl : g < w.heap.size) :
    Calls Tryd.prog 43 #[.int .i64 x, .pointer (some ⟨g, 0, none⟩)] w fun e w' => e = .returned (.int .i64 (2 * n - x)) ∧ w' = w := by
  have y0 : IntKind.i64.wrap (2 * n) = 2 * n := IntWalk.i64_in _ (by omega)
  have y1 : IntKind.i64.wrap (2 * n - x) = 2 * n - x := IntWalk.i64_in _ (by omega)
  go_enter Tryd.func43, Tryd.ntmps43
  go_wp2
  go_ret
  exact ⟨rfl, rfl⟩
set_option maxHeartbeats 4000000 in
theorem impl_transpose (v : Value) (l : List (Int × Int)) (n : Int) (a b : Addr) (w : World) (h : PrsAt w v l) (he : Er w a b) (hm : l.length ≤ 1048576) :
    Calls Tryd.prog 14 #[v, .int .i64 n] w (NtOut (trE l n).1 (.int .i64 (trE l n).2) w) := by
  have hq := fun W h => impl_validmelody v l W h hm
  have h' := h
  obtain ⟨A, c, rfl⟩ := prs_len h'
  have hB : Below w.heap.size w (w.alloc (.cells #[.int .i64 n] 2)) := (Below.refl _ _).alloc (Nat.le_refl _) _
  have hX := BoxN.at w w.heap.size #[.int .i64 n] 2 rfl
  have HI := Bx.mk (h.below hB)
  have HE := Bx.mk (he.below hB)
  have HB := Bx.mk hB
  have HX := Bx.mk hX
  have hmf := mkf9
  clear h h' he hm
  cases hok : okM l
  · have HR : Bx (trE l n = ([], 1)) := Bx.mk (by simp [trE, hok])
    rw [hok] at hq
    rw [HR.out]
    clear hok hB hX
    go_enter Tryd.func14, Tryd.ntmps14
    go_wp2_with (fail)
    refine (hq _ HI.out).mono ?_
    rintro r w1 ⟨rfl, hb1⟩
    have B1 := Bx.mk (HB.out.trans (hb1.mono HB.out.size))
    clear hb1
    go_wp2_with (fail)
    go_ret2
    exact ⟨_, rfl, World.ownsRow_nil _ _ _ _, B1.out⟩
  · rw [hok] at hq
    cases hin : inB n (-35) 35
    · have HR : Bx (trE l n = ([], 2)) := Bx.mk (by simp [trE, hok, hin])
      rw [HR.out]
      have HIN := Bx.mk hin
      clear hok hB hX
      by_cases hlo : n < -35
      · have d1 : decide (n < -35) = true := decide_eq_true hlo
        go_enter Tryd.func14, Tryd.ntmps14
        go_wp2_with (fail)
        refine (hq _ HI.out).mono ?_
        rintro r w1 ⟨rfl, hb1⟩
        have B1 := Bx.mk (HB.out.trans (hb1.mono HB.out.size))
        have X1 := Bx.mk (HX.out.below hb1)
        have x0 := X1.out.c (k := 0) rfl
        have xl := X1.out.lt
        clear hb1 HX HI HE HB
        go_wp2_with (fail)
        go_ret2
        exact ⟨_, rfl, World.ownsRow_nil _ _ _ _, B1.out⟩
      · have d1 : decide (n < -35) = false := decide_eq_false hlo
        have d2 : decide (n > 35) = true := decide_eq_true (by have := er_not HIN.out (by omega); omega)
        have d3 : n > 35 := by have := er_not HIN.out (by omega); omega
        go_enter Tryd.func14, Tryd.ntmps14
        go_wp2_with (fail)
        refine (hq _ HI.out).mono ?_
        rintro r w1 ⟨rfl, hb1⟩
        have B1 := Bx.mk (HB.out.trans (hb1.mono HB.out.size))
        have X1 := Bx.mk (HX.out.below hb1)
        have x0 := X1.out.c (k := 0) rfl
        have xl := X1.out.lt
        clear hb1 HX HI HE HB
        go_wp2_with (fail)
        go_ret2
        exact ⟨_, rfl, World.ownsRow_nil _ _ _ _, B1.out⟩

    · have HR : Bx (trE l n = donE (l.map (piF (fun x => x + n)))) := Bx.mk (by
        unfold trE
        rw [if_pos hok, if_pos hin]
        rfl)
      rw [HR.out]
      obtain ⟨n1, n2⟩ := inB_yes hin
      have d1 : decide (n < -35) = false := decide_eq_false (by omega)
      have d2 : decide (n > 35) = false := decide_eq_false (by omega)
      have d3 : ¬ n > 35 := by omega
      have d4 : ¬ n < -35 := by omega
      have hw := fun W h1 h2 h3 h4 => impl_with A c l 39 w.heap.size n (fun x => x + n) a b W h1 hok h2 h3 h4 (enters_of Tryd.func39 (by kernel_rfl) rfl) (Bx.mk (fun x W hx hc hl => impl_tr1 n x w.heap.size W ⟨n1, n2⟩ hx hc hl))
      clear hin hB hX hok
      go_enter Tryd.func14, Tryd.ntmps14
      go_wp2_with (fail)
      refine (hq _ HI.out).mono ?_
      rintro r w1 ⟨rfl, hb1⟩
      have B1 := Bx.mk (HB.out.trans (hb1.mono HB.out.size))
      have X1 := Bx.mk (HX.out.below hb1)
      have I1 := Bx.mk (HI.out.below hb1)
      have E1 := Bx.mk (HE.out.below hb1)
      clear hb1 HX HI HE HB
      have x0 := X1.out.c (k := 0) rfl
      have xl := X1.out.lt
      go_wp2_with (fail)
      refine (hw _ I1.out E1.out X1.out.lt (X1.out.c (k := 0) rfl)).mono ?_
      rintro r w2 ⟨v2, rfl, ho, hb2⟩
      have HO := Bx.mk (own_downP (b1 := w.heap.size) B1.out.size ho)
      have B2 := Bx.mk (B1.out.trans (hb2.mono B1.out.size))
      obtain ⟨A2, c2, ev⟩ := own_len ho
      subst ev
      clear ho hb2
      go_wp2_with (fail)
      go_ret2
      exact ⟨_, rfl, HO.out, B2.out⟩
set_option maxHeartbeats 4000000 in
theorem impl_mirror (v : Value) (l : List (Int × Int)) (n : Int) (a b : Addr) (w : World) (h : PrsAt w v l) (he : Er w a b) (hm : l.length ≤ 1048576) :
    Calls Tryd.prog 19 #[v, .int .i64 n] w (NtOut (miE l n).1 (.int .i64 (miE l n).2) w) := by
  have hq := fun W h => impl_validmelody v l W h hm
  have h' := h
  obtain ⟨A, c, rfl⟩ := prs_len h'
  have hB : Below w.heap.size w (w.alloc (.cells #[.int .i64 n] 2)) := (Below.refl _ _).alloc (Nat.le_refl _) _
  have hX := BoxN.at w w.heap.size #[.int .i64 n] 2 rfl
  have HI := Bx.mk (h.below hB)
  have HE := Bx.mk (he.below hB)
  have HB := Bx.mk hB
  have HX := Bx.mk hX
  have hmf := mkf9
  clear h h' he hm
  cases hok : okM l
  · have HR : Bx (miE l n = ([], 1)) := Bx.mk (by simp [miE, hok])
    rw [hok] at hq
    rw [HR.out]
    clear hok hB hX
    go_enter Tryd.func19, Tryd.ntmps19
    go_wp2_with (fail)
    refine (hq _ HI.out).mono ?_
    rintro r w1 ⟨rfl, hb1⟩
    have B1 := Bx.mk (HB.out.trans (hb1.mono HB.out.size))
    clear hb1
    go_wp2_with (fail)
    go_ret2
    exact ⟨_, rfl, World.ownsRow_nil _ _ _ _, B1.out⟩
  · rw [hok] at hq
    cases hin : inB n (-12) 23
    · have HR : Bx (miE l n = ([], 2)) := Bx.mk (by simp [miE, hok, hin])
      rw [HR.out]
      have HIN := Bx.mk hin
      clear hok hB hX
      have hp := fun W => impl_ispitch n W
      rw [HIN.out] at hp

      go_enter Tryd.func19, Tryd.ntmps19
      go_wp2_with (fail)
      refine (hq _ HI.out).mono ?_
      rintro r w1 ⟨rfl, hb1⟩
      have B1 := Bx.mk (HB.out.trans (hb1.mono HB.out.size))
      have X1 := Bx.mk (HX.out.below hb1)
      have x0 := X1.out.c (k := 0) rfl
      have xl := X1.out.lt
      clear hb1 HX HI HE HB
      go_wp2_with (fail)
      refine (hp _).mono ?_
      rintro r w2 ⟨rfl, rfl⟩
      go_wp2_with (fail)
      go_ret2
      exact ⟨_, rfl, World.ownsRow_nil _ _ _ _, B1.out⟩

    · have HR : Bx (miE l n = donE (l.map (piF (fun x => 2 * n - x)))) := Bx.mk (by
        unfold miE
        rw [if_pos hok, if_pos hin]
        rfl)
      rw [HR.out]
      obtain ⟨n1, n2⟩ := inB_yes hin
      have hp := fun W => impl_ispitch n W
      rw [hin] at hp
      have hw := fun W h1 h2 h3 h4 => impl_with A c l 43 w.heap.size n (fun x => 2 * n - x) a b W h1 hok h2 h3 h4 (enters_of Tryd.func43 (by kernel_rfl) rfl) (Bx.mk (fun x W hx hc hl => impl_mi1 n x w.heap.size W ⟨n1, n2⟩ hx hc hl))
      clear hin hB hX hok
      go_enter Tryd.func19, Tryd.ntmps19
      go_wp2_with (fail)
      refine (hq _ HI.out).mono ?_
      rintro r w1 ⟨rfl, hb1⟩
      have B1 := Bx.mk (HB.out.trans (hb1.mono HB.out.size))
      have X1 := Bx.mk (HX.out.below hb1)
      have I1 := Bx.mk (HI.out.below hb1)
      have E1 := Bx.mk (HE.out.below hb1)
      clear hb1 HX HI HE HB
      have x0 := X1.out.c (k := 0) rfl
      have xl := X1.out.lt
      go_wp2_with (fail)
      refine (hp _).mono ?_
      rintro r w2 ⟨rfl, rfl⟩
      go_wp2_with (fail)
      refine (hw _ I1.out E1.out X1.out.lt (X1.out.c (k := 0) rfl)).mono ?_
      rintro r w2 ⟨v2, rfl, ho, hb2⟩
      have HO := Bx.mk (own_downP (b1 := w.heap.size) B1.out.size ho)
      have B2 := Bx.mk (B1.out.trans (hb2.mono B1.out.size))
      obtain ⟨A2, c2, ev⟩ := own_len ho
      subst ev
      clear ho hb2
      go_wp2_with (fail)
      go_ret2
      exact ⟨_, rfl, HO.out, B2.out⟩
end Go.Proofs.YtendfnimhmnioaaDoor
