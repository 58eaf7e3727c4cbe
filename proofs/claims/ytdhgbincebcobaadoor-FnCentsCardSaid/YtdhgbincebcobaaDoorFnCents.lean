/- 'laws.FnCents' returns true at every two inputs. -/
import Derived.Test.YtdhgbincebcobaaDoorRatLaw3
import Derived.Test.YtdhgbincebcobaaDoorRatD2
import Derived.Test.YtdhgbincebcobaaDoorB10
import Derived.Test.YtdhgbincebcobaaDoorLawR
import Derived.Test.YtdhgbincebcobaaDoorRatT
import Derived.Test.YtdhgbincebcobaaDoorRatU
import Derived.Deep.CutRange
namespace Go.Proofs.YtdhgbincebcobaaDoor.fnCents
open Go.ChangeShapes Go.WideShapes Go.ChangeAt Go.RowKit
set_option linter.unusedVariables false
set_option linter.unusedSimpArgs false
set_option maxRecDepth 100000

/-- what the first test looks at -/
def Rises (t1 t2 t3 : Int × Int) : Prop := t1.2 ≠ 0 ∨ (t1.2 = 0 ∧ t2.2 ≠ 0) ∨ (t1.2 = 0 ∧ t2.2 = 0 ∧ t3.2 = 0 ∧ ((t3.1 = -1 ∧ t1.1 ≤ t2.1) ∨ (t3.1 = 1 ∧ t2.1 ≤ t1.1) ∨ (t3.1 = 0 ∧ t1.1 = t2.1)))
theorem rises (n d m e : Int) : Rises (centE n d) (centE m e) (cmpE n d m e) := by
  unfold Rises centE cmpE
  cases h1 : okR n d
  · left; simp
  · cases h2 : okR m e
    · right; left; simp
    · right; right
      obtain ⟨n1, d1, _⟩ := okR_yes h1
      obtain ⟨m1, e1, _⟩ := okR_yes h2
      refine ⟨by simp, by simp, by simp, ?_⟩
      simp only [if_true, Bool.and_self]
      unfold cmpR
      by_cases c1 : n * e < m * d
      · left; rw [if_pos c1]; exact ⟨rfl, cents_mono n1.1 d1.1 m1.1 e1.1 (by omega)⟩
      · rw [if_neg c1]
        by_cases c2 : m * d < n * e
        · right; left; rw [if_pos c2]; exact ⟨rfl, cents_mono m1.1 e1.1 n1.1 d1.1 (by omega)⟩
        · right; right; rw [if_neg c2]; exact ⟨rfl, cents_same n1.1 d1.1 m1.1 e1.1 (by omega)⟩
/-- what the second test looks at -/
theorem octaves (n d : Int) : (octE n d).2.2 ≠ 0 ∨ ((octE n d).2.2 = 0 ∧ (centE n d).2 = 0 ∧ (centE (octE n d).1.1 (octE n d).1.2).2 = 0 ∧ (octE n d).1.2 ≤ (octE n d).1.1 ∧ (octE n d).1.1 < 2 * (octE n d).1.2 ∧ (centE n d).1 = (centE (octE n d).1.1 (octE n d).1.2).1 + 120000 * (octE n d).2.1 ∧ (1 ≤ (octE n d).1.2 ∧ (octE n d).1.2 ≤ 1000000) ∧ (-2000000 ≤ (octE n d).2.1 ∧ (octE n d).2.1 ≤ 2000000) ∧ (-400000000000 ≤ (centE n d).1 ∧ (centE n d).1 ≤ 400000000000) ∧ (-400000000000 ≤ (centE (octE n d).1.1 (octE n d).1.2).1 ∧ (centE (octE n d).1.1 (octE n d).1.2).1 ≤ 400000000000)) := by
  by_cases hc : (octE n d).2.2 = 0
  · right
    cases hn : okR n d
    · exfalso; unfold octE at hc; rw [hn] at hc; simp at hc
    · rcases hE : octE n d with ⟨⟨x, y⟩, k, c⟩
      rw [hE] at hc
      simp only at hc
      subst hc
      obtain ⟨ok, l1, l2, hz⟩ := octE_is hn hE
      obtain ⟨n1, d1, _⟩ := okR_yes hn
      obtain ⟨x1, y1, _⟩ := okR_yes ok
      have b1 := cents_bd n1 d1
      have b2 := cents_bd x1 y1
      have hk : -2000000 ≤ k ∧ k ≤ 2000000 := by
        have := octP_bd (octN_spec n1.1 d1.1) n1 d1
        unfold octE at hE
        rw [if_pos hn] at hE
        split at hE
        · injection hE with _ e2
          injection e2 with e2 _
          omega
        · injection hE with _ e2
          injection e2 with e2 e3
          cases e3
      unfold centE
      rw [hn, ok]
      simp only [if_true]
      exact ⟨trivial, trivial, trivial, l1, l2, hz, y1, hk, b1, b2⟩
  · left; exact hc
/-- what the third test looks at -/
theorem bests (c m : Int) : (bestE c m).2.2 ≠ 0 ∧ (bestE c m).1.1 = 0 ∨ ((bestE c m).2.2 = 0 ∧ (centE (bestE c m).1.1 (bestE c m).1.2).2 = 0 ∧ okR (bestE c m).1.1 (bestE c m).1.2 = true ∧ (bestE c m).1.2 ≤ m ∧ (1 ≤ m ∧ m ≤ 64) ∧
    max ((centE (bestE c m).1.1 (bestE c m).1.2).1 - c) (-((centE (bestE c m).1.1 (bestE c m).1.2).1 - c)) = (bestE c m).2.1 ∧ (-400000000000 ≤ (centE (bestE c m).1.1 (bestE c m).1.2).1 ∧ (centE (bestE c m).1.1 (bestE c m).1.2).1 ≤ 400000000000) ∧
    ∀ num den : Int, 1 ≤ den → den ≤ m → den ≤ num → num ≤ 2 * den → (redR num den).2.2 = 0 ∧ (centE (redR num den).1 (redR num den).2.1).2 = 0 ∧ (-400000000000 ≤ (centE (redR num den).1 (redR num den).2.1).1 ∧ (centE (redR num den).1 (redR num den).2.1).1 ≤ 400000000000) ∧ (bestE c m).2.1 ≤ max ((centE (redR num den).1 (redR num den).2.1).1 - c) (-((centE (redR num den).1 (redR num den).2.1).1 - c))) := by
  rcases hE : bestE c m with ⟨⟨p, q⟩, off, code⟩
  by_cases hc : code = 0
  · right
    subst hc
    obtain ⟨ok, hq, hd, hm, hall⟩ := best_is hE
    obtain ⟨p1, q1, _⟩ := okR_yes ok
    have b1 := cents_bd p1 q1
    have hcE : centE p q = (centsZ p q, 0) := by unfold centE; rw [if_pos ok]
    simp only [hcE]
    refine ⟨trivial, trivial, ok, hq, hm, ?_, b1, fun num den d1 d2 n1 n2 => ?_⟩
    · rw [← hd]; unfold dist; omega
    · obtain ⟨x, y, hdn, okx, hle⟩ := hall num den d1 d2 n1 n2
      obtain ⟨x1, y1, _⟩ := okR_yes okx
      have b2 := cents_bd x1 y1
      have hr : redR num den = (x, y, 0) := by
        unfold redR
        rw [if_pos (by simp [inB]; omega), hdn]
      have hcx : centE x y = (centsZ x y, 0) := by unfold centE; rw [if_pos okx]
      rw [hr]
      simp only [hcx]
      refine ⟨trivial, trivial, b2, ?_⟩
      unfold dist at hle
      omega
  · left
    refine ⟨hc, ?_⟩
    unfold bestE at hE
    split at hE
    · injection hE with _ e2
      injection e2 with _ e3
      exact absurd e3.symm hc
    · injection hE with e1 _
      injection e1 with e1 _
      exact e1.symm

set_option maxHeartbeats 8000000 in
set_option maxRecDepth 100000 in
theorem walk (v : Value) (n : Nat) {w : World} (hv : BytesAt w v n ∧ n ≤ 9223372036854775807) (u : Value) (m : Nat) (hu : BytesAt w u m ∧ m ≤ 9223372036854775807) {ps : List MemPlace} (hlv : DataW.LaidVars Tryd.prog w Rows.fnCentsRow.laid ps) :
    Calls Tryd.prog 5 #[v, u] w fun e w' => e = .returned (.bool true) ∧ Below w.heap.size w w' := by
  have HT : Bx (∀ W, Below w.heap.size w W → StepTab W) := Bx.mk (fun W hb => (steptab_of hlv (.head _)).below hb)
  clear hlv
  obtain ⟨hv, hn⟩ := hv
  obtain ⟨hu, hm⟩ := hu
  have HB := Bx.mk hv
  have HC := Bx.mk hu
  have hv2 := hv
  have hu2 := hu
  obtain ⟨A, c, rfl, _⟩ := hv2
  obtain ⟨B, d, rfl, _⟩ := hu2
  clear hv hu
  have hl1 := fun W => b10_long A n c W (by omega)
  have hl2 := fun W => b10_long B m d W (by omega)
  go_enter Tryd.func5, Tryd.ntmps5
  go_wp2_with (fail)
  refine (hl1 _).mono ?_
  rintro e w' ⟨⟨b, rfl, hb⟩, rfl⟩
  cases b
  case true =>
    clear hb
    go_wp2_with (fail)
    go_ret
    exact ⟨rfl, Below.refl _ _⟩
  have hn1 := hb rfl
  clear hb
  go_wp2_with (fail)
  refine (hl2 _).mono ?_
  rintro e w' ⟨⟨b, rfl, hb⟩, rfl⟩
  cases b
  case true =>
    clear hb
    go_wp2_with (fail)
    go_ret
    exact ⟨rfl, Below.refl _ _⟩
  have hm1 := hb rfl
  clear hb hl1 hl2
  go_wp2_with (fail)
  refine (draw_compare _ n w HB.out (by omega)).mono ?_
  rintro e w1 ho
  obtain ⟨p, q, r, s, rfl, hb⟩ := tworats_parts ho
  have H1 := Bx.mk ((Holds.start w).below hb)
  clear ho hb
  have hs1 : w1.heap.size ≠ w1.heap.size + 1 := by omega
  have H2 := Bx.mk ((H1.out.pair (.int .i64 p) (.int .i64 q) 40 (0, 0)).pair (.int .i64 r) (.int .i64 s) 40 (0, 0))
  have hsz : (w1.alloc (.cells #[.int .i64 p, .int .i64 q] 40)).heap.size = w1.heap.size + 1 := by simp
  rw [hsz] at H2
  clear hsz
  have hRS := rises p q r s
  have hc1 := fun W h => two_open' (impl_centsof p q W h)
  have hc2 := fun W h => two_open' (impl_centsof r s W h)
  have hc3 := two_open (fun W => impl_compare p q r s W)
  simp only [rat] at hc1 hc2 hc3
  generalize centE p q = t1 at hc1 hRS
  generalize centE r s = t2 at hc2 hRS
  generalize cmpE p q r s = t3 at hc3 hRS
  have RS := Bx.mk hRS
  clear hRS
  go_wp2_with (fail)
  refine (hc1 _ (HT.out _ H2.out.2)).mono ?_
  rintro e w3 ⟨rfl, hb⟩
  have H3 := Bx.mk (H2.out.below hb)
  clear hb
  have b0 := H3.out.get (g := w1.heap.size + 1) (k := 0) (v := .int .i64 r) (by simp)
  have b1 := H3.out.get (g := w1.heap.size + 1) (k := 1) (v := .int .i64 s) (by simp)
  have bl := H3.out.lt (g := w1.heap.size + 1) (k := 1) (v := .int .i64 s) (by simp)
  have a0 := H3.out.get (g := w1.heap.size) (k := 0) (v := .int .i64 p) (by simp)
  have a1 := H3.out.get (g := w1.heap.size) (k := 1) (v := .int .i64 q) (by simp)
  have al := H3.out.lt (g := w1.heap.size) (k := 1) (v := .int .i64 q) (by simp)
  go_wp2_with (fail)
  refine (hc2 _ (HT.out _ H3.out.2)).mono ?_
  rintro e w4 ⟨rfl, hb⟩
  have H4 := Bx.mk (H3.out.below hb)
  clear hb
  clear a0 a1 al b0 b1 bl
  have b0 := H4.out.get (g := w1.heap.size + 1) (k := 0) (v := .int .i64 r) (by simp)
  have b1 := H4.out.get (g := w1.heap.size + 1) (k := 1) (v := .int .i64 s) (by simp)
  have bl := H4.out.lt (g := w1.heap.size + 1) (k := 1) (v := .int .i64 s) (by simp)
  have a0 := H4.out.get (g := w1.heap.size) (k := 0) (v := .int .i64 p) (by simp)
  have a1 := H4.out.get (g := w1.heap.size) (k := 1) (v := .int .i64 q) (by simp)
  have al := H4.out.lt (g := w1.heap.size) (k := 1) (v := .int .i64 q) (by simp)
  go_wp2_with (fail)
  refine (hc3 _).mono ?_
  rintro e w5 ⟨rfl, hb⟩
  have H5 := Bx.mk (H4.out.below hb)
  clear hb
  clear a0 a1 al b0 b1 bl hc1 hc2 hc3 H1 H2 H3 H4
  have BB := Bx.mk H5.out.2
  clear H5
  obtain ⟨x1, o1⟩ := t1
  obtain ⟨x2, o2⟩ := t2
  obtain ⟨x3, o3⟩ := t3
  go_upto_region 7 with (fail)
  go_cut [97] from 34 (fun t wx => t = .bool false ∧ wx = w5)
  case first =>
    have hR := RS.out
    unfold Rises at hR
    simp only at hR
    rcases hR with hR | ⟨rfl, hR⟩ | ⟨rfl, rfl, rfl, ⟨rfl, hR⟩ | ⟨rfl, hR⟩ | ⟨rfl, rfl⟩⟩
    · have hb1 : (o1 == 0) = false := by simpa using hR
      go_wp2_with (fail)
      go_meet
      case rel => exact ⟨rfl, rfl⟩
    · have hb1 : (o2 == 0) = false := by simpa using hR
      go_wp2_with (fail)
      go_meet
      case rel => exact ⟨rfl, rfl⟩
    · have hb1 : decide (x2 < x1) = false := by simpa using hR
      go_wp2_with (fail)
      go_meet
      case rel => exact ⟨rfl, rfl⟩
    · have hb1 : decide (x1 < x2) = false := by simpa using hR
      go_wp2_with (fail)
      go_meet
      case rel => exact ⟨rfl, rfl⟩
    · go_wp2_with (fail)
      go_meet
      case rel => exact ⟨rfl, rfl⟩
  case rest =>
  obtain ⟨rfl, rfl⟩ := hcut
  clear RS
  have HB2 := Bx.mk (HB.out.below BB.out)
  have HC2 := Bx.mk (HC.out.below BB.out)
  go_wp2_with (fail)
  refine (draw_octaveof _ m wc HC2.out (by omega)).mono ?_
  rintro e w6 ho
  obtain ⟨p, q, rfl, hb⟩ := onerat_parts ho
  have H1 := Bx.mk ((Holds.start wc).below hb)
  have H2 := Bx.mk (H1.out.pair (.int .i64 p) (.int .i64 q) 40 (0, 0))
  clear ho hb
  have hOC := octaves p q
  have ho1 := octe_open (fun W => impl_octaveof p q W)
  have ho2 := fun W h => two_open' (impl_centsof p q W h)
  have ho3 := fun W h => two_open' (impl_centsof (octE p q).1.1 (octE p q).1.2 W h)
  generalize centE (octE p q).1.1 (octE p q).1.2 = t6 at *
  generalize centE p q = t5 at *
  generalize octE p q = t4 at *
  obtain ⟨⟨x, y⟩, k, o4⟩ := t4
  obtain ⟨x5, o5⟩ := t5
  obtain ⟨x6, o6⟩ := t6
  simp only [rat] at ho1 ho2 ho3 hOC
  have OC := Bx.mk hOC
  clear hOC
  have c0 := H2.out.get (g := w6.heap.size) (k := 0) (v := .int .i64 p) (by simp)
  have c1 := H2.out.get (g := w6.heap.size) (k := 1) (v := .int .i64 q) (by simp)
  go_wp2_with (fail)
  refine (ho1 _).mono ?_
  rintro e w7 ⟨rfl, hb⟩
  have H3 := Bx.mk ((H2.out.below hb).pair (.int .i64 x) (.int .i64 y) 40 (0, 0))
  clear hb c0 c1
  go_upto_if 107 with (fail)
  go_cut [17, 18, 19, 20] from 34 (fun a b c d wx => Below w.heap.size w wx)
  case first =>
    rcases OC.out with h | ⟨rfl, rfl, rfl, l1, l2, hx, ⟨y1, y2⟩, ⟨k1, k2⟩, ⟨a1, a2⟩, ⟨b1, b2⟩⟩
    · have hb1 : (o4 == 0) = false := by simpa using h
      clear OC h ho1 ho2 ho3
      go_wp2_with (fail)
      go_meet
      case rel => exact BB.out.trans (H3.out.2.mono BB.out.size)
    · have E1 : IntKind.i64.wrap (120000 * k) = 120000 * k := IntWalk.i64_in _ (by omega)
      have E2 : IntKind.i64.wrap (x6 + 120000 * k) = x6 + 120000 * k := IntWalk.i64_in _ (by omega)
      have E3 : (x5 != x6 + 120000 * k) = false := by simp [hx]
      have E4 : decide (x < y) = false := by simp; omega
      have E5 : IntKind.i64.wrap (2 * y) = 2 * y := IntWalk.i64_in _ (by omega)
      have E6 : decide (2 * y ≤ x) = false := by simp; omega
      clear OC hx l1 l2 y1 y2 k1 k2 a1 a2 b1 b2 ho1
      have c0 := H3.out.get (g := w6.heap.size) (k := 0) (v := .int .i64 p) (by simp)
      have c1 := H3.out.get (g := w6.heap.size) (k := 1) (v := .int .i64 q) (by simp)
      go_wp2_with (fail)
      refine (ho2 _ (HT.out _ (BB.out.trans (H3.out.2.mono BB.out.size)))).mono ?_
      rintro e w8 ⟨rfl, hb⟩
      have H4 := Bx.mk (H3.out.below hb)
      clear hb c0 c1
      have d0 := H4.out.get (g := w7.heap.size) (k := 0) (v := .int .i64 x) (by simp)
      have d1 := H4.out.get (g := w7.heap.size) (k := 1) (v := .int .i64 y) (by simp)
      go_wp2_with (fail)
      refine (ho3 _ (HT.out _ (BB.out.trans (H4.out.2.mono BB.out.size)))).mono ?_
      rintro e w9 ⟨rfl, hb⟩
      have H5 := Bx.mk (H4.out.below hb)
      clear hb d0 d1 ho2 ho3
      have d0 := H5.out.get (g := w7.heap.size) (k := 0) (v := .int .i64 x) (by simp)
      have d1 := H5.out.get (g := w7.heap.size) (k := 1) (v := .int .i64 y) (by simp)
      go_wp2_with (fail)
      go_meet
      case rel => exact BB.out.trans (H5.out.2.mono BB.out.size)
  case rest =>
  clear HB2 HC2 H1 H2 H3 OC ho1 ho2 ho3 BB
  have BB := Bx.mk hcut
  clear hcut
  have HB2 := Bx.mk (HB.out.below BB.out)
  have HC2 := Bx.mk (HC.out.below BB.out)
  go_wp2_with (fail)
  refine (draw_best _ m wc HC2.out (by omega)).mono ?_
  rintro e w6 ho
  obtain ⟨cc, mm, rfl, ⟨cc1, cc2⟩, ⟨mm1, mm2⟩, hb⟩ := bestdraw_parts ho
  have H1 := Bx.mk ((Holds.start wc).below hb)
  clear ho hb
  have hBE := bests cc mm
  have ho1 := fun W h => octe_open' (impl_best cc mm W h)
  generalize bestE cc mm = t1 at *
  obtain ⟨⟨x, y⟩, off, o1⟩ := t1
  simp only at hBE ho1
  have ho2 := fun W h => two_open' (impl_centsof x y W h)
  generalize centE x y = t2 at *
  obtain ⟨own, o2⟩ := t2
  simp only [rat] at hBE ho2
  have BE := Bx.mk hBE
  clear hBE
  go_wp2_with (fail)
  refine (ho1 _ (HT.out _ (BB.out.trans (H1.out.2.mono BB.out.size)))).mono ?_
  rintro e w7 ⟨rfl, hb⟩
  have H2 := Bx.mk ((H1.out.below hb).pair (.int .i64 x) (.int .i64 y) 40 (0, 0))
  clear hb
  have d0 := H2.out.get (g := w7.heap.size) (k := 0) (v := .int .i64 x) (by simp)
  have d1 := H2.out.get (g := w7.heap.size) (k := 1) (v := .int .i64 y) (by simp)
  rcases BE.out with ⟨h1, rfl⟩ | ⟨rfl, rfl, hok, hym, ⟨m1, m2⟩, hoff, ⟨a1, a2⟩, hall⟩
  · have hb1 : (o1 != 0) = true := by simpa using h1
    clear BE h1 ho1 ho2
    go_wp2_with (fail)
    go_ret
    exact ⟨rfl, BB.out.trans (H2.out.2.mono BB.out.size)⟩
  · clear BE ho1
    have HA := Bx.mk hall
    clear hall
    go_wp2_with (fail)
    refine (ho2 _ (HT.out _ (BB.out.trans (H2.out.2.mono BB.out.size)))).mono ?_
    rintro e w8 ⟨rfl, hb⟩
    have H3 := Bx.mk (H2.out.below hb)
    clear hb d0 d1 ho2
    have hab := fun W => b10_abs (own - cc) W (by omega)
    rw [hoff] at hab
    have hva := fun W => spec_valid x y W
    rw [hok] at hva
    unfold rat at hva
    have E1 : IntKind.i64.wrap (own - cc) = own - cc := IntWalk.i64_in _ (by omega)
    have E2 : decide (mm < y) = false := by simp; omega
    have d0 := H3.out.get (g := w7.heap.size) (k := 0) (v := .int .i64 x) (by simp)
    have d1 := H3.out.get (g := w7.heap.size) (k := 1) (v := .int .i64 y) (by simp)
    clear hym hoff hok
    go_wp2_with (fail)
    refine (hab _).mono ?_
    rintro e w9 ⟨rfl, rfl⟩
    go_wp2_with (fail)
    refine (hva _).mono ?_
    rintro e w9 ⟨rfl, hb⟩
    have H4 := Bx.mk (H3.out.below hb)
    clear hb d0 d1 H1 H2 H3 E1 E2 hab hva HB2
    have HB3 := Bx.mk (HB.out.below (BB.out.trans (H4.out.2.mono BB.out.size)))
    go_wp2_with (fail)
    refine (b10_at _ n 0 mm _ HB3.out (by omega) (by omega) (by omega)).mono ?_
    rintro e w10 ⟨⟨z1, rfl, hz1, hz2⟩, rfl⟩
    have E1 : IntKind.i64.wrap (1 + z1) = 1 + z1 := IntWalk.i64_in _ (by omega)
    have E2 : IntKind.i64.wrap (1 + z1 + 1) = 1 + z1 + 1 := IntWalk.i64_in _ (by omega)
    have E2b : IntKind.i64.wrap (2 + z1) = 2 + z1 := IntWalk.i64_in _ (by omega)
    go_wp2_with (fail)
    refine (b10_at _ n 1 (1 + z1 + 1) _ HB3.out (by omega) (by omega) (by omega)).mono ?_
    rintro e w10 ⟨⟨z2, rfl, hz3, hz4⟩, rfl⟩
    have E3 : IntKind.i64.wrap (1 + z1 + z2) = 1 + z1 + z2 := IntWalk.i64_in _ (by omega)
    have hall := HA.out (1 + z1 + z2) (1 + z1) (by omega) (by omega) (by omega) (by omega)
    have hre := rat_open (fun W => spec_reduce (1 + z1 + z2) (1 + z1) W)
    generalize redR (1 + z1 + z2) (1 + z1) = t3 at hall hre
    obtain ⟨x3, y3, o3⟩ := t3
    simp only at hall hre
    have hce := two_open (fun W => spec_centsof x3 y3 W)
    generalize centE x3 y3 = t4 at hall hce
    obtain ⟨d3, o4⟩ := t4
    obtain ⟨r1, r2, ⟨r3, r4⟩, r5⟩ := hall
    simp only at r1 r2 r3 r4 r5 hce
    subst r1 r2
    simp only [rat] at hce
    have hab := fun W => b10_abs (d3 - cc) W (by omega)
    have E4 : IntKind.i64.wrap (d3 - cc) = d3 - cc := IntWalk.i64_in _ (by omega)
    generalize hmx : max (d3 - cc) (-(d3 - cc)) = mx at hab r5
    have E5 : decide (off ≤ mx) = true := by simpa using r5
    clear hmx HA
    go_wp2_with (fail)
    refine (hre _).mono ?_
    rintro e w10 ⟨rfl, hb⟩
    have H5 := Bx.mk ((H4.out.below hb).pair (.int .i64 x3) (.int .i64 y3) 40 (0, 0))
    clear hb
    have d0 := H5.out.get (g := w10.heap.size) (k := 0) (v := .int .i64 x3) (by simp)
    have d1 := H5.out.get (g := w10.heap.size) (k := 1) (v := .int .i64 y3) (by simp)
    go_wp2_with (fail)
    refine (hce _).mono ?_
    rintro e w11 ⟨rfl, hb⟩
    have H6 := Bx.mk (H5.out.below hb)
    clear hb d0 d1 H5 H4 hre hce
    go_wp2_with (fail)
    refine (hab _).mono ?_
    rintro e w12 ⟨rfl, rfl⟩
    go_wp2_with (fail)
    go_ret
    exact ⟨by simp, BB.out.trans (H6.out.2.mono BB.out.size)⟩

theorem own : ownKnob Tryd.prog.godebug = none := by kernel_rfl
theorem laidOut : laidOutB Tryd.prog = true := by kernel_rfl
theorem listed {W : World} (h : laidMetH Tryd.prog Rows.fnCentsRow.laid W) : ∃ ps, DataW.LaidVars Tryd.prog W Rows.fnCentsRow.laid ps := by
  rw [Go.MakeChecks.laidMetH_plain _ _ _ (by kernel_rfl)] at h
  obtain ⟨ps, h, _⟩ := h
  exact ⟨ps, h⟩
set_option maxRecDepth 100000 in
theorem contract (H : Type) (enc : TypeId × Value → H) (W : World) (base : Nat) (args : Array Value) (ds gs : List (DataW H)) (before : List MemPlace)
    (hval : ∀ (j : Nat) t v, Tryd.f5.params[j]? = some t → args[j]? = some v → Value.okWide Tryd.prog W .any base t v)
    (hW : DataW.Whole enc Tryd.prog Tryd.f5.params.toList Rows.fnCentsSpec.vars false W args.toList ds gs before) (hL : laidMetH Tryd.prog Rows.fnCentsRow.laid W) (hsh : W.ShapedOpen Tryd.prog) :
    Calls Tryd.prog 5 args W fun e W' => ∃ v, e = .returned v ∧ Rows.fnCentsSpec.post enc Tryd.prog Tryd.f5 false true false false W args v W' := by
  have hW' := hW
  obtain ⟨p, q, hA0, hV, rfl, hfz, hnd⟩ := hW
  obtain ⟨ps, hl⟩ := listed hL
  have hA : DataW.TrodAll enc Tryd.prog W 0 (fun _ => true) true Tryd.f5.params.toList args.toList ds p := hA0
  rw [Tryd.params5] at hA hval
  obtain ⟨v0, vs0, d0, ds0, p0, q0, hargs, rfl, rfl, h0, r0⟩ := trodAll_cons hA
  obtain ⟨v1, vs1, d1, ds1, p1, q1, rfl, rfl, rfl, h1, r1⟩ := trodAll_cons r0
  obtain ⟨rfl, rfl, rfl⟩ := trodAll_nil r1
  obtain rfl : args = #[v0, v1] := by cases args; simp_all
  obtain ⟨gv0, gr0, hgs0, hV0⟩ : ∃ d r, gs = d :: r ∧ True := by cases gs with | nil => simp [DataW.TrodVars, Rows.fnCentsSpec] at hV | cons d r => exact ⟨d, r, rfl, trivial⟩
  subst hgs0
  obtain rfl : gr0 = [] := by
    obtain ⟨_, _, _, _, _, _, _, _, _, _, hr, _⟩ := hV
    cases gr0 with
    | nil => rfl
    | cons => simp [DataW.TrodVars] at hr
  obtain ⟨n0, w0⟩ := arg_bytes (hval 0 22 v0 rfl rfl) h0 (fun x hx => hW'.lt x (by simp [hx]))
  obtain ⟨n1, w1⟩ := arg_bytes (hval 1 22 v1 rfl rfl) h1 (fun x hx => hW'.lt x (by simp [hx]))
  refine (walk v0 n0 w0 v1 n1 w1  hl).mono fun e W' ⟨he, hb⟩ => ?_
  subst he
  exact ⟨_, rfl, post_lawv laidOut (by kernel_rfl) (by kernel_rfl) (by kernel_rfl) Tryd.underlying4 hW' rfl hb⟩

noncomputable def low : Nat := (World.holding Tryd.prog default ⟨#[], #[], []⟩).heap.size
/-- a world for the witness: each listed variable holds what is listed -/
noncomputable def laidWorld (os : Os) : World :=
  { World.holding Tryd.prog os ⟨#[], #[], []⟩ with heap := ((World.holding Tryd.prog os ⟨#[], #[], []⟩).heap).modify 1 (layCells (datCells (H := Unit) Rows.laid_loop_example_g01033_impl_centsOfSteps)) }
theorem laid_met (os : Os) : laidMet Tryd.prog Rows.fnCentsRow.laid ((laidWorld os).forCall (fun _ _ => 0) ⟨#[], #[Value.slice none 0 0, Value.slice none 0 0], []⟩).memory :=
  laidMet_of_run' 8 (by kernel_rfl) (by kernel_rfl)
theorem reads (os : Os) {H : Type} (enc : TypeId × Value → H) : ∃ places, DataW.whole enc Tryd.prog ((laidWorld os).forCall (fun _ _ => 0) ⟨#[], #[Value.slice none 0 0, Value.slice none 0 0], []⟩).memory Tryd.f5.params.toList Rows.fnCentsSpec.vars false #[Value.slice none 0 0, Value.slice none 0 0].toList 8 = some ([.nil, .nil], [Rows.laid_loop_example_g01033_impl_centsOfSteps], places) :=
  places_of (by kernel_rfl)

set_option maxRecDepth 100000 in
theorem lifted (os : Os) (started : os.Started) (H : Type) (enc : TypeId × Value → H) (F : Stop.Interp) :
    ReturnsInHanded {} Tryd.checked os 5 .any ((OpenSpec.ofChange Rows.fnCentsSpec).preRow enc Tryd.prog Tryd.f5 Rows.fnCentsRow.domain false Rows.fnCentsRow.laid) (((OpenSpec.ofChange Rows.fnCentsSpec).at F).post enc Tryd.prog Tryd.f5 false true false false) := by
  obtain ⟨places, hx⟩ := reads os enc
  refine returnsInHanded_of_row (C := Tryd.checked) (s := OpenSpec.ofChange Rows.fnCentsSpec) own started (by kernel_rfl) Tryd.func5
    (witness_row_at (enc := enc) (C := Tryd.checked) false (laidWorld os) #[Value.slice none 0 0, Value.slice none 0 0] rfl (by kernel_rfl) (by kernel_rfl) (by kernel_rfl)
      (OpenSpec.preRow_of_cond 8 hx (by kernel_rfl) (fun k hk => by cases hk) (by kernel_rfl) (by rw [Go.MakeChecks.laidMetH_plain _ _ _ (by kernel_rfl)]; exact laid_met os))) ?_
  intro W base args ds gs before hval hW _ _ _ hL hsh _
  exact contract H enc W base args ds gs before hval hW hL hsh

theorem said : Rows.FnCentsSaid :=
  OpenClaim.holds_of_cond 5 Tryd.f5 rfl rfl rfl rfl rfl rfl rfl ⟨rfl, rfl, rfl, rfl, rfl⟩ rfl rfl rfl rfl rfl (by kernel_rfl) Tryd.func5 (by kernel_rfl)
    (of_decide_eq_true (by kernel_rfl)) (by unfold Func.isWrapper; first | (rw [if_pos (by decide +kernel)]; kernel_rfl) | (rw [if_neg (by decide +kernel)]; exact ⟨rfl, rfl⟩))
    (fun os started H enc _ F => by rw [OpenClaim.pre_eq_preRow]; exact lifted os started H enc F)

theorem plain (f : FuncId) (fn : Func) (hf : Tryd.pinned.checked.prog.funcNamed "loop.example/g01033/laws.FnCents" = some f) (hfn : Tryd.pinned.checked.prog.funcs[f]? = some fn) :
    true = Tryd.pinned.checked.prog.looks [] ∧ ∀ (j : Nat) t, fn.params[j]? = some t → Tryd.pinned.checked.prog.wantsStandIn t = false := by
  obtain rfl : f = 5 := Option.some.inj ((show Tryd.prog.funcNamed "loop.example/g01033/laws.FnCents" = some 5 by kernel_rfl).symm.trans hf) |>.symm
  obtain rfl : fn = Tryd.f5 := (Option.some.inj (Tryd.func5.symm.trans hfn)).symm
  refine ⟨by kernel_rfl, fun j t ht => ?_⟩
  rw [Tryd.params5] at ht
  have hm := Array.mem_of_getElem? ht
  have hall : ∀ t ∈ #[22, 22], Tryd.prog.wantsStandIn t = false := by
    intro t ht
    simp at ht
    subst ht; kernel_rfl
  exact hall t hm

theorem card : Rows.FnCentsCardSaid :=
  Claim7.holds_tied_plain_at .later [] _ _ _ _ said (fun _ h => by cases h) (by kernel_rfl) (fun _ h => by cases h) fnCents_row_tie rfl ⟨rfl, rfl⟩ (by kernel_rfl) rfl plain (by kernel_rfl)
theorem proved : Rows.FnCentsCardSaid := card
#print axioms proved
end Go.Proofs.YtdhgbincebcobaaDoor.fnCents
