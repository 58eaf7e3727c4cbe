/- 'laws.FnRatios' returns true at every two inputs. -/
import Derived.Test.YtdhgbincebcobaaDoorRatLaw3
import Derived.Test.YtdhgbincebcobaaDoorRatD3
import Derived.Test.YtdhgbincebcobaaDoorB10
import Derived.Test.YtdhgbincebcobaaDoorLawR
import Derived.Test.YtdhgbincebcobaaDoorRatU
import Derived.Test.YtdhgbincebcobaaDoorRatRead
import Derived.Deep.CutRange
namespace Go.Proofs.YtdhgbincebcobaaDoor.fnRatios
open Go.ChangeShapes Go.WideShapes Go.ChangeAt Go.RowKit
set_option linter.unusedVariables false
set_option linter.unusedSimpArgs false
set_option maxRecDepth 100000

/-- what the first test looks at -/
theorem products (n d m e : Int) : (mulR n d m e).2.2 ≠ 0 ∨ ((mulR n d m e).2.2 = 0 ∧ okR (mulR n d m e).1 (mulR n d m e).2.1 = true ∧ divR (mulR n d m e).1 (mulR n d m e).2.1 m e = (n, d, 0) ∧ mulR m e n d = mulR n d m e) := by
  rcases hE : mulR n d m e with ⟨p, q, c⟩
  by_cases hc : c = 0
  · subst hc
    right
    have hh : okR n d = true ∧ okR m e = true := by
      unfold mulR at hE
      split at hE
      · rename_i h; simpa using h
      · injection hE with _ h; injection h with _ h; cases h
    obtain ⟨h1, h2⟩ := div_mul hh.1 hh.2 hE
    exact ⟨rfl, h1, h2, (mul_comm2 n d m e).trans hE⟩
  · left; exact hc
/-- what the second test looks at -/
theorem betweens (n d m e : Int) : (betR n d m e).2.2 ≠ 0 ∨ ((betR n d m e).2.2 = 0 ∧ ∃ z, (z = -1 ∨ z = 0 ∨ z = 1) ∧ cmpE n d (betR n d m e).1 (betR n d m e).2.1 = (z, 0) ∧ cmpE (betR n d m e).1 (betR n d m e).2.1 m e = (z, 0) ∧ cmpE n d m e = (z, 0)) := by
  rcases hE : betR n d m e with ⟨p, q, c⟩
  by_cases hc : c = 0
  · subst hc
    right
    have hh : okR n d = true ∧ okR m e = true := by
      unfold betR at hE
      split at hE
      · rename_i h; simpa using h
      · injection hE with _ h; injection h with _ h; cases h
    obtain ⟨h1, h2, h3⟩ := bet_between hh.1 hh.2 hE
    refine ⟨rfl, cmpR n d m e, ?_, ?_, ?_, ?_⟩
    · unfold cmpR
      split
      · left; rfl
      · split
        · right; right; rfl
        · right; left; rfl
    · simp [cmpE, hh.1, h1, h2]
    · simp [cmpE, hh.2, h1, h3]
    · simp [cmpE, hh.1, hh.2]
  · left; exact hc
/-- what the third test looks at -/
theorem powers (n d k : Int) : ((powE n d k).2.2 ≠ 0 ∧ (powE n d k).1 = 0) ∨ ((powE n d k).2.2 = 0 ∧ ((k = 0 ∧ (powE n d k).1 = 1 ∧ (powE n d k).2.1 = 1) ∨ (k ≠ 0 ∧ okR (powE n d k).1 (powE n d k).2.1 = true ∧ ∃ x y, powE n d (k - 1) = (x, y, 0) ∧ mulR x y n d = powE n d k))) := by
  rcases hE : powE n d k with ⟨p, q, c⟩
  by_cases hc : c = 0
  · subst hc
    right
    refine ⟨rfl, ?_⟩
    by_cases hk : k = 0
    · subst hk
      left
      obtain ⟨h1, h2⟩ := pow_zero hE
      exact ⟨rfl, h1, h2⟩
    · right
      obtain ⟨x, y, h1, h2, h3⟩ := pow_step hE hk
      exact ⟨hk, h3, x, y, h1, h2⟩
  · left
    exact ⟨hc, pow_bad hE hc⟩
theorem _root_.Go.Proofs.YtdhgbincebcobaaDoor.Holds.tail {w W : World} {x : Nat × Nat × Value} {L : List (Nat × Nat × Value)} (h : Holds w (x :: L) W) : Holds w L W := ⟨fun p hp => h.1 p (List.mem_cons_of_mem _ hp), h.2⟩

set_option maxHeartbeats 8000000 in
set_option maxRecDepth 100000 in
theorem walk (v : Value) (n : Nat) {w : World} (hv : BytesAt w v n ∧ n ≤ 9223372036854775807) (u : Value) (m : Nat) (hu : BytesAt w u m ∧ m ≤ 9223372036854775807) {ps : List MemPlace} (hlv : DataW.LaidVars Tryd.prog w Rows.fnRatiosRow.laid ps) (hsh : w.ShapedOpen Tryd.prog) :
    Calls Tryd.prog 4 #[v, u] w fun e w' => e = .returned (.bool true) ∧ Below w.heap.size w w' := by
  have e : Rows.laid_internal_strconv_uint64pow10 = Lib.tabData (H := Unit) .u64 Lib.pow10Tab := by kernel_rfl
  have HV : Bx (Vars w) := Bx.mk ⟨tab_get hlv (by rw [← e]; exact .tail _ (.tail _ (.head _))) (g := 5) (t := 141) (e := 61) (N := 20) (by kernel_rfl) (by kernel_rfl) Tryd.underlying141 Tryd.underlying61 (by kernel_rfl) (by kernel_rfl),
    sent_get hlv (.tail _ (.tail _ (.tail _ (.tail _ (.head _))))) (g := 3) (t := 70) (by kernel_rfl) (by kernel_rfl) Tryd.underlying70,
    sent_get hlv (.tail _ (.tail _ (.tail _ (.head _)))) (g := 4) (t := 70) (by kernel_rfl) (by kernel_rfl) Tryd.underlying70⟩
  obtain ⟨ml, hm0⟩ : ∃ m, w.cell? ⟨2, 0, none⟩ = some (.int .i64 m) := Tryd.laysM145.s1_3 w hsh
  have HM : Bx (w.cell? ⟨2, 0, none⟩ = some (.int .i64 ml) ∧ 2 < w.heap.size) := Bx.mk (by
    refine ⟨hm0, ?_⟩
    rcases Nat.lt_or_ge 2 w.heap.size with h | h
    · exact h
    · simp [World.cell?, Array.getElem?_eq_none h] at hm0)
  have HV2 : Bx (∀ W, Below w.heap.size w W → Bx (Vars W)) := Bx.mk (fun W hb => Bx.mk (HV.out.below hb))
  have HM2 : Bx (∀ W, Below w.heap.size w W → Bx (W.cell? ⟨2, 0, none⟩ = some (.int .i64 ml) ∧ 2 < W.heap.size)) := Bx.mk (fun W hb => Bx.mk ⟨(hb.cell (p := ⟨2, 0, none⟩) HM.out.2).trans HM.out.1, Nat.lt_of_lt_of_le HM.out.2 hb.size⟩)
  clear hlv e hsh hm0 HV HM
  obtain ⟨hv, hn⟩ := hv
  obtain ⟨hu, hm⟩ := hu
  have HB := Bx.mk hv
  have HC := Bx.mk hu
  have hv2 := hv
  have hu2 := hu
  obtain ⟨A, c, rfl, _⟩ := hv2
  obtain ⟨B, d, rfl, _⟩ := hu2
  clear hv hu
  have hl1 := fun W => b10_long A n c W (by omega)
  have hl2 := fun W => b10_long B m d W (by omega)
  go_enter Tryd.func4, Tryd.ntmps4
  go_wp2_with (fail)
  refine (hl1 _).mono ?_
  rintro e w' ⟨⟨b, rfl, hb⟩, rfl⟩
  cases b
  case true =>
    clear hb
    go_wp2_with (fail)
    go_ret
    exact ⟨rfl, Below.refl _ _⟩
  have hn1 := hb rfl
  clear hb
  go_wp2_with (fail)
  refine (hl2 _).mono ?_
  rintro e w' ⟨⟨b, rfl, hb⟩, rfl⟩
  cases b
  case true =>
    clear hb
    go_wp2_with (fail)
    go_ret
    exact ⟨rfl, Below.refl _ _⟩
  have hm1 := hb rfl
  clear hb hl1 hl2
  go_wp2_with (fail)
  refine (draw_multiply _ n w HB.out (by omega)).mono ?_
  rintro e w1 ho
  obtain ⟨p, q, r, s, rfl, hb⟩ := tworats_parts ho
  have H1 := Bx.mk ((Holds.start w).below hb)
  clear ho hb
  have H2 := Bx.mk ((H1.out.pair (.int .i64 p) (.int .i64 q) 40 (0, 0)).pair (.int .i64 r) (.int .i64 s) 40 (0, 0))
  have hsz : (w1.alloc (.cells #[.int .i64 p, .int .i64 q] 40)).heap.size = w1.heap.size + 1 := by simp
  rw [hsz] at H2
  clear hsz
  have hPR := products p q r s
  have hBT := betweens p q r s
  have h1 := rat_open (fun W => impl_mul p q r s W)
  have h2 := rat_open (fun W => impl_div (mulR p q r s).1 (mulR p q r s).2.1 r s W)
  have h3 := rat_open (fun W => impl_mul r s p q W)
  have h4 := fun W => spec_valid (mulR p q r s).1 (mulR p q r s).2.1 W
  have h5 := rat_open (fun W => impl_bet p q r s W)
  have h6 := two_open (fun W => impl_compare p q (betR p q r s).1 (betR p q r s).2.1 W)
  have h7 := two_open (fun W => impl_compare (betR p q r s).1 (betR p q r s).2.1 r s W)
  have h8 := two_open (fun W => impl_compare p q r s W)
  generalize divR (mulR p q r s).1 (mulR p q r s).2.1 r s = t2 at h2 hPR
  generalize mulR r s p q = t3 at h3 hPR
  generalize mulR p q r s = t1 at *
  generalize cmpE p q (betR p q r s).1 (betR p q r s).2.1 = t6 at h6 hBT
  generalize cmpE (betR p q r s).1 (betR p q r s).2.1 r s = t7 at h7 hBT
  generalize cmpE p q r s = t8 at h8 hBT
  generalize betR p q r s = t5 at *
  obtain ⟨x1, y1, o1⟩ := t1
  obtain ⟨x5, y5, o5⟩ := t5
  simp only [rat] at h1 h2 h3 h4 h5 h6 h7 h8 hPR hBT
  have PR := Bx.mk hPR
  have BT := Bx.mk hBT
  clear hPR hBT
  have a0 := H2.out.get (g := w1.heap.size) (k := 0) (v := .int .i64 p) (by simp)
  have a1 := H2.out.get (g := w1.heap.size) (k := 1) (v := .int .i64 q) (by simp)
  have b0 := H2.out.get (g := w1.heap.size + 1) (k := 0) (v := .int .i64 r) (by simp)
  have b1 := H2.out.get (g := w1.heap.size + 1) (k := 1) (v := .int .i64 s) (by simp)
  go_wp2_with (fail)
  refine (h1 _).mono ?_
  rintro e w2 ⟨rfl, hb⟩
  have H3 := Bx.mk ((H2.out.below hb).pair (.int .i64 x1) (.int .i64 y1) 40 (0, 0))
  clear hb
  clear a0 a1 b0 b1
  go_upto_if 49 with (fail)
  go_cut [9, 10, 11, 12] from 31 (fun a b c d wx => Holds w [(w1.heap.size + 1, 1, .int .i64 s), (w1.heap.size + 1, 0, .int .i64 r), (w1.heap.size, 1, .int .i64 q), (w1.heap.size, 0, .int .i64 p)] wx)
  case first =>
    clear h5 h6 h7 h8 BT HV2 HM2
    rcases PR.out with h | ⟨rfl, hok, rfl, rfl⟩
    · have hb1 : (o1 == 0) = false := by simpa using h
      clear PR h h1 h2 h3 h4
      go_wp2_with (fail)
      go_meet
      case rel => exact H3.out.tail.tail
    · rw [hok] at h4
      clear PR h1
      simp only at h2 h3
      have a0 := H3.out.get (g := w1.heap.size) (k := 0) (v := .int .i64 p) (by simp)
      have a1 := H3.out.get (g := w1.heap.size) (k := 1) (v := .int .i64 q) (by simp)
      have b0 := H3.out.get (g := w1.heap.size + 1) (k := 0) (v := .int .i64 r) (by simp)
      have b1 := H3.out.get (g := w1.heap.size + 1) (k := 1) (v := .int .i64 s) (by simp)
      have p0 := H3.out.get (g := w2.heap.size) (k := 0) (v := .int .i64 x1) (by simp)
      have p1 := H3.out.get (g := w2.heap.size) (k := 1) (v := .int .i64 y1) (by simp)
      go_wp2_with (fail)
      refine (h2 _).mono ?_
      rintro e w3 ⟨rfl, hb⟩
      have H4 := Bx.mk ((H3.out.below hb).pair (.int .i64 p) (.int .i64 q) 40 (0, 0))
      clear hb
      clear a0 a1 b0 b1 p0 p1
      have a0 := H4.out.get (g := w1.heap.size) (k := 0) (v := .int .i64 p) (by simp)
      have a1 := H4.out.get (g := w1.heap.size) (k := 1) (v := .int .i64 q) (by simp)
      have b0 := H4.out.get (g := w1.heap.size + 1) (k := 0) (v := .int .i64 r) (by simp)
      have b1 := H4.out.get (g := w1.heap.size + 1) (k := 1) (v := .int .i64 s) (by simp)
      have p0 := H4.out.get (g := w2.heap.size) (k := 0) (v := .int .i64 x1) (by simp)
      have p1 := H4.out.get (g := w2.heap.size) (k := 1) (v := .int .i64 y1) (by simp)
      go_wp2_with (fail)
      refine (h3 _).mono ?_
      rintro e w4 ⟨rfl, hb⟩
      have H5 := Bx.mk ((H4.out.below hb).pair (.int .i64 x1) (.int .i64 y1) 40 (0, 0))
      clear hb
      clear a0 a1 b0 b1 p0 p1
      clear h2 h3
      have p0 := H5.out.get (g := w2.heap.size) (k := 0) (v := .int .i64 x1) (by simp)
      have p1 := H5.out.get (g := w2.heap.size) (k := 1) (v := .int .i64 y1) (by simp)
      go_wp2_with (fail)
      refine (h4 _).mono ?_
      rintro e w6 ⟨rfl, hb⟩
      have H6 := Bx.mk (H5.out.below hb)
      clear hb
      clear p0 p1
      have a0 := H6.out.get (g := w1.heap.size) (k := 0) (v := .int .i64 p) (by simp)
      have a1 := H6.out.get (g := w1.heap.size) (k := 1) (v := .int .i64 q) (by simp)
      have p0 := H6.out.get (g := w2.heap.size) (k := 0) (v := .int .i64 x1) (by simp)
      have p1 := H6.out.get (g := w2.heap.size) (k := 1) (v := .int .i64 y1) (by simp)
      have k0 := H6.out.get (g := w3.heap.size) (k := 0) (v := .int .i64 p) (by simp)
      have k1 := H6.out.get (g := w3.heap.size) (k := 1) (v := .int .i64 q) (by simp)
      have o0 := H6.out.get (g := w4.heap.size) (k := 0) (v := .int .i64 x1) (by simp)
      have o1 := H6.out.get (g := w4.heap.size) (k := 1) (v := .int .i64 y1) (by simp)
      go_wp2_with (fail)
      go_meet
      case rel => exact H6.out.tail.tail.tail.tail.tail.tail
  case rest =>
  have H7 := Bx.mk hcut
  clear hcut H2 H3 PR h1 h2 h3 h4
  have a0 := H7.out.get (g := w1.heap.size) (k := 0) (v := .int .i64 p) (by simp)
  have a1 := H7.out.get (g := w1.heap.size) (k := 1) (v := .int .i64 q) (by simp)
  have b0 := H7.out.get (g := w1.heap.size + 1) (k := 0) (v := .int .i64 r) (by simp)
  have b1 := H7.out.get (g := w1.heap.size + 1) (k := 1) (v := .int .i64 s) (by simp)
  go_wp2_with (fail)
  refine (h5 _).mono ?_
  rintro e w8 ⟨rfl, hb⟩
  have H8 := Bx.mk ((H7.out.below hb).pair (.int .i64 x5) (.int .i64 y5) 40 (0, 0))
  clear hb
  clear a0 a1 b0 b1
  go_upto_if 90 with (fail)
  go_cut [15, 16, 17, 18, 19, 20] from 31 (fun a b c d e f wx => Below w.heap.size w wx)
  case first =>
    clear HV2 HM2
    rcases BT.out with h | ⟨rfl, z, _, rfl, rfl, rfl⟩
    · have hb1 : (o5 == 0) = false := by simpa using h
      clear BT h h6 h7 h8 h5
      go_wp2_with (fail)
      go_meet
      case rel => exact H8.out.2
    · clear BT h5
      simp only at h6 h7 h8
      have a0 := H8.out.get (g := w1.heap.size) (k := 0) (v := .int .i64 p) (by simp)
      have a1 := H8.out.get (g := w1.heap.size) (k := 1) (v := .int .i64 q) (by simp)
      have b0 := H8.out.get (g := w1.heap.size + 1) (k := 0) (v := .int .i64 r) (by simp)
      have b1 := H8.out.get (g := w1.heap.size + 1) (k := 1) (v := .int .i64 s) (by simp)
      have p0 := H8.out.get (g := w8.heap.size) (k := 0) (v := .int .i64 x5) (by simp)
      have p1 := H8.out.get (g := w8.heap.size) (k := 1) (v := .int .i64 y5) (by simp)
      go_wp2_with (fail)
      refine (h6 _).mono ?_
      rintro e w9 ⟨rfl, hb⟩
      have H9 := Bx.mk (H8.out.below hb)
      clear hb
      clear a0 a1 b0 b1 p0 p1
      have a0 := H9.out.get (g := w1.heap.size) (k := 0) (v := .int .i64 p) (by simp)
      have a1 := H9.out.get (g := w1.heap.size) (k := 1) (v := .int .i64 q) (by simp)
      have b0 := H9.out.get (g := w1.heap.size + 1) (k := 0) (v := .int .i64 r) (by simp)
      have b1 := H9.out.get (g := w1.heap.size + 1) (k := 1) (v := .int .i64 s) (by simp)
      have p0 := H9.out.get (g := w8.heap.size) (k := 0) (v := .int .i64 x5) (by simp)
      have p1 := H9.out.get (g := w8.heap.size) (k := 1) (v := .int .i64 y5) (by simp)
      go_wp2_with (fail)
      refine (h7 _).mono ?_
      rintro e w10 ⟨rfl, hb⟩
      have H10 := Bx.mk (H9.out.below hb)
      clear hb
      clear a0 a1 b0 b1 p0 p1
      have a0 := H10.out.get (g := w1.heap.size) (k := 0) (v := .int .i64 p) (by simp)
      have a1 := H10.out.get (g := w1.heap.size) (k := 1) (v := .int .i64 q) (by simp)
      have b0 := H10.out.get (g := w1.heap.size + 1) (k := 0) (v := .int .i64 r) (by simp)
      have b1 := H10.out.get (g := w1.heap.size + 1) (k := 1) (v := .int .i64 s) (by simp)
      have p0 := H10.out.get (g := w8.heap.size) (k := 0) (v := .int .i64 x5) (by simp)
      have p1 := H10.out.get (g := w8.heap.size) (k := 1) (v := .int .i64 y5) (by simp)
      go_wp2_with (fail)
      refine (h8 _).mono ?_
      rintro e w11 ⟨rfl, hb⟩
      have H11 := Bx.mk (H10.out.below hb)
      clear hb
      clear a0 a1 b0 b1 p0 p1
      clear h6 h7 h8
      go_wp2_with (fail)
      go_meet
      case rel => exact H11.out.2
  case rest =>
  clear H7 H8 BT h5 h6 h7 h8 H1
  have BB := Bx.mk hcut
  clear hcut
  have HC2 := Bx.mk (HC.out.below BB.out)
  go_wp2_with (fail)
  refine (draw_power _ m wc HC2.out (by omega)).mono ?_
  rintro e w6 ho
  obtain ⟨p, q, k, rfl, ⟨k1, k2⟩, hb⟩ := powdraw_parts ho
  have H1 := Bx.mk (((Holds.start wc).below hb).pair (.int .i64 p) (.int .i64 q) 40 (0, 0))
  clear ho hb HB HC HC2
  have hPW := powers p q k
  have h1 := rat_open (fun W => impl_power p q k W)
  have h2 := rat_open (fun W => impl_power p q (k - 1) W)
  generalize powE p q k = t1 at *
  obtain ⟨x, y, o1⟩ := t1
  simp only [rat] at h1 h2 hPW
  have PW := Bx.mk hPW
  clear hPW
  have a0 := H1.out.get (g := w6.heap.size) (k := 0) (v := .int .i64 p) (by simp)
  have a1 := H1.out.get (g := w6.heap.size) (k := 1) (v := .int .i64 q) (by simp)
  go_wp2_with (fail)
  refine (h1 _).mono ?_
  rintro e w7 ⟨rfl, hb⟩
  have H2 := Bx.mk ((H1.out.below hb).pair (.int .i64 x) (.int .i64 y) 40 (0, 0))
  clear hb
  clear a0 a1
  clear h1
  rcases PW.out with ⟨h, rfl⟩ | ⟨rfl, ⟨rfl, rfl, rfl⟩ | ⟨hk, hok, x2, y2, hp2, hm2⟩⟩
  · have hb1 : (o1 != 0) = true := by simpa using h
    clear PW h h2
    have a0 := H2.out.get (g := w6.heap.size) (k := 0) (v := .int .i64 p) (by simp)
    have a1 := H2.out.get (g := w6.heap.size) (k := 1) (v := .int .i64 q) (by simp)
    have b0 := H2.out.get (g := w7.heap.size) (k := 0) (v := .int .i64 0) (by simp)
    have b1 := H2.out.get (g := w7.heap.size) (k := 1) (v := .int .i64 y) (by simp)
    go_wp2_with (fail)
    go_ret
    exact ⟨rfl, BB.out.trans (H2.out.2.mono BB.out.size)⟩
  · clear PW h2
    have a0 := H2.out.get (g := w6.heap.size) (k := 0) (v := .int .i64 p) (by simp)
    have a1 := H2.out.get (g := w6.heap.size) (k := 1) (v := .int .i64 q) (by simp)
    have b0 := H2.out.get (g := w7.heap.size) (k := 0) (v := .int .i64 1) (by simp)
    have b1 := H2.out.get (g := w7.heap.size) (k := 1) (v := .int .i64 1) (by simp)
    go_wp2_with (fail)
    go_ret
    exact ⟨rfl, BB.out.trans (H2.out.2.mono BB.out.size)⟩
  · clear PW
    have hb1 : (k == 0) = false := by simpa using hk
    have E1 : IntKind.i64.wrap (k - 1) = k - 1 := IntWalk.i64_in _ (by omega)
    rw [hp2] at h2
    have h3 := rat_open (fun W => impl_mul x2 y2 p q W)
    rw [hm2] at h3
    have h4 := fun W h => impl_ratiotext x y W h
    have hrt : rtextE x y = ratT x y := by unfold rtextE; rw [if_pos hok]
    rw [hrt] at h4
    have hlen : (ratT x y).length ≤ 1048576 := by
      obtain ⟨o1, o2, _⟩ := okR_yes hok
      have := Lib.itoa_length_le x (by omega) (by omega)
      have := Lib.itoa_length_le y (by omega) (by omega)
      unfold ratT; simp; omega
    have h5 := fun W ha hb => readr_open (impl_readratio ⟨(ratT x y).toArray⟩ W (by show (ratT x y).toArray.size ≤ 1048576; simpa using hlen) ha ml hb)
    have er : readRE (⟨(ratT x y).toArray⟩ : ByteArray).data.toList = (x, y, true) := read_text x y hok
    rw [er] at h5
    simp only [rat] at h2 h3 h4 h5
    clear hp2 hm2 hrt hok er hlen hk
    generalize ratT x y = tx at h4 h5
    have a0 := H2.out.get (g := w6.heap.size) (k := 0) (v := .int .i64 p) (by simp)
    have a1 := H2.out.get (g := w6.heap.size) (k := 1) (v := .int .i64 q) (by simp)
    have b0 := H2.out.get (g := w7.heap.size) (k := 0) (v := .int .i64 x) (by simp)
    have b1 := H2.out.get (g := w7.heap.size) (k := 1) (v := .int .i64 y) (by simp)
    go_wp2_with (fail)
    refine (h2 _).mono ?_
    rintro e w8 ⟨rfl, hb⟩
    have H3 := Bx.mk ((H2.out.below hb).pair (.int .i64 x2) (.int .i64 y2) 40 (0, 0))
    clear hb
    clear a0 a1 b0 b1
    have a0 := H3.out.get (g := w6.heap.size) (k := 0) (v := .int .i64 p) (by simp)
    have a1 := H3.out.get (g := w6.heap.size) (k := 1) (v := .int .i64 q) (by simp)
    have b0 := H3.out.get (g := w7.heap.size) (k := 0) (v := .int .i64 x) (by simp)
    have b1 := H3.out.get (g := w7.heap.size) (k := 1) (v := .int .i64 y) (by simp)
    have c0 := H3.out.get (g := w8.heap.size) (k := 0) (v := .int .i64 x2) (by simp)
    have c1 := H3.out.get (g := w8.heap.size) (k := 1) (v := .int .i64 y2) (by simp)
    go_wp2_with (fail)
    refine (h3 _).mono ?_
    rintro e w9 ⟨rfl, hb⟩
    have H4 := Bx.mk ((H3.out.below hb).pair (.int .i64 x) (.int .i64 y) 40 (0, 0))
    clear hb
    clear a0 a1 b0 b1 c0 c1
    clear h2 h3
    have a0 := H4.out.get (g := w6.heap.size) (k := 0) (v := .int .i64 p) (by simp)
    have a1 := H4.out.get (g := w6.heap.size) (k := 1) (v := .int .i64 q) (by simp)
    have b0 := H4.out.get (g := w7.heap.size) (k := 0) (v := .int .i64 x) (by simp)
    have b1 := H4.out.get (g := w7.heap.size) (k := 1) (v := .int .i64 y) (by simp)
    have c0 := H4.out.get (g := w8.heap.size) (k := 0) (v := .int .i64 x2) (by simp)
    have c1 := H4.out.get (g := w8.heap.size) (k := 1) (v := .int .i64 y2) (by simp)
    have d0 := H4.out.get (g := w9.heap.size) (k := 0) (v := .int .i64 x) (by simp)
    have d1 := H4.out.get (g := w9.heap.size) (k := 1) (v := .int .i64 y) (by simp)
    go_wp2_with (fail)
    refine (h4 _ (Bx.mk (HV2.out _ (BB.out.trans (H4.out.2.mono BB.out.size))).out.tab)).mono ?_
    rintro e w10 ⟨rfl, hb⟩
    have H5 := Bx.mk (H4.out.below hb)
    clear hb
    clear a0 a1 b0 b1 c0 c1 d0 d1
    have a0 := H5.out.get (g := w6.heap.size) (k := 0) (v := .int .i64 p) (by simp)
    have a1 := H5.out.get (g := w6.heap.size) (k := 1) (v := .int .i64 q) (by simp)
    have b0 := H5.out.get (g := w7.heap.size) (k := 0) (v := .int .i64 x) (by simp)
    have b1 := H5.out.get (g := w7.heap.size) (k := 1) (v := .int .i64 y) (by simp)
    have c0 := H5.out.get (g := w8.heap.size) (k := 0) (v := .int .i64 x2) (by simp)
    have c1 := H5.out.get (g := w8.heap.size) (k := 1) (v := .int .i64 y2) (by simp)
    have d0 := H5.out.get (g := w9.heap.size) (k := 0) (v := .int .i64 x) (by simp)
    have d1 := H5.out.get (g := w9.heap.size) (k := 1) (v := .int .i64 y) (by simp)
    go_wp2_with (fail)
    refine (h5 _ (HV2.out _ (BB.out.trans (H5.out.2.mono BB.out.size))) (HM2.out _ (BB.out.trans (H5.out.2.mono BB.out.size)))).mono ?_
    rintro e w11 ⟨rfl, hb⟩
    have H6 := Bx.mk ((H5.out.below hb).pair (.int .i64 x) (.int .i64 y) 40 (0, 0))
    clear hb
    clear a0 a1 b0 b1 c0 c1 d0 d1
    clear h4 h5
    have b0 := H6.out.get (g := w7.heap.size) (k := 0) (v := .int .i64 x) (by simp)
    have b1 := H6.out.get (g := w7.heap.size) (k := 1) (v := .int .i64 y) (by simp)
    have d0 := H6.out.get (g := w9.heap.size) (k := 0) (v := .int .i64 x) (by simp)
    have d1 := H6.out.get (g := w9.heap.size) (k := 1) (v := .int .i64 y) (by simp)
    have f0 := H6.out.get (g := w11.heap.size) (k := 0) (v := .int .i64 x) (by simp)
    have f1 := H6.out.get (g := w11.heap.size) (k := 1) (v := .int .i64 y) (by simp)
    go_wp2_with (fail)
    go_ret
    exact ⟨by simp, BB.out.trans (H6.out.2.mono BB.out.size)⟩

theorem own : ownKnob Tryd.prog.godebug = none := by kernel_rfl
theorem laidOut : laidOutB Tryd.prog = true := by kernel_rfl
theorem listed {W : World} (h : laidMetH Tryd.prog Rows.fnRatiosRow.laid W) : ∃ ps, DataW.LaidVars Tryd.prog W Rows.fnRatiosRow.laid ps := by
  rw [Go.MakeChecks.laidMetH_plain _ _ _ (by kernel_rfl)] at h
  obtain ⟨ps, h, _⟩ := h
  exact ⟨ps, h⟩
set_option maxRecDepth 100000 in
theorem contract (H : Type) (enc : TypeId × Value → H) (W : World) (base : Nat) (args : Array Value) (ds gs : List (DataW H)) (before : List MemPlace)
    (hval : ∀ (j : Nat) t v, Tryd.f4.params[j]? = some t → args[j]? = some v → Value.okWide Tryd.prog W .any base t v)
    (hW : DataW.Whole enc Tryd.prog Tryd.f4.params.toList Rows.fnRatiosSpec.vars false W args.toList ds gs before) (hL : laidMetH Tryd.prog Rows.fnRatiosRow.laid W) (hsh : W.ShapedOpen Tryd.prog) :
    Calls Tryd.prog 4 args W fun e W' => ∃ v, e = .returned v ∧ Rows.fnRatiosSpec.post enc Tryd.prog Tryd.f4 false true false false W args v W' := by
  have hW' := hW
  obtain ⟨p, q, hA0, hV, rfl, hfz, hnd⟩ := hW
  obtain ⟨ps, hl⟩ := listed hL
  have hA : DataW.TrodAll enc Tryd.prog W 0 (fun _ => true) true Tryd.f4.params.toList args.toList ds p := hA0
  rw [Tryd.params4] at hA hval
  obtain ⟨v0, vs0, d0, ds0, p0, q0, hargs, rfl, rfl, h0, r0⟩ := trodAll_cons hA
  obtain ⟨v1, vs1, d1, ds1, p1, q1, rfl, rfl, rfl, h1, r1⟩ := trodAll_cons r0
  obtain ⟨rfl, rfl, rfl⟩ := trodAll_nil r1
  obtain rfl : args = #[v0, v1] := by cases args; simp_all
  obtain ⟨rfl, rfl⟩ := trodVars_none hV
  obtain ⟨n0, w0⟩ := arg_bytes (hval 0 22 v0 rfl rfl) h0 (fun x hx => hW'.lt x (by simp [hx]))
  obtain ⟨n1, w1⟩ := arg_bytes (hval 1 22 v1 rfl rfl) h1 (fun x hx => hW'.lt x (by simp [hx]))
  refine (walk v0 n0 w0 v1 n1 w1  hl hsh).mono fun e W' ⟨he, hb⟩ => ?_
  subst he
  exact ⟨_, rfl, post_lawv laidOut (by kernel_rfl) (by kernel_rfl) (by kernel_rfl) Tryd.underlying4 hW' rfl hb⟩

noncomputable def low : Nat := (World.holding Tryd.prog default ⟨#[], #[], []⟩).heap.size
/-- a world for the witness: each listed variable holds what is listed -/
noncomputable def laidWorld (os : Os) : World :=
  { World.holding Tryd.prog os ⟨#[], #[], []⟩ with heap := ((((((World.holding Tryd.prog os ⟨#[.cells #[.string ⟨#[118, 97, 108, 117, 101, 32, 111, 117, 116, 32, 111, 102, 32, 114, 97, 110, 103, 101]⟩] 150, .cells #[.string ⟨#[105, 110, 118, 97, 108, 105, 100, 32, 115, 121, 110, 116, 97, 120]⟩] 150], #[], []⟩).heap).modify 8 (layCells (datCells (H := Unit) Rows.laid_math_bits_deBruijn32tab))).modify 9 (layCells (datCells (H := Unit) Rows.laid_math_bits_deBruijn64tab))).modify 5 (layCells (datCells (H := Unit) Rows.laid_internal_strconv_uint64pow10))).modify 4 (layCells [.iface 148 (.pointer (some ⟨low + 0, 0, none⟩))])).modify 3 (layCells [.iface 148 (.pointer (some ⟨low + 1, 0, none⟩))]) }
theorem laid_met (os : Os) : laidMet Tryd.prog Rows.fnRatiosRow.laid ((laidWorld os).forCall (fun _ _ => 0) ⟨#[], #[Value.slice none 0 0, Value.slice none 0 0], []⟩).memory :=
  laidMet_of_run' 8 (by kernel_rfl) (by kernel_rfl)
theorem reads (os : Os) {H : Type} (enc : TypeId × Value → H) : ∃ places, DataW.whole enc Tryd.prog ((laidWorld os).forCall (fun _ _ => 0) ⟨#[], #[Value.slice none 0 0, Value.slice none 0 0], []⟩).memory Tryd.f4.params.toList Rows.fnRatiosSpec.vars false #[Value.slice none 0 0, Value.slice none 0 0].toList 8 = some ([.nil, .nil], [], places) :=
  places_of (by kernel_rfl)

set_option maxRecDepth 100000 in
theorem lifted (os : Os) (started : os.Started) (H : Type) (enc : TypeId × Value → H) (F : Stop.Interp) :
    ReturnsInHanded {} Tryd.checked os 4 .any ((OpenSpec.ofChange Rows.fnRatiosSpec).preRow enc Tryd.prog Tryd.f4 Rows.fnRatiosRow.domain false Rows.fnRatiosRow.laid) (((OpenSpec.ofChange Rows.fnRatiosSpec).at F).post enc Tryd.prog Tryd.f4 false true false false) := by
  obtain ⟨places, hx⟩ := reads os enc
  refine returnsInHanded_of_row (C := Tryd.checked) (s := OpenSpec.ofChange Rows.fnRatiosSpec) own started (by kernel_rfl) Tryd.func4
    (witness_row_at (enc := enc) (C := Tryd.checked) false (laidWorld os) #[Value.slice none 0 0, Value.slice none 0 0] rfl (by kernel_rfl) (by kernel_rfl) (by kernel_rfl)
      (OpenSpec.preRow_of_cond 8 hx (by kernel_rfl) (fun k hk => by cases hk) (by kernel_rfl) (by rw [Go.MakeChecks.laidMetH_plain _ _ _ (by kernel_rfl)]; exact laid_met os))) ?_
  intro W base args ds gs before hval hW _ _ _ hL hsh _
  exact contract H enc W base args ds gs before hval hW hL hsh

theorem said : Rows.FnRatiosSaid :=
  OpenClaim.holds_of_cond 4 Tryd.f4 rfl rfl rfl rfl rfl rfl rfl ⟨rfl, rfl, rfl, rfl, rfl⟩ rfl rfl rfl rfl rfl (by kernel_rfl) Tryd.func4 (by kernel_rfl)
    (of_decide_eq_true (by kernel_rfl)) (by unfold Func.isWrapper; first | (rw [if_pos (by decide +kernel)]; kernel_rfl) | (rw [if_neg (by decide +kernel)]; exact ⟨rfl, rfl⟩))
    (fun os started H enc _ F => by rw [OpenClaim.pre_eq_preRow]; exact lifted os started H enc F)

theorem plain (f : FuncId) (fn : Func) (hf : Tryd.pinned.checked.prog.funcNamed "loop.example/g01033/laws.FnRatios" = some f) (hfn : Tryd.pinned.checked.prog.funcs[f]? = some fn) :
    true = Tryd.pinned.checked.prog.looks [] ∧ ∀ (j : Nat) t, fn.params[j]? = some t → Tryd.pinned.checked.prog.wantsStandIn t = false := by
  obtain rfl : f = 4 := Option.some.inj ((show Tryd.prog.funcNamed "loop.example/g01033/laws.FnRatios" = some 4 by kernel_rfl).symm.trans hf) |>.symm
  obtain rfl : fn = Tryd.f4 := (Option.some.inj (Tryd.func4.symm.trans hfn)).symm
  refine ⟨by kernel_rfl, fun j t ht => ?_⟩
  rw [Tryd.params4] at ht
  have hm := Array.mem_of_getElem? ht
  have hall : ∀ t ∈ #[22, 22], Tryd.prog.wantsStandIn t = false := by
    intro t ht
    simp at ht
    subst ht; kernel_rfl
  exact hall t hm

theorem card : Rows.FnRatiosCardSaid :=
  Claim7.holds_tied_plain_at .later [] _ _ _ _ said (fun _ h => by cases h) (by kernel_rfl) (fun _ h => by cases h) fnRatios_row_tie rfl ⟨rfl, rfl⟩ (by kernel_rfl) rfl plain (by kernel_rfl)
theorem proved : Rows.FnRatiosCardSaid := card
#print axioms proved
end Go.Proofs.YtdhgbincebcobaaDoor.fnRatios
