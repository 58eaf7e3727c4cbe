/- The text of a grammar, by the model. -/
import Derived.Test.YtpbgjlmcafmejaaDoorTgM
namespace Go.Proofs.YtpbgjlmcafmejaaDoor
open Go.ChangeShapes Go.WideShapes Go.ChangeAt Go.RowKit
set_option linter.unusedVariables false
set_option linter.unusedSimpArgs false
set_option maxRecDepth 100000

set_option maxHeartbeats 4000000 in
theorem spec_gtext (g : Nat) (G : Gr) (w : World) (h : PtrGr w g G) (hO : Bx (OkGr G)) :
    Calls Tryd.prog 23 #[.pointer (some ⟨g, 0, none⟩)] w fun e w' => e = .returned (.string ⟨(gT G G.a.length).toArray⟩) ∧ Below w.heap.size w w' := by
  obtain ⟨B, b, C, c, hx, i1, i2⟩ := ptrgr_form h
  have h0 := hx.c (k := 0) rfl
  have h1 := hx.c (k := 1) rfl
  have h2 := hx.c (k := 2) rfl
  have h3 := hx.c (k := 3) rfl
  have hl := hx.lt
  have HX := Bx.mk hx
  have HA := Bx.mk i2
  have HF := Bx.mk i1
  have q1 := fun gg W a b c => spec_l2 G.n G.s gg W a b c (Bx.mk (fit_0 hO.out))
  have q2 := fun W (hW : Below w.heap.size w W) => spec_list _ G.f W (HF.out.below hW) (fit_all _ (fit_1 hO.out)).1 (Bx.mk (fit_all _ (fit_1 hO.out)).2)
  have HZ := Bx.mk (gT_zero G)
  have l1 := fit_textlen (fit_0 hO.out)
  have l2 := fit_textlen (fit_1 hO.out)
  generalize textE [G.n, G.s] = T1 at *
  generalize textE G.f = T2 at *
  have E1 : (9223372036854775807 < T1.length + 1) = False := eq_false (by omega)
  have E2 : (9223372036854775807 < T1.length + 1 + T2.length) = False := eq_false (by omega)
  have SS0 : Bx (w.cell? ⟨g, 0, none⟩ = some (.int .i64 G.n) ∧ w.cell? ⟨g, 1, none⟩ = some (.int .i64 G.s) ∧ w.cell? ⟨g, 2, none⟩ = some (.slice B G.f.length b) ∧ g < w.heap.size ∧ Below w.heap.size w w) := Bx.mk ⟨h0, h1, h2, hl, Below.refl _ _⟩
  clear hx i1 i2 h
  go_enter Tryd.func23, Tryd.ntmps23
  go_wp2_with (fail)
  go_region_held3 (fun W => W.cell? ⟨g, 0, none⟩ = some (.int .i64 G.n) ∧ W.cell? ⟨g, 1, none⟩ = some (.int .i64 G.s) ∧ W.cell? ⟨g, 2, none⟩ = some (.slice B G.f.length b) ∧ g < W.heap.size ∧ Below w.heap.size w W)
    (first | (with_reducible assumption) | (with_reducible exact keepT (by assumption) hb4) | (with_reducible exact keepT (by assumption) (Below.refl _ _)) | (with_reducible exact keepT (by assumption) (Below.refl _ _).drew) | exact keepT SS0.out (Below.refl _ _).drew | exact keepT (by assumption) ((Below.refl _ _).alloc (Nat.le_refl _) _))
    (first
      | (go_at_call 48; (with_reducible refine (q1 _ _ ?_ ?_ ?_).mono ?_); exact (BoxN.at _ _ #[.int .i64 G.n, .int .i64 G.s] _ rfl).c (k := 0) rfl; exact (BoxN.at _ _ #[.int .i64 G.n, .int .i64 G.s] _ rfl).c (k := 1) rfl; exact (BoxN.at _ _ #[.int .i64 G.n, .int .i64 G.s] _ rfl).lt; rintro r w4 ⟨rfl, hb4⟩; have hS0 := keepT (q := w) (by assumption) hb4)
      | (go_at_call 48; (with_reducible refine (q2 _ (belT (q := w) (by assumption))).mono ?_); rintro r w4 ⟨rfl, hb4⟩; have hS0 := keepT (q := w) (by assumption) hb4))
  have B4 := Bx.mk (belT (q := w) hS0)
  have X4 := Bx.mk (HX.out.below B4.out)
  have HLE : Bx (G.a.length ≤ 256) := Bx.mk hO.out.l
  have HL3 : Bx ((T1 ++ [59] ++ T2).length ≤ 3000) := Bx.mk (by simp; omega)
  clear hS0 h0 h1 h2 h3 hl SS0 q1 q2 E1 E2 hb4 l1 l2 HF
  have h3 := X4.out.c (k := 3) rfl
  have hl := X4.out.lt
  go_wp2_with (fail)
  go_loopw [3, 4] (fun t i wr => ∃ (k : Nat) (U : List UInt8), k ≤ G.a.length ∧ i = .int .i64 k ∧ t = .string ⟨U.toArray⟩ ∧ U.length ≤ 3000 + 1500 * k ∧ Below w4.heap.size w4 wr ∧ Bx (U = gT G k)) (fun _ i _ => G.a.length - (intOf i).toNat)
  case atStart => exact ⟨0, T1 ++ [59] ++ T2, Nat.zero_le _, rfl, by rw [show (⟨#[59]⟩ : ByteArray) = ⟨[59].toArray⟩ from rfl, str_app, str_app], by have := HL3.out; omega, Below.refl _ _, Bx.mk HZ.out.symm⟩
  case round =>
    obtain ⟨k, U, hk, rfl, rfl, hU, hb, HU⟩ := hrel
    have hsz := hb.size
    have g3 := (hb.cell (p := ⟨g, 3, none⟩) hl).trans h3
    by_cases hlt : k < G.a.length
    · obtain ⟨ba, oa, ca, ee, lb, hx⟩ := (HA.out.below B4.out).form (by omega)
      injection ee with e1 _ e3
      subst e1 e3
      obtain ⟨c0, c1, c2⟩ := hx k hlt
      have c0 := (hb.cell (p := ⟨ba, oa + k * 3, none⟩) lb).trans c0
      have c1 := (hb.cell (p := ⟨ba, oa + k * 3 + 1, none⟩) lb).trans c1
      have c2 := (hb.cell (p := ⟨ba, oa + k * 3 + 2, none⟩) lb).trans c2
      have HN := Bx.mk (gT_succ G k hlt)
      have HFI := Bx.mk (fit_a hO.out k hlt)
      have hkl : k ≤ 256 := by have := HLE.out; omega
      generalize tat G.a k = p at c0 c1 c2 HN HFI
      obtain ⟨p1, p2, p3⟩ := p
      have q3 := fun gg W a b c d => spec_l3 p1 p2 p3 gg W a b c d (Bx.mk HFI.out)
      have l3 := fit_textlen HFI.out
      unfold arcL at HN l3
      dsimp only at c0 c1 c2 HN l3
      generalize textE [p1, p2, p3] = T at *
      have E1 : (9223372036854775807 < 1 + T.length) = False := eq_false (by omega)
      have E2 : (9223372036854775807 < U.length + (1 + T.length)) = False := eq_false (by omega)
      have k1 : (0 : Int) ≤ (k : Int) := by omega
      have k2 : (k : Int) < (G.a.length : Int) := by omega
      have d1 : decide ((k : Int) < (G.a.length : Int)) = true := decide_eq_true k2
      have hgl : g < wr.heap.size := by omega
      have hbl : ba < wr.heap.size := by omega
      have SS0 : Bx (wr.cell? ⟨g, 3, none⟩ = some (.slice (some ⟨ba, oa, none⟩) G.a.length c) ∧ wr.cell? ⟨ba, oa + k * 3, none⟩ = some (.int .i64 p1) ∧ wr.cell? ⟨ba, oa + k * 3 + 1, none⟩ = some (.int .i64 p2) ∧ wr.cell? ⟨ba, oa + k * 3 + 2, none⟩ = some (.int .i64 p3) ∧ g < wr.heap.size ∧ ba < wr.heap.size ∧ Below w4.heap.size w4 wr) := Bx.mk ⟨g3, c0, c1, c2, hgl, hbl, hb⟩
      clear hx h3 hl lb HA X4 HFI HLE hb
      go_wp2_with (fail)
      go_region_held3 (fun W => W.cell? ⟨g, 3, none⟩ = some (.slice (some ⟨ba, oa, none⟩) G.a.length c) ∧ W.cell? ⟨ba, oa + k * 3, none⟩ = some (.int .i64 p1) ∧ W.cell? ⟨ba, oa + k * 3 + 1, none⟩ = some (.int .i64 p2) ∧ W.cell? ⟨ba, oa + k * 3 + 2, none⟩ = some (.int .i64 p3) ∧ g < W.heap.size ∧ ba < W.heap.size ∧ Below w4.heap.size w4 W)
        (first | (with_reducible assumption) | (with_reducible exact keepA (by assumption) hb4) | (with_reducible exact keepA (by assumption) (Below.refl _ _)) | (with_reducible exact keepA (by assumption) (Below.refl _ _).drew) | exact keepA SS0.out (Below.refl _ _).drew | exact keepA (by assumption) ((Below.refl _ _).alloc (Nat.le_refl _) _))
        ((go_at_call 48; (with_reducible refine (q3 _ _ ?_ ?_ ?_ ?_).mono ?_); exact (BoxN.at _ _ #[.int .i64 p1, .int .i64 p2, .int .i64 p3] _ rfl).c (k := 0) rfl; exact (BoxN.at _ _ #[.int .i64 p1, .int .i64 p2, .int .i64 p3] _ rfl).c (k := 1) rfl; exact (BoxN.at _ _ #[.int .i64 p1, .int .i64 p2, .int .i64 p3] _ rfl).c (k := 2) rfl; exact (BoxN.at _ _ #[.int .i64 p1, .int .i64 p2, .int .i64 p3] _ rfl).lt; rintro r w5 ⟨rfl, hb4⟩; have hS0 := keepA (q := w4) (by assumption) hb4))
      have HB5 := Bx.mk (belA (q := w4) hS0)
      clear hS0 SS0 g3 c0 c1 c2 q3 hb4
      go_wp2_with (fail)
      go_roundw
      case rel => exact ⟨k + 1, U ++ ([59] ++ T), by omega, by go_num, by rw [show (⟨#[59]⟩ : ByteArray) = ⟨[59].toArray⟩ from rfl, str_app, str_app], by rw [List.length_append, List.length_append, List.length_singleton]; omega, HB5.out, Bx.mk (by rw [HN.out, HU.out])⟩
      case measure => simp [intOf]; omega
    · obtain rfl : k = G.a.length := by omega
      have d1 : decide ((G.a.length : Int) < (G.a.length : Int)) = false := decide_eq_false (by omega)
      have HB5 := Bx.mk (B4.out.trans (hb.mono B4.out.size))
      clear hb
      go_wp2_with (fail)
      go_ret
      exact ⟨ret_str HU.out, HB5.out⟩
set_option maxHeartbeats 4000000 in
theorem spec_gramtext (v : Value) (G : Gr) (w : World) (h : GrAt w v G) (hm : SmG G) : Calls Tryd.prog 7 #[v] w fun e w' => e = .returned (.string ⟨(gramT G).toArray⟩) ∧ Below w.heap.size w w' := by
  obtain ⟨B, b, C, c, rfl, h1, h2⟩ := gr_form h
  have hb : Below w.heap.size w (w.alloc (.cells #[.int .i64 G.n, .int .i64 G.s, .slice B G.f.length b, .slice C G.a.length c] 30)) := (Below.refl _ _).alloc (Nat.le_refl _) _
  have hX := BoxN.at w w.heap.size #[.int .i64 G.n, .int .i64 G.s, .slice B G.f.length b, .slice C G.a.length c] 30 rfl
  have hP : PtrGr (w.alloc (.cells #[.int .i64 G.n, .int .i64 G.s, .slice B G.f.length b, .slice C G.a.length c] 30)) w.heap.size G := ⟨_, hX, _, _, rfl, h1.below hb, h2.below hb⟩
  have hk := spec_grok w.heap.size G _ hP hm
  have HO : Bx (gramT G = if okGr G = true then gT G G.a.length else []) := Bx.mk rfl
  have HOK := Bx.mk (ok_of (G := G))
  have B_0 := Bx.mk hb
  have P_0 := Bx.mk hP
  generalize hok : okGr G = ok at *
  clear h h1 h2 hm hb hX hP hok
  cases ok
  · have HE : Bx (gramT G = []) := Bx.mk HO.out
    clear HO
    go_enter Tryd.func7, Tryd.ntmps7
    go_wp2_with (fail)
    refine hk.mono ?_
    rintro r w1 ⟨rfl, hb1⟩
    have B_1 := Bx.mk (B_0.out.trans (hb1.mono B_0.out.size))
    clear hb1
    go_wp2_with (fail)
    go_ret
    exact ⟨ret_str HE.out.symm, B_1.out⟩
  · have HE : Bx (gramT G = gT G G.a.length) := Bx.mk HO.out
    have HG := Bx.mk (HOK.out rfl)
    clear HO HOK
    go_enter Tryd.func7, Tryd.ntmps7
    go_wp2_with (fail)
    refine hk.mono ?_
    rintro r w1 ⟨rfl, hb1⟩
    have B_1 := Bx.mk (B_0.out.trans (hb1.mono B_0.out.size))
    have hq := spec_gtext w.heap.size G w1 (P_0.out.below hb1) HG
    clear hb1
    go_wp2_with (fail)
    refine hq.mono ?_
    rintro r w2 ⟨rfl, hb2⟩
    have B_2 := Bx.mk (B_1.out.trans (hb2.mono B_1.out.size))
    clear hb2
    go_wp2_with (fail)
    go_ret
    exact ⟨ret_str HE.out.symm, B_2.out⟩
end Go.Proofs.YtpbgjlmcafmejaaDoor
