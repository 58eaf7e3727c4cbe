/- WrongTurn: facts, and by the model. -/
import Derived.Test.YtpbgjlmcafmejaaAf
import Derived.Test.YtpbgjlmcafmejaaGa
import Derived.Test.YtpbgjlmcafmejaaGv
import Derived.Test.YtpbgjlmcafmejaaSplit
import Derived.Maps.AppendAt
namespace Go.Proofs.Ytpbgjlmcafmejaa
open Go.ChangeShapes Go.WideShapes Go.ChangeAt Go.RowKit
set_option linter.unusedVariables false
set_option linter.unusedSimpArgs false
set_option maxRecDepth 100000

/-- the pitches of the arcs from s -/
def pitF (L : List (Int × Int × Int)) (s : Int) : List Int := (arcsF L s).map fun p => p.2.1
theorem pitF_zero (L : List (Int × Int × Int)) (s : Int) : pitF (L.take 0) s = [] := rfl
theorem pitF_all (L : List (Int × Int × Int)) (s : Int) : pitF (L.take L.length) s = pitF L s := by rw [List.take_length]
theorem pitF_succ (L : List (Int × Int × Int)) (s : Int) (k : Nat) (h : k < L.length) : pitF (L.take (k + 1)) s = if (tat L k).1 = s then pitF (L.take k) s ++ [(tat L k).2.1] else pitF (L.take k) s := by
  unfold pitF arcsF
  rw [List.take_succ_eq_append_getElem h, List.filter_append, List.map_append, tat_get h]
  by_cases hc : L[k].1 = s
  · rw [if_pos hc]; simp [hc]
  · rw [if_neg hc]; simp [hc]
theorem pitF_len (L : List (Int × Int × Int)) (s : Int) : (pitF L s).length ≤ L.length := by
  unfold pitF arcsF
  rw [List.length_map]
  exact List.length_filter_le _ _
theorem pitF_lenk (L : List (Int × Int × Int)) (s : Int) (k : Nat) : (pitF (L.take k) s).length ≤ k := Nat.le_trans (pitF_len _ _) (by rw [List.length_take]; omega)
/-- how many pitches are followed, which could follow, and a code -/
def wrongE (G : Gr) (zs : List Int) : Int × List Int × Int := if okGr G = true then (if accB G zs = true then (0, [], 3) else ((((runG G.a G.s zs).1 : Nat) : Int), pitF G.a (runG G.a G.s zs).2, 0)) else (0, [], 1)
def WOut (t : Int × List Int × Int) (w : World) (e : Ending) (w' : World) : Prop :=
  ∃ v, e = .returned (.tuple #[.int .i64 t.1, v, .int .i64 t.2.2]) ∧ w'.ownsRow w.heap.size 2 1 v t.2.1.length (ints t.2.1) ∧ Below w.heap.size w w'
theorem w_nil {t : Int × List Int × Int} {c : Int} {w w' : World} (h : t = (0, [], c)) (hb : Below w.heap.size w w') : WOut t w (.returned (.tuple #[.int .i64 0, .slice none 0 0, .int .i64 c])) w' := by
  subst h
  exact ⟨_, rfl, World.ownsRow_nil _ _ _ _, hb⟩
theorem w_some {t : Int × List Int × Int} {r : Int} {ys : List Int} {v : Value} {w w' : World} (h : t = (r, ys, 0)) (ho : w'.ownsRow w.heap.size 2 1 v ys.length (ints ys)) (hb : Below w.heap.size w w') : WOut t w (.returned (.tuple #[.int .i64 r, v, .int .i64 0])) w' := by
  subst h
  exact ⟨_, rfl, ho, hb⟩
theorem ints_snocW (vs : List Int) (v : Int) : ints (vs ++ [v]) = ints vs ++ [.int .i64 v] := by simp [ints]
set_option maxHeartbeats 4000000 in
theorem spec_wrongturn (v u : Value) (G : Gr) (zs : List Int) (w : World) (h : GrAt w v G) (hm : SmG G) (hz : IntsAt w u zs) (hl : zs.length ≤ 1048576) :
    Calls Try.prog 34 #[v, u] w (WOut (wrongE G zs) w) := by
  obtain ⟨i0, hi, hz0, hz1, hz2⟩ := info_parts infoI64
  obtain ⟨B, b, C, c, rfl, h1, h2⟩ := gr_form h
  obtain ⟨A, c0, rfl⟩ := ints_form hz
  have hb : Below w.heap.size w (w.alloc (.cells #[.int .i64 G.n, .int .i64 G.s, .slice B G.f.length b, .slice C G.a.length c] 30)) := (Below.refl _ _).alloc (Nat.le_refl _) _
  have hX := BoxN.at w w.heap.size #[.int .i64 G.n, .int .i64 G.s, .slice B G.f.length b, .slice C G.a.length c] 30 rfl
  have hP : PtrGr (w.alloc (.cells #[.int .i64 G.n, .int .i64 G.s, .slice B G.f.length b, .slice C G.a.length c] 30)) w.heap.size G := ⟨_, hX, _, _, rfl, h1.below hb, h2.below hb⟩
  have hZ := hz.below hb
  have hk := spec_grok w.heap.size G _ hP hm
  have HO : Bx (wrongE G zs = if okGr G = true then (if accB G zs = true then (0, [], 3) else ((((runG G.a G.s zs).1 : Nat) : Int), pitF G.a (runG G.a G.s zs).2, 0)) else (0, [], 1)) := Bx.mk rfl
  have HOK := Bx.mk (ok_of (G := G))
  have HM := Bx.mk hm
  have HA := Bx.mk h2
  have B_0 := Bx.mk hb
  have P_0 := Bx.mk hP
  have X_0 := Bx.mk hX
  have Z_0 := Bx.mk hZ
  generalize wrongE G zs = t at *
  generalize hok : okGr G = ok at *
  clear h h1 h2 hm hb hX hP hok hz hZ
  cases ok
  · have HE : Bx (t = (0, [], 1)) := Bx.mk HO.out
    clear HO
    go_enter Try.func34, Try.ntmps34
    go_wp2_with (fail)
    refine hk.mono ?_
    rintro r w1 ⟨rfl, hb1⟩
    have B_1 := Bx.mk (B_0.out.trans (hb1.mono B_0.out.size))
    clear hb1
    go_wp2_with (fail)
    go_returns
    exact w_nil HE.out B_1.out
  · have hO := HOK.out rfl
    have HLE : Bx (G.a.length ≤ 256) := Bx.mk hO.l
    have HO2 : Bx (t = if accB G zs = true then (0, [], 3) else ((((runG G.a G.s zs).1 : Nat) : Int), pitF G.a (runG G.a G.s zs).2, 0)) := Bx.mk HO.out
    clear HO hO HOK
    go_enter Try.func34, Try.ntmps34
    go_wp2_with (fail)
    refine hk.mono ?_
    rintro r w1 ⟨rfl, hb1⟩
    have B_1 := Bx.mk (B_0.out.trans (hb1.mono B_0.out.size))
    have P_1 := Bx.mk (P_0.out.below hb1)
    have X_1 := Bx.mk (X_0.out.below hb1)
    have Z_1 := Bx.mk (Z_0.out.below hb1)
    have hq := spec_acc7 w.heap.size G _ zs w1 P_1.out HM.out Z_1.out hl
    clear hb1 hk
    go_wp2_with (fail)
    refine hq.mono ?_
    rintro r w2 ⟨rfl, rfl⟩
    cases hac : accB G zs
    · have HE : Bx (t = ((((runG G.a G.s zs).1 : Nat) : Int), pitF G.a (runG G.a G.s zs).2, 0)) := Bx.mk (by rw [HO2.out, hac]; rfl)
      have hr := spec_run7 w.heap.size G _ zs w1 P_1.out HM.out Z_1.out hl
      clear HO2 hac hq
      generalize runG G.a G.s zs = rr at *
      obtain ⟨r1, r2⟩ := rr
      dsimp only at hr HE
      go_wp2_with (fail)
      refine hr.mono ?_
      rintro r w3 ⟨rfl, rfl⟩
      clear hr
      have y3 := X_1.out.c (k := 3) rfl
      have yl := X_1.out.lt
      go_wp2_with (fail)
      go_loopw [9, 10] (fun v i wr => ∃ k : Nat, k ≤ G.a.length ∧ i = .int .i64 k ∧ wr.ownsRow w1.heap.size 2 1 v (pitF (G.a.take k) r2).length (ints (pitF (G.a.take k) r2)) ∧ Below w1.heap.size w1 wr) (fun _ i _ => G.a.length - (intOf i).toNat)
      case atStart => exact ⟨0, Nat.zero_le _, rfl, World.ownsRow_lit _ _ _ (Nat.le_refl _) (by decide) (by decide), (Below.refl _ _).alloc (Nat.le_refl _) _⟩
      case round =>
        obtain ⟨k, hk, rfl, hown, hb⟩ := hrel
        have hsz := hb.size
        have z3 := (hb.cell (p := ⟨w.heap.size, 3, none⟩) yl).trans y3
        have hkl : k ≤ 256 := by have := HLE.out; omega
        by_cases hlt : k < G.a.length
        · obtain ⟨ba, oa, ca, ee, lb, hx⟩ := (HA.out.below B_1.out).form (by omega)
          injection ee with e1 _ e3
          subst e1 e3
          obtain ⟨c0', c1', c2'⟩ := hx k hlt
          have c0' := (hb.cell (p := ⟨ba, oa + k * 3, none⟩) lb).trans c0'
          have c1' := (hb.cell (p := ⟨ba, oa + k * 3 + 1, none⟩) lb).trans c1'
          have HN := Bx.mk (pitF_succ G.a r2 k hlt)
          have HL : Bx ((pitF (G.a.take k) r2).length ≤ 256) := Bx.mk (by have := pitF_lenk G.a r2 k; have := HLE.out; omega)
          generalize tat G.a k = p at c0' c1' c2' HN
          obtain ⟨p1, p2, p3⟩ := p
          dsimp only at c0' c1' HN
          have k1 : (0 : Int) ≤ (k : Int) := by omega
          have k2 : (k : Int) < (G.a.length : Int) := by omega
          have d1 : decide ((k : Int) < (G.a.length : Int)) = true := decide_eq_true k2
          clear hx c2' HA y3
          by_cases hps : p1 = r2
          · have HS : Bx (pitF (G.a.take (k + 1)) r2 = pitF (G.a.take k) r2 ++ [p2]) := Bx.mk (by rw [HN.out, if_pos hps])
            subst hps
            clear HN
            go_wp2_with ((at_builtin; refine wpList_append_own _ rfl _ _ 22 rfl w1.heap.size 2 i0 (.int .i64 0) 1 8 Try.underlying22 hi hz0 hz1 hz2 rfl (by decide) _ _ _ rfl (hown.alloc _) ⟨wr.heap.size, 0, none⟩ 1 1 [.int .i64 p2] rfl rfl (cell_one_new _ _ _) (fun x hx => by simp at hx; subst hx; rfl) (by have := HL.out; unfold maxLen; omega) (by have := HL.out; omega) (by simp; omega) ?_; intro v' w3 hown' hgrow3 hnil3))
            have hown2 : w3.ownsRow w1.heap.size 2 1 v' (pitF (G.a.take (k + 1)) p1).length (ints (pitF (G.a.take (k + 1)) p1)) := by
              rw [HS.out, ints_snocW, List.length_append]; exact hown'
            have hb2 : Below w1.heap.size w1 w3 := below_app' hb hown (Nat.le_refl _) hgrow3
            clear hown' hgrow3 hnil3 hown
            go_roundw
            case rel => exact ⟨k + 1, by omega, by go_num, hown2, hb2⟩
            case measure => simp [intOf]; omega
          · have HS : Bx (pitF (G.a.take (k + 1)) r2 = pitF (G.a.take k) r2) := Bx.mk (by rw [HN.out, if_neg hps])
            have hne : (p1 == r2) = false := beq_eq_false_iff_ne.2 hps
            clear HN
            go_wp2_with (fail)
            go_roundw
            case rel => exact ⟨k + 1, by omega, by go_num, by rw [HS.out]; exact hown, hb⟩
            case measure => simp [intOf]; omega
        · obtain rfl : k = G.a.length := by omega
          have d1 : decide ((G.a.length : Int) < (G.a.length : Int)) = false := decide_eq_false (by omega)
          rw [pitF_all] at hown
          have HO2 := Bx.mk (owndown (b1 := w.heap.size) B_1.out.size hown)
          have B_3 := Bx.mk (B_1.out.trans (hb.mono B_1.out.size))
          clear hown hb
          go_wp2_with (fail)
          go_returns
          exact w_some HE.out HO2.out B_3.out
    · have HE : Bx (t = (0, [], 3)) := Bx.mk (by rw [HO2.out, hac]; rfl)
      clear HO2 hac hq
      go_wp2_with (fail)
      go_returns
      exact w_nil HE.out B_1.out
end Go.Proofs.Ytpbgjlmcafmejaa
