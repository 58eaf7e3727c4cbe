/- The text of a grammar, by the program. -/
import Derived.Test.YtpbgjlmcafmejaaDoorTgM
import Derived.Test.YtpbgjlmcafmejaaDoorGv2
import Derived.Maps.AppendAt
namespace Go.Proofs.YtpbgjlmcafmejaaDoor
open Go.ChangeShapes Go.WideShapes Go.ChangeAt Go.RowKit
set_option linter.unusedVariables false
set_option linter.unusedSimpArgs false
set_option maxRecDepth 100000

theorem own_typesT {w : World} {b1 b2 e1 e2 s1 s2 n1 n2 : Nat} {v1 v2 : Value} {x1 x2 : List Value} (h1 : w.ownsRow b1 e1 s1 v1 n1 x1) (h2 : w.ownsRow b2 e2 s2 v2 n2 x2) (hne : e1 ≠ e2) : ∀ g, v1.ownBlock = some g → v2.ownBlock ≠ some g := by
  intro g hg1 hg2
  rcases h1.2 with ⟨rfl, _⟩ | ⟨g1, c1, r1, rfl, _, hc1, _⟩
  · simp [Value.ownBlock] at hg1
  · rcases h2.2 with ⟨rfl, _⟩ | ⟨g2, c2, r2, rfl, _, hc2, _⟩
    · simp [Value.ownBlock] at hg2
    · simp [Value.ownBlock] at hg1 hg2
      subst hg1 hg2
      rw [hc1] at hc2
      injection hc2 with hc2
      injection hc2 with _ h3 _
      exact hne h3
theorem infoRowT : (Tryd.prog.info? 22).map (fun i => (i.zero, i.size, i.bytes)) = some (some (.slice none 0 0), 1, 24) := by kernel_rfl
theorem ne_rowT {v : Value} {row : Option Nat} (h : ∀ g, row = some g → v.ownBlock ≠ some g) : v.ownBlock = none ∨ v.ownBlock ≠ row := by
  cases hv : v.ownBlock with
  | none => exact .inl rfl
  | some g => exact .inr (fun e => h g e.symm hv)
/-- a row of one's own whose elements read as these lists: of one's own too, or as they lay at W0 -/
structure RowsMix (W0 w : World) (v : Value) (L : List (List Int)) (V : Nat → Value) : Prop where
  out : w.ownsRow W0.heap.size 22 1 v L.length ((List.range L.length).map V)
  row : ∀ k, k < L.length → w.ownsRow W0.heap.size 2 1 (V k) (L.getD k []).length (ints (L.getD k [])) ∨ IntsAt W0 (V k) (L.getD k [])
  bel : Below W0.heap.size W0 w
theorem RowsMix.at {W0 w : World} {v : Value} {L : List (List Int)} {V : Nat → Value} (h : RowsMix W0 w v L V) : RowsAt w v L := by
  rcases Nat.eq_zero_or_pos L.length with h0 | h0
  · refine .inl ⟨List.eq_nil_of_length_eq_zero h0, ?_⟩
    rcases h.out.2 with ⟨hv, _⟩ | ⟨g, cap, cur, hv, _⟩
    · exact ⟨none, 0, hv⟩
    · exact ⟨some ⟨g, 0, none⟩, cap, by rw [hv, h0]⟩
  · obtain ⟨g, cap, rfl, _, hlt⟩ := h.out.form h0
    refine .inr ⟨g, 0, cap, rfl, hlt, fun k hk => ⟨V k, ?_, ?_⟩⟩
    · rw [Nat.zero_add, h.out.cellAt k (by omega)]
      simp [hk]
    · rcases h.row k hk with h1 | h1
      · exact IntsAt.own h1
      · exact h1.below h.bel
theorem RowsMix.snoc {W0 w5 w3 : World} {v v' u : Value} {L : List (List Int)} {V : Nat → Value} {zs : List Int} {o : Obj} (h : RowsMix W0 w5 v L V) (hu : w5.ownsRow W0.heap.size 2 1 u zs.length (ints zs))
    (hg : (w5.alloc o).grownBy w3 v.ownBlock) (ho : w3.ownsRow W0.heap.size 22 1 v' (L.length + 1) ((List.range L.length).map V ++ [u])) :
    RowsMix W0 w3 v' (L ++ [zs]) (fun i => if i < L.length then V i else u) := by
  have hmap : (List.range (L ++ [zs]).length).map (fun i => if i < L.length then V i else u) = (List.range L.length).map V ++ [u] := by
    rw [List.length_append, List.length_singleton, List.range_succ, List.map_append]
    congr 1
    · apply List.map_congr_left
      intro i hi
      rw [if_pos (List.mem_range.1 hi)]
    · simp
  have hget : ∀ i, i < L.length → (L ++ [zs]).getD i [] = L.getD i [] := fun i hi => by simp [List.getD, List.getElem?_append_left hi]
  refine ⟨by rw [hmap, List.length_append, List.length_singleton]; exact ho, fun k hk => ?_, ?_⟩
  · by_cases hkl : k < L.length
    · rw [if_pos hkl, hget k hkl]
      rcases h.row k hkl with h1 | h1
      · exact .inl ((h1.alloc o).kept hg (ne_rowT (fun x hx e => own_typesT h1 h.out (by decide) x e hx)))
      · exact .inr h1
    · rw [if_neg hkl]
      have : k = L.length := by rw [List.length_append, List.length_singleton] at hk; omega
      subst this
      refine .inl ?_
      have := (hu.alloc o).kept hg (ne_rowT (fun x hx e => own_typesT hu h.out (by decide) x e hx))
      simpa using this
  · exact (h.bel.alloc h.bel.size o).grown hg (by simpa using Nat.le_trans h.bel.size (by simp)) (fun x hx => own_lo h.out x hx)
theorem RowsMix.alloc {W0 w : World} {v : Value} {L : List (List Int)} {V : Nat → Value} (h : RowsMix W0 w v L V) (o : Obj) : RowsMix W0 (w.alloc o) v L V :=
  ⟨h.out.alloc o, fun k hk => (h.row k hk).imp (fun x => x.alloc o) id, h.bel.alloc h.bel.size o⟩
set_option maxHeartbeats 4000000 in
theorem impl_gramtext (v : Value) (G : Gr) (w : World) (h : GrAt w v G) (hm : SmG G) (htab : Bx (Lib.TabIs Tryd.prog w "internal/strconv.uint64pow10" .u64 Lib.pow10Tab)) :
    Calls Tryd.prog 9 #[v] w fun e w' => e = .returned (.string ⟨(gramT G).toArray⟩) ∧ Below w.heap.size w w' := by
  obtain ⟨B, b, C, c, rfl, i1, i2⟩ := gr_form h
  have hb : Below w.heap.size w (w.alloc (.cells #[.int .i64 G.n, .int .i64 G.s, .slice B G.f.length b, .slice C G.a.length c] 30)) := (Below.refl _ _).alloc (Nat.le_refl _) _
  have HX := BoxN.at w w.heap.size #[.int .i64 G.n, .int .i64 G.s, .slice B G.f.length b, .slice C G.a.length c] 30 rfl
  generalize hW : w.alloc (.cells #[.int .i64 G.n, .int .i64 G.s, .slice B G.f.length b, .slice C G.a.length c] 30) = W at hb HX
  have hk := impl_validgr _ G W (h.below hb) hm
  have HI := Bx.mk i1
  have HA := Bx.mk i2
  have h0 := HX.c (k := 0) rfl
  have h1 := HX.c (k := 1) rfl
  have h2 := HX.c (k := 2) rfl
  have h3 := HX.c (k := 3) rfl
  have hl := HX.lt
  have HXB := Bx.mk HX
  have HB := Bx.mk hb
  cases e0 : okGr G
  · have HE : Bx (gramT G = []) := Bx.mk (by unfold gramT; rw [e0]; rfl)
    rw [e0] at hk
    clear e0 h i1 i2 hm HX hb
    go_enter Tryd.func9, Tryd.ntmps9
    go_wp2_with (fail)
    refine hk.mono ?_
    rintro r w1 ⟨rfl, hb⟩
    have B1 := Bx.mk (HB.out.trans (hb.mono HB.out.size))
    clear hb
    go_wp2_with (fail)
    go_ret
    exact ⟨ret_str HE.out.symm, B1.out⟩
  · have HE : Bx (gramT G = lsT (listsG G) (listsG G).length) := Bx.mk (by unfold gramT gT; rw [e0, listsG_len]; rfl)
    have HOK := Bx.mk (ok_of e0)
    have HLE := HOK.out.l
    rw [e0] at hk
    clear e0 h i1 i2 hm HX hb
    obtain ⟨i0, hi, hz0, hz1, hz2⟩ := info_parts infoRowT
    go_enter Tryd.func9, Tryd.ntmps9
    go_wp2_with (fail)
    refine hk.mono ?_
    rintro r w1 ⟨rfl, hb⟩
    have B1 := Bx.mk (HB.out.trans (hb.mono HB.out.size))
    have X1 := Bx.mk (HXB.out.below hb)
    clear hb HXB HB h0 h1 h2 h3 hl hk
    have h0 := X1.out.c (k := 0) rfl
    have h1 := X1.out.c (k := 1) rfl
    have h2 := X1.out.c (k := 2) rfl
    have h3 := X1.out.c (k := 3) rfl
    have hl := X1.out.lt
    have RM0 : Bx (RowsMix w1 ((w1.alloc (.cells #[.int .i64 G.n, .int .i64 G.s] 2)).alloc (.cells #[.slice (some ⟨w1.heap.size, 0, none⟩) 2 2, .slice B G.f.length b] 22)) (.slice (some ⟨w1.heap.size + 1, 0, none⟩) 2 2) ((listsG G).take (2 + 0)) (fun i => if i = 0 then .slice (some ⟨w1.heap.size, 0, none⟩) 2 2 else .slice B G.f.length b)) := Bx.mk (by
      rw [show (listsG G).take (2 + 0) = [[G.n, G.s], G.f] from rfl]
      refine ⟨?_, fun k hk => ?_, ((Below.refl _ _).alloc (Nat.le_refl _) _).alloc (by simp) _⟩
      · have := World.ownsRow_lit (base := w1.heap.size) (e := 22) (size := 1) (w1.alloc (.cells #[.int .i64 G.n, .int .i64 G.s] 2)) #[.slice (some ⟨w1.heap.size, 0, none⟩) 2 2, .slice B G.f.length b] 2 (by simp) (by decide) rfl
        rw [World.size_alloc] at this
        exact this
      · rcases k with _ | _ | k
        · exact .inl ((World.ownsRow_lit (base := w1.heap.size) (e := 2) (size := 1) w1 #[.int .i64 G.n, .int .i64 G.s] 2 (Nat.le_refl _) (by decide) rfl).alloc _)
        · exact .inr (HI.out.below B1.out)
        · simp at hk; omega)
    clear hW
    go_wp2_with (fail)
    go_loopw [3, 20] (fun v i wr => ∃ (k : Nat) (V : Nat → Value), k ≤ G.a.length ∧ i = .int .i64 k ∧ RowsMix w1 wr v ((listsG G).take (2 + k)) V) (fun _ i _ => G.a.length - (intOf i).toNat)
    case atStart => exact ⟨0, _, Nat.zero_le _, rfl, RM0.out⟩
    case round =>
      clear RM0
      obtain ⟨k, V, hk, rfl, hrm⟩ := hrel
      have hlen : ((listsG G).take (2 + k)).length = 2 + k := by rw [List.length_take, listsG_len]; omega
      by_cases hlt : k < G.a.length
      · obtain ⟨ba, oa, ca, ee, lb, hx⟩ := (HA.out.below B1.out).form (by omega)
        injection ee with e1 _ e3
        subst e1 e3
        obtain ⟨c0, c1, c2⟩ := hx k hlt
        have c0 := (hrm.bel.cell (p := ⟨ba, oa + k * 3, none⟩) lb).trans c0
        have c1 := (hrm.bel.cell (p := ⟨ba, oa + k * 3 + 1, none⟩) lb).trans c1
        have c2 := (hrm.bel.cell (p := ⟨ba, oa + k * 3 + 2, none⟩) lb).trans c2
        have HN := Bx.mk (listsG_take G k hlt)
        have hsz := hrm.bel.size
        generalize tat G.a k = p at c0 c1 c2 HN
        obtain ⟨p1, p2, p3⟩ := p
        dsimp only at c0 c1 c2
        have k1 : (0 : Int) ≤ (k : Int) := by omega
        have k2 : (k : Int) < (G.a.length : Int) := by omega
        have d1 : decide ((k : Int) < (G.a.length : Int)) = true := decide_eq_true k2
        have hown := hrm.out
        have HRM := Bx.mk hrm
        clear hx hrm HA X1 h0 h1 h2 h3 hl
        have hw5 : ((wr.alloc (.cells #[.int .i64 p1, .int .i64 p2, .int .i64 p3] 54)).alloc (.cells #[.int .i64 p1, .int .i64 p2, .int .i64 p3] 2)).heap.size = wr.heap.size + 1 + 1 := by simp
        have hcell := cell_one_new ((wr.alloc (.cells #[.int .i64 p1, .int .i64 p2, .int .i64 p3] 54)).alloc (.cells #[.int .i64 p1, .int .i64 p2, .int .i64 p3] 2)) (.slice (some ⟨wr.heap.size + 1, 0, none⟩) 3 3) 22
        rw [hw5] at hcell
        have HCB := Bx.mk hcell
        clear hcell hw5
        go_wp2_with ((at_builtin; refine wpList_append_own _ rfl _ _ 38 rfl w1.heap.size 22 i0 (.slice none 0 0) 1 24 Tryd.underlying38 hi hz0 hz1 hz2 rfl (by decide) _ _ _ rfl (((hown.alloc _).alloc _).alloc _) ⟨wr.heap.size + 1 + 1, 0, none⟩ 1 1 [.slice (some ⟨wr.heap.size + 1, 0, none⟩) 3 3] rfl rfl HCB.out (fun x hx => by simp at hx; subst hx; rfl) (by rw [hlen]; unfold maxLen; omega) (by rw [hlen]; omega) (by simp; omega) ?_; intro v' w3 hown' hgrow3 hnil3))
        have hu : ((wr.alloc (.cells #[.int .i64 p1, .int .i64 p2, .int .i64 p3] 54)).alloc (.cells #[.int .i64 p1, .int .i64 p2, .int .i64 p3] 2)).ownsRow w1.heap.size 2 1 (.slice (some ⟨wr.heap.size + 1, 0, none⟩) 3 3) (arcL (p1, p2, p3)).length (ints (arcL (p1, p2, p3))) := by
          have := World.ownsRow_lit (base := w1.heap.size) (e := 2) (size := 1) (wr.alloc (.cells #[.int .i64 p1, .int .i64 p2, .int .i64 p3] 54)) #[.int .i64 p1, .int .i64 p2, .int .i64 p3] 3 (by simp; omega) (by decide) rfl
          rw [World.size_alloc] at this
          exact this
        have RM2 := ((HRM.out.alloc _).alloc _).snoc hu hgrow3 hown'
        rw [← HN.out] at RM2
        clear hu hgrow3 hown' hnil3 hown HRM HCB
        go_roundw
        case rel => exact ⟨k + 1, _, by omega, by go_num, RM2⟩
        case measure => simp [intOf]; omega
      · obtain rfl : k = G.a.length := by omega
        have d1 : decide ((G.a.length : Int) < (G.a.length : Int)) = false := decide_eq_false (by omega)
        rw [List.take_of_length_le (by rw [listsG_len]; omega)] at hrm
        have HB2 := Bx.mk (B1.out.trans (hrm.bel.mono B1.out.size))
        have q := impl_lists _ (listsG G) wr hrm.at (by rw [listsG_len]; omega) (by rw [listsG_len]; omega) (fit_lists HOK.out) (Bx.mk (tab_below HB2.out htab.out))
        clear hrm h0 h1 h2 h3 hl X1 hlen
        go_wp2_with (fail)
        refine q.mono ?_
        rintro r w5 ⟨rfl, hb5⟩
        have HB5 := Bx.mk (HB2.out.trans (hb5.mono HB2.out.size))
        clear hb5
        go_wp2_with (fail)
        go_ret
        exact ⟨ret_str HE.out.symm, HB5.out⟩
end Go.Proofs.YtpbgjlmcafmejaaDoor
