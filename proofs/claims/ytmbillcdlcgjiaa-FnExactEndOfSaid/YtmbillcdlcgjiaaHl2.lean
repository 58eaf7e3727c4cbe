/- The concert of items: the program. -/
import Derived.Test.YtmbillcdlcgjiaaHl
import Derived.Test.YtmbillcdlcgjiaaHj2
import Derived.Deep.AppendLies
import Derived.Deep.RegionLaw
namespace Go.Proofs.Ytmbillcdlcgjiaa
open Go.ChangeShapes Go.WideShapes Go.ChangeAt Go.RowKit
set_option linter.unusedVariables false
set_option linter.unusedSimpArgs false
set_option maxRecDepth 100000

theorem win_one {w : World} {F : Value} {x : It} {s : Int} (h : WinAt w F x s) : F.oneCell' = true := by
  rcases h with ⟨rfl, _⟩ | ⟨g, h1, rfl, _⟩ <;> rfl
theorem own_row {w : World} {base e size n g : Nat} {v : Value} {xs : List Value} (h : w.ownsRow base e size v n xs) (hg : g < base) (c' : Array Value) : (w.setRow g c').ownsRow base e size v n xs := by
  refine ⟨h.1, ?_⟩
  rcases h.2 with h2 | ⟨g2, cap, cur, hv, hg2, hc, r⟩
  · exact .inl h2
  · refine .inr ⟨g2, cap, cur, hv, hg2, ?_, r⟩
    simp only [World.setRow, Array.getElem?_modify]
    rw [if_neg (by omega)]; exact hc
theorem slot_one (x : It) (F : Value) (h : F.oneCell' = true) : ∀ u ∈ [.string x.nm, .int .i64 x.f, .int .i64 x.u, .int .i64 x.s, .int .i64 x.m, .int .i64 x.p, F], u.oneCell' = true := by
  intro u hu
  simp only [List.mem_cons, List.not_mem_nil, or_false] at hu
  rcases hu with rfl | rfl | rfl | rfl | rfl | rfl | rfl <;> first | rfl | exact h
theorem info_concert : (Try.prog.info? 119).map (·.size) = some 2 := by kernel_rfl
theorem take_snoc (l : List It) (k : Nat) (h : k < l.length) : l.take (k + 1) = l.take k ++ [iat l k] := by
  rw [List.take_succ_eq_append_getElem h, iat_get h]
set_option maxHeartbeats 4000000 in
theorem impl_concertof (va : Value) (l : List It) (mi se : Int) (w : World) (h0 : ItsAt w va l) (hok : okIts l = true) :
    Calls Try.prog 95 #[va, .int .i64 mi, .int .i64 se] w fun e w' => ∃ A c ps, e = .returned (.agg #[.slice A l.length c, .int .i64 mi]) ∧ w'.ownsRow w.heap.size 109 7 (.slice A l.length c) l.length (scl ps) ∧ WinsAt w' ps l se ∧ Below w.heap.size w w' := by
  obtain ⟨A, c, rfl⟩ := its_len h0
  obtain ⟨i0, hi, hz0, hz1, hz2⟩ := info_parts infoSlL
  have HT := Bx.mk h0
  have HK := Bx.mk (fun k hk => okI_at hok k hk)
  have h12 := ((okIts_iff l).1 hok).1
  clear h0 hok
  go_enter Try.func95, Try.ntmps95
  go_wp2_with (fail)
  go_loopw [14] (fun i wr => ∃ (k : Nat) (A : Option Addr) (n c : Nat) (ps : List (It × Value)), k ≤ l.length ∧ i = .int .i64 k ∧ n = k ∧ Bx (BoxN wr w.heap.size #[.slice none 0 0, .int .i64 0] 119 ∧ BoxN wr (w.heap.size + 1) #[.slice A n c, .int .i64 mi] 119) ∧ Bx (wr.ownsRow (w.heap.size + 1 + 1) 109 7 (.slice A n c) n (scl ps)) ∧ Bx (WinsAt wr ps (l.take k) se) ∧ Bx (Below w.heap.size w wr)) (fun i _ => l.length - (intOf i).toNat)
  case atStart =>
    refine ⟨0, none, 0, 0, [], by omega, rfl, rfl, Bx.mk ⟨?_, ?_⟩, Bx.mk (World.ownsRow_nil _ _ _ _), Bx.mk ⟨rfl, fun p hp => by cases hp⟩, Bx.mk ?_⟩
    · exact (BoxN.at _ _ _ _ rfl).alloc _
    · exact BoxN.at _ _ _ _ (by simp)
    · exact ((Below.refl _ _).alloc (Nat.le_refl _) _).alloc (by simp) _
  case round =>
    obtain ⟨k, A1, n, c1, ps, hk, rfl, hn, HX, HO, HP, HB⟩ := hrel
    subst hn
    by_cases hlt : n < l.length
    · have dlt : decide ((n : Int) < (l.length : Int)) = true := decide_eq_true (by omega)
      obtain ⟨b, o, rfl, _, lb, hc⟩ := its_cells (HT.out.below HB.out) (by omega)
      obtain ⟨c0, c1', c2, c3, c4, c5⟩ := hc n hlt
      have x1 : (0 : Int) ≤ (n : Int) := by omega
      have x2 : (n : Int) < (l.length : Int) := by omega
      have HXK := HK.out n hlt
      have HS := Bx.mk (take_snoc l n hlt)
      generalize iat l n = x at *
      have hq := fun W => impl_slotof x se W HXK
      unfold itV slotV at hq
      have HBz := HB.out.size
      have s1 := HX.out.2.lt
      clear hc
      have B1 := Bx.mk (HB.out.alloc HB.out.size (.cells #[.string x.nm, .int .i64 x.f, .int .i64 x.u, .int .i64 x.s, .int .i64 x.m, .int .i64 x.p] 48))
      have I1 := BoxN.at wr wr.heap.size #[.string x.nm, .int .i64 x.f, .int .i64 x.u, .int .i64 x.s, .int .i64 x.m, .int .i64 x.p] 48 rfl
      have X1 := Bx.mk (HX.out.1.alloc (.cells #[.string x.nm, .int .i64 x.f, .int .i64 x.u, .int .i64 x.s, .int .i64 x.m, .int .i64 x.p] 48))
      have Y1 := Bx.mk (HX.out.2.alloc (.cells #[.string x.nm, .int .i64 x.f, .int .i64 x.u, .int .i64 x.s, .int .i64 x.m, .int .i64 x.p] 48))
      have O1 := Bx.mk (HO.out.alloc (.cells #[.string x.nm, .int .i64 x.f, .int .i64 x.u, .int .i64 x.s, .int .i64 x.m, .int .i64 x.p] 48))
      have P1 := Bx.mk (HP.out.below ((Below.refl wr.heap.size wr).alloc (Nat.le_refl _) (.cells #[.string x.nm, .int .i64 x.f, .int .i64 x.u, .int .i64 x.s, .int .i64 x.m, .int .i64 x.p] 48)))
      have S1 := Bx.mk s1
      go_wp2_with (fail)
      clear c0 c1' c2 c3 c4 c5 HX HO HP
      have i0' := I1.c (k := 0) rfl
      have i1' := I1.c (k := 1) rfl
      have i2' := I1.c (k := 2) rfl
      have i3' := I1.c (k := 3) rfl
      have i4' := I1.c (k := 4) rfl
      have i5' := I1.c (k := 5) rfl
      have il := I1.lt
      have k0 := Y1.out.c (k := 0) rfl
      have kl := Y1.out.lt
      clear I1
      obtain ⟨gi, hgi⟩ : ∃ g, g = wr.heap.size := ⟨_, rfl⟩
      generalize hW1 : wr.alloc (.cells #[.string x.nm, .int .i64 x.f, .int .i64 x.u, .int .i64 x.s, .int .i64 x.m, .int .i64 x.p] 48) = W1 at *
      clear hW1
      go_region_law (first
        | (go_simp; go_at_call 87; (with_reducible refine (hq _).mono ?_); rintro r w4 ⟨F, rfl, hF, hb4⟩; have HF := Bx.mk hF; have BR : Bx (Below W1.heap.size W1 w4) := Bx.mk ((Below.refl _ _).drew.trans hb4); have B4 := Bx.mk (B1.out.trans (BR.out.mono B1.out.size)); have X4 := Bx.mk (X1.out.below BR.out); have Y4 := Bx.mk (Y1.out.below BR.out); have O4 := Bx.mk (own_below O1.out BR.out); have P4 := Bx.mk (P1.out.below BR.out); have hL4 := Y4.out.lt; have k04 := Y4.out.c (k := 0) rfl; have kz := B4.out.size; clear hF hb4)
        | (refine step_append_lies _ (by rfl) _ _ _ (by rfl) (w.heap.size + 1 + 1) 109 i0 _ 7 64 Try.underlying117 hi hz0 hz1 hz2 (by rfl) (by omega) _ _ _ (by rfl) (O4.out.alloc _) ⟨w4.heap.size, 0, none⟩ 1 1 [.string x.nm, .int .i64 x.f, .int .i64 x.u, .int .i64 x.s, .int .i64 x.m, .int .i64 x.p, F] (by rfl) (by rfl) (World.news_of_block (cs := #[.string x.nm, .int .i64 x.f, .int .i64 x.u, .int .i64 x.s, .int .i64 x.m, .int .i64 x.p, F]) (t := 109) (fr := (0, 0)) (heap_alloc_new w4 _)) (slot_one x F (win_one HF.out)) (by omega) (by unfold maxLen; omega) (by omega) (by go_size) (w4.heap.size + 1) (by simp) ?_; intro gg cap w6 hown6 hgrow hat hlt6; have HO6 := Bx.mk hown6; have X6 := Bx.mk ((X4.out.alloc (.cells #[.string x.nm, .int .i64 x.f, .int .i64 x.u, .int .i64 x.s, .int .i64 x.m, .int .i64 x.p, F] 109)).grownN hgrow (box_ne_row (O4.out.alloc (.cells #[.string x.nm, .int .i64 x.f, .int .i64 x.u, .int .i64 x.s, .int .i64 x.m, .int .i64 x.p, F] 109)) (X4.out.alloc (.cells #[.string x.nm, .int .i64 x.f, .int .i64 x.u, .int .i64 x.s, .int .i64 x.m, .int .i64 x.p, F] 109)) (by decide))); have Y6 := Bx.mk ((Y4.out.alloc (.cells #[.string x.nm, .int .i64 x.f, .int .i64 x.u, .int .i64 x.s, .int .i64 x.m, .int .i64 x.p, F] 109)).grownN hgrow (box_ne_row (O4.out.alloc (.cells #[.string x.nm, .int .i64 x.f, .int .i64 x.u, .int .i64 x.s, .int .i64 x.m, .int .i64 x.p, F] 109)) (Y4.out.alloc (.cells #[.string x.nm, .int .i64 x.f, .int .i64 x.u, .int .i64 x.s, .int .i64 x.m, .int .i64 x.p, F] 109)) (by decide))); have P6 : Bx (∀ p, p ∈ ps → WinAt w6 p.2 p.1 se) := Bx.mk (fun p hp => (((P4.out.w p hp).below ((Below.refl w4.heap.size w4).alloc (Nat.le_refl _) (.cells #[.string x.nm, .int .i64 x.f, .int .i64 x.u, .int .i64 x.s, .int .i64 x.m, .int .i64 x.p, F] 109))).grown (O4.out.alloc (.cells #[.string x.nm, .int .i64 x.f, .int .i64 x.u, .int .i64 x.s, .int .i64 x.m, .int .i64 x.p, F] 109)) hgrow)); have F6 : Bx (WinAt w6 F x se) := Bx.mk ((HF.out.below ((Below.refl w4.heap.size w4).alloc (Nat.le_refl _) (.cells #[.string x.nm, .int .i64 x.f, .int .i64 x.u, .int .i64 x.s, .int .i64 x.m, .int .i64 x.p, F] 109))).grown (O4.out.alloc (.cells #[.string x.nm, .int .i64 x.f, .int .i64 x.u, .int .i64 x.s, .int .i64 x.m, .int .i64 x.p, F] 109)) hgrow); have B6 : Bx (Below w.heap.size w w6) := Bx.mk ((B4.out.alloc B4.out.size (.cells #[.string x.nm, .int .i64 x.f, .int .i64 x.u, .int .i64 x.s, .int .i64 x.m, .int .i64 x.p, F] 109)).grown hgrow (by simp; omega) (fun g hg => by have := own_lo O4.out g hg; omega)); have gc := Y6.out.c (k := 0) rfl; have gf := Y6.out.fr 0; have L6 := Y6.out.lt; clear hgrow hown6 hat))
      all_goals
        have Y7 := Y6.out.put 0 (.slice (some ⟨gg, 0, none⟩) (n + 1) cap)
        have X7 := X6.out.other (b := w.heap.size + 1) (o := 0) (by omega) (.slice (some ⟨gg, 0, none⟩) (n + 1) cap)
        have O7 : (w6.setCell ⟨w.heap.size + 1, 0, none⟩ (.slice (some ⟨gg, 0, none⟩) (n + 1) cap)).ownsRow (w.heap.size + 1 + 1) 109 7 (.slice (some ⟨gg, 0, none⟩) (n + 1) cap) (n + 1) (scl (ps ++ [(x, F)])) := by
          rw [scl_app]
          exact ownset HO6.out (by omega) _ _
        have B7 := B6.out.setCell (p := ⟨w.heap.size + 1, 0, none⟩) (by show w.heap.size ≤ w.heap.size + 1; omega) (.slice (some ⟨gg, 0, none⟩) (n + 1) cap)
        have W7 : WinsAt (w6.setCell ⟨w.heap.size + 1, 0, none⟩ (.slice (some ⟨gg, 0, none⟩) (n + 1) cap)) (ps ++ [(x, F)]) (l.take (n + 1)) se := ⟨by rw [HS.out, List.map_append, P4.out.l]; rfl, fun p hp => by
          rcases List.mem_append.1 hp with h | h
          · exact (P6.out p h).setc Y6.out (by decide) (by decide) _ _
          · rw [List.mem_singleton] at h; subst h; exact F6.out.setc Y6.out (by decide) (by decide) _ _⟩
        have HR7 := Bx.mk (And.intro Y7 (And.intro X7 (And.intro O7 (And.intro W7 B7))))
        clear Y7 X7 O7 W7 B7 Y6 X6 HO6 P6 F6 B6 P4 O4 X4 Y4 B4
        go_wp2_with (fail)
        go_roundw
        case rel => exact ⟨n + 1, _, _, _, _, by omega, by go_num, rfl, Bx.mk ⟨HR7.out.2.1, HR7.out.1⟩, Bx.mk HR7.out.2.2.1, Bx.mk HR7.out.2.2.2.1, Bx.mk HR7.out.2.2.2.2⟩
        case measure => simp [intOf]; omega
    · obtain rfl : n = l.length := by omega
      have dlt : decide ((l.length : Int) < (l.length : Int)) = false := decide_eq_false (by omega)
      have P := HP.out
      rw [List.take_length] at P
      have P := Bx.mk P
      have hld := HX.out.2.load _ Try.underlying119 rfl info_concert
      have hst := HX.out.1.store #[.slice A1 l.length c1, .int .i64 mi] info_concert rfl (by simp [Value.oneCell'])
      have RF := HX.out.1.row #[.slice A1 l.length c1, .int .i64 mi]
      have hB := setRow_below HB.out (Nat.le_refl w.heap.size) #[.slice A1 l.length c1, .int .i64 mi]
      have hO := own_row HO.out (show w.heap.size < w.heap.size + 1 + 1 by omega) #[.slice A1 l.length c1, .int .i64 mi]
      have hP : WinsAt (wr.setRow w.heap.size #[.slice A1 l.length c1, .int .i64 mi]) ps l se := ⟨P.out.l, fun p hp => (P.out.w p hp).rowc HX.out.1 (by decide) (by decide) _⟩
      clear HP HX HO HB P
      go_upto_region 7 with (fail)
      refine wp_region_lit ?_
      refine wpR_lod rfl 119 _ rfl (.pointer (some ⟨w.heap.size + 1, 0, none⟩)) _ rfl hld ?_
      refine wpR_sto rfl 119 _ _ rfl (.pointer (some ⟨w.heap.size, 0, none⟩)) _ rfl rfl hst ?_
      refine wpList_nil ?_
      generalize wr.setRow w.heap.size _ = W2 at *
      clear hst hld
      go_wp2_with (fail)
      refine bodyPost_ret (v := .agg #[.slice A1 l.length c1, .int .i64 mi]) ?_ rfl ⟨_, _, _, rfl, owndown (by omega) hO, hP, hB⟩
      exact results_cell_row Try.results95 _ W2 w.heap.size _ _ (0, 0) _ (by simp [go_sem, Act.put]) RF Try.underlying119 rfl info_concert
end Go.Proofs.Ytmbillcdlcgjiaa
