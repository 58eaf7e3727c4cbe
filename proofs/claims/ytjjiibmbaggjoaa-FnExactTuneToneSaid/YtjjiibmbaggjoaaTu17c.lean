/- The model's TuneTone. -/
import Derived.Test.YtjjiibmbaggjoaaTu17
import Derived.Test.YtjjiibmbaggjoaaTu8
namespace Go.Proofs.Ytjjiibmbaggjoaa
open Go.ChangeShapes Go.WideShapes Go.ChangeAt Go.RowKit
set_option linter.unusedVariables false
set_option linter.unusedSimpArgs false
set_option maxRecDepth 100000

def tuS (s : ByteArray) (E : Option (List (Int × Int)) × Int) : ByteArray := if E.1.isSome then s else ⟨#[]⟩
theorem out_none (s : ByteArray) (k : Int) (w w' : World) (e : Ending) (E : Option (List (Int × Int)) × Int) (hE : E = (none, k)) (he : e = .returned (.tuple #[.agg #[.string ⟨#[]⟩, .slice none 0 0], .int .i64 k])) (hb : Below w.heap.size w w') :
    TunOut2E (tuS s E) (E.1.getD []) (.int .i64 E.2) w e w' := by
  subst hE
  exact ⟨0, .slice none 0 0, he, World.ownsRow_nil _ _ _ _, hb⟩
theorem out_some (s : ByteArray) (l' : List (Int × Int)) (k : Int) (w w' : World) (e : Ending) (te : TypeId) (v : Value) {E : Option (List (Int × Int)) × Int} (hE : E = (some l', k)) {m : Nat} (hl : l'.length = m) (he : e = .returned (.tuple #[.agg #[.string s, v], .int .i64 k])) (ho : w'.ownsRow w.heap.size te 2 v m (pcl l')) (hb : Below w.heap.size w w') :
    TunOut2E (tuS s E) (E.1.getD []) (.int .i64 E.2) w e w' := by
  subst hE
  exact ⟨te, v, he, by show w'.ownsRow w.heap.size te 2 v l'.length (pcl l'); rw [hl]; exact ho, hb⟩
set_option maxHeartbeats 4000000 in
theorem spec_tunetone (s : ByteArray) (v : Value) (l : List (Int × Int)) (t : Int) (r : Int × Int) (w : World) (h : PrsAt w v l) (hs : s.size ≤ maxLen) (hm : l.length ≤ 281474976710656) :
    Calls Try.prog 46 #[tun s v, .int .i64 t, .agg #[.int .i64 r.1, .int .i64 r.2]] w (TunOut2E (tuS s (tuneE s.data.toList l t r)) ((tuneE s.data.toList l t r).1.getD []) (.int .i64 (tuneE s.data.toList l t r).2) w) := by
  have hk := fun g W a0 a1 hW => spec_tok g s v l W a0 a1 hW hs hm
  have HI := Bx.mk h
  have hin := fun W => in_any t 1 11 W
  cases ht : tunB s.data.toList l
  · have HE : Bx (tuneE s.data.toList l t r = (none, 1)) := Bx.mk (by simp [tuneE, ht])
    rw [ht] at hk
    clear ht h hs hm hin
    try simp only [tun] at *
    go_enter Try.func46, Try.ntmps46
    go_wp2_with (fail)
    have K0 := Bx.mk (((BoxAt.at w w.heap.size (.string s) v 59 rfl).alloc (.cells #[.int .i64 r.1, .int .i64 r.2] 63)).alloc (.cells #[.string ⟨#[]⟩, .slice none 0 0] 59))
    have K1 := Bx.mk ((BoxAt.at (w.alloc (.cells #[.string s, v] 59)) (w.heap.size + 1) (.int .i64 r.1) (.int .i64 r.2) 63 (by simp)).alloc (.cells #[.string ⟨#[]⟩, .slice none 0 0] 59))
    have K2 := Bx.mk (BoxAt.at ((w.alloc (.cells #[.string s, v] 59)).alloc (.cells #[.int .i64 r.1, .int .i64 r.2] 63)) (w.heap.size + 1 + 1) (.string ⟨#[]⟩) (.slice none 0 0) 59 (by simp))
    have B0 : Bx (Below w.heap.size w (((w.alloc (.cells #[.string s, v] 59)).alloc (.cells #[.int .i64 r.1, .int .i64 r.2] 63)).alloc (.cells #[.string ⟨#[]⟩, .slice none 0 0] 59))) := Bx.mk ((((Below.refl _ _).alloc (Nat.le_refl _) _).alloc (by simp) _).alloc (by simp; omega) _)
    generalize (((w.alloc (.cells #[.string s, v] 59)).alloc (.cells #[.int .i64 r.1, .int .i64 r.2] 63)).alloc (.cells #[.string ⟨#[]⟩, .slice none 0 0] 59)) = W0 at *
    refine (hk _ _ K0.out.c0 K0.out.c1 (HI.out.below B0.out)).mono ?_
    rintro e w' ⟨rfl, k, rfl⟩
    have K0d := Bx.mk (K0.out.draws k)
    have K1d := Bx.mk (K1.out.draws k)
    have K2d := Bx.mk (K2.out.draws k)
    have B0d := Bx.mk (below_draws B0.out k)
    clear K0 K1 K2 B0
    generalize W0.drewN k = W at *
    have k00 := K0d.out.c0
    have k01 := K0d.out.c1
    have k20 := K2d.out.c0
    have k21 := K2d.out.c1
    have k2f := K2d.out.f0 0
    have k2g := K2d.out.f0 1
    have k2l := K2d.out.lt
    go_wp2_with (fail)
    have P1 := (K2d.out.put0 (.string ⟨#[]⟩)).put1 (.slice none 0 0)
    refine bodyPost_ret (v := .tuple #[.agg #[.string ⟨#[]⟩, .slice none 0 0], _]) (by simp [results, Try.results46, go_sem, P1.c0, P1.c1]; try rfl) rfl ?_
    exact out_none _ _ _ _ _ _ HE.out rfl ((B0d.out.setCell (by show w.heap.size ≤ w.heap.size + 1 + 1; omega) _).setCell (by show w.heap.size ≤ w.heap.size + 1 + 1; omega) _)
  · cases hc : inB t 1 11
    · have HE : Bx (tuneE s.data.toList l t r = (none, 2)) := Bx.mk (by simp [tuneE, ht, hc])
      rw [ht] at hk
      rw [hc] at hin
      clear ht h hs hm hc
      try simp only [tun] at *
      go_enter Try.func46, Try.ntmps46
      go_wp2_with (fail)
      have K0 := Bx.mk (((BoxAt.at w w.heap.size (.string s) v 59 rfl).alloc (.cells #[.int .i64 r.1, .int .i64 r.2] 63)).alloc (.cells #[.string ⟨#[]⟩, .slice none 0 0] 59))
      have K1 := Bx.mk ((BoxAt.at (w.alloc (.cells #[.string s, v] 59)) (w.heap.size + 1) (.int .i64 r.1) (.int .i64 r.2) 63 (by simp)).alloc (.cells #[.string ⟨#[]⟩, .slice none 0 0] 59))
      have K2 := Bx.mk (BoxAt.at ((w.alloc (.cells #[.string s, v] 59)).alloc (.cells #[.int .i64 r.1, .int .i64 r.2] 63)) (w.heap.size + 1 + 1) (.string ⟨#[]⟩) (.slice none 0 0) 59 (by simp))
      have B0 : Bx (Below w.heap.size w (((w.alloc (.cells #[.string s, v] 59)).alloc (.cells #[.int .i64 r.1, .int .i64 r.2] 63)).alloc (.cells #[.string ⟨#[]⟩, .slice none 0 0] 59))) := Bx.mk ((((Below.refl _ _).alloc (Nat.le_refl _) _).alloc (by simp) _).alloc (by simp; omega) _)
      generalize (((w.alloc (.cells #[.string s, v] 59)).alloc (.cells #[.int .i64 r.1, .int .i64 r.2] 63)).alloc (.cells #[.string ⟨#[]⟩, .slice none 0 0] 59)) = W0 at *
      refine (hk _ _ K0.out.c0 K0.out.c1 (HI.out.below B0.out)).mono ?_
      rintro e w' ⟨rfl, k, rfl⟩
      have K0d := Bx.mk (K0.out.draws k)
      have K1d := Bx.mk (K1.out.draws k)
      have K2d := Bx.mk (K2.out.draws k)
      have B0d := Bx.mk (below_draws B0.out k)
      clear K0 K1 K2 B0
      generalize W0.drewN k = W at *
      have k00 := K0d.out.c0
      have k01 := K0d.out.c1
      have k20 := K2d.out.c0
      have k21 := K2d.out.c1
      have k2f := K2d.out.f0 0
      have k2g := K2d.out.f0 1
      have k2l := K2d.out.lt
      go_wp2_with (fail)
      refine (hin _).mono ?_
      rintro e w' ⟨rfl, rfl⟩
      go_wp2_with (fail)
      have P1 := (K2d.out.put0 (.string ⟨#[]⟩)).put1 (.slice none 0 0)
      refine bodyPost_ret (v := .tuple #[.agg #[.string ⟨#[]⟩, .slice none 0 0], _]) (by simp [results, Try.results46, go_sem, P1.c0, P1.c1]; try rfl) rfl ?_
      exact out_none _ _ _ _ _ _ HE.out rfl ((B0d.out.setCell (by show w.heap.size ≤ w.heap.size + 1 + 1; omega) _).setCell (by show w.heap.size ≤ w.heap.size + 1 + 1; omega) _)
    · have hl : l.length = 12 := (tun_yes ht).2.1
      obtain ⟨q1, q2⟩ := inB_yes hc
      obtain ⟨n, rfl⟩ : ∃ n : Nat, t = (n : Int) := ⟨t.toNat, by omega⟩
      have HE : Bx (tuneE s.data.toList l n r = if tunB s.data.toList (l.set n r) = true then (some (l.set n r), 0) else (none, 6)) := Bx.mk (by simp [tuneE, ht, hc])
      have hown := fun g W a0 a1 hW => spec_own g s v l W a0 a1 hW hl
      have hk2 := fun g V W a0 a1 hW => spec_tok g s V (l.set n r) W a0 a1 hW hs (by simp; omega)
      rw [ht] at hk
      rw [hc] at hin
      clear ht h hs hm hc
      simp only [tun] at hk hk2 ⊢
      generalize tunB s.data.toList (l.set n r) = b at *
      have n0 : (0 : Int) ≤ (n : Int) := by omega
      have n1 : (n : Int) < 12 := by omega
      try simp only [tun] at *
      go_enter Try.func46, Try.ntmps46
      go_wp2_with (fail)
      have K0 := Bx.mk (((BoxAt.at w w.heap.size (.string s) v 59 rfl).alloc (.cells #[.int .i64 r.1, .int .i64 r.2] 63)).alloc (.cells #[.string ⟨#[]⟩, .slice none 0 0] 59))
      have K1 := Bx.mk ((BoxAt.at (w.alloc (.cells #[.string s, v] 59)) (w.heap.size + 1) (.int .i64 r.1) (.int .i64 r.2) 63 (by simp)).alloc (.cells #[.string ⟨#[]⟩, .slice none 0 0] 59))
      have K2 := Bx.mk (BoxAt.at ((w.alloc (.cells #[.string s, v] 59)).alloc (.cells #[.int .i64 r.1, .int .i64 r.2] 63)) (w.heap.size + 1 + 1) (.string ⟨#[]⟩) (.slice none 0 0) 59 (by simp))
      have B0 : Bx (Below w.heap.size w (((w.alloc (.cells #[.string s, v] 59)).alloc (.cells #[.int .i64 r.1, .int .i64 r.2] 63)).alloc (.cells #[.string ⟨#[]⟩, .slice none 0 0] 59))) := Bx.mk ((((Below.refl _ _).alloc (Nat.le_refl _) _).alloc (by simp) _).alloc (by simp; omega) _)
      generalize (((w.alloc (.cells #[.string s, v] 59)).alloc (.cells #[.int .i64 r.1, .int .i64 r.2] 63)).alloc (.cells #[.string ⟨#[]⟩, .slice none 0 0] 59)) = W0 at *
      refine (hk _ _ K0.out.c0 K0.out.c1 (HI.out.below B0.out)).mono ?_
      rintro e w' ⟨rfl, k, rfl⟩
      have K0d := Bx.mk (K0.out.draws k)
      have K1d := Bx.mk (K1.out.draws k)
      have K2d := Bx.mk (K2.out.draws k)
      have B0d := Bx.mk (below_draws B0.out k)
      clear K0 K1 K2 B0
      generalize W0.drewN k = W at *
      have k00 := K0d.out.c0
      have k01 := K0d.out.c1
      have k20 := K2d.out.c0
      have k21 := K2d.out.c1
      have k2f := K2d.out.f0 0
      have k2g := K2d.out.f0 1
      have k2l := K2d.out.lt
      go_wp2_with (fail)
      refine (hin _).mono ?_
      rintro e w' ⟨rfl, rfl⟩
      go_wp2_with (fail)
      refine (hown _ _ K0d.out.c0 K0d.out.c1 (HI.out.below B0d.out)).mono ?_
      rintro e w1 ⟨te, v1, rfl, ho, hb1⟩
      obtain ⟨gg, cap, rfl, hbg, hgl⟩ := ho.form (by omega)
      have B1 : Bx (Below w.heap.size w w1) := Bx.mk (B0d.out.trans (hb1.mono B0d.out.size))
      have K1 := Bx.mk ((K1d.out.below hb1).alloc (.cells #[.string s, .slice (some ⟨gg, 0, none⟩) 12 cap] 59))
      have K2 := Bx.mk (K2d.out.below hb1)
      have HG : Bx (w.heap.size + 1 + 1 < gg) := Bx.mk (Nat.lt_of_lt_of_le K2d.out.lt hbg)
      have O1 : Bx (w1.ownsRow (w.heap.size + 1 + 1 + 1) te 2 (.slice (some ⟨gg, 0, none⟩) l.length cap) l.length (pcl l)) := Bx.mk (own_down (show w.heap.size + 1 + 1 + 1 ≤ W.heap.size from K2d.out.lt) ho)
      clear hb1 hown hk hin ho k00 k01 k20 k21 k2f k2g k2l K0d K1d K2d B0d hbg
      rw [hl] at O1
      have O2 := Bx.mk (World.ownsRow.alloc O1.out (.cells #[.string s, .slice (some ⟨gg, 0, none⟩) 12 cap] 59))
      have K3 := Bx.mk (BoxAt.at w1 w1.heap.size (.string s) (.slice (some ⟨gg, 0, none⟩) 12 cap) 59 rfl)
      have B2 := Bx.mk (B1.out.alloc B1.out.size (.cells #[.string s, .slice (some ⟨gg, 0, none⟩) 12 cap] 59))
      have hne : w1.heap.size ≠ gg := by omega
      have hs1 := O1.out.stored (n * 2) (.int .i64 r.1)
      have y1 : (w1.setCell ⟨gg, n * 2, none⟩ (.int .i64 r.1)).cell? ⟨gg, n * 2 + 1, none⟩ = some (.int .i64 (pat l n).2) := by rw [hs1.1.cellAt (n * 2 + 1) (by omega), List.getElem?_set_ne (by omega)]; exact pcl_at1 l n (by omega)
      have y3 : ((w1.setCell ⟨gg, n * 2, none⟩ (.int .i64 r.1)).alloc (.cells #[.string s, .slice (some ⟨gg, 0, none⟩) 12 cap] 59)).cell? ⟨gg, n * 2 + 1, none⟩ = some (.int .i64 (pat l n).2) := ((World.ownsRow.alloc hs1.1 (.cells #[.string s, .slice (some ⟨gg, 0, none⟩) 12 cap] 59)).cellAt (n * 2 + 1) (by omega)).trans (by rw [List.getElem?_set_ne (by omega)]; exact pcl_at1 l n (by omega))
      have y4 := (World.ownsRow.alloc hs1.1 (.cells #[.string s, .slice (some ⟨gg, 0, none⟩) 12 cap] 59)).frozenAt (n * 2 + 1)
      have y2 := hs1.1.frozenAt (n * 2 + 1)
      have hs2 := hs1.1.stored (n * 2 + 1) (.int .i64 r.2)
      rw [pcl_set _ n r (by omega)] at hs2
      have O3 : Bx ((((w1.setCell ⟨gg, n * 2, none⟩ (.int .i64 r.1)).setCell ⟨gg, n * 2 + 1, none⟩ (.int .i64 r.2)).alloc (.cells #[.string s, .slice (some ⟨gg, 0, none⟩) 12 cap] 59)).ownsRow (w.heap.size + 1 + 1 + 1) te 2 (.slice (some ⟨gg, 0, none⟩) 12 cap) 12 (pcl (l.set n r))) := Bx.mk (World.ownsRow.alloc hs2.1 _)
      have K3s : Bx (BoxAt (((w1.setCell ⟨gg, n * 2, none⟩ (.int .i64 r.1)).setCell ⟨gg, n * 2 + 1, none⟩ (.int .i64 r.2)).alloc (.cells #[.string s, .slice (some ⟨gg, 0, none⟩) 12 cap] 59)) w1.heap.size (.string s) (.slice (some ⟨gg, 0, none⟩) 12 cap) 59) := Bx.mk (BoxAt.at _ _ _ _ _ (by simp))
      have K2s : Bx (BoxAt (((w1.setCell ⟨gg, n * 2, none⟩ (.int .i64 r.1)).setCell ⟨gg, n * 2 + 1, none⟩ (.int .i64 r.2)).alloc (.cells #[.string s, .slice (some ⟨gg, 0, none⟩) 12 cap] 59)) (w.heap.size + 1 + 1) (.string ⟨#[]⟩) (.slice none 0 0) 59) := Bx.mk ((BoxAt.other (by have := HG.out; omega) (BoxAt.other (by have := HG.out; omega) K2.out _) _).alloc _)
      have B3 : Bx (Below w.heap.size w (((w1.setCell ⟨gg, n * 2, none⟩ (.int .i64 r.1)).setCell ⟨gg, n * 2 + 1, none⟩ (.int .i64 r.2)).alloc (.cells #[.string s, .slice (some ⟨gg, 0, none⟩) 12 cap] 59))) := Bx.mk (((B1.out.setCell (by show w.heap.size ≤ gg; have := HG.out; omega) _).setCell (by show w.heap.size ≤ gg; have := HG.out; omega) _).alloc (by have := B1.out.size; simpa using this) _)
      have HN3 : Bx (w.heap.size + 1 + 1 < w1.heap.size) := Bx.mk (by have := HG.out; omega)
      have x0 := (O1.out.cellAt (n * 2) (by omega)).trans (pcl_at0 l n (by omega))
      have x1 := O1.out.frozenAt (n * 2)
      have z0 := (O2.out.cellAt (n * 2) (by omega)).trans (pcl_at0 l n (by omega))
      have z1 := (O2.out.cellAt (n * 2 + 1) (by omega)).trans (pcl_at1 l n (by omega))
      have f0' := O2.out.frozenAt (n * 2)
      have f1' := O2.out.frozenAt (n * 2 + 1)
      have b0 := K3.out.c0
      have b1 := K3.out.c1
      have r0 := K1.out.c0
      have r1 := K1.out.c1
      simp only [tun, hl]
      clear hs1 hs2 O1 O2 K1 K2 K3 B1 B2 HI
      go_wp2_with (fail)
      have HPR : Bx (PrsAt (((w1.setCell ⟨gg, n * 2, none⟩ (.int .i64 r.1)).setCell ⟨gg, n * 2 + 1, none⟩ (.int .i64 r.2)).alloc (.cells #[.string s, .slice (some ⟨gg, 0, none⟩) 12 cap] 59)) (.slice (some ⟨gg, 0, none⟩) 12 cap) (l.set n r)) := Bx.mk (prs_own (by rw [show (l.set n r).length = 12 by simp [hl]]; exact O3.out))
      have HB1 : Bx (w.heap.size + 1 + 1 + 1 ≤ w1.heap.size) := Bx.mk HN3.out
      clear y1 y2 y3 y4 x0 x1 z0 z1 f0' f1' b0 b1 r0 r1
      generalize (((w1.setCell ⟨gg, n * 2, none⟩ (.int .i64 r.1)).setCell ⟨gg, n * 2 + 1, none⟩ (.int .i64 r.2)).alloc (.cells #[.string s, .slice (some ⟨gg, 0, none⟩) 12 cap] 59)) = W4 at *
      refine (hk2 _ _ _ K3s.out.c0 K3s.out.c1 HPR.out).mono ?_
      rintro e w' ⟨rfl, k2, rfl⟩
      have K3e := Bx.mk (K3s.out.draws k2)
      have K2e := Bx.mk (K2s.out.draws k2)
      have B3e := Bx.mk (below_draws B3.out k2)
      have O3e : Bx ((W4.drewN k2).ownsRow (w.heap.size + 1 + 1 + 1) te 2 (.slice (some ⟨gg, 0, none⟩) 12 cap) 12 (pcl (l.set n r))) := Bx.mk O3.out
      clear K3s K2s B3 O3 HPR hk2
      generalize W4.drewN k2 = W5 at *
      generalize hbx : w1.heap.size = bx at *
      have e0 := K3e.out.c0
      have e1 := K3e.out.c1
      have k20 := K2e.out.c0
      have k21 := K2e.out.c1
      have k2f := K2e.out.f0 0
      have k2g := K2e.out.f0 1
      have k2l := K2e.out.lt
      have hnb : bx ≠ w.heap.size + 1 + 1 := by have := HB1.out; omega
      have hnb2 : w.heap.size + 1 + 1 ≠ bx := Ne.symm hnb
      cases b
      · have HE : Bx (tuneE s.data.toList l n r = (none, 6)) := Bx.mk (by simpa using HE.out)
        go_wp2_with (fail)
        have P1 := (K2e.out.put0 (.string ⟨#[]⟩)).put1 (.slice none 0 0)
        refine bodyPost_ret (v := .tuple #[.agg #[.string ⟨#[]⟩, .slice none 0 0], _]) (by simp [results, Try.results46, go_sem, P1.c0, P1.c1]; try rfl) rfl ?_
        exact out_none _ _ _ _ _ _ HE.out rfl ((B3e.out.setCell (by show w.heap.size ≤ w.heap.size + 1 + 1; omega) _).setCell (by show w.heap.size ≤ w.heap.size + 1 + 1; omega) _)
      · have HE : Bx (tuneE s.data.toList l n r = (some (l.set n r), 0)) := Bx.mk (by simpa using HE.out)
        go_wp2_with (fail)
        have P1 := (K2e.out.put0 (.string s)).put1 (.slice (some ⟨gg, 0, none⟩) 12 cap)
        refine bodyPost_ret (v := .tuple #[.agg #[.string s, .slice (some ⟨gg, 0, none⟩) 12 cap], _]) (by simp [results, Try.results46, go_sem, P1.c0, P1.c1]; try rfl) rfl ?_
        exact out_some _ _ _ _ _ _ te _ HE.out (by rw [List.length_set]; exact hl) rfl (own_down (show w.heap.size ≤ w.heap.size + 1 + 1 + 1 by omega) (own_set (own_set O3e.out (Nat.lt_succ_self _) _ _) (Nat.lt_succ_self _) _ _)) ((B3e.out.setCell (by show w.heap.size ≤ w.heap.size + 1 + 1; omega) _).setCell (by show w.heap.size ≤ w.heap.size + 1 + 1; omega) _)
end Go.Proofs.Ytjjiibmbaggjoaa
