/- The model's JustTuning. -/
import Derived.Test.YtbnhcacjlkmfeaaTuG
import Derived.Test.YtbnhcacjlkmfeaaTuP
import Derived.Test.YtbnhcacjlkmfeaaTiA
import Derived.Test.YtbnhcacjlkmfeaaSplit
import Derived.Deep.AppendLies
import Derived.Deep.RegionLaw
namespace Go.Proofs.Ytbnhcacjlkmfeaa
open Go.ChangeShapes Go.WideShapes Go.ChangeAt Go.RowKit
set_option linter.unusedVariables false
set_option linter.unusedSimpArgs false
set_option maxRecDepth 100000

def numsL : List Value := [.int .i64 1, .int .i64 16, .int .i64 9, .int .i64 6, .int .i64 5, .int .i64 4, .int .i64 45, .int .i64 3, .int .i64 8, .int .i64 5, .int .i64 9, .int .i64 15]
def densL : List Value := [.int .i64 1, .int .i64 15, .int .i64 8, .int .i64 5, .int .i64 4, .int .i64 3, .int .i64 32, .int .i64 2, .int .i64 5, .int .i64 3, .int .i64 5, .int .i64 8]
theorem nums_at : ∀ j, j < 12 → numsL[j]? = some (.int .i64 (pat justL j).1) := by
  intro j hj
  match j, hj with
  | 0, _ | 1, _ | 2, _ | 3, _ | 4, _ | 5, _ | 6, _ | 7, _ | 8, _ | 9, _ | 10, _ | 11, _ => rfl
theorem dens_at : ∀ j, j < 12 → densL[j]? = some (.int .i64 (pat justL j).2) := by
  intro j hj
  match j, hj with
  | 0, _ | 1, _ | 2, _ | 3, _ | 4, _ | 5, _ | 6, _ | 7, _ | 8, _ | 9, _ | 10, _ | 11, _ => rfl
theorem BoxAt.grown {w w' : World} {g : Nat} {x y : Value} {t : TypeId} {row : Option Nat} (h : BoxAt w g x y t) (hg : w.grownBy w' row) (hn : row ≠ some g) : BoxAt w' g x y t := by
  have := hg.block g h.lt (fun e => hn e.symm)
  unfold BoxAt at h ⊢
  rw [this, h]
theorem ArrAt.grown {w w' : World} {g : Nat} {vs : List Value} {t : TypeId} {row : Option Nat} (h : ArrAt w g vs t) (hg : w.grownBy w' row) (hn : row ≠ some g) : ArrAt w' g vs t := by
  have := hg.block g h.lt (fun e => hn e.symm)
  unfold ArrAt at h ⊢
  rw [this, h]
theorem row_ne {w : World} {base e size n g : Nat} {v : Value} {xs : List Value} (h : w.ownsRow base e size v n xs) (hg : g < base) : v.ownBlock ≠ some g := fun e => by
  have := own_ge' h g e; omega
set_option maxHeartbeats 2000000 in
theorem spec_l04just (w : World) : Calls Try.prog 37 #[] w (TunOutE justS justL w) := by
  obtain ⟨i0, hi, hz0, hz1, hz2⟩ := info_parts infoRatL
  go_enter Try.func37, Try.ntmps37
  go_wp2_with (fail)
  go_loopw [4] (fun i wr => ∃ (j : Nat) (A : Option Addr) (n c : Nat), j ≤ 12 ∧ i = .int .i64 j ∧ Bx (ArrAt wr (w.heap.size + 1) numsL 2 ∧ ArrAt wr (w.heap.size + 1 + 1) densL 2 ∧ BoxAt wr w.heap.size (.string ⟨#[]⟩) (.slice none 0 0) 29 ∧ BoxAt wr (w.heap.size + 1 + 1 + 1) (.string justS) (.slice A n c) 29) ∧ Bx (wr.ownsRow (w.heap.size + 1 + 1 + 1 + 1) 41 2 (.slice A n c) (justL.take j).length (pcl (justL.take j))) ∧ Bx (Below w.heap.size w wr)) (fun i _ => 12 - (intOf i).toNat)
  case atStart =>
    refine ⟨0, none, 0, 0, by omega, rfl, Bx.mk ⟨?_, ?_, ?_, ?_⟩, Bx.mk (World.ownsRow_nil _ _ _ _), Bx.mk ?_⟩
    · exact ((ArrAt.at _ _ numsL _ (by simp)).alloc _).alloc _
    · exact (ArrAt.at _ _ densL _ (by simp)).alloc _
    · exact (((BoxAt.at _ _ _ _ _ rfl).alloc _).alloc _).alloc _
    · exact BoxAt.at _ _ _ _ _ (by simp)
    · exact (((((Below.refl _ _).alloc (Nat.le_refl _) _).alloc (by simp) _).alloc (by simp; omega) _).alloc (by simp; omega) _)
  case round =>
    obtain ⟨j, A, n, c, hj, rfl, HK, HO, HB⟩ := hrel
    have hn : n = (justL.take j).length := by
      obtain ⟨A', c', h⟩ := own_len HO.out
      injection h
    by_cases hlt : j < 12
    · have c0 : wr.cell? ⟨w.heap.size + 1, j, none⟩ = some (.int .i64 (pat justL j).1) := (HK.out.1.cell j).trans (nums_at j hlt)
      have c1 : wr.cell? ⟨w.heap.size + 1 + 1, j, none⟩ = some (.int .i64 (pat justL j).2) := (HK.out.2.1.cell j).trans (dens_at j hlt)
      have hn1 := nums_at j hlt
      have hn2 := dens_at j hlt
      have HS : Bx (justL.take (j + 1) = justL.take j ++ [pat justL j]) := Bx.mk (by rw [List.take_succ_eq_append_getElem (show j < justL.length from hlt), pat_get (show j < justL.length from hlt)])
      have hll : n ≤ 12 := by rw [hn, List.length_take]; omega
      obtain ⟨h1, h2, h3, h4⟩ := HK.out
      have k0 := h4.c0
      have k1 := h4.c1
      have kf0 := h4.f0 0
      have kf1 := h4.f0 1
      have kl := h4.lt
      have j0 : (0 : Int) ≤ (j : Int) := by omega
      have j1 : (j : Int) < 12 := by omega
      generalize pat justL j = p at *
      obtain ⟨p1, p2⟩ := p
      dsimp only at c0 c1 hn1 hn2
      have HN1 := Bx.mk hn1
      have HN2 := Bx.mk hn2
      clear hn1 hn2
      have HO1 : Bx (wr.drew.ownsRow (w.heap.size + 1 + 1 + 1 + 1) 41 2 (.slice A n c) n (pcl (justL.take j))) := Bx.mk (by have := HO.out; rw [← hn] at this; exact this)
      have HBz := HB.out.size
      have H1 := Bx.mk h1
      have H2 := Bx.mk h2
      have H3 := Bx.mk h3
      have H4 := Bx.mk h4
      have hGl : w.heap.size + 1 + 1 + 1 + 1 ≤ wr.heap.size := kl
      have HNB := Bx.mk hn
      clear h1 h2 h3 h4 HO HK hn
      go_wp2_with (fail)
      go_region_law
        ((refine step_append_lies _ (by rfl) _ _ _ (by rfl) (w.heap.size + 1 + 1 + 1 + 1) 41 i0 _ 2 16 Try.underlying27 hi hz0 hz1 hz2 (by rfl) (by omega) _ _ _ (by rfl) (HO1.out.alloc _) ⟨wr.heap.size, 0, none⟩ 1 1 [.int .i64 p1, .int .i64 p2] (by rfl) (by rfl) (World.news_of_block (cs := #[.int .i64 p1, .int .i64 p2]) (t := 41) (fr := (0, 0)) (heap_alloc_new wr.drew _)) (by simp [Value.oneCell']) (by omega) (by unfold maxLen; omega) (by omega) (by go_size) (wr.heap.size + 1) (by simp) ?_; intro gg cap w6 hown6 hgrow hat hlt6; have HO6 := Bx.mk hown6; have hne := row_ne (g := w.heap.size + 1 + 1 + 1) HO1.out (by omega); have K6 := Bx.mk ((BoxAt.alloc (BoxAt.drew1 H4.out) (.cells #[.int .i64 p1, .int .i64 p2] 41)).grown hgrow hne); have gc := K6.out.c1; have gf := K6.out.f0 1; have L6 := K6.out.lt; have A6 := Bx.mk ((ArrAt.alloc (show ArrAt wr.drew _ _ _ from H1.out) (.cells #[.int .i64 p1, .int .i64 p2] 41)).grown hgrow (row_ne (g := w.heap.size + 1) HO1.out (by omega))); have D6 := Bx.mk ((ArrAt.alloc (show ArrAt wr.drew _ _ _ from H2.out) (.cells #[.int .i64 p1, .int .i64 p2] 41)).grown hgrow (row_ne (g := w.heap.size + 1 + 1) HO1.out (by omega))); have R6 := Bx.mk ((BoxAt.alloc (BoxAt.drew1 H3.out) (.cells #[.int .i64 p1, .int .i64 p2] 41)).grown hgrow (row_ne (g := w.heap.size) HO1.out (by omega))); have g6 := (A6.out.cell j).trans HN1.out; have g7 := (D6.out.cell j).trans HN2.out; have B6 := Bx.mk (Below.grown ((HB.out.drew).alloc (by go_size) (.cells #[.int .i64 p1, .int .i64 p2] 41)) hgrow (by go_size) (fun k hk => by have := own_ge' HO1.out k hk; omega)); clear hown6 hat hgrow hne))
      all_goals
        have K7 := K6.out.put1 (.slice (some ⟨gg, 0, none⟩) (n + 1) cap)
        have A7 := ArrAt.other (b := w.heap.size + 1 + 1 + 1) (o := 1) (by omega) A6.out (.slice (some ⟨gg, 0, none⟩) (n + 1) cap)
        have D7 := ArrAt.other (b := w.heap.size + 1 + 1 + 1) (o := 1) (by omega) D6.out (.slice (some ⟨gg, 0, none⟩) (n + 1) cap)
        have R7 := BoxAt.other (b := w.heap.size + 1 + 1 + 1) (o := 1) (by omega) R6.out (.slice (some ⟨gg, 0, none⟩) (n + 1) cap)
        have O7 : (w6.setCell ⟨w.heap.size + 1 + 1 + 1, 1, none⟩ (.slice (some ⟨gg, 0, none⟩) (n + 1) cap)).ownsRow (w.heap.size + 1 + 1 + 1 + 1) 41 2 (.slice (some ⟨gg, 0, none⟩) (n + 1) cap) (justL.take (j + 1)).length (pcl (justL.take (j + 1))) := by
          rw [HS.out, pcl_app, List.length_append, ← HNB.out]
          exact own_set HO6.out (by omega) _ _
        have B7 := B6.out.setCell (p := ⟨w.heap.size + 1 + 1 + 1, 1, none⟩) (by show w.heap.size ≤ w.heap.size + 1 + 1 + 1; omega) (.slice (some ⟨gg, 0, none⟩) (n + 1) cap)
        have HR7 := Bx.mk (And.intro K7 (And.intro A7 (And.intro D7 (And.intro R7 (And.intro O7 B7)))))
        clear K7 A7 D7 R7 O7 B7 K6 A6 D6 R6 HO6 B6 gc gf g6 g7 L6 HS HN1 HN2
        go_wp2_with (fail)
        go_roundw
        case rel => exact ⟨j + 1, _, _, _, by omega, by go_num, Bx.mk ⟨HR7.out.2.1, HR7.out.2.2.1, HR7.out.2.2.2.1, HR7.out.1⟩, Bx.mk HR7.out.2.2.2.2.1, Bx.mk HR7.out.2.2.2.2.2⟩
        case measure => simp [intOf]; omega
    · obtain rfl : j = 12 := by omega
      obtain rfl : n = 12 := by rw [hn]; rfl
      have HO2 : Bx (wr.ownsRow (w.heap.size + 1 + 1 + 1 + 1) 41 2 (.slice A 12 c) justL.length (pcl justL)) := Bx.mk (by have := HO.out; rwa [List.take_of_length_le (show justL.length ≤ 12 by decide)] at this)
      obtain ⟨h1, h2, h3, h4⟩ := HK.out
      have H3 := Bx.mk h3
      have k0 := h4.c0
      have k1 := h4.c1
      have kl := h4.lt
      have r0 := h3.c0
      have r1 := h3.c1
      have rf0 := h3.f0 0
      have rf1 := h3.f0 1
      have rl := h3.lt
      clear hn HO HK h1 h2 h3 h4
      go_wp2_with (fail)
      have P1 := (H3.out.put0 (.string justS)).put1 (.slice A 12 c)
      refine bodyPost_ret (v := .agg #[.string justS, .slice A 12 c]) (by simp [results, Try.results37, go_sem, P1.c0, P1.c1]) rfl ?_
      exact ⟨_, _, rfl, own_down (show w.heap.size ≤ w.heap.size + 1 + 1 + 1 + 1 by omega) (own_set (own_set HO2.out (by omega) _ _) (by omega) _ _), (HB.out.setCell (Nat.le_refl _) _).setCell (Nat.le_refl _) _⟩
set_option maxHeartbeats 1000000 in
theorem spec_just (w : World) : Calls Try.prog 17 #[] w (TunOutE justS justL w) := by
  go_enter Try.func17, Try.ntmps17
  go_wp2_with (fail)
  refine (spec_l04just _).mono ?_
  rintro e w1 ⟨te, v, rfl, ho, hb⟩
  obtain ⟨A, c, rfl⟩ := own_len ho
  unfold tun
  have K1 := Bx.mk (BoxAt.below (BoxAt.at w w.heap.size (.string ⟨#[]⟩) (.slice none 0 0) 29 rfl) hb)
  have B1 : Bx (Below w.heap.size w w1) := Bx.mk (((Below.refl _ _).alloc (Nat.le_refl _) _).trans (hb.mono (by go_size)))
  have O1 : Bx (w1.ownsRow (w.heap.size + 1) te 2 (.slice A justL.length c) justL.length (pcl justL)) := Bx.mk (own_down (by simp) ho)
  clear hb ho
  have r0 := K1.out.c0
  have r1 := K1.out.c1
  have rf0 := K1.out.f0 0
  have rf1 := K1.out.f0 1
  have rl := K1.out.lt
  go_wp2_with (fail)
  have P1 := (K1.out.put0 (.string justS)).put1 (.slice A justL.length c)
  refine bodyPost_ret (v := .agg #[.string justS, .slice A justL.length c]) (by simp [results, Try.results17, go_sem, P1.c0, P1.c1]) rfl ?_
  exact ⟨_, _, rfl, own_down (Nat.le_succ _) (own_set (own_set O1.out (Nat.lt_succ_self _) _ _) (Nat.lt_succ_self _) _ _), (B1.out.setCell (Nat.le_refl _) _).setCell (Nat.le_refl _) _⟩
end Go.Proofs.Ytbnhcacjlkmfeaa
