/- Scales out of bytes: what R8Scale hands back is a scale. -/
import Derived.Test.YtljegggpgafkiaaSrc
import Derived.Test.YtljegggpgafkiaaSrc2
import Derived.Test.YtljegggpgafkiaaSc14
import Derived.Test.YtljegggpgafkiaaScMath
namespace Go.Proofs.Ytljegggpgafkiaa
open Go.ChangeShapes Go.WideShapes Go.ChangeAt Go.RowKit
set_option linter.unusedVariables false
set_option linter.unusedSimpArgs false
set_option maxRecDepth 100000

theorem src_row {w w' : World} {g T : Nat} {row : Option Nat} (h : Src w g T) (hg : w.grownBy w' row) (hn : ∀ k, row = some k → g < k) : Src w' g T := by
  obtain ⟨A, n, c, a, sd, hblk, h1, h2, h3, hA⟩ := h
  have hlt : g < w.heap.size := (Array.getElem?_eq_some_iff.1 hblk).1
  refine ⟨A, n, c, a, sd, by rw [hg.block g hlt (fun e => by have := hn g e.symm; omega)]; exact hblk, h1, h2, h3, fun h0 => ?_⟩
  obtain ⟨b, o, e, hb, hx⟩ := hA h0
  refine ⟨b, o, e, hb, fun k hk => ?_⟩
  obtain ⟨x, hc, hr⟩ := hx k hk
  exact ⟨x, hg.cell hc (fun e => by have := hn b e.symm; omega), hr⟩
theorem src_lt {w : World} {g T : Nat} (h : Src w g T) : g < w.heap.size := by
  obtain ⟨A, n, c, a, sd, hblk, _⟩ := h
  exact (Array.getElem?_eq_some_iff.1 hblk).1
theorem src_alloc {w : World} {g T : Nat} (h : Src w g T) (o : Obj) : Src (w.alloc o) g T := src_row h (World.grownBy_alloc w o none) (fun k e => by cases e)
theorem own_up2 {w : World} {b1 b2 e size n : Nat} {v : Value} {xs : List Value} (hb : b1 ≤ b2) (h : w.ownsRow b2 e size v n xs) : w.ownsRow b1 e size v n xs := by
  refine ⟨h.1, ?_⟩
  rcases h.2 with h | ⟨g, cap, cur, hv, hg, hr⟩
  · exact .inl h
  · exact .inr ⟨g, cap, cur, hv, Nat.le_trans hb hg, hr⟩
theorem own_len2 {w : World} {base e size n : Nat} {v : Value} {xs : List Value} (h : w.ownsRow base e size v n xs) : ∃ A c, v = .slice A n c := by
  rcases h.2 with ⟨hv, h0⟩ | ⟨g, cap, cur, hv, _⟩
  · exact ⟨none, 0, by rw [hv, h0]⟩
  · exact ⟨_, _, hv⟩
theorem ret_str' {a b : ByteArray} (h : a = b) : Ending.returned (.string b) = .returned (.string a) := by rw [h]
/-- some of a list of texts -/
def TextOut (g T : Nat) (ss : List ByteArray) (w : World) (e : Ending) (w' : World) : Prop := ∃ k : Nat, k < ss.length ∧ e = .returned (.string (ss.getD k ⟨#[]⟩)) ∧ Src w' g (T + 2) ∧ w.grownBy w' (some g)
theorem text_any (g T b n : Nat) (ss : List ByteArray) (w : World) (h : Src w g T) (hT : T ≤ 100000000) (hl : n = ss.length) (hn : 1 ≤ n ∧ n ≤ 1000) (hb : b ≠ g ∧ b < w.heap.size)
    (hc : ∀ k, k < n → w.cell? ⟨b, k, none⟩ = some (.string (ss.getD k ⟨#[]⟩))) :
    Calls Try.prog 47 #[.pointer (some ⟨g, 0, none⟩), .slice (some ⟨b, 0, none⟩) n n] w (TextOut g T ss w) := by
  have H := Bx.mk h
  have HC := Bx.mk hc
  have HL := Bx.mk hl
  obtain ⟨n1, n2⟩ := hn
  clear h hc hl
  go_enter Try.func47, Try.ntmps47
  go_wp2_with (fail)
  refine (pick_any g T n w H.out hT (by omega) (by omega)).mono ?_
  rintro e w1 ho
  obtain ⟨x, ⟨hx0, hx1⟩, rfl, hs1, hg1⟩ := pick_parts ho
  have S1 := Bx.mk hs1
  have G1 := Bx.mk hg1
  obtain ⟨k, rfl⟩ : ∃ k : Nat, x = k := ⟨x.toNat, by omega⟩
  have hk : k < n := by omega
  have hcell : w1.cell? ⟨b, k, none⟩ = some (.string (ss.getD k ⟨#[]⟩)) := (grown_cell hg1 hb.1 hb.2).trans (HC.out k hk)
  have HK : Bx (k < ss.length) := Bx.mk (by have := HL.out; omega)
  generalize hz : ss.getD k ⟨#[]⟩ = z at hcell
  have HZ := Bx.mk hz
  clear ho hs1 hg1 hz
  go_wp2_with (fail)
  go_ret
  exact ⟨k, HK.out, ret_str' HZ.out, S1.out, G1.out⟩
def drawT : List ByteArray := [⟨#[83, 82, 71, 109, 80, 68, 78]⟩, ⟨#[83, 82, 71, 80, 68]⟩, ⟨#[83, 114, 71, 109, 80, 100, 78]⟩, ⟨#[83, 82, 103, 109, 80, 68, 110]⟩, ⟨#[83, 71, 109, 68, 78]⟩, ⟨#[83, 82, 71, 77, 80, 68, 78]⟩, ⟨#[83, 114, 82, 103, 71, 109, 77, 80, 100, 68, 110, 78]⟩]
theorem draw_reads : ∀ k, k < 7 → (readSc (drawT.getD k ⟨#[]⟩).data.toList).isSome = true ∧ (drawT.getD k ⟨#[]⟩).size ≤ 12 := by decide +kernel
theorem readSc_scale {l : List UInt8} {zs : List Int} (h : readSc l = some zs) : scaleB zs = true := by
  unfold readSc at h
  split at h
  · rename_i hs; injection h with h; rw [← h]; exact hs
  · cases h
/-- a scale in the making: all tones below t that are wanted -/
structure Making (zs : List Int) (t : Nat) : Prop where
  len : 1 ≤ zs.length ∧ zs.length ≤ t
  low : zs.getD 0 0 = 0
  up : ∀ i, i + 1 < zs.length → zs.getD i 0 < zs.getD (i + 1) 0
  top : ∀ i, i < zs.length → 0 ≤ zs.getD i 0 ∧ zs.getD i 0 < t
  room : 5 + t ≤ zs.length + 12
theorem Making.start : Making [0] 1 := ⟨by decide, rfl, fun i hi => by simp at hi, fun i hi => by simp at hi; subst hi; decide, by decide⟩
theorem Making.keep {zs : List Int} {t : Nat} (h : Making zs t) (hr : 6 + t ≤ zs.length + 12) : Making zs (t + 1) :=
  ⟨⟨h.len.1, by have := h.len.2; omega⟩, h.low, h.up, fun i hi => by have := h.top i hi; omega, by omega⟩
theorem getD_snoc (zs : List Int) (x : Int) (i : Nat) (hi : i < zs.length) : (zs ++ [x]).getD i 0 = zs.getD i 0 := by
  rw [List.getD_eq_getElem?_getD, List.getElem?_append_left hi, ← List.getD_eq_getElem?_getD]
theorem getD_last (zs : List Int) (x : Int) : (zs ++ [x]).getD zs.length 0 = x := by
  rw [List.getD_eq_getElem?_getD, List.getElem?_append_right (Nat.le_refl _)]; simp
theorem Making.more {zs : List Int} {t : Nat} (h : Making zs t) : Making (zs ++ [(t : Int)]) (t + 1) := by
  have hl := h.len
  refine ⟨by simp; omega, by rw [getD_snoc _ _ _ (by omega)]; exact h.low, ?_, ?_, by have := h.room; simp; omega⟩
  · intro i hi
    simp only [List.length_append, List.length_singleton] at hi
    by_cases h1 : i + 1 < zs.length
    · rw [getD_snoc _ _ _ (by omega), getD_snoc _ _ _ h1]; exact h.up i h1
    · have e : i + 1 = zs.length := by omega
      rw [getD_snoc _ _ _ (by omega), e, getD_last]
      exact (h.top i (by omega)).2
  · intro i hi
    simp only [List.length_append, List.length_singleton] at hi
    by_cases h1 : i < zs.length
    · rw [getD_snoc _ _ _ h1]; have := h.top i h1; omega
    · have e : i = zs.length := by omega
      rw [e, getD_last]; omega
theorem Making.done {zs : List Int} (h : Making zs 12) : scaleB zs = true := by
  have hl := h.len
  have hr := h.room
  have ht := h.top (zs.length - 1) (by omega)
  exact scale_mk' (by omega) h.low h.up ⟨ht.1, by omega⟩
def ScaleOut (g : Nat) (w : World) (e : Ending) (w' : World) : Prop := ∃ v zs, e = .returned v ∧ scaleB zs = true ∧ IntsAt w' v zs ∧ ∀ B, B ≤ g → B ≤ w.heap.size → Below B w w'
theorem pick_below {w w' : World} {g B : Nat} (h : w.grownBy w' (some g)) (hg : B ≤ g) (hB : B ≤ w.heap.size) : Below B w w' := only_below h hg hB
theorem cell_of' {W : World} {g : Nat} {cs : Array Value} {t : TypeId} {fz : Nat × Nat} (h : W.heap[g]? = some (.cells cs t fz)) (k : Nat) : W.cell? ⟨g, k, none⟩ = cs[k]? := by
  simp [World.cell?, h]
set_option maxHeartbeats 4000000 in
theorem draw_scale (g T : Nat) (w : World) (h : Src w g T) (hT : T ≤ 1000) : Calls Try.prog 28 #[.pointer (some ⟨g, 0, none⟩)] w (ScaleOut g w) := by
  obtain ⟨i0, hi, hz0, hz1, hz2⟩ := info_parts infoI64
  have hgl := src_lt h
  have HS0 := Bx.mk (src_alloc h (.cells #[.string ⟨#[83, 82, 71, 109, 80, 68, 78]⟩, .string ⟨#[83, 82, 71, 80, 68]⟩, .string ⟨#[83, 114, 71, 109, 80, 100, 78]⟩, .string ⟨#[83, 82, 103, 109, 80, 68, 110]⟩, .string ⟨#[83, 71, 109, 68, 78]⟩, .string ⟨#[83, 82, 71, 77, 80, 68, 78]⟩, .string ⟨#[83, 114, 82, 103, 71, 109, 77, 80, 100, 68, 110, 78]⟩] 9))
  have hcells : ∀ k, k < 7 → (w.alloc (.cells #[.string ⟨#[83, 82, 71, 109, 80, 68, 78]⟩, .string ⟨#[83, 82, 71, 80, 68]⟩, .string ⟨#[83, 114, 71, 109, 80, 100, 78]⟩, .string ⟨#[83, 82, 103, 109, 80, 68, 110]⟩, .string ⟨#[83, 71, 109, 68, 78]⟩, .string ⟨#[83, 82, 71, 77, 80, 68, 78]⟩, .string ⟨#[83, 114, 82, 103, 71, 109, 77, 80, 100, 68, 110, 78]⟩] 9)).cell? ⟨w.heap.size, k, none⟩ = some (.string (drawT.getD k ⟨#[]⟩)) := by
    intro k hk
    have e := heap_alloc_new w (.cells #[.string ⟨#[83, 82, 71, 109, 80, 68, 78]⟩, .string ⟨#[83, 82, 71, 80, 68]⟩, .string ⟨#[83, 114, 71, 109, 80, 100, 78]⟩, .string ⟨#[83, 82, 103, 109, 80, 68, 110]⟩, .string ⟨#[83, 71, 109, 68, 78]⟩, .string ⟨#[83, 82, 71, 77, 80, 68, 78]⟩, .string ⟨#[83, 114, 82, 103, 71, 109, 77, 80, 100, 68, 110, 78]⟩] 9)
    rw [cell_of' e k]
    obtain rfl | rfl | rfl | rfl | rfl | rfl | rfl : k = 0 ∨ k = 1 ∨ k = 2 ∨ k = 3 ∨ k = 4 ∨ k = 5 ∨ k = 6 := by omega
    all_goals rfl
  have HTx := Bx.mk (text_any g T w.heap.size 7 drawT _ HS0.out (by omega) rfl (by omega) ⟨by omega, by simp⟩ hcells)
  have HB0 : Bx (∀ B, B ≤ w.heap.size → Below B w (w.alloc (.cells #[.string ⟨#[83, 82, 71, 109, 80, 68, 78]⟩, .string ⟨#[83, 82, 71, 80, 68]⟩, .string ⟨#[83, 114, 71, 109, 80, 100, 78]⟩, .string ⟨#[83, 82, 103, 109, 80, 68, 110]⟩, .string ⟨#[83, 71, 109, 68, 78]⟩, .string ⟨#[83, 82, 71, 77, 80, 68, 78]⟩, .string ⟨#[83, 114, 82, 103, 71, 109, 77, 80, 100, 68, 110, 78]⟩] 9))) := Bx.mk (fun B hB => ((Below.refl B w).alloc hB _))
  have hrd := Bx.mk draw_reads
  clear h hcells
  go_enter Try.func28, Try.ntmps28
  go_wp2_with (fail)
  refine HTx.out.mono ?_
  rintro e w1 ⟨k, hk, rfl, hs1, hg1⟩
  have HRd := Bx.mk (hrd.out k hk)
  have HB1 : Bx (∀ B, B ≤ g → B ≤ w.heap.size → Below B w w1) := Bx.mk (fun B h1 h2 => (HB0.out B h2).trans (only_below hg1 h1 (by simp; omega)))
  have hq1 : w.heap.size + 1 ≤ w1.heap.size := by have := hg1.size; simpa using this
  have HS1 := Bx.mk hs1
  generalize drawT.getD k ⟨#[]⟩ = s at *
  clear hs1 hg1 HTx HS0 HB0 hrd
  go_wp2_with (fail)
  refine (one_any g (T + 2) 3 w1 HS1.out (by omega) (by omega) (by omega)).mono ?_
  rintro e w2 ⟨b, rfl, hs2, hg2⟩
  have hq2 : w1.heap.size ≤ w2.heap.size := hg2.size
  have hgl2 : g < w2.heap.size := src_lt hs2
  have HB2 : Bx (∀ B, B ≤ g → B ≤ w.heap.size → Below B w w2) := Bx.mk (fun B h1 h2 => (HB1.out B h1 h2).trans (only_below hg2 h1 (by omega)))
  have HS2 := Bx.mk hs2
  clear hs2 hg2 HS1 HB1
  cases b
  · have hsize : s.size ≤ 12 := HRd.out.2
    obtain ⟨zs, hzz⟩ := Option.isSome_iff_exists.1 HRd.out.1
    have HZ := Bx.mk hzz
    have HSc := Bx.mk (readSc_scale hzz)
    have HRl := Bx.mk (spec_readl s w2 (by omega))
    clear hzz
    go_wp2_with (fail)
    refine HRl.out.mono ?_
    rintro e w3 ⟨v, rfl, ho, hb⟩
    rw [HZ.out] at ho
    have HO := Bx.mk (IntsAt.own ho)
    have HB := Bx.mk hb
    clear ho hb HRl
    go_wp2_with (fail)
    go_ret
    exact ⟨v, zs, rfl, HSc.out, HO.out, fun B h1 h2 => (HB2.out B h1 h2).trans (HB.out.mono (by omega))⟩
  · clear HRd
    go_wp2_with (fail)
    go_loopw [4, 5] (fun v i wr => ∃ (zs : List Int) (t T' : Nat), 1 ≤ t ∧ t ≤ 12 ∧ i = .int .i64 (t : Int) ∧ Bx (Making zs t) ∧ wr.ownsRow w2.heap.size 2 1 v zs.length (ints zs) ∧ Bx (Src wr g T') ∧ T' ≤ T + 4 + 2 * t ∧ Bx (∀ B, B ≤ g → B ≤ w.heap.size → Below B w wr) ∧ w2.heap.size + 1 ≤ wr.heap.size) (fun _ i _ => 20 - (intOf i).toNat)
    case atStart =>
      refine ⟨[0], 1, T + 4, by omega, by omega, rfl, Bx.mk Making.start, World.ownsRow_lit _ _ _ (Nat.le_refl _) (by decide) (by decide), Bx.mk (src_alloc HS2.out _), by omega, Bx.mk (fun B h1 h2 => (HB2.out B h1 h2).alloc (by omega) _), by simp⟩
    case round =>
      obtain ⟨zs, t, T', t1, t2, rfl, HM, hown, HS, hT', HB, hzr⟩ := hrel
      have hlen := HM.out.len
      by_cases hlt : t < 12
      · have HOn := Bx.mk (one_any g T' 2 wr HS.out (by omega) (by omega) (by omega))
        obtain ⟨A, c, rfl⟩ := own_len2 hown
        have E1 : IntKind.i64.wrap (12 - (t : Int)) = 12 - (t : Int) := IntWalk.i64_in _ (by omega)
        have E2 : IntKind.i64.wrap (5 - (zs.length : Int)) = 5 - (zs.length : Int) := IntWalk.i64_in _ (by omega)
        have ht0 : (1 : Int) ≤ (t : Int) := by omega
        have ht1 : (t : Int) < 12 := by omega
        have hl0 : (0 : Int) ≤ (zs.length : Int) := by omega
        have hl1 : (zs.length : Int) ≤ 12 := by omega
        go_wp2_with (fail)
        refine HOn.out.mono ?_
        rintro e w3 ⟨b, rfl, hs3, hg3⟩
        have hq3 : wr.heap.size ≤ w3.heap.size := hg3.size
        have hown3 := hown.kept hg3 (Or.inr (own_far hown hgl2))
        have HS3 := Bx.mk hs3
        have HB3 : Bx (∀ B, B ≤ g → B ≤ w.heap.size → Below B w w3) := Bx.mk (fun B h1 h2 => (HB.out B h1 h2).trans (only_below hg3 h1 (by omega)))
        have H12 : Bx (zs.length + 1 ≤ 13) := Bx.mk (by omega)
        clear hs3 hg3 HOn HS HB hown
        have go_on : ∀ (K : Prop), (b = true ∨ (12 - (t : Int) ≤ 5 - (zs.length : Int)) → K) → (b = false → ¬ (12 - (t : Int) ≤ 5 - (zs.length : Int)) → K) → K := fun K h1 h2 => by
          cases b
          · by_cases hc : 12 - (t : Int) ≤ 5 - (zs.length : Int)
            · exact h1 (.inr hc)
            · exact h2 rfl hc
          · exact h1 (.inl rfl)
        cases b
        · by_cases hc : 12 - (t : Int) ≤ 5 - (zs.length : Int)
          · clear go_on
            go_wp2_with ((at_builtin; refine wpList_append_own _ rfl _ _ 24 rfl w2.heap.size 2 i0 (.int .i64 0) 1 8 Try.underlying24 hi hz0 hz1 hz2 rfl (by decide) _ _ _ rfl (hown3.alloc _) ⟨w3.heap.size, 0, none⟩ 1 1 [.int .i64 (t : Int)] rfl rfl (cell_one_new _ _ _) (fun x hx => by simp at hx; subst hx; rfl) (by have := H12.out; unfold maxLen; omega) (by have := H12.out; omega) (by simp; omega) ?_; intro v' w6 hown' hgrow3 hnil3))
            have hown2 : w6.ownsRow w2.heap.size 2 1 v' (zs ++ [(t : Int)]).length (ints (zs ++ [(t : Int)])) := by
              rw [ints_snoc', List.length_append]; exact hown'
            have HS6 := Bx.mk (src_row (src_alloc HS3.out (.cells #[.int .i64 (t : Int)] 2)) hgrow3 (fun k hk => Nat.lt_of_lt_of_le hgl2 (own_ge' hown3 k hk)))
            have HB6 : Bx (∀ B, B ≤ g → B ≤ w.heap.size → Below B w w6) := Bx.mk (fun B h1 h2 => ((HB3.out B h1 h2).alloc (by omega) _).grown hgrow3 (by simp; omega) (own_ge' (own_up2 (by omega) hown3)))
            have hz6 : w2.heap.size + 1 ≤ w6.heap.size := by have := hgrow3.size; simp at this; omega
            have HM6 := Bx.mk HM.out.more
            clear hown' hgrow3 hnil3 hown3 HM HS3 HB3
            go_roundw
            case rel => exact ⟨zs ++ [(t : Int)], t + 1, T' + 2, by omega, by omega, by go_num, HM6, hown2, HS6, by omega, HB6, hz6⟩
            case measure => simp [intOf]; omega
          · have HM6 := Bx.mk (HM.out.keep (by omega))
            clear go_on HM
            go_wp2_with (fail)
            go_roundw
            case rel => exact ⟨zs, t + 1, T' + 2, by omega, by omega, by go_num, HM6, hown3, HS3, by omega, HB3, by omega⟩
            case measure => simp [intOf]; omega
        · clear go_on
          go_wp2_with ((at_builtin; refine wpList_append_own _ rfl _ _ 24 rfl w2.heap.size 2 i0 (.int .i64 0) 1 8 Try.underlying24 hi hz0 hz1 hz2 rfl (by decide) _ _ _ rfl (hown3.alloc _) ⟨w3.heap.size, 0, none⟩ 1 1 [.int .i64 (t : Int)] rfl rfl (cell_one_new _ _ _) (fun x hx => by simp at hx; subst hx; rfl) (by have := H12.out; unfold maxLen; omega) (by have := H12.out; omega) (by simp; omega) ?_; intro v' w6 hown' hgrow3 hnil3))
          have hown2 : w6.ownsRow w2.heap.size 2 1 v' (zs ++ [(t : Int)]).length (ints (zs ++ [(t : Int)])) := by
            rw [ints_snoc', List.length_append]; exact hown'
          have HS6 := Bx.mk (src_row (src_alloc HS3.out (.cells #[.int .i64 (t : Int)] 2)) hgrow3 (fun k hk => Nat.lt_of_lt_of_le hgl2 (own_ge' hown3 k hk)))
          have HB6 : Bx (∀ B, B ≤ g → B ≤ w.heap.size → Below B w w6) := Bx.mk (fun B h1 h2 => ((HB3.out B h1 h2).alloc (by omega) _).grown hgrow3 (by simp; omega) (own_ge' (own_up2 (by omega) hown3)))
          have hz6 : w2.heap.size + 1 ≤ w6.heap.size := by have := hgrow3.size; simp at this; omega
          have HM6 := Bx.mk HM.out.more
          clear hown' hgrow3 hnil3 hown3 HM HS3 HB3
          go_roundw
          case rel => exact ⟨zs ++ [(t : Int)], t + 1, T' + 2, by omega, by omega, by go_num, HM6, hown2, HS6, by omega, HB6, hz6⟩
          case measure => simp [intOf]; omega
      · obtain rfl : t = 12 := by omega
        have HO := Bx.mk (IntsAt.own hown)
        have HSc := Bx.mk HM.out.done
        clear hown HM HS
        go_wp2_with (fail)
        go_ret
        exact ⟨_, zs, rfl, HSc.out, HO.out, HB.out⟩
theorem r8_scale (v : Value) (n : Nat) (w : World) (h : BytesAt w v n) (hn : n ≤ 281474976710656) : Calls Try.prog 6 #[v] w fun e w' => ∃ u zs, e = .returned u ∧ scaleB zs = true ∧ IntsAt w' u zs ∧ Below w.heap.size w w' := by
  have H := Bx.mk h
  clear h
  go_enter Try.func6, Try.ntmps6
  go_wp2_with (fail)
  refine (src_from v n w H.out hn).mono ?_
  rintro e w0 ⟨g, rfl, hs, hb, hg⟩
  have HD := Bx.mk (draw_scale g 0 w0 hs (by omega))
  have HB := Bx.mk hb
  clear hs hb
  go_wp2_with (fail)
  refine HD.out.mono ?_
  rintro e w1 ⟨u, zs, rfl, hsc, hi, hB⟩
  have HSc := Bx.mk hsc
  have HI := Bx.mk hi
  have HB1 := Bx.mk (HB.out.trans (hB _ hg HB.out.size))
  clear hsc hi hB HD
  go_wp2_with (fail)
  go_ret
  exact ⟨u, zs, rfl, HSc.out, HI.out, HB1.out⟩
end Go.Proofs.Ytljegggpgafkiaa
