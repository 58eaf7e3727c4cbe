/- 'laws.FnBasics' returns true at every two inputs. -/
import Derived.Test.YtfogcabhafhlmaaDoorBas
import Derived.Test.YtfogcabhafhlmaaDoorReadList
import Derived.Test.YtfogcabhafhlmaaDoorListText
namespace Go.Proofs.YtfogcabhafhlmaaDoor.fnBasics
open Go.ChangeShapes Go.WideShapes Go.ChangeAt Go.RowKit
set_option linter.unusedVariables false

theorem out_parts {o : Option (List Int)} {w : World} {e : Ending} {w' : World} (h : ListOut o w e w') : ∃ v, e = .returned (.tuple #[v, .bool o.isSome]) ∧ w'.ownsRow w.heap.size 2 1 v (o.getD []).length (ints (o.getD [])) ∧ Below w.heap.size w w' := h
theorem num_parts {w : World} {e : Ending} {w' : World} (h : NumsOut w e w') : ∃ a b : Int, (-100000 ≤ a ∧ a ≤ 4000000000) ∧ (1 ≤ b ∧ b ≤ 5000) ∧ e = .returned (.tuple #[.int .i64 a, .int .i64 b]) ∧ Below w.heap.size w w' := h

def ReadOut (zs : List Int) (w : World) (e : Ending) (w' : World) : Prop := ∃ v, e = .returned (.tuple #[v, .bool true]) ∧ IntsAt w' v zs ∧ Below w.heap.size w w'
theorem read_parts {zs : List Int} {w : World} {e : Ending} {w' : World} (h : ReadOut zs w e w') : ∃ v, e = .returned (.tuple #[v, .bool true]) ∧ IntsAt w' v zs ∧ Below w.heap.size w w' := h
theorem read_list (l : List UInt8) (zs : List Int) (w : World) (h : Bx (readL l = some zs)) (hs : l.length ≤ 1048576) (hv : Bx (Vars w)) (hm : Bx (∃ m, w.cell? ⟨1, 0, none⟩ = some (.int .i64 m))) :
    Calls Tryd.prog 17 #[.string ⟨l.toArray⟩] w (ReadOut zs w) := by
  refine (impl_readlist ⟨l.toArray⟩ w (by show l.toArray.size ≤ _; simpa using hs) hv hm).mono ?_
  rintro e w' ho
  have e2 : readL (⟨l.toArray⟩ : ByteArray).data.toList = some zs := h.out
  rw [e2] at ho
  obtain ⟨v, rfl, ho, hb⟩ := out_parts ho
  exact ⟨v, rfl, IntsAt.own ho, hb⟩
theorem read_dec (l : List UInt8) (a : Int) (w : World) (h : Bx (numZ l = some a)) (hs : l.length ≤ 1048576) (hv : Bx (Vars w)) :
    Calls Tryd.prog 19 #[.string ⟨l.toArray⟩] w fun e w' => e = .returned (.tuple #[.int .i64 a, .bool true]) ∧ Below w.heap.size w w' := by
  refine (impl_read_t ⟨l.toArray⟩ w (by show l.toArray.size ≤ _; simpa using hs) hv).mono ?_
  rintro e w' ⟨rfl, hb⟩
  have e2 : numZ (⟨l.toArray⟩ : ByteArray).data.toList = some a := h.out
  rw [e2]
  exact ⟨rfl, hb⟩
theorem cell_of {W : World} {g : Nat} {cs : Array Value} {t : TypeId} {fz : Nat × Nat} (h : W.heap[g]? = some (.cells cs t fz)) (k : Nat) : W.cell? ⟨g, k, none⟩ = cs[k]? := by
  simp [World.cell?, h]
theorem list_five (w : World) (a b x y z : Int) : IntsAt (w.alloc (.cells #[.int .i64 a, .int .i64 b, .int .i64 x, .int .i64 y, .int .i64 z] 2)) (.slice (some ⟨w.heap.size, 0, none⟩) 5 5) [a, b, x, y, z] := by
  refine .inr ⟨w.heap.size, 0, 5, rfl, by simp, fun k hk => ?_⟩
  have hk : k < 5 := hk
  have h := heap_alloc_new w (.cells #[.int .i64 a, .int .i64 b, .int .i64 x, .int .i64 y, .int .i64 z] 2)
  obtain rfl | rfl | rfl | rfl | rfl : k = 0 ∨ k = 1 ∨ k = 2 ∨ k = 3 ∨ k = 4 := by omega
  all_goals exact (cell_of h _).trans rfl
theorem fit_five (a b x y z : Int) (ha : -1000000000000 ≤ a ∧ a ≤ 1000000000000) (hb : -1000000000000 ≤ b ∧ b ≤ 1000000000000) (hx : -1000000000000 ≤ x ∧ x ≤ 1000000000000) (hy : -1000000000000 ≤ y ∧ y ≤ 1000000000000) (hz : -1000000000000 ≤ z ∧ z ≤ 1000000000000) :
    readL (textL [a, b, x, y, z]) = some [a, b, x, y, z] ∧ (textL [a, b, x, y, z]).length ≤ 1048576 := by
  have hf : fitL [a, b, x, y, z] = true := by unfold fitL inB; simp; omega
  refine ⟨list_back _ hf, ?_⟩
  have := joinL_len [a, b, x, y, z] (by simp; omega)
  unfold textL textE
  rw [if_pos hf, if_neg (by simp)]
  have h5 : [a, b, x, y, z].length = 5 := rfl
  omega

set_option maxHeartbeats 4000000 in
set_option maxRecDepth 100000 in
theorem walk (v : Value) (n : Nat) {w : World} (hv : BytesAt w v n ∧ n ≤ 9223372036854775807) (u : Value) (m : Nat) (hu : BytesAt w u m ∧ m ≤ 9223372036854775807) {ps : List MemPlace} (hl : DataW.LaidVars Tryd.prog w Rows.fnBasicsRow.laid ps) (hsh : w.ShapedOpen Tryd.prog) :
    Calls Tryd.prog 3 #[v, u] w fun e w' => e = .returned (.bool true) ∧ Below w.heap.size w w' := by
  obtain ⟨hv, hn⟩ := hv
  obtain ⟨hu, hm⟩ := hu
  have e : Rows.laid_internal_strconv_uint64pow10 = Lib.tabData (H := Unit) .u64 Lib.pow10Tab := by kernel_rfl
  have HV : Bx (Vars w) := Bx.mk ⟨tab_get hl (by rw [← e]; exact .tail _ (.tail _ (.head _))) (g := 4) (t := 107) (e := 49) (N := 20) (by kernel_rfl) (by kernel_rfl) Tryd.underlying107 Tryd.underlying49 (by kernel_rfl) (by kernel_rfl),
    sent_get hl (.tail _ (.tail _ (.tail _ (.tail _ (.tail _ (.head _)))))) (g := 2) (t := 57) (by kernel_rfl) (by kernel_rfl) Tryd.underlying57,
    sent_get hl (.tail _ (.tail _ (.tail _ (.tail _ (.head _))))) (g := 3) (t := 57) (by kernel_rfl) (by kernel_rfl) Tryd.underlying57⟩
  have HM : Bx ((∃ m, w.cell? ⟨1, 0, none⟩ = some (.int .i64 m)) ∧ 1 < w.heap.size) := Bx.mk (by
    obtain ⟨m, hm0⟩ := Tryd.laysM146.s1_3 w hsh
    have hm : w.cell? ⟨1, 0, none⟩ = some (.int .i64 m) := hm0
    refine ⟨⟨m, hm⟩, ?_⟩
    rcases Nat.lt_or_ge 1 w.heap.size with h | h
    · exact h
    · simp [World.cell?, Array.getElem?_eq_none h] at hm)
  clear hl e hsh
  have HB := Bx.mk hv
  have HC := Bx.mk hu
  have hv2 := hv
  have hu2 := hu
  obtain ⟨A, c, rfl, _⟩ := hv2
  obtain ⟨B, d, rfl, _⟩ := hu2
  clear hv hu
  go_enter Tryd.func3, Tryd.ntmps3
  go_wp2_with (fail)
  refine (r8_long A B n m c d w (by omega) (by omega)).mono ?_
  rintro e w' ⟨⟨b, rfl, hb⟩, rfl⟩
  cases b
  · obtain ⟨hn1, hm1⟩ := hb rfl
    clear hb
    go_wp2_with (fail)
    refine (r8_numbers _ n w HB.out (by omega)).mono ?_
    rintro e w1 ho
    obtain ⟨a, b, ⟨a1, a2⟩, ⟨b1, b2⟩, rfl, hb1⟩ := num_parts ho
    have B1 := Bx.mk hb1
    clear ho hb1
    go_wp2_with (fail)
    refine (root_any a w1 a2).mono ?_
    rintro e w' ⟨⟨r, rfl, hr1, hr2⟩, rfl⟩
    have hcase : (a < 0 ∧ r = 0 ∧ 0 ≤ r) ∨ (0 ≤ a ∧ 0 ≤ r ∧ r ≤ 70000 ∧ r * r ≤ a ∧ a < (r + 1) * (r + 1) ∧ (r + 1) * (r + 1) ≤ 10000000000 ∧ 0 ≤ r * r) := by
      by_cases h0 : a < 0
      · have := hr1 h0; exact .inl ⟨h0, this, by omega⟩
      · obtain ⟨⟨h1, h2⟩, h3⟩ := hr2 (by omega); exact .inr ⟨by omega, h1, h2, h3⟩
    clear hr1 hr2
    have HQ := Bx.mk (dv_near a b b1)
    have HO := Bx.mk (dv_odd a b b1)
    have HI := Bx.mk (dv_in a b 4000000000 (by omega) (by omega) a2)
    have hdiv := fun W => divround_in a b W (by omega) (by omega)
    have hdiv2 := fun W => divround_in (-a) b W (by omega) (by omega)
    rw [HO.out] at hdiv2
    clear HO
    generalize dv a b = q at HQ HI hdiv hdiv2
    rcases hcase with ⟨h0, rfl, h1⟩ | ⟨h0, h1, h2, h3, h4, h5, h6⟩
    · go_wp2_with (fail)
      clear h0 h1
      refine (hdiv _).mono ?_
      rintro e w' ⟨rfl, k1, rfl⟩
      obtain ⟨q1, q2⟩ := HQ.out
      obtain ⟨q3, q4⟩ := HI.out
      go_wp2_with (fail)
      refine (r8_abs _ _ (by omega)).mono ?_
      rintro e w' ⟨rfl, rfl⟩
      go_wp2_with (fail)
      refine (hdiv2 _).mono ?_
      rintro e w' ⟨rfl, k2, rfl⟩
      go_wp2_with (fail)
      clear hdiv hdiv2 HQ HI q1 q2 q3 q4
      have B2 : Bx (Below w.heap.size w (w1.drewN (k1 + k2))) := Bx.mk (below_draws B1.out (k1 + k2))
      have U2 := Bx.mk (HC.out.below B2.out)
      refine (r8_wide_at 0 _ m 0 rfl 1000 _ U2.out (by omega) (by omega) (by omega)).mono ?_
      rintro e w' ⟨⟨x, rfl, x1, x2⟩, rfl⟩
      go_wp2_with (fail)
      refine (r8_wide_at 2 _ m 2 rfl 5000 _ U2.out (by omega) (by omega) (by omega)).mono ?_
      rintro e w' ⟨⟨y, rfl, y1, y2⟩, rfl⟩
      go_wp2_with (fail)
      refine (r8_wide_at 4 _ m 4 rfl 5000 _ U2.out (by omega) (by omega) (by omega)).mono ?_
      rintro e w' ⟨⟨z, rfl, z1, z2⟩, rfl⟩
      go_wp2_with (fail)
      have hbx := fun W => blend_in (y - 2500) (z - 2500) x W (by omega) (by omega)
      have hb0 := fun W => blend_in (y - 2500) (z - 2500) 0 W (by omega) (by omega)
      have hb1 := fun W => blend_in (y - 2500) (z - 2500) 1000 W (by omega) (by omega)
      rw [line_low _ _ _ _ _ (.inl (by omega))] at hb0
      rw [line_high _ _ _ _ _ (by omega) (by omega) (by omega)] at hb1
      have HLN := Bx.mk (line_between (y - 2500) (z - 2500) x (by omega) (by omega) (by omega))
      generalize lineZ 0 (y - 2500) 1000 (z - 2500) x = V at HLN hbx
      obtain ⟨v1, v2⟩ := HLN.out
      clear HLN
      refine (hbx _).mono ?_
      rintro e w2 ⟨rfl, hc2⟩
      have B3 : Bx (Below w.heap.size w w2) := Bx.mk (B2.out.trans (hc2.mono B2.out.size))
      clear hc2 hbx
      go_wp2_with (fail)
      refine (hb0 _).mono ?_
      rintro e w3 ⟨rfl, hc3⟩
      have B4 : Bx (Below w.heap.size w w3) := Bx.mk (B3.out.trans (hc3.mono B3.out.size))
      clear hc3 hb0
      go_wp2_with (fail)
      refine (hb1 _).mono ?_
      rintro e w4 ⟨rfl, hc4⟩
      have B5 : Bx (Below w.heap.size w w4) := Bx.mk (B4.out.trans (hc4.mono B4.out.size))
      clear hc4 hb1
      go_wp2_with (fail)
      clear v1 v2
      have B6 := Bx.mk (B5.out.alloc B5.out.size (.cells #[.int .i64 a, .int .i64 b, .int .i64 x, .int .i64 (y - 2500), .int .i64 (z - 2500)] 2))
      have L6 := Bx.mk (list_five w4 a b x (y - 2500) (z - 2500))
      have HF := Bx.mk (fit_five a b x (y - 2500) (z - 2500) (by omega) (by omega) (by omega) (by omega) (by omega))
      have hlt := fun W hi ht => impl_listtext (.slice (some ⟨w4.heap.size, 0, none⟩) 5 5) [a, b, x, y - 2500, z - 2500] W hi (by simp) ht
      generalize textL [a, b, x, y - 2500, z - 2500] = l at HF hlt
      generalize hzs : [a, b, x, y - 2500, z - 2500] = zs at L6 HF hlt
      have H5 : Bx (zs.length = 5) := Bx.mk (by subst hzs; rfl)
      clear hzs
      refine (hlt _ L6.out (Bx.mk (tab_below B6.out HV.out.tab))).mono ?_
      rintro e w5 ⟨rfl, hc⟩
      have L7 := Bx.mk (L6.out.below hc)
      have B7 := Bx.mk (B6.out.trans (hc.mono B6.out.size))
      clear hc hlt L6 B6
      go_wp2_with (fail)
      refine (read_list l zs w5 (Bx.mk HF.out.1) HF.out.2 (Bx.mk (HV.out.below B7.out)) (Bx.mk (maxlen_below HM.out.1 HM.out.2 B7.out))).mono ?_
      rintro e w6 ho
      obtain ⟨v8, rfl, hi8, hc⟩ := read_parts ho
      have L8 := Bx.mk hi8
      have L9 := Bx.mk (L7.out.below hc)
      have B8 := Bx.mk (B7.out.trans (hc.mono B7.out.size))
      clear ho hi8 hc L7
      go_wp2_with (fail)
      refine (impl_dec a w6 (Bx.mk (by omega)) (Bx.mk (tab_below B8.out HV.out.tab))).mono ?_
      rintro e w7 ⟨rfl, hc⟩
      have L10 := Bx.mk (L8.out.below hc)
      have L11 := Bx.mk (L9.out.below hc)
      have B9 := Bx.mk (B8.out.trans (hc.mono B8.out.size))
      have HN := Bx.mk (num_fit a (by omega))
      have HNL := Bx.mk (itoa_len a (by omega) (by omega))
      clear hc L8 L9 HF
      generalize Lib.itoa a = l2 at HN HNL ⊢
      go_wp2_with (fail)
      refine (read_dec l2 a w7 HN (by have := HNL.out; omega) (Bx.mk (HV.out.below B9.out))).mono ?_
      rintro e w8 ⟨rfl, hc⟩
      have L12 := Bx.mk (L10.out.below hc)
      have L13 := Bx.mk (L11.out.below hc)
      have B10 := Bx.mk (B9.out.trans (hc.mono B9.out.size))
      clear hc
      go_wp2_with (fail)
      refine (r8_same v8 _ zs w8 L12.out L13.out (by have := H5.out; omega)).mono ?_
      rintro e w9 ⟨rfl, nq, rfl⟩
      go_wp2_with (fail)
      go_ret
      exact ⟨rfl, below_draws B10.out nq⟩
    · go_wp2_with (fail)
      clear h0 h1 h2 h3 h4 h5 h6
      refine (hdiv _).mono ?_
      rintro e w' ⟨rfl, k1, rfl⟩
      obtain ⟨q1, q2⟩ := HQ.out
      obtain ⟨q3, q4⟩ := HI.out
      go_wp2_with (fail)
      refine (r8_abs _ _ (by omega)).mono ?_
      rintro e w' ⟨rfl, rfl⟩
      go_wp2_with (fail)
      refine (hdiv2 _).mono ?_
      rintro e w' ⟨rfl, k2, rfl⟩
      go_wp2_with (fail)
      clear hdiv hdiv2 HQ HI q1 q2 q3 q4
      have B2 : Bx (Below w.heap.size w (w1.drewN (k1 + k2))) := Bx.mk (below_draws B1.out (k1 + k2))
      have U2 := Bx.mk (HC.out.below B2.out)
      refine (r8_wide_at 0 _ m 0 rfl 1000 _ U2.out (by omega) (by omega) (by omega)).mono ?_
      rintro e w' ⟨⟨x, rfl, x1, x2⟩, rfl⟩
      go_wp2_with (fail)
      refine (r8_wide_at 2 _ m 2 rfl 5000 _ U2.out (by omega) (by omega) (by omega)).mono ?_
      rintro e w' ⟨⟨y, rfl, y1, y2⟩, rfl⟩
      go_wp2_with (fail)
      refine (r8_wide_at 4 _ m 4 rfl 5000 _ U2.out (by omega) (by omega) (by omega)).mono ?_
      rintro e w' ⟨⟨z, rfl, z1, z2⟩, rfl⟩
      go_wp2_with (fail)
      have hbx := fun W => blend_in (y - 2500) (z - 2500) x W (by omega) (by omega)
      have hb0 := fun W => blend_in (y - 2500) (z - 2500) 0 W (by omega) (by omega)
      have hb1 := fun W => blend_in (y - 2500) (z - 2500) 1000 W (by omega) (by omega)
      rw [line_low _ _ _ _ _ (.inl (by omega))] at hb0
      rw [line_high _ _ _ _ _ (by omega) (by omega) (by omega)] at hb1
      have HLN := Bx.mk (line_between (y - 2500) (z - 2500) x (by omega) (by omega) (by omega))
      generalize lineZ 0 (y - 2500) 1000 (z - 2500) x = V at HLN hbx
      obtain ⟨v1, v2⟩ := HLN.out
      clear HLN
      refine (hbx _).mono ?_
      rintro e w2 ⟨rfl, hc2⟩
      have B3 : Bx (Below w.heap.size w w2) := Bx.mk (B2.out.trans (hc2.mono B2.out.size))
      clear hc2 hbx
      go_wp2_with (fail)
      refine (hb0 _).mono ?_
      rintro e w3 ⟨rfl, hc3⟩
      have B4 : Bx (Below w.heap.size w w3) := Bx.mk (B3.out.trans (hc3.mono B3.out.size))
      clear hc3 hb0
      go_wp2_with (fail)
      refine (hb1 _).mono ?_
      rintro e w4 ⟨rfl, hc4⟩
      have B5 : Bx (Below w.heap.size w w4) := Bx.mk (B4.out.trans (hc4.mono B4.out.size))
      clear hc4 hb1
      go_wp2_with (fail)
      clear v1 v2
      have B6 := Bx.mk (B5.out.alloc B5.out.size (.cells #[.int .i64 a, .int .i64 b, .int .i64 x, .int .i64 (y - 2500), .int .i64 (z - 2500)] 2))
      have L6 := Bx.mk (list_five w4 a b x (y - 2500) (z - 2500))
      have HF := Bx.mk (fit_five a b x (y - 2500) (z - 2500) (by omega) (by omega) (by omega) (by omega) (by omega))
      have hlt := fun W hi ht => impl_listtext (.slice (some ⟨w4.heap.size, 0, none⟩) 5 5) [a, b, x, y - 2500, z - 2500] W hi (by simp) ht
      generalize textL [a, b, x, y - 2500, z - 2500] = l at HF hlt
      generalize hzs : [a, b, x, y - 2500, z - 2500] = zs at L6 HF hlt
      have H5 : Bx (zs.length = 5) := Bx.mk (by subst hzs; rfl)
      clear hzs
      refine (hlt _ L6.out (Bx.mk (tab_below B6.out HV.out.tab))).mono ?_
      rintro e w5 ⟨rfl, hc⟩
      have L7 := Bx.mk (L6.out.below hc)
      have B7 := Bx.mk (B6.out.trans (hc.mono B6.out.size))
      clear hc hlt L6 B6
      go_wp2_with (fail)
      refine (read_list l zs w5 (Bx.mk HF.out.1) HF.out.2 (Bx.mk (HV.out.below B7.out)) (Bx.mk (maxlen_below HM.out.1 HM.out.2 B7.out))).mono ?_
      rintro e w6 ho
      obtain ⟨v8, rfl, hi8, hc⟩ := read_parts ho
      have L8 := Bx.mk hi8
      have L9 := Bx.mk (L7.out.below hc)
      have B8 := Bx.mk (B7.out.trans (hc.mono B7.out.size))
      clear ho hi8 hc L7
      go_wp2_with (fail)
      refine (impl_dec a w6 (Bx.mk (by omega)) (Bx.mk (tab_below B8.out HV.out.tab))).mono ?_
      rintro e w7 ⟨rfl, hc⟩
      have L10 := Bx.mk (L8.out.below hc)
      have L11 := Bx.mk (L9.out.below hc)
      have B9 := Bx.mk (B8.out.trans (hc.mono B8.out.size))
      have HN := Bx.mk (num_fit a (by omega))
      have HNL := Bx.mk (itoa_len a (by omega) (by omega))
      clear hc L8 L9 HF
      generalize Lib.itoa a = l2 at HN HNL ⊢
      go_wp2_with (fail)
      refine (read_dec l2 a w7 HN (by have := HNL.out; omega) (Bx.mk (HV.out.below B9.out))).mono ?_
      rintro e w8 ⟨rfl, hc⟩
      have L12 := Bx.mk (L10.out.below hc)
      have L13 := Bx.mk (L11.out.below hc)
      have B10 := Bx.mk (B9.out.trans (hc.mono B9.out.size))
      clear hc
      go_wp2_with (fail)
      refine (r8_same v8 _ zs w8 L12.out L13.out (by have := H5.out; omega)).mono ?_
      rintro e w9 ⟨rfl, nq, rfl⟩
      go_wp2_with (fail)
      go_ret
      exact ⟨rfl, below_draws B10.out nq⟩
  · clear hb
    go_wp2
    go_ret
    exact ⟨rfl, Below.refl _ _⟩

theorem own : ownKnob Tryd.prog.godebug = none := by kernel_rfl
theorem laidOut : laidOutB Tryd.prog = true := by kernel_rfl
theorem listed {W : World} (h : laidMetH Tryd.prog Rows.fnBasicsRow.laid W) : ∃ ps, DataW.LaidVars Tryd.prog W Rows.fnBasicsRow.laid ps := by
  rw [Go.MakeChecks.laidMetH_plain _ _ _ (by kernel_rfl)] at h
  obtain ⟨ps, h, _⟩ := h
  exact ⟨ps, h⟩
set_option maxRecDepth 100000 in
theorem contract (H : Type) (enc : TypeId × Value → H) (W : World) (base : Nat) (args : Array Value) (ds gs : List (DataW H)) (before : List MemPlace)
    (hval : ∀ (j : Nat) t v, Tryd.f3.params[j]? = some t → args[j]? = some v → Value.okWide Tryd.prog W .any base t v)
    (hW : DataW.Whole enc Tryd.prog Tryd.f3.params.toList Rows.fnBasicsSpec.vars false W args.toList ds gs before) (hL : laidMetH Tryd.prog Rows.fnBasicsRow.laid W) (hsh : W.ShapedOpen Tryd.prog) :
    Calls Tryd.prog 3 args W fun e W' => ∃ v, e = .returned v ∧ Rows.fnBasicsSpec.post enc Tryd.prog Tryd.f3 false true false false W args v W' := by
  have hW' := hW
  obtain ⟨p, q, hA0, hV, rfl, hfz, hnd⟩ := hW
  obtain ⟨ps, hl⟩ := listed hL
  have hA : DataW.TrodAll enc Tryd.prog W 0 (fun _ => true) true Tryd.f3.params.toList args.toList ds p := hA0
  rw [Tryd.params3] at hA hval
  obtain ⟨v0, vs0, d0, ds0, p0, q0, hargs, rfl, rfl, h0, r0⟩ := trodAll_cons hA
  obtain ⟨v1, vs1, d1, ds1, p1, q1, rfl, rfl, rfl, h1, r1⟩ := trodAll_cons r0
  obtain ⟨rfl, rfl, rfl⟩ := trodAll_nil r1
  obtain rfl : args = #[v0, v1] := by cases args; simp_all
  obtain ⟨rfl, rfl⟩ := trodVars_none hV
  obtain ⟨n0, w0⟩ := arg_bytes (hval 0 22 v0 rfl rfl) h0 (fun x hx => hW'.lt x (by simp [hx]))
  obtain ⟨n1, w1⟩ := arg_bytes (hval 1 22 v1 rfl rfl) h1 (fun x hx => hW'.lt x (by simp [hx]))
  refine (walk v0 n0 w0 v1 n1 w1  hl hsh).mono fun e W' ⟨he, hb⟩ => ?_
  subst he
  exact ⟨_, rfl, post_lawv laidOut (by kernel_rfl) (by kernel_rfl) (by kernel_rfl) Tryd.underlying4 hW' rfl hb⟩

noncomputable def low : Nat := (World.holding Tryd.prog default ⟨#[], #[], []⟩).heap.size
/-- a world for the witness: each listed variable holds what is listed -/
noncomputable def laidWorld (os : Os) : World :=
  { World.holding Tryd.prog os ⟨#[], #[], []⟩ with heap := ((((((((World.holding Tryd.prog os ⟨#[.cells #[.string ⟨#[118, 97, 108, 117, 101, 32, 111, 117, 116, 32, 111, 102, 32, 114, 97, 110, 103, 101]⟩] 116, .cells #[.string ⟨#[105, 110, 118, 97, 108, 105, 100, 32, 115, 121, 110, 116, 97, 120]⟩] 116], #[], []⟩).heap).modify 7 (layCells (datCells (H := Unit) Rows.laid_math_bits_deBruijn32tab))).modify 8 (layCells (datCells (H := Unit) Rows.laid_math_bits_deBruijn64tab))).modify 4 (layCells (datCells (H := Unit) Rows.laid_internal_strconv_uint64pow10))).modify 6 (layCells (datCells (H := Unit) Rows.laid_unicode_utf8_acceptRanges))).modify 5 (layCells (datCells (H := Unit) Rows.laid_unicode_utf8_first))).modify 3 (layCells [.iface 114 (.pointer (some ⟨low + 0, 0, none⟩))])).modify 2 (layCells [.iface 114 (.pointer (some ⟨low + 1, 0, none⟩))]) }
theorem laid_met (os : Os) : laidMet Tryd.prog Rows.fnBasicsRow.laid ((laidWorld os).forCall (fun _ _ => 0) ⟨#[], #[Value.slice none 0 0, Value.slice none 0 0], []⟩).memory :=
  laidMet_of_run' 8 (by kernel_rfl) (by kernel_rfl)
theorem reads (os : Os) {H : Type} (enc : TypeId × Value → H) : ∃ places, DataW.whole enc Tryd.prog ((laidWorld os).forCall (fun _ _ => 0) ⟨#[], #[Value.slice none 0 0, Value.slice none 0 0], []⟩).memory Tryd.f3.params.toList Rows.fnBasicsSpec.vars false #[Value.slice none 0 0, Value.slice none 0 0].toList 8 = some ([.nil, .nil], [], places) :=
  places_of (by kernel_rfl)

set_option maxRecDepth 100000 in
theorem lifted (os : Os) (started : os.Started) (H : Type) (enc : TypeId × Value → H) (F : Stop.Interp) :
    ReturnsInHanded {} Tryd.checked os 3 .any ((OpenSpec.ofChange Rows.fnBasicsSpec).preRow enc Tryd.prog Tryd.f3 Rows.fnBasicsRow.domain false Rows.fnBasicsRow.laid) (((OpenSpec.ofChange Rows.fnBasicsSpec).at F).post enc Tryd.prog Tryd.f3 false true false false) := by
  obtain ⟨places, hx⟩ := reads os enc
  refine returnsInHanded_of_row (C := Tryd.checked) (s := OpenSpec.ofChange Rows.fnBasicsSpec) own started (by kernel_rfl) Tryd.func3
    (witness_row_at (enc := enc) (C := Tryd.checked) false (laidWorld os) #[Value.slice none 0 0, Value.slice none 0 0] rfl (by kernel_rfl) (by kernel_rfl) (by kernel_rfl)
      (OpenSpec.preRow_of_cond 8 hx (by kernel_rfl) (fun k hk => by cases hk) (by kernel_rfl) (by rw [Go.MakeChecks.laidMetH_plain _ _ _ (by kernel_rfl)]; exact laid_met os))) ?_
  intro W base args ds gs before hval hW _ _ _ hL hsh _
  exact contract H enc W base args ds gs before hval hW hL hsh

theorem said : Rows.FnBasicsSaid :=
  OpenClaim.holds_of_cond 3 Tryd.f3 rfl rfl rfl rfl rfl rfl rfl ⟨rfl, rfl, rfl, rfl, rfl⟩ rfl rfl rfl rfl rfl (by kernel_rfl) Tryd.func3 (by kernel_rfl)
    (of_decide_eq_true (by kernel_rfl)) (by unfold Func.isWrapper; first | (rw [if_pos (by decide +kernel)]; kernel_rfl) | (rw [if_neg (by decide +kernel)]; exact ⟨rfl, rfl⟩))
    (fun os started H enc _ F => by rw [OpenClaim.pre_eq_preRow]; exact lifted os started H enc F)

theorem plain (f : FuncId) (fn : Func) (hf : Tryd.pinned.checked.prog.funcNamed "loop.example/g01033/laws.FnBasics" = some f) (hfn : Tryd.pinned.checked.prog.funcs[f]? = some fn) :
    true = Tryd.pinned.checked.prog.looks [] ∧ ∀ (j : Nat) t, fn.params[j]? = some t → Tryd.pinned.checked.prog.wantsStandIn t = false := by
  obtain rfl : f = 3 := Option.some.inj ((show Tryd.prog.funcNamed "loop.example/g01033/laws.FnBasics" = some 3 by kernel_rfl).symm.trans hf) |>.symm
  obtain rfl : fn = Tryd.f3 := (Option.some.inj (Tryd.func3.symm.trans hfn)).symm
  refine ⟨by kernel_rfl, fun j t ht => ?_⟩
  rw [Tryd.params3] at ht
  have hm := Array.mem_of_getElem? ht
  have hall : ∀ t ∈ #[22, 22], Tryd.prog.wantsStandIn t = false := by
    intro t ht
    simp at ht
    subst ht; kernel_rfl
  exact hall t hm

theorem card : Rows.FnBasicsCardSaid :=
  Claim7.holds_tied_plain_at .later [] _ _ _ _ said (fun _ h => by cases h) (by kernel_rfl) (fun _ h => by cases h) fnBasics_row_tie rfl ⟨rfl, rfl⟩ (by kernel_rfl) rfl plain (by kernel_rfl)
theorem proved : Rows.FnBasicsCardSaid := card
#print axioms proved
end Go.Proofs.YtfogcabhafhlmaaDoor.fnBasics
