/- Slices of strings: the laws' own functions eqStringS, markStringS, heldStringS, markText. -/
import Derived.Test.YtfogcabhafhlmaaDoorRow
import Derived.Test.YtfogcabhafhlmaaDoorSplit
import Derived.Test.YtfogcabhafhlmaaDoorDec
import Derived.Deep.RegionHeld3
namespace Go.Proofs.YtfogcabhafhlmaaDoor
open Go.ChangeShapes Go.WideShapes Go.ChangeAt Go.RowKit
set_option linter.unusedVariables false

/-- the text that marks a cell -/
def markT (k : Nat) : List UInt8 := if k = 0 then [109, 48] else 109 :: Lib.decDigits k
theorem sapp (a b : List UInt8) : (⟨a.toArray⟩ : ByteArray) ++ ⟨b.toArray⟩ = ⟨(a ++ b).toArray⟩ := by
  apply ByteArray.ext
  simp
theorem one_byte (w : World) (K : Nat) : (convert 22 9 (.slice (some ⟨w.heap.size, 0, none⟩) 1 1)).run Tryd.prog (w.alloc (.cells #[.int .u8 (48 + (K : Int) % 10)] 5)) =
    .ok (.string ⟨[UInt8.ofNat (48 + K % 10)].toArray⟩) (w.alloc (.cells #[.int .u8 (48 + (K : Int) % 10)] 5)) := by
  have := run_convert_bytes_arg (P := Tryd.prog) (w.alloc (.cells #[.int .u8 (48 + (K : Int) % 10)] 5)) 22 5 Tryd.underlying22 Tryd.underlying5 w.heap.size 0 1 1 [48 + (K : Int) % 10] rfl
    (fun i hi => by obtain rfl : i = 0 := by omega
                    rw [World.cell?_alloc_at _ _ _ _ rfl]; rfl) 9 Tryd.underlying9
  rw [this]
  simp only [strOfNums, List.map_cons, List.map_nil]
  have e : (48 + (K : Int) % 10).toNat = 48 + K % 10 := by omega
  rw [e]

set_option maxHeartbeats 1000000 in
theorem mark_text (k : Nat) (w : World) (hk : k ≤ 1000000000000) :
    Calls Tryd.prog 56 #[.int .i64 k] w fun e w' => e = .returned (.string ⟨(markT k).toArray⟩) ∧ Below w.heap.size w w' := by
  by_cases h0 : k = 0
  · subst h0
    go_enter Tryd.func56, Tryd.ntmps56
    go_wp2
    go_ret
    exact ⟨ret_str (by decide +kernel), Below.refl _ _⟩
  · have hk1 : (1 : Int) ≤ k := by omega
    have HL : Bx ((lowDigits k).reverse = Lib.decDigits k) := Bx.mk (low_rev k h0)
    have HM : Bx (markT k = 109 :: Lib.decDigits k) := Bx.mk (by unfold markT; rw [if_neg h0])
    clear h0
    go_enter Tryd.func56, Tryd.ntmps56
    go_wp2
    go_loopw [0, 3] (fun q t wr => ∃ (K : Nat) (O : List UInt8), q = .int .i64 K ∧ t = .string ⟨O.toArray⟩ ∧ K ≤ 1000000000000 ∧ O.length ≤ 13 ∧ Below w.heap.size w wr ∧ Bx ((lowDigits K).reverse ++ O = Lib.decDigits k ∧ K * 10 ^ O.length ≤ 1000000000000)) (fun q _ _ => (intOf q).toNat)
    case atStart => exact ⟨k, [], rfl, rfl, hk, by simp, Below.refl _ _, Bx.mk ⟨by rw [HL.out]; simp, by simpa using hk⟩⟩
    case round =>
      obtain ⟨K, O, rfl, rfl, hK, hO, hb, HK⟩ := hrel
      by_cases hpos : 0 < K
      · have hc := one_byte wr K
        have hKi : (1 : Int) ≤ K := by omega
        have HS : Bx ((lowDigits (K / 10)).reverse ++ (UInt8.ofNat (48 + K % 10) :: O) = Lib.decDigits k) := Bx.mk (by
          have := HK.out.1
          rw [low_pos K (by omega), List.reverse_cons] at this
          rw [← this]; simp)
        have HO : Bx ((UInt8.ofNat (48 + K % 10) :: O).length ≤ 13 ∧ K / 10 * 10 ^ (UInt8.ofNat (48 + K % 10) :: O).length ≤ 1000000000000) := Bx.mk (by
          have h2 := HK.out.2
          rw [List.length_cons]
          have h3 : K / 10 * 10 ^ (O.length + 1) ≤ K * 10 ^ O.length := by
            rw [Nat.pow_succ, Nat.mul_comm (10 ^ O.length), ← Nat.mul_assoc]
            exact Nat.mul_le_mul_right _ (by omega)
          refine ⟨?_, Nat.le_trans h3 h2⟩
          rcases Nat.lt_or_ge O.length 13 with h | h
          · omega
          · exfalso
            have h4 : 10 ^ 13 ≤ 10 ^ O.length := Nat.pow_le_pow_right (by omega) h
            have h5 : 1 * 10 ^ O.length ≤ K * 10 ^ O.length := Nat.mul_le_mul_right _ hpos
            omega)
        clear HK
        generalize UInt8.ofNat (48 + K % 10) = d at hc HS HO
        go_wp2
        go_roundw
        case rel => exact ⟨K / 10, d :: O, by go_num, by first | rw [sapp]; rfl | (rw [show (⟨#[d]⟩ : ByteArray) = ⟨[d].toArray⟩ from rfl, sapp]; rfl), by omega, HO.out.1, hb.alloc hb.size _, Bx.mk ⟨HS.out, HO.out.2⟩⟩
        case measure => simp [intOf]; omega
      · obtain rfl : K = 0 := by omega
        have HE : Bx ((⟨#[109]⟩ : ByteArray) ++ ⟨O.toArray⟩ = ⟨(markT k).toArray⟩) := Bx.mk (by
          rw [show (⟨#[109]⟩ : ByteArray) = ⟨[109].toArray⟩ from rfl, sapp, HM.out]
          have := HK.out.1
          rw [low_zero] at this
          rw [← this]; rfl)
        clear HK
        go_wp2
        go_ret
        exact ⟨by rw [HE.out]; rfl, hb⟩

/-- a slice that reads as these texts -/
def StrsAt (w : World) (v : Value) (ps : List (List UInt8)) : Prop :=
  (ps = [] ∧ ∃ A c, v = .slice A 0 c) ∨ ∃ b off c, v = .slice (some ⟨b, off, none⟩) ps.length c ∧ b < w.heap.size ∧ ∀ k, k < ps.length → w.cell? ⟨b, off + k, none⟩ = some (.string ⟨(ps.getD k []).toArray⟩)
theorem StrsAt.below {w w' : World} {v : Value} {zs : List (List UInt8)} (h : StrsAt w v zs) (hb : Below w.heap.size w w') : StrsAt w' v zs := by
  rcases h with h | ⟨b, off, c, h1, h2, h3⟩
  · exact .inl h
  · exact .inr ⟨b, off, c, h1, Nat.lt_of_lt_of_le h2 hb.size, fun k hk => (hb.cell (p := ⟨b, off + k, none⟩) h2).trans (h3 k hk)⟩
theorem StrsAt.draws {w : World} {v : Value} {zs : List (List UInt8)} (h : StrsAt w v zs) (n : Nat) : StrsAt (w.drewN n) v zs := h
theorem strs_at (ps : List (List UInt8)) (k : Nat) (h : k < ps.length) : (strs ps)[k]? = some (.string ⟨(ps.getD k []).toArray⟩) := by simp [strs, h]
theorem StrsAt.own {w : World} {base : Nat} {v : Value} {zs : List (List UInt8)} (h : w.ownsRow base 9 1 v zs.length (strs zs)) : StrsAt w v zs := by
  rcases Nat.eq_zero_or_pos zs.length with h0 | h0
  · refine .inl ⟨List.eq_nil_of_length_eq_zero h0, ?_⟩
    rcases h.2 with ⟨hv, _⟩ | ⟨g, cap, cur, hv, _⟩
    · exact ⟨none, 0, hv⟩
    · exact ⟨some ⟨g, 0, none⟩, cap, by rw [hv, h0]⟩
  · obtain ⟨g, cap, rfl, _, hlt⟩ := h.form h0
    refine .inr ⟨g, 0, cap, rfl, hlt, fun k hk => ?_⟩
    rw [Nat.zero_add, h.cellAt k (by omega), strs_at zs k hk]

theorem take_neS (xs ys : List (List UInt8)) (k : Nat) (h1 : k < xs.length) (h2 : k < ys.length) (hn : xs.getD k [] ≠ ys.getD k []) : xs ≠ ys := by
  rintro rfl; exact hn rfl
theorem take_eq_succS (xs ys : List (List UInt8)) (k : Nat) (h1 : k < xs.length) (h2 : k < ys.length) (hp : xs.take k = ys.take k) (he : xs.getD k [] = ys.getD k []) : xs.take (k + 1) = ys.take (k + 1) := by
  simp only [List.getD, List.getElem?_eq_getElem h1, List.getElem?_eq_getElem h2, Option.getD_some] at he
  rw [List.take_succ_eq_append_getElem h1, List.take_succ_eq_append_getElem h2, hp, he]

theorem eq_strs (va vb : Value) (xs ys : List (List UInt8)) (w : World) (ha : StrsAt w va xs) (hb : StrsAt w vb ys) (hx : xs.length ≤ 281474976710656) (hy : ys.length ≤ 281474976710656) :
    Calls Tryd.prog 28 #[va, vb] w fun e w' => e = .returned (.bool (decide (xs = ys))) ∧ ∃ n, w' = w.drewN n := by
  by_cases hl : xs.length = ys.length
  · rcases ha with ⟨rfl, A, c, rfl⟩ | ⟨b1, o1, c1, rfl, _, h1⟩
    · have hy0 : ys = [] := List.eq_nil_of_length_eq_zero hl.symm
      subst hy0
      obtain ⟨B, c', rfl⟩ : ∃ B c', vb = .slice B 0 c' := by
        rcases hb with ⟨_, B, c', h⟩ | ⟨b, o, c', h, _⟩
        · exact ⟨B, c', h⟩
        · exact ⟨_, c', h⟩
      clear hb hl hx hy
      go_enter Tryd.func28, Tryd.ntmps28
      go_wp2
      refine wp_loop_rounds 1 ?_
      rw [rounds_succ]
      go_wp2
      go_ret
      exact ⟨ret_bool (by simp), 0, rfl⟩
    · rcases hb with ⟨rfl, B, c', rfl⟩ | ⟨b2, o2, c2, rfl, _, h2⟩
      · have hx0 : xs = [] := List.eq_nil_of_length_eq_zero hl
        subst hx0
        clear hl hx hy h1
        go_enter Tryd.func28, Tryd.ntmps28
        go_wp2
        refine wp_loop_rounds 1 ?_
        rw [rounds_succ]
        go_wp2
        go_ret
        exact ⟨ret_bool (by simp), 0, rfl⟩
      · have H1 := Bx.mk h1
        have H2 := Bx.mk h2
        have HL := Bx.mk hl
        have hle : ((xs.length : Int) != (ys.length : Int)) = false := by simp; omega
        clear h1 h2 hl
        go_enter Tryd.func28, Tryd.ntmps28
        go_wp2
        go_loopw [5] (fun i wr => ∃ k n : Nat, k ≤ xs.length ∧ i = .int .i64 k ∧ Bx (xs.take k = ys.take k) ∧ wr = w.drewN n) (fun i _ => xs.length - (intOf i).toNat)
        case atStart => exact ⟨0, 0, Nat.zero_le _, rfl, Bx.mk rfl, rfl⟩
        case round =>
          obtain ⟨k, n, hk, rfl, HK, rfl⟩ := hrel
          by_cases hlt : k < xs.length
          · have hlt2 : k < ys.length := by have := HL.out; omega
            have c1 := H1.out k hlt
            have c2 := H2.out k hlt2
            have HS := Bx.mk (take_eq_succS xs ys k hlt hlt2 HK.out)
            have HT := Bx.mk (take_neS xs ys k hlt hlt2)
            generalize xs.getD k [] = p at c1 HS HT
            generalize ys.getD k [] = q at c2 HS HT
            by_cases hpq : p = q
            · subst hpq
              have HS2 := Bx.mk (HS.out rfl)
              clear HS HT
              go_wp2
              go_quiet (fail)
              go_wp2
              go_roundw
              case rel => exact ⟨k + 1, _, by omega, by go_num, HS2, rfl⟩
              case measure => simp [intOf]; omega
            · have hne : (p == q) = false := by simpa using hpq
              have HT2 := Bx.mk (HT.out hpq)
              clear HS HT hpq
              go_wp2
              go_quiet (fail)
              go_wp2
              go_ret
              exact ⟨ret_bool (by simpa using HT2.out), n + nq, by rw [World.drewN_drewN]⟩
          · have HE : Bx (xs = ys) := Bx.mk (by have := HK.out; rwa [List.take_of_length_le (by omega), List.take_of_length_le (by have := HL.out; omega)] at this)
            go_wp2
            go_ret
            exact ⟨ret_bool (by simpa using HE.out), _, rfl⟩
  · have hle : ((xs.length : Int) != (ys.length : Int)) = true := by simp; omega
    have HN : Bx (xs ≠ ys) := Bx.mk (by rintro rfl; exact hl rfl)
    obtain ⟨A, c, rfl⟩ : ∃ A c, va = .slice A xs.length c := by
      rcases ha with ⟨rfl, A, c, h⟩ | ⟨b, o, c, h, _⟩
      · exact ⟨A, c, h⟩
      · exact ⟨_, c, h⟩
    obtain ⟨B, c', rfl⟩ : ∃ B c, vb = .slice B ys.length c := by
      rcases hb with ⟨rfl, A, c, h⟩ | ⟨b, o, c, h, _⟩
      · exact ⟨A, c, h⟩
      · exact ⟨_, c, h⟩
    clear ha hb hl
    go_enter Tryd.func28, Tryd.ntmps28
    go_wp2
    go_ret
    exact ⟨ret_bool (by simpa using HN.out), 0, rfl⟩


def marksT (n k : Nat) : List (List UInt8) := (List.range n).map fun i => markT (k + i)
theorem marksT_len (n k : Nat) : (marksT n k).length = n := by simp [marksT]
theorem marksT_at (n k i : Nat) (h : i < n) : (marksT n k).getD i [] = markT (k + i) := by simp [marksT, h]
def mixedT (zs : List (List UInt8)) (k i : Nat) : List (List UInt8) := marksT i k ++ zs.drop i
theorem mixedT_len (zs : List (List UInt8)) (k i : Nat) (h : i ≤ zs.length) : (mixedT zs k i).length = zs.length := by simp [mixedT, marksT_len]; omega
theorem mixedT_step (zs : List (List UInt8)) (k i : Nat) (h : i < zs.length) : (strs (mixedT zs k i)).set i (.string ⟨(markT (k + i)).toArray⟩) = strs (mixedT zs k (i + 1)) := by
  have e1 : zs.drop i = zs[i] :: zs.drop (i + 1) := List.drop_eq_getElem_cons h
  have e2 : marksT (i + 1) k = marksT i k ++ [markT (k + i)] := by simp [marksT, List.range_succ]
  unfold mixedT strs
  rw [e1, e2, List.map_append, List.map_cons, List.set_append_right _ _ (by simp [marksT_len])]
  simp [marksT_len]
theorem mixedT_zero (zs : List (List UInt8)) (k : Nat) : mixedT zs k 0 = zs := by simp [mixedT, marksT]
theorem mixedT_all (zs : List (List UInt8)) (k : Nat) : mixedT zs k zs.length = marksT zs.length k := by simp [mixedT]
theorem own_below' {w w' : World} {base : Nat} {e : TypeId} {size n : Nat} {v : Value} {xs : List Value} (h : w.ownsRow base e size v n xs) (hb : Below w.heap.size w w') : w'.ownsRow base e size v n xs := by
  refine ⟨h.1, ?_⟩
  rcases h.2 with h2 | ⟨g, cap, cur, h1, h2, h3, h4⟩
  · exact .inl h2
  · refine .inr ⟨g, cap, cur, h1, h2, ?_, h4⟩
    rw [hb.block g ?_]
    · exact h3
    · rcases Nat.lt_or_ge g w.heap.size with h | h
      · exact h
      · rw [Array.getElem?_eq_none h] at h3; cases h3

set_option maxHeartbeats 1000000 in
theorem mark_strs (v : Value) (zs : List (List UInt8)) (base : Nat) (k : Nat) (w : World) (h : w.ownsRow base 9 1 v zs.length (strs zs)) (hn : zs.length ≤ 100000000) (hk2 : k ≤ 1000000000) :
    Calls Tryd.prog 29 #[v, .int .i64 k] w fun e w' => e = .returned (.int .i64 ((k : Int) + zs.length)) ∧ w'.ownsRow base 9 1 v zs.length (strs (marksT zs.length k)) ∧ (base ≤ w.heap.size → Below base w w') := by
  rcases Nat.eq_zero_or_pos zs.length with h0 | h0
  · obtain rfl := List.eq_nil_of_length_eq_zero h0
    obtain ⟨A, c, rfl⟩ : ∃ A c, v = .slice A 0 c := by
      rcases h.2 with ⟨hv, _⟩ | ⟨g, cap, cur, hv, _⟩
      · exact ⟨none, 0, hv⟩
      · exact ⟨_, cap, hv⟩
    have HO := Bx.mk h
    clear h
    go_enter Tryd.func29, Tryd.ntmps29
    go_wp2
    refine wp_loop_rounds 1 ?_
    rw [rounds_succ]
    go_wp2
    go_ret
    exact ⟨ret_int (by simp), by simpa [marksT] using HO.out, fun _ => Below.refl _ _⟩
  · obtain ⟨g, cap, rfl, hbg, hlt⟩ := h.form h0
    have HO := Bx.mk h
    clear h
    go_enter Tryd.func29, Tryd.ntmps29
    go_wp2
    go_loopw [1, 5] (fun q i wr => ∃ j : Nat, j ≤ zs.length ∧ i = .int .i64 j ∧ q = .int .i64 ((k : Int) + j) ∧ Bx (wr.ownsRow base 9 1 (.slice (some ⟨g, 0, none⟩) zs.length cap) zs.length (strs (mixedT zs k j)) ∧ (base ≤ w.heap.size → Below base w wr))) (fun _ i _ => zs.length - (intOf i).toNat)
    case atStart => exact ⟨0, Nat.zero_le _, rfl, by go_num, Bx.mk ⟨by rw [mixedT_zero]; exact HO.out, fun _ => Below.refl _ _⟩⟩
    case round =>
      obtain ⟨j, hj, rfl, rfl, HB⟩ := hrel
      by_cases hlt : j < zs.length
      · have hmt := mark_text (k + j) wr (by omega)
        rw [show (((k + j : Nat) : Int)) = (k : Int) + j by omega] at hmt
        have HMT := Bx.mk hmt
        clear hmt
        have H2 : Bx (∀ w4, Below wr.heap.size wr w4 → ∃ u, w4.cell? ⟨g, j, none⟩ = some u ∧ w4.frozen? ⟨g, j, none⟩ = false ∧
            ((w4.setCell ⟨g, j, none⟩ (.string ⟨(markT (k + j)).toArray⟩)).ownsRow base 9 1 (.slice (some ⟨g, 0, none⟩) zs.length cap) zs.length (strs (mixedT zs k (j + 1))) ∧ (base ≤ w.heap.size → Below base w (w4.setCell ⟨g, j, none⟩ (.string ⟨(markT (k + j)).toArray⟩))))) := Bx.mk (fun w4 hb4 => by
          have ho := own_below' HB.out.1 hb4
          have hl : j < (strs (mixedT zs k j)).length := by rw [strs_len, mixedT_len _ _ _ hj]; exact hlt
          refine ⟨_, by rw [ho.cellAt j (by omega)]; exact List.getElem?_eq_getElem hl, ho.frozenAt j, ?_⟩
          have hs := ho.stored j (.string ⟨(markT (k + j)).toArray⟩)
          rw [mixedT_step zs k j hlt] at hs
          exact ⟨hs.1, fun hbase => ((HB.out.2 hbase).trans (hb4.mono (Nat.le_trans hbase (HB.out.2 hbase).size))).setCell hbg _⟩)
        clear HB
        go_wp2_with ((go_at_call 56; refine HMT.out.mono ?_; rintro e w4 ⟨rfl, hb4⟩; obtain ⟨u, hc, hf, hs⟩ := H2.out w4 hb4; have HS := Bx.mk hs; clear hb4 hs))
        go_roundw
        case rel => exact ⟨j + 1, by omega, by go_num, by go_num, HS⟩
        case measure => simp [intOf]; omega
      · obtain rfl : j = zs.length := by omega
        have HE := HB.out
        rw [mixedT_all] at HE
        have HE := Bx.mk HE
        go_wp2
        go_ret
        exact ⟨ret_int (by simp), HE.out.1, HE.out.2⟩

theorem held_keep {w W w4 : World} {b o j : Nat} {x : Value} (hch : W.cell? ⟨b, o + j, none⟩ = some x ∧ Below w.heap.size w W) (h4 : Below W.heap.size W w4) (hb : b < w.heap.size) :
    w4.cell? ⟨b, o + j, none⟩ = some x ∧ Below w.heap.size w w4 :=
  ⟨(h4.cell (p := ⟨b, o + j, none⟩) (Nat.lt_of_lt_of_le hb hch.2.size)).trans hch.1, hch.2.trans (h4.mono hch.2.size)⟩
set_option maxHeartbeats 1000000 in
theorem held_strs (v : Value) (n k : Nat) (w : World) (h : StrsAt w v (marksT n k)) (hn : n ≤ 100000000) (hk2 : k ≤ 1000000000) :
    Calls Tryd.prog 30 #[v, .int .i64 k] w fun e w' => e = .returned (.int .i64 ((k : Int) + n)) ∧ Below w.heap.size w w' := by
  rcases h with ⟨h0, A, c, rfl⟩ | ⟨b, o, c, rfl, hbl, h1⟩
  · obtain rfl : n = 0 := by have := congrArg List.length h0; rw [marksT_len] at this; simpa using this
    clear h0
    go_enter Tryd.func30, Tryd.ntmps30
    go_wp2
    refine wp_loop_rounds 1 ?_
    rw [rounds_succ]
    go_wp2
    go_ret
    exact ⟨ret_int (by simp), Below.refl _ _⟩
  · rw [marksT_len] at h1 ⊢
    have H1 := Bx.mk h1
    clear h1
    go_enter Tryd.func30, Tryd.ntmps30
    go_wp2
    go_loopw [1, 5] (fun q i wr => ∃ j : Nat, j ≤ n ∧ i = .int .i64 j ∧ q = .int .i64 ((k : Int) + j) ∧ Below w.heap.size w wr) (fun _ i _ => n - (intOf i).toNat)
    case atStart => exact ⟨0, Nat.zero_le _, rfl, by go_num, Below.refl _ _⟩
    case round =>
      obtain ⟨j, hj, rfl, rfl, hb⟩ := hrel
      by_cases hlt : j < n
      · have h1 := H1.out j hlt
        rw [marksT_at n k j hlt] at h1
        have hc : wr.cell? ⟨b, o + j, none⟩ = some (.string ⟨(markT (k + j)).toArray⟩) := (hb.cell (p := ⟨b, o + j, none⟩) hbl).trans h1
        have hmt := fun W => mark_text (k + j) W (by omega)
        rw [show (((k + j : Nat) : Int)) = (k : Int) + j by omega] at hmt
        generalize markT (k + j) = T at hc hmt
        have hj1 : (0 : Int) ≤ j := by omega
        have hji : (j : Int) < n := by omega
        clear h1
        go_upto_region 4 with (fail)
        go_region_held3 (fun w' => w'.cell? ⟨b, o + j, none⟩ = some (.string ⟨T.toArray⟩) ∧ Below w.heap.size w w') (first | (refine And.intro ?_ ?_; (go_keep); exact Below.drew (by assumption)) | exact held_keep (by assumption) hb4 hbl) (first | (go_at_call 56; refine (hmt _).mono ?_; rintro e w4 ⟨rfl, hb4⟩))
        all_goals
          rename_i hH
          have hbn := hH.2
          clear hH hb4
          go_wp2
          go_roundw
          case rel => exact ⟨j + 1, by omega, by go_num, by go_num, hbn⟩
          case measure => simp [intOf]; omega
      · obtain rfl : j = n := by omega
        go_wp2
        go_ret
        exact ⟨rfl, hb⟩
end Go.Proofs.YtfogcabhafhlmaaDoor
