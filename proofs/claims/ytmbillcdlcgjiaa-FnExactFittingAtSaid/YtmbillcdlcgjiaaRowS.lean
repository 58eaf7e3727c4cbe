/- Slices of strings: the laws' own functions eqStringS, markStringS, heldStringS, markText. -/
import Derived.Test.YtmbillcdlcgjiaaRow
import Derived.Test.YtmbillcdlcgjiaaSplit
import Derived.Test.YtmbillcdlcgjiaaDec
import Derived.Deep.RegionHeld3
namespace Go.Proofs.Ytmbillcdlcgjiaa
open Go.ChangeShapes Go.WideShapes Go.ChangeAt Go.RowKit
set_option linter.unusedVariables false
set_option linter.unusedSimpArgs false
set_option maxRecDepth 100000

/-- the text that marks a cell -/
def markT (k : Nat) : List UInt8 := if k = 0 then [109, 48] else 109 :: Lib.decDigits k
theorem sapp (a b : List UInt8) : (⟨a.toArray⟩ : ByteArray) ++ ⟨b.toArray⟩ = ⟨(a ++ b).toArray⟩ := by
  apply ByteArray.ext
  simp
theorem one_byte (w : World) (K : Nat) : (convert 154 9 (.slice (some ⟨w.heap.size, 0, none⟩) 1 1)).run Try.prog (w.alloc (.cells #[.int .u8 (48 + (K : Int) % 10)] 5)) =
    .ok (.string ⟨[UInt8.ofNat (48 + K % 10)].toArray⟩) (w.alloc (.cells #[.int .u8 (48 + (K : Int) % 10)] 5)) := by
  have := run_convert_bytes_arg (P := Try.prog) (w.alloc (.cells #[.int .u8 (48 + (K : Int) % 10)] 5)) 154 5 Try.underlying154 Try.underlying5 w.heap.size 0 1 1 [48 + (K : Int) % 10] rfl
    (fun i hi => by obtain rfl : i = 0 := by omega
                    rw [World.cell?_alloc_at _ _ _ _ rfl]; rfl) 9 Try.underlying9
  rw [this]
  simp only [strOfNums, List.map_cons, List.map_nil]
  have e : (48 + (K : Int) % 10).toNat = 48 + K % 10 := by omega
  rw [e]

set_option maxHeartbeats 1000000 in
theorem mark_text (k : Nat) (w : World) (hk : k ≤ 1000000000000) :
    Calls Try.prog 90 #[.int .i64 k] w fun e w' => e = .returned (.string ⟨(markT k).toArray⟩) ∧ Below w.heap.size w w' := by
  by_cases h0 : k = 0
  · subst h0
    go_enter Try.func90, Try.ntmps90
    go_wp2
    go_ret
    exact ⟨ret_str (by decide +kernel), Below.refl _ _⟩
  · have hk1 : (1 : Int) ≤ k := by omega
    have HL : Bx ((lowDigits k).reverse = Lib.decDigits k) := Bx.mk (low_rev k h0)
    have HM : Bx (markT k = 109 :: Lib.decDigits k) := Bx.mk (by unfold markT; rw [if_neg h0])
    clear h0
    go_enter Try.func90, Try.ntmps90
    go_wp2
    go_loopw [0, 3] (fun q t wr => ∃ (K : Nat) (O : List UInt8), q = .int .i64 K ∧ t = .string ⟨O.toArray⟩ ∧ K ≤ 1000000000000 ∧ O.length ≤ 13 ∧ Below w.heap.size w wr ∧ Bx ((lowDigits K).reverse ++ O = Lib.decDigits k ∧ K * 10 ^ O.length ≤ 1000000000000)) (fun q _ _ => (intOf q).toNat)
    case atStart => exact ⟨k, [], rfl, rfl, hk, by simp, Below.refl _ _, Bx.mk ⟨by rw [HL.out]; simp, by simpa using hk⟩⟩
    case round =>
      obtain ⟨K, O, rfl, rfl, hK, hO, hb, HK⟩ := hrel
      by_cases hpos : 0 < K
      · have hc := one_byte wr K
        have hKi : (1 : Int) ≤ K := by omega
        have HS : Bx ((lowDigits (K / 10)).reverse ++ (UInt8.ofNat (48 + K % 10) :: O) = Lib.decDigits k) := Bx.mk (by
          have := HK.out.1
          rw [low_pos K (by omega), List.reverse_cons] at this
          rw [← this]; simp)
        have HO : Bx ((UInt8.ofNat (48 + K % 10) :: O).length ≤ 13 ∧ K / 10 * 10 ^ (UInt8.ofNat (48 + K % 10) :: O).length ≤ 1000000000000) := Bx.mk (by
          have h2 := HK.out.2
          rw [List.length_cons]
          have h3 : K / 10 * 10 ^ (O.length + 1) ≤ K * 10 ^ O.length := by
            rw [Nat.pow_succ, Nat.mul_comm (10 ^ O.length), ← Nat.mul_assoc]
            exact Nat.mul_le_mul_right _ (by omega)
          refine ⟨?_, Nat.le_trans h3 h2⟩
          rcases Nat.lt_or_ge O.length 13 with h | h
          · omega
          · exfalso
            have h4 : 10 ^ 13 ≤ 10 ^ O.length := Nat.pow_le_pow_right (by omega) h
            have h5 : 1 * 10 ^ O.length ≤ K * 10 ^ O.length := Nat.mul_le_mul_right _ hpos
            omega)
        clear HK
        generalize UInt8.ofNat (48 + K % 10) = d at hc HS HO
        go_wp2
        go_roundw
        case rel => exact ⟨K / 10, d :: O, by go_num, by first | rw [sapp]; rfl | (rw [show (⟨#[d]⟩ : ByteArray) = ⟨[d].toArray⟩ from rfl, sapp]; rfl), by omega, HO.out.1, hb.alloc hb.size _, Bx.mk ⟨HS.out, HO.out.2⟩⟩
        case measure => simp [intOf]; omega
      · obtain rfl : K = 0 := by omega
        have HE : Bx ((⟨#[109]⟩ : ByteArray) ++ ⟨O.toArray⟩ = ⟨(markT k).toArray⟩) := Bx.mk (by
          rw [show (⟨#[109]⟩ : ByteArray) = ⟨[109].toArray⟩ from rfl, sapp, HM.out]
          have := HK.out.1
          rw [low_zero] at this
          rw [← this]; rfl)
        clear HK
        go_wp2
        go_ret
        exact ⟨by rw [HE.out]; rfl, hb⟩

/-- a slice that reads as these texts -/
def StrsAt (w : World) (v : Value) (ps : List (List UInt8)) : Prop :=
  (ps = [] ∧ ∃ A c, v = .slice A 0 c) ∨ ∃ b off c, v = .slice (some ⟨b, off, none⟩) ps.length c ∧ b < w.heap.size ∧ ∀ k, k < ps.length → w.cell? ⟨b, off + k, none⟩ = some (.string ⟨(ps.getD k []).toArray⟩)
theorem StrsAt.below {w w' : World} {v : Value} {zs : List (List UInt8)} (h : StrsAt w v zs) (hb : Below w.heap.size w w') : StrsAt w' v zs := by
  rcases h with h | ⟨b, off, c, h1, h2, h3⟩
  · exact .inl h
  · exact .inr ⟨b, off, c, h1, Nat.lt_of_lt_of_le h2 hb.size, fun k hk => (hb.cell (p := ⟨b, off + k, none⟩) h2).trans (h3 k hk)⟩
theorem StrsAt.draws {w : World} {v : Value} {zs : List (List UInt8)} (h : StrsAt w v zs) (n : Nat) : StrsAt (w.drewN n) v zs := h
theorem strs_at (ps : List (List UInt8)) (k : Nat) (h : k < ps.length) : (strs ps)[k]? = some (.string ⟨(ps.getD k []).toArray⟩) := by simp [strs, h]
theorem StrsAt.own {w : World} {base : Nat} {v : Value} {zs : List (List UInt8)} (h : w.ownsRow base 9 1 v zs.length (strs zs)) : StrsAt w v zs := by
  rcases Nat.eq_zero_or_pos zs.length with h0 | h0
  · refine .inl ⟨List.eq_nil_of_length_eq_zero h0, ?_⟩
    rcases h.2 with ⟨hv, _⟩ | ⟨g, cap, cur, hv, _⟩
    · exact ⟨none, 0, hv⟩
    · exact ⟨some ⟨g, 0, none⟩, cap, by rw [hv, h0]⟩
  · obtain ⟨g, cap, rfl, _, hlt⟩ := h.form h0
    refine .inr ⟨g, 0, cap, rfl, hlt, fun k hk => ?_⟩
    rw [Nat.zero_add, h.cellAt k (by omega), strs_at zs k hk]

theorem take_neS (xs ys : List (List UInt8)) (k : Nat) (h1 : k < xs.length) (h2 : k < ys.length) (hn : xs.getD k [] ≠ ys.getD k []) : xs ≠ ys := by
  rintro rfl; exact hn rfl
theorem take_eq_succS (xs ys : List (List UInt8)) (k : Nat) (h1 : k < xs.length) (h2 : k < ys.length) (hp : xs.take k = ys.take k) (he : xs.getD k [] = ys.getD k []) : xs.take (k + 1) = ys.take (k + 1) := by
  simp only [List.getD, List.getElem?_eq_getElem h1, List.getElem?_eq_getElem h2, Option.getD_some] at he
  rw [List.take_succ_eq_append_getElem h1, List.take_succ_eq_append_getElem h2, hp, he]

def marksT (n k : Nat) : List (List UInt8) := (List.range n).map fun i => markT (k + i)
theorem marksT_len (n k : Nat) : (marksT n k).length = n := by simp [marksT]
theorem marksT_at (n k i : Nat) (h : i < n) : (marksT n k).getD i [] = markT (k + i) := by simp [marksT, h]
def mixedT (zs : List (List UInt8)) (k i : Nat) : List (List UInt8) := marksT i k ++ zs.drop i
theorem mixedT_len (zs : List (List UInt8)) (k i : Nat) (h : i ≤ zs.length) : (mixedT zs k i).length = zs.length := by simp [mixedT, marksT_len]; omega
theorem mixedT_step (zs : List (List UInt8)) (k i : Nat) (h : i < zs.length) : (strs (mixedT zs k i)).set i (.string ⟨(markT (k + i)).toArray⟩) = strs (mixedT zs k (i + 1)) := by
  have e1 : zs.drop i = zs[i] :: zs.drop (i + 1) := List.drop_eq_getElem_cons h
  have e2 : marksT (i + 1) k = marksT i k ++ [markT (k + i)] := by simp [marksT, List.range_succ]
  unfold mixedT strs
  rw [e1, e2, List.map_append, List.map_cons, List.set_append_right _ _ (by simp [marksT_len])]
  simp [marksT_len]
theorem mixedT_zero (zs : List (List UInt8)) (k : Nat) : mixedT zs k 0 = zs := by simp [mixedT, marksT]
theorem mixedT_all (zs : List (List UInt8)) (k : Nat) : mixedT zs k zs.length = marksT zs.length k := by simp [mixedT]
theorem own_below' {w w' : World} {base : Nat} {e : TypeId} {size n : Nat} {v : Value} {xs : List Value} (h : w.ownsRow base e size v n xs) (hb : Below w.heap.size w w') : w'.ownsRow base e size v n xs := by
  refine ⟨h.1, ?_⟩
  rcases h.2 with h2 | ⟨g, cap, cur, h1, h2, h3, h4⟩
  · exact .inl h2
  · refine .inr ⟨g, cap, cur, h1, h2, ?_, h4⟩
    rw [hb.block g ?_]
    · exact h3
    · rcases Nat.lt_or_ge g w.heap.size with h | h
      · exact h
      · rw [Array.getElem?_eq_none h] at h3; cases h3

theorem held_keep {w W w4 : World} {b o j : Nat} {x : Value} (hch : W.cell? ⟨b, o + j, none⟩ = some x ∧ Below w.heap.size w W) (h4 : Below W.heap.size W w4) (hb : b < w.heap.size) :
    w4.cell? ⟨b, o + j, none⟩ = some x ∧ Below w.heap.size w w4 :=
  ⟨(h4.cell (p := ⟨b, o + j, none⟩) (Nat.lt_of_lt_of_le hb hch.2.size)).trans hch.1, hch.2.trans (h4.mono hch.2.size)⟩
end Go.Proofs.Ytmbillcdlcgjiaa
