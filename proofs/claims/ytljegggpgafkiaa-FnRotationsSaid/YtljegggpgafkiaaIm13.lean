/- Scales: the scale of a text, by the program. -/
import Derived.Test.YtljegggpgafkiaaIm12
import Derived.Lib.OthersKept
import Derived.Laws.Runes
namespace Go.Proofs.Ytljegggpgafkiaa
open Go.ChangeShapes Go.WideShapes Go.ChangeAt Go.RowKit
set_option linter.unusedVariables false
set_option linter.unusedSimpArgs false
set_option maxRecDepth 100000

structure IterAt (w : World) (g : Nat) (s : ByteArray) (pos : Nat) : Prop where
  hp : w.heap[g]? = some (.stringIter s pos)
theorem IterAt.lt {w : World} {g : Nat} {s : ByteArray} {pos : Nat} (h : IterAt w g s pos) : g < w.heap.size := by
  rcases Nat.lt_or_ge g w.heap.size with h' | h'
  · exact h'
  · have := h.hp; rw [Array.getElem?_eq_none h'] at this; cases this
theorem IterAt.grown {w w' : World} {g : Nat} {s : ByteArray} {pos : Nat} {row : Option Nat} (h : IterAt w g s pos) (hg : w.grownBy w' row) (hn : some g ≠ row) : IterAt w' g s pos := ⟨by rw [hg.block g h.lt hn]; exact h.hp⟩
theorem IterAt.alloc {w : World} {g : Nat} {s : ByteArray} {pos : Nat} (h : IterAt w g s pos) (o : Obj) : IterAt (w.alloc o) g s pos := h.grown (World.grownBy_alloc w o none) (by simp)
theorem iter_grown (w : World) (g : Nat) (s : ByteArray) (pos : Nat) : w.grownBy (w.iterAt g s pos) (some g) := ⟨rfl, rfl, rfl, by rw [Lib.iterAt_size]; exact Nat.le_refl _, fun k _ hk => Lib.iterAt_other w g k s pos (fun e => hk (by simp [e]))⟩
theorem own_iter {w : World} {base e size n g : Nat} {v : Value} {xs : List Value} (h : w.ownsRow base e size v n xs) (hg : g < base) (s : ByteArray) (pos : Nat) : (w.iterAt g s pos).ownsRow base e size v n xs :=
  h.kept (iter_grown w g s pos) (Or.inr (own_far h hg))
theorem decode_big (s : ByteArray) (pos : Nat) (h : pos < s.size) (hb : 128 ≤ (s[pos]'h).toNat) : 128 ≤ (Utf8.decode s pos).1 := by
  have e : s.get! (pos + 0) = s[pos]'h := by
    rw [Nat.add_zero]
    show s.data[pos]! = _
    rw [getElem!_pos s.data pos h]
    rfl
  simp only [Utf8.decode, Utf8.runeError, e, ge_iff_le, Bool.and_eq_true, decide_eq_true_eq]
  repeat' split
  all_goals first | omega | (simp only []; omega)
theorem enc_small (c : UInt8) (h : c.toNat < 128) : Utf8.encode (c.toNat : Int) = ⟨#[c]⟩ := by
  have hv : Utf8.valid (c.toNat : Int) = true := by simp [Utf8.valid]; omega
  simp only [Utf8.encode, hv, if_true, Int.toNat_natCast, h]
  simp
theorem enc_big (r : Nat) (h : 128 ≤ r) : (Utf8.encode (r : Int)).size ≠ 1 := by
  have hc : 128 ≤ (if Utf8.valid (r : Int) = true then (r : Int).toNat else Utf8.runeError) := by
    split
    · simpa using h
    · decide
  unfold Utf8.encode
  simp only []
  generalize (if Utf8.valid (r : Int) = true then (r : Int).toNat else Utf8.runeError) = c at hc ⊢
  rw [if_neg (by omega)]
  repeat' split
  all_goals simp [ByteArray.size]
theorem size_list (b : ByteArray) : b.data.toList.length = b.size := Array.length_toList
theorem enc_le (r : Int) : (Utf8.encode r).size ≤ 4 := by
  unfold Utf8.encode
  simp only []
  repeat' split
  all_goals simp [ByteArray.size]
theorem named_big0 : ∀ n : Nat, n < 256 → 128 ≤ n → idxZ namesI (n : Int) = -1 := by decide +kernel
theorem named_big (c : UInt8) (h : 128 ≤ c.toNat) : namedZ c < 0 := by
  have := named_big0 c.toNat c.toNat_lt h
  unfold namedZ
  omega
theorem readSc_bad (l : List UInt8) (k : Nat) (hk : k < l.length) (h : namedZ l[k] < 0) : readSc l = none := by
  unfold readSc
  rw [if_neg]
  intro hs
  have := scale_in hs k (by simpa using hk)
  rw [List.getD_eq_getElem?_getD, List.getElem?_eq_getElem (by simpa using hk), Option.getD_some, List.getElem_map] at this
  omega
theorem readSc_long (l : List UInt8) (h : 13 ≤ l.length) : readSc l = none := by
  unfold readSc
  rw [if_neg]
  intro hs
  have := (scale_yes hs).1.2
  simp at this
  omega
theorem tn_one (c : UInt8) : tnZ [c] = if namedZ c < 0 then (0, false) else (namedZ c, true) := rfl
set_option maxHeartbeats 2000000 in
theorem impl_readscale (s : ByteArray) (w : World) (hs : s.size ≤ 4294967280) : Calls Try.prog 10 #[.string s] w (LBOut (readSc s.data.toList) w) := by
  obtain ⟨i0, hi, hz0, hz1, hz2⟩ := info_parts infoI64
  have hlen : s.data.toList.length = s.size := by simp
  have HBad := Bx.mk (readSc_bad s.data.toList)
  have HLong := Bx.mk (readSc_long s.data.toList)
  go_enter Try.func10, Try.ntmps10
  go_wp2_with (fail)
  go_loopw [4] (fun v wr => ∃ pos, pos ≤ s.size ∧ IterAt wr w.heap.size s pos ∧ wr.ownsRow (w.heap.size + 1) 2 1 v pos (ints ((s.data.toList.take pos).map namedZ)) ∧ Below w.heap.size w wr ∧ pos ≤ 12) (fun _ wr => s.size - wr.iterPos w.heap.size)
  case atStart =>
    refine ⟨0, Nat.zero_le _, ⟨World.iter_heap w s 0⟩, World.ownsRow_nil _ _ _ _, ?_, by omega⟩
    exact (Below.refl _ _).alloc (Nat.le_refl _) _
  case round =>
    obtain ⟨pos, hp, hit, hown, hbw, h12⟩ := hrel
    have hsz := hbw.size
    by_cases hlt : pos < s.size
    · have hnx : ∀ ty, (Instr.next (.pointer (some ⟨w.heap.size, 0, none⟩)) true ty).run Try.prog wr = _ := fun ty => Lib.run_next_any_at wr w.heap.size s pos ty hit.hp hlt
      have hit1 : IterAt (wr.iterAt w.heap.size s (pos + (Utf8.decode s pos).2)) w.heap.size s (pos + (Utf8.decode s pos).2) := ⟨Lib.iterAt_heap wr w.heap.size s pos _ hit.hp⟩
      have hown1 := own_iter hown (Nat.lt_succ_self w.heap.size) s (pos + (Utf8.decode s pos).2)
      have hbw1 := Lib.below_iterAt hbw (k := w.heap.size) (Nat.le_refl _) s (pos + (Utf8.decode s pos).2)
      have HP := Bx.mk hit
      clear hown
      by_cases hc : (s[pos]'hlt).toNat < 128
      · have hde : Utf8.decode s pos = ((s[pos]'hlt).toNat, 1) := decode_ascii s pos hlt hc
        have HEn := Bx.mk (enc_small (s[pos]'hlt) hc)
        have HS : Bx ((s.data.toList.take (pos + 1)).map namedZ = (s.data.toList.take pos).map namedZ ++ [namedZ s[pos]]) := Bx.mk (by
          rw [List.take_succ_eq_append_getElem (by simpa using hlt), List.map_append]; rfl)
        have HB0 : Bx (namedZ s[pos] < 0 → readSc s.data.toList = none) := Bx.mk (fun h => HBad.out pos (by omega) h)
        have hte : ∀ W, Calls Try.prog 19 #[.string (Utf8.encode ((s[pos]'hlt).toNat : Int))] W fun e w' => e = .returned (.tuple #[.int .i64 (if namedZ s[pos] < 0 then ((0 : Int), false) else (namedZ s[pos], true)).1, .bool (if namedZ s[pos] < 0 then ((0 : Int), false) else (namedZ s[pos], true)).2]) ∧ W = w' := fun W => by
          have := impl_tonenamed (Utf8.encode ((s[pos]'hlt).toNat : Int)) W (by have := enc_le ((s[pos]'hlt).toNat : Int); omega)
          rw [HEn.out] at this ⊢
          exact this
        have hc0 : (0 : Int) ≤ ((s[pos]'hlt).toNat : Int) := by omega
        rw [hde] at hnx hit1 hown1 hbw1
        simp only [] at hnx hit1 hown1 hbw1
        clear hc hde HEn
        generalize hz : namedZ s[pos] = z at *
        clear hz
        by_cases hz0' : z < 0
        · have HN := Bx.mk (HB0.out hz0')
          rw [if_pos hz0'] at hte
          clear HB0 hz0'
          go_wp2_with (fail)
          refine (hte _).mono ?_
          rintro e w4 ⟨rfl, rfl⟩
          go_wp2_with (fail)
          go_ret2
          exact lb_none HN.out hbw1
        · rw [if_neg hz0'] at hte
          clear HB0
          by_cases hp12 : pos = 12
          · have HN := Bx.mk (HLong.out (by omega))
            have e1 : ((pos : Int) == 12) = true := by subst hp12; rfl
            have hown2 := (IntsAt.own (zs := (s.data.toList.take pos).map namedZ) (by
              have hl : ((s.data.toList.take pos).map namedZ).length = pos := by simp; omega
              rw [hl]; exact hown1)).len
            have hl : ((s.data.toList.take pos).map namedZ).length = pos := by simp; omega
            rw [hl] at hown2
            obtain ⟨A, c, rfl⟩ := hown2
            clear hl hp12 hz0'
            go_wp2_with (fail)
            refine (hte _).mono ?_
            rintro e w4 ⟨rfl, rfl⟩
            go_wp2_with (fail)
            go_ret2
            exact lb_none HN.out hbw1
          · have e1 : ((pos : Int) == 12) = false := by simp; omega
            have hl : ((s.data.toList.take pos).map namedZ).length = pos := by simp; omega
            have hown2 := (IntsAt.own (zs := (s.data.toList.take pos).map namedZ) (by rw [hl]; exact hown1)).len
            rw [hl] at hown2
            obtain ⟨A, c, rfl⟩ := hown2
            have hsz1 := hbw1.size
            have hlt1 : w.heap.size + 1 ≤ (wr.iterAt w.heap.size s (pos + 1)).heap.size := hit1.lt
            have HIt := Bx.mk hit1
            have HBw := Bx.mk hbw1
            have H12 : Bx (pos + 1 ≤ 12) := Bx.mk (by omega)
            generalize hW : wr.iterAt w.heap.size s (pos + 1) = W2 at *
            clear hl hp12 hz0' hit1 hbw1
            go_wp2_with (fail)
            refine (hte _).mono ?_
            rintro e w4 ⟨rfl, rfl⟩
            go_wp2_with ((at_builtin; refine wpList_append_own _ rfl _ _ 24 rfl (w.heap.size + 1) 2 i0 (.int .i64 0) 1 8 Try.underlying24 hi hz0 hz1 hz2 rfl (by decide) _ _ _ rfl (hown1.alloc _) ⟨W2.heap.size, 0, none⟩ 1 1 [.int .i64 z] rfl rfl (cell_one_new _ _ _) (fun x hx => by simp at hx; subst hx; rfl) (by have := H12.out; unfold maxLen; omega) (by have := H12.out; omega) (by simp; omega) ?_; intro v' w6 hown' hgrow3 hnil3))
            have hown3 : w6.ownsRow (w.heap.size + 1) 2 1 v' (pos + 1) (ints ((s.data.toList.take (pos + 1)).map namedZ)) := by
              rw [HS.out, ints_snoc']; exact hown'
            have hit3 : IterAt w6 w.heap.size s (pos + 1) := (HIt.out.alloc _).grown hgrow3 (Ne.symm (own_far hown1 (Nat.lt_succ_self _)))
            have hb3 : Below w.heap.size w w6 := (HBw.out.alloc hsz1 _).grown hgrow3 (by simp; omega) (own_ge' (own_up (Nat.le_succ _) hown1))
            have E6 : Bx (w6.iterPos w.heap.size = pos + 1) := Bx.mk (by unfold World.iterPos; rw [hit3.hp])
            have ER : Bx (wr.iterPos w.heap.size = pos) := Bx.mk (by unfold World.iterPos; rw [HP.out.hp])
            clear hown' hgrow3 hnil3 hown1
            go_roundw
            case rel => exact ⟨pos + 1, by omega, hit3, hown3, hb3, H12.out⟩
            case measure => have := E6.out; have := ER.out; omega
      · have HN := Bx.mk (HBad.out pos (by omega) (named_big _ (by show 128 ≤ (s[pos]'hlt).toNat; omega)))
        have hbig := decode_big s pos hlt (by omega)
        have hte : ∀ W, Calls Try.prog 19 #[.string (Utf8.encode ((Utf8.decode s pos).1 : Int))] W fun e w' => e = .returned (.tuple #[.int .i64 0, .bool false]) ∧ W = w' := fun W => by
          have := impl_tonenamed (Utf8.encode ((Utf8.decode s pos).1 : Int)) W (by have := enc_le ((Utf8.decode s pos).1 : Int); omega)
          have hne := enc_big _ hbig
          rw [← size_list] at hne
          rw [tn_many _ hne] at this
          exact this
        clear hc hbig
        generalize Utf8.decode s pos = d at *
        go_wp2_with (fail)
        refine (hte _).mono ?_
        rintro e w4 ⟨rfl, rfl⟩
        go_wp2_with (fail)
        go_ret2
        exact lb_none HN.out hbw1
    · obtain rfl : pos = s.size := by omega
      have hnx : ∀ ty, (Instr.next (.pointer (some ⟨w.heap.size, 0, none⟩)) true ty).run Try.prog wr = _ := fun ty => Lib.run_next_end_at wr w.heap.size s s.size ty hit.hp hlt
      have HT : Bx (s.data.toList.take s.size = s.data.toList) := Bx.mk (List.take_of_length_le (by simp))
      rw [HT.out] at hown
      have hl : (s.data.toList.map namedZ).length = s.size := by simp
      have hsc := fun v W h => impl_scale v (s.data.toList.map namedZ) W h (by omega)
      have HO := Bx.mk (own_up (Nat.le_succ w.heap.size) hown)
      have hown2 := own_up (Nat.le_succ w.heap.size) hown
      rw [show s.size = (s.data.toList.map namedZ).length from hl.symm] at hown2
      have HY := Bx.mk (IntsAt.own hown2)
      have HF1 : Bx (scaleB (s.data.toList.map namedZ) = true → readSc s.data.toList = some (s.data.toList.map namedZ)) := Bx.mk (fun h => by unfold readSc; rw [if_pos h])
      have HF2 : Bx (scaleB (s.data.toList.map namedZ) = false → readSc s.data.toList = none) := Bx.mk (fun h => by unfold readSc; rw [if_neg (by rw [h]; decide)])
      have HL := Bx.mk hl
      have HO2 := Bx.mk hown2
      clear HT hown hown2 HBad HLong hlen HO hl
      generalize s.data.toList.map namedZ = vs at *
      cases h1 : scaleB vs
      · rw [h1] at hsc
        have HF := Bx.mk (HF2.out h1)
        clear h1 HF1 HF2
        go_wp2_with (fail)
        refine (hsc _ _ HY.out).mono ?_
        rintro e w' ⟨rfl, n, rfl⟩
        go_wp2_with (fail)
        go_ret2
        exact lb_none HF.out (below_draws hbw n)
      · rw [h1] at hsc
        have HF := Bx.mk (HF1.out h1)
        clear h1 HF1 HF2
        go_wp2_with (fail)
        refine (hsc _ _ HY.out).mono ?_
        rintro e w' ⟨rfl, n, rfl⟩
        go_wp2_with (fail)
        go_ret2
        exact lb_some HF.out HO2.out (below_draws hbw n)
end Go.Proofs.Ytljegggpgafkiaa
