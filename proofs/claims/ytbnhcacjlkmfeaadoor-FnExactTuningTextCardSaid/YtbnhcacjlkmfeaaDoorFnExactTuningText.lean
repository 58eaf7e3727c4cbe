/- 'laws.FnExactTuningText' returns true at every input: TuningText on both sides is one function. -/
import Derived.Test.YtbnhcacjlkmfeaaDoorTuP
import Derived.Test.YtbnhcacjlkmfeaaDoorRatRM
import Derived.Test.YtbnhcacjlkmfeaaDoorTuLaw
import Derived.Test.YtbnhcacjlkmfeaaDoorRatT
import Derived.Test.YtbnhcacjlkmfeaaDoorTuM
import Derived.Test.YtbnhcacjlkmfeaaDoorRatLc
import Derived.Test.YtbnhcacjlkmfeaaDoorSc3
import Derived.Deep.RegionWith
import Derived.Test.YtbnhcacjlkmfeaaDoorRatQ
import Derived.Test.YtbnhcacjlkmfeaaDoorShelf
import Derived.Lib.Join
namespace Go.Proofs.YtbnhcacjlkmfeaaDoor
open Go.ChangeShapes Go.WideShapes Go.ChangeAt Go.RowKit
set_option linter.unusedVariables false
set_option linter.unusedSimpArgs false
set_option maxRecDepth 100000

/-- the pieces with at most so many cuts -/
def cutN (c : UInt8) : Nat → List UInt8 → List (List UInt8)
  | 0, l => [l]
  | k + 1, l => if Lib.indexByte l c = -1 then [l] else l.take (Lib.indexByte l c).toNat :: cutN c k (l.drop ((Lib.indexByte l c).toNat + 1))
theorem cutN_none (c : UInt8) (k : Nat) (l : List UInt8) (h : Lib.indexByte l c = -1) : cutN c k l = [l] := by
  cases k with
  | zero => rfl
  | succ k => rw [cutN, if_pos h]
theorem cutN_hit (c : UInt8) (k : Nat) (l : List UInt8) (i : Nat) (h : Lib.indexByte l c = i) : cutN c (k + 1) l = l.take i :: cutN c k (l.drop (i + 1)) := by
  rw [cutN, if_neg (by omega), h, Int.toNat_natCast]
theorem cutN_len (c : UInt8) : ∀ (k : Nat) (l : List UInt8), 1 ≤ (cutN c k l).length ∧ (cutN c k l).length ≤ k + 1
  | 0, l => by simp [cutN]
  | k + 1, l => by
    rcases byte_cases l c with h | ⟨i, h⟩
    · rw [cutN_none c _ l h]; simp
    · rw [cutN_hit c k l i h]
      have := cutN_len c k (l.drop (i + 1))
      simp only [List.length_cons]; omega
/-- all pieces, or one too many of which the last one goes on -/
theorem cutN_ways (c : UInt8) : ∀ (k : Nat) (l : List UInt8), (cutN c k l = cutL c l ∧ (cutL c l).length ≤ k + 1) ∨ ((cutN c k l).length = k + 1 ∧ k + 1 < (cutL c l).length ∧ ∃ p ∈ cutN c k l, c ∈ p)
  | 0, l => by
    rcases byte_cases l c with h | ⟨i, h⟩
    · left; rw [cutN_none c _ l h, cut_index_no c l h]; simp
    · right
      refine ⟨rfl, ?_, l, by simp [cutN], List.mem_of_getElem? (Lib.indexByte_some h).1⟩
      rw [cut_index_at c l i h]
      have := cutl_length c (l.drop (i + 1))
      simp only [List.length_cons]; omega
  | k + 1, l => by
    rcases byte_cases l c with h | ⟨i, h⟩
    · left; rw [cutN_none c _ l h, cut_index_no c l h]; simp
    · rw [cutN_hit c k l i h, cut_index_at c l i h]
      rcases cutN_ways c k (l.drop (i + 1)) with ⟨h1, h2⟩ | ⟨h1, h2, p, hp, hm⟩
      · left; rw [h1]; simp only [List.length_cons]; exact ⟨trivial, by omega⟩
      · right; simp only [List.length_cons]
        exact ⟨by omega, by omega, p, List.mem_cons_of_mem _ hp, hm⟩
theorem split_cutN (c : UInt8) : ∀ (k : Nat) (s : ByteArray), (Lib.splitB ⟨#[c]⟩ 0 k s).map (·.data.toList) = cutN c k s.data.toList := by
  have hi : ∀ s : ByteArray, Lib.indexB s ⟨#[c]⟩ = Lib.indexByte s.data.toList c := fun s => Lib.index_one s.data.toList c
  intro k
  induction k with
  | zero => intro s; rfl
  | succ k ih =>
    intro s
    rcases byte_cases s.data.toList c with h | ⟨i, h⟩
    · rw [Lib.splitB_miss _ _ _ _ ((hi s).trans h), cutN_none c _ _ h]; rfl
    · have hb : Lib.indexB s ⟨#[c]⟩ = i := by rw [hi]; exact h
      rw [Lib.splitB_hit _ _ _ _ _ hb, List.map_cons, cutN_hit c k _ i h]
      have e1 : (⟨#[c]⟩ : ByteArray).size = 1 := rfl
      rw [e1, ih _, Lib.extract_to_end]
      congr 1
      simp
/-- pieces as ratios -/
def ratsL (ps : List (List UInt8)) : List (Int × Int) := ps.map fun p => ((readRE p).1, (readRE p).2.1)
def ratsOk (ps : List (List UInt8)) : Bool := ps.all fun p => (readRE p).2.2
theorem ratsL_len (ps : List (List UInt8)) : (ratsL ps).length = ps.length := by simp [ratsL]
def tuOf (nm : List UInt8) (ps : List (List UInt8)) : Option (List UInt8 × List (Int × Int)) := if (ratsOk ps && tunB nm (ratsL ps)) = true then some (nm, ratsL ps) else none
/-- the reading of a tuning -/
def readTu (l : List UInt8) : Option (List UInt8 × List (Int × Int)) := match cutL 32 l with
  | nm :: ps => tuOf nm ps
  | [] => none
theorem tuOf_bad {nm : List UInt8} {ps : List (List UInt8)} (h : ratsOk ps = false) : tuOf nm ps = none := by simp [tuOf, h]
theorem tuOf_len {nm : List UInt8} {ps : List (List UInt8)} (h : ps.length ≠ 12) : tuOf nm ps = none := by
  unfold tuOf
  rw [if_neg]
  intro hc
  rw [Bool.and_eq_true] at hc
  exact h (by have := (tun_yes hc.2).2.1; rwa [ratsL_len] at this)
theorem dec_no32 (u : Nat) : (32 : UInt8) ∉ Lib.decDigits u := fun h => by
  have := List.all_eq_true.1 (dec_digits u).1 _ h
  simp [isD] at this
theorem num_no32 {l : List UInt8} {v : Int} (h : numZ l = some v) : (32 : UInt8) ∉ l := by
  obtain ⟨rfl, _⟩ := num_some l v h
  intro hm
  by_cases hv : v < 0
  · rw [itoa_neg' v hv] at hm
    rcases List.mem_cons.1 hm with h | h
    · cases h
    · exact dec_no32 _ h
  · rw [itoa_pos' v (by omega)] at hm
    exact dec_no32 _ hm
theorem read_no32 {p : List UInt8} (h : (32 : UInt8) ∈ p) : (readRE p).2.2 = false := by
  unfold readRE pairE
  split
  · rename_i hc
    simp only [Bool.and_eq_true] at hc
    obtain ⟨h1, h2, h3⟩ := hc
    obtain ⟨a, ha⟩ := Option.isSome_iff_exists.1 h1
    obtain ⟨b, hb⟩ := Option.isSome_iff_exists.1 h2
    rcases byte_cases p 47 with h0 | ⟨i, hi⟩
    · unfold Lib.cut at hb
      rw [Lib.index_one, h0] at hb
      simp [num_nil] at hb
    · have hc : Lib.cut p [47] = (p.take i, p.drop (i + 1), true) := by
        unfold Lib.cut
        rw [Lib.index_one, hi, if_pos (by omega)]
        simp
      rw [hc] at ha hb
      have hg := (Lib.indexByte_some hi).1
      have e : p = p.take i ++ 47 :: p.drop (i + 1) := by
        obtain ⟨h1, h2⟩ := List.getElem?_eq_some_iff.1 hg
        rw [← h2, ← List.drop_eq_getElem_cons h1, List.take_append_drop]
      rw [e] at h
      rcases List.mem_append.1 h with h | h
      · exact absurd h (num_no32 ha)
      · rcases List.mem_cons.1 h with h | h
        · cases h
        · exact absurd h (num_no32 hb)
  · rfl
theorem readTu_cut (l : List UInt8) : readTu l = tuOf (Lib.cut l [32]).1 (cutN 32 12 (Lib.cut l [32]).2.1) := by
  unfold readTu
  rcases byte_cases l 32 with h | ⟨i, h⟩
  · have hc : Lib.cut l [32] = (l, [], false) := by
      unfold Lib.cut
      rw [Lib.index_one, h]
      rfl
    rw [cut_index_no 32 l h, hc]
    show tuOf l [] = tuOf l (cutN 32 12 [])
    rw [cutN_none 32 12 [] (by rfl), tuOf_len (by simp), tuOf_len (by simp)]
  · have hc : Lib.cut l [32] = (l.take i, l.drop (i + 1), true) := by
      unfold Lib.cut
      rw [Lib.index_one, h, if_pos (by omega)]
      simp
    rw [hc, cut_index_at 32 l i h]
    show tuOf (l.take i) (cutL 32 (l.drop (i + 1))) = tuOf (l.take i) (cutN 32 12 (l.drop (i + 1)))
    rcases cutN_ways 32 12 (l.drop (i + 1)) with ⟨h1, h2⟩ | ⟨h1, h2, p, hp, hm⟩
    · simp only [h1]
    · rw [tuOf_len (by omega), tuOf_bad]
      unfold ratsOk
      apply Bool.eq_false_iff.2
      intro ha
      have := List.all_eq_true.1 ha p hp
      rw [read_no32 hm] at this
      cases this
/-- a tuning as text -/
def ratsT (l : List (Int × Int)) : List UInt8 := (l.map fun p => 32 :: ratT p.1 p.2).flatten
def tunT (s : List UInt8) (l : List (Int × Int)) : List UInt8 := s ++ ratsT l
def tunTE (s : List UInt8) (l : List (Int × Int)) : List UInt8 := if tunB s l = true then tunT s l else []
theorem ratsT_snoc (l : List (Int × Int)) (p : Int × Int) : ratsT (l ++ [p]) = ratsT l ++ 32 :: ratT p.1 p.2 := by simp [ratsT]
end Go.Proofs.YtbnhcacjlkmfeaaDoor

namespace Go.Proofs.YtbnhcacjlkmfeaaDoor
open Go.ChangeShapes Go.WideShapes Go.ChangeAt Go.RowKit
set_option linter.unusedVariables false
set_option linter.unusedSimpArgs false
set_option maxRecDepth 100000

theorem keepX {h : Nat} {w W W' : World} {n d : Value} (hh : W.cell? ⟨h, 0, none⟩ = some n ∧ W.cell? ⟨h, 1, none⟩ = some d ∧ h < W.heap.size ∧ Below w.heap.size w W) (hb : Below W.heap.size W W') :
    W'.cell? ⟨h, 0, none⟩ = some n ∧ W'.cell? ⟨h, 1, none⟩ = some d ∧ h < W'.heap.size ∧ Below w.heap.size w W' := by
  obtain ⟨h3, h4, h5, h6⟩ := hh
  have hs := hb.size
  exact ⟨(hb.cell (p := ⟨h, 0, none⟩) (by show h < _; omega)).trans h3, (hb.cell (p := ⟨h, 1, none⟩) (by show h < _; omega)).trans h4, by omega, h6.trans (hb.mono h6.size)⟩
theorem belX {q W : World} {a b c : Prop} (h : a ∧ b ∧ c ∧ Below q.heap.size q W) : Below q.heap.size q W := h.2.2.2
theorem strs_app (a b : List UInt8) : (⟨a.toArray⟩ : ByteArray) ++ ⟨b.toArray⟩ = ⟨(a ++ b).toArray⟩ := by
  apply ByteArray.ext
  simp
theorem str_self (s : ByteArray) : s = ⟨s.data.toList.toArray⟩ := by cases s; simp
theorem ratsT_take (l : List (Int × Int)) (k : Nat) (h : k < l.length) : ratsT (l.take (k + 1)) = ratsT (l.take k) ++ (32 :: ratT (pat l k).1 (pat l k).2) := by
  rw [List.take_succ_eq_append_getElem h, ratsT_snoc, pat_get h]
theorem ratT_len {n d : Int} (h : okR n d = true) : (ratT n d).length ≤ 64 := by
  obtain ⟨a, b, _⟩ := okR_yes h
  have L1 := Lib.itoa_length_le n (by omega) (by omega)
  have L2 := Lib.itoa_length_le d (by omega) (by omega)
  unfold ratT
  simp only [List.length_append, List.length_singleton]
  omega
theorem ratsT_len (l : List (Int × Int)) (h : ∀ i, i < l.length → okR (pat l i).1 (pat l i).2 = true) : ∀ k, k ≤ l.length → (ratsT (l.take k)).length ≤ 65 * k := by
  intro k
  induction k with
  | zero => intro _; simp [ratsT]
  | succ k ih =>
    intro hk
    have h1 := ih (by omega)
    have h2 := ratT_len (h k (by omega))
    rw [ratsT_take l k (by omega)]
    simp only [List.length_append, List.length_cons]
    omega
theorem nm_len {s : List UInt8} (h : nmB s = true) : s.length ≤ 10 := by
  rcases Nat.lt_or_ge 10 s.length with h1 | h1
  · have := nm_long ⟨s.toArray⟩ (by show 10 < s.toArray.size; simpa using h1)
    simp at this
    rw [h] at this; cases this
  · exact h1
set_option maxHeartbeats 2000000 in
theorem spec_l04text (g : Nat) (s : ByteArray) (v : Value) (l : List (Int × Int)) (w : World) (h0 : w.cell? ⟨g, 0, none⟩ = some (.string s)) (h1 : w.cell? ⟨g, 1, none⟩ = some v) (h : PrsAt w v l) (ht : tunB s.data.toList l = true) :
    Calls Tryd.prog 47 #[.pointer (some ⟨g, 0, none⟩)] w fun e w' => e = .returned (.string ⟨(tunT s.data.toList l).toArray⟩) ∧ Below w.heap.size w w' := by
  obtain ⟨hn, hl, hok, _⟩ := tun_yes ht
  obtain ⟨b, o, c, rfl, hbl, hc⟩ := prs_slice h (by omega)
  rw [hl] at h1 hc
  have HC := Bx.mk hc
  have HR := Bx.mk (fun k (hk : k < 12) => (okTi_yes (hok k hk)).1)
  have HLn := Bx.mk (fun k (hk : k ≤ 12) => ratsT_len l (fun i hi => (okTi_yes (hok i (by omega))).1) k (by omega))
  have HL2 := Bx.mk (nm_len hn)
  have HL := Bx.mk hl
  have HE : Bx (tunT s.data.toList l = s.data.toList ++ ratsT (l.take 12)) := Bx.mk (by unfold tunT; rw [List.take_of_length_le (by omega)])
  have hgl : g < w.heap.size := by
    rcases Nat.lt_or_ge g w.heap.size with h2 | h2
    · exact h2
    · simp [World.cell?, Array.getElem?_eq_none h2] at h0
  rw [HE.out]
  rw [str_self s] at h0
  generalize s.data.toList = u at *
  clear h hc hok ht hn hl HE
  go_enter Tryd.func47, Tryd.ntmps47
  go_wp2_with (fail)
  go_loopw [3, 4] (fun x i wr => ∃ k : Nat, k ≤ 12 ∧ i = .int .i64 k ∧ x = .string ⟨(u ++ ratsT (l.take k)).toArray⟩ ∧ Bx (Below w.heap.size w wr)) (fun _ i _ => 12 - (intOf i).toNat)
  case atStart => exact ⟨0, by omega, rfl, by simp [ratsT], Bx.mk (Below.refl _ _)⟩
  case round =>
    obtain ⟨k, hk, rfl, rfl, HB⟩ := hrel
    have k10 := (HB.out.cell (p := ⟨g, 0, none⟩) hgl).trans h0
    have k11 := (HB.out.cell (p := ⟨g, 1, none⟩) hgl).trans h1
    have kgl : g < wr.heap.size := Nat.lt_of_lt_of_le hgl HB.out.size
    by_cases hlt : k < 12
    · have c0 := (HC.out k hlt).1
      have c1 := (HC.out k hlt).2
      obtain ⟨bn, bd⟩ := okR_box (HR.out k hlt)
      have HS : Bx (ratsT (l.take (k + 1)) = ratsT (l.take k) ++ (32 :: ratT (pat l k).1 (pat l k).2)) := Bx.mk (ratsT_take l k (by have := HL.out; omega))
      have l1 := HLn.out k hk
      have l2 := ratT_len (HR.out k hlt)
      have l3 := HL2.out
      generalize (pat l k).1 = p1 at *
      generalize (pat l k).2 = p2 at *
      have hrt := fun W a0 a1 a2 => spec_rtext b (o + k * 2) p1 p2 W a0 a1 a2 bn bd
      generalize hV : ratsT (l.take k) = V at *
      generalize ratT p1 p2 = T at *
      have k0 : (0 : Int) ≤ (k : Int) := by omega
      have k1 : (k : Int) < 12 := by omega
      have SS0 : Bx (wr.cell? ⟨g, 0, none⟩ = some (.string ⟨u.toArray⟩) ∧ wr.cell? ⟨g, 1, none⟩ = some (.slice (some ⟨b, o, none⟩) 12 c) ∧ g < wr.heap.size ∧ Below w.heap.size w wr) := Bx.mk ⟨k10, k11, kgl, HB.out⟩
      have e1 : (9223372036854775807 < T.length + 1) = False := eq_false (by omega)
      have e2 : (9223372036854775807 < 1 + T.length) = False := eq_false (by omega)
      have e3 : (9223372036854775807 < (u ++ V).length + (T.length + 1)) = False := eq_false (by simp; omega)
      have e4 : (9223372036854775807 < u.length + V.length + (T.length + 1)) = False := eq_false (by omega)
      have e5 : (9223372036854775807 < u.length + V.length + (1 + T.length)) = False := eq_false (by omega)
      clear HR HLn HL2 l1 l2 l3 SS0
      go_wp2_with (fail)
      refine (hrt _ ((HB.out.cell (p := ⟨b, o + k * 2, none⟩) hbl).trans c0) ((HB.out.cell (p := ⟨b, o + k * 2 + 1, none⟩) hbl).trans c1) (Nat.lt_of_lt_of_le hbl HB.out.size)).mono ?_
      rintro e w2 ⟨rfl, hb2⟩
      have B2 : Bx (Below w.heap.size w w2) := Bx.mk (HB.out.trans (hb2.mono HB.out.size))
      clear hb2 HB k10 k11 kgl hrt
      go_wp2_with (fail)
      go_roundw
      case rel => exact ⟨k + 1, by omega, by go_num, by rw [HS.out]; rw [show (⟨#[32]⟩ : ByteArray) = ⟨[32].toArray⟩ from rfl, strs_app, strs_app, List.append_assoc]; rfl, B2⟩
      case measure => simp [intOf]; omega
    · obtain rfl : k = 12 := by omega
      go_wp2_with (fail)
      go_ret
      exact ⟨rfl, HB.out⟩
set_option maxHeartbeats 1000000 in
theorem spec_tuningtext (s : ByteArray) (v : Value) (l : List (Int × Int)) (w : World) (h : PrsAt w v l) (hs : s.size ≤ maxLen) (hm : l.length ≤ 281474976710656) :
    Calls Tryd.prog 24 #[tun s v] w fun e w' => e = .returned (.string ⟨(tunTE s.data.toList l).toArray⟩) ∧ Below w.heap.size w w' := by
  have hk := fun g W a0 a1 hW => spec_tok g s v l W a0 a1 hW hs hm
  have HI := Bx.mk h
  unfold tun
  cases ht : tunB s.data.toList l
  · have HE : Bx (tunTE s.data.toList l = []) := Bx.mk (by simp [tunTE, ht])
    rw [ht] at hk
    clear ht h hs hm
    go_enter Tryd.func24, Tryd.ntmps24
    go_wp2_with (fail)
    refine (hk _ _ (by go_simp) (by go_simp) (HI.out.below ((Below.refl _ _).alloc (Nat.le_refl _) _))).mono ?_
    rintro e w' ⟨rfl, k, rfl⟩
    go_wp2_with (fail)
    go_ret
    exact ⟨ret_str HE.out.symm, below_draws ((Below.refl _ _).alloc (Nat.le_refl _) _) _⟩
  · have HE : Bx (tunTE s.data.toList l = tunT s.data.toList l) := Bx.mk (by simp [tunTE, ht])
    have htx := fun g W a0 a1 hW => spec_l04text g s v l W a0 a1 hW ht
    rw [ht] at hk
    generalize tunT s.data.toList l = T at *
    clear ht h hs hm
    go_enter Tryd.func24, Tryd.ntmps24
    go_wp2_with (fail)
    refine (hk _ _ (by go_simp) (by go_simp) (HI.out.below ((Below.refl _ _).alloc (Nat.le_refl _) _))).mono ?_
    rintro e w' ⟨rfl, k, rfl⟩
    go_wp2_with (fail)
    refine (htx _ _ (by go_simp) (by go_simp) ((HI.out.below ((Below.refl _ _).alloc (Nat.le_refl _) _)).draws k)).mono ?_
    rintro e w1 ⟨rfl, hb1⟩
    go_wp2_with (fail)
    go_ret
    exact ⟨ret_str HE.out.symm, (below_draws ((Below.refl _ _).alloc (Nat.le_refl _) _) k).trans (hb1.mono (by go_size))⟩
end Go.Proofs.YtbnhcacjlkmfeaaDoor

namespace Go.Proofs.YtbnhcacjlkmfeaaDoor
open Go.ChangeShapes Go.WideShapes Go.ChangeAt Go.RowKit
set_option linter.unusedVariables false
set_option linter.unusedSimpArgs false
set_option maxRecDepth 100000

theorem keepG {g b o1 o2 o3 o4 : Nat} {w W W' : World} {x y p1 p2 q1 q2 : Value} (h : W.cell? ⟨g, 0, none⟩ = some x ∧ W.cell? ⟨g, 1, none⟩ = some y ∧ W.cell? ⟨b, o1, none⟩ = some p1 ∧ W.cell? ⟨b, o2, none⟩ = some p2 ∧ W.cell? ⟨b, o3, none⟩ = some q1 ∧ W.cell? ⟨b, o4, none⟩ = some q2 ∧ g < W.heap.size ∧ b < W.heap.size ∧ Below w.heap.size w W) (hb : Below W.heap.size W W') :
    W'.cell? ⟨g, 0, none⟩ = some x ∧ W'.cell? ⟨g, 1, none⟩ = some y ∧ W'.cell? ⟨b, o1, none⟩ = some p1 ∧ W'.cell? ⟨b, o2, none⟩ = some p2 ∧ W'.cell? ⟨b, o3, none⟩ = some q1 ∧ W'.cell? ⟨b, o4, none⟩ = some q2 ∧ g < W'.heap.size ∧ b < W'.heap.size ∧ Below w.heap.size w W' := by
  obtain ⟨h1, h2, h3, h4, h5, h6, h7, h8, h9⟩ := h
  have hs := hb.size
  exact ⟨(hb.cell (p := ⟨g, 0, none⟩) h7).trans h1, (hb.cell (p := ⟨g, 1, none⟩) h7).trans h2, (hb.cell (p := ⟨b, o1, none⟩) h8).trans h3, (hb.cell (p := ⟨b, o2, none⟩) h8).trans h4, (hb.cell (p := ⟨b, o3, none⟩) h8).trans h5, (hb.cell (p := ⟨b, o4, none⟩) h8).trans h6, by omega, by omega, h9.trans (hb.mono h9.size)⟩
set_option maxHeartbeats 4000000 in
theorem impl_validtuning (s : ByteArray) (v : Value) (l : List (Int × Int)) (w : World) (h : PrsAt w v l) (hs : s.size ≤ maxLen) (hm : l.length ≤ 281474976710656) :
    Calls Tryd.prog 34 #[tun s v] w fun e w' => e = .returned (.bool (tunB s.data.toList l)) ∧ Below w.heap.size w w' := by
  have hnm := fun W => impl_name s W hs
  have HI := Bx.mk h
  unfold tun
  cases hn : nmB s.data.toList
  · have HE : Bx (tunB s.data.toList l = false) := Bx.mk (by simp [tunB, hn])
    rw [hn] at hnm
    obtain ⟨A, c, rfl⟩ := prs_len h
    clear hn h hs
    go_enter Tryd.func34, Tryd.ntmps34
    go_wp2_with (fail)
    refine (hnm _).mono ?_
    rintro e w' ⟨rfl, rfl⟩
    go_wp2_with (fail)
    go_ret
    exact ⟨ret_bool HE.out.symm, (Below.refl _ _).alloc (Nat.le_refl _) _⟩
  · rw [hn] at hnm
    by_cases hl : l.length = 12
    · obtain ⟨b, o, c, rfl, hb, hc⟩ := prs_slice h (by omega)
      rw [hl] at hc ⊢
      have h00 := (hc 0 (by omega)).1
      have h01 := (hc 0 (by omega)).2
      rw [Nat.zero_mul, Nat.add_zero] at h00 h01
      have hnb : (w.heap.size == b) = false := by simp; omega
      by_cases h0 : (pat l 0).1 = 1 ∧ (pat l 0).2 = 1
      · have HM := Bx.mk (fun hcc h11 => tun_mk (s := s.data.toList) hn hl h0 hcc h11)
        have HN := Bx.mk (fun i hi h => tun_bad (s := s.data.toList) (l := l) (i := i) hi h)
        have HL := Bx.mk (fun h => tun_bad11 (s := s.data.toList) (l := l) h)
        have HC := Bx.mk hc
        rw [h0.1] at h00
        rw [h0.2] at h01
        generalize hres : tunB s.data.toList l = res at *
        clear h hn hc hm hs h0 hres
        go_enter Tryd.func34, Tryd.ntmps34
        go_wp2_with (fail)
        refine (hnm _).mono ?_
        rintro e w' ⟨rfl, rfl⟩
        go_wp2_with (fail)
        go_loopw [25] (fun i wr => ∃ k : Nat, k ≤ 11 ∧ i = .int .i64 k ∧ Bx (∀ i, i < k → (cmpE (pat l i).1 (pat l i).2 (pat l (i + 1)).1 (pat l (i + 1)).2).1 = -1) ∧ Bx (wr.cell? ⟨w.heap.size, 0, none⟩ = some (.string s) ∧ wr.cell? ⟨w.heap.size, 1, none⟩ = some (.slice (some ⟨b, o, none⟩) 12 c) ∧ w.heap.size < wr.heap.size) ∧ Bx (Below w.heap.size w wr)) (fun i _ => 11 - (intOf i).toNat)
        case atStart => exact ⟨0, by omega, rfl, Bx.mk (fun i hi => by omega), Bx.mk ⟨(BoxAt.at _ _ _ _ _ rfl).c0, (BoxAt.at _ _ _ _ _ rfl).c1, (BoxAt.at _ _ _ _ _ rfl).lt⟩, Bx.mk ((Below.refl _ _).alloc (Nat.le_refl _) _)⟩
        case round =>
          obtain ⟨k, hk, rfl, HK, K1, B1⟩ := hrel
          obtain ⟨k10, k11, k1l⟩ := K1.out
          have hbr : b < wr.heap.size := Nat.lt_of_lt_of_le hb B1.out.size
          clear h00 h01 hnm hnb
          by_cases hlt : k < 11
          · have c0 := (B1.out.cell (p := ⟨b, o + k * 2, none⟩) hb).trans (HC.out k (by omega)).1
            have c1 := (B1.out.cell (p := ⟨b, o + k * 2 + 1, none⟩) hb).trans (HC.out k (by omega)).2
            have d0 := (B1.out.cell (p := ⟨b, o + (k + 1) * 2, none⟩) hb).trans (HC.out (k + 1) (by omega)).1
            have d1 := (B1.out.cell (p := ⟨b, o + (k + 1) * 2 + 1, none⟩) hb).trans (HC.out (k + 1) (by omega)).2
            have HS : Bx ((cmpE (pat l k).1 (pat l k).2 (pat l (k + 1)).1 (pat l (k + 1)).2).1 = -1 → ∀ i, i < k + 1 → (cmpE (pat l i).1 (pat l i).2 (pat l (i + 1)).1 (pat l (i + 1)).2).1 = -1) := Bx.mk (fun h i hi => by
              rcases Nat.lt_or_ge i k with h2 | h2
              · exact HK.out i h2
              · rw [show i = k by omega]; exact h)
            have HN1 := Bx.mk (HN.out k hlt)
            have k0 : (0 : Int) ≤ (k : Int) := by omega
            have k2 : (0 : Int) ≤ (k : Int) + 1 := by omega
            have k3 : (k : Int) < 12 := by omega
            have k4 : ((k : Int) + 1).toNat = k + 1 := by omega
            have k5 : (k : Int) + 1 < 12 := by omega
            have k6 : (k : Int) < 11 := by omega
            have E1 : IntKind.i64.wrap ((k : Int) + 1) = (k : Int) + 1 := IntWalk.i64_in _ (by omega)
            have hcm := fun W => two_open (impl_compare (pat l k).1 (pat l k).2 (pat l (k + 1)).1 (pat l (k + 1)).2) W
            simp only [rat] at hcm
            generalize cmpE (pat l k).1 (pat l k).2 (pat l (k + 1)).1 (pat l (k + 1)).2 = z at *
            generalize (pat l k).1 = p1 at *
            generalize (pat l k).2 = p2 at *
            generalize (pat l (k + 1)).1 = q1 at *
            generalize (pat l (k + 1)).2 = q2 at *
            obtain ⟨z1, z2⟩ := z
            dsimp only at hcm HS HN1
            clear HM HN HL HK
            have HS0 : Bx (wr.cell? ⟨w.heap.size, 0, none⟩ = some (.string s) ∧ wr.cell? ⟨w.heap.size, 1, none⟩ = some (.slice (some ⟨b, o, none⟩) 12 c) ∧ wr.cell? ⟨b, o + k * 2, none⟩ = some (.int .i64 p1) ∧ wr.cell? ⟨b, o + k * 2 + 1, none⟩ = some (.int .i64 p2) ∧ wr.cell? ⟨b, o + (k + 1) * 2, none⟩ = some (.int .i64 q1) ∧ wr.cell? ⟨b, o + (k + 1) * 2 + 1, none⟩ = some (.int .i64 q2) ∧ w.heap.size < wr.heap.size ∧ b < wr.heap.size ∧ Below w.heap.size w wr) := Bx.mk ⟨k10, k11, c0, c1, d0, d1, k1l, hbr, B1.out⟩
            by_cases hz : z1 = -1
            · subst hz
              have HE := Bx.mk (HS.out rfl)
              clear HS HN1
              go_wp2_with (fail)
              go_region_held3 (fun W => W.cell? ⟨w.heap.size, 0, none⟩ = some (.string s) ∧ W.cell? ⟨w.heap.size, 1, none⟩ = some (.slice (some ⟨b, o, none⟩) 12 c) ∧ W.cell? ⟨b, o + k * 2, none⟩ = some (.int .i64 p1) ∧ W.cell? ⟨b, o + k * 2 + 1, none⟩ = some (.int .i64 p2) ∧ W.cell? ⟨b, o + (k + 1) * 2, none⟩ = some (.int .i64 q1) ∧ W.cell? ⟨b, o + (k + 1) * 2 + 1, none⟩ = some (.int .i64 q2) ∧ w.heap.size < W.heap.size ∧ b < W.heap.size ∧ Below w.heap.size w W)
                (first | (with_reducible exact keepG (by assumption) hb4) | (with_reducible exact keepG (by assumption) (Below.refl _ _).drew) | exact keepG HS0.out (Below.refl _ _).drew)
                ((go_at_call 64; (with_reducible refine (hcm _).mono ?_); rintro r w4 ⟨rfl, hb4⟩; have hS0 := keepG (w := w) (by assumption) hb4))
              all_goals
                have SS : _ ∧ _ ∧ _ ∧ _ ∧ _ ∧ _ ∧ _ ∧ _ ∧ _ := (by assumption)
                have SB := Bx.mk SS
                clear SS
                go_wp2_with (fail)
                go_roundw
                case rel => exact ⟨k + 1, by omega, by go_num, HE, Bx.mk ⟨SB.out.1, SB.out.2.1, SB.out.2.2.2.2.2.2.1⟩, Bx.mk SB.out.2.2.2.2.2.2.2.2⟩
                case measure => simp [intOf]; omega
            · have HE := Bx.mk (HN1.out hz)
              have hz1 : (z1 != -1) = true := by simpa using hz
              clear HS HN1
              go_wp2_with (fail)
              go_region_held3 (fun W => W.cell? ⟨w.heap.size, 0, none⟩ = some (.string s) ∧ W.cell? ⟨w.heap.size, 1, none⟩ = some (.slice (some ⟨b, o, none⟩) 12 c) ∧ W.cell? ⟨b, o + k * 2, none⟩ = some (.int .i64 p1) ∧ W.cell? ⟨b, o + k * 2 + 1, none⟩ = some (.int .i64 p2) ∧ W.cell? ⟨b, o + (k + 1) * 2, none⟩ = some (.int .i64 q1) ∧ W.cell? ⟨b, o + (k + 1) * 2 + 1, none⟩ = some (.int .i64 q2) ∧ w.heap.size < W.heap.size ∧ b < W.heap.size ∧ Below w.heap.size w W)
                (first | (with_reducible exact keepG (by assumption) hb4) | (with_reducible exact keepG (by assumption) (Below.refl _ _).drew) | exact keepG HS0.out (Below.refl _ _).drew)
                ((go_at_call 64; (with_reducible refine (hcm _).mono ?_); rintro r w4 ⟨rfl, hb4⟩; have hS0 := keepG (w := w) (by assumption) hb4))
              all_goals
                have SS : _ ∧ _ ∧ _ ∧ _ ∧ _ ∧ _ ∧ _ ∧ _ ∧ _ := (by assumption)
                have SB := Bx.mk SS
                clear SS
                go_wp2_with (fail)
                go_ret
                exact ⟨ret_bool HE.out.symm, SB.out.2.2.2.2.2.2.2.2⟩
          · obtain rfl : k = 11 := by omega
            have c0 := (B1.out.cell (p := ⟨b, o + 11 * 2, none⟩) hb).trans (HC.out 11 (by omega)).1
            have c1 := (B1.out.cell (p := ⟨b, o + 11 * 2 + 1, none⟩) hb).trans (HC.out 11 (by omega)).2
            have HM1 := Bx.mk (HM.out HK.out)
            have ok := (cmpE_lt (HK.out 10 (by omega))).2.1
            obtain ⟨⟨n1, n2⟩, ⟨d1, d2⟩, _⟩ := okR_yes ok
            simp only [Nat.reduceAdd] at n1 n2 d1 d2
            generalize (pat l 11).1 = p1 at *
            generalize (pat l 11).2 = p2 at *
            have E1 : IntKind.i64.wrap (2 * p2) = 2 * p2 := IntWalk.i64_in _ (by omega)
            clear HM HN HK ok K1 hlt hk
            have hc0 : wr.cell? ⟨b, o + 22, none⟩ = some (.int .i64 p1) := c0
            have hc1 : wr.cell? ⟨b, o + 22 + 1, none⟩ = some (.int .i64 p2) := c1
            by_cases hp : p1 < 2 * p2
            · have x1 : decide (p1 < 2 * p2) = true := decide_eq_true hp
              have HE := Bx.mk (HM1.out hp)
              clear HM1 HL hp
              go_wp2_with (fail)
              go_ret
              exact ⟨ret_bool HE.out.symm, B1.out.alloc B1.out.size _⟩
            · have x1 : decide (p1 < 2 * p2) = false := decide_eq_false hp
              have HE := Bx.mk (HL.out (by omega))
              clear HM1 HL hp
              go_wp2_with (fail)
              go_ret
              exact ⟨ret_bool HE.out.symm, B1.out.alloc B1.out.size _⟩
      · have HE : Bx (tunB s.data.toList l = false) := Bx.mk (tun_bad0 h0)
        generalize tunB s.data.toList l = res at *
        by_cases hx : (pat l 0).1 = 1
        · have hy : ((pat l 0).2 == 1) = false := by simp; exact fun h => h0 ⟨hx, h⟩
          rw [hx] at h00
          generalize (pat l 0).2 = y at *
          clear h hn hc hm hs h0 hx
          go_enter Tryd.func34, Tryd.ntmps34
          go_wp2_with (fail)
          refine (hnm _).mono ?_
          rintro e w' ⟨rfl, rfl⟩
          go_wp2_with (fail)
          go_ret
          exact ⟨ret_bool HE.out.symm, (Below.refl _ _).alloc (Nat.le_refl _) _⟩
        · have hy : ((pat l 0).1 == 1) = false := by simpa using hx
          generalize (pat l 0).1 = x at *
          generalize (pat l 0).2 = y at *
          clear h hn hc hm hs h0 hx
          go_enter Tryd.func34, Tryd.ntmps34
          go_wp2_with (fail)
          refine (hnm _).mono ?_
          rintro e w' ⟨rfl, rfl⟩
          go_wp2_with (fail)
          go_ret
          exact ⟨ret_bool HE.out.symm, (Below.refl _ _).alloc (Nat.le_refl _) _⟩
    · have HE : Bx (tunB s.data.toList l = false) := Bx.mk (by simp [tunB, hl])
      obtain ⟨A, c, rfl⟩ := prs_len h
      have hne : ((l.length : Int) != 12) = true := by simp; omega
      clear hn h hs
      go_enter Tryd.func34, Tryd.ntmps34
      go_wp2_with (fail)
      refine (hnm _).mono ?_
      rintro e w' ⟨rfl, rfl⟩
      go_wp2_with (fail)
      go_ret
      exact ⟨ret_bool HE.out.symm, (Below.refl _ _).alloc (Nat.le_refl _) _⟩
end Go.Proofs.YtbnhcacjlkmfeaaDoor

namespace Go.Proofs.YtbnhcacjlkmfeaaDoor
open Go.ChangeShapes Go.WideShapes Go.ChangeAt Go.RowKit
set_option linter.unusedVariables false
set_option linter.unusedSimpArgs false
set_option maxRecDepth 100000

theorem impl_toneof (p : Int) (w : World) : Calls Tryd.prog 93 #[.int .i64 p] w fun e w' => e = .returned (.int .i64 (p % 12)) ∧ w = w' := by
  obtain ⟨t1, t2, t3⟩ := tmod12 p
  have H := Bx.mk t3
  clear t3
  go_enter Tryd.func93, Tryd.ntmps93
  go_wp2
  go_ret
  exact ⟨ret_int H.out, rfl⟩
theorem impl_octave (p : Int) (w : World) (hp : -12 ≤ p ∧ p ≤ 23) : Calls Tryd.prog 65 #[.int .i64 p] w fun e w' => e = .returned (.int .i64 (p / 12)) ∧ w = w' := by
  have ht := fun W => impl_toneof p W
  have HR : Bx (wrap64 ((wrap64 (p - p % 12)).tdiv 12) = p / 12) := Bx.mk (by
    rw [IntWalk.wrap64_in (p - p % 12) (by omega)]
    have e : p - p % 12 = 12 * (p / 12) := by omega
    rw [e, Int.mul_tdiv_cancel_left _ (by decide), IntWalk.wrap64_in _ (by omega)])
  have HR2 : Bx ((p - p % 12).tdiv 12 = p / 12) := Bx.mk (by
    have e : p - p % 12 = 12 * (p / 12) := by omega
    rw [e, Int.mul_tdiv_cancel_left _ (by decide)])
  obtain ⟨p1, p2⟩ := hp
  obtain ⟨t1, t2⟩ := tone_rng p
  go_enter Tryd.func65, Tryd.ntmps65
  go_wp2_with (fail)
  refine (ht _).mono ?_
  rintro e w' ⟨rfl, rfl⟩
  go_wp2_with (fail)
  go_ret
  exact ⟨ret_int (by first | exact HR.out | exact HR2.out), rfl⟩
theorem impl_ispitch (x : Int) (w : World) :
    Calls Tryd.prog 35 #[.int .i64 x] w fun e w' => e = .returned (.bool (inB x (-12) 23)) ∧ w = w' := by
  cases hb : inB x (-12) 23
  · have h := inB_no hb
    clear hb
    by_cases h1 : -12 ≤ x
    · have h2 : ¬ x ≤ 23 := by omega
      clear h
      go_enter Tryd.func35, Tryd.ntmps35
      go_wp2
      go_ret
      exact ⟨rfl, rfl⟩
    · clear h
      go_enter Tryd.func35, Tryd.ntmps35
      go_wp2
      go_ret
      exact ⟨rfl, rfl⟩
  · obtain ⟨h1, h2⟩ := inB_yes hb
    clear hb
    go_enter Tryd.func35, Tryd.ntmps35
    go_wp2
    go_ret
    exact ⟨rfl, rfl⟩
end Go.Proofs.YtbnhcacjlkmfeaaDoor

namespace Go.Proofs.YtbnhcacjlkmfeaaDoor
open Go.ChangeShapes Go.WideShapes Go.ChangeAt Go.RowKit
set_option linter.unusedVariables false
set_option linter.unusedSimpArgs false
set_option maxRecDepth 100000

set_option maxHeartbeats 1000000 in
theorem impl_ratioof (s : ByteArray) (v : Value) (l : List (Int × Int)) (p : Int) (w : World) (h : PrsAt w v l) (hl : l.length = 12) :
    Calls Tryd.prog 66 #[tun s v, .int .i64 p] w fun e w' => e = .returned (rat (pat l (p % 12).toNat).1 (pat l (p % 12).toNat).2) ∧ Below w.heap.size w w' := by
  obtain ⟨b, o, c, rfl, hb, hc⟩ := prs_slice h (by omega)
  rw [hl] at hc ⊢
  have hto := fun W => impl_toneof p W
  obtain ⟨j, hj⟩ : ∃ j : Nat, p % 12 = (j : Int) := ⟨(p % 12).toNat, by omega⟩
  have hj2 : j < 12 := by omega
  rw [hj] at hto ⊢
  rw [Int.toNat_natCast]
  have c0 := (hc j hj2).1
  have c1 := (hc j hj2).2
  generalize (pat l j).1 = n at *
  generalize (pat l j).2 = d at *
  have hnb : (w.heap.size == b) = false := by simp; omega
  have j1 : (0 : Int) ≤ (j : Int) := by omega
  have j2 : (j : Int) < 12 := by omega
  unfold tun
  clear h hc hl hj
  go_enter Tryd.func66, Tryd.ntmps66
  go_wp2_with (fail)
  go_region_with ((go_at_call 93; (with_reducible refine (hto _).mono ?_); rintro r w6 ⟨rfl, rfl⟩))
  all_goals
    go_wp2_with (fail)
    have P1 := BoxAt.drew1 (BoxAt.at (w.alloc (.cells #[.string s, .slice (some ⟨b, o, none⟩) 12 c] 30)) (w.heap.size + 1) (.int .i64 n) (.int .i64 d) 67 (by simp))
    refine bodyPost_ret (v := .agg #[.int .i64 n, .int .i64 d]) (by simp [results, Tryd.results66, go_sem, P1.c0, P1.c1]) rfl ?_
    exact ⟨rfl, (((Below.refl _ _).alloc (Nat.le_refl _) _).alloc (by simp) _).drew⟩
end Go.Proofs.YtbnhcacjlkmfeaaDoor

namespace Go.Proofs.YtbnhcacjlkmfeaaDoor
open Go.ChangeShapes Go.WideShapes Go.ChangeAt Go.RowKit
set_option linter.unusedVariables false
set_option linter.unusedSimpArgs false
set_option maxRecDepth 100000

theorem keepH {h : Nat} {w W W' : World} {n d : Value} (hh : W.cell? ⟨h, 0, none⟩ = some n ∧ W.cell? ⟨h, 1, none⟩ = some d ∧ h < W.heap.size ∧ Bx (StepTab W) ∧ Below w.heap.size w W) (hb : Below W.heap.size W W') :
    W'.cell? ⟨h, 0, none⟩ = some n ∧ W'.cell? ⟨h, 1, none⟩ = some d ∧ h < W'.heap.size ∧ Bx (StepTab W') ∧ Below w.heap.size w W' := by
  obtain ⟨h3, h4, h5, h7, h6⟩ := hh
  have hs := hb.size
  exact ⟨(hb.cell (p := ⟨h, 0, none⟩) (by show h < _; omega)).trans h3, (hb.cell (p := ⟨h, 1, none⟩) (by show h < _; omega)).trans h4, by omega, Bx.mk (h7.out.below hb), h6.trans (hb.mono h6.size)⟩
set_option maxHeartbeats 2000000 in
theorem impl_tcents (s : ByteArray) (v : Value) (l : List (Int × Int)) (p : Int) (w : World) (h : PrsAt w v l) (ht : tunB s.data.toList l = true) (hp : -12 ≤ p ∧ p ≤ 23) (hT : StepTab w) :
    Calls Tryd.prog 36 #[tun s v, .int .i64 p] w fun e w' => e = .returned (.int .i64 (centsT l p)) ∧ Below w.heap.size w w' := by
  obtain ⟨_, hl, hok, _⟩ := tun_yes ht
  have hfl := fun W => impl_octave p W hp
  have hro := fun W hW => impl_ratioof s v l p W hW hl
  have HE : Bx (centsT l p = 120000 * (p / 12) + centsZ (pat l (p % 12).toNat).1 (pat l (p % 12).toNat).2) := Bx.mk rfl
  have f1 : -1 ≤ p / 12 := by omega
  have f2 : p / 12 ≤ 1 := by omega
  obtain ⟨⟨n1, n2⟩, ⟨d1, d2⟩, _⟩ := okR_yes (okTi_yes (hok (p % 12).toNat (by omega))).1
  generalize (pat l (p % 12).toNat).1 = n at *
  generalize (pat l (p % 12).toNat).2 = d at *
  have hce := fun W hT => impl_cents n d W hT ⟨n1, n2⟩ ⟨d1, d2⟩
  obtain ⟨z1, z2⟩ := cents_bd (n := n) (d := d) ⟨n1, n2⟩ ⟨d1, d2⟩
  generalize centsZ n d = z at *
  generalize p / 12 = f at *
  have E1 : IntKind.i64.wrap (120000 * f) = 120000 * f := IntWalk.i64_in _ (by omega)
  have E2 : IntKind.i64.wrap (120000 * f + z) = 120000 * f + z := IntWalk.i64_in _ (by omega)
  have HI := Bx.mk h
  have HT := Bx.mk hT
  obtain ⟨A, c, rfl⟩ := prs_len h
  rw [HE.out]
  simp only [tun, rat] at *
  clear ht hok h hT hl n1 n2 d1 d2 z1 z2 HE hp
  have HS0 : Bx ((w.alloc (.cells #[.string s, .slice A l.length c] 30)).cell? ⟨w.heap.size, 0, none⟩ = some (.string s) ∧ (w.alloc (.cells #[.string s, .slice A l.length c] 30)).cell? ⟨w.heap.size, 1, none⟩ = some (.slice A l.length c) ∧ w.heap.size < (w.alloc (.cells #[.string s, .slice A l.length c] 30)).heap.size ∧ Bx (StepTab (w.alloc (.cells #[.string s, .slice A l.length c] 30))) ∧ Below w.heap.size w (w.alloc (.cells #[.string s, .slice A l.length c] 30))) := Bx.mk ⟨(BoxAt.at _ _ _ _ _ rfl).c0, (BoxAt.at _ _ _ _ _ rfl).c1, (BoxAt.at _ _ _ _ _ rfl).lt, Bx.mk (HT.out.alloc _), (Below.refl _ _).alloc (Nat.le_refl _) _⟩
  go_enter Tryd.func36, Tryd.ntmps36
  go_wp2_with (fail)
  go_region_held3 (fun W => W.cell? ⟨w.heap.size, 0, none⟩ = some (.string s) ∧ W.cell? ⟨w.heap.size, 1, none⟩ = some (.slice A l.length c) ∧ w.heap.size < W.heap.size ∧ Bx (StepTab W) ∧ Below w.heap.size w W)
    (first | (with_reducible exact keepH (by assumption) hb4) | (with_reducible exact keepH (by assumption) (Below.refl _ _)) | (with_reducible exact keepH (by assumption) (Below.refl _ _).drew) | exact keepH HS0.out (Below.refl _ _).drew)
    (first | (go_at_call 65; (with_reducible refine (hfl _).mono ?_); rintro r w5 ⟨rfl, rfl⟩) | (go_at_call 66; (with_reducible refine (hro _ (HI.out.below (by assumption : _ ∧ _ ∧ _ ∧ Bx _ ∧ _).2.2.2.2)).mono ?_); rintro r w4 ⟨rfl, hb4⟩; have hS0 := keepH (w := w) (by assumption) hb4) | (go_at_call 43; (with_reducible refine (hce _ (by assumption : _ ∧ _ ∧ _ ∧ Bx _ ∧ _).2.2.2.1.out).mono ?_); rintro r w4 ⟨rfl, hb4⟩; have hS0 := keepH (w := w) (by assumption) hb4))
  all_goals
    go_wp2_with (fail)
    go_ret
    exact ⟨rfl, (by assumption : _ ∧ _ ∧ _ ∧ Bx _ ∧ _).2.2.2.2⟩
set_option maxHeartbeats 1000000 in
theorem impl_pitchcents (s : ByteArray) (v : Value) (l : List (Int × Int)) (p : Int) (w : World) (h : PrsAt w v l) (hs : s.size ≤ maxLen) (hm : l.length ≤ 281474976710656) (hT : StepTab w) :
    Calls Tryd.prog 12 #[tun s v, .int .i64 p] w (TwoOut (pcE s.data.toList l p) w) := by
  have hk := fun W hW => impl_validtuning s v l W hW hs hm
  have hpi := fun W => impl_ispitch p W
  have HI := Bx.mk h
  have HT := Bx.mk hT
  obtain ⟨A, c, rfl⟩ := prs_len h
  simp only [tun] at *
  cases ht : tunB s.data.toList l
  · have HE : Bx (pcE s.data.toList l p = (0, 1)) := Bx.mk (by simp [pcE, ht])
    rw [ht] at hk
    clear ht h hs hm hT
    go_enter Tryd.func12, Tryd.ntmps12
    go_wp2_with (fail)
    refine (hk _ (HI.out.below ((Below.refl _ _).alloc (Nat.le_refl _) _))).mono ?_
    rintro e w1 ⟨rfl, hb1⟩
    have B1 : Bx (Below w.heap.size w w1) := Bx.mk (((Below.refl _ _).alloc (Nat.le_refl _) _).trans (hb1.mono (by go_size)))
    clear hb1
    go_wp2_with (fail)
    go_ret2
    rw [TwoOut, HE.out]
    exact ⟨rfl, B1.out⟩
  · have hce := fun W hW hp hT => impl_tcents s (.slice A l.length c) l p W hW ht hp hT
    simp only [tun] at hce
    cases hp : inB p (-12) 23
    · have HE : Bx (pcE s.data.toList l p = (0, 2)) := Bx.mk (by simp [pcE, ht, hp])
      rw [ht] at hk
      rw [hp] at hpi
      clear ht h hs hm hT hp hce
      go_enter Tryd.func12, Tryd.ntmps12
      go_wp2_with (fail)
      refine (hk _ (HI.out.below ((Below.refl _ _).alloc (Nat.le_refl _) _))).mono ?_
      rintro e w1 ⟨rfl, hb1⟩
      have B1 : Bx (Below w.heap.size w w1) := Bx.mk (((Below.refl _ _).alloc (Nat.le_refl _) _).trans (hb1.mono (by go_size)))
      clear hb1
      go_wp2_with (fail)
      refine (hpi _).mono ?_
      rintro e w2 ⟨rfl, rfl⟩
      go_wp2_with (fail)
      go_ret2
      rw [TwoOut, HE.out]
      exact ⟨rfl, B1.out⟩
    · have HE : Bx (pcE s.data.toList l p = (centsT l p, 0)) := Bx.mk (by simp [pcE, ht, hp])
      have hce := fun W hW hT => hce W hW (inB_yes hp) hT
      rw [ht] at hk
      rw [hp] at hpi
      generalize centsT l p = z at *
      clear ht h hs hm hT hp
      go_enter Tryd.func12, Tryd.ntmps12
      go_wp2_with (fail)
      refine (hk _ (HI.out.below ((Below.refl _ _).alloc (Nat.le_refl _) _))).mono ?_
      rintro e w1 ⟨rfl, hb1⟩
      have B1 : Bx (Below w.heap.size w w1) := Bx.mk (((Below.refl _ _).alloc (Nat.le_refl _) _).trans (hb1.mono (by go_size)))
      have K1 : Bx (BoxAt w1 w.heap.size (.string s) (.slice A l.length c) 30) := Bx.mk (BoxAt.below (BoxAt.at _ _ _ _ _ rfl) hb1)
      clear hb1
      go_wp2_with (fail)
      refine (hpi _).mono ?_
      rintro e w2 ⟨rfl, rfl⟩
      have k10 := K1.out.c0
      have k11 := K1.out.c1
      have k1l := K1.out.lt
      go_wp2_with (fail)
      refine (hce _ (HI.out.below B1.out) (HT.out.below B1.out)).mono ?_
      rintro e w3 ⟨rfl, hb3⟩
      have B3 : Bx (Below w.heap.size w w3) := Bx.mk (B1.out.trans (hb3.mono B1.out.size))
      clear hb3
      go_wp2_with (fail)
      go_ret2
      rw [TwoOut, HE.out]
      exact ⟨rfl, B3.out⟩
end Go.Proofs.YtbnhcacjlkmfeaaDoor

namespace Go.Proofs.YtbnhcacjlkmfeaaDoor
open Go.ChangeShapes Go.WideShapes Go.ChangeAt Go.RowKit
set_option linter.unusedVariables false
set_option linter.unusedSimpArgs false
set_option maxRecDepth 100000

/-- a block that holds these values -/
def ArrAt (w : World) (g : Nat) (vs : List Value) (t : TypeId) : Prop := w.heap[g]? = some (.cells vs.toArray t (0, 0))
theorem ArrAt.cell {w : World} {g : Nat} {vs : List Value} {t : TypeId} (h : ArrAt w g vs t) (k : Nat) : w.cell? ⟨g, k, none⟩ = vs[k]? := by
  unfold ArrAt at h
  simp [World.cell?, h]
theorem ArrAt.f0 {w : World} {g : Nat} {vs : List Value} {t : TypeId} (h : ArrAt w g vs t) (o : Nat) : w.frozen? ⟨g, o, none⟩ = false := by
  unfold ArrAt at h; simp [World.frozen?, h]
theorem ArrAt.lt {w : World} {g : Nat} {vs : List Value} {t : TypeId} (h : ArrAt w g vs t) : g < w.heap.size := by
  unfold ArrAt at h
  rcases Nat.lt_or_ge g w.heap.size with h1 | h1
  · exact h1
  · rw [Array.getElem?_eq_none h1] at h; cases h
theorem ArrAt.below {w w' : World} {g : Nat} {vs : List Value} {t : TypeId} (h : ArrAt w g vs t) (hb : Below w.heap.size w w') : ArrAt w' g vs t := by
  have := hb.block g h.lt
  unfold ArrAt at h ⊢
  rw [this, h]
theorem ArrAt.alloc {w : World} {g : Nat} {vs : List Value} {t : TypeId} (h : ArrAt w g vs t) (o : Obj) : ArrAt (w.alloc o) g vs t := h.below ((Below.refl _ _).alloc (Nat.le_refl _) _)
theorem ArrAt.draws {w : World} {g : Nat} {vs : List Value} {t : TypeId} (h : ArrAt w g vs t) (k : Nat) : ArrAt (w.drewN k) g vs t := h
theorem ArrAt.at (w : World) (g : Nat) (vs : List Value) (t : TypeId) (h : g = w.heap.size) : ArrAt (w.alloc (.cells vs.toArray t)) g vs t := by subst h; exact heap_alloc_new w _
theorem ArrAt.put {w : World} {g : Nat} {vs : List Value} {t : TypeId} (h : ArrAt w g vs t) (k : Nat) (u : Value) : ArrAt (w.setCell ⟨g, k, none⟩ u) g (vs.set k u) t := by
  have := heap_setCell_same w g k _ _ u h
  unfold ArrAt
  rw [this]
  simp
theorem ArrAt.other {w : World} {g b o : Nat} {vs : List Value} {t : TypeId} (hg : b ≠ g) (h : ArrAt w g vs t) (u : Value) : ArrAt (w.setCell ⟨b, o, none⟩ u) g vs t := by
  unfold ArrAt at h ⊢
  rw [Below.heap_setCell _ _ _ _ (by show g ≠ b; omega)]; exact h
/-- an array being filled from the front -/
def arrV (f : Nat → Value) (z : Value) (n k : Nat) : List Value := (List.range n).map fun i => if i < k then f i else z
theorem arrV_set (f : Nat → Value) (z : Value) (n k : Nat) : (arrV f z n k).set k (f k) = arrV f z n (k + 1) := by
  apply List.ext_getElem?
  intro i
  unfold arrV
  by_cases hn : i < n
  · by_cases h : k = i
    · subst h; simp [hn]
    · have : i < k ↔ i < k + 1 := by omega
      simp [hn, h, this]
  · rw [List.getElem?_eq_none (by simp; omega), List.getElem?_eq_none (by simp; omega)]
theorem arrV_at (f : Nat → Value) (z : Value) (n k i : Nat) (h : i < n) : (arrV f z n k)[i]? = some (if i < k then f i else z) := by simp [arrV, h]
/-- .. being changed from the front -/
def arrM (f g : Nat → Value) (n k : Nat) : List Value := (List.range n).map fun i => if i < k then f i else g i
theorem arrM_set (f g : Nat → Value) (n k : Nat) : (arrM f g n k).set k (f k) = arrM f g n (k + 1) := by
  apply List.ext_getElem?
  intro i
  unfold arrM
  by_cases hn : i < n
  · by_cases h : k = i
    · subst h; simp [hn]
    · have : i < k ↔ i < k + 1 := by omega
      simp [hn, h, this]
  · rw [List.getElem?_eq_none (by simp; omega), List.getElem?_eq_none (by simp; omega)]
theorem arrM_at (f g : Nat → Value) (n k i : Nat) (h : i < n) : (arrM f g n k)[i]? = some (if i < k then f i else g i) := by simp [arrM, h]
theorem ArrAt.own {w : World} {g base n : Nat} {vs : List Value} {t : TypeId} (h : ArrAt w g vs t) (size : Nat) (hg : base ≤ g) (hn : vs.length = n * size) (hm : n ≤ maxLen) : w.ownsRow base t size (.slice (some ⟨g, 0, none⟩) n n) n vs :=
  ⟨hn, .inr ⟨g, n, vs.toArray, rfl, hg, h, Nat.le_refl _, hm, by simpa using hn, by simp [← hn]⟩⟩
end Go.Proofs.YtbnhcacjlkmfeaaDoor

namespace Go.Proofs.YtbnhcacjlkmfeaaDoor
open Go.ChangeShapes Go.WideShapes Go.ChangeAt Go.RowKit
set_option linter.unusedVariables false
set_option linter.unusedSimpArgs false
set_option maxRecDepth 100000

/-- the text of a ratio of a list -/
def txL (l : List (Int × Int)) (k : Nat) : List UInt8 := ratT (pat l k).1 (pat l k).2
def txB (l : List (Int × Int)) (k : Nat) : ByteArray := ⟨(ratT (pat l k).1 (pat l k).2).toArray⟩
theorem map_range_pat {α : Type} (l : List (Int × Int)) (g : Int × Int → α) : (List.range l.length).map (fun i => g (pat l i)) = l.map g := by
  apply List.ext_getElem
  · simp
  · intro i h1 h2
    have h3 : i < l.length := by simpa using h2
    simp [pat_get h3]
theorem join_rats (l : List (Int × Int)) (h : l ≠ []) : (32 : UInt8) :: Lib.join (l.map fun p => ratT p.1 p.2) [32] = ratsT l := by
  cases l with
  | nil => exact absurd rfl h
  | cons p r =>
    rw [List.map_cons, Lib.join_cons]
    unfold Lib.joinTail ratsT
    rw [List.map_map]
    simp
    rfl
set_option maxHeartbeats 4000000 in
theorem impl_ofs (s : ByteArray) (v : Value) (l : List (Int × Int)) (w : World) (h : PrsAt w v l) (ht : tunB s.data.toList l = true) (hT : Bx (Lib.TabIs Tryd.prog w "internal/strconv.uint64pow10" .u64 Lib.pow10Tab)) :
    Calls Tryd.prog 48 #[tun s v, .func (.func 49) #[] #[]] w fun e w' => e = .returned (.agg #[.string (txB l 0), .string (txB l 1), .string (txB l 2), .string (txB l 3), .string (txB l 4), .string (txB l 5), .string (txB l 6), .string (txB l 7), .string (txB l 8), .string (txB l 9), .string (txB l 10), .string (txB l 11)]) ∧ Below w.heap.size w w' := by
  obtain ⟨_, hl, hok, _⟩ := tun_yes ht
  obtain ⟨b, o, c, rfl, hb, hc⟩ := prs_slice h (by omega)
  rw [hl] at hc ⊢
  have HC := Bx.mk hc
  have HT := hT
  have HK := Bx.mk (fun k (hk : k < 12) => (okTi_yes (hok k hk)).1)
  unfold tun
  clear h hl hc hok ht hT
  go_enter Tryd.func48, Tryd.ntmps48
  go_wp2_with (fail)
  go_loopw [11] (fun i wr => ∃ k : Nat, k ≤ 12 ∧ i = .int .i64 k ∧ Bx (ArrAt wr (w.heap.size + 1 + 1) (arrV (fun i => .string (txB l i)) (.string ⟨#[]⟩) 12 k) 72) ∧ Bx (ArrAt wr (w.heap.size + 1) (arrV (fun i => .string (txB l i)) (.string ⟨#[]⟩) 12 0) 72) ∧ Bx (Below w.heap.size w wr)) (fun i _ => 12 - (intOf i).toNat)
  case atStart =>
    refine ⟨0, by omega, rfl, Bx.mk ?_, Bx.mk ?_, Bx.mk ((((Below.refl _ _).alloc (Nat.le_refl _) _).alloc (by simp) _).alloc (by simp; omega) _)⟩
    · exact ArrAt.at _ _ _ _ (by simp)
    · exact (ArrAt.at _ _ _ _ (by simp)).alloc _
  case round =>
    obtain ⟨k, hk, rfl, HA, HR, HB⟩ := hrel
    by_cases hlt : k < 12
    · have c0 := (HB.out.cell (p := ⟨b, o + k * 2, none⟩) hb).trans (HC.out k hlt).1
      have c1 := (HB.out.cell (p := ⟨b, o + k * 2 + 1, none⟩) hb).trans (HC.out k hlt).2
      have hok1 := HK.out k hlt
      have HVk : Bx (txB l k = ⟨(rtextE (pat l k).1 (pat l k).2).toArray⟩) := Bx.mk (by unfold txB rtextE; rw [if_pos hok1])
      clear hok1
      generalize (pat l k).1 = p1 at *
      generalize (pat l k).2 = p2 at *
      have hce := fun W hT => impl_ratiotext p1 p2 W hT
      unfold rat at hce
      have hbr : b < wr.heap.size := Nat.lt_of_lt_of_le hb HB.out.size
      have k0 : (0 : Int) ≤ (k : Int) := by omega
      have k1 : (k : Int) < 12 := by omega
      go_wp2_with (fail)
      refine (hce _ (Bx.mk (tab_below (HB.out.alloc HB.out.size _) HT.out))).mono ?_
      rintro e w5 ⟨rfl, hb5⟩
      have HA5 : Bx (ArrAt w5 (w.heap.size + 1 + 1) (arrV (fun i => .string (txB l i)) (.string ⟨#[]⟩) 12 k) 72) := Bx.mk ((HA.out.alloc _).below hb5)
      have HR5 : Bx (ArrAt w5 (w.heap.size + 1) (arrV (fun i => .string (txB l i)) (.string ⟨#[]⟩) 12 0) 72) := Bx.mk ((HR.out.alloc _).below hb5)
      have HB5 : Bx (Below w.heap.size w w5) := Bx.mk ((HB.out.alloc HB.out.size _).trans (hb5.mono (Nat.le_trans HB.out.size (by simp))))
      clear hb5 HA HR HB c0 c1 hbr
      have a0 : w5.cell? ⟨w.heap.size + 1 + 1, k, none⟩ = some (.string ⟨#[]⟩) := by rw [HA5.out.cell, arrV_at _ _ _ _ _ hlt, if_neg (by omega)]
      have af := HA5.out.f0 k
      have al := HA5.out.lt
      have HS : Bx (ArrAt (w5.setCell ⟨w.heap.size + 1 + 1, k, none⟩ (.string ⟨(rtextE p1 p2).toArray⟩)) (w.heap.size + 1 + 1) (arrV (fun i => .string (txB l i)) (.string ⟨#[]⟩) 12 (k + 1)) 72) := Bx.mk (by
        rw [← arrV_set, ← HVk.out]
        exact HA5.out.put k _)
      have HR6 : Bx (ArrAt (w5.setCell ⟨w.heap.size + 1 + 1, k, none⟩ (.string ⟨(rtextE p1 p2).toArray⟩)) (w.heap.size + 1) (arrV (fun i => .string (txB l i)) (.string ⟨#[]⟩) 12 0) 72) := Bx.mk (ArrAt.other (by omega) HR5.out _)
      have HB6 : Bx (Below w.heap.size w (w5.setCell ⟨w.heap.size + 1 + 1, k, none⟩ (.string ⟨(rtextE p1 p2).toArray⟩))) := Bx.mk (HB5.out.setCell (by show w.heap.size ≤ w.heap.size + 1 + 1; omega) _)
      clear HA5 HR5 HB5 hce HVk
      go_wp2_with (fail)
      go_roundw
      case rel => exact ⟨k + 1, by omega, by go_num, HS, HR6, HB6⟩
      case measure => simp [intOf]; omega
    · obtain rfl : k = 12 := by omega
      have ha : ∀ i, i < 12 → wr.cell? ⟨w.heap.size + 1 + 1, i, none⟩ = some (.string (txB l i)) := fun i hi => by rw [HA.out.cell, arrV_at _ _ _ _ _ hi, if_pos hi]
      have hr : ∀ i, i < 12 → wr.cell? ⟨w.heap.size + 1, i, none⟩ = some (.string ⟨#[]⟩) := fun i hi => by rw [HR.out.cell, arrV_at _ _ _ _ _ hi, if_neg (by omega)]
      have a0 : wr.cell? ⟨w.heap.size + 1 + 1, 0, none⟩ = some (.string (txB l 0)) := ha 0 (by omega)
      have r0 : wr.cell? ⟨w.heap.size + 1, 0, none⟩ = some (.string ⟨#[]⟩) := hr 0 (by omega)
      have f0 := HR.out.f0 0
      have a1 : wr.cell? ⟨w.heap.size + 1 + 1, 1, none⟩ = some (.string (txB l 1)) := ha 1 (by omega)
      have r1 : wr.cell? ⟨w.heap.size + 1, 1, none⟩ = some (.string ⟨#[]⟩) := hr 1 (by omega)
      have f1 := HR.out.f0 1
      have a2 : wr.cell? ⟨w.heap.size + 1 + 1, 2, none⟩ = some (.string (txB l 2)) := ha 2 (by omega)
      have r2 : wr.cell? ⟨w.heap.size + 1, 2, none⟩ = some (.string ⟨#[]⟩) := hr 2 (by omega)
      have f2 := HR.out.f0 2
      have a3 : wr.cell? ⟨w.heap.size + 1 + 1, 3, none⟩ = some (.string (txB l 3)) := ha 3 (by omega)
      have r3 : wr.cell? ⟨w.heap.size + 1, 3, none⟩ = some (.string ⟨#[]⟩) := hr 3 (by omega)
      have f3 := HR.out.f0 3
      have a4 : wr.cell? ⟨w.heap.size + 1 + 1, 4, none⟩ = some (.string (txB l 4)) := ha 4 (by omega)
      have r4 : wr.cell? ⟨w.heap.size + 1, 4, none⟩ = some (.string ⟨#[]⟩) := hr 4 (by omega)
      have f4 := HR.out.f0 4
      have a5 : wr.cell? ⟨w.heap.size + 1 + 1, 5, none⟩ = some (.string (txB l 5)) := ha 5 (by omega)
      have r5 : wr.cell? ⟨w.heap.size + 1, 5, none⟩ = some (.string ⟨#[]⟩) := hr 5 (by omega)
      have f5 := HR.out.f0 5
      have a6 : wr.cell? ⟨w.heap.size + 1 + 1, 6, none⟩ = some (.string (txB l 6)) := ha 6 (by omega)
      have r6 : wr.cell? ⟨w.heap.size + 1, 6, none⟩ = some (.string ⟨#[]⟩) := hr 6 (by omega)
      have f6 := HR.out.f0 6
      have a7 : wr.cell? ⟨w.heap.size + 1 + 1, 7, none⟩ = some (.string (txB l 7)) := ha 7 (by omega)
      have r7 : wr.cell? ⟨w.heap.size + 1, 7, none⟩ = some (.string ⟨#[]⟩) := hr 7 (by omega)
      have f7 := HR.out.f0 7
      have a8 : wr.cell? ⟨w.heap.size + 1 + 1, 8, none⟩ = some (.string (txB l 8)) := ha 8 (by omega)
      have r8 : wr.cell? ⟨w.heap.size + 1, 8, none⟩ = some (.string ⟨#[]⟩) := hr 8 (by omega)
      have f8 := HR.out.f0 8
      have a9 : wr.cell? ⟨w.heap.size + 1 + 1, 9, none⟩ = some (.string (txB l 9)) := ha 9 (by omega)
      have r9 : wr.cell? ⟨w.heap.size + 1, 9, none⟩ = some (.string ⟨#[]⟩) := hr 9 (by omega)
      have f9 := HR.out.f0 9
      have a10 : wr.cell? ⟨w.heap.size + 1 + 1, 10, none⟩ = some (.string (txB l 10)) := ha 10 (by omega)
      have r10 : wr.cell? ⟨w.heap.size + 1, 10, none⟩ = some (.string ⟨#[]⟩) := hr 10 (by omega)
      have f10 := HR.out.f0 10
      have a11 : wr.cell? ⟨w.heap.size + 1 + 1, 11, none⟩ = some (.string (txB l 11)) := ha 11 (by omega)
      have r11 : wr.cell? ⟨w.heap.size + 1, 11, none⟩ = some (.string ⟨#[]⟩) := hr 11 (by omega)
      have f11 := HR.out.f0 11
      have hal := HA.out.lt
      have hrl := HR.out.lt
      clear HK HC ha hr HA
      go_wp2_with (fail)
      have P : ArrAt _ (w.heap.size + 1) [.string (txB l 0), .string (txB l 1), .string (txB l 2), .string (txB l 3), .string (txB l 4), .string (txB l 5), .string (txB l 6), .string (txB l 7), .string (txB l 8), .string (txB l 9), .string (txB l 10), .string (txB l 11)] 72 := ((((((((((((HR.out.put 0 (.string (txB l 0))).put 1 (.string (txB l 1))).put 2 (.string (txB l 2))).put 3 (.string (txB l 3))).put 4 (.string (txB l 4))).put 5 (.string (txB l 5))).put 6 (.string (txB l 6))).put 7 (.string (txB l 7))).put 8 (.string (txB l 8))).put 9 (.string (txB l 9))).put 10 (.string (txB l 10))).put 11 (.string (txB l 11)))
      have q0 := P.cell 0
      have q1 := P.cell 1
      have q2 := P.cell 2
      have q3 := P.cell 3
      have q4 := P.cell 4
      have q5 := P.cell 5
      have q6 := P.cell 6
      have q7 := P.cell 7
      have q8 := P.cell 8
      have q9 := P.cell 9
      have q10 := P.cell 10
      have q11 := P.cell 11
      refine bodyPost_ret (v := .agg #[.string (txB l 0), .string (txB l 1), .string (txB l 2), .string (txB l 3), .string (txB l 4), .string (txB l 5), .string (txB l 6), .string (txB l 7), .string (txB l 8), .string (txB l 9), .string (txB l 10), .string (txB l 11)]) (by simp [results, Tryd.results48, go_sem, q0, q1, q2, q3, q4, q5, q6, q7, q8, q9, q10, q11]) rfl ?_
      refine ⟨rfl, ?_⟩
      have hB := HB.out
      repeat' (first | (with_reducible assumption) | (with_reducible refine Below.setCell ?_ ?_ _) | (show w.heap.size ≤ w.heap.size + 1; omega))
end Go.Proofs.YtbnhcacjlkmfeaaDoor

namespace Go.Proofs.YtbnhcacjlkmfeaaDoor
open Go.ChangeShapes Go.WideShapes Go.ChangeAt Go.RowKit
set_option linter.unusedVariables false
set_option linter.unusedSimpArgs false
set_option maxRecDepth 100000

set_option maxHeartbeats 4000000 in
theorem impl_tuningtext (s : ByteArray) (v : Value) (l : List (Int × Int)) (w : World) (h : PrsAt w v l) (hs : s.size ≤ maxLen) (hm : l.length ≤ 281474976710656) (hT : Bx (Lib.TabIs Tryd.prog w "internal/strconv.uint64pow10" .u64 Lib.pow10Tab)) :
    Calls Tryd.prog 25 #[tun s v] w fun e w' => e = .returned (.string ⟨(tunTE s.data.toList l).toArray⟩) ∧ Below w.heap.size w w' := by
  have hk := fun W hW => impl_validtuning s v l W hW hs hm
  have HI := Bx.mk h
  cases ht : tunB s.data.toList l
  · have HE : Bx (tunTE s.data.toList l = []) := Bx.mk (by simp [tunTE, ht])
    obtain ⟨A, c, rfl⟩ := prs_len h
    simp only [tun] at *
    rw [ht] at hk
    clear ht h hs hm hT
    go_enter Tryd.func25, Tryd.ntmps25
    go_wp2_with (fail)
    refine (hk _ (HI.out.below ((Below.refl _ _).alloc (Nat.le_refl _) _))).mono ?_
    rintro e w1 ⟨rfl, hb1⟩
    have B1 : Bx (Below w.heap.size w w1) := Bx.mk (((Below.refl _ _).alloc (Nat.le_refl _) _).trans (hb1.mono (by go_size)))
    clear hb1
    go_wp2_with (fail)
    go_ret
    exact ⟨ret_str HE.out.symm, B1.out⟩
  · have ho := fun W hW hT => impl_ofs s v l W hW ht hT
    obtain ⟨hn, hl, hok, _⟩ := tun_yes ht
    have hjl := ratsT_len l (fun i hi => (okTi_yes (hok i (by omega))).1) l.length (Nat.le_refl _)
    rw [List.take_of_length_le (Nat.le_refl _), ← join_rats l (by intro e; rw [e] at hl; cases hl), hl, List.length_cons] at hjl
    have HE : Bx (tunTE s.data.toList l = s.data.toList ++ 32 :: Lib.join (l.map fun p => ratT p.1 p.2) [32]) := Bx.mk (by
      rw [join_rats l (by intro e; rw [e] at hl; cases hl)]
      simp [tunTE, tunT, ht])
    have HX : Bx ((((List.range 12).map fun i => (⟨(ratT (pat l i).1 (pat l i).2).toArray⟩ : ByteArray)).map (·.data.toList)) = l.map fun p => ratT p.1 p.2) := Bx.mk (by
      rw [← hl, map_range_pat l (fun p => (⟨(ratT p.1 p.2).toArray⟩ : ByteArray)), List.map_map]
      apply List.map_congr_left
      intro p _
      simp)
    have hnl := nm_len hn
    obtain ⟨A, c, rfl⟩ := prs_len h
    simp only [tun] at *
    rw [ht] at hk
    clear ht h hs hm hok hn
    have HJL := Bx.mk hjl
    have HSZ : Bx (s.size ≤ 10) := Bx.mk hnl
    have HLL := Bx.mk hl
    clear hjl hnl hl
    go_enter Tryd.func25, Tryd.ntmps25
    go_wp2_with (fail)
    refine (hk _ (HI.out.below ((Below.refl _ _).alloc (Nat.le_refl _) _))).mono ?_
    rintro e w1 ⟨rfl, hb1⟩
    have B1 : Bx (Below w.heap.size w w1) := Bx.mk (((Below.refl _ _).alloc (Nat.le_refl _) _).trans (hb1.mono (by go_size)))
    have K1 := Bx.mk (BoxAt.below (BoxAt.at w w.heap.size (.string s) (.slice A l.length c) 30 rfl) hb1)
    clear hb1 hk
    have k10 := K1.out.c0
    have k11 := K1.out.c1
    have k1l := K1.out.lt
    go_wp2_with (fail)
    refine (ho _ (HI.out.below B1.out) (Bx.mk (tab_below B1.out hT.out))).mono ?_
    rintro e w2 ⟨rfl, hb2⟩
    have B2 : Bx (Below w.heap.size w w2) := Bx.mk (B1.out.trans (hb2.mono B1.out.size))
    have K2 : Bx (BoxAt w2 w.heap.size (.string s) (.slice A l.length c) 30) := Bx.mk (K1.out.below hb2)
    clear hb2 K1 B1 k10 k11 k1l ho
    have k10 := K2.out.c0
    have k11 := K2.out.c1
    have k1l := K2.out.lt
    go_wp2_with (fail)
    have HA : Bx (ArrAt (w2.alloc (.cells #[.string (txB l 0), .string (txB l 1), .string (txB l 2), .string (txB l 3), .string (txB l 4), .string (txB l 5), .string (txB l 6), .string (txB l 7), .string (txB l 8), .string (txB l 9), .string (txB l 10), .string (txB l 11)] 72)) w2.heap.size ((List.range 12).map fun i => .string (txB l i)) 72) := Bx.mk (ArrAt.at _ _ _ _ rfl)
    have K3 := Bx.mk (K2.out.alloc (.cells #[.string (txB l 0), .string (txB l 1), .string (txB l 2), .string (txB l 3), .string (txB l 4), .string (txB l 5), .string (txB l 6), .string (txB l 7), .string (txB l 8), .string (txB l 9), .string (txB l 10), .string (txB l 11)] 72))
    have B3 := Bx.mk (B2.out.alloc B2.out.size (.cells #[.string (txB l 0), .string (txB l 1), .string (txB l 2), .string (txB l 3), .string (txB l 4), .string (txB l 5), .string (txB l 6), .string (txB l 7), .string (txB l 8), .string (txB l 9), .string (txB l 10), .string (txB l 11)] 72))
    clear k10 k11 k1l K2 B2
    generalize w2.alloc (.cells #[.string (txB l 0), .string (txB l 1), .string (txB l 2), .string (txB l 3), .string (txB l 4), .string (txB l 5), .string (txB l 6), .string (txB l 7), .string (txB l 8), .string (txB l 9), .string (txB l 10), .string (txB l 11)] 72) = w3 at *
    have hjoin : ∀ W : World, Below w3.heap.size w3 W → Calls Tryd.prog 50 #[.slice (some ⟨w2.heap.size, 0, none⟩) 12 12, .string ⟨#[32]⟩] W fun e w' => e = .returned (.string ⟨(Lib.join (l.map fun p => ratT p.1 p.2) [32]).toArray⟩) ∧ Below W.heap.size W w' := fun W hb => by
      have hq := Tryd.strings_Join w2.heap.size 0 12 ((List.range 12).map fun i => (⟨(ratT (pat l i).1 (pat l i).2).toArray⟩ : ByteArray)) ⟨#[32]⟩ W (fun j x hx => by
        rw [Nat.zero_add, (HA.out.below hb).cell j]
        rw [List.getElem?_map] at hx ⊢
        cases h : (List.range 12)[j]? with
        | none => rw [h] at hx; cases hx
        | some i => rw [h] at hx; cases hx; rfl) (Nat.lt_of_lt_of_le HA.out.lt hb.size) (by simp) (by simp) (by rw [HX.out]; have := HJL.out; show (Lib.join _ [32]).length ≤ _; omega)
      rw [HX.out] at hq
      exact hq
    have HS : Bx (∀ J : List UInt8, s ++ ⟨#[32]⟩ ++ ⟨J.toArray⟩ = ⟨(s.data.toList ++ 32 :: J).toArray⟩) := Bx.mk (fun J => by apply ByteArray.ext; simp)
    have E1 : (9223372036854775807 < s.size + 1) = False := eq_false (by have := HSZ.out; omega)
    have E2 : (9223372036854775807 < s.size + 1 + (Lib.join (l.map fun p => ratT p.1 p.2) [32]).length) = False := eq_false (by have := HSZ.out; have := HJL.out; omega)
    have SS0 : Bx (w3.cell? ⟨w.heap.size, 0, none⟩ = some (.string s) ∧ w3.cell? ⟨w.heap.size, 1, none⟩ = some (.slice A l.length c) ∧ w.heap.size < w3.heap.size ∧ Below w3.heap.size w3 w3) := Bx.mk ⟨K3.out.c0, K3.out.c1, K3.out.lt, Below.refl _ _⟩
    generalize Lib.join (l.map fun p => ratT p.1 p.2) [32] = J at *
    clear HJL HX HA K3 HSZ HLL
    go_region_held3 (fun W => W.cell? ⟨w.heap.size, 0, none⟩ = some (.string s) ∧ W.cell? ⟨w.heap.size, 1, none⟩ = some (.slice A l.length c) ∧ w.heap.size < W.heap.size ∧ Below w3.heap.size w3 W)
      (first | (with_reducible exact keepX (by assumption) hb4) | (with_reducible exact keepX (by assumption) (Below.refl _ _)) | (with_reducible exact keepX (by assumption) (Below.refl _ _).drew) | exact keepX SS0.out (Below.refl _ _).drew)
      ((go_at_call 50; (with_reducible refine (hjoin _ (belX (by assumption))).mono ?_); rintro r w4 ⟨rfl, hb4⟩; have hS0 := keepX (w := w3) (by assumption) hb4))
    all_goals
      have SB := Bx.mk (belX (q := w3) (by assumption))
      go_wp2_with (fail)
      go_ret
      exact ⟨by show Ending.returned (.string (s ++ ⟨#[32]⟩ ++ ⟨J.toArray⟩)) = _; rw [HE.out, HS.out], B3.out.trans (SB.out.mono B3.out.size)⟩
end Go.Proofs.YtbnhcacjlkmfeaaDoor

namespace Go.Proofs.YtbnhcacjlkmfeaaDoor.fnExactTuningText
open Go.ChangeShapes Go.WideShapes Go.ChangeAt Go.RowKit
set_option linter.unusedVariables false
set_option linter.unusedSimpArgs false
set_option maxRecDepth 100000

set_option maxHeartbeats 8000000 in
theorem walk (s0 : ByteArray) (u0 : Value) (l0 : List (Int × Int)) {w : World} (w0 : PrsAt w u0 l0 ∧ s0.size ≤ maxLen ∧ l0.length ≤ 9223372036854775807) {ps : List MemPlace} (hl : DataW.LaidVars Tryd.prog w Rows.fnExactTuningTextRow.laid ps) :
    Calls Tryd.prog 7 #[tun s0 u0] w fun e w' => e = .returned (.bool true) ∧ Below w.heap.size w w' := by
  have e : Rows.laid_internal_strconv_uint64pow10 = Lib.tabData (H := Unit) .u64 Lib.pow10Tab := by kernel_rfl
  have hT : Bx (Lib.TabIs Tryd.prog w "internal/strconv.uint64pow10" .u64 Lib.pow10Tab) := Bx.mk (tab_get hl (by rw [← e]; exact .tail _ (.tail _ (.head _))) (g := 2) (t := 153) (e := 69) (N := 20) (by kernel_rfl) (by kernel_rfl) Tryd.underlying153 Tryd.underlying69 (by kernel_rfl) (by kernel_rfl))
  clear e
  clear hl
  obtain ⟨hi0, hs0, hm0⟩ := w0
  obtain ⟨A0, c0, rfl⟩ := prs_len hi0
  have HI0 := Bx.mk hi0
  clear hi0
  have H0 := Bx.mk (Holds.start w)
  simp only [tun]
  rcases szT_ways s0 l0 1048576 with hz0 | ⟨hz0, hzb0⟩
  · have hsz0 := fun W h => sz_tun s0 (.slice A0 l0.length c0) l0 1048576 W h (by omega) hs0 hm0
    rw [hz0] at hsz0
    simp only [tun] at hsz0
    go_enter Tryd.func7, Tryd.ntmps7
    go_wp2_with (fail)
    refine (hsz0 _ (HI0.out.below ((H0.out.pair (.string s0) (.slice A0 l0.length c0) _ _)).2)).mono ?_
    rintro e1 q1 ⟨rfl, hb⟩
    have H1 := Bx.mk ((H0.out.pair (.string s0) (.slice A0 l0.length c0) _ _).below hb)
    have SZ1 : Bx (w.heap.size + 1 ≤ q1.heap.size) := Bx.mk (by have := hb.size; simp only [World.size_alloc] at this; omega)
    clear H0
    have b0_x := H1.out.get (g := w.heap.size) (k := 0) (v := .string s0) (by simp)
    have b0_y := H1.out.get (g := w.heap.size) (k := 1) (v := .slice A0 l0.length c0) (by simp)
    have b0_l := H1.out.lt (g := w.heap.size) (k := 1) (v := .slice A0 l0.length c0) (by simp)
    clear hb
    go_wp2_with (fail)
    go_ret
    exact ⟨rfl, (H1.out).2⟩
  · have hsz0 := fun W h => sz_tun s0 (.slice A0 l0.length c0) l0 1048576 W h (by omega) hs0 hm0
    rw [hz0] at hsz0
    simp only [tun] at hsz0
    obtain ⟨z0, hzz0⟩ : ∃ z : Int, z = 1048576 - (s0.size : Int) - (l0.length : Int) := ⟨_, rfl⟩
    rw [← hzz0] at hsz0
    have hd0 : decide (z0 < 0) = false := decide_eq_false (by omega)
    have hn0 : l0.length ≤ 1048576 := by omega
    have hr0 : 0 ≤ z0 ∧ z0 ≤ 1048576 := by omega
    clear hzz0 hz0
    have hcp0 := fun W h => copy_tun s0 (.slice A0 l0.length c0) l0 W h (by omega)
    simp only [tun] at hcp0
    have heq0 := fun va vb W ha hb => eq_tun_same s0 va vb l0 W ha hb (by omega)
    simp only [tun] at heq0
    have hs := fun W (u0' : Value) (h0' : PrsAt W u0' l0) => spec_tuningtext s0 u0' l0 W h0' hs0 (by omega)
    have hi := fun W (u0' : Value) (h0' : PrsAt W u0' l0) (hT' : Bx (Lib.TabIs Tryd.prog W "internal/strconv.uint64pow10" .u64 Lib.pow10Tab)) => impl_tuningtext s0 u0' l0 W h0' hs0 (by omega) hT'
    simp only [tun] at hs hi
    generalize tunTE s0.data.toList l0 = r0 at hs hi
    go_enter Tryd.func7, Tryd.ntmps7
    go_wp2_with (fail)
    refine (hsz0 _ (HI0.out.below ((H0.out.pair (.string s0) (.slice A0 l0.length c0) _ _)).2)).mono ?_
    rintro e1 q1 ⟨rfl, hb⟩
    have H1 := Bx.mk ((H0.out.pair (.string s0) (.slice A0 l0.length c0) _ _).below hb)
    have SZ1 : Bx (w.heap.size + 1 ≤ q1.heap.size) := Bx.mk (by have := hb.size; simp only [World.size_alloc] at this; omega)
    clear H0
    have b0_x := H1.out.get (g := w.heap.size) (k := 0) (v := .string s0) (by simp)
    have b0_y := H1.out.get (g := w.heap.size) (k := 1) (v := .slice A0 l0.length c0) (by simp)
    have b0_l := H1.out.lt (g := w.heap.size) (k := 1) (v := .slice A0 l0.length c0) (by simp)
    clear hb
    go_wp2_with (fail)
    refine (hcp0 _ (HI0.out.below (H1.out).2)).mono ?_
    rintro e2 q2 ⟨va0, rfl, ho, hb⟩
    obtain ⟨Aa0, ca0, rfl⟩ := own_len ho
    have H2 := Bx.mk (H1.out.below hb)
    have SZ2 : Bx (q1.heap.size ≤ q2.heap.size) := Bx.mk hb.size
    have Oa0_2 := Bx.mk ho
    have Ua0 := Bx.mk (own_hi ho)
    clear H1 b0_x b0_y b0_l
    have b0_x := H2.out.get (g := w.heap.size) (k := 0) (v := .string s0) (by simp)
    have b0_y := H2.out.get (g := w.heap.size) (k := 1) (v := .slice A0 l0.length c0) (by simp)
    have b0_l := H2.out.lt (g := w.heap.size) (k := 1) (v := .slice A0 l0.length c0) (by simp)
    clear hb ho
    go_wp2_with (fail)
    refine (hs _ _ (PrsAt.own Oa0_2.out)).mono ?_
    rintro e3 q3 ⟨rfl, hb⟩
    have H3 := Bx.mk (H2.out.below hb)
    have SZ3 : Bx (q2.heap.size ≤ q3.heap.size) := Bx.mk hb.size
    have Oa0_3 := Bx.mk (own_below Oa0_2.out hb)
    clear H2 Oa0_2 b0_x b0_y b0_l
    have b0_x := H3.out.get (g := w.heap.size) (k := 0) (v := .string s0) (by simp)
    have b0_y := H3.out.get (g := w.heap.size) (k := 1) (v := .slice A0 l0.length c0) (by simp)
    have b0_l := H3.out.lt (g := w.heap.size) (k := 1) (v := .slice A0 l0.length c0) (by simp)
    clear hb
    go_wp2_with (fail)
    refine (hcp0 _ (HI0.out.below (H3.out).2)).mono ?_
    rintro e4 q4 ⟨vb0, rfl, ho, hb⟩
    obtain ⟨Ab0, cb0, rfl⟩ := own_len ho
    have H4 := Bx.mk (H3.out.below hb)
    have SZ4 : Bx (q3.heap.size ≤ q4.heap.size) := Bx.mk hb.size
    have Oa0_4 := Bx.mk (own_below Oa0_3.out hb)
    have Ob0_4 := Bx.mk ho
    have Ub0 := Bx.mk (own_hi ho)
    clear H3 Oa0_3 b0_x b0_y b0_l
    have b0_x := H4.out.get (g := w.heap.size) (k := 0) (v := .string s0) (by simp)
    have b0_y := H4.out.get (g := w.heap.size) (k := 1) (v := .slice A0 l0.length c0) (by simp)
    have b0_l := H4.out.lt (g := w.heap.size) (k := 1) (v := .slice A0 l0.length c0) (by simp)
    clear hb ho
    go_wp2_with (fail)
    refine (hi _ _ (PrsAt.own (World.ownsRow.alloc Ob0_4.out _)) (Bx.mk (tab_below ((H4.out.pair (.string s0) (.slice Ab0 l0.length cb0) _ _)).2 hT.out))).mono ?_
    rintro e5 q5 ⟨rfl, hb⟩
    have H5 := Bx.mk ((H4.out.pair (.string s0) (.slice Ab0 l0.length cb0) _ _).below hb)
    have SZ5 : Bx (q4.heap.size + 1 ≤ q5.heap.size) := Bx.mk (by have := hb.size; simp only [World.size_alloc] at this; omega)
    have Oa0_5 := Bx.mk (own_below (World.ownsRow.alloc Oa0_4.out _) hb)
    have Ob0_5 := Bx.mk (own_below (World.ownsRow.alloc Ob0_4.out _) hb)
    clear H4 Oa0_4 Ob0_4 b0_x b0_y b0_l
    have b0_x := H5.out.get (g := w.heap.size) (k := 0) (v := .string s0) (by simp)
    have b0_y := H5.out.get (g := w.heap.size) (k := 1) (v := .slice A0 l0.length c0) (by simp)
    have b0_l := H5.out.lt (g := w.heap.size) (k := 1) (v := .slice A0 l0.length c0) (by simp)
    have b1_x := H5.out.get (g := q4.heap.size) (k := 0) (v := .string s0) (by simp)
    have b1_y := H5.out.get (g := q4.heap.size) (k := 1) (v := .slice Ab0 l0.length cb0) (by simp)
    have b1_l := H5.out.lt (g := q4.heap.size) (k := 1) (v := .slice Ab0 l0.length cb0) (by simp)
    clear hb
    go_wp2_with (fail)
    have HS0 : Bx (q5.cell? ⟨q4.heap.size, 0, none⟩ = some (.string s0) ∧ q5.cell? ⟨q4.heap.size, 1, none⟩ = some (.slice Ab0 l0.length cb0) ∧ q5.cell? ⟨w.heap.size, 0, none⟩ = some (.string s0) ∧ q5.cell? ⟨w.heap.size, 1, none⟩ = some (.slice A0 l0.length c0) ∧ q4.heap.size < q5.heap.size ∧ w.heap.size < q5.heap.size ∧ Below q5.heap.size q5 q5) := Bx.mk ⟨b1_x, b1_y, b0_x, b0_y, b1_l, b0_l, Below.refl _ _⟩
    have HBr := Bx.mk (PrsAt.own Ob0_5.out)
    clear b0_x b0_y b0_l b1_x b1_y b1_l
    go_region_held3 (fun W => W.cell? ⟨q4.heap.size, 0, none⟩ = some (.string s0) ∧ W.cell? ⟨q4.heap.size, 1, none⟩ = some (.slice Ab0 l0.length cb0) ∧ W.cell? ⟨w.heap.size, 0, none⟩ = some (.string s0) ∧ W.cell? ⟨w.heap.size, 1, none⟩ = some (.slice A0 l0.length c0) ∧ q4.heap.size < W.heap.size ∧ w.heap.size < W.heap.size ∧ Below q5.heap.size q5 W)
      (first | (with_reducible exact keepE (by assumption) hb4) | (with_reducible exact keepE (by assumption) (Below.refl _ _)) | (with_reducible exact keepE (by assumption) (Below.refl _ _).drew) | exact keepE HS0.out (Below.refl _ _).drew)
      (first | (go_at_call 11; (with_reducible refine (hcp0 _ (HI0.out.below (bel_up H5.out (by assumption)))).mono ?_); rintro r w4 ⟨vc, rfl, ho, hb4⟩; obtain ⟨Acx, ccx, rfl⟩ := own_len ho; have HC := Bx.mk (PrsAt.own ho); clear ho; have hS0 := keepE (w := q5) (by assumption) hb4) | (go_at_call 13; (with_reducible refine (heq0 _ _ _ (HBr.out.below (bel_of (q := q5) (by assumption))) (by first | (with_reducible exact HC.out) | (with_reducible exact HC.out.below (Below.refl _ _).drew) | exact HC.out)).mono ?_); rintro r w5 ⟨rfl, hb4⟩; have hS0 := keepE (w := q5) (by assumption) hb4))
    all_goals
      obtain ⟨q6, hq, hb⟩ : ∃ q, q = _ ∧ Below q5.heap.size q5 q := ⟨_, rfl, (by assumption : _ ∧ _ ∧ _ ∧ _ ∧ _ ∧ _ ∧ _).2.2.2.2.2.2⟩
      rw [← hq]
      clear hq HBr HS0
      have H6 := Bx.mk (H5.out.below hb)
      have SZ6 : Bx (q5.heap.size ≤ q6.heap.size) := Bx.mk hb.size
      have Oa0_6 := Bx.mk (own_below Oa0_5.out hb)
      have Ob0_6 := Bx.mk (own_below Ob0_5.out hb)
      clear H5 Oa0_5 Ob0_5
      have b0_x := H6.out.get (g := w.heap.size) (k := 0) (v := .string s0) (by simp)
      have b0_y := H6.out.get (g := w.heap.size) (k := 1) (v := .slice A0 l0.length c0) (by simp)
      have b0_l := H6.out.lt (g := w.heap.size) (k := 1) (v := .slice A0 l0.length c0) (by simp)
      have b1_x := H6.out.get (g := q4.heap.size) (k := 0) (v := .string s0) (by simp)
      have b1_y := H6.out.get (g := q4.heap.size) (k := 1) (v := .slice Ab0 l0.length cb0) (by simp)
      have b1_l := H6.out.lt (g := q4.heap.size) (k := 1) (v := .slice Ab0 l0.length cb0) (by simp)
      clear hb
      go_wp2_with (fail)
      go_ret
      exact ⟨rfl, (H6.out).2⟩

theorem own : ownKnob Tryd.prog.godebug = none := by kernel_rfl
theorem laidOut : laidOutB Tryd.prog = true := by kernel_rfl
theorem listed {W : World} (h : laidMetH Tryd.prog Rows.fnExactTuningTextRow.laid W) : ∃ ps, DataW.LaidVars Tryd.prog W Rows.fnExactTuningTextRow.laid ps := by
  rw [Go.MakeChecks.laidMetH_plain _ _ _ (by kernel_rfl)] at h
  obtain ⟨ps, h, _⟩ := h
  exact ⟨ps, h⟩
set_option maxRecDepth 100000 in
theorem contract (H : Type) (enc : TypeId × Value → H) (W : World) (base : Nat) (args : Array Value) (ds gs : List (DataW H)) (before : List MemPlace)
    (hval : ∀ (j : Nat) t v, Tryd.f7.params[j]? = some t → args[j]? = some v → Value.okWide Tryd.prog W .any base t v)
    (hW : DataW.Whole enc Tryd.prog Tryd.f7.params.toList Rows.fnExactTuningTextSpec.vars false W args.toList ds gs before) (hL : laidMetH Tryd.prog Rows.fnExactTuningTextRow.laid W) (hsh : W.ShapedOpen Tryd.prog) :
    Calls Tryd.prog 7 args W fun e W' => ∃ v, e = .returned v ∧ Rows.fnExactTuningTextSpec.post enc Tryd.prog Tryd.f7 false true false false W args v W' := by
  have hW' := hW
  obtain ⟨p, q, hA0, hV, rfl, hfz, hnd⟩ := hW
  obtain ⟨ps, hl⟩ := listed hL
  have hA : DataW.TrodAll enc Tryd.prog W 0 (fun _ => true) true Tryd.f7.params.toList args.toList ds p := hA0
  rw [Tryd.params7] at hA hval
  obtain ⟨v0, vs0, d0, ds0, p0, q0, hargs, rfl, rfl, h0, r0⟩ := trodAll_cons hA
  obtain ⟨rfl, rfl, rfl⟩ := trodAll_nil r0
  obtain rfl : args = #[v0] := by cases args; simp_all
  obtain ⟨rfl, rfl⟩ := trodVars_none hV
  obtain ⟨s0, u0, l0, rfl, w0⟩ := arg_tun (hval 0 24 v0 rfl rfl) h0 (fun x hx => hW'.lt x (by simp [hx]))
  refine (walk s0 u0 l0 w0  hl).mono fun e W' ⟨he, hb⟩ => ?_
  subst he
  exact ⟨_, rfl, post_lawv laidOut (by kernel_rfl) (by kernel_rfl) (by kernel_rfl) Tryd.underlying4 hW' rfl hb⟩

noncomputable def low : Nat := (World.holding Tryd.prog default ⟨#[], #[], []⟩).heap.size
/-- a world for the witness: each listed variable holds what is listed -/
noncomputable def laidWorld (os : Os) : World :=
  { World.holding Tryd.prog os ⟨#[], #[], []⟩ with heap := ((((World.holding Tryd.prog os ⟨#[], #[], []⟩).heap).modify 7 (layCells (datCells (H := Unit) Rows.laid_math_bits_deBruijn32tab))).modify 8 (layCells (datCells (H := Unit) Rows.laid_math_bits_deBruijn64tab))).modify 2 (layCells (datCells (H := Unit) Rows.laid_internal_strconv_uint64pow10)) }
theorem laid_met (os : Os) : laidMet Tryd.prog Rows.fnExactTuningTextRow.laid ((laidWorld os).forCall (fun _ _ => 0) ⟨#[], #[Value.agg #[.string ⟨#[]⟩, .slice none 0 0]], []⟩).memory :=
  laidMet_of_run' 8 (by kernel_rfl) (by kernel_rfl)
theorem reads (os : Os) {H : Type} (enc : TypeId × Value → H) : ∃ places, DataW.whole enc Tryd.prog ((laidWorld os).forCall (fun _ _ => 0) ⟨#[], #[Value.agg #[.string ⟨#[]⟩, .slice none 0 0]], []⟩).memory Tryd.f7.params.toList Rows.fnExactTuningTextSpec.vars false #[Value.agg #[.string ⟨#[]⟩, .slice none 0 0]].toList 8 = some ([.agg [.lit (.string []), .nil]], [], places) :=
  places_of (by kernel_rfl)

set_option maxRecDepth 100000 in
theorem lifted (os : Os) (started : os.Started) (H : Type) (enc : TypeId × Value → H) (F : Stop.Interp) :
    ReturnsInHanded {} Tryd.checked os 7 .any ((OpenSpec.ofChange Rows.fnExactTuningTextSpec).preRow enc Tryd.prog Tryd.f7 Rows.fnExactTuningTextRow.domain false Rows.fnExactTuningTextRow.laid) (((OpenSpec.ofChange Rows.fnExactTuningTextSpec).at F).post enc Tryd.prog Tryd.f7 false true false false) := by
  obtain ⟨places, hx⟩ := reads os enc
  refine returnsInHanded_of_row (C := Tryd.checked) (s := OpenSpec.ofChange Rows.fnExactTuningTextSpec) own started (by kernel_rfl) Tryd.func7
    (witness_row_at (enc := enc) (C := Tryd.checked) false (laidWorld os) #[Value.agg #[.string ⟨#[]⟩, .slice none 0 0]] rfl (by kernel_rfl) (by kernel_rfl) (by kernel_rfl)
      (OpenSpec.preRow_of_cond 8 hx (by kernel_rfl) (fun k hk => by cases hk) (by kernel_rfl) (by rw [Go.MakeChecks.laidMetH_plain _ _ _ (by kernel_rfl)]; exact laid_met os))) ?_
  intro W base args ds gs before hval hW _ _ _ hL hsh _
  exact contract H enc W base args ds gs before hval hW hL hsh

theorem said : Rows.FnExactTuningTextSaid :=
  OpenClaim.holds_of_cond 7 Tryd.f7 rfl rfl rfl rfl rfl rfl rfl ⟨rfl, rfl, rfl, rfl, rfl⟩ rfl rfl rfl rfl rfl (by kernel_rfl) Tryd.func7 (by kernel_rfl)
    (of_decide_eq_true (by kernel_rfl)) (by unfold Func.isWrapper; first | (rw [if_pos (by decide +kernel)]; kernel_rfl) | (rw [if_neg (by decide +kernel)]; exact ⟨rfl, rfl⟩))
    (fun os started H enc _ F => by rw [OpenClaim.pre_eq_preRow]; exact lifted os started H enc F)

theorem plain (f : FuncId) (fn : Func) (hf : Tryd.pinned.checked.prog.funcNamed "loop.example/g01033/laws.FnExactTuningText" = some f) (hfn : Tryd.pinned.checked.prog.funcs[f]? = some fn) :
    true = Tryd.pinned.checked.prog.looks [] ∧ ∀ (j : Nat) t, fn.params[j]? = some t → Tryd.pinned.checked.prog.wantsStandIn t = false := by
  obtain rfl : f = 7 := Option.some.inj ((show Tryd.prog.funcNamed "loop.example/g01033/laws.FnExactTuningText" = some 7 by kernel_rfl).symm.trans hf) |>.symm
  obtain rfl : fn = Tryd.f7 := (Option.some.inj (Tryd.func7.symm.trans hfn)).symm
  refine ⟨by kernel_rfl, fun j t ht => ?_⟩
  rw [Tryd.params7] at ht
  have hm := Array.mem_of_getElem? ht
  have hall : ∀ t ∈ #[24], Tryd.prog.wantsStandIn t = false := by
    intro t ht
    simp at ht
    subst ht; kernel_rfl
  exact hall t hm

theorem card : Rows.FnExactTuningTextCardSaid :=
  Claim7.holds_tied_plain_at .later [] _ _ _ _ said (fun _ h => by cases h) (by kernel_rfl) (fun _ h => by cases h) fnExactTuningText_row_tie rfl ⟨rfl, rfl⟩ (by kernel_rfl) rfl plain (by kernel_rfl)
theorem proved : Rows.FnExactTuningTextCardSaid := card
#print axioms proved
end Go.Proofs.YtbnhcacjlkmfeaaDoor.fnExactTuningText
