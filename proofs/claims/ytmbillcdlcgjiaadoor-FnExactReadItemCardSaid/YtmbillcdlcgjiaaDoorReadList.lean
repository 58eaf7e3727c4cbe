/- ReadList on both sides: one reading of lists (readL). -/
import Derived.Test.YtmbillcdlcgjiaaDoorSplit
import Derived.Test.YtmbillcdlcgjiaaDoorReadDec2
import Derived.Test.YtmbillcdlcgjiaaDoorNum
import Derived.Test.YtmbillcdlcgjiaaDoorRow
import Derived.Test.YtmbillcdlcgjiaaDoorLaw
namespace Go.Proofs.YtmbillcdlcgjiaaDoor
open Go.ChangeShapes Go.WideShapes Go.ChangeAt Go.RowKit
set_option linter.unusedVariables false
set_option linter.unusedSimpArgs false
set_option maxRecDepth 100000

def okv (p : List UInt8) : Option Int := match numZ p with
  | some v => if inB v (-1000000000000) 1000000000000 = true then some v else none
  | none => none
def readP : List (List UInt8) → Option (List Int)
  | [] => some []
  | p :: r => match okv p with
    | none => none
    | some v => (readP r).map (v :: ·)
def readL (l : List UInt8) : Option (List Int) := if l = [45] then some [] else if 64 < (cutL 44 l).length then none else readP (cutL 44 l)

theorem readP_none (ps : List (List UInt8)) (vs : List Int) (k : Nat) (hk : k < ps.length) (h : readP ps = (readP (ps.drop k)).map (vs ++ ·)) (hn : okv (ps.getD k []) = none) : readP ps = none := by
  have e : ps.drop k = ps.getD k [] :: ps.drop (k + 1) := by rw [List.drop_eq_getElem_cons hk]; simp [List.getD, hk]
  rw [h, e, readP, hn]; rfl
theorem readP_some (ps : List (List UInt8)) (vs : List Int) (k : Nat) (v : Int) (hk : k < ps.length) (h : readP ps = (readP (ps.drop k)).map (vs ++ ·)) (hn : okv (ps.getD k []) = some v) :
    readP ps = (readP (ps.drop (k + 1))).map ((vs ++ [v]) ++ ·) := by
  have e : ps.drop k = ps.getD k [] :: ps.drop (k + 1) := by rw [List.drop_eq_getElem_cons hk]; simp [List.getD, hk]
  rw [h, e, readP, hn]
  simp [Option.map_map, Function.comp_def]
theorem readP_end (ps : List (List UInt8)) (vs : List Int) (h : readP ps = (readP (ps.drop ps.length)).map (vs ++ ·)) : readP ps = some vs := by
  rw [h, List.drop_length]; simp [readP]
theorem okv_none1 (p : List UInt8) (h : numZ p = none) : okv p = none := by unfold okv; rw [h]
theorem okv_none2 (p : List UInt8) (v : Int) (h : numZ p = some v) (hb : inB v (-1000000000000) 1000000000000 = false) : okv p = none := by unfold okv; rw [h]; simp [hb]
theorem okv_some (p : List UInt8) (v : Int) (h : numZ p = some v) (hb : inB v (-1000000000000) 1000000000000 = true) : okv p = some v := by unfold okv; rw [h]; simp [hb]

theorem piece_len (c : UInt8) (l : List UInt8) : ∀ p ∈ cutL c l, p.length ≤ l.length := by
  induction l with
  | nil => intro p hp; simp [cutL] at hp; simp [hp]
  | cons b r ih =>
    intro p hp
    unfold cutL at hp
    split at hp
    · rcases List.mem_cons.1 hp with rfl | hp
      · simp
      · have := ih p hp; simp; omega
    · obtain ⟨q, qs, hq⟩ := cut_ne c r
      rw [hq] at hp ih
      rcases List.mem_cons.1 hp with rfl | hp
      · have := ih q (by simp); simp; omega
      · have := ih p (by simp [hp]); simp; omega
theorem str_cells {w : World} {base g cap : Nat} {ps : List (List UInt8)} (h : w.ownsRow base 9 1 (.slice (some ⟨g, 0, none⟩) ps.length cap) ps.length (strs ps)) :
    ∀ k, k < ps.length → w.cell? ⟨g, k, none⟩ = some (.string ⟨(ps.getD k []).toArray⟩) := fun k hk => by
  rw [h.cellAt k (by omega)]
  simp [strs, hk]
theorem ints_snoc (vs : List Int) (v : Int) : ints (vs ++ [v]) = ints vs ++ [.int .i64 v] := by simp [ints]

/-- what a reading of a list hands back: a row of its own, and whether there is one -/
def ListOut (o : Option (List Int)) (w : World) (e : Ending) (w' : World) : Prop :=
  ∃ v, e = .returned (.tuple #[v, .bool o.isSome]) ∧ w'.ownsRow w.heap.size 2 1 v (o.getD []).length (ints (o.getD [])) ∧ Below w.heap.size w w'
theorem out_none {o : Option (List Int)} {w w' : World} (h : o = none) (hb : Below w.heap.size w w') : ListOut o w (.returned (.tuple #[.slice none 0 0, .bool false])) w' :=
  ⟨_, by rw [h]; rfl, by rw [h]; exact World.ownsRow_nil _ _ _ _, hb⟩
theorem out_some {o : Option (List Int)} {w w' : World} {v : Value} {vs : List Int} (h : o = some vs) (ho : w'.ownsRow w.heap.size 2 1 v vs.length (ints vs)) (hb : Below w.heap.size w w') :
    ListOut o w (.returned (.tuple #[v, .bool true])) w' := ⟨_, by rw [h]; rfl, by rw [h]; exact ho, hb⟩
theorem own_mono {w : World} {b1 b2 : Nat} {e : TypeId} {size n : Nat} {v : Value} {xs : List Value} (h : w.ownsRow b2 e size v n xs) (hb : b1 ≤ b2) : w.ownsRow b1 e size v n xs := by
  refine ⟨h.1, ?_⟩
  rcases h.2 with h2 | ⟨g, cap, cur, h1, h2, h3⟩
  · exact .inl h2
  · exact .inr ⟨g, cap, cur, h1, Nat.le_trans hb h2, h3⟩

set_option maxHeartbeats 2000000 in
set_option maxRecDepth 100000 in
theorem spec_readlist (s : ByteArray) (w : World) (hs : s.size ≤ 1048576) :
    Calls Tryd.prog 30 #[.string s] w (ListOut (readL s.data.toList) w) := by
  obtain ⟨i0, hi, hz0, hz1, hz2⟩ := info_parts infoI64
  by_cases h1 : s.data.toList = [45]
  · have HR : Bx (readL s.data.toList = some []) := Bx.mk (by unfold readL; rw [if_pos h1])
    have hE : (s.toList == [45]) = true := by rw [ByteArray.toList_eq, h1]; rfl
    clear h1
    go_enter Tryd.func30, Tryd.ntmps30
    go_wp2
    go_ret2
    exact out_some (vs := []) HR.out (World.ownsRow_lit _ _ _ (Nat.le_refl _) (by decide) (by decide)) ((Below.refl _ _).alloc (Nat.le_refl _) _)
  · have hE : (s.toList == [45]) = false := by rw [ByteArray.toList_eq]; simpa using h1
    by_cases h64 : 64 < (cutL 44 s.data.toList).length
    · have HR : Bx (readL s.data.toList = none) := Bx.mk (by unfold readL; rw [if_neg h1, if_pos h64])
      clear h1
      go_enter Tryd.func30, Tryd.ntmps30
      go_wp2_with ((go_at_call 29; refine (spec_split s 44 _ (by omega)).mono ?_; rintro e w1 ⟨v, rfl, hown, hb⟩; obtain ⟨g, cap, rfl, _, _⟩ := hown.form (by omega); have HB := Bx.mk hb; clear hown hb))
      go_ret2
      exact out_none HR.out HB.out
    · have HR : Bx (readL s.data.toList = readP (cutL 44 s.data.toList)) := Bx.mk (by unfold readL; rw [if_neg h1, if_neg h64])
      have HPL : Bx (∀ p ∈ cutL 44 s.data.toList, p.length ≤ 1048576) := Bx.mk (fun p hp => by have := piece_len 44 _ p hp; simp at this; omega)
      obtain ⟨p0, pr, hne⟩ := cut_ne 44 s.data.toList
      have hn1 : 1 ≤ (cutL 44 s.data.toList).length := by rw [hne]; simp
      have hsplit := fun W => spec_split s 44 W (by omega)
      clear h1 hne
      generalize cutL 44 s.data.toList = ps at HR HPL h64 hn1 hsplit
      go_enter Tryd.func30, Tryd.ntmps30
      go_wp2_with ((go_at_call 29; refine (hsplit _).mono ?_; rintro e w1 ⟨v, rfl, hown, hb⟩; obtain ⟨g, cap, rfl, hg1, hg2⟩ := hown.form (by omega); have HC := Bx.mk (str_cells hown); have HB := Bx.mk hb; clear hown hb hsplit))
      go_loopw [5, 6] (fun v i wr => ∃ (k : Nat) (vs : List Int), k ≤ ps.length ∧ vs.length = k ∧ i = .int .i64 k ∧ wr.ownsRow w1.heap.size 2 1 v vs.length (ints vs) ∧ Below w1.heap.size w1 wr ∧ Bx (readP ps = (readP (ps.drop k)).map (vs ++ ·))) (fun _ i _ => ps.length - (intOf i).toNat)
      case atStart => exact ⟨0, [], Nat.zero_le _, rfl, rfl, World.ownsRow_lit _ _ _ (Nat.le_refl _) (by decide) (by decide), (Below.refl _ _).alloc (Nat.le_refl _) _, Bx.mk (by simp)⟩
      case round =>
        obtain ⟨k, vs, hk, hvk, rfl, hown, hb, HP⟩ := hrel
        have hsize := hb.size
        by_cases hlt : k < ps.length
        · have hc : wr.cell? ⟨g, k, none⟩ = some (.string ⟨(ps.getD k []).toArray⟩) := (hb.cell (p := ⟨g, k, none⟩) hg2).trans (HC.out k hlt)
          have hql : (ps.getD k []).length ≤ 1048576 := by
            have : ps.getD k [] ∈ ps := by simp [List.getD, hlt]
            exact HPL.out _ this
          have H0 := Bx.mk (readP_none ps vs k hlt HP.out)
          have H1 := fun v => Bx.mk (readP_some ps vs k v hlt HP.out)
          generalize ps.getD k [] = q at hc hql H0 H1
          have hnum : ∀ W : World, Calls Tryd.prog 44 #[.string ⟨q.toArray⟩] W fun e w' => e = .returned (.tuple #[.int .i64 ((numZ q).getD 0), .bool (numZ q).isSome]) ∧ W = w' :=
            fun W => spec_num_t ⟨q.toArray⟩ W (by show q.toArray.size ≤ maxLen; unfold maxLen; simp; omega)
          cases hz : numZ q with
          | none =>
            have HN : Bx (readL s.data.toList = none) := Bx.mk (by rw [HR.out]; exact H0.out (okv_none1 q hz))
            rw [hz] at hnum
            clear hz H0 H1 HP HR hql hown
            go_wp2_with ((go_at_call 44; refine (hnum _).mono ?_; rintro e w' ⟨rfl, rfl⟩))
            go_ret2
            exact out_none HN.out (HB.out.trans (hb.mono HB.out.size))
          | some v =>
            rw [hz] at hnum
            cases hbv : inB v (-1000000000000) 1000000000000
            · have HN : Bx (readL s.data.toList = none) := Bx.mk (by rw [HR.out]; exact H0.out (okv_none2 q v hz hbv))
              clear hz H0 H1 HP HR hql hown
              go_wp2_with (first | (go_at_call 44; refine (hnum _).mono ?_; rintro e w' ⟨rfl, rfl⟩) | (go_at_call 21; refine (in_any _ _ _ _).mono ?_; rintro e w' ⟨rfl, rfl⟩))
              go_ret2
              exact out_none HN.out (HB.out.trans (hb.mono HB.out.size))
            · have HN : Bx (readP ps = (readP (ps.drop (k + 1))).map ((vs ++ [v]) ++ ·)) := Bx.mk ((H1 v).out (okv_some q v hz hbv))
              clear hz H0 H1 HP hql
              go_wp2_with (first | (go_at_call 44; refine (hnum _).mono ?_; rintro e w' ⟨rfl, rfl⟩) | (go_at_call 21; refine (in_any _ _ _ _).mono ?_; rintro e w' ⟨rfl, rfl⟩) | (at_builtin; refine wpList_append_own _ rfl _ _ 38 rfl w1.heap.size 2 i0 (.int .i64 0) 1 8 Tryd.underlying38 hi hz0 hz1 hz2 rfl (by decide) _ _ _ rfl (hown.alloc _) ⟨wr.heap.size, 0, none⟩ 1 1 [.int .i64 v] rfl rfl (cell_one_new _ _ _) (fun x hx => by simp at hx; subst hx; rfl) (by unfold maxLen; omega) (by omega) (by simp; omega) ?_; intro v' w3 hown' hgrow3 hnil3))
              have hown2 : w3.ownsRow w1.heap.size 2 1 v' (vs ++ [v]).length (ints (vs ++ [v])) := by
                rw [ints_snoc, List.length_append]; exact hown'
              have hb2 := below_app' hb hown (Nat.le_refl _) hgrow3
              clear hown' hgrow3 hnil3 hown
              go_roundw
              case rel => exact ⟨k + 1, vs ++ [v], by omega, by simp; omega, by go_num, hown2, hb2, HN⟩
              case measure => simp [intOf]; omega
        · obtain rfl : k = ps.length := by omega
          have HN : Bx (readL s.data.toList = some vs) := Bx.mk (by rw [HR.out]; exact readP_end ps vs HP.out)
          clear HP HR
          go_wp2
          go_ret2
          exact out_some HN.out (own_mono hown HB.out.size) (HB.out.trans (hb.mono HB.out.size))
/-- strings.Split at one byte, said as a plain cut -/
theorem impl_split (s : ByteArray) (c : UInt8) (w : World) (hs : s.size < 4294967281) (hm : ∃ m, w.cell? ⟨0, 0, none⟩ = some (.int .i64 m)) :
    Calls Tryd.prog 33 #[.string s, .string ⟨#[c]⟩] w fun e w' => ∃ g, e = .returned (.slice (some ⟨g, 0, none⟩) (cutL c s.data.toList).length (cutL c s.data.toList).length) ∧ g < w'.heap.size ∧
      (∀ k, k < (cutL c s.data.toList).length → w'.cell? ⟨g, k, none⟩ = some (.string ⟨((cutL c s.data.toList).getD k []).toArray⟩)) ∧ Below w.heap.size w w' := by
  obtain ⟨m, hm⟩ := hm
  refine (Tryd.strings_Split s ⟨#[c]⟩ m w hs hm (Nat.le_refl 1)).mono ?_
  rintro e w' ⟨rfl, rfl⟩
  have h1 := split_cut c _ s rfl
  have h2 := Lib.splitB_all ⟨#[c]⟩ (Nat.le_refl 1) 0 _ s rfl
  have h3 : (cutL c s.data.toList).length = Lib.countB s ⟨#[c]⟩ + 1 := by rw [← h1, List.length_map, h2]
  refine ⟨w.heap.size, by rw [h3], by simp, fun k hk => ?_, (Below.refl _ _).alloc (Nat.le_refl _) _⟩
  rw [World.cell?_alloc_at _ _ _ _ rfl, ← h1]
  have hk2 : k < (Lib.splitB ⟨#[c]⟩ 0 (Lib.countB s ⟨#[c]⟩) s).length := by rw [h2, ← h3]; exact hk
  simp only [List.getElem?_toArray, List.getElem?_map, List.getElem?_eq_getElem hk2, Option.map_some, List.getD, Option.getD_some]
theorem count_cut (s : ByteArray) (c : UInt8) (w : World) : Calls Tryd.prog 32 #[.string s, .string ⟨#[c]⟩] w fun e w' => e = .returned (.int .i64 (((cutL c s.data.toList).length : Int) - 1)) ∧ w = w' := by
  refine (Tryd.strings_Count_one s c w).mono ?_
  rintro e w' ⟨rfl, rfl⟩
  refine ⟨ret_int ?_, rfl⟩
  rw [cut_count]; unfold Lib.countByte; omega
theorem maxlen_below {w w' : World} {g : Nat} (h : ∃ m, w.cell? ⟨g, 0, none⟩ = some (.int .i64 m)) (hg : g < w.heap.size) (hb : Below w.heap.size w w') : ∃ m, w'.cell? ⟨g, 0, none⟩ = some (.int .i64 m) := by
  obtain ⟨m, hm⟩ := h
  exact ⟨m, (hb.cell (p := ⟨g, 0, none⟩) hg).trans hm⟩

set_option maxHeartbeats 2000000 in
set_option maxRecDepth 100000 in
theorem impl_readlist (s : ByteArray) (w : World) (hs : s.size ≤ 1048576) (hv : Bx (Vars w)) (hm : Bx (∃ m, w.cell? ⟨0, 0, none⟩ = some (.int .i64 m))) :
    Calls Tryd.prog 18 #[.string s] w (ListOut (readL s.data.toList) w) := by
  obtain ⟨i0, hi, hz0, hz1, hz2⟩ := info_parts infoI64
  by_cases h1 : s.data.toList = [45]
  · have HR : Bx (readL s.data.toList = some []) := Bx.mk (by unfold readL; rw [if_pos h1])
    have hE : (s.toList == [45]) = true := by rw [ByteArray.toList_eq, h1]; rfl
    clear h1
    go_enter Tryd.func18, Tryd.ntmps18
    go_wp2
    go_ret2
    exact out_some (vs := []) HR.out (World.ownsRow_nil _ _ _ _) (Below.refl _ _)
  · have hE : (s.toList == [45]) = false := by rw [ByteArray.toList_eq]; simpa using h1
    have hcount := fun W => count_cut s 44 W
    by_cases h64 : 64 < (cutL 44 s.data.toList).length
    · have HR : Bx (readL s.data.toList = none) := Bx.mk (by unfold readL; rw [if_neg h1, if_pos h64])
      clear h1
      generalize (cutL 44 s.data.toList).length = n at h64 hcount
      have hni : (64 : Int) ≤ (n : Int) - 1 := by omega
      clear h64
      go_enter Tryd.func18, Tryd.ntmps18
      go_wp2_with ((go_at_call 32; refine (hcount _).mono ?_; rintro e w1 ⟨rfl, rfl⟩))
      go_ret2
      exact out_none HR.out (Below.refl _ _)
    · have HR : Bx (readL s.data.toList = readP (cutL 44 s.data.toList)) := Bx.mk (by unfold readL; rw [if_neg h1, if_neg h64])
      have HPL : Bx (∀ p ∈ cutL 44 s.data.toList, p.length ≤ 1048576) := Bx.mk (fun p hp => by have := piece_len 44 _ p hp; simp at this; omega)
      obtain ⟨p0, pr, hne⟩ := cut_ne 44 s.data.toList
      have hn1 : 1 ≤ (cutL 44 s.data.toList).length := by rw [hne]; simp
      have hsplit := fun W hmW => impl_split s 44 W (by omega) hmW
      clear h1 hne
      generalize cutL 44 s.data.toList = ps at HR HPL h64 hn1 hsplit hcount
      have hni : ((ps.length : Int) - 1) < 64 := by omega
      go_enter Tryd.func18, Tryd.ntmps18
      go_wp2_with (first | (go_at_call 32; refine (hcount _).mono ?_; rintro e w0 ⟨rfl, rfl⟩) | (go_at_call 33; refine (hsplit _ hm.out).mono ?_; rintro e w1 ⟨g, rfl, hg2, hcs, hb⟩; have HC := Bx.mk hcs; have HB := Bx.mk hb; clear hcs hb hsplit hcount))
      go_loopw [4, 17] (fun v i wr => ∃ (k : Nat) (vs : List Int), k ≤ ps.length ∧ vs.length = k ∧ i = .int .i64 k ∧ wr.ownsRow w1.heap.size 2 1 v vs.length (ints vs) ∧ Below w1.heap.size w1 wr ∧ Bx (readP ps = (readP (ps.drop k)).map (vs ++ ·))) (fun _ i _ => ps.length - (intOf i).toNat)
      case atStart => exact ⟨0, [], Nat.zero_le _, rfl, rfl, World.ownsRow_nil _ _ _ _, Below.refl _ _, Bx.mk (by simp)⟩
      case round =>
        obtain ⟨k, vs, hk, hvk, rfl, hown, hb, HP⟩ := hrel
        have hsize := hb.size
        have HV4 : Bx (Vars wr) := Bx.mk (hv.out.below (HB.out.trans (hb.mono HB.out.size)))
        by_cases hlt : k < ps.length
        · have hc : wr.cell? ⟨g, k, none⟩ = some (.string ⟨(ps.getD k []).toArray⟩) := (hb.cell (p := ⟨g, k, none⟩) hg2).trans (HC.out k hlt)
          have hql : (ps.getD k []).length ≤ 1048576 := by
            have : ps.getD k [] ∈ ps := by simp [List.getD, hlt]
            exact HPL.out _ this
          have H0 := Bx.mk (readP_none ps vs k hlt HP.out)
          have H1 := fun v => Bx.mk (readP_some ps vs k v hlt HP.out)
          generalize ps.getD k [] = q at hc hql H0 H1
          have hnum : Calls Tryd.prog 34 #[.string ⟨q.toArray⟩] wr fun e w' => e = .returned (.tuple #[.int .i64 ((numZ q).getD 0), .bool (numZ q).isSome]) ∧ Below wr.heap.size wr w' :=
            impl_read_t ⟨q.toArray⟩ wr (by show q.toArray.size ≤ 1048576; simp; omega) HV4
          cases hz : numZ q with
          | none =>
            have HN : Bx (readL s.data.toList = none) := Bx.mk (by rw [HR.out]; exact H0.out (okv_none1 q hz))
            rw [hz] at hnum
            clear hz H0 H1 HP HR hql hown
            go_wp2_with ((go_at_call 34; refine (hnum).mono ?_; rintro e w4 ⟨rfl, hb4⟩; have HB4 := Bx.mk hb4; clear hb4))
            go_ret2
            exact out_none HN.out ((HB.out.trans (hb.mono HB.out.size)).trans (HB4.out.mono (Nat.le_trans HB.out.size hb.size)))
          | some v =>
            rw [hz] at hnum
            cases hbv : inB v (-1000000000000) 1000000000000
            · have HN : Bx (readL s.data.toList = none) := Bx.mk (by rw [HR.out]; exact H0.out (okv_none2 q v hz hbv))
              clear hz H0 H1 HP HR hql hown
              go_wp2_with (first | (go_at_call 34; refine (hnum).mono ?_; rintro e w4 ⟨rfl, hb4⟩; have HB4 := Bx.mk hb4; clear hb4) | (go_at_call 26; refine (isvalue_any _ _).mono ?_; rintro e w' ⟨rfl, rfl⟩))
              go_ret2
              exact out_none HN.out ((HB.out.trans (hb.mono HB.out.size)).trans (HB4.out.mono (Nat.le_trans HB.out.size hb.size)))
            · have HN : Bx (readP ps = (readP (ps.drop (k + 1))).map ((vs ++ [v]) ++ ·)) := Bx.mk ((H1 v).out (okv_some q v hz hbv))
              clear hz H0 H1 HP hql
              go_wp2_with (first | (go_at_call 34; refine (hnum).mono ?_; rintro e w4 ⟨rfl, hb4⟩; have hown4 := own_below hown hb4; have hb5 := hb.trans (hb4.mono hb.size); have hsize5 := hb5.size; clear hb4 hown hb) | (go_at_call 26; refine (isvalue_any _ _).mono ?_; rintro e w' ⟨rfl, rfl⟩) | (at_builtin; refine wpList_append_own _ rfl _ _ 38 rfl w1.heap.size 2 i0 (.int .i64 0) 1 8 Tryd.underlying38 hi hz0 hz1 hz2 rfl (by decide) _ _ _ rfl (hown4.alloc _) ⟨w4.heap.size, 0, none⟩ 1 1 [.int .i64 v] rfl rfl (cell_one_new _ _ _) (fun x hx => by simp at hx; subst hx; rfl) (by unfold maxLen; omega) (by omega) (by simp; omega) ?_; intro v' w3 hown' hgrow3 hnil3))
              have hown2 : w3.ownsRow w1.heap.size 2 1 v' (vs ++ [v]).length (ints (vs ++ [v])) := by
                rw [ints_snoc, List.length_append]; exact hown'
              have hb2 := below_app' hb5 hown4 (Nat.le_refl _) hgrow3
              clear hown' hgrow3 hnil3 hown4
              go_roundw
              case rel => exact ⟨k + 1, vs ++ [v], by omega, by simp; omega, by go_num, hown2, hb2, HN⟩
              case measure => simp [intOf]; omega
        · obtain rfl : k = ps.length := by omega
          have HN : Bx (readL s.data.toList = some vs) := Bx.mk (by rw [HR.out]; exact readP_end ps vs HP.out)
          clear HP HR
          go_wp2
          go_ret2
          exact out_some HN.out (own_mono hown HB.out.size) (HB.out.trans (hb.mono HB.out.size))
end Go.Proofs.YtmbillcdlcgjiaaDoor
