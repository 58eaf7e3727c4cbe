/- 'laws.FnExactReadTuning' returns true at every input: ReadTuning on both sides is one function (readTu). -/
import Derived.Test.YtobhmoohalkijaaDoorTu4
import Derived.Test.YtobhmoohalkijaaDoorTu5
import Derived.Test.YtobhmoohalkijaaDoorHold
import Derived.Test.YtobhmoohalkijaaDoorRatRead
import Derived.Test.YtobhmoohalkijaaDoorTuN
import Derived.Test.YtobhmoohalkijaaDoorTu6
import Derived.Test.YtobhmoohalkijaaDoorTuM
import Derived.Test.YtobhmoohalkijaaDoorRatLc
namespace Go.Proofs.YtobhmoohalkijaaDoor
open Go.ChangeShapes Go.WideShapes Go.ChangeAt Go.RowKit
set_option linter.unusedVariables false
set_option linter.unusedSimpArgs false
set_option maxRecDepth 100000

theorem Holds.grown {w W W' : World} {L : List (Nat × Nat × Value)} {row : Option Nat} (h : Holds w L W) (hg : W.grownBy W' row) (hn : ∀ p ∈ L, row ≠ some p.1) (hr : ∀ k, row = some k → w.heap.size ≤ k) : Holds w L W' := by
  refine ⟨fun p hp => ?_, h.2.grown hg h.2.size hr⟩
  obtain ⟨h1, h2⟩ := h.1 p hp
  refine ⟨?_, Nat.lt_of_lt_of_le h2 hg.size⟩
  have := hg.block p.1 h2 (fun e => hn p hp e.symm)
  unfold World.cell? at h1 ⊢
  rw [this]; exact h1
theorem Holds.bel {w W : World} {L : List (Nat × Nat × Value)} (h : Holds w L W) : Below w.heap.size w W := h.2
theorem bel_of {q W : World} {a b c d e f : Prop} (h : a ∧ b ∧ c ∧ d ∧ e ∧ f ∧ Below q.heap.size q W) : Below q.heap.size q W := h.2.2.2.2.2.2
theorem bel_up {w q W : World} {L : List (Nat × Nat × Value)} {a b c d e f : Prop} (H : Holds w L q) (h : a ∧ b ∧ c ∧ d ∧ e ∧ f ∧ Below q.heap.size q W) : Below w.heap.size w W := (Holds.bel H).trans ((bel_of h).mono (Holds.bel H).size)
theorem szT_ways (s : ByteArray) (l : List (Int × Int)) (k : Int) : szT s l k = -1 ∨ (szT s l k = k - s.size - l.length ∧ (s.size : Int) + l.length ≤ k) := by
  unfold szT szN
  split
  · exact .inl rfl
  · split
    · exact .inl rfl
    · exact .inr ⟨rfl, by omega⟩
theorem eq_tun_same (s : ByteArray) (va vb : Value) (xs : List (Int × Int)) (w : World) (ha : PrsAt w va xs) (hb : PrsAt w vb xs) (hx : xs.length ≤ 281474976710656) :
    Calls Tryd.prog 9 #[tun s va, tun s vb] w fun e w' => e = .returned (.bool true) ∧ Below w.heap.size w w' :=
  (eq_tun s s va vb xs xs w ha hb hx hx).mono fun _ _ ⟨he, h⟩ => ⟨by rw [he]; simp, h⟩
/-- a tuning made anew -/
def TunOut (s : ByteArray) (l : List (Int × Int)) (w : World) (e : Ending) (w' : World) : Prop :=
  ∃ v, e = .returned (tun s v) ∧ w'.ownsRow w.heap.size 50 2 v l.length (pcl l) ∧ Below w.heap.size w w'
/-- .. and something beside it -/
def TunOut2 (s : ByteArray) (l : List (Int × Int)) (cv : Value) (w : World) (e : Ending) (w' : World) : Prop :=
  ∃ v, e = .returned (.tuple #[tun s v, cv]) ∧ w'.ownsRow w.heap.size 50 2 v l.length (pcl l) ∧ Below w.heap.size w w'
theorem own_down2 {w : World} {b1 b2 e size n : Nat} {v : Value} {xs : List Value} (hb : b1 ≤ b2) (h : w.ownsRow b2 e size v n xs) : w.ownsRow b1 e size v n xs := own_down hb h
theorem PrsAt.alloc {w : World} {v : Value} {l : List (Int × Int)} (h : PrsAt w v l) (o : Obj) : PrsAt (w.alloc o) v l := h.below ((Below.refl _ _).alloc (Nat.le_refl _) _)
end Go.Proofs.YtobhmoohalkijaaDoor

namespace Go.Proofs.YtobhmoohalkijaaDoor
open Go.ChangeShapes Go.WideShapes Go.ChangeAt Go.RowKit
set_option linter.unusedVariables false
set_option linter.unusedSimpArgs false
set_option maxRecDepth 100000

theorem ints_own {te : TypeId} {w : World} {base : Nat} {v : Value} {zs : List Int} (h : w.ownsRow base te 1 v zs.length (ints zs)) : IntsAt w v zs := by
  rcases Nat.eq_zero_or_pos zs.length with h0 | h0
  · refine .inl ⟨List.eq_nil_of_length_eq_zero h0, ?_⟩
    rcases h.2 with ⟨hv, _⟩ | ⟨g, cap, cur, hv, _⟩
    · exact ⟨none, 0, hv⟩
    · exact ⟨some ⟨g, 0, none⟩, cap, by rw [hv, h0]⟩
  · obtain ⟨g, cap, rfl, _, hlt⟩ := h.form h0
    refine .inr ⟨g, 0, cap, rfl, hlt, fun k hk => ?_⟩
    rw [Nat.zero_add, h.cellAt k (by omega), ints_at zs k hk]

theorem mark_intsE {te : TypeId} (v : Value) (zs : List Int) (base : Nat) (k : Int) (w : World) (h : w.ownsRow base te 1 v zs.length (ints zs)) (hn : zs.length ≤ 281474976710656) (hk : 0 ≤ k) (hk2 : k ≤ 1000000000) :
    Calls Tryd.prog 40 #[v, .int .i64 k] w fun e w' => e = .returned (.int .i64 (k + zs.length)) ∧ w'.ownsRow base te 1 v zs.length (ints (marks zs.length k)) ∧ w.grownBy w' v.ownBlock := by
  rcases Nat.eq_zero_or_pos zs.length with h0 | h0
  · obtain rfl := List.eq_nil_of_length_eq_zero h0
    obtain ⟨A, c, rfl⟩ : ∃ A c, v = .slice A 0 c := by
      rcases h.2 with ⟨hv, _⟩ | ⟨g, cap, cur, hv, _⟩
      · exact ⟨none, 0, hv⟩
      · exact ⟨_, cap, hv⟩
    have HO := Bx.mk h
    clear h
    go_enter Tryd.func40, Tryd.ntmps40
    go_wp2
    refine wp_loop_rounds 1 ?_
    rw [rounds_succ]
    go_wp2
    go_ret
    exact ⟨ret_int (by simp), by simpa [marks] using HO.out, World.grownBy.refl w _⟩
  · obtain ⟨g, cap, rfl, hbg, hlt⟩ := h.form h0
    have HO := Bx.mk h
    clear h
    go_enter Tryd.func40, Tryd.ntmps40
    go_wp2
    go_loopw [1, 5] (fun q i wr => ∃ j : Nat, j ≤ zs.length ∧ i = .int .i64 j ∧ q = .int .i64 (k + j) ∧ Bx (wr.ownsRow base te 1 (.slice (some ⟨g, 0, none⟩) zs.length cap) zs.length (ints (mixed zs k j)) ∧ w.grownBy wr (some g))) (fun _ i _ => zs.length - (intOf i).toNat)
    case atStart => exact ⟨0, Nat.zero_le _, rfl, by go_num, Bx.mk ⟨by rw [mixed_zero]; exact HO.out, World.grownBy.refl w _⟩⟩
    case round =>
      obtain ⟨j, hj, rfl, rfl, HB⟩ := hrel
      by_cases hlt : j < zs.length
      · have hc : ∃ u, wr.cell? ⟨g, j, none⟩ = some u := by
          rw [HB.out.1.cellAt j (by omega)]
          have : j < (ints (mixed zs k j)).length := by rw [ints_len, mixed_len _ _ _ hj]; exact hlt
          exact ⟨_, List.getElem?_eq_getElem this⟩
        obtain ⟨u, hc⟩ := hc
        have hf := HB.out.1.frozenAt j
        have HS : Bx ((wr.setCell ⟨g, j, none⟩ (.int .i64 (k + j))).ownsRow base te 1 (.slice (some ⟨g, 0, none⟩) zs.length cap) zs.length (ints (mixed zs k (j + 1))) ∧ w.grownBy (wr.setCell ⟨g, j, none⟩ (.int .i64 (k + j))) (some g)) := Bx.mk (by
          have hs := HB.out.1.stored j (.int .i64 (k + j))
          rw [mixed_step zs k j hlt] at hs
          exact ⟨hs.1, HB.out.2.trans hs.2⟩)
        clear HB
        go_wp2
        go_roundw
        case rel => exact ⟨j + 1, by omega, by go_num, by go_num, HS⟩
        case measure => simp [intOf]; omega
      · obtain rfl : j = zs.length := by omega
        have HE := HB.out
        rw [mixed_all] at HE
        have HE := Bx.mk HE
        go_wp2
        go_ret
        exact ⟨ret_int (by simp), HE.out.1, HE.out.2⟩

theorem prs_own {te : TypeId} {w : World} {base : Nat} {v : Value} {l : List (Int × Int)} (h : w.ownsRow base te 2 v l.length (pcl l)) : PrsAt w v l := by
  rcases Nat.eq_zero_or_pos l.length with h0 | h0
  · refine .inl ⟨List.eq_nil_of_length_eq_zero h0, ?_⟩
    rcases h.2 with ⟨hv, _⟩ | ⟨g, cap, cur, hv, _⟩
    · exact ⟨none, 0, hv⟩
    · exact ⟨some ⟨g, 0, none⟩, cap, by rw [hv, h0]⟩
  · obtain ⟨g, cap, rfl, _, hlt⟩ := h.form h0
    refine .inr ⟨g, 0, cap, rfl, hlt, fun k hk => ⟨?_, ?_⟩⟩
    · rw [Nat.zero_add, h.cellAt (k * 2) (by omega), pcl_at0 l k hk]
    · rw [Nat.zero_add, h.cellAt (k * 2 + 1) (by omega), pcl_at1 l k hk]
set_option maxHeartbeats 1000000 in
theorem mark_prsE {te : TypeId} (v : Value) (l : List (Int × Int)) (base : Nat) (k : Int) (w : World) (h : w.ownsRow base te 2 v l.length (pcl l)) (hn : l.length ≤ 281474976710656) (hk : 0 ≤ k) (hk2 : k ≤ 1000000000) :
    Calls Tryd.prog 32 #[v, .int .i64 k] w fun e w' => e = .returned (.int .i64 (k + 2 * l.length)) ∧ w'.ownsRow base te 2 v l.length (pcl (pmk l.length k)) ∧ w.grownBy w' v.ownBlock := by
  rcases Nat.eq_zero_or_pos l.length with h0 | h0
  · obtain rfl := List.eq_nil_of_length_eq_zero h0
    obtain ⟨A, c, rfl⟩ : ∃ A c, v = .slice A 0 c := by
      rcases h.2 with ⟨hv, _⟩ | ⟨g, cap, cur, hv, _⟩
      · exact ⟨none, 0, hv⟩
      · exact ⟨_, cap, hv⟩
    have HO := Bx.mk h
    clear h
    go_enter Tryd.func32, Tryd.ntmps32
    go_wp2
    refine wp_loop_rounds 1 ?_
    rw [rounds_succ]
    go_wp2
    go_ret
    exact ⟨ret_int (by simp), by simpa [pmk] using HO.out, World.grownBy.refl w _⟩
  · obtain ⟨g, cap, rfl, hbg, hlt⟩ := h.form h0
    have HO := Bx.mk h
    clear h
    go_enter Tryd.func32, Tryd.ntmps32
    go_wp2
    go_loopw [1, 5] (fun q i wr => ∃ j : Nat, j ≤ l.length ∧ i = .int .i64 j ∧ q = .int .i64 (k + 2 * j) ∧ Bx (wr.ownsRow base te 2 (.slice (some ⟨g, 0, none⟩) l.length cap) l.length (pcl (pmix l k j)) ∧ w.grownBy wr (some g))) (fun _ i _ => l.length - (intOf i).toNat)
    case atStart => exact ⟨0, Nat.zero_le _, rfl, by go_num, Bx.mk ⟨by rw [pmix_zero]; exact HO.out, World.grownBy.refl w _⟩⟩
    case round =>
      obtain ⟨j, hj, rfl, rfl, HB⟩ := hrel
      by_cases hlt : j < l.length
      · have hml := pmix_len l k j hj
        have hc : wr.cell? ⟨g, j * 2, none⟩ = some (.int .i64 (pat (pmix l k j) j).1) := (HB.out.1.cellAt (j * 2) (by omega)).trans (pcl_at0 _ j (by omega))
        have hc1 : wr.cell? ⟨g, j * 2 + 1, none⟩ = some (.int .i64 (pat (pmix l k j) j).2) := (HB.out.1.cellAt (j * 2 + 1) (by omega)).trans (pcl_at1 _ j (by omega))
        have hf := HB.out.1.frozenAt (j * 2)
        have hf1 := HB.out.1.frozenAt (j * 2 + 1)
        have HS : Bx (((wr.setCell ⟨g, j * 2, none⟩ (.int .i64 (k + 2 * j))).setCell ⟨g, j * 2 + 1, none⟩ (.int .i64 (k + 2 * j + 1))).ownsRow base te 2 (.slice (some ⟨g, 0, none⟩) l.length cap) l.length (pcl (pmix l k (j + 1))) ∧ w.grownBy ((wr.setCell ⟨g, j * 2, none⟩ (.int .i64 (k + 2 * j))).setCell ⟨g, j * 2 + 1, none⟩ (.int .i64 (k + 2 * j + 1))) (some g)) := Bx.mk (by
          have hs := HB.out.1.stored (j * 2) (.int .i64 (k + 2 * j))
          have hs2 := hs.1.stored (j * 2 + 1) (.int .i64 (k + 2 * j + 1))
          rw [pcl_set _ j (k + 2 * j, k + 2 * j + 1) (by omega), pmix_step l k j hlt] at hs2
          exact ⟨hs2.1, (HB.out.2.trans hs.2).trans hs2.2⟩)
        generalize (pat (pmix l k j) j).1 = u0 at hc
        generalize (pat (pmix l k j) j).2 = u1 at hc1
        clear HB hml
        go_wp2
        go_roundw
        case rel => exact ⟨j + 1, by omega, by go_num, by go_num, HS⟩
        case measure => simp [intOf]; omega
      · obtain rfl : j = l.length := by omega
        have HE := HB.out
        rw [pmix_all] at HE
        have HE := Bx.mk HE
        go_wp2
        go_ret
        exact ⟨ret_int (by simp), HE.out.1, HE.out.2⟩
set_option maxHeartbeats 1000000 in
theorem mark_tunE {te : TypeId} (s : ByteArray) (v : Value) (l : List (Int × Int)) (base : Nat) (k : Int) (w : World) (h : w.ownsRow base te 2 v l.length (pcl l)) (hn : l.length ≤ 281474976710656) (hk : 0 ≤ k) (hk2 : k ≤ 1000000000) :
    Calls Tryd.prog 10 #[tun s v, .int .i64 k] w fun e w' => e = .returned (.int .i64 (k + 2 * l.length)) ∧ w'.ownsRow base te 2 v l.length (pcl (pmk l.length k)) ∧ (w.alloc (.cells #[.string s, v] 24)).grownBy w' v.ownBlock := by
  have hm := fun W hW => mark_prsE (te := te) v l base k W hW hn hk hk2
  have HO := Bx.mk (World.ownsRow.alloc h (.cells #[.string s, v] 24))
  unfold tun
  clear h
  go_enter Tryd.func10, Tryd.ntmps10
  go_wp2_with (fail)
  refine (hm _ HO.out).mono ?_
  rintro r w1 ⟨rfl, ho, hg⟩
  have HR := Bx.mk (And.intro ho hg)
  clear ho hg
  go_wp2_with (fail)
  go_ret
  exact ⟨rfl, HR.out⟩
/-- a tuning made anew, of a row of some element type -/
def TunOutE (s : ByteArray) (l : List (Int × Int)) (w : World) (e : Ending) (w' : World) : Prop :=
  ∃ te v, e = .returned (tun s v) ∧ w'.ownsRow w.heap.size te 2 v l.length (pcl l) ∧ Below w.heap.size w w'
/-- .. and something beside it -/
def TunOut2E (s : ByteArray) (l : List (Int × Int)) (cv : Value) (w : World) (e : Ending) (w' : World) : Prop :=
  ∃ te v, e = .returned (.tuple #[tun s v, cv]) ∧ w'.ownsRow w.heap.size te 2 v l.length (pcl l) ∧ Below w.heap.size w w'
/-- a new list of int64 and something beside it -/
def RowOutE (ys : List Int) (cv : Value) (w : World) (e : Ending) (w' : World) : Prop :=
  ∃ te v, e = .returned (.tuple #[v, cv]) ∧ w'.ownsRow w.heap.size te 1 v ys.length (ints ys) ∧ Below w.heap.size w w'
end Go.Proofs.YtobhmoohalkijaaDoor

namespace Go.Proofs.YtobhmoohalkijaaDoor
open Go.ChangeShapes Go.WideShapes Go.ChangeAt Go.RowKit
set_option linter.unusedVariables false
set_option linter.unusedSimpArgs false
set_option maxRecDepth 100000

theorem piece_lenT (c : UInt8) (l : List UInt8) : ∀ p ∈ cutL c l, p.length ≤ l.length := by
  induction l with
  | nil => intro p hp; simp [cutL] at hp; simp [hp]
  | cons b r ih =>
    intro p hp
    unfold cutL at hp
    split at hp
    · rcases List.mem_cons.1 hp with rfl | hp
      · simp
      · have := ih p hp; simp; omega
    · obtain ⟨q, qs, hq⟩ := cut_ne c r
      rw [hq] at hp ih
      rcases List.mem_cons.1 hp with rfl | hp
      · have := ih q (by simp); simp; omega
      · have := ih p (by simp [hp]); simp; omega
def rp (p : List UInt8) : Int × Int := ((readRE p).1, (readRE p).2.1)
theorem tr_mem {ps : List (List UInt8)} {k : Nat} (hk : k < ps.length) : ps.getD k [] ∈ ps := by simp [List.getD, hk]
theorem tr_bad {nm : List UInt8} {ps : List (List UInt8)} {k : Nat} (hk : k < ps.length) (h : (readRE (ps.getD k [])).2.2 = false) : tuOf nm ps = none := by
  apply tuOf_bad
  unfold ratsOk
  apply Bool.eq_false_iff.2
  intro ha
  have := List.all_eq_true.1 ha _ (tr_mem hk)
  rw [h] at this
  cases this
theorem tr_take {ps : List (List UInt8)} {k : Nat} (hk : k < ps.length) : ps.take (k + 1) = ps.take k ++ [ps.getD k []] := by
  rw [List.take_succ_eq_append_getElem hk]
  simp [List.getD, hk]
theorem tr_ok {ps : List (List UInt8)} {k : Nat} (hk : k < ps.length) (h : ratsOk (ps.take k) = true) (h2 : (readRE (ps.getD k [])).2.2 = true) : ratsOk (ps.take (k + 1)) = true := by
  rw [tr_take hk]
  unfold ratsOk at h ⊢
  simp [h]
  simpa using h2
theorem tr_row {ps : List (List UInt8)} {k : Nat} (hk : k < ps.length) : ratsL (ps.take (k + 1)) = ratsL (ps.take k) ++ [rp (ps.getD k [])] := by
  rw [tr_take hk]
  simp [ratsL, rp]
theorem tr_end {nm : List UInt8} {ps : List (List UInt8)} (h : ratsOk (ps.take ps.length) = true) (ht : tunB nm (ratsL (ps.take ps.length)) = true) : tuOf nm ps = some (nm, ratsL (ps.take ps.length)) := by
  rw [List.take_length] at *
  unfold tuOf
  rw [h, ht]; rfl
theorem tr_no {nm : List UInt8} {ps : List (List UInt8)} (ht : tunB nm (ratsL (ps.take ps.length)) = false) : tuOf nm ps = none := by
  rw [List.take_length] at ht
  unfold tuOf
  rw [ht]; simp
theorem trG {w w' : World} {g : Nat} {x y : Value} {t : TypeId} {row : Option Nat} (h : BoxAt w g x y t) (hg : w.grownBy w' row) (hn : row ≠ some g) : BoxAt w' g x y t := by
  have := hg.block g h.lt (fun e => hn e.symm)
  unfold BoxAt at h ⊢
  rw [this, h]
theorem trRow {w : World} {base e size n g : Nat} {v : Value} {xs : List Value} (h : w.ownsRow base e size v n xs) (hg : g < base) : v.ownBlock ≠ some g := fun e => by
  have := own_ge' h g e; omega
theorem tr_two (w : World) (a b : Value) (t : TypeId) : ∀ j u, [a, b][j]? = some u → (w.alloc (.cells #[a, b] t)).cell? ((⟨w.heap.size, 0, none⟩ : Addr).add j) = some u := by
  intro j u hj
  match j, hj with
  | 0, hj => simp at hj; subst hj; simp [Addr.add]
  | 1, hj => simp at hj; subst hj; simp [Addr.add]
theorem cut_lens32 (l : List UInt8) : (Lib.cut l [32]).1.length ≤ l.length ∧ (Lib.cut l [32]).2.1.length ≤ l.length := by
  unfold Lib.cut
  split
  · simp; omega
  · simp
theorem tu_cutN (nm l : List UInt8) : tuOf nm (cutN 32 12 l) = tuOf nm (cutN 32 (min 13 (l.length + 1) - 1) l) := by
  have hc := cut_len 32 l
  by_cases h : l.length < 12
  · have e : min 13 (l.length + 1) - 1 = l.length := by omega
    rw [e]
    rcases cutN_ways 32 12 l with ⟨h1, _⟩ | ⟨_, h2, _⟩
    · rcases cutN_ways 32 l.length l with ⟨h3, _⟩ | ⟨_, h4, _⟩
      · rw [h1, h3]
      · omega
    · omega
  · have e : min 13 (l.length + 1) - 1 = 12 := by omega
    rw [e]
def trN (o : Option (List UInt8 × List (Int × Int))) : ByteArray := ⟨((o.getD ([], [])).1).toArray⟩
def trL (o : Option (List UInt8 × List (Int × Int))) : List (Int × Int) := (o.getD ([], [])).2
theorem tr_len (l : List UInt8) : (trL (readTu l)).length ≤ 12 := by
  have key : ∀ nm ps, (trL (tuOf nm ps)).length ≤ 12 := by
    intro nm ps
    unfold tuOf
    split
    · rename_i hc
      rw [Bool.and_eq_true] at hc
      have := (tun_yes hc.2).2.1
      show (ratsL ps).length ≤ 12
      omega
    · simp [trL]
  unfold readTu
  split
  · exact key _ _
  · simp [trL]
theorem tr_none {o : Option (List UInt8 × List (Int × Int))} {w w' : World} (h : o = none) (hb : Below w.heap.size w w') : TunOut2E (trN o) (trL o) (.bool o.isSome) w (.returned (.tuple #[.agg #[.string ⟨#[]⟩, .slice none 0 0], .bool false])) w' := by
  subst h
  exact ⟨0, .slice none 0 0, rfl, World.ownsRow_nil _ _ _ _, hb⟩
theorem tr_some {o : Option (List UInt8 × List (Int × Int))} {w w' : World} {nm : ByteArray} {l : List (Int × Int)} {te : TypeId} {v : Value} {n : Nat} (h : o = some (nm.data.toList, l)) (hn : n = l.length) (ho : w'.ownsRow w.heap.size te 2 v n (pcl l)) (hb : Below w.heap.size w w') : TunOut2E (trN o) (trL o) (.bool o.isSome) w (.returned (.tuple #[.agg #[.string nm, v], .bool true])) w' := by
  subst h; subst hn
  exact ⟨te, v, rfl, ho, hb⟩
end Go.Proofs.YtobhmoohalkijaaDoor

namespace Go.Proofs.YtobhmoohalkijaaDoor
open Go.ChangeShapes Go.WideShapes Go.ChangeAt Go.RowKit
set_option linter.unusedVariables false
set_option linter.unusedSimpArgs false
set_option maxRecDepth 100000

set_option maxHeartbeats 4000000 in
theorem spec_l04read (s : ByteArray) (w : World) (hs : s.size ≤ 1048576) : Calls Tryd.prog 26 #[.string s] w (TunOut2E (trN (readTu s.data.toList)) (trL (readTu s.data.toList)) (.bool (readTu s.data.toList).isSome) w) := by
  obtain ⟨i0, hi, hz0, hz1, hz2⟩ := info_parts infoRatL
  have hsplit := fun W => spec_split s 32 W (by omega)
  have HPL : Bx (∀ p ∈ cutL 32 s.data.toList, p.length ≤ 1048576) := Bx.mk (fun p hp => by have := piece_lenT 32 _ p hp; simp at this; omega)
  have hcl : (cutL 32 s.data.toList).length ≤ 1048577 := by have := cut_len 32 s.data.toList; simp at this; omega
  obtain ⟨nm, ps, hne⟩ := cut_ne 32 s.data.toList
  have HR : Bx (readTu s.data.toList = tuOf nm ps) := Bx.mk (by unfold readTu; rw [hne])
  rw [hne] at hsplit HPL hcl
  clear hne
  generalize readTu s.data.toList = o at *
  go_enter Tryd.func26, Tryd.ntmps26
  go_wp2_with (fail)
  refine (hsplit _).mono ?_
  rintro r w1 ⟨v, rfl, hown, hb⟩
  obtain ⟨g, cap, rfl, hg1, hg2⟩ := hown.form (by simp)
  have HC := Bx.mk (str_cells' hown)
  clear hown
  have K1 := Bx.mk (BoxAt.below (BoxAt.at w w.heap.size (.string ⟨#[]⟩) (.slice none 0 0) 24 rfl) hb)
  have HB1 : Bx (Below w.heap.size w w1) := Bx.mk (((Below.refl _ _).alloc (Nat.le_refl _) _).trans (hb.mono (by simp)))
  clear hb hsplit
  have hc0 : w1.cell? ⟨g, 0, none⟩ = some (.string ⟨nm.toArray⟩) := HC.out 0 (by simp)
  have HC2 : Bx (∀ k, k < ps.length → w1.cell? ⟨g, k + 1, none⟩ = some (.string ⟨(ps.getD k []).toArray⟩)) := Bx.mk (fun k hk => by have := HC.out (k + 1) (by simp; omega); simpa using this)
  have HPL2 : Bx (∀ k, k < ps.length → (ps.getD k []).length ≤ 1048576) := Bx.mk (fun k hk => HPL.out _ (List.mem_cons_of_mem _ (tr_mem hk)))
  have HNL : Bx (nm.length ≤ 1048576) := Bx.mk (HPL.out _ (by simp))
  have HG2 := Bx.mk hg2
  have hR := K1.out.lt
  clear HC HPL
  have hcl2 : ps.length ≤ 1048576 := by simp at hcl; omega
  clear hcl
  go_wp2_with (fail)
  go_loopw [6] (fun i wr => ∃ (k : Nat) (A : Option Addr) (n c : Nat), k ≤ ps.length ∧ n = k ∧ i = .int .i64 ((k : Int) + 1) ∧ Bx (BoxAt wr w1.heap.size (.string ⟨nm.toArray⟩) (.slice A n c) 24) ∧ Bx (wr.ownsRow (w1.heap.size + 1) 50 2 (.slice A n c) (ratsL (ps.take k)).length (pcl (ratsL (ps.take k)))) ∧ Bx (Below w1.heap.size w1 wr) ∧ Bx (ratsOk (ps.take k) = true)) (fun i _ => ps.length + 1 - (intOf i).toNat)
  case atStart => exact ⟨0, none, 0, 0, Nat.zero_le _, rfl, rfl, Bx.mk (BoxAt.at _ _ _ _ _ rfl), Bx.mk (World.ownsRow_nil _ _ _ _), Bx.mk ((Below.refl _ _).alloc (Nat.le_refl _) _), Bx.mk rfl⟩
  case round =>
    obtain ⟨k, A, n, c, hk, rfl, rfl, HK, HO, HB, HQ⟩ := hrel
    by_cases hlt : n < ps.length
    · have hc : wr.cell? ⟨g, n + 1, none⟩ = some (.string ⟨(ps.getD n []).toArray⟩) := (HB.out.cell (p := ⟨g, n + 1, none⟩) HG2.out).trans (HC2.out n hlt)
      have hql := HPL2.out n hlt
      have H0 := Bx.mk (fun h => tr_bad (nm := nm) hlt h)
      have H1 := Bx.mk (fun h => tr_ok hlt HQ.out h)
      have H2 := Bx.mk (tr_row hlt)
      have k1 : (0 : Int) ≤ (n : Int) + 1 := by omega
      have k2 : (n : Int) + 1 < ((ps.length + 1 : Nat) : Int) := by omega
      have d1 : decide ((n : Int) + 1 < ((ps.length + 1 : Nat) : Int)) = true := decide_eq_true k2
      have d2 : decide ((n : Int) + 1 < (ps.length : Int) + 1) = true := decide_eq_true (by omega)
      have hll : n = (ratsL (ps.take n)).length := by rw [ratsL_len, List.length_take]; omega
      have HLL := Bx.mk hll
      generalize ps.getD n [] = q at *
      have hq := readr_open (spec_l02read ⟨q.toArray⟩ wr (by show q.toArray.size ≤ 1048576; simp; omega))
      have e0 : (⟨q.toArray⟩ : ByteArray).data.toList = q := by simp
      rw [e0] at hq
      clear e0 hql hll HQ
      unfold rp at H2
      generalize readRE q = u at *
      obtain ⟨u1, u2, u3⟩ := u
      dsimp only at hq H0 H1 H2
      have e1 : ((n : Int) + 1).toNat = n + 1 := by omega
      go_wp2_with (fail)
      refine hq.mono ?_
      rintro r w4 ⟨rfl, hb4⟩
      have K4 := Bx.mk (HK.out.below hb4)
      have O4 := Bx.mk (own_below HO.out hb4)
      have B4 := Bx.mk (HB.out.trans (hb4.mono HB.out.size))
      have R4 := Bx.mk (K1.out.below B4.out)
      clear hb4 HO HK HB hc hq
      cases u3 with
      | false =>
        have HN : Bx (o = none) := Bx.mk (HR.out.trans (H0.out rfl))
        have B5 : Bx (Below w.heap.size w w4) := Bx.mk (HB1.out.trans (B4.out.mono HB1.out.size))
        have r0 := R4.out.c0
        have r1 := R4.out.c1
        have rf0 := R4.out.f0 0
        have rf1 := R4.out.f0 1
        have rl := R4.out.lt
        clear H0 H1 H2 K4 O4 B4
        go_wp2_with (fail)
        have P1 := ((R4.out.put0 (.string ⟨#[]⟩)).put1 (.slice none 0 0)).alloc (.cells #[.int .i64 u1, .int .i64 u2] 50)
        have hS := B5.out.size
        (try simp only [Exit.inBlock, Exit.then])
        refine bodyPost_ret (v := .tuple #[.agg #[.string ⟨#[]⟩, .slice none 0 0], .bool false]) (by simp [results, Tryd.results26, go_sem, P1.c0, P1.c1]) rfl ?_
        exact tr_none HN.out (((B5.out.setCell (Nat.le_refl _) _).setCell (Nat.le_refl _) _).alloc (by simp; omega) _)
      | true =>
        have HQ2 := Bx.mk (H1.out rfl)
        have K5 := Bx.mk (K4.out.alloc (.cells #[.int .i64 u1, .int .i64 u2] 50))
        have O5 := Bx.mk (O4.out.alloc (.cells #[.int .i64 u1, .int .i64 u2] 50))
        have B5 := Bx.mk (B4.out.alloc B4.out.size (.cells #[.int .i64 u1, .int .i64 u2] 50))
        have Q5 := Bx.mk (BoxAt.at w4 w4.heap.size (.int .i64 u1) (.int .i64 u2) 50 rfl)
        have QN := K4.out.lt
        have k0 := K4.out.c0
        have k1' := K4.out.c1
        have k2' := K5.out.c1
        have CT : Bx (∀ j u, [.int .i64 u1, .int .i64 u2][j]? = some u → ((w4.alloc (.cells #[.int .i64 u1, .int .i64 u2] 50)).alloc (.cells #[.int .i64 u1, .int .i64 u2] 50)).cell? ((⟨w4.heap.size + 1, 0, none⟩ : Addr).add j) = some u) := Bx.mk (by have := tr_two (w4.alloc (.cells #[.int .i64 u1, .int .i64 u2] 50)) (.int .i64 u1) (.int .i64 u2) 50; rw [World.size_alloc] at this; exact this)
        rw [← HLL.out] at O5
        have RN := trRow (g := w1.heap.size) O5.out (Nat.lt_succ_self _)
        clear H0 H1 K4 O4 B4 R4
        go_wp2_with ((at_builtin; refine wpList_append_own _ rfl _ _ 22 rfl (w1.heap.size + 1) 50 i0 (.agg #[.int .i64 0, .int .i64 0]) 2 16 Tryd.underlying22 hi hz0 hz1 hz2 rfl (by decide) _ _ _ rfl (O5.out.alloc _) ⟨w4.heap.size + 1, 0, none⟩ 1 1 [.int .i64 u1, .int .i64 u2] rfl rfl CT.out (fun x hx => by simp at hx; rcases hx with rfl | rfl <;> rfl) (by unfold maxLen; omega) (by omega) (by simp; omega) ?_; intro v' w6 hown6 hgrow6 hnil6; obtain ⟨A6, c6, rfl⟩ := own_len hown6; have HO6 := Bx.mk hown6; have K6 := Bx.mk (trG (K5.out.alloc (.cells #[.int .i64 u1, .int .i64 u2] 50)) hgrow6 RN); have B6 := Bx.mk (Below.grown (B5.out.alloc B5.out.size (.cells #[.int .i64 u1, .int .i64 u2] 50)) hgrow6 (by have := B5.out.size; simp at *; omega) (fun k hk => by have := own_ge' O5.out k hk; omega)); have gc := K6.out.c1; have gf := K6.out.f0 1; have gl := K6.out.lt; clear hown6 hgrow6 hnil6))
        have K7 := Bx.mk (K6.out.put1 (.slice A6 (n + 1) c6))
        have B7 := Bx.mk (B6.out.setCell (p := ⟨w1.heap.size, 1, none⟩) (Nat.le_refl _) (.slice A6 (n + 1) c6))
        have O7 : Bx ((w6.setCell ⟨w1.heap.size, 1, none⟩ (.slice A6 (n + 1) c6)).ownsRow (w1.heap.size + 1) 50 2 (.slice A6 (n + 1) c6) (ratsL (ps.take (n + 1))).length (pcl (ratsL (ps.take (n + 1))))) := Bx.mk (by
          rw [H2.out, pcl_app, List.length_append, ← HLL.out]
          exact own_set HO6.out (Nat.lt_succ_self _) _ _)
        clear K6 B6 HO6 gc gf gl
        go_roundw
        case rel => exact ⟨n + 1, A6, n + 1, c6, by omega, rfl, by go_num, K7, O7, B7, HQ2⟩
        case measure => simp [intOf]; omega
    · obtain rfl : n = ps.length := by omega
      have d1 : decide ((ps.length : Int) + 1 < ((ps.length + 1 : Nat) : Int)) = false := decide_eq_false (by omega)
      have d2 : decide ((ps.length : Int) + 1 < (ps.length : Int) + 1) = false := decide_eq_false (by omega)
      have R1 := Bx.mk (K1.out.below HB.out)
      have BW := Bx.mk (HB1.out.trans (HB.out.mono HB1.out.size))
      have hll : ps.length = (ratsL (ps.take ps.length)).length := by rw [ratsL_len, List.length_take]; omega
      have HLL := Bx.mk hll
      have hk2 := spec_tok w1.heap.size ⟨nm.toArray⟩ (.slice A ps.length c) (ratsL (ps.take ps.length)) wr HK.out.c0 HK.out.c1 (PrsAt.own HO.out) (by have := HNL.out; show nm.toArray.size ≤ maxLen; unfold maxLen; simp; omega) (by omega)
      have en : (⟨nm.toArray⟩ : ByteArray).data.toList = nm := rfl
      rw [en] at hk2
      clear en
      cases ht : tunB nm (ratsL (ps.take ps.length)) with
      | false =>
        have HE : Bx (o = none) := Bx.mk (HR.out.trans (tr_no ht))
        rw [ht] at hk2
        clear ht HO HK HQ hll HLL
        go_wp2_with (fail)
        refine hk2.mono ?_
        rintro r w5 ⟨rfl, m, rfl⟩
        have R5 := Bx.mk (R1.out.draws m)
        have B5 := Bx.mk (below_draws BW.out m)
        have r0 := R5.out.c0
        have r1 := R5.out.c1
        have rf0 := R5.out.f0 0
        have rf1 := R5.out.f0 1
        have rl := R5.out.lt
        clear R1 BW hk2
        go_wp2_with (fail)
        have P1 := (R5.out.put0 (.string ⟨#[]⟩)).put1 (.slice none 0 0)
        (try simp only [Exit.inBlock, Exit.then])
        refine bodyPost_ret (v := .tuple #[.agg #[.string ⟨#[]⟩, .slice none 0 0], .bool false]) (by simp [results, Tryd.results26, go_sem, P1.c0, P1.c1]) rfl ?_
        exact tr_none HE.out ((B5.out.setCell (Nat.le_refl _) _).setCell (Nat.le_refl _) _)
      | true =>
        have HE : Bx (o = some (nm, ratsL (ps.take ps.length))) := Bx.mk (HR.out.trans (tr_end HQ.out ht))
        rw [ht] at hk2
        clear ht hll
        go_wp2_with (fail)
        refine hk2.mono ?_
        rintro r w5 ⟨rfl, m, rfl⟩
        have R5 := Bx.mk (R1.out.draws m)
        have B5 := Bx.mk (below_draws BW.out m)
        have K5 := Bx.mk (HK.out.draws m)
        have O5 := Bx.mk (own_below HO.out (below_draws (Below.refl _ _) m))
        have r0 := R5.out.c0
        have r1 := R5.out.c1
        have rf0 := R5.out.f0 0
        have rf1 := R5.out.f0 1
        have rl := R5.out.lt
        have t0 := K5.out.c0
        have t1 := K5.out.c1
        clear R1 BW hk2 HK HO
        go_wp2_with (fail)
        have P1 := (R5.out.put0 (.string ⟨nm.toArray⟩)).put1 (.slice A ps.length c)
        (try simp only [Exit.inBlock, Exit.then])
        refine bodyPost_ret (v := .tuple #[.agg #[.string ⟨nm.toArray⟩, .slice A ps.length c], .bool true]) (by simp [results, Tryd.results26, go_sem, P1.c0, P1.c1]) rfl ?_
        have O6 := own_down (show w.heap.size ≤ w1.heap.size + 1 by omega) (own_set (own_set O5.out (by omega : w.heap.size < w1.heap.size + 1) 0 (.string ⟨nm.toArray⟩)) (by omega : w.heap.size < w1.heap.size + 1) 1 (.slice A ps.length c))
        exact tr_some (nm := ⟨nm.toArray⟩) HE.out HLL.out (by rw [HLL.out]; rw [← HLL.out]; rw [← HLL.out] at O6; exact O6) ((B5.out.setCell (Nat.le_refl _) _).setCell (Nat.le_refl _) _)
end Go.Proofs.YtobhmoohalkijaaDoor

namespace Go.Proofs.YtobhmoohalkijaaDoor
open Go.ChangeShapes Go.WideShapes Go.ChangeAt Go.RowKit
set_option linter.unusedVariables false
set_option linter.unusedSimpArgs false
set_option maxRecDepth 100000

theorem keepG {g b o1 o2 o3 o4 : Nat} {w W W' : World} {x y p1 p2 q1 q2 : Value} (h : W.cell? ⟨g, 0, none⟩ = some x ∧ W.cell? ⟨g, 1, none⟩ = some y ∧ W.cell? ⟨b, o1, none⟩ = some p1 ∧ W.cell? ⟨b, o2, none⟩ = some p2 ∧ W.cell? ⟨b, o3, none⟩ = some q1 ∧ W.cell? ⟨b, o4, none⟩ = some q2 ∧ g < W.heap.size ∧ b < W.heap.size ∧ Below w.heap.size w W) (hb : Below W.heap.size W W') :
    W'.cell? ⟨g, 0, none⟩ = some x ∧ W'.cell? ⟨g, 1, none⟩ = some y ∧ W'.cell? ⟨b, o1, none⟩ = some p1 ∧ W'.cell? ⟨b, o2, none⟩ = some p2 ∧ W'.cell? ⟨b, o3, none⟩ = some q1 ∧ W'.cell? ⟨b, o4, none⟩ = some q2 ∧ g < W'.heap.size ∧ b < W'.heap.size ∧ Below w.heap.size w W' := by
  obtain ⟨h1, h2, h3, h4, h5, h6, h7, h8, h9⟩ := h
  have hs := hb.size
  exact ⟨(hb.cell (p := ⟨g, 0, none⟩) h7).trans h1, (hb.cell (p := ⟨g, 1, none⟩) h7).trans h2, (hb.cell (p := ⟨b, o1, none⟩) h8).trans h3, (hb.cell (p := ⟨b, o2, none⟩) h8).trans h4, (hb.cell (p := ⟨b, o3, none⟩) h8).trans h5, (hb.cell (p := ⟨b, o4, none⟩) h8).trans h6, by omega, by omega, h9.trans (hb.mono h9.size)⟩
set_option maxHeartbeats 4000000 in
theorem impl_validtuning (s : ByteArray) (v : Value) (l : List (Int × Int)) (w : World) (h : PrsAt w v l) (hs : s.size ≤ maxLen) (hm : l.length ≤ 281474976710656) :
    Calls Tryd.prog 30 #[tun s v] w fun e w' => e = .returned (.bool (tunB s.data.toList l)) ∧ Below w.heap.size w w' := by
  have hnm := fun W => impl_name s W hs
  have HI := Bx.mk h
  unfold tun
  cases hn : nmB s.data.toList
  · have HE : Bx (tunB s.data.toList l = false) := Bx.mk (by simp [tunB, hn])
    rw [hn] at hnm
    obtain ⟨A, c, rfl⟩ := prs_len h
    clear hn h hs
    go_enter Tryd.func30, Tryd.ntmps30
    go_wp2_with (fail)
    refine (hnm _).mono ?_
    rintro e w' ⟨rfl, rfl⟩
    go_wp2_with (fail)
    go_ret
    exact ⟨ret_bool HE.out.symm, (Below.refl _ _).alloc (Nat.le_refl _) _⟩
  · rw [hn] at hnm
    by_cases hl : l.length = 12
    · obtain ⟨b, o, c, rfl, hb, hc⟩ := prs_slice h (by omega)
      rw [hl] at hc ⊢
      have h00 := (hc 0 (by omega)).1
      have h01 := (hc 0 (by omega)).2
      rw [Nat.zero_mul, Nat.add_zero] at h00 h01
      have hnb : (w.heap.size == b) = false := by simp; omega
      by_cases h0 : (pat l 0).1 = 1 ∧ (pat l 0).2 = 1
      · have HM := Bx.mk (fun hcc h11 => tun_mk (s := s.data.toList) hn hl h0 hcc h11)
        have HN := Bx.mk (fun i hi h => tun_bad (s := s.data.toList) (l := l) (i := i) hi h)
        have HL := Bx.mk (fun h => tun_bad11 (s := s.data.toList) (l := l) h)
        have HC := Bx.mk hc
        rw [h0.1] at h00
        rw [h0.2] at h01
        generalize hres : tunB s.data.toList l = res at *
        clear h hn hc hm hs h0 hres
        go_enter Tryd.func30, Tryd.ntmps30
        go_wp2_with (fail)
        refine (hnm _).mono ?_
        rintro e w' ⟨rfl, rfl⟩
        go_wp2_with (fail)
        go_loopw [25] (fun i wr => ∃ k : Nat, k ≤ 11 ∧ i = .int .i64 k ∧ Bx (∀ i, i < k → (cmpE (pat l i).1 (pat l i).2 (pat l (i + 1)).1 (pat l (i + 1)).2).1 = -1) ∧ Bx (wr.cell? ⟨w.heap.size, 0, none⟩ = some (.string s) ∧ wr.cell? ⟨w.heap.size, 1, none⟩ = some (.slice (some ⟨b, o, none⟩) 12 c) ∧ w.heap.size < wr.heap.size) ∧ Bx (Below w.heap.size w wr)) (fun i _ => 11 - (intOf i).toNat)
        case atStart => exact ⟨0, by omega, rfl, Bx.mk (fun i hi => by omega), Bx.mk ⟨(BoxAt.at _ _ _ _ _ rfl).c0, (BoxAt.at _ _ _ _ _ rfl).c1, (BoxAt.at _ _ _ _ _ rfl).lt⟩, Bx.mk ((Below.refl _ _).alloc (Nat.le_refl _) _)⟩
        case round =>
          obtain ⟨k, hk, rfl, HK, K1, B1⟩ := hrel
          obtain ⟨k10, k11, k1l⟩ := K1.out
          have hbr : b < wr.heap.size := Nat.lt_of_lt_of_le hb B1.out.size
          clear h00 h01 hnm hnb
          by_cases hlt : k < 11
          · have c0 := (B1.out.cell (p := ⟨b, o + k * 2, none⟩) hb).trans (HC.out k (by omega)).1
            have c1 := (B1.out.cell (p := ⟨b, o + k * 2 + 1, none⟩) hb).trans (HC.out k (by omega)).2
            have d0 := (B1.out.cell (p := ⟨b, o + (k + 1) * 2, none⟩) hb).trans (HC.out (k + 1) (by omega)).1
            have d1 := (B1.out.cell (p := ⟨b, o + (k + 1) * 2 + 1, none⟩) hb).trans (HC.out (k + 1) (by omega)).2
            have HS : Bx ((cmpE (pat l k).1 (pat l k).2 (pat l (k + 1)).1 (pat l (k + 1)).2).1 = -1 → ∀ i, i < k + 1 → (cmpE (pat l i).1 (pat l i).2 (pat l (i + 1)).1 (pat l (i + 1)).2).1 = -1) := Bx.mk (fun h i hi => by
              rcases Nat.lt_or_ge i k with h2 | h2
              · exact HK.out i h2
              · rw [show i = k by omega]; exact h)
            have HN1 := Bx.mk (HN.out k hlt)
            have k0 : (0 : Int) ≤ (k : Int) := by omega
            have k2 : (0 : Int) ≤ (k : Int) + 1 := by omega
            have k3 : (k : Int) < 12 := by omega
            have k4 : ((k : Int) + 1).toNat = k + 1 := by omega
            have k5 : (k : Int) + 1 < 12 := by omega
            have k6 : (k : Int) < 11 := by omega
            have E1 : IntKind.i64.wrap ((k : Int) + 1) = (k : Int) + 1 := IntWalk.i64_in _ (by omega)
            have hcm := fun W => two_open (impl_compare (pat l k).1 (pat l k).2 (pat l (k + 1)).1 (pat l (k + 1)).2) W
            simp only [rat] at hcm
            generalize cmpE (pat l k).1 (pat l k).2 (pat l (k + 1)).1 (pat l (k + 1)).2 = z at *
            generalize (pat l k).1 = p1 at *
            generalize (pat l k).2 = p2 at *
            generalize (pat l (k + 1)).1 = q1 at *
            generalize (pat l (k + 1)).2 = q2 at *
            obtain ⟨z1, z2⟩ := z
            dsimp only at hcm HS HN1
            clear HM HN HL HK
            have HS0 : Bx (wr.cell? ⟨w.heap.size, 0, none⟩ = some (.string s) ∧ wr.cell? ⟨w.heap.size, 1, none⟩ = some (.slice (some ⟨b, o, none⟩) 12 c) ∧ wr.cell? ⟨b, o + k * 2, none⟩ = some (.int .i64 p1) ∧ wr.cell? ⟨b, o + k * 2 + 1, none⟩ = some (.int .i64 p2) ∧ wr.cell? ⟨b, o + (k + 1) * 2, none⟩ = some (.int .i64 q1) ∧ wr.cell? ⟨b, o + (k + 1) * 2 + 1, none⟩ = some (.int .i64 q2) ∧ w.heap.size < wr.heap.size ∧ b < wr.heap.size ∧ Below w.heap.size w wr) := Bx.mk ⟨k10, k11, c0, c1, d0, d1, k1l, hbr, B1.out⟩
            by_cases hz : z1 = -1
            · subst hz
              have HE := Bx.mk (HS.out rfl)
              clear HS HN1
              go_wp2_with (fail)
              go_region_held3 (fun W => W.cell? ⟨w.heap.size, 0, none⟩ = some (.string s) ∧ W.cell? ⟨w.heap.size, 1, none⟩ = some (.slice (some ⟨b, o, none⟩) 12 c) ∧ W.cell? ⟨b, o + k * 2, none⟩ = some (.int .i64 p1) ∧ W.cell? ⟨b, o + k * 2 + 1, none⟩ = some (.int .i64 p2) ∧ W.cell? ⟨b, o + (k + 1) * 2, none⟩ = some (.int .i64 q1) ∧ W.cell? ⟨b, o + (k + 1) * 2 + 1, none⟩ = some (.int .i64 q2) ∧ w.heap.size < W.heap.size ∧ b < W.heap.size ∧ Below w.heap.size w W)
                (first | (with_reducible exact keepG (by assumption) hb4) | (with_reducible exact keepG (by assumption) (Below.refl _ _).drew) | exact keepG HS0.out (Below.refl _ _).drew)
                ((go_at_call 59; (with_reducible refine (hcm _).mono ?_); rintro r w4 ⟨rfl, hb4⟩; have hS0 := keepG (w := w) (by assumption) hb4))
              all_goals
                have SS : _ ∧ _ ∧ _ ∧ _ ∧ _ ∧ _ ∧ _ ∧ _ ∧ _ := (by assumption)
                have SB := Bx.mk SS
                clear SS
                go_wp2_with (fail)
                go_roundw
                case rel => exact ⟨k + 1, by omega, by go_num, HE, Bx.mk ⟨SB.out.1, SB.out.2.1, SB.out.2.2.2.2.2.2.1⟩, Bx.mk SB.out.2.2.2.2.2.2.2.2⟩
                case measure => simp [intOf]; omega
            · have HE := Bx.mk (HN1.out hz)
              have hz1 : (z1 != -1) = true := by simpa using hz
              clear HS HN1
              go_wp2_with (fail)
              go_region_held3 (fun W => W.cell? ⟨w.heap.size, 0, none⟩ = some (.string s) ∧ W.cell? ⟨w.heap.size, 1, none⟩ = some (.slice (some ⟨b, o, none⟩) 12 c) ∧ W.cell? ⟨b, o + k * 2, none⟩ = some (.int .i64 p1) ∧ W.cell? ⟨b, o + k * 2 + 1, none⟩ = some (.int .i64 p2) ∧ W.cell? ⟨b, o + (k + 1) * 2, none⟩ = some (.int .i64 q1) ∧ W.cell? ⟨b, o + (k + 1) * 2 + 1, none⟩ = some (.int .i64 q2) ∧ w.heap.size < W.heap.size ∧ b < W.heap.size ∧ Below w.heap.size w W)
                (first | (with_reducible exact keepG (by assumption) hb4) | (with_reducible exact keepG (by assumption) (Below.refl _ _).drew) | exact keepG HS0.out (Below.refl _ _).drew)
                ((go_at_call 59; (with_reducible refine (hcm _).mono ?_); rintro r w4 ⟨rfl, hb4⟩; have hS0 := keepG (w := w) (by assumption) hb4))
              all_goals
                have SS : _ ∧ _ ∧ _ ∧ _ ∧ _ ∧ _ ∧ _ ∧ _ ∧ _ := (by assumption)
                have SB := Bx.mk SS
                clear SS
                go_wp2_with (fail)
                go_ret
                exact ⟨ret_bool HE.out.symm, SB.out.2.2.2.2.2.2.2.2⟩
          · obtain rfl : k = 11 := by omega
            have c0 := (B1.out.cell (p := ⟨b, o + 11 * 2, none⟩) hb).trans (HC.out 11 (by omega)).1
            have c1 := (B1.out.cell (p := ⟨b, o + 11 * 2 + 1, none⟩) hb).trans (HC.out 11 (by omega)).2
            have HM1 := Bx.mk (HM.out HK.out)
            have ok := (cmpE_lt (HK.out 10 (by omega))).2.1
            obtain ⟨⟨n1, n2⟩, ⟨d1, d2⟩, _⟩ := okR_yes ok
            simp only [Nat.reduceAdd] at n1 n2 d1 d2
            generalize (pat l 11).1 = p1 at *
            generalize (pat l 11).2 = p2 at *
            have E1 : IntKind.i64.wrap (2 * p2) = 2 * p2 := IntWalk.i64_in _ (by omega)
            clear HM HN HK ok K1 hlt hk
            have hc0 : wr.cell? ⟨b, o + 22, none⟩ = some (.int .i64 p1) := c0
            have hc1 : wr.cell? ⟨b, o + 22 + 1, none⟩ = some (.int .i64 p2) := c1
            by_cases hp : p1 < 2 * p2
            · have x1 : decide (p1 < 2 * p2) = true := decide_eq_true hp
              have HE := Bx.mk (HM1.out hp)
              clear HM1 HL hp
              go_wp2_with (fail)
              go_ret
              exact ⟨ret_bool HE.out.symm, B1.out.alloc B1.out.size _⟩
            · have x1 : decide (p1 < 2 * p2) = false := decide_eq_false hp
              have HE := Bx.mk (HL.out (by omega))
              clear HM1 HL hp
              go_wp2_with (fail)
              go_ret
              exact ⟨ret_bool HE.out.symm, B1.out.alloc B1.out.size _⟩
      · have HE : Bx (tunB s.data.toList l = false) := Bx.mk (tun_bad0 h0)
        generalize tunB s.data.toList l = res at *
        by_cases hx : (pat l 0).1 = 1
        · have hy : ((pat l 0).2 == 1) = false := by simp; exact fun h => h0 ⟨hx, h⟩
          rw [hx] at h00
          generalize (pat l 0).2 = y at *
          clear h hn hc hm hs h0 hx
          go_enter Tryd.func30, Tryd.ntmps30
          go_wp2_with (fail)
          refine (hnm _).mono ?_
          rintro e w' ⟨rfl, rfl⟩
          go_wp2_with (fail)
          go_ret
          exact ⟨ret_bool HE.out.symm, (Below.refl _ _).alloc (Nat.le_refl _) _⟩
        · have hy : ((pat l 0).1 == 1) = false := by simpa using hx
          generalize (pat l 0).1 = x at *
          generalize (pat l 0).2 = y at *
          clear h hn hc hm hs h0 hx
          go_enter Tryd.func30, Tryd.ntmps30
          go_wp2_with (fail)
          refine (hnm _).mono ?_
          rintro e w' ⟨rfl, rfl⟩
          go_wp2_with (fail)
          go_ret
          exact ⟨ret_bool HE.out.symm, (Below.refl _ _).alloc (Nat.le_refl _) _⟩
    · have HE : Bx (tunB s.data.toList l = false) := Bx.mk (by simp [tunB, hl])
      obtain ⟨A, c, rfl⟩ := prs_len h
      have hne : ((l.length : Int) != 12) = true := by simp; omega
      clear hn h hs
      go_enter Tryd.func30, Tryd.ntmps30
      go_wp2_with (fail)
      refine (hnm _).mono ?_
      rintro e w' ⟨rfl, rfl⟩
      go_wp2_with (fail)
      go_ret
      exact ⟨ret_bool HE.out.symm, (Below.refl _ _).alloc (Nat.le_refl _) _⟩
end Go.Proofs.YtobhmoohalkijaaDoor

namespace Go.Proofs.YtobhmoohalkijaaDoor
open Go.ChangeShapes Go.WideShapes Go.ChangeAt Go.RowKit
set_option linter.unusedVariables false
set_option linter.unusedSimpArgs false
set_option maxRecDepth 100000

set_option maxHeartbeats 2000000 in
theorem spec_readtuning (s : ByteArray) (w : World) (hs : s.size ≤ 1048576) : Calls Tryd.prog 7 #[.string s] w (TunOut2E (trN (readTu s.data.toList)) (trL (readTu s.data.toList)) (.bool (readTu s.data.toList).isSome) w) := by
  have hq := fun W => spec_l04read s W hs
  generalize readTu s.data.toList = o at *
  generalize trN o = nm at *
  generalize trL o = l at *
  generalize o.isSome = b at *
  go_enter Tryd.func7, Tryd.ntmps7
  go_wp2_with (fail)
  refine (hq _).mono ?_
  rintro r w1 ⟨te, v, rfl, ho, hb⟩
  obtain ⟨A, c, rfl⟩ := own_len ho
  unfold tun
  have K1 := Bx.mk (BoxAt.below (BoxAt.at w w.heap.size (.string ⟨#[]⟩) (.slice none 0 0) 24 rfl) hb)
  have B1 : Bx (Below w.heap.size w w1) := Bx.mk (((Below.refl _ _).alloc (Nat.le_refl _) _).trans (hb.mono (by go_size)))
  have O1 : Bx (w1.ownsRow (w.heap.size + 1) te 2 (.slice A l.length c) l.length (pcl l)) := Bx.mk (own_down (by simp) ho)
  clear hb ho hq
  have r0 := K1.out.c0
  have r1 := K1.out.c1
  have rf0 := K1.out.f0 0
  have rf1 := K1.out.f0 1
  have rl := K1.out.lt
  go_wp2_with (fail)
  have P1 := (K1.out.put0 (.string nm)).put1 (.slice A l.length c)
  refine bodyPost_ret (v := .tuple #[.agg #[.string nm, .slice A l.length c], .bool b]) (by simp [results, Tryd.results7, go_sem, P1.c0, P1.c1]) rfl ?_
  exact ⟨_, _, rfl, own_down (Nat.le_succ _) (own_set (own_set O1.out (Nat.lt_succ_self _) _ _) (Nat.lt_succ_self _) _ _), (B1.out.setCell (Nat.le_refl _) _).setCell (Nat.le_refl _) _⟩
theorem splitN_T (s : ByteArray) (c : UInt8) (n : Nat) (w : World) (hs : s.size < 4294967281) (hm : ∃ m, w.cell? ⟨2, 0, none⟩ = some (.int .i64 m)) (hn : 1 ≤ n) (hn2 : n ≤ 1000) :
    Calls Tryd.prog 28 #[.string s, .string ⟨#[c]⟩, .int .i64 (n : Int)] w fun e w' => ∃ g cap, e = .returned (.slice (some ⟨g, 0, none⟩) (cutN c (min n (s.size + 1) - 1) s.data.toList).length cap) ∧ g < w'.heap.size ∧
      (∀ k, k < (cutN c (min n (s.size + 1) - 1) s.data.toList).length → w'.cell? ⟨g, k, none⟩ = some (.string ⟨((cutN c (min n (s.size + 1) - 1) s.data.toList).getD k []).toArray⟩)) ∧ Below w.heap.size w w' := by
  obtain ⟨m, hm⟩ := hm
  refine (Tryd.strings_SplitN s ⟨#[c]⟩ n m w hs hm (Nat.le_refl 1) hn (by omega)).mono ?_
  rintro e w' ⟨rfl, rfl⟩
  have h1 := split_cutN c (min n (s.size + 1) - 1) s
  have h3 : (cutN c (min n (s.size + 1) - 1) s.data.toList).length = (Lib.splitB ⟨#[c]⟩ 0 (min n (s.size + 1) - 1) s).length := by rw [← h1, List.length_map]
  refine ⟨w.heap.size, _, by rw [h3], by simp, fun k hk => ?_, (Below.refl _ _).alloc (Nat.le_refl _) _⟩
  rw [World.cell?_alloc_at _ _ _ _ rfl, ← h1]
  have hk2 : k < (Lib.splitB ⟨#[c]⟩ 0 (min n (s.size + 1) - 1) s).length := by rw [← h3]; exact hk
  unfold Lib.cellsOf
  rw [List.getElem?_toArray, List.getElem?_append_left (by simpa using hk2)]
  simp only [List.getElem?_map, List.getElem?_eq_getElem hk2, Option.map_some, List.getD, Option.getD_some]
theorem make_rats12 (w : World) : ∃ w', (Instr.makeSlice 22 (.int .i64 0) (.int .i64 12)).run Tryd.prog w = .ok (.slice (some ⟨w.heap.size, 0, none⟩) 0 12) w' ∧
    w'.ownsRow w.heap.size 50 2 (.slice (some ⟨w.heap.size, 0, none⟩) 0 12) 0 [] ∧ w.grownBy w' none := by
  obtain ⟨i0, hi, hz0, hz1, hz2⟩ := info_parts infoRatL
  exact run_make_own w w.heap.size 22 50 i0 (.agg #[.int .i64 0, .int .i64 0]) 2 Tryd.underlying22 hi hz0 hz1 .i64 .i64 12 (by rw [hz2]; omega) (by unfold maxLen; omega) (Nat.le_refl _)
set_option maxHeartbeats 4000000 in
theorem impl_readtuning (s : ByteArray) (w : World) (hs : s.size ≤ 1048576) (hv : Bx (Vars w)) (hm : Bx (∃ m, w.cell? ⟨2, 0, none⟩ = some (.int .i64 m) ∧ 2 < w.heap.size)) :
    Calls Tryd.prog 8 #[.string s] w (TunOut2E (trN (readTu s.data.toList)) (trL (readTu s.data.toList)) (.bool (readTu s.data.toList).isSome) w) := by
  obtain ⟨i0, hi, hz0, hz1, hz2⟩ := info_parts infoRatL
  obtain ⟨m, hm⟩ := hm.out
  have HM := Bx.mk hm
  clear hm
  obtain ⟨ha, hb⟩ := cut_lens32 s.data.toList
  have hsz : s.data.toList.length = s.size := by simp
  have hcut : ∀ W : World, W.cell? ⟨2, 0, none⟩ = some (.int .i64 m) → Calls Tryd.prog 27 #[.string s, .string ⟨#[32]⟩] W fun e w' => e = .returned (.tuple #[.string ⟨(Lib.cut s.data.toList [32]).1.toArray⟩, .string ⟨(Lib.cut s.data.toList [32]).2.1.toArray⟩, .bool (Lib.cut s.data.toList [32]).2.2]) ∧ ∃ n, w' = W.drewN n := fun W h => Tryd.strings_Cut s ⟨#[32]⟩ m W (by omega) h
  have HR0 := readTu_cut s.data.toList
  generalize readTu s.data.toList = o at *
  generalize (Lib.cut s.data.toList [32]).2.2 = c at *
  generalize (Lib.cut s.data.toList [32]).1 = nm at *
  generalize (Lib.cut s.data.toList [32]).2.1 = rest at *
  have hrl : rest.length ≤ 1048576 := by omega
  have HNL : Bx (nm.length ≤ 1048576) := Bx.mk (by omega)
  have HR : Bx (o = tuOf nm (cutN 32 (min 13 (rest.length + 1) - 1) rest)) := Bx.mk (HR0.trans (tu_cutN nm rest))
  have hsplit := fun W h => splitN_T ⟨rest.toArray⟩ 32 13 W (by show rest.toArray.size < _; simp; omega) h (by decide) (by decide)
  have er : (⟨rest.toArray⟩ : ByteArray).data.toList = rest := rfl
  have er2 : (⟨rest.toArray⟩ : ByteArray).size = rest.length := by show rest.toArray.size = _; simp
  rw [er, er2] at hsplit
  have hcl := cutN_len 32 (min 13 (rest.length + 1) - 1) rest
  have HPL : Bx (∀ k, k < (cutN 32 (min 13 (rest.length + 1) - 1) rest).length → ((cutN 32 (min 13 (rest.length + 1) - 1) rest).getD k []).length ≤ 1048576) := Bx.mk (fun k hk => by
    have := cutN_piece 32 (min 13 (rest.length + 1) - 1) rest _ (tr_mem hk)
    omega)
  have hcl2 : (cutN 32 (min 13 (rest.length + 1) - 1) rest).length ≤ 13 := by omega
  clear hcl er er2 HR0 ha hb hsz
  generalize cutN 32 (min 13 (rest.length + 1) - 1) rest = ps at *
  have HS := Bx.mk hsplit
  clear hsplit
  go_enter Tryd.func8, Tryd.ntmps8
  go_wp2_with (fail)
  refine (hcut _ (by have := HM.out.1; have := HM.out.2; go_simp)).mono ?_
  rintro r w0 ⟨rfl, n0, rfl⟩
  clear hcut
  have HM0 : (w.alloc (.cells #[.string ⟨#[]⟩, .slice none 0 0] 24)).cell? ⟨2, 0, none⟩ = some (.int .i64 m) := by have := HM.out.1; have := HM.out.2; go_simp
  have K0 := Bx.mk ((BoxAt.at w w.heap.size (.string ⟨#[]⟩) (.slice none 0 0) 24 rfl).draws n0)
  have B0 := Bx.mk (below_draws (((Below.refl w.heap.size w).alloc (Nat.le_refl _) (.cells #[.string ⟨#[]⟩, .slice none 0 0] 24))) n0)
  have HS0 := Bx.mk (HS.out ((w.alloc (.cells #[.string ⟨#[]⟩, .slice none 0 0] 24)).drewN n0) ⟨m, HM0⟩)
  clear HS HM0
  go_wp2_with (fail)
  refine HS0.out.mono ?_
  rintro r w1 ⟨g, cap, rfl, hg2, hcs, hb⟩
  have K1 := Bx.mk (K0.out.below hb)
  have B1 := Bx.mk (B0.out.trans (hb.mono B0.out.size))
  have HC := Bx.mk hcs
  have HG2 := Bx.mk hg2
  clear hcs hb hg2 HS0 K0 B0
  obtain ⟨w2, hmk, ho2, hgr⟩ := make_rats12 w1
  have hb2 : Below w1.heap.size w1 w2 := (Below.refl _ _).grown hgr (Nat.le_refl _) (fun k hk => by cases hk)
  have O2 := Bx.mk ho2
  have B2 := Bx.mk hb2
  clear ho2 hb2 hgr
  go_wp2_with (fail)
  clear hmk
  go_loopw [8, 25] (fun v i wr => ∃ (k : Nat) (A : Option Addr) (c : Nat), k ≤ ps.length ∧ i = .int .i64 k ∧ v = .slice A k c ∧ Bx (wr.ownsRow w1.heap.size 50 2 (.slice A k c) (ratsL (ps.take k)).length (pcl (ratsL (ps.take k)))) ∧ Bx (Below w1.heap.size w1 wr) ∧ Bx (ratsOk (ps.take k) = true)) (fun _ i _ => ps.length - (intOf i).toNat)
  case atStart => exact ⟨0, _, _, Nat.zero_le _, rfl, rfl, Bx.mk O2.out, B2, Bx.mk rfl⟩
  case round =>
    clear O2 B2
    obtain ⟨n, A, c2, hk, rfl, rfl, HO, HB, HQ⟩ := hrel
    by_cases hlt : n < ps.length
    · have hc : wr.cell? ⟨g, n, none⟩ = some (.string ⟨(ps.getD n []).toArray⟩) := (HB.out.cell (p := ⟨g, n, none⟩) HG2.out).trans (HC.out n hlt)
      have hql := HPL.out n hlt
      have H0 := Bx.mk (fun h => tr_bad (nm := nm) hlt h)
      have H1 := Bx.mk (fun h => tr_ok hlt HQ.out h)
      have H2 := Bx.mk (tr_row hlt)
      have k1 : (0 : Int) ≤ (n : Int) := by omega
      have k2 : (n : Int) < (ps.length : Int) := by omega
      have d1 : decide ((n : Int) < (ps.length : Int)) = true := decide_eq_true k2
      have hll : n = (ratsL (ps.take n)).length := by rw [ratsL_len, List.length_take]; omega
      have HLL := Bx.mk hll
      have BW := Bx.mk (B1.out.trans (HB.out.mono B1.out.size))
      have HMW : Bx (wr.cell? ⟨2, 0, none⟩ = some (.int .i64 m) ∧ 2 < wr.heap.size) := Bx.mk ⟨(BW.out.cell (p := ⟨2, 0, none⟩) HM.out.2).trans HM.out.1, Nat.lt_of_lt_of_le HM.out.2 BW.out.size⟩
      generalize ps.getD n [] = q at *
      have hq := readr_open (impl_readratio ⟨q.toArray⟩ wr (by show q.toArray.size ≤ 1048576; simp; omega) (Bx.mk (hv.out.below BW.out)) m HMW)
      have e0 : (⟨q.toArray⟩ : ByteArray).data.toList = q := by simp
      rw [e0] at hq
      clear e0 hql hll HQ BW HMW
      unfold rp at H2
      generalize readRE q = u at *
      obtain ⟨u1, u2, u3⟩ := u
      dsimp only at hq H0 H1 H2
      go_wp2_with (fail)
      refine hq.mono ?_
      rintro r w4 ⟨rfl, hb4⟩
      have O4 := Bx.mk (own_below HO.out hb4)
      have B4 := Bx.mk (HB.out.trans (hb4.mono HB.out.size))
      have R4 := Bx.mk (K1.out.below B4.out)
      clear hb4 HO HB hc hq
      cases u3 with
      | false =>
        have HN : Bx (o = none) := Bx.mk (HR.out.trans (H0.out rfl))
        have B5 : Bx (Below w.heap.size w w4) := Bx.mk (B1.out.trans (B4.out.mono B1.out.size))
        have r0 := R4.out.c0
        have r1 := R4.out.c1
        have rf0 := R4.out.f0 0
        have rf1 := R4.out.f0 1
        have rl := R4.out.lt
        clear H0 H1 H2 O4 B4
        go_wp2_with (fail)
        have P1 := ((R4.out.put0 (.string ⟨#[]⟩)).put1 (.slice none 0 0)).alloc (.cells #[.int .i64 u1, .int .i64 u2] 50)
        have hS := B5.out.size
        (try simp only [Exit.inBlock, Exit.then])
        refine bodyPost_ret (v := .tuple #[.agg #[.string ⟨#[]⟩, .slice none 0 0], .bool false]) (by simp [results, Tryd.results8, go_sem, P1.c0, P1.c1]) rfl ?_
        exact tr_none HN.out (((B5.out.setCell (Nat.le_refl _) _).setCell (Nat.le_refl _) _).alloc (by simp; omega) _)
      | true =>
        have HQ2 := Bx.mk (H1.out rfl)
        have O5 := Bx.mk (O4.out.alloc (.cells #[.int .i64 u1, .int .i64 u2] 50))
        have B5 := Bx.mk (B4.out.alloc B4.out.size (.cells #[.int .i64 u1, .int .i64 u2] 50))
        have CT : Bx (∀ j u, [.int .i64 u1, .int .i64 u2][j]? = some u → ((w4.alloc (.cells #[.int .i64 u1, .int .i64 u2] 50)).alloc (.cells #[.int .i64 u1, .int .i64 u2] 50)).cell? ((⟨w4.heap.size + 1, 0, none⟩ : Addr).add j) = some u) := Bx.mk (by have := tr_two (w4.alloc (.cells #[.int .i64 u1, .int .i64 u2] 50)) (.int .i64 u1) (.int .i64 u2) 50; rw [World.size_alloc] at this; exact this)
        rw [← HLL.out] at O5
        have B4s := B4.out.size
        clear H0 H1 O4 B4 R4
        go_wp2_with ((at_builtin; refine wpList_append_own _ rfl _ _ 22 rfl w1.heap.size 50 i0 (.agg #[.int .i64 0, .int .i64 0]) 2 16 Tryd.underlying22 hi hz0 hz1 hz2 rfl (by decide) _ _ _ rfl (O5.out.alloc _) ⟨w4.heap.size + 1, 0, none⟩ 1 1 [.int .i64 u1, .int .i64 u2] rfl rfl CT.out (fun x hx => by simp at hx; rcases hx with rfl | rfl <;> rfl) (by unfold maxLen; omega) (by omega) (by simp; omega) ?_; intro v' w6 hown6 hgrow6 hnil6; obtain ⟨A6, c6, rfl⟩ := own_len hown6; have HO6 := Bx.mk hown6; have B6 := Bx.mk (Below.grown (B5.out.alloc B5.out.size (.cells #[.int .i64 u1, .int .i64 u2] 50)) hgrow6 (by have := B5.out.size; simp at *; omega) (fun k hk => own_ge' O5.out k hk)); clear hown6 hgrow6 hnil6))
        have O7 : Bx (w6.ownsRow w1.heap.size 50 2 (.slice A6 (n + 1) c6) (ratsL (ps.take (n + 1))).length (pcl (ratsL (ps.take (n + 1))))) := Bx.mk (by
          rw [H2.out, pcl_app, List.length_append, ← HLL.out]
          exact HO6.out)
        clear HO6
        go_roundw
        case rel => exact ⟨n + 1, A6, c6, by omega, by go_num, rfl, O7, B6, HQ2⟩
        case measure => simp [intOf]; omega
    · obtain rfl : n = ps.length := by omega
      have d1 : decide ((ps.length : Int) < (ps.length : Int)) = false := decide_eq_false (by omega)
      have R1 := Bx.mk (K1.out.below HB.out)
      have BW := Bx.mk (B1.out.trans (HB.out.mono B1.out.size))
      have hll : ps.length = (ratsL (ps.take ps.length)).length := by rw [ratsL_len, List.length_take]; omega
      have HLL := Bx.mk hll
      have hk2 := fun W (h : PrsAt W (.slice A ps.length c2) (ratsL (ps.take ps.length))) => impl_validtuning ⟨nm.toArray⟩ (.slice A ps.length c2) (ratsL (ps.take ps.length)) W h (by have := HNL.out; show nm.toArray.size ≤ maxLen; unfold maxLen; simp; omega) (by omega)
      have en : (⟨nm.toArray⟩ : ByteArray).data.toList = nm := rfl
      rw [en] at hk2
      simp only [tun] at hk2
      have KT := Bx.mk (BoxAt.at wr wr.heap.size (.string ⟨nm.toArray⟩) (.slice A ps.length c2) 24 rfl)
      have RT := Bx.mk (R1.out.alloc (.cells #[.string ⟨nm.toArray⟩, .slice A ps.length c2] 24))
      have BT := Bx.mk (BW.out.alloc BW.out.size (.cells #[.string ⟨nm.toArray⟩, .slice A ps.length c2] 24))
      have OT := Bx.mk (HO.out.alloc (.cells #[.string ⟨nm.toArray⟩, .slice A ps.length c2] 24))
      have HPr := Bx.mk (PrsAt.own OT.out)
      clear R1 BW HO HB hk hlt hll
      go_wp2_with (fail)
      refine (hk2 _ HPr.out).mono ?_
      rintro r w5 ⟨rfl, hb5⟩
      have R5 := Bx.mk (RT.out.below hb5)
      have K5 := Bx.mk (KT.out.below hb5)
      have B5 := Bx.mk (BT.out.trans (hb5.mono BT.out.size))
      have O5 := Bx.mk (own_below OT.out hb5)
      clear hb5 hk2 KT RT BT OT HPr
      cases ht : tunB nm (ratsL (ps.take ps.length)) with
      | false =>
        have HE : Bx (o = none) := Bx.mk (HR.out.trans (tr_no ht))
        have r0 := R5.out.c0
        have r1 := R5.out.c1
        have rf0 := R5.out.f0 0
        have rf1 := R5.out.f0 1
        have rl := R5.out.lt
        clear ht O5 K5
        go_wp2_with (fail)
        have P1 := (R5.out.put0 (.string ⟨#[]⟩)).put1 (.slice none 0 0)
        (try simp only [Exit.inBlock, Exit.then])
        refine bodyPost_ret (v := .tuple #[.agg #[.string ⟨#[]⟩, .slice none 0 0], .bool false]) (by simp [results, Tryd.results8, go_sem, P1.c0, P1.c1]) rfl ?_
        exact tr_none HE.out ((B5.out.setCell (Nat.le_refl _) _).setCell (Nat.le_refl _) _)
      | true =>
        have HE : Bx (o = some (nm, ratsL (ps.take ps.length))) := Bx.mk (HR.out.trans (tr_end HQ.out ht))
        have r0 := R5.out.c0
        have r1 := R5.out.c1
        have rf0 := R5.out.f0 0
        have rf1 := R5.out.f0 1
        have rl := R5.out.lt
        have t0 := K5.out.c0
        have t1 := K5.out.c1
        have hS := B1.out.size
        have hR := K1.out.lt
        clear ht
        go_wp2_with (fail)
        have P1 := (R5.out.put0 (.string ⟨nm.toArray⟩)).put1 (.slice A ps.length c2)
        (try simp only [Exit.inBlock, Exit.then])
        refine bodyPost_ret (v := .tuple #[.agg #[.string ⟨nm.toArray⟩, .slice A ps.length c2], .bool true]) (by simp [results, Tryd.results8, go_sem, P1.c0, P1.c1]) rfl ?_
        have O6 := own_down (show w.heap.size ≤ w1.heap.size by omega) (own_set (own_set O5.out hR 0 (.string ⟨nm.toArray⟩)) hR 1 (.slice A ps.length c2))
        rw [← HLL.out] at O6
        exact tr_some (nm := ⟨nm.toArray⟩) HE.out HLL.out O6 ((B5.out.setCell (Nat.le_refl _) _).setCell (Nat.le_refl _) _)
end Go.Proofs.YtobhmoohalkijaaDoor

namespace Go.Proofs.YtobhmoohalkijaaDoor.fnExactReadTuning
open Go.ChangeShapes Go.WideShapes Go.ChangeAt Go.RowKit
set_option linter.unusedVariables false
set_option linter.unusedSimpArgs false
set_option maxRecDepth 100000

set_option maxHeartbeats 8000000 in
set_option maxRecDepth 100000 in
theorem walk (a0 : ByteArray) (w0 : a0.size ≤ maxLen) (w : World) {ps : List MemPlace} (hl : DataW.LaidVars Tryd.prog w Rows.fnExactReadTuningRow.laid ps) (hsh : w.ShapedOpen Tryd.prog) :
    Calls Tryd.prog 3 #[.string a0] w fun e w' => e = .returned (.bool true) ∧ Below w.heap.size w w' := by
  have w1 := w0
  unfold maxLen at w1
  by_cases h : 1048576 < a0.size
  · clear hl hsh
    go_enter Tryd.func3, Tryd.ntmps3
    go_wp2_with (fail)
    go_ret
    exact ⟨rfl, Below.refl _ _⟩
  have hs0 : a0.size ≤ 1048576 := by omega
  have H0 := Bx.mk (Holds.start w)
  have e : Rows.laid_internal_strconv_uint64pow10 = Lib.tabData (H := Unit) .u64 Lib.pow10Tab := by kernel_rfl
  have HV : Bx (Vars w) := Bx.mk ⟨tab_get hl (by rw [← e]; exact .tail _ (.tail _ (.head _))) (g := 7) (t := 173) (e := 150) (N := 20) (by kernel_rfl) (by kernel_rfl) Tryd.underlying173 Tryd.underlying150 (by kernel_rfl) (by kernel_rfl),
    sent_get hl (.tail _ (.tail _ (.tail _ (.tail _ (.tail _ (.head _)))))) (g := 5) (t := 91) (by kernel_rfl) (by kernel_rfl) Tryd.underlying91,
    sent_get hl (.tail _ (.tail _ (.tail _ (.tail _ (.head _))))) (g := 6) (t := 91) (by kernel_rfl) (by kernel_rfl) Tryd.underlying91⟩
  have HM : Bx (∃ m, w.cell? ⟨2, 0, none⟩ = some (.int .i64 m) ∧ 2 < w.heap.size) := Bx.mk (by
    obtain ⟨m, hm0⟩ := Tryd.laysM146.s1_3 w hsh
    have hm : w.cell? ⟨2, 0, none⟩ = some (.int .i64 m) := hm0
    refine ⟨m, hm, ?_⟩
    rcases Nat.lt_or_ge 2 w.heap.size with h | h
    · exact h
    · simp [World.cell?, Array.getElem?_eq_none h] at hm)
  have hs := fun W => spec_readtuning a0 W hs0
  have hi := fun W (hb : Below w.heap.size w W) => impl_readtuning a0 W hs0 (Bx.mk (HV.out.below hb)) (Bx.mk (by obtain ⟨m, h1, h2⟩ := HM.out; exact ⟨m, (hb.cell (p := ⟨2, 0, none⟩) h2).trans h1, Nat.lt_of_lt_of_le h2 hb.size⟩))
  have hLn := tr_len a0.data.toList
  generalize readTu a0.data.toList = o at hs hi hLn
  generalize trN o = sS at hs hi
  generalize trL o = ys at hs hi hLn
  generalize o.isSome = cc at hs hi
  have heq := fun va vb W ha hb => eq_tun_same sS va vb ys W ha hb (by omega)
  have hmk := fun te W v base h => mark_tunE (te := te) sS v ys base 1 W h (by omega) (by omega) (by omega)
  have hhd := fun v W h => held_tun sS v ys.length 1 W h (by omega) (by omega) (by omega)
  simp only [tun] at heq hmk hhd
  have hdk : decide (1 + 2 * (ys.length : Int) < 0) = false := decide_eq_false (by omega)
  clear hl e hsh h w1
  go_enter Tryd.func3, Tryd.ntmps3
  go_wp2_with (fail)
  refine (hs _).mono ?_
  rintro e1 q1 ⟨tew, vw, rfl, ho, hb⟩
  obtain ⟨Aw, cw, rfl⟩ := own_len ho
  unfold tun
  have H1 := Bx.mk (H0.out.below hb)
  have SZ1 : Bx (w.heap.size ≤ q1.heap.size) := Bx.mk hb.size
  have Ow_1 := Bx.mk ho
  have Uw := Bx.mk (own_hi ho)
  clear H0
  clear hb ho
  go_wp2_with (fail)
  refine (hi _ ((H1.out.pair (.string sS) (.slice Aw ys.length cw) _ _)).2).mono ?_
  rintro e2 q2 ⟨teg, vg, rfl, ho, hb⟩
  obtain ⟨Ag, cg, rfl⟩ := own_len ho
  unfold tun
  have H2 := Bx.mk ((H1.out.pair (.string sS) (.slice Aw ys.length cw) _ _).below hb)
  have SZ2 : Bx (q1.heap.size + 1 ≤ q2.heap.size) := Bx.mk (by have := hb.size; simp only [World.size_alloc] at this; omega)
  have Ow_2 := Bx.mk (own_below (World.ownsRow.alloc Ow_1.out _) hb)
  have Og_2 := Bx.mk (own_down2 (b1 := q1.heap.size + 1) (by go_size) ho)
  have Ug := Bx.mk (own_hi ho)
  clear H1 Ow_1
  have b0_x := H2.out.get (g := q1.heap.size) (k := 0) (v := .string sS) (by simp)
  have b0_y := H2.out.get (g := q1.heap.size) (k := 1) (v := .slice Aw ys.length cw) (by simp)
  have b0_l := H2.out.lt (g := q1.heap.size) (k := 1) (v := .slice Aw ys.length cw) (by simp)
  clear hb ho
  go_wp2_with (fail)
  refine (heq _ _ _ (prs_own (World.ownsRow.alloc Og_2.out _)) (prs_own (World.ownsRow.alloc Ow_2.out _))).mono ?_
  rintro e3 q3 ⟨rfl, hb⟩
  have H3 := Bx.mk ((H2.out.pair (.string sS) (.slice Ag ys.length cg) _ _).below hb)
  have SZ3 : Bx (q2.heap.size + 1 ≤ q3.heap.size) := Bx.mk (by have := hb.size; simp only [World.size_alloc] at this; omega)
  have Ow_3 := Bx.mk (own_below (World.ownsRow.alloc Ow_2.out _) hb)
  have Og_3 := Bx.mk (own_below (World.ownsRow.alloc Og_2.out _) hb)
  clear H2 Ow_2 Og_2 b0_x b0_y b0_l
  have b0_x := H3.out.get (g := q1.heap.size) (k := 0) (v := .string sS) (by simp)
  have b0_y := H3.out.get (g := q1.heap.size) (k := 1) (v := .slice Aw ys.length cw) (by simp)
  have b0_l := H3.out.lt (g := q1.heap.size) (k := 1) (v := .slice Aw ys.length cw) (by simp)
  have b1_x := H3.out.get (g := q2.heap.size) (k := 0) (v := .string sS) (by simp)
  have b1_y := H3.out.get (g := q2.heap.size) (k := 1) (v := .slice Ag ys.length cg) (by simp)
  have b1_l := H3.out.lt (g := q2.heap.size) (k := 1) (v := .slice Ag ys.length cg) (by simp)
  clear hb
  go_wp2_with (fail)
  refine (hmk _ _ _ _ Og_3.out).mono ?_
  rintro e4 q4 ⟨rfl, hm, hg⟩
  have LO := Bx.mk (own_lo Og_3.out)
  have H4 := Bx.mk ((H3.out.alloc _).grown hg (by
    intro p hp hk
    have h1 := LO.out _ hk
    have h2 := Ug.out _ hk
    have := SZ1.out; have := SZ2.out; have := SZ3.out
    clear hg hm
    simp at hp
    rcases hp with rfl | rfl | rfl | rfl <;> (dsimp only at h1 h2; omega)
    ) (by intro b hb; have := LO.out b hb; have := SZ1.out; have := SZ2.out; have := SZ3.out; omega))
  have SZ4 : Bx (q3.heap.size + 1 ≤ q4.heap.size) := Bx.mk (by have := grown_size hg; simp only [World.size_alloc] at this; omega)
  have Ow_4 := Bx.mk (own_young (World.ownsRow.alloc Ow_3.out _) Uw.out Og_3.out (by have := SZ1.out; have := SZ2.out; have := SZ3.out; omega) hg)
  have Og_4 := Bx.mk hm
  clear LO hm hg H3 Ow_3 Og_3 b0_x b0_y b0_l b1_x b1_y b1_l
  have b0_x := H4.out.get (g := q1.heap.size) (k := 0) (v := .string sS) (by simp)
  have b0_y := H4.out.get (g := q1.heap.size) (k := 1) (v := .slice Aw ys.length cw) (by simp)
  have b0_l := H4.out.lt (g := q1.heap.size) (k := 1) (v := .slice Aw ys.length cw) (by simp)
  have b1_x := H4.out.get (g := q2.heap.size) (k := 0) (v := .string sS) (by simp)
  have b1_y := H4.out.get (g := q2.heap.size) (k := 1) (v := .slice Ag ys.length cg) (by simp)
  have b1_l := H4.out.lt (g := q2.heap.size) (k := 1) (v := .slice Ag ys.length cg) (by simp)
  go_wp2_with (fail)
  refine (hhd _ _ (prs_own (by rw [pmk_len]; exact Og_4.out))).mono ?_
  rintro e5 q5 ⟨rfl, hb⟩
  have H5 := Bx.mk (H4.out.below hb)
  have SZ5 : Bx (q4.heap.size ≤ q5.heap.size) := Bx.mk hb.size
  have Ow_5 := Bx.mk (own_below Ow_4.out hb)
  have Og_5 := Bx.mk (own_below Og_4.out hb)
  clear H4 Ow_4 Og_4 b0_x b0_y b0_l b1_x b1_y b1_l
  have b0_x := H5.out.get (g := q1.heap.size) (k := 0) (v := .string sS) (by simp)
  have b0_y := H5.out.get (g := q1.heap.size) (k := 1) (v := .slice Aw ys.length cw) (by simp)
  have b0_l := H5.out.lt (g := q1.heap.size) (k := 1) (v := .slice Aw ys.length cw) (by simp)
  have b1_x := H5.out.get (g := q2.heap.size) (k := 0) (v := .string sS) (by simp)
  have b1_y := H5.out.get (g := q2.heap.size) (k := 1) (v := .slice Ag ys.length cg) (by simp)
  have b1_l := H5.out.lt (g := q2.heap.size) (k := 1) (v := .slice Ag ys.length cg) (by simp)
  clear hb
  go_wp2_with (fail)
  refine (hi _ (H5.out).2).mono ?_
  rintro e6 q6 ⟨teh, vh, rfl, ho, hb⟩
  obtain ⟨Ah, ch, rfl⟩ := own_len ho
  unfold tun
  have H6 := Bx.mk (H5.out.below hb)
  have SZ6 : Bx (q5.heap.size ≤ q6.heap.size) := Bx.mk hb.size
  have Ow_6 := Bx.mk (own_below Ow_5.out hb)
  have Og_6 := Bx.mk (own_below Og_5.out hb)
  have Oh_6 := Bx.mk ho
  have Uh := Bx.mk (own_hi ho)
  clear H5 Ow_5 Og_5 b0_x b0_y b0_l b1_x b1_y b1_l
  have b0_x := H6.out.get (g := q1.heap.size) (k := 0) (v := .string sS) (by simp)
  have b0_y := H6.out.get (g := q1.heap.size) (k := 1) (v := .slice Aw ys.length cw) (by simp)
  have b0_l := H6.out.lt (g := q1.heap.size) (k := 1) (v := .slice Aw ys.length cw) (by simp)
  have b1_x := H6.out.get (g := q2.heap.size) (k := 0) (v := .string sS) (by simp)
  have b1_y := H6.out.get (g := q2.heap.size) (k := 1) (v := .slice Ag ys.length cg) (by simp)
  have b1_l := H6.out.lt (g := q2.heap.size) (k := 1) (v := .slice Ag ys.length cg) (by simp)
  clear hb ho
  go_wp2_with (fail)
  refine (heq _ _ _ (prs_own (World.ownsRow.alloc Oh_6.out _)) (prs_own (World.ownsRow.alloc Ow_6.out _))).mono ?_
  rintro e7 q7 ⟨rfl, hb⟩
  have H7 := Bx.mk ((H6.out.pair (.string sS) (.slice Ah ys.length ch) _ _).below hb)
  have SZ7 : Bx (q6.heap.size + 1 ≤ q7.heap.size) := Bx.mk (by have := hb.size; simp only [World.size_alloc] at this; omega)
  have Ow_7 := Bx.mk (own_below (World.ownsRow.alloc Ow_6.out _) hb)
  have Og_7 := Bx.mk (own_below (World.ownsRow.alloc Og_6.out _) hb)
  have Oh_7 := Bx.mk (own_below (World.ownsRow.alloc Oh_6.out _) hb)
  clear H6 Ow_6 Og_6 Oh_6 b0_x b0_y b0_l b1_x b1_y b1_l
  have b0_x := H7.out.get (g := q1.heap.size) (k := 0) (v := .string sS) (by simp)
  have b0_y := H7.out.get (g := q1.heap.size) (k := 1) (v := .slice Aw ys.length cw) (by simp)
  have b0_l := H7.out.lt (g := q1.heap.size) (k := 1) (v := .slice Aw ys.length cw) (by simp)
  have b1_x := H7.out.get (g := q2.heap.size) (k := 0) (v := .string sS) (by simp)
  have b1_y := H7.out.get (g := q2.heap.size) (k := 1) (v := .slice Ag ys.length cg) (by simp)
  have b1_l := H7.out.lt (g := q2.heap.size) (k := 1) (v := .slice Ag ys.length cg) (by simp)
  have b2_x := H7.out.get (g := q6.heap.size) (k := 0) (v := .string sS) (by simp)
  have b2_y := H7.out.get (g := q6.heap.size) (k := 1) (v := .slice Ah ys.length ch) (by simp)
  have b2_l := H7.out.lt (g := q6.heap.size) (k := 1) (v := .slice Ah ys.length ch) (by simp)
  clear hb
  go_wp2_with (fail)
  refine (hhd _ _ (prs_own (by rw [pmk_len]; exact Og_7.out))).mono ?_
  rintro e8 q8 ⟨rfl, hb⟩
  have H8 := Bx.mk (H7.out.below hb)
  have SZ8 : Bx (q7.heap.size ≤ q8.heap.size) := Bx.mk hb.size
  have Ow_8 := Bx.mk (own_below Ow_7.out hb)
  have Og_8 := Bx.mk (own_below Og_7.out hb)
  have Oh_8 := Bx.mk (own_below Oh_7.out hb)
  clear H7 Ow_7 Og_7 Oh_7 b0_x b0_y b0_l b1_x b1_y b1_l b2_x b2_y b2_l
  have b0_x := H8.out.get (g := q1.heap.size) (k := 0) (v := .string sS) (by simp)
  have b0_y := H8.out.get (g := q1.heap.size) (k := 1) (v := .slice Aw ys.length cw) (by simp)
  have b0_l := H8.out.lt (g := q1.heap.size) (k := 1) (v := .slice Aw ys.length cw) (by simp)
  have b1_x := H8.out.get (g := q2.heap.size) (k := 0) (v := .string sS) (by simp)
  have b1_y := H8.out.get (g := q2.heap.size) (k := 1) (v := .slice Ag ys.length cg) (by simp)
  have b1_l := H8.out.lt (g := q2.heap.size) (k := 1) (v := .slice Ag ys.length cg) (by simp)
  have b2_x := H8.out.get (g := q6.heap.size) (k := 0) (v := .string sS) (by simp)
  have b2_y := H8.out.get (g := q6.heap.size) (k := 1) (v := .slice Ah ys.length ch) (by simp)
  have b2_l := H8.out.lt (g := q6.heap.size) (k := 1) (v := .slice Ah ys.length ch) (by simp)
  clear hb
  go_wp2_with (fail)
  go_ret
  exact ⟨rfl, (H8.out).2⟩

theorem own : ownKnob Tryd.prog.godebug = none := by kernel_rfl
theorem laidOut : laidOutB Tryd.prog = true := by kernel_rfl
theorem listed {W : World} (h : laidMetH Tryd.prog Rows.fnExactReadTuningRow.laid W) : ∃ ps, DataW.LaidVars Tryd.prog W Rows.fnExactReadTuningRow.laid ps := by
  rw [Go.MakeChecks.laidMetH_plain _ _ _ (by kernel_rfl)] at h
  obtain ⟨ps, h, _⟩ := h
  exact ⟨ps, h⟩
set_option maxRecDepth 100000 in
theorem contract (H : Type) (enc : TypeId × Value → H) (W : World) (base : Nat) (args : Array Value) (ds gs : List (DataW H)) (before : List MemPlace)
    (hval : ∀ (j : Nat) t v, Tryd.f3.params[j]? = some t → args[j]? = some v → Value.okWide Tryd.prog W .any base t v)
    (hW : DataW.Whole enc Tryd.prog Tryd.f3.params.toList Rows.fnExactReadTuningSpec.vars false W args.toList ds gs before) (hL : laidMetH Tryd.prog Rows.fnExactReadTuningRow.laid W) (hsh : W.ShapedOpen Tryd.prog) :
    Calls Tryd.prog 3 args W fun e W' => ∃ v, e = .returned v ∧ Rows.fnExactReadTuningSpec.post enc Tryd.prog Tryd.f3 false true false false W args v W' := by
  have hW' := hW
  obtain ⟨p, q, hA0, hV, rfl, hfz, hnd⟩ := hW
  obtain ⟨ps, hl⟩ := listed hL
  have hA : DataW.TrodAll enc Tryd.prog W 0 (fun _ => true) true Tryd.f3.params.toList args.toList ds p := hA0
  rw [Tryd.params3] at hA hval
  obtain ⟨v0, vs0, d0, ds0, p0, q0, hargs, rfl, rfl, h0, r0⟩ := trodAll_cons hA
  obtain ⟨rfl, rfl, rfl⟩ := trodAll_nil r0
  obtain rfl : args = #[v0] := by cases args; simp_all
  obtain ⟨rfl, rfl⟩ := trodVars_none hV
  obtain ⟨a0, rfl, rfl, rfl, w0⟩ := Go.ChangeMaps.open_string Tryd.underlying9 (hval 0 9 v0 rfl rfl) h0
  refine (walk a0 w0 W hl hsh).mono fun e W' ⟨he, hb⟩ => ?_
  subst he
  exact ⟨_, rfl, post_lawv laidOut (by kernel_rfl) (by kernel_rfl) (by kernel_rfl) Tryd.underlying4 hW' rfl hb⟩

noncomputable def low : Nat := (World.holding Tryd.prog default ⟨#[], #[], []⟩).heap.size
/-- a world for the witness: each listed variable holds what is listed -/
noncomputable def laidWorld (os : Os) : World :=
  { World.holding Tryd.prog os ⟨#[], #[], []⟩ with heap := ((((((((World.holding Tryd.prog os ⟨#[.cells #[.string ⟨#[118, 97, 108, 117, 101, 32, 111, 117, 116, 32, 111, 102, 32, 114, 97, 110, 103, 101]⟩] 179, .cells #[.string ⟨#[105, 110, 118, 97, 108, 105, 100, 32, 115, 121, 110, 116, 97, 120]⟩] 179], #[], []⟩).heap).modify 8 (layCells (datCells (H := Unit) Rows.laid_math_bits_deBruijn32tab))).modify 9 (layCells (datCells (H := Unit) Rows.laid_math_bits_deBruijn64tab))).modify 7 (layCells (datCells (H := Unit) Rows.laid_internal_strconv_uint64pow10))).modify 4 (layCells (datCells (H := Unit) Rows.laid_unicode_utf8_acceptRanges))).modify 3 (layCells (datCells (H := Unit) Rows.laid_unicode_utf8_first))).modify 6 (layCells [.iface 177 (.pointer (some ⟨low + 0, 0, none⟩))])).modify 5 (layCells [.iface 177 (.pointer (some ⟨low + 1, 0, none⟩))]) }
theorem laid_met (os : Os) : laidMet Tryd.prog Rows.fnExactReadTuningRow.laid ((laidWorld os).forCall (fun _ _ => 0) ⟨#[], #[Value.string ⟨#[]⟩], []⟩).memory :=
  laidMet_of_run' 8 (by kernel_rfl) (by kernel_rfl)
theorem reads (os : Os) {H : Type} (enc : TypeId × Value → H) : ∃ places, DataW.whole enc Tryd.prog ((laidWorld os).forCall (fun _ _ => 0) ⟨#[], #[Value.string ⟨#[]⟩], []⟩).memory Tryd.f3.params.toList Rows.fnExactReadTuningSpec.vars false #[Value.string ⟨#[]⟩].toList 8 = some ([.lit (.string [])], [], places) :=
  places_of (by kernel_rfl)

set_option maxRecDepth 100000 in
theorem lifted (os : Os) (started : os.Started) (H : Type) (enc : TypeId × Value → H) (F : Stop.Interp) :
    ReturnsInHanded {} Tryd.checked os 3 .any ((OpenSpec.ofChange Rows.fnExactReadTuningSpec).preRow enc Tryd.prog Tryd.f3 Rows.fnExactReadTuningRow.domain false Rows.fnExactReadTuningRow.laid) (((OpenSpec.ofChange Rows.fnExactReadTuningSpec).at F).post enc Tryd.prog Tryd.f3 false true false false) := by
  obtain ⟨places, hx⟩ := reads os enc
  refine returnsInHanded_of_row (C := Tryd.checked) (s := OpenSpec.ofChange Rows.fnExactReadTuningSpec) own started (by kernel_rfl) Tryd.func3
    (witness_row_at (enc := enc) (C := Tryd.checked) false (laidWorld os) #[Value.string ⟨#[]⟩] rfl (by kernel_rfl) (by kernel_rfl) (by kernel_rfl)
      (OpenSpec.preRow_of_cond 8 hx (by kernel_rfl) (fun k hk => by cases hk) (by kernel_rfl) (by rw [Go.MakeChecks.laidMetH_plain _ _ _ (by kernel_rfl)]; exact laid_met os))) ?_
  intro W base args ds gs before hval hW _ _ _ hL hsh _
  exact contract H enc W base args ds gs before hval hW hL hsh

theorem said : Rows.FnExactReadTuningSaid :=
  OpenClaim.holds_of_cond 3 Tryd.f3 rfl rfl rfl rfl rfl rfl rfl ⟨rfl, rfl, rfl, rfl, rfl⟩ rfl rfl rfl rfl rfl (by kernel_rfl) Tryd.func3 (by kernel_rfl)
    (of_decide_eq_true (by kernel_rfl)) (by unfold Func.isWrapper; first | (rw [if_pos (by decide +kernel)]; kernel_rfl) | (rw [if_neg (by decide +kernel)]; exact ⟨rfl, rfl⟩))
    (fun os started H enc _ F => by rw [OpenClaim.pre_eq_preRow]; exact lifted os started H enc F)

theorem plain (f : FuncId) (fn : Func) (hf : Tryd.pinned.checked.prog.funcNamed "loop.example/g01033/laws.FnExactReadTuning" = some f) (hfn : Tryd.pinned.checked.prog.funcs[f]? = some fn) :
    true = Tryd.pinned.checked.prog.looks [] ∧ ∀ (j : Nat) t, fn.params[j]? = some t → Tryd.pinned.checked.prog.wantsStandIn t = false := by
  obtain rfl : f = 3 := Option.some.inj ((show Tryd.prog.funcNamed "loop.example/g01033/laws.FnExactReadTuning" = some 3 by kernel_rfl).symm.trans hf) |>.symm
  obtain rfl : fn = Tryd.f3 := (Option.some.inj (Tryd.func3.symm.trans hfn)).symm
  refine ⟨by kernel_rfl, fun j t ht => ?_⟩
  rw [Tryd.params3] at ht
  have hm := Array.mem_of_getElem? ht
  have hall : ∀ t ∈ #[9], Tryd.prog.wantsStandIn t = false := by
    intro t ht
    simp at ht
    subst ht; kernel_rfl
  exact hall t hm

theorem card : Rows.FnExactReadTuningCardSaid :=
  Claim7.holds_tied_plain_at .later [] _ _ _ _ said (fun _ h => by cases h) (by kernel_rfl) (fun _ h => by cases h) fnExactReadTuning_row_tie rfl ⟨rfl, rfl⟩ (by kernel_rfl) rfl plain (by kernel_rfl)
theorem proved : Rows.FnExactReadTuningCardSaid := card
#print axioms proved
end Go.Proofs.YtobhmoohalkijaaDoor.fnExactReadTuning
