/- Rows of memory of any element type: what the laws' own functions do with them. -/
import Derived.Test.YtjjiibmbaggjoaaTuLaw
namespace Go.Proofs.Ytjjiibmbaggjoaa
open Go.ChangeShapes Go.WideShapes Go.ChangeAt Go.RowKit
set_option linter.unusedVariables false
set_option linter.unusedSimpArgs false
set_option maxRecDepth 100000

theorem ints_own {te : TypeId} {w : World} {base : Nat} {v : Value} {zs : List Int} (h : w.ownsRow base te 1 v zs.length (ints zs)) : IntsAt w v zs := by
  rcases Nat.eq_zero_or_pos zs.length with h0 | h0
  · refine .inl ⟨List.eq_nil_of_length_eq_zero h0, ?_⟩
    rcases h.2 with ⟨hv, _⟩ | ⟨g, cap, cur, hv, _⟩
    · exact ⟨none, 0, hv⟩
    · exact ⟨some ⟨g, 0, none⟩, cap, by rw [hv, h0]⟩
  · obtain ⟨g, cap, rfl, _, hlt⟩ := h.form h0
    refine .inr ⟨g, 0, cap, rfl, hlt, fun k hk => ?_⟩
    rw [Nat.zero_add, h.cellAt k (by omega), ints_at zs k hk]

theorem mark_intsE {te : TypeId} (v : Value) (zs : List Int) (base : Nat) (k : Int) (w : World) (h : w.ownsRow base te 1 v zs.length (ints zs)) (hn : zs.length ≤ 281474976710656) (hk : 0 ≤ k) (hk2 : k ≤ 1000000000) :
    Calls Try.prog 26 #[v, .int .i64 k] w fun e w' => e = .returned (.int .i64 (k + zs.length)) ∧ w'.ownsRow base te 1 v zs.length (ints (marks zs.length k)) ∧ w.grownBy w' v.ownBlock := by
  rcases Nat.eq_zero_or_pos zs.length with h0 | h0
  · obtain rfl := List.eq_nil_of_length_eq_zero h0
    obtain ⟨A, c, rfl⟩ : ∃ A c, v = .slice A 0 c := by
      rcases h.2 with ⟨hv, _⟩ | ⟨g, cap, cur, hv, _⟩
      · exact ⟨none, 0, hv⟩
      · exact ⟨_, cap, hv⟩
    have HO := Bx.mk h
    clear h
    go_enter Try.func26, Try.ntmps26
    go_wp2
    refine wp_loop_rounds 1 ?_
    rw [rounds_succ]
    go_wp2
    go_ret
    exact ⟨ret_int (by simp), by simpa [marks] using HO.out, World.grownBy.refl w _⟩
  · obtain ⟨g, cap, rfl, hbg, hlt⟩ := h.form h0
    have HO := Bx.mk h
    clear h
    go_enter Try.func26, Try.ntmps26
    go_wp2
    go_loopw [1, 5] (fun q i wr => ∃ j : Nat, j ≤ zs.length ∧ i = .int .i64 j ∧ q = .int .i64 (k + j) ∧ Bx (wr.ownsRow base te 1 (.slice (some ⟨g, 0, none⟩) zs.length cap) zs.length (ints (mixed zs k j)) ∧ w.grownBy wr (some g))) (fun _ i _ => zs.length - (intOf i).toNat)
    case atStart => exact ⟨0, Nat.zero_le _, rfl, by go_num, Bx.mk ⟨by rw [mixed_zero]; exact HO.out, World.grownBy.refl w _⟩⟩
    case round =>
      obtain ⟨j, hj, rfl, rfl, HB⟩ := hrel
      by_cases hlt : j < zs.length
      · have hc : ∃ u, wr.cell? ⟨g, j, none⟩ = some u := by
          rw [HB.out.1.cellAt j (by omega)]
          have : j < (ints (mixed zs k j)).length := by rw [ints_len, mixed_len _ _ _ hj]; exact hlt
          exact ⟨_, List.getElem?_eq_getElem this⟩
        obtain ⟨u, hc⟩ := hc
        have hf := HB.out.1.frozenAt j
        have HS : Bx ((wr.setCell ⟨g, j, none⟩ (.int .i64 (k + j))).ownsRow base te 1 (.slice (some ⟨g, 0, none⟩) zs.length cap) zs.length (ints (mixed zs k (j + 1))) ∧ w.grownBy (wr.setCell ⟨g, j, none⟩ (.int .i64 (k + j))) (some g)) := Bx.mk (by
          have hs := HB.out.1.stored j (.int .i64 (k + j))
          rw [mixed_step zs k j hlt] at hs
          exact ⟨hs.1, HB.out.2.trans hs.2⟩)
        clear HB
        go_wp2
        go_roundw
        case rel => exact ⟨j + 1, by omega, by go_num, by go_num, HS⟩
        case measure => simp [intOf]; omega
      · obtain rfl : j = zs.length := by omega
        have HE := HB.out
        rw [mixed_all] at HE
        have HE := Bx.mk HE
        go_wp2
        go_ret
        exact ⟨ret_int (by simp), HE.out.1, HE.out.2⟩

theorem prs_own {te : TypeId} {w : World} {base : Nat} {v : Value} {l : List (Int × Int)} (h : w.ownsRow base te 2 v l.length (pcl l)) : PrsAt w v l := by
  rcases Nat.eq_zero_or_pos l.length with h0 | h0
  · refine .inl ⟨List.eq_nil_of_length_eq_zero h0, ?_⟩
    rcases h.2 with ⟨hv, _⟩ | ⟨g, cap, cur, hv, _⟩
    · exact ⟨none, 0, hv⟩
    · exact ⟨some ⟨g, 0, none⟩, cap, by rw [hv, h0]⟩
  · obtain ⟨g, cap, rfl, _, hlt⟩ := h.form h0
    refine .inr ⟨g, 0, cap, rfl, hlt, fun k hk => ⟨?_, ?_⟩⟩
    · rw [Nat.zero_add, h.cellAt (k * 2) (by omega), pcl_at0 l k hk]
    · rw [Nat.zero_add, h.cellAt (k * 2 + 1) (by omega), pcl_at1 l k hk]
set_option maxHeartbeats 1000000 in
theorem mark_prsE {te : TypeId} (v : Value) (l : List (Int × Int)) (base : Nat) (k : Int) (w : World) (h : w.ownsRow base te 2 v l.length (pcl l)) (hn : l.length ≤ 281474976710656) (hk : 0 ≤ k) (hk2 : k ≤ 1000000000) :
    Calls Try.prog 93 #[v, .int .i64 k] w fun e w' => e = .returned (.int .i64 (k + 2 * l.length)) ∧ w'.ownsRow base te 2 v l.length (pcl (pmk l.length k)) ∧ w.grownBy w' v.ownBlock := by
  rcases Nat.eq_zero_or_pos l.length with h0 | h0
  · obtain rfl := List.eq_nil_of_length_eq_zero h0
    obtain ⟨A, c, rfl⟩ : ∃ A c, v = .slice A 0 c := by
      rcases h.2 with ⟨hv, _⟩ | ⟨g, cap, cur, hv, _⟩
      · exact ⟨none, 0, hv⟩
      · exact ⟨_, cap, hv⟩
    have HO := Bx.mk h
    clear h
    go_enter Try.func93, Try.ntmps93
    go_wp2
    refine wp_loop_rounds 1 ?_
    rw [rounds_succ]
    go_wp2
    go_ret
    exact ⟨ret_int (by simp), by simpa [pmk] using HO.out, World.grownBy.refl w _⟩
  · obtain ⟨g, cap, rfl, hbg, hlt⟩ := h.form h0
    have HO := Bx.mk h
    clear h
    go_enter Try.func93, Try.ntmps93
    go_wp2
    go_loopw [1, 5] (fun q i wr => ∃ j : Nat, j ≤ l.length ∧ i = .int .i64 j ∧ q = .int .i64 (k + 2 * j) ∧ Bx (wr.ownsRow base te 2 (.slice (some ⟨g, 0, none⟩) l.length cap) l.length (pcl (pmix l k j)) ∧ w.grownBy wr (some g))) (fun _ i _ => l.length - (intOf i).toNat)
    case atStart => exact ⟨0, Nat.zero_le _, rfl, by go_num, Bx.mk ⟨by rw [pmix_zero]; exact HO.out, World.grownBy.refl w _⟩⟩
    case round =>
      obtain ⟨j, hj, rfl, rfl, HB⟩ := hrel
      by_cases hlt : j < l.length
      · have hml := pmix_len l k j hj
        have hc : wr.cell? ⟨g, j * 2, none⟩ = some (.int .i64 (pat (pmix l k j) j).1) := (HB.out.1.cellAt (j * 2) (by omega)).trans (pcl_at0 _ j (by omega))
        have hc1 : wr.cell? ⟨g, j * 2 + 1, none⟩ = some (.int .i64 (pat (pmix l k j) j).2) := (HB.out.1.cellAt (j * 2 + 1) (by omega)).trans (pcl_at1 _ j (by omega))
        have hf := HB.out.1.frozenAt (j * 2)
        have hf1 := HB.out.1.frozenAt (j * 2 + 1)
        have HS : Bx (((wr.setCell ⟨g, j * 2, none⟩ (.int .i64 (k + 2 * j))).setCell ⟨g, j * 2 + 1, none⟩ (.int .i64 (k + 2 * j + 1))).ownsRow base te 2 (.slice (some ⟨g, 0, none⟩) l.length cap) l.length (pcl (pmix l k (j + 1))) ∧ w.grownBy ((wr.setCell ⟨g, j * 2, none⟩ (.int .i64 (k + 2 * j))).setCell ⟨g, j * 2 + 1, none⟩ (.int .i64 (k + 2 * j + 1))) (some g)) := Bx.mk (by
          have hs := HB.out.1.stored (j * 2) (.int .i64 (k + 2 * j))
          have hs2 := hs.1.stored (j * 2 + 1) (.int .i64 (k + 2 * j + 1))
          rw [pcl_set _ j (k + 2 * j, k + 2 * j + 1) (by omega), pmix_step l k j hlt] at hs2
          exact ⟨hs2.1, (HB.out.2.trans hs.2).trans hs2.2⟩)
        generalize (pat (pmix l k j) j).1 = u0 at hc
        generalize (pat (pmix l k j) j).2 = u1 at hc1
        clear HB hml
        go_wp2
        go_roundw
        case rel => exact ⟨j + 1, by omega, by go_num, by go_num, HS⟩
        case measure => simp [intOf]; omega
      · obtain rfl : j = l.length := by omega
        have HE := HB.out
        rw [pmix_all] at HE
        have HE := Bx.mk HE
        go_wp2
        go_ret
        exact ⟨ret_int (by simp), HE.out.1, HE.out.2⟩
set_option maxHeartbeats 1000000 in
theorem mark_tunE {te : TypeId} (s : ByteArray) (v : Value) (l : List (Int × Int)) (base : Nat) (k : Int) (w : World) (h : w.ownsRow base te 2 v l.length (pcl l)) (hn : l.length ≤ 281474976710656) (hk : 0 ≤ k) (hk2 : k ≤ 1000000000) :
    Calls Try.prog 51 #[tun s v, .int .i64 k] w fun e w' => e = .returned (.int .i64 (k + 2 * l.length)) ∧ w'.ownsRow base te 2 v l.length (pcl (pmk l.length k)) ∧ (w.alloc (.cells #[.string s, v] 59)).grownBy w' v.ownBlock := by
  have hm := fun W hW => mark_prsE (te := te) v l base k W hW hn hk hk2
  have HO := Bx.mk (World.ownsRow.alloc h (.cells #[.string s, v] 59))
  unfold tun
  clear h
  go_enter Try.func51, Try.ntmps51
  go_wp2_with (fail)
  refine (hm _ HO.out).mono ?_
  rintro r w1 ⟨rfl, ho, hg⟩
  have HR := Bx.mk (And.intro ho hg)
  clear ho hg
  go_wp2_with (fail)
  go_ret
  exact ⟨rfl, HR.out⟩
/-- a tuning made anew, of a row of some element type -/
def TunOutE (s : ByteArray) (l : List (Int × Int)) (w : World) (e : Ending) (w' : World) : Prop :=
  ∃ te v, e = .returned (tun s v) ∧ w'.ownsRow w.heap.size te 2 v l.length (pcl l) ∧ Below w.heap.size w w'
/-- .. and something beside it -/
def TunOut2E (s : ByteArray) (l : List (Int × Int)) (cv : Value) (w : World) (e : Ending) (w' : World) : Prop :=
  ∃ te v, e = .returned (.tuple #[tun s v, cv]) ∧ w'.ownsRow w.heap.size te 2 v l.length (pcl l) ∧ Below w.heap.size w w'
/-- a new list of int64 and something beside it -/
def RowOutE (ys : List Int) (cv : Value) (w : World) (e : Ending) (w' : World) : Prop :=
  ∃ te v, e = .returned (.tuple #[v, cv]) ∧ w'.ownsRow w.heap.size te 1 v ys.length (ints ys) ∧ Below w.heap.size w w'
end Go.Proofs.Ytjjiibmbaggjoaa
