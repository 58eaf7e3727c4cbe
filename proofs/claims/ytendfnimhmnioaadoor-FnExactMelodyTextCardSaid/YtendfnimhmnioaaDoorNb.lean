/- Slices of notes: the laws' own functions eqNoteS, markNoteS. -/
import Derived.Test.YtendfnimhmnioaaDoorNa
namespace Go.Proofs.YtendfnimhmnioaaDoor
open Go.ChangeShapes Go.WideShapes Go.ChangeAt Go.RowKit
set_option linter.unusedVariables false
set_option linter.unusedSimpArgs false
set_option maxRecDepth 100000

theorem ptake_ne (xs ys : List (Int × Int)) (k : Nat) (hn : pat xs k ≠ pat ys k) : xs ≠ ys := by
  rintro rfl; exact hn rfl
theorem ptake_succ (xs ys : List (Int × Int)) (k : Nat) (h1 : k < xs.length) (h2 : k < ys.length) (hp : xs.take k = ys.take k) (he : pat xs k = pat ys k) : xs.take (k + 1) = ys.take (k + 1) := by
  rw [pat_get h1, pat_get h2] at he
  rw [List.take_succ_eq_append_getElem h1, List.take_succ_eq_append_getElem h2, hp, he]
theorem keepE {w W W' : World} {b1 b2 x1 x2 y1 y2 : Nat} {p1 p2 q1 q2 : Value} (h : W.cell? ⟨b1, x1, none⟩ = some p1 ∧ W.cell? ⟨b1, x2, none⟩ = some p2 ∧ W.cell? ⟨b2, y1, none⟩ = some q1 ∧ W.cell? ⟨b2, y2, none⟩ = some q2 ∧ b1 < W.heap.size ∧ b2 < W.heap.size ∧ Below w.heap.size w W) (hb : Below W.heap.size W W') :
    W'.cell? ⟨b1, x1, none⟩ = some p1 ∧ W'.cell? ⟨b1, x2, none⟩ = some p2 ∧ W'.cell? ⟨b2, y1, none⟩ = some q1 ∧ W'.cell? ⟨b2, y2, none⟩ = some q2 ∧ b1 < W'.heap.size ∧ b2 < W'.heap.size ∧ Below w.heap.size w W' := by
  obtain ⟨h1, h2, h3, h4, h5, h6, h7⟩ := h
  have hs := hb.size
  exact ⟨(hb.cell (p := ⟨b1, x1, none⟩) h5).trans h1, (hb.cell (p := ⟨b1, x2, none⟩) h5).trans h2, (hb.cell (p := ⟨b2, y1, none⟩) h6).trans h3, (hb.cell (p := ⟨b2, y2, none⟩) h6).trans h4, by omega, by omega, h7.trans (hb.mono h7.size)⟩
set_option maxHeartbeats 1000000 in
theorem eq_prs (va vb : Value) (xs ys : List (Int × Int)) (w : World) (ha : PrsAt w va xs) (hb : PrsAt w vb ys) (hx : xs.length ≤ 281474976710656) (hy : ys.length ≤ 281474976710656) :
    Calls Tryd.prog 15 #[va, vb] w fun e w' => e = .returned (.bool (decide (xs = ys))) ∧ Below w.heap.size w w' := by
  by_cases hl : xs.length = ys.length
  · rcases ha with ⟨rfl, A, c, rfl⟩ | ⟨b1, o1, c1, rfl, l1, h1⟩
    · have hy0 : ys = [] := List.eq_nil_of_length_eq_zero hl.symm
      subst hy0
      obtain ⟨B, c', rfl⟩ := prs_len hb
      clear hb hl hx hy
      go_enter Tryd.func15, Tryd.ntmps15
      go_wp2
      refine wp_loop_rounds 1 ?_
      rw [rounds_succ]
      go_wp2
      go_ret
      exact ⟨ret_bool (by simp), Below.refl _ _⟩
    · rcases hb with ⟨rfl, B, c', rfl⟩ | ⟨b2, o2, c2, rfl, l2, h2⟩
      · have hx0 : xs = [] := List.eq_nil_of_length_eq_zero hl
        subst hx0
        clear hl hx hy h1
        go_enter Tryd.func15, Tryd.ntmps15
        go_wp2
        refine wp_loop_rounds 1 ?_
        rw [rounds_succ]
        go_wp2
        go_ret
        exact ⟨ret_bool (by simp), Below.refl _ _⟩
      · have H1 := Bx.mk h1
        have H2 := Bx.mk h2
        have HL := Bx.mk hl
        have hle : ((xs.length : Int) != (ys.length : Int)) = false := by simp; omega
        clear h1 h2 hl
        go_enter Tryd.func15, Tryd.ntmps15
        go_wp2
        go_loopw [5] (fun i wr => ∃ k : Nat, k ≤ xs.length ∧ i = .int .i64 k ∧ Bx (xs.take k = ys.take k) ∧ Below w.heap.size w wr) (fun i _ => xs.length - (intOf i).toNat)
        case atStart => exact ⟨0, Nat.zero_le _, rfl, Bx.mk rfl, Below.refl _ _⟩
        case round =>
          obtain ⟨k, hk, rfl, HK, hb⟩ := hrel
          by_cases hlt : k < xs.length
          · have hlt2 : k < ys.length := by have := HL.out; omega
            have c1 := (hb.cell (p := ⟨b1, o1 + k * 2, none⟩) l1).trans (H1.out k hlt).1
            have c2 := (hb.cell (p := ⟨b1, o1 + k * 2 + 1, none⟩) l1).trans (H1.out k hlt).2
            have d1 := (hb.cell (p := ⟨b2, o2 + k * 2, none⟩) l2).trans (H2.out k hlt2).1
            have d2 := (hb.cell (p := ⟨b2, o2 + k * 2 + 1, none⟩) l2).trans (H2.out k hlt2).2
            have HS := Bx.mk (ptake_succ xs ys k hlt hlt2 HK.out)
            have HT := Bx.mk (ptake_ne xs ys k)
            generalize pat xs k = p at c1 c2 HS HT
            generalize pat ys k = q at d1 d2 HS HT
            obtain ⟨p1, p2⟩ := p
            obtain ⟨q1, q2⟩ := q
            have hq := fun W => law_eqnote p1 p2 q1 q2 W
            have HB := Bx.mk hb
            unfold nt at hq
            clear hb
            by_cases hpq : p1 = q1 ∧ p2 = q2
            · obtain ⟨rfl, rfl⟩ := hpq
              have HS2 := Bx.mk (HS.out rfl)
              rw [show (p1 == p1 && p2 == p2) = true by simp] at hq
              clear HS HT
              have HS0 : Bx (wr.cell? ⟨b1, o1 + k * 2, none⟩ = some (.int .i64 p1) ∧ wr.cell? ⟨b1, o1 + k * 2 + 1, none⟩ = some (.int .i64 p2) ∧ wr.cell? ⟨b2, o2 + k * 2, none⟩ = some (.int .i64 p1) ∧ wr.cell? ⟨b2, o2 + k * 2 + 1, none⟩ = some (.int .i64 p2) ∧ b1 < wr.heap.size ∧ b2 < wr.heap.size ∧ Below w.heap.size w wr) := Bx.mk ⟨c1, c2, d1, d2, Nat.lt_of_lt_of_le l1 HB.out.size, Nat.lt_of_lt_of_le l2 HB.out.size, HB.out⟩
              go_wp2_with (fail)
              go_region_held3 (fun W => W.cell? ⟨b1, o1 + k * 2, none⟩ = some (.int .i64 p1) ∧ W.cell? ⟨b1, o1 + k * 2 + 1, none⟩ = some (.int .i64 p2) ∧ W.cell? ⟨b2, o2 + k * 2, none⟩ = some (.int .i64 p1) ∧ W.cell? ⟨b2, o2 + k * 2 + 1, none⟩ = some (.int .i64 p2) ∧ b1 < W.heap.size ∧ b2 < W.heap.size ∧ Below w.heap.size w W)
                (first | (with_reducible exact keepE (by assumption) hb4) | (with_reducible exact keepE (by assumption) (Below.refl _ _).drew) | exact keepE HS0.out (Below.refl _ _).drew)
                ((go_at_call 40; (with_reducible refine (hq _).mono ?_); rintro r w4 ⟨rfl, hb4⟩; have hS0 := keepE (w := w) (by assumption) hb4))
              have HB1 : Bx (Below w.heap.size w _) := Bx.mk (by assumption : _ ∧ _ ∧ _ ∧ _ ∧ _ ∧ _ ∧ _).2.2.2.2.2.2
              go_wp2_with (fail)
              go_roundw
              case rel => exact ⟨k + 1, by omega, by go_num, HS2, HB1.out⟩
              case measure => simp [intOf]; omega
            · have HT2 := Bx.mk (HT.out (by simpa [Prod.ext_iff] using hpq))
              rw [show (p1 == q1 && p2 == q2) = false by simpa using hpq] at hq
              clear HS HT hpq
              have HS0 : Bx (wr.cell? ⟨b1, o1 + k * 2, none⟩ = some (.int .i64 p1) ∧ wr.cell? ⟨b1, o1 + k * 2 + 1, none⟩ = some (.int .i64 p2) ∧ wr.cell? ⟨b2, o2 + k * 2, none⟩ = some (.int .i64 q1) ∧ wr.cell? ⟨b2, o2 + k * 2 + 1, none⟩ = some (.int .i64 q2) ∧ b1 < wr.heap.size ∧ b2 < wr.heap.size ∧ Below w.heap.size w wr) := Bx.mk ⟨c1, c2, d1, d2, Nat.lt_of_lt_of_le l1 HB.out.size, Nat.lt_of_lt_of_le l2 HB.out.size, HB.out⟩
              go_wp2_with (fail)
              go_region_held3 (fun W => W.cell? ⟨b1, o1 + k * 2, none⟩ = some (.int .i64 p1) ∧ W.cell? ⟨b1, o1 + k * 2 + 1, none⟩ = some (.int .i64 p2) ∧ W.cell? ⟨b2, o2 + k * 2, none⟩ = some (.int .i64 q1) ∧ W.cell? ⟨b2, o2 + k * 2 + 1, none⟩ = some (.int .i64 q2) ∧ b1 < W.heap.size ∧ b2 < W.heap.size ∧ Below w.heap.size w W)
                (first | (with_reducible exact keepE (by assumption) hb4) | (with_reducible exact keepE (by assumption) (Below.refl _ _).drew) | exact keepE HS0.out (Below.refl _ _).drew)
                ((go_at_call 40; (with_reducible refine (hq _).mono ?_); rintro r w4 ⟨rfl, hb4⟩; have hS0 := keepE (w := w) (by assumption) hb4))
              have HB1 : Bx (Below w.heap.size w _) := Bx.mk (by assumption : _ ∧ _ ∧ _ ∧ _ ∧ _ ∧ _ ∧ _).2.2.2.2.2.2
              go_wp2_with (fail)
              go_ret
              exact ⟨ret_bool (by simpa using HT2.out), HB1.out⟩
          · have HE : Bx (xs = ys) := Bx.mk (by have := HK.out; rwa [List.take_of_length_le (by omega), List.take_of_length_le (by have := HL.out; omega)] at this)
            go_wp2
            go_ret
            exact ⟨ret_bool (by simpa using HE.out), hb⟩
  · have hle : ((xs.length : Int) != (ys.length : Int)) = true := by simp; omega
    have HN : Bx (xs ≠ ys) := Bx.mk (by rintro rfl; exact hl rfl)
    obtain ⟨A, c, rfl⟩ := prs_len ha
    obtain ⟨B, c', rfl⟩ := prs_len hb
    clear ha hb hl
    go_enter Tryd.func15, Tryd.ntmps15
    go_wp2
    go_ret
    exact ⟨ret_bool (by simpa using HN.out), Below.refl _ _⟩
/-- marks in pairs -/
def pmk (n : Nat) (k : Int) : List (Int × Int) := (List.range n).map fun (i : Nat) => (k + 2 * (i : Int), k + 2 * (i : Int) + 1)
theorem pmk_len (n : Nat) (k : Int) : (pmk n k).length = n := by simp [pmk]
theorem pmk_at (n : Nat) (k : Int) (i : Nat) (h : i < n) : pat (pmk n k) i = (k + 2 * i, k + 2 * i + 1) := by simp [pat, pmk, h]
def pmix (l : List (Int × Int)) (k : Int) (i : Nat) : List (Int × Int) := pmk i k ++ l.drop i
theorem pmix_len (l : List (Int × Int)) (k : Int) (i : Nat) (h : i ≤ l.length) : (pmix l k i).length = l.length := by simp [pmix, pmk_len]; omega
theorem pmix_step (l : List (Int × Int)) (k : Int) (i : Nat) (h : i < l.length) : (pmix l k i).set i (k + 2 * i, k + 2 * i + 1) = pmix l k (i + 1) := by
  have e1 : l.drop i = l[i] :: l.drop (i + 1) := List.drop_eq_getElem_cons h
  have e2 : pmk (i + 1) k = pmk i k ++ [(k + 2 * (i : Int), k + 2 * (i : Int) + 1)] := by simp [pmk, List.range_succ]
  unfold pmix
  rw [e1, e2, List.set_append_right _ _ (by simp [pmk_len]), show i - (pmk i k).length = 0 by simp [pmk_len], List.set_cons_zero, List.append_assoc]
  rfl
theorem pmix_zero (l : List (Int × Int)) (k : Int) : pmix l k 0 = l := by simp [pmix, pmk]
theorem pmix_all (l : List (Int × Int)) (k : Int) : pmix l k l.length = pmk l.length k := by simp [pmix]
set_option maxHeartbeats 1000000 in
theorem mark_prsE {te : TypeId} (v : Value) (l : List (Int × Int)) (base : Nat) (k : Int) (w : World) (h : w.ownsRow base te 2 v l.length (pcl l)) (hn : l.length ≤ 281474976710656) (hk : 0 ≤ k) (hk2 : k ≤ 1000000000) :
    Calls Tryd.prog 16 #[v, .int .i64 k] w fun e w' => e = .returned (.int .i64 (k + 2 * l.length)) ∧ w'.ownsRow base te 2 v l.length (pcl (pmk l.length k)) ∧ w.grownBy w' v.ownBlock := by
  rcases Nat.eq_zero_or_pos l.length with h0 | h0
  · obtain rfl := List.eq_nil_of_length_eq_zero h0
    obtain ⟨A, c, rfl⟩ : ∃ A c, v = .slice A 0 c := by
      rcases h.2 with ⟨hv, _⟩ | ⟨g, cap, cur, hv, _⟩
      · exact ⟨none, 0, hv⟩
      · exact ⟨_, cap, hv⟩
    have HO := Bx.mk h
    clear h
    go_enter Tryd.func16, Tryd.ntmps16
    go_wp2
    refine wp_loop_rounds 1 ?_
    rw [rounds_succ]
    go_wp2
    go_ret
    exact ⟨ret_int (by simp), by simpa [pmk] using HO.out, World.grownBy.refl w _⟩
  · obtain ⟨g, cap, rfl, hbg, hlt⟩ := h.form h0
    have HO := Bx.mk h
    clear h
    go_enter Tryd.func16, Tryd.ntmps16
    go_wp2
    go_loopw [1, 5] (fun q i wr => ∃ j : Nat, j ≤ l.length ∧ i = .int .i64 j ∧ q = .int .i64 (k + 2 * j) ∧ Bx (wr.ownsRow base te 2 (.slice (some ⟨g, 0, none⟩) l.length cap) l.length (pcl (pmix l k j)) ∧ w.grownBy wr (some g))) (fun _ i _ => l.length - (intOf i).toNat)
    case atStart => exact ⟨0, Nat.zero_le _, rfl, by go_num, Bx.mk ⟨by rw [pmix_zero]; exact HO.out, World.grownBy.refl w _⟩⟩
    case round =>
      obtain ⟨j, hj, rfl, rfl, HB⟩ := hrel
      by_cases hlt : j < l.length
      · have hml := pmix_len l k j hj
        have hc : wr.cell? ⟨g, j * 2, none⟩ = some (.int .i64 (pat (pmix l k j) j).1) := (HB.out.1.cellAt (j * 2) (by omega)).trans (pcl_at0 _ j (by omega))
        have hc1 : wr.cell? ⟨g, j * 2 + 1, none⟩ = some (.int .i64 (pat (pmix l k j) j).2) := (HB.out.1.cellAt (j * 2 + 1) (by omega)).trans (pcl_at1 _ j (by omega))
        have hf := HB.out.1.frozenAt (j * 2)
        have hf1 := HB.out.1.frozenAt (j * 2 + 1)
        have HS : Bx (((wr.setCell ⟨g, j * 2, none⟩ (.int .i64 (k + 2 * j))).setCell ⟨g, j * 2 + 1, none⟩ (.int .i64 (k + 2 * j + 1))).ownsRow base te 2 (.slice (some ⟨g, 0, none⟩) l.length cap) l.length (pcl (pmix l k (j + 1))) ∧ w.grownBy ((wr.setCell ⟨g, j * 2, none⟩ (.int .i64 (k + 2 * j))).setCell ⟨g, j * 2 + 1, none⟩ (.int .i64 (k + 2 * j + 1))) (some g)) := Bx.mk (by
          have hs := HB.out.1.stored (j * 2) (.int .i64 (k + 2 * j))
          have hs2 := hs.1.stored (j * 2 + 1) (.int .i64 (k + 2 * j + 1))
          rw [pcl_set _ j (k + 2 * j, k + 2 * j + 1) (by omega), pmix_step l k j hlt] at hs2
          exact ⟨hs2.1, (HB.out.2.trans hs.2).trans hs2.2⟩)
        generalize (pat (pmix l k j) j).1 = u0 at hc
        generalize (pat (pmix l k j) j).2 = u1 at hc1
        clear HB hml
        go_wp2
        go_roundw
        case rel => exact ⟨j + 1, by omega, by go_num, by go_num, HS⟩
        case measure => simp [intOf]; omega
      · obtain rfl : j = l.length := by omega
        have HE := HB.out
        rw [pmix_all] at HE
        have HE := Bx.mk HE
        go_wp2
        go_ret
        exact ⟨ret_int (by simp), HE.out.1, HE.out.2⟩
theorem eq_prs_same (va vb : Value) (xs : List (Int × Int)) (w : World) (ha : PrsAt w va xs) (hb : PrsAt w vb xs) (hx : xs.length ≤ 281474976710656) :
    Calls Tryd.prog 15 #[va, vb] w fun e w' => e = .returned (.bool true) ∧ Below w.heap.size w w' :=
  (eq_prs va vb xs xs w ha hb hx hx).mono fun _ _ ⟨he, h⟩ => ⟨by rw [he]; simp, h⟩
end Go.Proofs.YtendfnimhmnioaaDoor
