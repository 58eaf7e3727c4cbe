/- The laws' own functions over items: sizes, equality, copies. -/
import Derived.Test.YtmbillcdlcgjiaaHa
import Derived.Deep.RegionHeld3
namespace Go.Proofs.Ytmbillcdlcgjiaa
open Go.ChangeShapes Go.WideShapes Go.ChangeAt Go.RowKit
set_option linter.unusedVariables false
set_option linter.unusedSimpArgs false
set_option maxRecDepth 100000

theorem sz_item (x : It) (k : Int) (w : World) (hk : 0 ≤ k ∧ k ≤ 1048576) (hx : x.nm.size ≤ maxLen) :
    Calls Try.prog 30 #[itV x, .int .i64 k] w fun e w' => e = .returned (.int .i64 (szI x.nm.size k)) ∧ Below w.heap.size w w' := by
  obtain ⟨k1, k2⟩ := hk
  unfold maxLen at hx
  unfold itV
  by_cases hc : k < x.nm.size
  · have hd : decide (k - (x.nm.size : Int) < 0) = true := by simp; omega
    have HE : Bx (szI x.nm.size k = -1) := Bx.mk (if_pos hc)
    go_enter Try.func30, Try.ntmps30
    go_wp2
    go_ret
    exact ⟨ret_int HE.out.symm, (Below.refl _ _).alloc (Nat.le_refl _) _⟩
  · have hd : decide (k - (x.nm.size : Int) < 0) = false := by simp; omega
    have HE : Bx (szI x.nm.size k = k - x.nm.size) := Bx.mk (if_neg hc)
    go_enter Try.func30, Try.ntmps30
    go_wp2
    go_ret
    exact ⟨ret_int HE.out.symm, (Below.refl _ _).alloc (Nat.le_refl _) _⟩
/-- lengths that a program may reckon with; numbers of 64 bits -/
structure SmI (l : List It) : Prop where
  n : l.length ≤ 1048576
  x : ∀ k, k < l.length → WfI (iat l k)
set_option maxHeartbeats 1000000 in
theorem sz_its (v : Value) (l : List It) (k : Int) (w : World) (h : ItsAt w v l) (hk : 0 ≤ k ∧ k ≤ 1048576) (hl : l.length ≤ 9223372036854775807) (hg : ∀ j, j < l.length → WfI (iat l j)) :
    Calls Try.prog 34 #[v, .int .i64 k] w (SzOut (SmI l) k w) := by
  obtain ⟨A, c, rfl⟩ := its_len h
  obtain ⟨k1, k2⟩ := hk
  have HI := Bx.mk h
  have HG := Bx.mk hg
  clear h hg
  by_cases hc : k < l.length
  · have hd : decide (k - (l.length : Int) < 0) = true := by simp; omega
    go_enter Try.func34, Try.ntmps34
    go_wp2_with (fail)
    go_ret
    exact ⟨-1, rfl, .inl rfl, Below.refl _ _⟩
  · have hd : decide (k - (l.length : Int) < 0) = false := by simp; omega
    go_enter Try.func34, Try.ntmps34
    go_wp2_with (fail)
    go_loopw [1, 5] (fun lv i wr => ∃ (j : Nat) (z : Int), j ≤ l.length ∧ i = .int .i64 j ∧ lv = .int .i64 z ∧ (0 ≤ z ∧ z ≤ k) ∧ Bx (Below w.heap.size w wr)) (fun _ i _ => l.length - (intOf i).toNat)
    case atStart => exact ⟨0, _, Nat.zero_le _, rfl, rfl, by omega, Bx.mk (Below.refl _ _)⟩
    case round =>
      obtain ⟨j, z, hj, rfl, rfl, hz, HB⟩ := hrel
      by_cases hlt : j < l.length
      · have HX := Bx.mk (HG.out j hlt)
        obtain ⟨b, o, c', e, hb, hx⟩ := (HI.out.below HB.out).form (by omega)
        injection e with e1 e2 e3
        subst e1 e3
        obtain ⟨x0, x1, x2, x3, x4, x5⟩ := hx j hlt
        clear hx
        generalize iat l j = x at *
        have hq := fun W => sz_item x z W (by omega) HX.out.n
        unfold itV at hq
        clear HI
        by_cases hcz : z < x.nm.size
        · have hd2 : szI x.nm.size z = -1 := if_pos hcz
          rw [hd2] at hq
          clear hd2 hcz
          go_wp2_with (fail)
          refine (hq _).mono ?_
          rintro r w1 ⟨rfl, hw1⟩
          have B1 := Bx.mk (HB.out.trans (hw1.mono HB.out.size))
          clear hw1 HB
          go_wp2_with (fail)
          go_ret
          exact ⟨-1, rfl, .inl rfl, B1.out⟩
        · have hd2 : szI x.nm.size z = z - x.nm.size := if_neg hcz
          rw [hd2] at hq
          have hd3 : decide (z - (x.nm.size : Int) < 0) = false := by simp; omega
          obtain ⟨z2, hz2, hzz⟩ : ∃ z2 : Int, z2 = z - x.nm.size ∧ (0 ≤ z2 ∧ z2 ≤ k) := ⟨_, rfl, by omega⟩
          rw [← hz2] at hq hd3
          clear hd2 hcz hz2
          go_wp2_with (fail)
          refine (hq _).mono ?_
          rintro r w1 ⟨rfl, hw1⟩
          have B1 := Bx.mk (HB.out.trans (hw1.mono HB.out.size))
          clear hw1 HB
          go_wp2_with (fail)
          go_roundw
          case rel => exact ⟨j + 1, z2, by omega, by go_num, rfl, hzz, B1⟩
          case measure => simp [intOf]; omega
      · obtain rfl : j = l.length := by omega
        go_wp2_with (fail)
        go_ret
        exact ⟨z, rfl, .inr ⟨hz.1, hz.2, by omega, HG.out⟩, HB.out⟩
theorem strne (s : ByteArray) : (!s.toList == s.toList) = false := by simp
theorem law_eqitem (x : It) (w : World) :
    Calls Try.prog 82 #[itV x, itV x] w fun r w' => r = .returned (.bool true) ∧ Below w.heap.size w w' := by
  have hb : Below w.heap.size w ((w.alloc (.cells #[.string x.nm, .int .i64 x.f, .int .i64 x.u, .int .i64 x.s, .int .i64 x.m, .int .i64 x.p] 48)).alloc (.cells #[.string x.nm, .int .i64 x.f, .int .i64 x.u, .int .i64 x.s, .int .i64 x.m, .int .i64 x.p] 48)) := ((Below.refl _ _).alloc (Nat.le_refl _) _).alloc (by simp) _
  have HB := Bx.mk hb
  clear hb
  have e0 := strne x.nm
  have e_f : (x.f != x.f) = false := by simp
  have e_u : (x.u != x.u) = false := by simp
  have e_s : (x.s != x.s) = false := by simp
  have e_m : (x.m != x.m) = false := by simp
  have e_p : (x.p != x.p) = false := by simp
  unfold itV
  go_enter Try.func82, Try.ntmps82
  go_wp2
  all_goals
    go_ret
    exact ⟨rfl, HB.out⟩
theorem keepI {w W W' : World} {b1 b2 y1 y2 : Nat} {x : It} (h : W.cell? ⟨b1, y1, none⟩ = some (.string x.nm) ∧ W.cell? ⟨b1, y1 + 1, none⟩ = some (.int .i64 x.f) ∧ W.cell? ⟨b1, y1 + 2, none⟩ = some (.int .i64 x.u) ∧ W.cell? ⟨b1, y1 + 3, none⟩ = some (.int .i64 x.s) ∧ W.cell? ⟨b1, y1 + 4, none⟩ = some (.int .i64 x.m) ∧ W.cell? ⟨b1, y1 + 5, none⟩ = some (.int .i64 x.p) ∧ W.cell? ⟨b2, y2, none⟩ = some (.string x.nm) ∧ W.cell? ⟨b2, y2 + 1, none⟩ = some (.int .i64 x.f) ∧ W.cell? ⟨b2, y2 + 2, none⟩ = some (.int .i64 x.u) ∧ W.cell? ⟨b2, y2 + 3, none⟩ = some (.int .i64 x.s) ∧ W.cell? ⟨b2, y2 + 4, none⟩ = some (.int .i64 x.m) ∧ W.cell? ⟨b2, y2 + 5, none⟩ = some (.int .i64 x.p) ∧ b1 < W.heap.size ∧ b2 < W.heap.size ∧ Below w.heap.size w W) (hb : Below W.heap.size W W') :
    W'.cell? ⟨b1, y1, none⟩ = some (.string x.nm) ∧ W'.cell? ⟨b1, y1 + 1, none⟩ = some (.int .i64 x.f) ∧ W'.cell? ⟨b1, y1 + 2, none⟩ = some (.int .i64 x.u) ∧ W'.cell? ⟨b1, y1 + 3, none⟩ = some (.int .i64 x.s) ∧ W'.cell? ⟨b1, y1 + 4, none⟩ = some (.int .i64 x.m) ∧ W'.cell? ⟨b1, y1 + 5, none⟩ = some (.int .i64 x.p) ∧ W'.cell? ⟨b2, y2, none⟩ = some (.string x.nm) ∧ W'.cell? ⟨b2, y2 + 1, none⟩ = some (.int .i64 x.f) ∧ W'.cell? ⟨b2, y2 + 2, none⟩ = some (.int .i64 x.u) ∧ W'.cell? ⟨b2, y2 + 3, none⟩ = some (.int .i64 x.s) ∧ W'.cell? ⟨b2, y2 + 4, none⟩ = some (.int .i64 x.m) ∧ W'.cell? ⟨b2, y2 + 5, none⟩ = some (.int .i64 x.p) ∧ b1 < W'.heap.size ∧ b2 < W'.heap.size ∧ Below w.heap.size w W' := by
  obtain ⟨h0, h1, h2, h3, h4, h5, h6, h7, h8, h9, h10, h11, l1, l2, l3⟩ := h
  have hs := hb.size
  exact ⟨(hb.cell (p := ⟨b1, y1, none⟩) l1).trans h0, (hb.cell (p := ⟨b1, y1 + 1, none⟩) l1).trans h1, (hb.cell (p := ⟨b1, y1 + 2, none⟩) l1).trans h2, (hb.cell (p := ⟨b1, y1 + 3, none⟩) l1).trans h3, (hb.cell (p := ⟨b1, y1 + 4, none⟩) l1).trans h4, (hb.cell (p := ⟨b1, y1 + 5, none⟩) l1).trans h5, (hb.cell (p := ⟨b2, y2, none⟩) l2).trans h6, (hb.cell (p := ⟨b2, y2 + 1, none⟩) l2).trans h7, (hb.cell (p := ⟨b2, y2 + 2, none⟩) l2).trans h8, (hb.cell (p := ⟨b2, y2 + 3, none⟩) l2).trans h9, (hb.cell (p := ⟨b2, y2 + 4, none⟩) l2).trans h10, (hb.cell (p := ⟨b2, y2 + 5, none⟩) l2).trans h11, by omega, by omega, l3.trans (hb.mono l3.size)⟩
set_option maxHeartbeats 1000000 in
theorem eq_its (va vb : Value) (xs : List It) (w : World) (ha : ItsAt w va xs) (hb : ItsAt w vb xs) (hx : xs.length ≤ 281474976710656) :
    Calls Try.prog 38 #[va, vb] w fun e w' => e = .returned (.bool true) ∧ Below w.heap.size w w' := by
  rcases Nat.eq_zero_or_pos xs.length with h0 | h0
  · obtain rfl := List.eq_nil_of_length_eq_zero h0
    obtain ⟨A, c, rfl⟩ := its_len ha
    obtain ⟨B, c', rfl⟩ := its_len hb
    clear ha hb hx h0
    go_enter Try.func38, Try.ntmps38
    go_wp2
    refine wp_loop_rounds 1 ?_
    rw [rounds_succ]
    go_wp2
    go_ret
    exact ⟨rfl, Below.refl _ _⟩
  · obtain ⟨b1, o1, c1, rfl, l1, h1⟩ := ha.form h0
    obtain ⟨b2, o2, c2, rfl, l2, h2⟩ := hb.form h0
    have H1 := Bx.mk h1
    have H2 := Bx.mk h2
    have hle : ((xs.length : Int) != (xs.length : Int)) = false := by simp
    clear h1 h2 ha hb
    go_enter Try.func38, Try.ntmps38
    go_wp2
    go_loopw [5] (fun i wr => ∃ k : Nat, k ≤ xs.length ∧ i = .int .i64 k ∧ Below w.heap.size w wr) (fun i _ => xs.length - (intOf i).toNat)
    case atStart => exact ⟨0, Nat.zero_le _, rfl, Below.refl _ _⟩
    case round =>
      obtain ⟨k, hk, rfl, hb⟩ := hrel
      by_cases hlt : k < xs.length
      · have HB := Bx.mk hb
        obtain ⟨c1, c2, c3, c4, c5, c6⟩ := (H1.out k hlt).below l1 hb
        obtain ⟨d1, d2, d3, d4, d5, d6⟩ := (H2.out k hlt).below l2 hb
        generalize iat xs k = x at c1 c2 c3 c4 c5 c6 d1 d2 d3 d4 d5 d6
        have hq := fun W => law_eqitem x W
        unfold itV at hq
        clear hb
        have HS0 : Bx (wr.cell? ⟨b1, o1 + k * 6, none⟩ = some (.string x.nm) ∧ wr.cell? ⟨b1, o1 + k * 6 + 1, none⟩ = some (.int .i64 x.f) ∧ wr.cell? ⟨b1, o1 + k * 6 + 2, none⟩ = some (.int .i64 x.u) ∧ wr.cell? ⟨b1, o1 + k * 6 + 3, none⟩ = some (.int .i64 x.s) ∧ wr.cell? ⟨b1, o1 + k * 6 + 4, none⟩ = some (.int .i64 x.m) ∧ wr.cell? ⟨b1, o1 + k * 6 + 5, none⟩ = some (.int .i64 x.p) ∧ wr.cell? ⟨b2, o2 + k * 6, none⟩ = some (.string x.nm) ∧ wr.cell? ⟨b2, o2 + k * 6 + 1, none⟩ = some (.int .i64 x.f) ∧ wr.cell? ⟨b2, o2 + k * 6 + 2, none⟩ = some (.int .i64 x.u) ∧ wr.cell? ⟨b2, o2 + k * 6 + 3, none⟩ = some (.int .i64 x.s) ∧ wr.cell? ⟨b2, o2 + k * 6 + 4, none⟩ = some (.int .i64 x.m) ∧ wr.cell? ⟨b2, o2 + k * 6 + 5, none⟩ = some (.int .i64 x.p) ∧ b1 < wr.heap.size ∧ b2 < wr.heap.size ∧ Below w.heap.size w wr) := Bx.mk ⟨c1, c2, c3, c4, c5, c6, d1, d2, d3, d4, d5, d6, Nat.lt_of_lt_of_le l1 HB.out.size, Nat.lt_of_lt_of_le l2 HB.out.size, HB.out⟩
        go_wp2_with (fail)
        go_region_held3 (fun W => W.cell? ⟨b1, o1 + k * 6, none⟩ = some (.string x.nm) ∧ W.cell? ⟨b1, o1 + k * 6 + 1, none⟩ = some (.int .i64 x.f) ∧ W.cell? ⟨b1, o1 + k * 6 + 2, none⟩ = some (.int .i64 x.u) ∧ W.cell? ⟨b1, o1 + k * 6 + 3, none⟩ = some (.int .i64 x.s) ∧ W.cell? ⟨b1, o1 + k * 6 + 4, none⟩ = some (.int .i64 x.m) ∧ W.cell? ⟨b1, o1 + k * 6 + 5, none⟩ = some (.int .i64 x.p) ∧ W.cell? ⟨b2, o2 + k * 6, none⟩ = some (.string x.nm) ∧ W.cell? ⟨b2, o2 + k * 6 + 1, none⟩ = some (.int .i64 x.f) ∧ W.cell? ⟨b2, o2 + k * 6 + 2, none⟩ = some (.int .i64 x.u) ∧ W.cell? ⟨b2, o2 + k * 6 + 3, none⟩ = some (.int .i64 x.s) ∧ W.cell? ⟨b2, o2 + k * 6 + 4, none⟩ = some (.int .i64 x.m) ∧ W.cell? ⟨b2, o2 + k * 6 + 5, none⟩ = some (.int .i64 x.p) ∧ b1 < W.heap.size ∧ b2 < W.heap.size ∧ Below w.heap.size w W)
          (first | (with_reducible exact keepI (by assumption) hb4) | (with_reducible exact keepI (by assumption) (Below.refl _ _).drew) | exact keepI HS0.out (Below.refl _ _).drew)
          ((go_at_call 82; (with_reducible refine (hq _).mono ?_); rintro r w4 ⟨rfl, hb4⟩; have hS0 := keepI (w := w) (by assumption) hb4))
        have HB1 : Bx (Below w.heap.size w _) := Bx.mk (by assumption : _ ∧ _ ∧ _ ∧ _ ∧ _ ∧ _ ∧ _ ∧ _ ∧ _ ∧ _ ∧ _ ∧ _ ∧ _ ∧ _ ∧ _).2.2.2.2.2.2.2.2.2.2.2.2.2.2
        go_wp2_with (fail)
        go_roundw
        case rel => exact ⟨k + 1, by omega, by go_num, HB1.out⟩
        case measure => simp [intOf]; omega
      · go_wp2
        go_ret
        exact ⟨rfl, hb⟩
end Go.Proofs.Ytmbillcdlcgjiaa
