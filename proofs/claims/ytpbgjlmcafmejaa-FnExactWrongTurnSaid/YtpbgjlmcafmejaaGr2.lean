/- The laws' own functions over arcs and grammars: sizes, equality. -/
import Derived.Test.YtpbgjlmcafmejaaGr
import Derived.Deep.RegionHeld3
namespace Go.Proofs.Ytpbgjlmcafmejaa
open Go.ChangeShapes Go.WideShapes Go.ChangeAt Go.RowKit
set_option linter.unusedVariables false
set_option linter.unusedSimpArgs false
set_option maxRecDepth 100000

theorem sz_trs (A : Option Addr) (n c : Nat) (k : Int) (w : World) (hk : 0 ≤ k ∧ k ≤ 1048576) (hl : n ≤ 9223372036854775807) :
    Calls Try.prog 53 #[.slice A n c, .int .i64 k] w fun e w' => e = .returned (.int .i64 (szI n k)) ∧ w = w' := by
  obtain ⟨k1, k2⟩ := hk
  by_cases hc : k < n
  · have hd : decide (k - (n : Int) < 0) = true := by simp; omega
    have HE : Bx (szI n k = -1) := Bx.mk (if_pos hc)
    go_enter Try.func53, Try.ntmps53
    go_wp2
    go_ret
    exact ⟨ret_int HE.out.symm, rfl⟩
  · have hd : decide (k - (n : Int) < 0) = false := by simp; omega
    have HE : Bx (szI n k = k - n) := Bx.mk (if_neg hc)
    go_enter Try.func53, Try.ntmps53
    go_wp2
    go_ret
    exact ⟨ret_int HE.out.symm, rfl⟩
theorem sz_gr (v : Value) (G : Gr) (k0 : Int) (hk0 : 0 ≤ k0 ∧ k0 ≤ 1048576) (w : World) (h : GrAt w v G) (hm : SmG0 G) : Calls Try.prog 15 #[v, .int .i64 k0] w (SzOut (SmG G) k0 w) := by
  obtain ⟨k1, k2⟩ := hk0
  obtain ⟨hf, ha, wx, wy⟩ := hm
  obtain ⟨B, b, C, c, rfl, _, _⟩ := gr_form h
  have HW := Bx.mk (And.intro wx wy)
  clear h wx wy
  have hq1 := fun W => sz_ints B G.f.length b k0 W ⟨k1, k2⟩ hf
  by_cases c1 : k0 < G.f.length
  · rw [show szI G.f.length k0 = -1 from if_pos c1] at hq1
    clear c1
    go_enter Try.func15, Try.ntmps15
    go_wp2_with (fail)
    refine (hq1 _).mono ?_
    rintro r w1 ⟨rfl, rfl⟩
    go_wp2_with (fail)
    go_ret
    exact ⟨-1, rfl, .inl rfl, (Below.refl _ _).alloc (Nat.le_refl _) _⟩
  · rw [show szI G.f.length k0 = k0 - G.f.length from if_neg c1] at hq1
    obtain ⟨z1, e1, b1⟩ : ∃ z1 : Int, z1 = k0 - (G.f.length : Int) ∧ (0 ≤ z1 ∧ z1 ≤ k0) := ⟨_, rfl, by omega⟩
    rw [← e1] at hq1
    have d1 : decide (z1 < 0) = false := by simp; omega
    have hq2 := fun W => sz_trs C G.a.length c z1 W (by omega) ha
    by_cases c2 : z1 < G.a.length
    · rw [show szI G.a.length z1 = -1 from if_pos c2] at hq2
      clear c1 c2 e1
      go_enter Try.func15, Try.ntmps15
      go_wp2_with (fail)
      refine (hq1 _).mono ?_
      rintro r w1 ⟨rfl, rfl⟩
      go_wp2_with (fail)
      refine (hq2 _).mono ?_
      rintro r w1 ⟨rfl, rfl⟩
      go_wp2_with (fail)
      go_ret
      exact ⟨-1, rfl, .inl rfl, (Below.refl _ _).alloc (Nat.le_refl _) _⟩
    · rw [show szI G.a.length z1 = z1 - G.a.length from if_neg c2] at hq2
      obtain ⟨z2, e2, b2⟩ : ∃ z2 : Int, z2 = z1 - (G.a.length : Int) ∧ (0 ≤ z2 ∧ z2 ≤ k0) := ⟨_, rfl, by omega⟩
      rw [← e2] at hq2
      have d2 : decide (z2 < 0) = false := by simp; omega
      have HS : Bx (SmG G) := Bx.mk ⟨by omega, by omega, HW.out.1, HW.out.2⟩
      clear c1 c2 e1 e2
      go_enter Try.func15, Try.ntmps15
      go_wp2_with (fail)
      refine (hq1 _).mono ?_
      rintro r w1 ⟨rfl, rfl⟩
      go_wp2_with (fail)
      refine (hq2 _).mono ?_
      rintro r w1 ⟨rfl, rfl⟩
      go_wp2_with (fail)
      go_ret
      exact ⟨z2, rfl, .inr ⟨by omega, by omega, HS.out⟩, (Below.refl _ _).alloc (Nat.le_refl _) _⟩
/-- an arc as a value -/
def arcV (a b c : Int) : Value := .agg #[.int .i64 a, .int .i64 b, .int .i64 c]
theorem law_eqarc (a b c : Int) (w : World) :
    Calls Try.prog 113 #[arcV a b c, arcV a b c] w fun r w' => r = .returned (.bool true) ∧ Below w.heap.size w w' := by
  have hb : Below w.heap.size w ((w.alloc (.cells #[.int .i64 a, .int .i64 b, .int .i64 c] 76)).alloc (.cells #[.int .i64 a, .int .i64 b, .int .i64 c] 76)) := ((Below.refl _ _).alloc (Nat.le_refl _) _).alloc (by simp) _
  have HB := Bx.mk hb
  clear hb
  have e1 : (a != a) = false := by simp
  have e2 : (b != b) = false := by simp
  have e3 : (c != c) = false := by simp
  unfold arcV
  go_enter Try.func113, Try.ntmps113
  go_wp2
  all_goals
    go_ret
    exact ⟨rfl, HB.out⟩
theorem keepE3 {w W W' : World} {b1 b2 x1 x2 x3 y1 y2 y3 : Nat} {p1 p2 p3 q1 q2 q3 : Value} (h : W.cell? ⟨b1, x1, none⟩ = some p1 ∧ W.cell? ⟨b1, x2, none⟩ = some p2 ∧ W.cell? ⟨b1, x3, none⟩ = some p3 ∧ W.cell? ⟨b2, y1, none⟩ = some q1 ∧ W.cell? ⟨b2, y2, none⟩ = some q2 ∧ W.cell? ⟨b2, y3, none⟩ = some q3 ∧ b1 < W.heap.size ∧ b2 < W.heap.size ∧ Below w.heap.size w W) (hb : Below W.heap.size W W') :
    W'.cell? ⟨b1, x1, none⟩ = some p1 ∧ W'.cell? ⟨b1, x2, none⟩ = some p2 ∧ W'.cell? ⟨b1, x3, none⟩ = some p3 ∧ W'.cell? ⟨b2, y1, none⟩ = some q1 ∧ W'.cell? ⟨b2, y2, none⟩ = some q2 ∧ W'.cell? ⟨b2, y3, none⟩ = some q3 ∧ b1 < W'.heap.size ∧ b2 < W'.heap.size ∧ Below w.heap.size w W' := by
  obtain ⟨h1, h2, h3, h4, h5, h6, h7, h8, h9⟩ := h
  have hs := hb.size
  exact ⟨(hb.cell (p := ⟨b1, x1, none⟩) h7).trans h1, (hb.cell (p := ⟨b1, x2, none⟩) h7).trans h2, (hb.cell (p := ⟨b1, x3, none⟩) h7).trans h3, (hb.cell (p := ⟨b2, y1, none⟩) h8).trans h4, (hb.cell (p := ⟨b2, y2, none⟩) h8).trans h5, (hb.cell (p := ⟨b2, y3, none⟩) h8).trans h6, by omega, by omega, h9.trans (hb.mono h9.size)⟩
set_option maxHeartbeats 1000000 in
theorem eq_trs (va vb : Value) (xs : List (Int × Int × Int)) (w : World) (ha : TrsAt w va xs) (hb : TrsAt w vb xs) (hx : xs.length ≤ 281474976710656) :
    Calls Try.prog 63 #[va, vb] w fun e w' => e = .returned (.bool true) ∧ Below w.heap.size w w' := by
  rcases Nat.eq_zero_or_pos xs.length with h0 | h0
  · obtain rfl := List.eq_nil_of_length_eq_zero h0
    obtain ⟨A, c, rfl⟩ := trs_len ha
    obtain ⟨B, c', rfl⟩ := trs_len hb
    clear ha hb hx h0
    go_enter Try.func63, Try.ntmps63
    go_wp2
    refine wp_loop_rounds 1 ?_
    rw [rounds_succ]
    go_wp2
    go_ret
    exact ⟨rfl, Below.refl _ _⟩
  · obtain ⟨b1, o1, c1, rfl, l1, h1⟩ := ha.form h0
    obtain ⟨b2, o2, c2, rfl, l2, h2⟩ := hb.form h0
    have H1 := Bx.mk h1
    have H2 := Bx.mk h2
    have hle : ((xs.length : Int) != (xs.length : Int)) = false := by simp
    clear h1 h2 ha hb
    go_enter Try.func63, Try.ntmps63
    go_wp2
    go_loopw [5] (fun i wr => ∃ k : Nat, k ≤ xs.length ∧ i = .int .i64 k ∧ Below w.heap.size w wr) (fun i _ => xs.length - (intOf i).toNat)
    case atStart => exact ⟨0, Nat.zero_le _, rfl, Below.refl _ _⟩
    case round =>
      obtain ⟨k, hk, rfl, hb⟩ := hrel
      by_cases hlt : k < xs.length
      · have c1 := (hb.cell (p := ⟨b1, o1 + k * 3, none⟩) l1).trans (H1.out k hlt).1
        have c2 := (hb.cell (p := ⟨b1, o1 + k * 3 + 1, none⟩) l1).trans (H1.out k hlt).2.1
        have c3 := (hb.cell (p := ⟨b1, o1 + k * 3 + 2, none⟩) l1).trans (H1.out k hlt).2.2
        have d1 := (hb.cell (p := ⟨b2, o2 + k * 3, none⟩) l2).trans (H2.out k hlt).1
        have d2 := (hb.cell (p := ⟨b2, o2 + k * 3 + 1, none⟩) l2).trans (H2.out k hlt).2.1
        have d3 := (hb.cell (p := ⟨b2, o2 + k * 3 + 2, none⟩) l2).trans (H2.out k hlt).2.2
        generalize tat xs k = p at c1 c2 c3 d1 d2 d3
        obtain ⟨p1, p2, p3⟩ := p
        have hq := fun W => law_eqarc p1 p2 p3 W
        have HB := Bx.mk hb
        unfold arcV at hq
        clear hb
        have HS0 : Bx (wr.cell? ⟨b1, o1 + k * 3, none⟩ = some (.int .i64 p1) ∧ wr.cell? ⟨b1, o1 + k * 3 + 1, none⟩ = some (.int .i64 p2) ∧ wr.cell? ⟨b1, o1 + k * 3 + 2, none⟩ = some (.int .i64 p3) ∧ wr.cell? ⟨b2, o2 + k * 3, none⟩ = some (.int .i64 p1) ∧ wr.cell? ⟨b2, o2 + k * 3 + 1, none⟩ = some (.int .i64 p2) ∧ wr.cell? ⟨b2, o2 + k * 3 + 2, none⟩ = some (.int .i64 p3) ∧ b1 < wr.heap.size ∧ b2 < wr.heap.size ∧ Below w.heap.size w wr) := Bx.mk ⟨c1, c2, c3, d1, d2, d3, Nat.lt_of_lt_of_le l1 HB.out.size, Nat.lt_of_lt_of_le l2 HB.out.size, HB.out⟩
        go_wp2_with (fail)
        go_region_held3 (fun W => W.cell? ⟨b1, o1 + k * 3, none⟩ = some (.int .i64 p1) ∧ W.cell? ⟨b1, o1 + k * 3 + 1, none⟩ = some (.int .i64 p2) ∧ W.cell? ⟨b1, o1 + k * 3 + 2, none⟩ = some (.int .i64 p3) ∧ W.cell? ⟨b2, o2 + k * 3, none⟩ = some (.int .i64 p1) ∧ W.cell? ⟨b2, o2 + k * 3 + 1, none⟩ = some (.int .i64 p2) ∧ W.cell? ⟨b2, o2 + k * 3 + 2, none⟩ = some (.int .i64 p3) ∧ b1 < W.heap.size ∧ b2 < W.heap.size ∧ Below w.heap.size w W)
          (first | (with_reducible exact keepE3 (by assumption) hb4) | (with_reducible exact keepE3 (by assumption) (Below.refl _ _).drew) | exact keepE3 HS0.out (Below.refl _ _).drew)
          ((go_at_call 113; (with_reducible refine (hq _).mono ?_); rintro r w4 ⟨rfl, hb4⟩; have hS0 := keepE3 (w := w) (by assumption) hb4))
        have HB1 : Bx (Below w.heap.size w _) := Bx.mk (by assumption : _ ∧ _ ∧ _ ∧ _ ∧ _ ∧ _ ∧ _ ∧ _ ∧ _).2.2.2.2.2.2.2.2
        go_wp2_with (fail)
        go_roundw
        case rel => exact ⟨k + 1, by omega, by go_num, HB1.out⟩
        case measure => simp [intOf]; omega
      · go_wp2
        go_ret
        exact ⟨rfl, hb⟩
theorem eq_gr (va vb : Value) (G : Gr) (w : World) (ha : GrAt w va G) (hb : GrAt w vb G) (hm : SmG G) :
    Calls Try.prog 19 #[va, vb] w fun e w' => e = .returned (.bool true) ∧ Below w.heap.size w w' := by
  obtain ⟨B, b, C, c, rfl, i1, i2⟩ := gr_form ha
  obtain ⟨B', b', C', c', rfl, j1, j2⟩ := gr_form hb
  have q1 := fun W (h : Below w.heap.size w W) => eq_ints _ _ G.f G.f W (i1.below h) (j1.below h) (Nat.le_trans hm.f (by decide)) (Nat.le_trans hm.f (by decide))
  have q2 := fun W (h : Below w.heap.size w W) => eq_trs _ _ G.a W (i2.below h) (j2.below h) (Nat.le_trans hm.a (by decide))
  simp only [decide_true] at q1
  have e1 : (G.n != G.n) = false := by simp
  have e2 : (G.s != G.s) = false := by simp
  clear ha hb i1 i2 j1 j2 hm
  go_enter Try.func19, Try.ntmps19
  go_wp2_with (fail)
  have B0 : Bx (Below w.heap.size w ((w.alloc (.cells #[.int .i64 G.n, .int .i64 G.s, .slice B G.f.length b, .slice C G.a.length c] 30)).alloc (.cells #[.int .i64 G.n, .int .i64 G.s, .slice B' G.f.length b', .slice C' G.a.length c'] 30))) := Bx.mk (((Below.refl _ _).alloc (Nat.le_refl _) _).alloc (by simp) _)
  refine (q1 _ B0.out).mono ?_
  rintro r w1 ⟨rfl, n1, rfl⟩
  go_wp2_with (fail)
  refine (q2 _ (below_draws B0.out _)).mono ?_
  rintro r w1 ⟨rfl, hb⟩
  have B1 := Bx.mk ((below_draws B0.out n1).trans (hb.mono (below_draws B0.out n1).size))
  clear hb
  go_wp2_with (fail)
  go_ret
  exact ⟨rfl, B1.out⟩
end Go.Proofs.Ytpbgjlmcafmejaa
