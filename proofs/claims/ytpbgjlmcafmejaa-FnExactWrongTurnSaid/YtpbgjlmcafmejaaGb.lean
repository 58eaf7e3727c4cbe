/- The program's search among the arcs of a grammar. -/
import Derived.Test.YtpbgjlmcafmejaaGaM
import Derived.Test.YtpbgjlmcafmejaaGi
import Derived.Test.YtpbgjlmcafmejaaIdx
namespace Go.Proofs.Ytpbgjlmcafmejaa
open Go.ChangeShapes Go.WideShapes Go.ChangeAt Go.RowKit
set_option linter.unusedVariables false
set_option linter.unusedSimpArgs false
set_option maxRecDepth 100000

/-- k is the first arc that is not ahead of q -/
structure LowAt (l : List (Int × Int × Int)) (q : Int × Int × Int) (k : Nat) : Prop where
  le : k ≤ l.length
  lo : ∀ i, i < k → aLt (tat l i) q
  hi : ∀ i, k ≤ i → i < l.length → ¬ aLt (tat l i) q
def foundB (l : List (Int × Int × Int)) (q : Int × Int × Int) (k : Nat) : Bool := decide (k < l.length) && decide (cmpA (tat l k) q = 0)
theorem low_uniq {l : List (Int × Int × Int)} {q : Int × Int × Int} {k j : Nat} (h : LowAt l q k) (h' : LowAt l q j) : k = j := by
  rcases Nat.lt_trichotomy k j with hh | hh | hh
  · exact absurd (h'.lo k hh) (h.hi k (Nat.le_refl _) (by have := h'.le; omega))
  · exact hh
  · exact absurd (h.lo j hh) (h'.hi j (Nat.le_refl _) (by have := h.le; omega))
set_option maxHeartbeats 4000000 in
theorem std_bsearch (v : Value) (l : List (Int × Int × Int)) (q1 q2 q3 : Int) (w : World) (h : TrsAt w v l) (hm : l.length ≤ 1048576) (hr : ∀ i, i + 1 < l.length → aLt (tat l i) (tat l (i + 1))) :
    Calls Try.prog 147 #[v, .agg #[.int .i64 q1, .int .i64 q2, .int .i64 q3], .func (.func 61) #[] #[]] w
      fun e w' => ∃ k : Nat, e = .returned (.tuple #[.int .i64 k, .bool (foundB l (q1, q2, q3) k)]) ∧ LowAt l (q1, q2, q3) k ∧ Below w.heap.size w w' := by
  obtain ⟨A, c, rfl⟩ := trs_len h
  have HI := Bx.mk h
  have HR := Bx.mk (arcs_rise hr)
  have bA : Below w.heap.size w (w.alloc (.cells #[.int .i64 q1, .int .i64 q2, .int .i64 q3] 76)) := (Below.refl _ _).alloc (Nat.le_refl _) _
  have XA := Bx.mk (BoxN.at w w.heap.size #[.int .i64 q1, .int .i64 q2, .int .i64 q3] 76 rfl)
  clear h hr
  go_enter Try.func147, Try.ntmps147
  go_wp2_with (fail)
  have B_0 := Bx.mk bA
  clear bA
  obtain ⟨ga, hga⟩ : ∃ x, x = w.heap.size := ⟨_, rfl⟩
  generalize hW : w.alloc (.cells #[.int .i64 q1, .int .i64 q2, .int .i64 q3] 76) = W0 at *
  rw [← hga] at XA ⊢
  clear hW hga
  have ial := XA.out.lt
  go_loopw [9, 10] (fun i j wr => ∃ lo hi : Nat, i = .int .i64 lo ∧ j = .int .i64 hi ∧ lo ≤ hi ∧ hi ≤ l.length ∧ Bx (∀ i, i < lo → aLt (tat l i) (q1, q2, q3)) ∧ Bx (∀ i, hi ≤ i → i < l.length → ¬ aLt (tat l i) (q1, q2, q3)) ∧ Bx (Below W0.heap.size W0 wr)) (fun i j _ => (intOf j).toNat - (intOf i).toNat)
  case atStart => exact ⟨0, l.length, rfl, rfl, Nat.zero_le _, Nat.le_refl _, Bx.mk (fun i hi => absurd hi (Nat.not_lt_zero _)), Bx.mk (fun i h1 h2 => by omega), Bx.mk (Below.refl _ _)⟩
  case round =>
    obtain ⟨lo, hi, rfl, rfl, hlh, hin, HL, HH, HW⟩ := hrel
    have B_w := Bx.mk (B_0.out.trans (HW.out.mono B_0.out.size))
    have XAw := Bx.mk (XA.out.below HW.out)
    have HIw := Bx.mk (HI.out.below B_w.out)
    by_cases hlt : lo < hi
    · obtain ⟨b, o, cc, hv, lb, hc⟩ := HIw.out.form (by omega)
      injection hv with hA _ hC
      subst hA hC
      obtain ⟨m, hmm⟩ : ∃ m : Nat, m = (lo + hi) / 2 := ⟨_, rfl⟩
      have hc := hc m (by omega)
      have HLY : Bx (aLt (tat l m) (q1, q2, q3) → ∀ i, i < m + 1 → aLt (tat l i) (q1, q2, q3)) := Bx.mk (fun h i hi => by
        by_cases e : i = m
        · subst e; exact h
        · exact aLt_trans (HR.out m i (by omega) (by omega)) h)
      have HHY : Bx (¬ aLt (tat l m) (q1, q2, q3) → ∀ i, m ≤ i → i < l.length → ¬ aLt (tat l i) (q1, q2, q3)) := Bx.mk (fun h i hi hl hh => h (by
        by_cases e : i = m
        · subst e; exact hh
        · exact aLt_trans (HR.out i m (by omega) (by omega)) hh))
      generalize tat l m = p at hc HLY HHY
      have hq := fun W => impl_arccmp p (q1, q2, q3) W
      have hz := cmpA_neg p (q1, q2, q3)
      generalize cmpA p (q1, q2, q3) = z at hq hz
      obtain ⟨p1, p2, p3⟩ := p
      unfold arcV at hq
      dsimp only at hc hq
      obtain ⟨c1, c2, c3⟩ := hc
      have a1 := XAw.out.c (k := 0) rfl
      have a2 := XAw.out.c (k := 1) rfl
      have a3 := XAw.out.c (k := 2) rfl
      have al := XAw.out.lt
      have hM : ((lo : Int) + (hi : Int)) / 2 = ((m : Nat) : Int) := by omega
      have x1 : (0 : Int) ≤ (m : Int) := by omega
      have x2 : (m : Int) < (l.length : Int) := by omega
      have hm2 : lo ≤ m ∧ m < hi := by omega
      have HS0 : Bx (wr.cell? ⟨b, o + m * 3, none⟩ = some (.int .i64 p1) ∧ wr.cell? ⟨b, o + m * 3 + 1, none⟩ = some (.int .i64 p2) ∧ wr.cell? ⟨b, o + m * 3 + 2, none⟩ = some (.int .i64 p3) ∧ wr.cell? ⟨ga, 0, none⟩ = some (.int .i64 q1) ∧ wr.cell? ⟨ga, 1, none⟩ = some (.int .i64 q2) ∧ wr.cell? ⟨ga, 2, none⟩ = some (.int .i64 q3) ∧ b < wr.heap.size ∧ ga < wr.heap.size ∧ Below W0.heap.size W0 wr) := Bx.mk ⟨c1, c2, c3, a1, a2, a3, lb, al, HW.out⟩
      clear hmm
      go_wp2_with (fail)
      try simp only [hM]
      by_cases hxy : aLt (p1, p2, p3) (q1, q2, q3)
      · have HS := Bx.mk (HLY.out hxy)
        have dz : decide (z < 0) = true := decide_eq_true (hz.2 hxy)
        clear HLY HHY hz hxy hM
        go_region_held3 (fun W => W.cell? ⟨b, o + m * 3, none⟩ = some (.int .i64 p1) ∧ W.cell? ⟨b, o + m * 3 + 1, none⟩ = some (.int .i64 p2) ∧ W.cell? ⟨b, o + m * 3 + 2, none⟩ = some (.int .i64 p3) ∧ W.cell? ⟨ga, 0, none⟩ = some (.int .i64 q1) ∧ W.cell? ⟨ga, 1, none⟩ = some (.int .i64 q2) ∧ W.cell? ⟨ga, 2, none⟩ = some (.int .i64 q3) ∧ b < W.heap.size ∧ ga < W.heap.size ∧ Below W0.heap.size W0 W)
          (first | (with_reducible exact keepE3 (by assumption) hb4) | (with_reducible exact keepE3 (by assumption) (Below.refl _ _).drew) | exact keepE3 HS0.out (Below.refl _ _).drew)
          ((go_at_call 61; (with_reducible refine (hq _).mono ?_); rintro r w4 ⟨rfl, hb4⟩; have hS0 := keepE3 (w := W0) (by assumption) hb4))
        have HB1 : Bx (Below W0.heap.size W0 _) := Bx.mk (by assumption : _ ∧ _ ∧ _ ∧ _ ∧ _ ∧ _ ∧ _ ∧ _ ∧ _).2.2.2.2.2.2.2.2
        go_wp2_with (fail)
        go_roundw
        case rel => exact ⟨m + 1, hi, by go_num, rfl, by omega, hin, HS, HH, HB1⟩
        case measure => simp [intOf]; omega
      · have HS := Bx.mk (HHY.out hxy)
        have dz : decide (z < 0) = false := decide_eq_false (fun hh => hxy (hz.1 hh))
        clear HLY HHY hz hxy hM
        go_region_held3 (fun W => W.cell? ⟨b, o + m * 3, none⟩ = some (.int .i64 p1) ∧ W.cell? ⟨b, o + m * 3 + 1, none⟩ = some (.int .i64 p2) ∧ W.cell? ⟨b, o + m * 3 + 2, none⟩ = some (.int .i64 p3) ∧ W.cell? ⟨ga, 0, none⟩ = some (.int .i64 q1) ∧ W.cell? ⟨ga, 1, none⟩ = some (.int .i64 q2) ∧ W.cell? ⟨ga, 2, none⟩ = some (.int .i64 q3) ∧ b < W.heap.size ∧ ga < W.heap.size ∧ Below W0.heap.size W0 W)
          (first | (with_reducible exact keepE3 (by assumption) hb4) | (with_reducible exact keepE3 (by assumption) (Below.refl _ _).drew) | exact keepE3 HS0.out (Below.refl _ _).drew)
          ((go_at_call 61; (with_reducible refine (hq _).mono ?_); rintro r w4 ⟨rfl, hb4⟩; have hS0 := keepE3 (w := W0) (by assumption) hb4))
        have HB1 : Bx (Below W0.heap.size W0 _) := Bx.mk (by assumption : _ ∧ _ ∧ _ ∧ _ ∧ _ ∧ _ ∧ _ ∧ _ ∧ _).2.2.2.2.2.2.2.2
        go_wp2_with (fail)
        go_roundw
        case rel => exact ⟨lo, m, rfl, by go_num, by omega, by omega, HL, HS, HB1⟩
        case measure => simp [intOf]; omega
    · obtain rfl : hi = lo := by omega
      have HLow : Bx (LowAt l (q1, q2, q3) hi) := Bx.mk ⟨hin, HL.out, HH.out⟩
      have dlt : decide ((hi : Int) < (hi : Int)) = false := decide_eq_false (by omega)
      clear HL HH
      by_cases hn : hi < l.length
      · obtain ⟨b, o, cc, hv, lb, hc⟩ := HIw.out.form (by omega)
        injection hv with hA _ hC
        subst hA hC
        have hc := hc hi hn
        have HF : Bx (foundB l (q1, q2, q3) hi = decide (cmpA (tat l hi) (q1, q2, q3) = 0)) := Bx.mk (by unfold foundB; rw [decide_eq_true hn]; rfl)
        generalize tat l hi = p at hc HF
        have hq := fun W => impl_arccmp p (q1, q2, q3) W
        generalize cmpA p (q1, q2, q3) = z at hq HF
        obtain ⟨p1, p2, p3⟩ := p
        unfold arcV at hq
        dsimp only at hc hq
        obtain ⟨c1, c2, c3⟩ := hc
        have a1 := XAw.out.c (k := 0) rfl
        have a2 := XAw.out.c (k := 1) rfl
        have a3 := XAw.out.c (k := 2) rfl
        have al := XAw.out.lt
        have x1 : (0 : Int) ≤ (hi : Int) := by omega
        have x2 : (hi : Int) < (l.length : Int) := by omega
        have dn : decide ((hi : Int) < (l.length : Int)) = true := decide_eq_true x2
        have HS0 : Bx (wr.cell? ⟨b, o + hi * 3, none⟩ = some (.int .i64 p1) ∧ wr.cell? ⟨b, o + hi * 3 + 1, none⟩ = some (.int .i64 p2) ∧ wr.cell? ⟨b, o + hi * 3 + 2, none⟩ = some (.int .i64 p3) ∧ wr.cell? ⟨ga, 0, none⟩ = some (.int .i64 q1) ∧ wr.cell? ⟨ga, 1, none⟩ = some (.int .i64 q2) ∧ wr.cell? ⟨ga, 2, none⟩ = some (.int .i64 q3) ∧ b < wr.heap.size ∧ ga < wr.heap.size ∧ Below W0.heap.size W0 wr) := Bx.mk ⟨c1, c2, c3, a1, a2, a3, lb, al, HW.out⟩
        by_cases hz0 : z = 0
        · have HE : Bx (foundB l (q1, q2, q3) hi = true) := Bx.mk (by rw [HF.out]; exact decide_eq_true hz0)
          have e0 : (z == 0) = true := by simpa using hz0
          clear HF hz0
          go_wp2_with (fail)
          go_region_held3 (fun W => W.cell? ⟨b, o + hi * 3, none⟩ = some (.int .i64 p1) ∧ W.cell? ⟨b, o + hi * 3 + 1, none⟩ = some (.int .i64 p2) ∧ W.cell? ⟨b, o + hi * 3 + 2, none⟩ = some (.int .i64 p3) ∧ W.cell? ⟨ga, 0, none⟩ = some (.int .i64 q1) ∧ W.cell? ⟨ga, 1, none⟩ = some (.int .i64 q2) ∧ W.cell? ⟨ga, 2, none⟩ = some (.int .i64 q3) ∧ b < W.heap.size ∧ ga < W.heap.size ∧ Below W0.heap.size W0 W)
            (first | (with_reducible exact keepE3 (by assumption) hb4) | (with_reducible exact keepE3 (by assumption) (Below.refl _ _).drew) | exact keepE3 HS0.out (Below.refl _ _).drew)
            ((go_at_call 61; (with_reducible refine (hq _).mono ?_); rintro r w4 ⟨rfl, hb4⟩; have hS0 := keepE3 (w := W0) (by assumption) hb4))
          have HB1 : Bx (Below W0.heap.size W0 _) := Bx.mk (by assumption : _ ∧ _ ∧ _ ∧ _ ∧ _ ∧ _ ∧ _ ∧ _ ∧ _).2.2.2.2.2.2.2.2
          go_wp2_with (fail)
          go_ret2
          exact ⟨hi, by rw [HE.out]; rfl, HLow.out, B_0.out.trans (HB1.out.mono B_0.out.size)⟩
        · have HE : Bx (foundB l (q1, q2, q3) hi = false) := Bx.mk (by rw [HF.out]; exact decide_eq_false hz0)
          have e0 : (z == 0) = false := by simpa using hz0
          clear HF hz0
          go_wp2_with (fail)
          go_region_held3 (fun W => W.cell? ⟨b, o + hi * 3, none⟩ = some (.int .i64 p1) ∧ W.cell? ⟨b, o + hi * 3 + 1, none⟩ = some (.int .i64 p2) ∧ W.cell? ⟨b, o + hi * 3 + 2, none⟩ = some (.int .i64 p3) ∧ W.cell? ⟨ga, 0, none⟩ = some (.int .i64 q1) ∧ W.cell? ⟨ga, 1, none⟩ = some (.int .i64 q2) ∧ W.cell? ⟨ga, 2, none⟩ = some (.int .i64 q3) ∧ b < W.heap.size ∧ ga < W.heap.size ∧ Below W0.heap.size W0 W)
            (first | (with_reducible exact keepE3 (by assumption) hb4) | (with_reducible exact keepE3 (by assumption) (Below.refl _ _).drew) | exact keepE3 HS0.out (Below.refl _ _).drew)
            ((go_at_call 61; (with_reducible refine (hq _).mono ?_); rintro r w4 ⟨rfl, hb4⟩; have hS0 := keepE3 (w := W0) (by assumption) hb4))
          have HB1 : Bx (Below W0.heap.size W0 _) := Bx.mk (by assumption : _ ∧ _ ∧ _ ∧ _ ∧ _ ∧ _ ∧ _ ∧ _ ∧ _).2.2.2.2.2.2.2.2
          go_wp2_with (fail)
          go_ret2
          exact ⟨hi, by rw [HE.out]; rfl, HLow.out, B_0.out.trans (HB1.out.mono B_0.out.size)⟩
      · have HF : Bx (foundB l (q1, q2, q3) hi = false) := Bx.mk (by unfold foundB; rw [decide_eq_false hn]; rfl)
        have dn : decide ((hi : Int) < (l.length : Int)) = false := decide_eq_false (by omega)
        go_wp2_with (fail)
        go_quiet (fail)
        go_wp2_with (fail)
        go_ret2
        exact ⟨hi, by rw [HF.out]; rfl, HLow.out, below_draws B_w.out _⟩
end Go.Proofs.Ytpbgjlmcafmejaa
