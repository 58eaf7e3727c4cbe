/- Contracts of the program's own functions of chapter 2: the small ones. -/
import Derived.Test.YtobhmoohalkijaaDoorLine
import Derived.Test.YtobhmoohalkijaaDoorRatB
import Derived.Test.YtobhmoohalkijaaDoorLawR
import Derived.Test.YtobhmoohalkijaaDoorHold
namespace Go.Proofs.YtobhmoohalkijaaDoor
open Go.ChangeShapes Go.WideShapes Go.ChangeAt Go.RowKit
set_option linter.unusedVariables false
set_option linter.unusedSimpArgs false
set_option maxRecDepth 100000

theorem least1 (x a : Int) (g : Nat) (w : World) (h0 : w.cell? ⟨g, 0, none⟩ = some (.int .i64 a)) :
    Calls Tryd.prog 129 #[.int .i64 x, .slice (some ⟨g, 0, none⟩) 1 1] w fun e w' => e = .returned (.int .i64 (min x a)) ∧ w = w' := by
  refine least_any x [a] g _ (by simp) (fun k hk => ?_)
  have hk : k < 1 := hk
  obtain rfl : k = 0 := by omega
  exact h0
theorem greatest1 (x a : Int) (g : Nat) (w : World) (h0 : w.cell? ⟨g, 0, none⟩ = some (.int .i64 a)) :
    Calls Tryd.prog 130 #[.int .i64 x, .slice (some ⟨g, 0, none⟩) 1 1] w fun e w' => e = .returned (.int .i64 (max x a)) ∧ w = w' := by
  refine greatest_any x [a] g _ (by simp) (fun k hk => ?_)
  have hk : k < 1 := hk
  obtain rfl : k = 0 := by omega
  exact h0
/-- both numbers from 1 to m -/
def withB (n d m : Int) : Bool := inB n 1 m && inB d 1 m
theorem impl_within (n d m : Int) (w : World) :
    Calls Tryd.prog 93 #[rat n d, .int .i64 m] w fun e w' => e = .returned (.bool (withB n d m)) ∧ Below w.heap.size w w' := by
  unfold rat
  by_cases h1 : min n d < 1
  · have H : Bx (withB n d m = false) := Bx.mk (by simp [withB, inB]; omega)
    have E : decide (min n d ≥ 1) = false := by simp; omega
    go_enter Tryd.func93, Tryd.ntmps93
    go_wp2_with ((go_at_call 129; refine (least1 n d _ _ (by go_simp)).mono ?_; rintro e w' ⟨rfl, rfl⟩))
    go_ret
    refine ⟨ret_bool H.out.symm, ?_⟩
    repeat' (first | (with_reducible exact Below.refl _ _) | (with_reducible assumption) | (with_reducible refine Below.alloc ?_ ?_ _) | (with_reducible refine below_draws ?_ _) | (with_reducible refine Below.setCell ?_ ?_ _) | go_size)
  · have H : Bx (withB n d m = decide (max n d ≤ m)) := Bx.mk (by simp only [withB, inB]; rw [← Bool.decide_and]; exact decide_eq_decide.2 (by omega))
    go_enter Tryd.func93, Tryd.ntmps93
    go_wp2_with (first | (go_at_call 129; refine (least1 n d _ _ (by go_simp)).mono ?_; rintro e w' ⟨rfl, rfl⟩) | (go_at_call 130; refine (greatest1 n d _ _ (by go_simp)).mono ?_; rintro e w' ⟨rfl, rfl⟩))
    all_goals
      go_ret
      refine ⟨ret_bool H.out.symm, ?_⟩
      repeat' (first | (with_reducible exact Below.refl _ _) | (with_reducible assumption) | (with_reducible refine Below.alloc ?_ ?_ _) | (with_reducible refine below_draws ?_ _) | (with_reducible refine Below.setCell ?_ ?_ _) | go_size)
theorem impl_gcd (a b : Int) (w : World) (ha : 0 ≤ a ∧ a ≤ 2000000000000000000) (hb : 0 ≤ b ∧ b ≤ 2000000000000000000) :
    Calls Tryd.prog 131 #[.int .i64 a, .int .i64 b] w fun e w' => e = .returned (.int .i64 (gz a b)) ∧ ∃ n, w' = w.drewN n := by
  obtain ⟨a1, a2⟩ := ha
  obtain ⟨b1, b2⟩ := hb
  go_enter Tryd.func131, Tryd.ntmps131
  go_wp2
  go_loopw [0, 1] (fun x y wx => ∃ p q : Int, x = .int .i64 p ∧ y = .int .i64 q ∧ 0 ≤ p ∧ p ≤ 2000000000000000000 ∧ 0 ≤ q ∧ q ≤ 2000000000000000000 ∧ Bx (gz p q = gz a b) ∧ ∃ n, wx = w.drewN n) (fun _ y _ => (intOf y).toNat)
  case atStart => exact ⟨a, b, rfl, rfl, a1, a2, b1, b2, Bx.mk rfl, 0, rfl⟩
  case round =>
    obtain ⟨p, q, rfl, rfl, p1, p2, q1, q2, H, k, rfl⟩ := hrel
    by_cases hq : q = 0
    · subst hq
      go_wp2
      go_ret
      exact ⟨ret_int (by rw [← H.out, gz_zero p p1]), k, rfl⟩
    · have hq' : (q == 0) = false := by simpa using hq
      obtain ⟨t1, t2⟩ := tmod_rng p q p1 (by omega)
      have H2 := Bx.mk ((gz_mod p q p1).trans H.out)
      go_wp2
      go_quiet (fail)
      go_wp2
      go_roundw
      case rel => exact ⟨q, _, rfl, rfl, q1, q2, t1, by omega, H2, _, World.drewN_drewN ..⟩
      case measure => simp [intOf]; omega
/-- a value of two numbers without common divisors -/
theorem impl_reduced (n d : Int) (w : World) (hn : 1 ≤ n ∧ n ≤ 2000000000000000000) (hd : 1 ≤ d ∧ d ≤ 2000000000000000000) :
    Calls Tryd.prog 94 #[rat n d] w fun e w' => e = .returned (rat (n / gz n d) (d / gz n d)) ∧ Below w.heap.size w w' := by
  have hg := fun W => impl_gcd n d W (by omega) (by omega)
  have g1 := gz_pos n d hn.1
  have hg0 : (gz n d == 0) = false := by simp; omega
  obtain ⟨n1, n2⟩ := hn
  obtain ⟨d1, d2⟩ := hd
  obtain ⟨x1, x2, _⟩ := red_num n d n1
  obtain ⟨y1, y2, _⟩ := red_num d n d1
  rw [gz_comm d n] at y1 y2
  generalize gz n d = g at *
  unfold rat
  go_enter Tryd.func94, Tryd.ntmps94
  go_wp2_with (fail)
  refine (hg _).mono ?_
  rintro e w' ⟨rfl, k, rfl⟩
  go_wp2_with (fail)
  go_region
  go_wp2_with (fail)
  refine bodyPost_ret (v := .agg #[.int .i64 (n / g), .int .i64 (d / g)]) (by simp [results, Tryd.results94, go_sem]) rfl ?_
  refine ⟨rfl, ?_⟩
  repeat' (first | (with_reducible exact Below.refl _ _) | (with_reducible assumption) | (with_reducible refine Below.alloc ?_ ?_ _) | (with_reducible refine below_draws ?_ _) | (with_reducible refine Below.setCell ?_ ?_ _) | go_size)
theorem with_red (n d : Int) (hn : 1 ≤ n) (hd : 1 ≤ d) : withB (n / gz n d) (d / gz n d) 1000000 = decide (n / gz n d ≤ 1000000 ∧ d / gz n d ≤ 1000000) := by
  obtain ⟨a1, _, _⟩ := red_num n d hn
  obtain ⟨b1, _, _⟩ := red_num d n hd
  rw [gz_comm d n] at b1
  unfold withB inB
  simp [a1, b1]
/-- the program's ratio of two numbers, or none -/
theorem put_pair {W : World} {b : Nat} {p q : Int} (h : PairAt W b p q) (x y : Int) :
    ((W.setCell ⟨b, 0, none⟩ (.int .i64 x)).setCell ⟨b, 1, none⟩ (.int .i64 y)).cell? ⟨b, 0, none⟩ = some (.int .i64 x) ∧ ((W.setCell ⟨b, 0, none⟩ (.int .i64 x)).setCell ⟨b, 1, none⟩ (.int .i64 y)).cell? ⟨b, 1, none⟩ = some (.int .i64 y) := ⟨(h.put x y).c0, (h.put x y).c1⟩
theorem keep1 {w W W' : World} {n d : Value} (h : W.cell? ⟨w.heap.size, 0, none⟩ = some n ∧ W.cell? ⟨w.heap.size, 1, none⟩ = some d ∧ w.heap.size + 1 ≤ W.heap.size ∧ Below w.heap.size w W) (hb : Below W.heap.size W W') :
    W'.cell? ⟨w.heap.size, 0, none⟩ = some n ∧ W'.cell? ⟨w.heap.size, 1, none⟩ = some d ∧ w.heap.size + 1 ≤ W'.heap.size ∧ Below w.heap.size w W' := by
  obtain ⟨h1, h2, h5, h6⟩ := h
  have hs := hb.size
  exact ⟨(hb.cell (p := ⟨w.heap.size, 0, none⟩) (by show w.heap.size < _; omega)).trans h1, (hb.cell (p := ⟨w.heap.size, 1, none⟩) (by show w.heap.size < _; omega)).trans h2, by omega, h6.trans (hb.mono h6.size)⟩
theorem red_one {n d : Int} (hn : 1 ≤ n) (hd : 1 ≤ d) : (n / gz n d = n ∧ d / gz n d = d) ∨ ¬ n = n / gz n d := by
  obtain ⟨a1, a2, a3⟩ := red_num n d hn
  have g1 := gz_pos n d hn
  generalize gz n d = g at *
  by_cases h : g = 1
  · subst h; left; simp
  · right
    intro e
    rw [← e] at a3
    have : n * 2 ≤ n * g := Int.mul_le_mul_of_nonneg_left (by omega) (by omega)
    omega
theorem okR_with (n d : Int) : okR n d = (withB n d 1000000 && gz n d == 1) := by simp [okR, withB, Bool.and_assoc]
theorem red_same {n d : Int} (hn : 1 ≤ n) (hd : 1 ≤ d) : (n == n / gz n d && d == d / gz n d) = (gz n d == 1) := by
  obtain ⟨a1, a2, a3⟩ := red_num n d hn
  obtain ⟨b1, b2, b3⟩ := red_num d n hd
  rw [gz_comm d n] at b1 b2 b3
  have g1 := gz_pos n d hn
  generalize gz n d = g at *
  by_cases h : g = 1
  · subst h; simp
  · have hne : ¬ n = n / g := fun e => by
      rw [← e] at a3
      have : n * 2 ≤ n * g := Int.mul_le_mul_of_nonneg_left (by omega) (by omega)
      omega
    rw [show (n == n / g) = false by simpa using hne, show (g == 1) = false by simpa using h]
    rfl
set_option maxHeartbeats 1000000 in
theorem impl_valid (n d : Int) (w : World) : Calls Tryd.prog 57 #[rat n d] w fun e w' => e = .returned (.bool (okR n d)) ∧ Below w.heap.size w w' := by
  have hwi := fun W => impl_within n d 1000000 W
  cases hc : withB n d 1000000
  · have HE : Bx (okR n d = false) := Bx.mk (by rw [okR_with, hc]; rfl)
    rw [hc] at hwi
    clear hc
    unfold rat at *
    go_enter Tryd.func57, Tryd.ntmps57
    go_wp2_with (fail)
    go_region_with (go_at_call 93; refine (hwi _).mono ?_; rintro r w4 ⟨rfl, hb4⟩; have KB : Bx (Below w.heap.size w w4) := Bx.mk (Below.trans (by repeat' (first | (with_reducible exact Below.refl _ _) | (with_reducible assumption) | (with_reducible refine Below.drew ?_) | (with_reducible refine Below.alloc ?_ ?_ _) | (with_reducible refine below_draws ?_ _) | (with_reducible refine Below.setCell ?_ ?_ _) | go_size)) (hb4.mono (by go_size))); clear hb4)
    all_goals
      try go_wp2_with (fail)
      go_ret
      refine ⟨ret_bool HE.out.symm, ?_⟩
      have KBO := KB.out
      repeat' (first | (with_reducible exact Below.refl _ _) | (with_reducible assumption) | (with_reducible refine Below.drew ?_) | (with_reducible refine Below.alloc ?_ ?_ _) | (with_reducible refine below_draws ?_ _) | (with_reducible refine Below.setCell ?_ ?_ _) | go_size)
  · have hc2 := hc
    unfold withB at hc2
    rw [Bool.and_eq_true] at hc2
    obtain ⟨n1, n2⟩ := inB_yes hc2.1
    obtain ⟨d1, d2⟩ := inB_yes hc2.2
    clear hc2
    have HE : Bx (okR n d = (n == n / gz n d && d == d / gz n d)) := Bx.mk (by rw [okR_with, hc, red_same n1 d1]; rfl)
    rw [hc] at hwi
    clear hc
    have hr := fun W => impl_reduced n d W (by omega) (by omega)
    have hone := red_one n1 d1
    generalize n / gz n d = x at *
    generalize d / gz n d = y at *
    unfold rat at *
    rcases hone with ⟨e1, e2⟩ | hne
    · subst x
      subst y
      have HE2 : Bx (okR n d = true) := Bx.mk (by rw [HE.out]; simp)
      clear HE
      go_enter Tryd.func57, Tryd.ntmps57
      go_wp2_with (fail)
      go_region_held3 (fun W => W.cell? ⟨w.heap.size, 0, none⟩ = some (.int .i64 n) ∧ W.cell? ⟨w.heap.size, 1, none⟩ = some (.int .i64 d) ∧ w.heap.size + 1 ≤ W.heap.size ∧ Below w.heap.size w W)
      (first | (with_reducible exact keep1 (by assumption) hb4) | (with_reducible exact keep1 (by assumption) ((Below.refl _ _).alloc (Nat.le_refl _) _)) | (with_reducible exact keep1 (by assumption) (Below.refl _ _).drew) | (refine ⟨by go_simp, by go_simp, by simp, ?_⟩; go_grown))
      (first | (go_at_call 93; (with_reducible refine (hwi _).mono ?_); rintro r w4 ⟨rfl, hb4⟩; have hS0 := keep1 (w := w) (by assumption) hb4) | (go_at_call 94; (with_reducible refine (hr _).mono ?_); rintro r w4 ⟨rfl, hb4⟩; have hS1 := keep1 (w := w) (by assumption) hb4))
      all_goals
        go_wp2_with (fail)
        go_ret
        exact ⟨ret_bool (by rw [HE2.out]), (by assumption : _ ∧ _ ∧ _ ∧ _).2.2.2⟩
    · have HE2 : Bx (okR n d = false) := Bx.mk (by rw [HE.out]; simp [hne])
      clear HE
      have E1 : (n == x) = false := by simpa using hne
      have E2 : (x == n) = false := by simpa using fun e => hne (Eq.symm e)
      go_enter Tryd.func57, Tryd.ntmps57
      go_wp2_with (fail)
      go_region_held3 (fun W => W.cell? ⟨w.heap.size, 0, none⟩ = some (.int .i64 n) ∧ W.cell? ⟨w.heap.size, 1, none⟩ = some (.int .i64 d) ∧ w.heap.size + 1 ≤ W.heap.size ∧ Below w.heap.size w W)
      (first | (with_reducible exact keep1 (by assumption) hb4) | (with_reducible exact keep1 (by assumption) ((Below.refl _ _).alloc (Nat.le_refl _) _)) | (with_reducible exact keep1 (by assumption) (Below.refl _ _).drew) | (refine ⟨by go_simp, by go_simp, by simp, ?_⟩; go_grown))
      (first | (go_at_call 93; (with_reducible refine (hwi _).mono ?_); rintro r w4 ⟨rfl, hb4⟩; have hS0 := keep1 (w := w) (by assumption) hb4) | (go_at_call 94; (with_reducible refine (hr _).mono ?_); rintro r w4 ⟨rfl, hb4⟩; have hS1 := keep1 (w := w) (by assumption) hb4))
      all_goals
        go_wp2_with (fail)
        go_ret
        exact ⟨ret_bool (by rw [HE2.out]), (by assumption : _ ∧ _ ∧ _ ∧ _).2.2.2⟩
end Go.Proofs.YtobhmoohalkijaaDoor
