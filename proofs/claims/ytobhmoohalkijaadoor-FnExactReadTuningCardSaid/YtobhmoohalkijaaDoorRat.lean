/- Contracts of chapter 2 on the model's side. -/
import Derived.Test.YtobhmoohalkijaaDoorNum
import Derived.Test.YtobhmoohalkijaaDoorRatMath
import Derived.LoopTactic
import Derived.BigRegion
import Derived.Handy
namespace Go.Proofs.YtobhmoohalkijaaDoor
open Go.ChangeShapes Go.WideShapes Go.ChangeAt Go.RowKit
set_option linter.unusedVariables false
set_option linter.unusedSimpArgs false
set_option maxRecDepth 100000

/-- a ratio as a value -/
def rat (n d : Int) : Value := .agg #[.int .i64 n, .int .i64 d]

/-- a valid ratio -/
def okR (n d : Int) : Bool := inB n 1 1000000 && (inB d 1 1000000 && gz n d == 1)
theorem law_eqratio (n d m e : Int) (w : World) :
    Calls Tryd.prog 60 #[rat n d, rat m e] w fun r w' => r = .returned (.bool (n == m && d == e)) ∧ Below w.heap.size w w' := by
  have hb : Below w.heap.size w ((w.alloc (.cells #[.int .i64 n, .int .i64 d] 50)).alloc (.cells #[.int .i64 m, .int .i64 e] 50)) := ((Below.refl _ _).alloc (Nat.le_refl _) _).alloc (by simp) _
  have HB := Bx.mk hb
  clear hb
  unfold rat
  go_enter Tryd.func60, Tryd.ntmps60
  go_wp2
  all_goals
    go_ret
    exact ⟨ret_bool (by simp_all), HB.out⟩

theorem spec_part (x : Int) (w : World) :
    Calls Tryd.prog 118 #[.int .i64 x] w fun e w' => e = .returned (.bool (inB x 1 1000000)) ∧ w = w' := by
  have hin := fun W => in_any x 1 1000000 W
  generalize inB x 1 1000000 = b at hin ⊢
  go_enter Tryd.func118, Tryd.ntmps118
  go_wp2_with (fail)
  refine (hin _).mono ?_
  rintro e w' ⟨rfl, rfl⟩
  go_wp2_with (fail)
  go_ret
  exact ⟨rfl, rfl⟩
theorem tmod_rng (p q : Int) (hp : 0 ≤ p) (hq : 0 < q) : 0 ≤ p % q ∧ p % q < q := by
  exact ⟨Int.emod_nonneg _ (by omega), Int.emod_lt_of_pos _ hq⟩
theorem spec_gcd (a b : Int) (w : World) (ha : 0 ≤ a ∧ a ≤ 2000000000000000000) (hb : 0 ≤ b ∧ b ≤ 2000000000000000000) :
    Calls Tryd.prog 119 #[.int .i64 a, .int .i64 b] w fun e w' => e = .returned (.int .i64 (gz a b)) ∧ w = w' := by
  obtain ⟨a1, a2⟩ := ha
  obtain ⟨b1, b2⟩ := hb
  go_enter Tryd.func119, Tryd.ntmps119
  go_wp2
  go_loop [0, 1] (fun x y => ∃ p q : Int, x = .int .i64 p ∧ y = .int .i64 q ∧ 0 ≤ p ∧ p ≤ 2000000000000000000 ∧ 0 ≤ q ∧ q ≤ 2000000000000000000 ∧ Bx (gz p q = gz a b)) (fun _ y => (intOf y).toNat)
  case atStart => exact ⟨a, b, rfl, rfl, a1, a2, b1, b2, Bx.mk rfl⟩
  case round =>
    obtain ⟨p, q, rfl, rfl, p1, p2, q1, q2, H⟩ := hrel
    by_cases hq : q = 0
    · subst hq
      go_wp2
      go_ret
      exact ⟨ret_int (by rw [← H.out, gz_zero p p1]), rfl⟩
    · have hq' : (q == 0) = false := by simpa using hq
      obtain ⟨t1, t2⟩ := tmod_rng p q p1 (by omega)
      have H2 := Bx.mk ((gz_mod p q p1).trans H.out)
      go_wp2
      go_round
      case rel => exact ⟨q, _, rfl, rfl, q1, q2, t1, by omega, H2⟩
      case measure => simp [intOf]; omega
set_option maxHeartbeats 2000000 in
theorem spec_ok (g o : Nat) (n d : Int) (w : World) (h0 : w.cell? ⟨g, o, none⟩ = some (.int .i64 n)) (h1 : w.cell? ⟨g, o + 1, none⟩ = some (.int .i64 d)) :
    Calls Tryd.prog 85 #[.pointer (some ⟨g, o, none⟩)] w fun e w' => e = .returned (.bool (okR n d)) ∧ ∃ n, w' = w.drewN n := by
  have hp0 := fun k => spec_part n (w.drewN k)
  have hp1 := fun k => spec_part d (w.drewN k)
  cases hn : inB n 1 1000000
  · have H : Bx (okR n d = false) := Bx.mk (by simp [okR, hn])
    simp only [hn] at hp0
    clear hn hp1
    go_enter Tryd.func85, Tryd.ntmps85
    go_wp2
    go_quiet ((go_at_call 118; exact quiet_eq (hp0 _)))
    go_wp2
    go_ret
    exact ⟨ret_bool H.out.symm, _, rfl⟩
  · obtain ⟨n1, n2⟩ := inB_yes hn
    simp only [hn] at hp0
    cases hd : inB d 1 1000000
    · have H : Bx (okR n d = false) := Bx.mk (by simp [okR, hd])
      simp only [hd] at hp1
      clear hn hd n1 n2
      go_enter Tryd.func85, Tryd.ntmps85
      go_wp2
      go_quiet (first | (go_at_call 118; exact quiet_eq (hp0 _)) | (go_at_call 118; exact quiet_eq (hp1 _)))
      go_wp2
      go_ret
      exact ⟨ret_bool H.out.symm, _, rfl⟩
    · obtain ⟨d1, d2⟩ := inB_yes hd
      have H : Bx (okR n d = (gz n d == 1)) := Bx.mk (by simp [okR, hn, hd])
      have hg := fun W => spec_gcd n d W (by omega) (by omega)
      simp only [hd] at hp1
      generalize gz n d = g1 at H hg
      clear hn hd n1 n2 d1 d2
      go_enter Tryd.func85, Tryd.ntmps85
      go_wp2
      go_quiet (first | (go_at_call 118; exact quiet_eq (hp0 _)) | (go_at_call 118; exact quiet_eq (hp1 _)) | (go_at_call 119; exact quiet_eq (hg _)))
      go_wp2
      all_goals
        go_ret
        exact ⟨ret_bool (by rw [H.out]), _, rfl⟩

/-- the ratio of two numbers, or none -/
def doneR (n d : Int) : Int × Int × Int := if n / gz n d ≤ 1000000 ∧ d / gz n d ≤ 1000000 then (n / gz n d, d / gz n d, 0) else (0, 0, 5)
/-- what hands back a ratio and a code -/
def RatOut (t : Int × Int × Int) (w : World) (e : Ending) (w' : World) : Prop := e = .returned (.tuple #[rat t.1 t.2.1, .int .i64 t.2.2]) ∧ Below w.heap.size w w'
theorem rat_out {t : Int × Int × Int} {w w' : World} {n d c : Int} (h : t = (n, d, c)) (hb : Below w.heap.size w w') : RatOut t w (.returned (.tuple #[.agg #[.int .i64 n, .int .i64 d], .int .i64 c])) w' := by
  subst h; exact ⟨rfl, hb⟩
theorem ok_red (n d : Int) (hn : 1 ≤ n) (hd : 1 ≤ d) : okR (n / gz n d) (d / gz n d) = decide (n / gz n d ≤ 1000000 ∧ d / gz n d ≤ 1000000) := by
  obtain ⟨a1, _, _⟩ := red_num n d hn
  obtain ⟨b1, _, _⟩ := red_num d n hd
  rw [gz_comm d n] at b1
  unfold okR inB
  rw [red_gcd n d hn]
  simp [a1, b1]
def redR (n d : Int) : Int × Int × Int := if (inB n 1 1000000000000 && inB d 1 1000000000000) = true then doneR n d else (0, 0, 2)
theorem bcell {W w1 : World} (hb : Below W.heap.size W w1) : (∀ b o, b < W.heap.size → w1.cell? ⟨b, o, none⟩ = W.cell? ⟨b, o, none⟩) ∧ (∀ b o, b < W.heap.size → w1.frozen? ⟨b, o, none⟩ = W.frozen? ⟨b, o, none⟩) :=
  ⟨fun b o h => hb.cell (p := ⟨b, o, none⟩) h, fun b o h => hb.frozen (p := ⟨b, o, none⟩) h⟩
theorem out_below {t : Int × Int × Int} {w w1 : World} {e : Ending} {w' : World} (h : RatOut t w1 e w') (hb : Below w.heap.size w w1) : RatOut t w e w' := ⟨h.1, hb.trans (h.2.mono hb.size)⟩
theorem okR_yes {n d : Int} (h : okR n d = true) : (1 ≤ n ∧ n ≤ 1000000) ∧ (1 ≤ d ∧ d ≤ 1000000) ∧ gz n d = 1 := by
  unfold okR at h
  simp [inB] at h
  exact ⟨h.1, h.2.1, h.2.2⟩
theorem mul_rng {a b : Int} (ha : 1 ≤ a ∧ a ≤ 1000000) (hb : 1 ≤ b ∧ b ≤ 1000000) : 1 ≤ a * b ∧ a * b ≤ 1000000000000 := by
  have h1 : 0 < a * b := Int.mul_pos (by omega) (by omega)
  have h2 := Int.mul_le_mul ha.2 hb.2 (by omega) (by omega)
  omega
def mulR (n d m e : Int) : Int × Int × Int := if (okR n d && okR m e) = true then doneR (n * m) (d * e) else (0, 0, 1)
def divR (n d m e : Int) : Int × Int × Int := if (okR n d && okR m e) = true then doneR (n * e) (d * m) else (0, 0, 1)
def betR (n d m e : Int) : Int × Int × Int := if (okR n d && okR m e) = true then doneR (n + m) (d + e) else (0, 0, 1)
def cmpR (n d m e : Int) : Int := if n * e < m * d then -1 else if m * d < n * e then 1 else 0
end Go.Proofs.YtobhmoohalkijaaDoor
