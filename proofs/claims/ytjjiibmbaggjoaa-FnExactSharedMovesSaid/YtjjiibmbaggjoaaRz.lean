/- SharedMoves, by the model. -/
import Derived.Test.YtjjiibmbaggjoaaRv
namespace Go.Proofs.Ytjjiibmbaggjoaa
open Go.ChangeShapes Go.WideShapes Go.ChangeAt Go.RowKit
set_option linter.unusedVariables false
set_option linter.unusedSimpArgs false
set_option maxRecDepth 100000

/-- moves of both and of one of two ragas, the first n of them in the order of the pitches -/
def cntM (A B : Rg) : Nat → Int × Int
  | 0 => (0, 0)
  | n + 1 => ((cntM A B n).1 + (if reasonZ A (((n / 36 : Nat) : Int) - 12) (((n % 36 : Nat) : Int) - 12) = 0 ∧ reasonZ B (((n / 36 : Nat) : Int) - 12) (((n % 36 : Nat) : Int) - 12) = 0 then 1 else 0),
      (cntM A B n).2 + (if reasonZ A (((n / 36 : Nat) : Int) - 12) (((n % 36 : Nat) : Int) - 12) = 0 ∨ reasonZ B (((n / 36 : Nat) : Int) - 12) (((n % 36 : Nat) : Int) - 12) = 0 then 1 else 0))
theorem cntM_step (A B : Rg) (k j : Nat) (hj : j < 36) : cntM A B (36 * k + j + 1) = ((cntM A B (36 * k + j)).1 + (if reasonZ A ((k : Int) - 12) ((j : Int) - 12) = 0 ∧ reasonZ B ((k : Int) - 12) ((j : Int) - 12) = 0 then 1 else 0),
      (cntM A B (36 * k + j)).2 + (if reasonZ A ((k : Int) - 12) ((j : Int) - 12) = 0 ∨ reasonZ B ((k : Int) - 12) ((j : Int) - 12) = 0 then 1 else 0)) := by
  have e1 : (36 * k + j) / 36 = k := by omega
  have e2 : (36 * k + j) % 36 = j := by omega
  show (_, _) = _
  rw [e1, e2]
theorem cntM_rng (A B : Rg) (n : Nat) : 0 ≤ (cntM A B n).1 ∧ (cntM A B n).1 ≤ n ∧ 0 ≤ (cntM A B n).2 ∧ (cntM A B n).2 ≤ n := by
  induction n with
  | zero => exact ⟨Int.le_refl _, Int.le_refl _, Int.le_refl _, Int.le_refl _⟩
  | succ n ih =>
    obtain ⟨h1, h2, h3, h4⟩ := ih
    unfold cntM
    dsimp only
    push_cast
    refine ⟨?_, ?_, ?_, ?_⟩ <;> split <;> omega
def sharedE (A B : Rg) : Int × Int × Int := if okG A = true ∧ okG B = true then ((cntM A B 1296).1, (cntM A B 1296).2, 0) else (0, 0, 1)
def Out3S (t : Int × Int × Int) (w : World) (e : Ending) (w' : World) : Prop := e = .returned (.tuple #[.int .i64 t.1, .int .i64 t.2.1, .int .i64 t.2.2]) ∧ Below w.heap.size w w'
theorem out3S {t : Int × Int × Int} {w w' : World} {a b c : Int} (h : t = (a, b, c)) (hb : Below w.heap.size w w') : Out3S t w (.returned (.tuple #[.int .i64 a, .int .i64 b, .int .i64 c])) w' := by
  subst h; exact ⟨rfl, hb⟩
set_option maxHeartbeats 8000000 in
theorem spec_shared (va vb : Value) (A B : Rg) (w : World) (ha : RgAt w va A) (hb : RgAt w vb B) (ma : Sm A) (mb : Sm B) :
    Calls Try.prog 41 #[va, vb] w (Out3S (sharedE A B) w) := by
  obtain ⟨A1, a1, B1, b1, C1, c1, rfl, _, _, _⟩ := rg_form ha
  obtain ⟨A2, a2, B2, b2, C2, c2, rfl, _, _, _⟩ := rg_form hb
  have hbl : Below w.heap.size w ((w.alloc (.cells #[.string A.s, .slice A1 A.u.length a1, .slice B1 A.d.length b1, .int .i64 A.x, .int .i64 A.y, .slice C1 A.f.length c1] 28)).alloc (.cells #[.string B.s, .slice A2 B.u.length a2, .slice B2 B.d.length b2, .int .i64 B.x, .int .i64 B.y, .slice C2 B.f.length c2] 28)) := ((Below.refl _ _).alloc (Nat.le_refl _) _).alloc (by simp) _
  have X1 := (BoxN.at w w.heap.size #[.string A.s, .slice A1 A.u.length a1, .slice B1 A.d.length b1, .int .i64 A.x, .int .i64 A.y, .slice C1 A.f.length c1] 28 rfl).alloc (.cells #[.string B.s, .slice A2 B.u.length a2, .slice B2 B.d.length b2, .int .i64 B.x, .int .i64 B.y, .slice C2 B.f.length c2] 28)
  have X2 := BoxN.at (w.alloc (.cells #[.string A.s, .slice A1 A.u.length a1, .slice B1 A.d.length b1, .int .i64 A.x, .int .i64 A.y, .slice C1 A.f.length c1] 28)) (w.heap.size + 1) #[.string B.s, .slice A2 B.u.length a2, .slice B2 B.d.length b2, .int .i64 B.x, .int .i64 B.y, .slice C2 B.f.length c2] 28 (by simp)
  generalize hW : (w.alloc (.cells #[.string A.s, .slice A1 A.u.length a1, .slice B1 A.d.length b1, .int .i64 A.x, .int .i64 A.y, .slice C1 A.f.length c1] 28)).alloc (.cells #[.string B.s, .slice A2 B.u.length a2, .slice B2 B.d.length b2, .int .i64 B.x, .int .i64 B.y, .slice C2 B.f.length c2] 28) = W at hbl X1 X2
  have ka := fun n => spec_ok5 w.heap.size A (W.drewN n) ⟨_, X1, ha.below (below_draws hbl n)⟩ ma
  have kb := fun n => spec_ok5 (w.heap.size + 1) B (W.drewN n) ⟨_, X2, hb.below (below_draws hbl n)⟩ mb
  have RA := Bx.mk (fun (hok : OkG A) n p q h1 h2 => spec_reason w.heap.size A p q (W.drewN n) ⟨_, X1, ha.below (below_draws hbl n)⟩ ma hok h1 h2)
  have RB := Bx.mk (fun (hok : OkG B) n p q h1 h2 => spec_reason (w.heap.size + 1) B p q (W.drewN n) ⟨_, X2, hb.below (below_draws hbl n)⟩ mb hok h1 h2)
  have HB := Bx.mk hbl
  have ka0 := ka 0
  clear ha hb ma mb X1 X2 hbl
  cases e0 : okG A
  · have HE : Bx (sharedE A B = (0, 0, 1)) := Bx.mk (by unfold sharedE; rw [e0]; simp)
    rw [e0] at ka0
    clear e0 RA RB ka kb
    go_enter Try.func41, Try.ntmps41
    go_wp2_with (fail)
    refine ka0.mono ?_
    rintro r w1 ⟨rfl, n, rfl⟩
    go_wp2_with (fail)
    go_returns
    exact out3S HE.out (below_draws HB.out _)
  · rw [e0] at ka0
    cases e1 : okG B
    · have HE : Bx (sharedE A B = (0, 0, 1)) := Bx.mk (by unfold sharedE; rw [e1]; simp)
      rw [e1] at kb
      clear e0 e1 RA RB ka
      go_enter Try.func41, Try.ntmps41
      go_wp2_with (fail)
      refine ka0.mono ?_
      rintro r w1 ⟨rfl, n, rfl⟩
      go_wp2_with (fail)
      refine (kb _).mono ?_
      rintro r w1 ⟨rfl, n2, rfl⟩
      go_wp2_with (fail)
      go_returns
      exact out3S HE.out (below_draws HB.out _)
    · have HE : Bx (sharedE A B = ((cntM A B 1296).1, (cntM A B 1296).2, 0)) := Bx.mk (by unfold sharedE; rw [e0, e1]; simp)
      have ra := Bx.mk (RA.out (ok_yes e0))
      have rb := Bx.mk (RB.out (ok_yes e1))
      rw [e1] at kb
      clear e0 e1 RA RB ka
      go_enter Try.func41, Try.ntmps41
      go_wp2_with (fail)
      refine ka0.mono ?_
      rintro r w1 ⟨rfl, n, rfl⟩
      go_wp2_with (fail)
      refine (kb _).mono ?_
      rintro r w1 ⟨rfl, n2, rfl⟩
      clear kb ka0
      go_wp2_with (fail)
      go_loopw [7, 8, 9] (fun x y i wr => ∃ k : Nat, k ≤ 36 ∧ i = .int .i64 ((k : Int) - 12) ∧ x = .int .i64 (cntM A B (36 * k)).1 ∧ y = .int .i64 (cntM A B (36 * k)).2 ∧ Bx (∃ n, wr = W.drewN n)) (fun _ _ i _ => 36 - (intOf i + 12).toNat)
      case atStart => exact ⟨0, Nat.zero_le _, rfl, rfl, rfl, Bx.mk ⟨_, rfl⟩⟩
      case round =>
        obtain ⟨k, hk, rfl, rfl, rfl, HW⟩ := hrel
        by_cases hlt : k < 36
        · obtain ⟨p, hp⟩ : ∃ p : Int, p = (k : Int) - 12 := ⟨_, rfl⟩
          have p0 : -12 ≤ p := by omega
          have p1 : p ≤ 23 := by omega
          have HP := Bx.mk hp
          have HLK := Bx.mk hlt
          rw [← hp]
          clear hp hlt
          go_wp2_with (fail)
          go_loopw [7, 8, 10] (fun x y i wr => ∃ j : Nat, j ≤ 36 ∧ i = .int .i64 ((j : Int) - 12) ∧ x = .int .i64 (cntM A B (36 * k + j)).1 ∧ y = .int .i64 (cntM A B (36 * k + j)).2 ∧ Bx (∃ n, wr = W.drewN n)) (fun _ _ i _ => 36 - (intOf i + 12).toNat)
          case atStart => exact ⟨0, Nat.zero_le _, rfl, rfl, rfl, HW⟩
          case round =>
            obtain ⟨j, hj, rfl, rfl, rfl, HW⟩ := hrel
            by_cases hlt : j < 36
            · obtain ⟨q, hq⟩ : ∃ q : Int, q = (j : Int) - 12 := ⟨_, rfl⟩
              have q0 : -12 ≤ q := by omega
              have q1 : q ≤ 23 := by omega
              have HQ := Bx.mk hq
              have HLJ := Bx.mk hlt
              obtain ⟨n3, hn3⟩ := HW.out
              have ca := ra.out n3 p q ⟨p0, p1⟩ ⟨q0, q1⟩
              have cb := fun m => rb.out (n3 + m) p q ⟨p0, p1⟩ ⟨q0, q1⟩
              have hS := cntM_step A B k j hlt
              rw [← HP.out, ← hq] at hS
              have HR := cntM_rng A B (36 * k + j)
              obtain ⟨r1, r2, r3, r4⟩ := HR
              have r2 : (cntM A B (36 * k + j)).1 ≤ 2000 := by omega
              have r4 : (cntM A B (36 * k + j)).2 ≤ 2000 := by omega
              have HS := Bx.mk hS
              rw [← hn3] at ca
              rw [← hq]
              clear hq hlt hS
              have HW3 := Bx.mk hn3
              clear hn3
              generalize cntM A B (36 * k + j) = cc at *
              obtain ⟨x, y⟩ := cc
              dsimp only at r1 r2 r3 r4 HS ⊢
              generalize reasonZ A p q = za at *
              generalize reasonZ B p q = zb at *
              by_cases ha0 : za = 0
              · subst ha0
                by_cases hb0 : zb = 0
                · subst hb0
                  have HS2 : Bx (cntM A B (36 * k + j + 1) = (x + 1, y + 1)) := Bx.mk (by rw [HS.out, if_pos ⟨rfl, rfl⟩, if_pos (.inl rfl)])
                  clear HS
                  go_wp2_with (fail)
                  refine ca.mono ?_
                  rintro r w5 ⟨rfl, n4, rfl⟩
                  go_wp2_with (fail)
                  have cb4 := cb n4
                  rw [← World.drewN_drewN, ← HW3.out] at cb4
                  refine cb4.mono ?_
                  rintro r w6 ⟨rfl, n5, rfl⟩
                  clear cb cb4 ca
                  go_wp2_with (fail)
                  go_roundw
                  case rel => exact ⟨j + 1, HLJ.out, congrArg (Value.int .i64) (by have := HQ.out; push_cast; omega), (congrArg (fun t => Value.int .i64 t.1) HS2.out).symm, (congrArg (fun t => Value.int .i64 t.2) HS2.out).symm, Bx.mk (by rw [HW3.out]; simp only [World.drewN_drewN]; exact ⟨_, rfl⟩)⟩
                  case measure => have := HQ.out; have := HLJ.out; simp [intOf]; omega
                · have _v := hb0
                  have HS2 : Bx (cntM A B (36 * k + j + 1) = (x, y + 1)) := Bx.mk (by rw [HS.out, if_neg (fun h => hb0 h.2), if_pos (.inl rfl)]; simp)
                  have eb : (zb == 0) = false := by simpa using hb0
                  clear HS
                  go_wp2_with (fail)
                  refine ca.mono ?_
                  rintro r w5 ⟨rfl, n4, rfl⟩
                  go_wp2_with (fail)
                  have cb4 := cb n4
                  rw [← World.drewN_drewN, ← HW3.out] at cb4
                  refine cb4.mono ?_
                  rintro r w6 ⟨rfl, n5, rfl⟩
                  clear cb cb4 ca
                  go_wp2_with (fail)
                  go_roundw
                  case rel => exact ⟨j + 1, HLJ.out, congrArg (Value.int .i64) (by have := HQ.out; push_cast; omega), (congrArg (fun t => Value.int .i64 t.1) HS2.out).symm, (congrArg (fun t => Value.int .i64 t.2) HS2.out).symm, Bx.mk (by rw [HW3.out]; simp only [World.drewN_drewN]; exact ⟨_, rfl⟩)⟩
                  case measure => have := HQ.out; have := HLJ.out; simp [intOf]; omega
              · by_cases hb0 : zb = 0
                · subst hb0
                  have HS2 : Bx (cntM A B (36 * k + j + 1) = (x, y + 1)) := Bx.mk (by rw [HS.out, if_neg (fun h => ha0 h.1), if_pos (.inr rfl)]; simp)
                  have ea : (za == 0) = false := by simpa using ha0
                  clear HS
                  go_wp2_with (fail)
                  refine ca.mono ?_
                  rintro r w5 ⟨rfl, n4, rfl⟩
                  go_wp2_with (fail)
                  have cb4 := cb n4
                  rw [← World.drewN_drewN, ← HW3.out] at cb4
                  refine cb4.mono ?_
                  rintro r w6 ⟨rfl, n5, rfl⟩
                  clear cb cb4 ca
                  go_wp2_with (fail)
                  go_roundw
                  case rel => exact ⟨j + 1, HLJ.out, congrArg (Value.int .i64) (by have := HQ.out; push_cast; omega), (congrArg (fun t => Value.int .i64 t.1) HS2.out).symm, (congrArg (fun t => Value.int .i64 t.2) HS2.out).symm, Bx.mk (by rw [HW3.out]; simp only [World.drewN_drewN]; exact ⟨_, rfl⟩)⟩
                  case measure => have := HQ.out; have := HLJ.out; simp [intOf]; omega
                · have _v := hb0
                  have HS2 : Bx (cntM A B (36 * k + j + 1) = (x, y)) := Bx.mk (by rw [HS.out, if_neg (fun h => ha0 h.1), if_neg (fun h => h.elim ha0 hb0)]; simp)
                  have ea : (za == 0) = false := by simpa using ha0
                  have eb : (zb == 0) = false := by simpa using hb0
                  clear HS
                  go_wp2_with (fail)
                  refine ca.mono ?_
                  rintro r w5 ⟨rfl, n4, rfl⟩
                  go_wp2_with (fail)
                  have cb4 := cb n4
                  rw [← World.drewN_drewN, ← HW3.out] at cb4
                  refine cb4.mono ?_
                  rintro r w6 ⟨rfl, n5, rfl⟩
                  clear cb cb4 ca
                  go_wp2_with (fail)
                  go_roundw
                  case rel => exact ⟨j + 1, HLJ.out, congrArg (Value.int .i64) (by have := HQ.out; push_cast; omega), (congrArg (fun t => Value.int .i64 t.1) HS2.out).symm, (congrArg (fun t => Value.int .i64 t.2) HS2.out).symm, Bx.mk (by rw [HW3.out]; simp only [World.drewN_drewN]; exact ⟨_, rfl⟩)⟩
                  case measure => have := HQ.out; have := HLJ.out; simp [intOf]; omega
            · obtain rfl : j = 36 := by omega
              go_wp2_with (fail)
              go_roundw
              case rel => exact ⟨k + 1, HLK.out, congrArg (Value.int .i64) (by have := HP.out; push_cast; omega), rfl, rfl, HW⟩
              case measure => have := HP.out; have := HLK.out; simp [intOf]; omega
        · obtain rfl : k = 36 := by omega
          have HBW : Bx (Below w.heap.size w wr) := Bx.mk (by obtain ⟨n, rfl⟩ := HW.out; exact below_draws HB.out n)
          go_wp2_with (fail)
          go_returns
          exact out3S HE.out HBW.out
end Go.Proofs.Ytjjiibmbaggjoaa
