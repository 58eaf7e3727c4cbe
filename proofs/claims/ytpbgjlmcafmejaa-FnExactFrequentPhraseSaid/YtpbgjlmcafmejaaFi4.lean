/- FrequentPhrase, both sides, at every list. -/
import Derived.Test.YtpbgjlmcafmejaaFi3
import Derived.Test.YtpbgjlmcafmejaaPl
namespace Go.Proofs.Ytpbgjlmcafmejaa
open Go.ChangeShapes Go.WideShapes Go.ChangeAt Go.RowKit
set_option linter.unusedVariables false
set_option linter.unusedSimpArgs false
set_option maxRecDepth 100000

theorem spec_freq0 (A : Option Addr) (c : Nat) (n : Int) (w : World) : Calls Try.prog 50 #[.slice A 0 c, .int .i64 n] w (FqO (freqE [] n) w) := by
  have hp : pitB [] = true := by decide
  have q1 := spec_pits (.slice A 0 c) [] w (.inl ⟨rfl, A, c, rfl⟩) (by simp)
  rw [hp] at q1
  have hin := fun W => in_any n 2 8 W
  cases hi : inB n 2 8
  · have HE := Bx.mk (fr_2 hp hi)
    generalize freqE [] n = u at HE ⊢
    rw [hi] at hin
    clear hp hi
    go_enter Try.func50, Try.ntmps50
    go_wp2_with (fail)
    refine q1.mono ?_
    rintro r w1 ⟨rfl, rfl⟩
    go_wp2_with (fail)
    refine (hin _).mono ?_
    rintro r w1 ⟨rfl, rfl⟩
    go_wp2_with (fail)
    go_returns
    exact fq_no HE.out (Below.refl _ _)
  · obtain ⟨m2, m8⟩ := inB_yes hi
    obtain ⟨m, rfl⟩ : ∃ m : Nat, n = m := ⟨n.toNat, by omega⟩
    have HE := Bx.mk (fr_3 (t := []) (m := m) (k := 0) hp hi (by simp; omega) rfl)
    generalize freqE [] (m : Int) = u at HE ⊢
    rw [hi] at hin
    have d1 : decide ((m : Int) ≤ 0) = false := decide_eq_false (by omega)
    clear hp hi
    go_enter Try.func50, Try.ntmps50
    go_wp2_with (fail)
    refine q1.mono ?_
    rintro r w1 ⟨rfl, rfl⟩
    go_wp2_with (fail)
    refine (hin _).mono ?_
    rintro r w1 ⟨rfl, rfl⟩
    go_wp2_with (fail)
    refine wp_loop_rounds 1 ?_
    rw [rounds_succ]
    go_wp2_with (fail)
    go_returns
    exact fq_no HE.out ((Below.refl _ _).alloc (Nat.le_refl _) _)
theorem impl_freq0 (A : Option Addr) (c : Nat) (n : Int) (w : World) : Calls Try.prog 51 #[.slice A 0 c, .int .i64 n] w (FqO (freqE [] n) w) := by
  have hp : pitB [] = true := by decide
  have q1 := impl_pits (.slice A 0 c) [] w (.inl ⟨rfl, A, c, rfl⟩) (by simp)
  rw [hp] at q1
  have hin : ∀ W, Calls Try.prog 105 #[.int .i64 n] W fun e w' => e = .returned (.bool (inB n 2 8)) ∧ W = w' := fun W => by rw [show inB n 2 8 = turnB n from by simp [inB, turnB]]; exact impl_isturn n W
  cases hi : inB n 2 8
  · have HE := Bx.mk (fr_2 hp hi)
    generalize freqE [] n = u at HE ⊢
    rw [hi] at hin
    clear hp hi
    go_enter Try.func51, Try.ntmps51
    go_wp2_with (fail)
    refine q1.mono ?_
    rintro r w1 ⟨rfl, rfl⟩
    go_wp2_with (fail)
    refine (hin _).mono ?_
    rintro r w1 ⟨rfl, rfl⟩
    go_wp2_with (fail)
    go_returns
    exact fq_no HE.out (Below.refl _ _)
  · obtain ⟨m2, m8⟩ := inB_yes hi
    obtain ⟨m, rfl⟩ : ∃ m : Nat, n = m := ⟨n.toNat, by omega⟩
    have HE := Bx.mk (fr_3 (t := []) (m := m) (k := 0) hp hi (by simp; omega) rfl)
    generalize freqE [] (m : Int) = u at HE ⊢
    rw [hi] at hin
    have d1 : decide ((0 : Int) < (m : Int)) = true := decide_eq_true (by omega)
    clear hp hi
    go_enter Try.func51, Try.ntmps51
    go_wp2_with (fail)
    refine q1.mono ?_
    rintro r w1 ⟨rfl, rfl⟩
    go_wp2_with (fail)
    refine (hin _).mono ?_
    rintro r w1 ⟨rfl, rfl⟩
    go_wp2_with (fail)
    go_returns
    exact fq_no HE.out (Below.refl _ _)
theorem spec_freqI (v : Value) (t : List Int) (n : Int) (base : Nat) (w : World) (h : w.ownsRow base 2 1 v t.length (ints t)) (h1 : t.length ≤ 1048576) : Calls Try.prog 50 #[v, .int .i64 n] w (FqO (freqE t n) w) := by
  obtain ⟨A, c, rfl, hc⟩ := own_capN h
  rcases IntsAt.own h with ⟨rfl, A', c', e⟩ | ⟨b, off, c', e, hb, hcell⟩
  · exact spec_freq0 A c n w
  · injection e with e1 _ e3
    subst e1 e3
    exact spec_frequent b off c t n w hcell hb hc h1
theorem impl_freqI (v : Value) (t : List Int) (n : Int) (base : Nat) (w : World) (h : w.ownsRow base 2 1 v t.length (ints t)) (h1 : t.length ≤ 1048576) : Calls Try.prog 51 #[v, .int .i64 n] w (FqO (freqE t n) w) := by
  obtain ⟨A, c, rfl, hc⟩ := own_capN h
  rcases IntsAt.own h with ⟨rfl, A', c', e⟩ | ⟨b, off, c', e, hb, hcell⟩
  · exact impl_freq0 A c n w
  · injection e with e1 _ e3
    subst e1 e3
    exact impl_frequent b off c t n w hcell hb hc h1
theorem freq_len (t : List Int) (n : Int) : (freqE t n).1.length ≤ 64 := by
  unfold freqE
  split
  · split
    · rename_i h h2
      try dsimp only
      split
      · simp
      · rename_i h3
        try dsimp only
        have hb := inB_yes h2
        by_cases hl : n.toNat ≤ t.length
        · have h4 := fqF_best t n.toNat (by omega) (t.length - n.toNat) (by omega)
          rw [show t.length - n.toNat + 1 = t.length + 1 - n.toNat by omega] at h4
          obtain ⟨⟨i, hi, e1, _⟩, _⟩ := h4
          rw [e1, prt_len (by omega)]
          omega
        · exfalso
          apply h3
          rw [show t.length + 1 - n.toNat = 0 by omega]
          rfl
    · simp
  · simp
end Go.Proofs.Ytpbgjlmcafmejaa
