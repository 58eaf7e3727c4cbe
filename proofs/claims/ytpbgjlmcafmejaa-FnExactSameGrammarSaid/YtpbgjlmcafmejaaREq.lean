/- slices.Equal at int64, alone. -/
import Derived.Test.YtpbgjlmcafmejaaRImT
namespace Go.Proofs.Ytpbgjlmcafmejaa
open Go.ChangeShapes Go.WideShapes Go.ChangeAt Go.RowKit
set_option linter.unusedVariables false
set_option linter.unusedSimpArgs false
set_option maxRecDepth 100000

set_option maxHeartbeats 1000000 in
theorem impl_same (va vb : Value) (xs ys : List Int) (w : World) (ha : IntsAt w va xs) (hb : IntsAt w vb ys) (hx : xs.length ≤ 281474976710656) (hy : ys.length ≤ 281474976710656) :
    Calls Try.prog 65 #[va, vb] w fun e w' => e = .returned (.bool (decide (xs = ys))) ∧ ∃ n, w' = w.drewN n := by
  by_cases hl : xs.length = ys.length
  · rcases ha with ⟨rfl, A, c, rfl⟩ | ⟨b1, o1, c1, rfl, _, h1⟩
    · have hy0 : ys = [] := List.eq_nil_of_length_eq_zero hl.symm
      subst hy0
      obtain ⟨B, c', rfl⟩ : ∃ B c', vb = .slice B 0 c' := by
        rcases hb with ⟨_, B, c', h⟩ | ⟨b, o, c', h, _⟩
        · exact ⟨B, c', h⟩
        · exact ⟨_, c', h⟩
      clear hb hl hx hy
      go_enter Try.func65, Try.ntmps65
      go_wp2
      refine wp_loop_rounds 1 ?_
      rw [rounds_succ]
      go_wp2
      go_ret
      exact ⟨ret_bool (by simp), 0, rfl⟩
    · rcases hb with ⟨rfl, B, c', rfl⟩ | ⟨b2, o2, c2, rfl, _, h2⟩
      · have hx0 : xs = [] := List.eq_nil_of_length_eq_zero hl
        subst hx0
        clear hl hx hy h1
        go_enter Try.func65, Try.ntmps65
        go_wp2
        refine wp_loop_rounds 1 ?_
        rw [rounds_succ]
        go_wp2
        go_ret
        exact ⟨ret_bool (by simp), 0, rfl⟩
      · have H1 := Bx.mk h1
        have H2 := Bx.mk h2
        have HL := Bx.mk hl
        have hle : ((xs.length : Int) != (ys.length : Int)) = false := by simp; omega
        clear h1 h2 hl
        go_enter Try.func65, Try.ntmps65
        go_wp2
        go_loopw [13] (fun i wr => ∃ k n : Nat, k ≤ xs.length ∧ i = .int .i64 k ∧ Bx (xs.take k = ys.take k) ∧ wr = w.drewN n) (fun i _ => xs.length - (intOf i).toNat)
        case atStart => exact ⟨0, 0, Nat.zero_le _, rfl, Bx.mk rfl, rfl⟩
        case round =>
          obtain ⟨k, n, hk, rfl, HK, rfl⟩ := hrel
          by_cases hlt : k < xs.length
          · have hlt2 : k < ys.length := by have := HL.out; omega
            have c1 := H1.out k hlt
            have c2 := H2.out k hlt2
            have HS := Bx.mk (take_eq_succ xs ys k hlt hlt2 HK.out)
            have HT := Bx.mk (take_ne xs ys k hlt hlt2)
            generalize xs.getD k 0 = p at c1 HS HT
            generalize ys.getD k 0 = q at c2 HS HT
            by_cases hpq : p = q
            · subst hpq
              have HS2 := Bx.mk (HS.out rfl)
              clear HS HT
              go_wp2
              go_quiet (fail)
              go_wp2
              go_roundw
              case rel => exact ⟨k + 1, _, by omega, by go_num, HS2, rfl⟩
              case measure => simp [intOf]; omega
            · have hne : (p != q) = true := by simpa using hpq
              have HT2 := Bx.mk (HT.out hpq)
              clear HS HT hpq
              go_wp2
              go_quiet (fail)
              go_wp2
              go_ret
              exact ⟨ret_bool (by simpa using HT2.out), n + nq, by rw [World.drewN_drewN]⟩
          · have HE : Bx (xs = ys) := Bx.mk (by have := HK.out; rwa [List.take_of_length_le (by omega), List.take_of_length_le (by have := HL.out; omega)] at this)
            go_wp2
            go_ret
            exact ⟨ret_bool (by simpa using HE.out), _, rfl⟩
  · have hle : ((xs.length : Int) != (ys.length : Int)) = true := by simp; omega
    have HN : Bx (xs ≠ ys) := Bx.mk (by rintro rfl; exact hl rfl)
    obtain ⟨A, c, rfl⟩ : ∃ A c, va = .slice A xs.length c := by
      rcases ha with ⟨rfl, A, c, h⟩ | ⟨b, o, c, h, _⟩
      · exact ⟨A, c, h⟩
      · exact ⟨_, c, h⟩
    obtain ⟨B, c', rfl⟩ : ∃ B c, vb = .slice B ys.length c := by
      rcases hb with ⟨rfl, A, c, h⟩ | ⟨b, o, c, h, _⟩
      · exact ⟨A, c, h⟩
      · exact ⟨_, c, h⟩
    clear ha hb hl
    go_enter Try.func65, Try.ntmps65
    go_wp2
    go_ret
    exact ⟨ret_bool (by simpa using HN.out), 0, rfl⟩
end Go.Proofs.Ytpbgjlmcafmejaa
