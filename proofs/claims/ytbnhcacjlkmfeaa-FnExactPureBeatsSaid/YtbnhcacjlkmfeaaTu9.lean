/- The model's frequency of a pitch. -/
import Derived.Test.YtbnhcacjlkmfeaaTu8
import Derived.Deep.RegionWith
namespace Go.Proofs.Ytbnhcacjlkmfeaa
open Go.ChangeShapes Go.WideShapes Go.ChangeAt Go.RowKit
set_option linter.unusedVariables false
set_option linter.unusedSimpArgs false
set_option maxRecDepth 100000

set_option maxHeartbeats 2000000 in
theorem spec_tfreq (g : Nat) (s : ByteArray) (v : Value) (l : List (Int × Int)) (base p : Int) (w : World) (h0 : w.cell? ⟨g, 0, none⟩ = some (.string s)) (h1 : w.cell? ⟨g, 1, none⟩ = some v) (h : PrsAt w v l) (ht : tunB s.data.toList l = true) (hb : 10000 ≤ base ∧ base ≤ 2000000) (hp : -12 ≤ p ∧ p ≤ 23) :
    Calls Try.prog 44 #[.pointer (some ⟨g, 0, none⟩), .int .i64 base, .int .i64 p] w fun e w' => e = .returned (.int .i64 (freqT l base p)) ∧ Below w.heap.size w w' := by
  obtain ⟨_, hl, hok, _⟩ := tun_yes ht
  obtain ⟨b, o, c, rfl, hbl, hc⟩ := prs_slice h (by omega)
  rw [hl] at h1 hc
  have hto := fun W => spec_tone p W
  have hfl := fun W => spec_floor p W hp
  have HE : Bx (freqT l base p = dv (base * (pat l (p % 12).toNat).1 * (if 12 ≤ p then 2 else 1)) ((pat l (p % 12).toNat).2 * (if p < 0 then 2 else 1))) := Bx.mk rfl
  obtain ⟨j, hj⟩ : ∃ j : Nat, p % 12 = (j : Int) := ⟨(p % 12).toNat, by omega⟩
  have hj2 : j < 12 := by omega
  rw [hj] at HE hto
  rw [Int.toNat_natCast] at HE
  have hf : (p / 12 = -1 ∧ p < 0) ∨ (p / 12 = 0 ∧ 0 ≤ p ∧ p < 12) ∨ (p / 12 = 1 ∧ 12 ≤ p) := by omega
  have c0 := (hc j hj2).1
  have c1 := (hc j hj2).2
  obtain ⟨⟨n1, n2⟩, ⟨d1, d2⟩, _⟩ := okR_yes (okTi_yes (hok j hj2)).1
  generalize (pat l j).1 = n at *
  generalize (pat l j).2 = d at *
  have hbn1 : 1 ≤ base * n := by have := Int.mul_pos (show 0 < base by omega) (show 0 < n by omega); omega
  have hbn2 : base * n ≤ 2000000000000 := by have := Int.mul_le_mul hb.2 n2 (by omega) (by omega); omega
  have E1 : IntKind.i64.wrap (base * n) = base * n := IntWalk.i64_in _ (by omega)
  have j1 : (0 : Int) ≤ (j : Int) := by omega
  have j2 : (j : Int) < 12 := by omega
  have HS0 : Bx (w.cell? ⟨b, o + j * 2, none⟩ = some (.int .i64 n) ∧ w.cell? ⟨b, o + j * 2 + 1, none⟩ = some (.int .i64 d) ∧ w.cell? ⟨g, 0, none⟩ = some (.string s) ∧ w.cell? ⟨g, 1, none⟩ = some (.slice (some ⟨b, o, none⟩) 12 c) ∧ b < w.heap.size ∧ g < w.heap.size ∧ Below w.heap.size w w) := Bx.mk ⟨c0, c1, h0, h1, hbl, cell_lt h0, Below.refl _ _⟩
  rw [HE.out]
  have hgl : g < w.heap.size := cell_lt h0
  have hnb : (w.heap.size == b) = false := by simp; omega
  have hng : (w.heap.size == g) = false := by simp; omega
  clear ht hok h hc hl hj hp
  rcases hf with ⟨hf, hp⟩ | ⟨hf, hp, hp2⟩ | ⟨hf, hp⟩
  · rw [if_neg (show ¬ 12 ≤ p by omega), if_pos hp, Int.mul_one]
    rw [hf] at hfl
    have hdv := fun W => l01div (base * n) (d * 2) W (by omega) (by omega) (by omega) (by omega) (by omega)
    have E2 : IntKind.i64.wrap (d * 2) = d * 2 := IntWalk.i64_in _ (by omega)
    go_enter Try.func44, Try.ntmps44
    go_wp2_with (fail)
    go_region_with ((go_at_call 59; (with_reducible refine (hto _).mono ?_); rintro r w6 ⟨rfl, rfl⟩))
    all_goals
      clear h0 h1 hto c0 c1 hgl hnb hng HS0 HE hbl
      go_wp2_with (fail)
      refine (hfl _).mono ?_
      rintro r w6 ⟨rfl, rfl⟩
      go_wp2_with (fail)
      refine wp_loop_rounds 1 ?_
      rw [rounds_succ]
      go_wp2_with (fail)
      refine (hfl _).mono ?_
      rintro r w6 ⟨rfl, rfl⟩
      go_wp2_with (fail)
      refine wp_loop_rounds 2 ?_
      rw [rounds_succ]
      go_wp2_with (fail)
      rw [rounds_succ]
      go_wp2_with (fail)
      refine (hdv _).mono ?_
      rintro r w6 ⟨rfl, rfl⟩
      go_wp2_with (fail)
      go_ret
      exact ⟨rfl, ((Below.refl _ _).alloc (Nat.le_refl _) _).drew⟩
  · rw [if_neg (show ¬ 12 ≤ p by omega), if_neg (show ¬ p < 0 by omega), Int.mul_one, Int.mul_one]
    rw [hf] at hfl
    have hdv := fun W => l01div (base * n) d W (by omega) (by omega) (by omega) (by omega) (by omega)
    go_enter Try.func44, Try.ntmps44
    go_wp2_with (fail)
    go_region_with ((go_at_call 59; (with_reducible refine (hto _).mono ?_); rintro r w6 ⟨rfl, rfl⟩))
    all_goals
      clear h0 h1 hto c0 c1 hgl hnb hng HS0 HE hbl
      go_wp2_with (fail)
      refine (hfl _).mono ?_
      rintro r w6 ⟨rfl, rfl⟩
      go_wp2_with (fail)
      refine wp_loop_rounds 1 ?_
      rw [rounds_succ]
      go_wp2_with (fail)
      refine (hfl _).mono ?_
      rintro r w6 ⟨rfl, rfl⟩
      go_wp2_with (fail)
      refine wp_loop_rounds 1 ?_
      rw [rounds_succ]
      go_wp2_with (fail)
      refine (hdv _).mono ?_
      rintro r w6 ⟨rfl, rfl⟩
      go_wp2_with (fail)
      go_ret
      exact ⟨rfl, ((Below.refl _ _).alloc (Nat.le_refl _) _).drew⟩
  · rw [if_pos hp, if_neg (show ¬ p < 0 by omega), Int.mul_one]
    rw [hf] at hfl
    have hdv := fun W => l01div (base * n * 2) d W (by omega) (by omega) (by omega) (by omega) (by omega)
    have E2 : IntKind.i64.wrap (base * n * 2) = base * n * 2 := IntWalk.i64_in _ (by omega)
    go_enter Try.func44, Try.ntmps44
    go_wp2_with (fail)
    go_region_with ((go_at_call 59; (with_reducible refine (hto _).mono ?_); rintro r w6 ⟨rfl, rfl⟩))
    all_goals
      clear h0 h1 hto c0 c1 hgl hnb hng HS0 HE hbl
      go_wp2_with (fail)
      refine (hfl _).mono ?_
      rintro r w6 ⟨rfl, rfl⟩
      go_wp2_with (fail)
      refine wp_loop_rounds 2 ?_
      rw [rounds_succ]
      go_wp2_with (fail)
      rw [rounds_succ]
      go_wp2_with (fail)
      refine (hfl _).mono ?_
      rintro r w6 ⟨rfl, rfl⟩
      go_wp2_with (fail)
      refine wp_loop_rounds 1 ?_
      rw [rounds_succ]
      go_wp2_with (fail)
      refine (hdv _).mono ?_
      rintro r w6 ⟨rfl, rfl⟩
      go_wp2_with (fail)
      go_ret
      exact ⟨rfl, ((Below.refl _ _).alloc (Nat.le_refl _) _).drew⟩
end Go.Proofs.Ytbnhcacjlkmfeaa
