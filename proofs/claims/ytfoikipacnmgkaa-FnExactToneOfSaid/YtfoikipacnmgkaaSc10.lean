/- Scales: the scale of a number, by the model. -/
import Derived.Test.YtfoikipacnmgkaaSc9
namespace Go.Proofs.Ytfoikipacnmgkaa
open Go.ChangeShapes Go.WideShapes Go.ChangeAt Go.RowKit
set_option linter.unusedVariables false
set_option linter.unusedSimpArgs false
set_option maxRecDepth 100000

theorem pascal0 : ∀ m ∈ List.range 12, ∀ k ∈ List.range 12, chooseZ ((m : Int) + 1) ((k : Int) + 1) = chooseZ m k + chooseZ m ((k : Int) + 1) := by decide +kernel
theorem pascal (m k : Int) (hm : 0 ≤ m ∧ m ≤ 11) (hk : 0 ≤ k ∧ k ≤ 11) : chooseZ (m + 1) (k + 1) = chooseZ m k + chooseZ m (k + 1) := by
  obtain ⟨m, rfl⟩ := Int.eq_ofNat_of_zero_le hm.1
  obtain ⟨k, rfl⟩ := Int.eq_ofNat_of_zero_le hk.1
  exact pascal0 m (by simp; omega) k (by simp; omega)
theorem choose_zero (k : Int) (hk : 0 < k) : chooseZ 0 k = 0 := by
  unfold chooseZ; rw [if_neg (by omega)]
/-- the tones of a number, from some on -/
def numG (n : Int) : Nat → List Int → Int → Int → List Int
  | 0, out, _, _ => out
  | f + 1, out, num, t => if (out.length : Int) < n then (if num < chooseZ (11 - t) (n - 1 - out.length) then numG n f (out ++ [t]) num (t + 1) else numG n f out (num - chooseZ (11 - t) (n - 1 - out.length)) (t + 1)) else out
theorem numG_end {n : Int} {f : Nat} {out : List Int} {num t : Int} (h : ¬ (out.length : Int) < n) : numG n f out num t = out := by
  cases f with
  | zero => rfl
  | succ f => unfold numG; rw [if_neg h]
def numC (n number : Int) : List Int × Int := if inB n 5 12 = true ∧ inB number 0 (chooseZ 11 (n - 1) - 1) = true then (numG n 12 [0] number 1, 0) else ([], 2)
set_option maxHeartbeats 2000000 in
theorem spec_numbered (n number : Int) (w : World) :
    Calls Try.prog 59 #[.int .i64 n, .int .i64 number] w (LCOut (numC n number) w) := by
  have hsz := fun W => spec_size n W
  cases h1 : inB n 5 12
  · have HE : Bx (numC n number = ([], 2)) := Bx.mk (by simp [numC, h1])
    rw [h1] at hsz
    clear h1
    go_enter Try.func59, Try.ntmps59
    go_wp2_with (fail)
    refine (hsz _).mono ?_
    rintro e w' ⟨rfl, rfl⟩
    go_wp2_with (fail)
    go_ret2
    exact lc_nil HE.out (Below.refl _ _)
  · obtain ⟨n1, n2⟩ := inB_yes h1
    have hch0 := fun W => spec_choose 11 (n - 1) W (by omega) (by omega)
    have hb0 := choose_bd 11 (n - 1) (by omega)
    obtain ⟨b1, b2⟩ := hb0
    have hin := fun W => in_any number 0 (chooseZ 11 (n - 1) - 1) W
    have E1 : IntKind.i64.wrap (n - 1) = n - 1 := IntWalk.i64_in _ (by omega)
    have E2 : IntKind.i64.wrap (chooseZ 11 (n - 1) - 1) = chooseZ 11 (n - 1) - 1 := IntWalk.i64_in _ (by omega)
    cases h2 : inB number 0 (chooseZ 11 (n - 1) - 1)
    · have HE : Bx (numC n number = ([], 2)) := Bx.mk (by simp [numC, h2])
      rw [h1] at hsz
      rw [h2] at hin
      clear h1 h2
      generalize chooseZ 11 (n - 1) = z at *
      go_enter Try.func59, Try.ntmps59
      go_wp2_with (fail)
      refine (hsz _).mono ?_
      rintro e w' ⟨rfl, rfl⟩
      go_wp2_with (fail)
      refine (hch0 _).mono ?_
      rintro e w' ⟨rfl, rfl⟩
      go_wp2_with (fail)
      refine (hin _).mono ?_
      rintro e w' ⟨rfl, rfl⟩
      go_wp2_with (fail)
      go_ret2
      exact lc_nil HE.out (Below.refl _ _)
    · obtain ⟨m1, m2⟩ := inB_yes h2
      have HE : Bx (numC n number = (numG n 12 [0] number 1, 0)) := Bx.mk (by simp [numC, h1, h2])
      have HP : Bx (number < chooseZ (12 - 1) (n - 1)) := Bx.mk (by show number < chooseZ 11 (n - 1); omega)
      obtain ⟨i0, hi, hz0, hz1, hz2⟩ := info_parts infoI64
      rw [h1] at hsz
      rw [h2] at hin
      have m3 : number ≤ 1000 := by omega
      clear h1 h2 m2
      generalize chooseZ 11 (n - 1) = z at *
      go_enter Try.func59, Try.ntmps59
      go_wp2_with (fail)
      refine (hsz _).mono ?_
      rintro e w' ⟨rfl, rfl⟩
      go_wp2_with (fail)
      refine (hch0 _).mono ?_
      rintro e w' ⟨rfl, rfl⟩
      go_wp2_with (fail)
      refine (hin _).mono ?_
      rintro e w' ⟨rfl, rfl⟩
      go_wp2_with (fail)
      go_loopw [1, 6, 7] (fun num v t wr => ∃ (out : List Int) (x k : Int) (f : Nat), num = .int .i64 x ∧ t = .int .i64 k ∧ wr.ownsRow w.heap.size 2 1 v out.length (ints out) ∧ Below w.heap.size w wr ∧
        (0 ≤ x ∧ x ≤ 1000) ∧ (1 ≤ k ∧ k ≤ 12) ∧ (out.length : Int) ≤ n ∧ (f : Int) = 13 - k ∧ Bx (x < chooseZ (12 - k) (n - out.length)) ∧ Bx (numG n 12 [0] number 1 = numG n f out x k)) (fun _ _ t _ => (20 - intOf t).toNat)
      case atStart => exact ⟨[0], number, 1, 12, rfl, rfl, World.ownsRow_lit _ _ _ (Nat.le_refl _) (by decide) (by decide), (Below.refl _ _).alloc (Nat.le_refl _) _, by omega, by omega, by simp; omega, by omega, HP, Bx.mk rfl⟩
      case round =>
        obtain ⟨out, x, k, f, rfl, rfl, hown, hbw, ⟨x1, x2⟩, ⟨k1, k2⟩, ho, hf, HX, HG⟩ := hrel
        obtain ⟨A, cp, rfl⟩ := (IntsAt.own hown).len
        have l0 : (0 : Int) ≤ (out.length : Int) := Int.natCast_nonneg _
        by_cases hlt : (out.length : Int) < n
        · have hk11 : k ≤ 11 := by
            apply Classical.byContradiction
            intro hc
            obtain rfl : k = 12 := by omega
            have := HX.out
            rw [show (12 : Int) - 12 = 0 by decide, choose_zero _ (by omega)] at this
            omega
          obtain ⟨f, rfl⟩ : ∃ g, f = g + 1 := ⟨f - 1, by omega⟩
          have hch := fun W => spec_choose (11 - k) (n - 1 - out.length) W (by omega) (by omega)
          have hpas := pascal (11 - k) (n - 1 - out.length) (by omega) (by omega)
          rw [show (11 : Int) - k + 1 = 12 - k by omega, show n - 1 - (out.length : Int) + 1 = n - out.length by omega] at hpas
          have HGs := HG.out
          rw [show numG n (f + 1) out x k = _ from by rw [numG, if_pos hlt]] at HGs
          obtain ⟨d1, d2⟩ := choose_bd (11 - k) (n - 1 - out.length) (by omega)
          have HX0 := HX.out
          have E3 : IntKind.i64.wrap (11 - k) = 11 - k := IntWalk.i64_in _ (by omega)
          have E4 : IntKind.i64.wrap (n - 1 - (out.length : Int)) = n - 1 - (out.length : Int) := IntWalk.i64_in _ (by omega)
          have E6 : IntKind.i64.wrap (k + 1) = k + 1 := IntWalk.i64_in _ (by omega)
          have L1 : (out.length : Int) ≤ 11 := by omega
          generalize hc : chooseZ (11 - k) (n - 1 - out.length) = c at *
          by_cases hx : x < c
          · rw [if_pos hx] at HGs
            have HGn := Bx.mk HGs
            have HXn : Bx (x < chooseZ (12 - (k + 1)) (n - ((out ++ [k]).length : Nat))) := Bx.mk (by
              rw [show (12 : Int) - (k + 1) = 11 - k by omega, show n - (((out ++ [k]).length : Nat) : Int) = n - 1 - out.length by simp; omega, hc]; exact hx)
            clear HGs hpas HX0 HX HG hc
            go_wp2_with (fail)
            refine (hch _).mono ?_
            rintro e w' ⟨rfl, rfl⟩
            go_wp2_with ((at_builtin; refine wpList_append_own _ rfl _ _ 24 rfl w.heap.size 2 i0 (.int .i64 0) 1 8 Try.underlying24 hi hz0 hz1 hz2 rfl (by decide) _ _ _ rfl (hown.alloc _) ⟨wr.heap.size, 0, none⟩ 1 1 [.int .i64 k] rfl rfl (cell_one_new _ _ _) (fun x hx => by simp at hx; subst hx; rfl) (by unfold maxLen; omega) (by omega) (by have := hbw.size; simp; omega) ?_; intro v' w3 hown' hgrow3 hnil3))
            have hown2 : w3.ownsRow w.heap.size 2 1 v' (out ++ [k]).length (ints (out ++ [k])) := by
              rw [ints_snoc', List.length_append]; exact hown'
            have hb2 : Below w.heap.size w w3 := below_app' hbw hown (Nat.le_refl _) hgrow3
            clear hown' hgrow3 hnil3 hown
            go_roundw
            case rel => exact ⟨out ++ [k], x, k + 1, f, by go_num, by go_num, hown2, hb2, ⟨x1, x2⟩, by omega, by simp; omega, by omega, HXn, HGn⟩
            case measure => simp [intOf]; omega
          · rw [if_neg hx] at HGs
            have HGn := Bx.mk HGs
            have HXn : Bx (x - c < chooseZ (12 - (k + 1)) (n - out.length)) := Bx.mk (by
              rw [show (12 : Int) - (k + 1) = 11 - k by omega]; omega)
            have E5 : IntKind.i64.wrap (x - c) = x - c := IntWalk.i64_in _ (by omega)
            clear HGs hpas HX0 HX HG hc
            go_wp2_with (fail)
            refine (hch _).mono ?_
            rintro e w' ⟨rfl, rfl⟩
            go_wp2_with (fail)
            go_roundw
            case rel => exact ⟨out, x - c, k + 1, f, by go_num, by go_num, hown, hbw, by omega, by omega, ho, by omega, HXn, HGn⟩
            case measure => simp [intOf]; omega
        · have HF : Bx (numC n number = (out, 0)) := Bx.mk (by rw [HE.out, HG.out, numG_end hlt])
          clear HX HG HE
          go_wp2_with (fail)
          go_ret2
          exact lc_some HF.out hown hbw
end Go.Proofs.Ytfoikipacnmgkaa
