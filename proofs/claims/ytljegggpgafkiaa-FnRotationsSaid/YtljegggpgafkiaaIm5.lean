/- Scales: counts, numbers and common tones, by the program. -/
import Derived.Test.YtljegggpgafkiaaIm4
namespace Go.Proofs.Ytljegggpgafkiaa
open Go.ChangeShapes Go.WideShapes Go.ChangeAt Go.RowKit
set_option linter.unusedVariables false
set_option linter.unusedSimpArgs false
set_option maxRecDepth 100000

theorem own_draws {w : World} {base : Nat} {e : TypeId} {size n : Nat} {v : Value} {xs : List Value} (h : w.ownsRow base e size v n xs) (k : Nat) : (w.drewN k).ownsRow base e size v n xs := h
theorem infoMask : (Try.prog.info? 63).map (fun i => (i.zero, i.size, i.bytes)) = some (some (.int .u16 0), 1, 2) := by kernel_rfl
def masksV (ms : List Nat) : List Value := ms.map fun m => .int .u16 ((m : Nat) : Int)
theorem masksV_len (ms : List Nat) : (masksV ms).length = ms.length := by simp [masksV]
theorem masksV_snoc (ms : List Nat) (m : Nat) : masksV (ms ++ [m]) = masksV ms ++ [.int .u16 ((m : Nat) : Int)] := by simp [masksV]
theorem masksV_at (ms : List Nat) (k : Nat) (h : k < ms.length) : (masksV ms)[k]? = some (.int .u16 ((ms.getD k 0 : Nat) : Int)) := by simp [masksV, h]
/-- a new list of masks -/
def NewMasks (ms : List Nat) (w : World) (e : Ending) (w' : World) : Prop := ∃ v, e = .returned v ∧ w'.ownsRow w.heap.size 63 1 v ms.length (masksV ms) ∧ Below w.heap.size w w'
theorem newmasks_parts {ms : List Nat} {w : World} {e : Ending} {w' : World} (h : NewMasks ms w e w') : ∃ v, e = .returned v ∧ w'.ownsRow w.heap.size 63 1 v ms.length (masksV ms) ∧ Below w.heap.size w w' := h
set_option maxHeartbeats 2000000 in
theorem impl_masks (n : Int) (w : World) : Calls Try.prog 36 #[.int .i64 n] w (NewMasks (masksA n) w) := by
  obtain ⟨i0, hi, hz0, hz1, hz2⟩ := info_parts infoMask
  have hpop := impl_pop
  go_enter Try.func36, Try.ntmps36
  go_wp2_with (fail)
  go_loopw [3, 4] (fun v i wr => ∃ k M : Nat, k ≤ 2048 ∧ k + M = 4095 ∧ i = .int .u16 (M : Int) ∧ wr.ownsRow w.heap.size 63 1 v (masksN n k).length (masksV (masksN n k)) ∧ Below w.heap.size w wr) (fun _ i _ => (intOf i).toNat)
  case atStart => exact ⟨0, 4095, by omega, by omega, rfl, World.ownsRow_nil _ _ _ _, Below.refl _ _⟩
  case round =>
    obtain ⟨k, M, hk, hM, rfl, hown, hbw⟩ := hrel
    have hsz := hbw.size
    by_cases hlt : k < 2048
    · have M0 : (2048 : Int) ≤ (M : Int) := by omega
      have M1 : (M : Int) ≤ 4095 := by omega
      have D0 : decide ((M : Int) ≥ 2048) = true := decide_eq_true (by omega)
      have E1 : IntKind.u16.wrap ((M : Int) - 1) = ((M - 1 : Nat) : Int) := by rw [IntKind.wrap_u16]; omega
      have EM : Bx (4095 - k = M) := Bx.mk (by omega)
      have HL := Bx.mk (masks_len n k)
      have hp := fun W => hpop M W (by omega)
      by_cases he : ((popN M : Nat) : Int) = n
      · have HS : Bx (masksN n (k + 1) = masksN n k ++ [M]) := Bx.mk (by rw [masks_succ, EM.out, if_pos he])
        have y1 : (((popN M : Nat) : Int) == n) = true := by simpa using he
        clear he hpop
        generalize popN M = P at *
        go_wp2_with (fail)
        refine (hp _).mono ?_
        rintro e w4 ⟨rfl, j, rfl⟩
        have hown1 := own_draws hown j
        have hbw1 := below_draws hbw j
        clear hown
        go_wp2_with ((at_builtin; refine wpList_append_own _ rfl _ _ 61 rfl w.heap.size 63 i0 (.int .u16 0) 1 2 Try.underlying61 hi hz0 hz1 hz2 rfl (by decide) _ _ _ rfl (hown1.alloc _) ⟨(wr.drewN j).heap.size, 0, none⟩ 1 1 [.int .u16 (M : Int)] rfl rfl (cell_one_new _ _ _) (fun x hx => by simp at hx; subst hx; rfl) (by have := HL.out; unfold maxLen; omega) (by have := HL.out; omega) (by have hs2 := hbw1.size; simp at hs2 ⊢; omega) ?_; intro v' w3 hown' hgrow3 hnil3))
        have hown2 : w3.ownsRow w.heap.size 63 1 v' (masksN n (k + 1)).length (masksV (masksN n (k + 1))) := by
          rw [HS.out, masksV_snoc, List.length_append]; exact hown'
        have hb2 : Below w.heap.size w w3 := below_app' hbw1 hown1 (Nat.le_refl _) hgrow3
        clear hown' hgrow3 hnil3 hown1
        have HR : Bx (Value.int IntKind.u16 ((M : Int) - 1) = .int .u16 ((M - 1 : Nat) : Int)) := Bx.mk (by congr 1; omega)
        go_roundw
        case rel => exact ⟨k + 1, M - 1, by omega, by omega, by first | rfl | exact HR.out, hown2, hb2⟩
        case measure => simp [intOf]; omega
      · have HS : Bx (masksN n (k + 1) = masksN n k) := Bx.mk (by rw [masks_succ, EM.out, if_neg he])
        have y1 : (((popN M : Nat) : Int) == n) = false := by simpa using he
        clear he hpop
        generalize popN M = P at *
        go_wp2_with (fail)
        refine (hp _).mono ?_
        rintro e w4 ⟨rfl, j, rfl⟩
        have hown1 := own_draws hown j
        have hbw1 := below_draws hbw j
        clear hown
        go_wp2_with (fail)
        have HR : Bx (Value.int IntKind.u16 ((M : Int) - 1) = .int .u16 ((M - 1 : Nat) : Int)) := Bx.mk (by congr 1; omega)
        go_roundw
        case rel => exact ⟨k + 1, M - 1, by omega, by omega, by first | rfl | exact HR.out, by rw [HS.out]; exact hown1, hbw1⟩
        case measure => simp [intOf]; omega
    · obtain rfl : k = 2048 := by omega
      obtain rfl : M = 2047 := by omega
      go_wp2_with (fail)
      go_ret
      exact ⟨_, rfl, hown, hbw⟩
theorem masks_form {w : World} {base : Nat} {v : Value} {ms : List Nat} (h : w.ownsRow base 63 1 v ms.length (masksV ms)) (hl : 0 < ms.length) : ∃ b c, v = .slice (some ⟨b, 0, none⟩) ms.length c ∧ ∀ k, k < ms.length → w.cell? ⟨b, k, none⟩ = some (.int .u16 ((ms.getD k 0 : Nat) : Int)) := by
  obtain ⟨g, cap, rfl, _, hlt⟩ := h.form hl
  exact ⟨g, cap, rfl, fun k hk => by rw [h.cellAt k (by omega), masksV_at ms k hk]⟩
set_option maxHeartbeats 1000000 in
theorem impl_atmask (b c : Nat) (ms : List Nat) (m k0 : Nat) (w : World) (hc : ∀ k, k < ms.length → w.cell? ⟨b, k, none⟩ = some (.int .u16 ((ms.getD k 0 : Nat) : Int))) (hm : ms.length ≤ 2048)
    (h0 : k0 < ms.length) (h1 : ms.getD k0 0 = m) (h2 : ∀ i, i < k0 → ms.getD i 0 ≠ m) :
    Calls Try.prog 35 #[.slice (some ⟨b, 0, none⟩) ms.length c, .int .u16 (m : Int)] w fun e w' => e = .returned (.int .i64 (k0 : Int)) ∧ w = w' := by
  have HC := Bx.mk hc
  have H1 := Bx.mk h1
  have H2 := Bx.mk h2
  clear hc h1 h2
  go_enter Try.func35, Try.ntmps35
  go_wp2_with (fail)
  go_loop [8] (fun i => ∃ k : Nat, k ≤ k0 ∧ i = .int .i64 k) (fun i => ms.length - (intOf i).toNat)
  case atStart => exact ⟨0, Nat.zero_le _, rfl⟩
  case round =>
    obtain ⟨k, hk, rfl⟩ := hrel
    have hlt : k < ms.length := by omega
    have g1 : w.cell? ⟨b, k, none⟩ = some (.int .u16 ((ms.getD k 0 : Nat) : Int)) := HC.out k hlt
    have x1 : (0 : Int) ≤ (k : Int) := by omega
    have x2 : (k : Int) < (ms.length : Int) := by omega
    by_cases he : k = k0
    · have y1 : ((m : Int) == ((ms.getD k 0 : Nat) : Int)) = true := by rw [he, H1.out]; simp
      have HK := Bx.mk he
      clear he
      generalize ms.getD k 0 = z at *
      go_wp2_with (fail)
      go_ret
      exact ⟨by rw [HK.out]; rfl, rfl⟩
    · have hn := H2.out k (by omega)
      have y1 : ((m : Int) == ((ms.getD k 0 : Nat) : Int)) = false := by
        generalize ms.getD k 0 = z at hn ⊢
        simp; omega
      clear hn
      generalize ms.getD k 0 = z at *
      go_wp2_with (fail)
      go_round
      case rel => exact ⟨k + 1, by omega, by go_num⟩
      case measure => simp [intOf]; omega
end Go.Proofs.Ytljegggpgafkiaa
