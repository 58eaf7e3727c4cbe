/- Sets of tones as masks, by the program: maskOf, tones. -/
import Derived.Test.YtjjiibmbaggjoaaRImT
import Derived.Test.YtjjiibmbaggjoaaMask
import Derived.Laws.BitsAllLaws
import Derived.Laws.BitsLemmas
namespace Go.Proofs.Ytjjiibmbaggjoaa
open Go.ChangeShapes Go.WideShapes Go.ChangeAt Go.RowKit
set_option linter.unusedVariables false
set_option linter.unusedSimpArgs false
set_option maxRecDepth 100000

theorem shr_bit (z : Int) (h : 0 ≤ z ∧ z ≤ 11) : (2048 : Int) / 2 ^ z.toNat = ((bitN z.toNat : Nat) : Int) := by
  unfold bitN; push_cast; rfl
theorem bit_lt16 (t : Nat) : bitN t < 4096 := Nat.lt_of_le_of_lt (Nat.div_le_self _ _) (by decide)
set_option maxHeartbeats 1000000 in
theorem impl_mask (v : Value) (zs : List Int) (w : World) (h : IntsAt w v zs) (hl : 0 < zs.length) (hr : ∀ k, k < zs.length → 0 ≤ zs.getD k 0 ∧ zs.getD k 0 ≤ 11) (hm : zs.length ≤ 281474976710656) :
    Calls Try.prog 104 #[v] w fun e w' => e = .returned (.int .u16 (maskN zs zs.length : Nat)) ∧ w = w' := by
  obtain ⟨b, o, c, rfl, hb, hc⟩ := h.form hl
  have HC := Bx.mk hc
  have HR := Bx.mk hr
  clear h hc hr
  go_enter Try.func104, Try.ntmps104
  go_wp2_with (fail)
  go_loop [3, 8] (fun m i => ∃ k : Nat, k ≤ zs.length ∧ i = .int .i64 k ∧ m = .int .u16 (maskN zs k : Nat)) (fun _ i => zs.length - (intOf i).toNat)
  case atStart => exact ⟨0, Nat.zero_le _, rfl, rfl⟩
  case round =>
    obtain ⟨k, hk, rfl, rfl⟩ := hrel
    by_cases hlt : k < zs.length
    · have h1 : w.cell? ⟨b, o + k, none⟩ = some (.int .i64 (zs.getD k 0)) := HC.out k hlt
      have k0 : (0 : Int) ≤ (k : Int) := by omega
      have k1 : (k : Int) < (zs.length : Int) := by omega
      have hz := HR.out k hlt
      have HM : Bx (maskN zs (k + 1) = maskN zs k ||| bitN (zs.getD k 0).toNat) := Bx.mk rfl
      have HL : Bx (maskN zs k < 4096) := Bx.mk (mask_lt zs k (fun i hi => HR.out i (by omega)))
      generalize zs.getD k 0 = z at *
      obtain ⟨z1, z2⟩ := hz
      have z3 : z ≤ 16 := by omega
      have HS : Bx (bits BinOp.or IntKind.u16 ((maskN zs k : Nat) : Int) (2048 / 2 ^ z.toNat) = ((maskN zs (k + 1) : Nat) : Int)) := Bx.mk (by
        rw [shr_bit z ⟨z1, z2⟩, u16_or_nat _ _ (by have := HL.out; omega) (by have := bit_lt16 z.toNat; omega), HM.out])
      clear HM HL
      go_wp2_with (fail)
      go_round
      case rel => exact ⟨k + 1, by omega, by go_num, congrArg (Value.int .u16) HS.out⟩
      case measure => simp [intOf]; omega
    · obtain rfl : k = zs.length := by omega
      go_wp2_with (fail)
      go_ret
      exact ⟨rfl, rfl⟩
theorem on_no {m k : Nat} (hm : m < 65536) (h : onB m k = false) : (bits BinOp.and IntKind.u16 (m : Int) (2048 / 2 ^ k) != 0) = false := by
  have e : (2048 : Int) / 2 ^ k = ((bitN k : Nat) : Int) := by unfold bitN; push_cast; rfl
  rw [e, u16_and_nat _ _ hm (by have := bit_lt16 k; omega)]
  unfold onB at h
  simpa using h
theorem on_yes {m k : Nat} (hm : m < 65536) (h : onB m k = true) : (bits BinOp.and IntKind.u16 (m : Int) (2048 / 2 ^ k) != 0) = true := by
  have e : (2048 : Int) / 2 ^ k = ((bitN k : Nat) : Int) := by unfold bitN; push_cast; rfl
  rw [e, u16_and_nat _ _ hm (by have := bit_lt16 k; omega)]
  unfold onB at h
  simpa using h
set_option maxHeartbeats 2000000 in
theorem impl_tones (m : Nat) (w : World) (hm : m < 65536) : Calls Try.prog 68 #[.int .u16 (m : Int)] w (NewRow (tonesN m 12) w) := by
  obtain ⟨i0, hi, hz0, hz1, hz2⟩ := info_parts infoI64
  go_enter Try.func68, Try.ntmps68
  go_wp2_with (fail)
  go_loopw [3, 5] (fun v i wr => ∃ k : Nat, k ≤ 12 ∧ i = .int .i64 k ∧ wr.ownsRow w.heap.size 2 1 v (tonesN m k).length (ints (tonesN m k)) ∧ Below w.heap.size w wr) (fun _ i _ => 12 - (intOf i).toNat)
  case atStart => exact ⟨0, Nat.zero_le _, rfl, World.ownsRow_nil _ _ _ _, Below.refl _ _⟩
  case round =>
    obtain ⟨k, hk, rfl, hown, hbw⟩ := hrel
    have hsz := hbw.size
    by_cases hlt : k < 12
    · have k0 : (0 : Int) ≤ (k : Int) := by omega
      have k1 : (k : Int) < 12 := by omega
      have k2 : (k : Int) ≤ 16 := by omega
      have HL := Bx.mk (tones_len m k)
      cases ho : onB m k
      · have HT := Bx.mk (on_no hm ho)
        have ht := HT.out
        have HS : Bx (tonesN m (k + 1) = tonesN m k) := Bx.mk (by rw [tones_succ, if_neg (by rw [ho]; decide)])
        clear ho
        go_wp2_with (fail)
        go_roundw
        case rel => exact ⟨k + 1, by omega, by go_num, by rw [HS.out]; exact hown, hbw⟩
        case measure => simp [intOf]; omega
      · have HT := Bx.mk (on_yes hm ho)
        have ht := HT.out
        have HS : Bx (tonesN m (k + 1) = tonesN m k ++ [(k : Int)]) := Bx.mk (by rw [tones_succ, if_pos ho])
        clear ho
        go_wp2_with ((at_builtin; refine wpList_append_own _ rfl _ _ 22 rfl w.heap.size 2 i0 (.int .i64 0) 1 8 Try.underlying22 hi hz0 hz1 hz2 rfl (by decide) _ _ _ rfl (hown.alloc _) ⟨wr.heap.size, 0, none⟩ 1 1 [.int .i64 k] rfl rfl (cell_one_new _ _ _) (fun x hx => by simp at hx; subst hx; rfl) (by have := HL.out; unfold maxLen; omega) (by have := HL.out; omega) (by simp; omega) ?_; intro v' w3 hown' hgrow3 hnil3))
        have hown2 : w3.ownsRow w.heap.size 2 1 v' (tonesN m (k + 1)).length (ints (tonesN m (k + 1))) := by
          rw [HS.out, ints_snoc', List.length_append]; exact hown'
        have hb2 : Below w.heap.size w w3 := below_app' hbw hown (Nat.le_refl _) hgrow3
        clear hown' hgrow3 hnil3 hown
        go_roundw
        case rel => exact ⟨k + 1, by omega, by go_num, hown2, hb2⟩
        case measure => simp [intOf]; omega
    · obtain rfl : k = 12 := by omega
      go_wp2_with (fail)
      go_ret
      exact ⟨_, rfl, hown, hbw⟩
end Go.Proofs.Ytjjiibmbaggjoaa
