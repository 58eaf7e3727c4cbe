/- The texts of scales and tones, by the program (without the rest of chapter 3). -/
import Derived.Test.YtjjiibmbaggjoaaRImT
import Derived.Test.YtjjiibmbaggjoaaSc14
import Derived.Test.YtjjiibmbaggjoaaBuild
import Derived.Deep.WholeRow
namespace Go.Proofs.Ytjjiibmbaggjoaa
open Go.ChangeShapes Go.WideShapes Go.ChangeAt Go.RowKit
set_option linter.unusedVariables false
set_option linter.unusedSimpArgs false
set_option maxRecDepth 100000

theorem impl_tonename (t : Int) (w : World) : Calls Try.prog 84 #[.int .i64 t] w fun e w' => e = .returned (.string (toneS t)) ∧ w = w' := by
  have hin := fun W => impl_istone t W
  cases h : inB t 0 11
  · have HE : Bx (toneS t = ⟨#[]⟩) := Bx.mk (by simp [toneS, h])
    rw [h] at hin
    clear h
    go_enter Try.func84, Try.ntmps84
    go_wp2_with (fail)
    refine (hin _).mono ?_
    rintro e w' ⟨rfl, rfl⟩
    go_wp2_with (fail)
    go_ret
    exact ⟨by rw [HE.out]; rfl, rfl⟩
  · obtain ⟨t1, t2⟩ := inB_yes h
    have HE : Bx (toneS t = ⟨#[nameL.getD t.toNat 0]⟩) := Bx.mk (by simp [toneS, h])
    rw [h] at hin
    clear h
    obtain rfl | rfl | rfl | rfl | rfl | rfl | rfl | rfl | rfl | rfl | rfl | rfl : t = 0 ∨ t = 1 ∨ t = 2 ∨ t = 3 ∨ t = 4 ∨ t = 5 ∨ t = 6 ∨ t = 7 ∨ t = 8 ∨ t = 9 ∨ t = 10 ∨ t = 11 := by omega
    all_goals
      go_enter Try.func84, Try.ntmps84
      go_wp2_with (fail)
      refine (hin _).mono ?_
      rintro e w' ⟨rfl, rfl⟩
      go_wp2_with (fail)
      go_ret
      exact ⟨by rw [HE.out]; rfl, rfl⟩
theorem tone_cells (l : List UInt8) (z : Int) (h : 0 ≤ z ∧ z ≤ 11) : Lib.byteCells l ++ Lib.strCells (toneS z) = Lib.byteCells (l ++ [nameL.getD z.toNat 0]) := by
  have : toneS z = ⟨#[nameL.getD z.toNat 0]⟩ := by unfold toneS; rw [if_pos (inB_mk h)]
  rw [this]
  simp [Lib.byteCells, Lib.strCells]
theorem tone_size (z : Int) : (toneS z).size ≤ 1 := by
  unfold toneS; split
  · exact Nat.le_refl _
  · exact Nat.zero_le _
set_option maxHeartbeats 2000000 in
theorem impl_scaletext (v : Value) (zs : List Int) (w : World) (h : IntsAt w v zs) (hm : zs.length ≤ 281474976710656) :
    Calls Try.prog 83 #[v] w fun e w' => e = .returned (.string (textS zs)) ∧ Below w.heap.size w w' := by
  have hsc := fun W h => impl_scale v zs W h hm
  have HI := Bx.mk h
  cases h1 : scaleB zs
  · obtain ⟨A, c, rfl⟩ := h.len
    clear h
    have HE : Bx (textS zs = ⟨#[]⟩) := Bx.mk (by simp [textS, h1])
    rw [h1] at hsc
    clear h1
    go_enter Try.func83, Try.ntmps83
    go_wp2_with (fail)
    refine (hsc _ HI.out).mono ?_
    rintro e w' ⟨rfl, k, rfl⟩
    go_wp2_with (fail)
    go_ret
    exact ⟨by rw [HE.out]; rfl, below_draws (Below.refl _ _) k⟩
  · have HE : Bx (textS zs = ⟨(textL zs zs.length).toArray⟩) := Bx.mk (by simp [textS, h1])
    obtain ⟨⟨l1, l2⟩, _, _⟩ := scale_yes h1
    obtain ⟨b, o, c, rfl, hb, hc⟩ := h.form (by omega)
    have HC := Bx.mk hc
    have HR := Bx.mk (scale_in h1)
    have hna := impl_tonename
    rw [h1] at hsc
    clear h1 h hc
    go_enter Try.func83, Try.ntmps83
    go_wp2_with (fail)
    refine (hsc _ HI.out).mono ?_
    rintro e W1 ⟨rfl, hw⟩
    have HB1 : Bx (Below w.heap.size w W1) := Bx.mk (by obtain ⟨n, rfl⟩ := hw; exact below_draws (Below.refl _ _) n)
    have hbl : b < W1.heap.size := Nat.lt_of_lt_of_le hb HB1.out.size
    clear hw hsc
    go_wp2_with (fail)
    go_loopw [11] (fun i wr => ∃ k : Nat, k ≤ zs.length ∧ i = .int .i64 k ∧ Lib.IsBuilder 130 5 W1.heap.size W1.heap.size (Lib.byteCells (textL zs k)) wr ∧ Below W1.heap.size W1 wr) (fun i _ => zs.length - (intOf i).toNat)
    case atStart =>
      refine ⟨0, Nat.zero_le _, rfl, .inl ⟨Nat.le_refl _, .slice none 0 0, heap_alloc_last _ _, World.ownsRow_nil _ _ _ _, by simp [Value.ownBlock]⟩, (Below.refl _ _).alloc (Nat.le_refl _) _⟩
    case round =>
      obtain ⟨k, hk, rfl, hbd, hbw⟩ := hrel
      have hsz := hbw.size
      by_cases hlt : k < zs.length
      · have g1 : wr.cell? ⟨b, o + k, none⟩ = some (.int .i64 (zs.getD k 0)) := (hbw.cell (p := ⟨b, o + k, none⟩) hbl).trans ((HB1.out.cell (p := ⟨b, o + k, none⟩) hb).trans (HC.out k hlt))
        have HS := Bx.mk (textL_succ zs k)
        have hll : (Lib.byteCells (textL zs k)).length = k := by simp [Lib.byteCells, textL]
        have hts := tone_size (zs.getD k 0)
        have HW := Bx.mk (write_string W1.heap.size W1.heap.size _ (toneS (zs.getD k 0)) wr hbd (by omega) hsz)
        have HT := Bx.mk (tone_cells (textL zs k) (zs.getD k 0) (HR.out k hlt))
        have HBW := Bx.mk hbw
        have k0 : (0 : Int) ≤ (k : Int) := Int.natCast_nonneg _
        have k1 : (k : Int) < (zs.length : Int) := by omega
        clear hbd hbw hts hll
        generalize zs.getD k 0 = z at *
        go_wp2_with (fail)
        refine (hna _ _).mono ?_
        rintro e w4 ⟨rfl, rfl⟩
        go_wp2_with (fail)
        refine HW.out.mono ?_
        rintro e w5 ⟨rfl, hbd5, hb5⟩
        have HD5 := Bx.mk hbd5
        have HB5 := Bx.mk (HBW.out.trans (hb5.mono (Nat.le_refl _)))
        clear hbd5 hb5 HW
        go_wp2_with (fail)
        go_roundw
        case rel => exact ⟨k + 1, by omega, by go_num, by rw [HS.out, ← HT.out]; exact HD5.out, HB5.out⟩
        case measure => simp [intOf]; omega
      · obtain rfl : k = zs.length := by omega
        have HW := Bx.mk (Try.Builder_String_any W1.heap.size W1.heap.size _ wr hbd hsz)
        have HBW := Bx.mk hbw
        clear hbd hbw
        go_wp2_with (fail)
        refine HW.out.mono ?_
        rintro e w4 ⟨rfl, hb4⟩
        have HB4 := Bx.mk (HBW.out.trans (hb4.mono (Nat.le_refl _)))
        clear hb4
        go_wp2_with (fail)
        go_ret
        exact ⟨by rw [HE.out]; rfl, HB1.out.trans (HB4.out.mono HB1.out.size)⟩
end Go.Proofs.Ytjjiibmbaggjoaa
