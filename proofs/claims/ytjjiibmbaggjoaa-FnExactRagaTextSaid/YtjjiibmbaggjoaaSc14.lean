/- Scales: texts, by the model. -/
import Derived.Test.YtjjiibmbaggjoaaSc13
namespace Go.Proofs.Ytjjiibmbaggjoaa
open Go.ChangeShapes Go.WideShapes Go.ChangeAt Go.RowKit
set_option linter.unusedVariables false
set_option linter.unusedSimpArgs false
set_option maxRecDepth 100000

/-- the text of the first tones -/
def textL (zs : List Int) (k : Nat) : List UInt8 := (List.range k).map fun i => nameL.getD (zs.getD i 0).toNat 0
theorem textL_succ (zs : List Int) (k : Nat) : textL zs (k + 1) = textL zs k ++ [nameL.getD (zs.getD k 0).toNat 0] := by simp [textL, List.range_succ]
def textS (zs : List Int) : ByteArray := if scaleB zs = true then ⟨(textL zs zs.length).toArray⟩ else ⟨#[]⟩
theorem app_str (a b : List UInt8) : (⟨a.toArray⟩ : ByteArray) ++ ⟨b.toArray⟩ = ⟨(a ++ b).toArray⟩ := by
  apply ByteArray.ext
  simp
theorem names_ext (m : Nat) (hm : m < 12) : namesS.extract m (m + 1) = ⟨[nameL.getD m 0].toArray⟩ := by
  obtain rfl | rfl | rfl | rfl | rfl | rfl | rfl | rfl | rfl | rfl | rfl | rfl : m = 0 ∨ m = 1 ∨ m = 2 ∨ m = 3 ∨ m = 4 ∨ m = 5 ∨ m = 6 ∨ m = 7 ∨ m = 8 ∨ m = 9 ∨ m = 10 ∨ m = 11 := by omega
  all_goals rfl
set_option maxHeartbeats 2000000 in
theorem spec_text (v : Value) (zs : List Int) (w : World) (h : IntsAt w v zs) (hs : scaleB zs = true) :
    Calls Try.prog 111 #[v] w fun e w' => e = .returned (.string ⟨(textL zs zs.length).toArray⟩) ∧ ∃ n, w' = w.drewN n := by
  have hna : ∀ w, Calls Try.prog 110 #[] w fun e w' => e = .returned (.string namesS) ∧ w = w' := spec_names
  obtain ⟨⟨l1, l2⟩, _, _⟩ := scale_yes hs
  obtain ⟨b, o, c, rfl, hb, hc⟩ := h.form (by omega)
  have HC := Bx.mk hc
  have HR := Bx.mk (scale_in hs)
  have hS : namesS.size = 12 := rfl
  have HG : Bx (∀ m : Nat, m < 12 → ∀ T : List UInt8, (⟨T.toArray⟩ : ByteArray) ++ namesS.extract m (m + 1) = ⟨(T ++ [nameL.getD m 0]).toArray⟩) := Bx.mk (fun m hm T => by rw [names_ext m hm, app_str])
  clear h hc hs
  generalize namesS = s at *
  go_enter Try.func111, Try.ntmps111
  go_wp2_with (fail)
  refine (hna _).mono ?_
  rintro e w' ⟨rfl, rfl⟩
  go_wp2_with (fail)
  go_loopw [3, 5] (fun t i wr => ∃ k n : Nat, k ≤ zs.length ∧ i = .int .i64 k ∧ t = .string ⟨(textL zs k).toArray⟩ ∧ Bx (wr = w.drewN n)) (fun _ i _ => zs.length - (intOf i).toNat)
  case atStart => exact ⟨0, 0, Nat.zero_le _, rfl, rfl, Bx.mk rfl⟩
  case round =>
    obtain ⟨k, n, hk, rfl, rfl, HW⟩ := hrel
    by_cases hlt : k < zs.length
    · have h1 : wr.cell? ⟨b, o + k, none⟩ = some (.int .i64 (zs.getD k 0)) := by rw [HW.out]; exact HC.out _ hlt
      obtain ⟨r1, r2⟩ := HR.out k hlt
      have HS := Bx.mk (textL_succ zs k)
      have k0 : (0 : Int) ≤ (k : Int) := Int.natCast_nonneg _
      have k1 : (k : Int) < (zs.length : Int) := by omega
      generalize zs.getD k 0 = z at *
      obtain ⟨m, rfl⟩ := Int.eq_ofNat_of_zero_le r1
      have HT := Bx.mk (HG.out m (by omega) (textL zs k))
      have E1 : IntKind.i64.wrap ((m : Int) + 1) = (m : Int) + 1 := IntWalk.i64_in _ (by omega)
      have z0 : (0 : Int) ≤ (m : Int) := Int.natCast_nonneg _
      have z3 : (m : Int) + 1 ≤ (s.size : Int) := by omega
      have z5 : ((m : Int) + 1).toNat = m + 1 := by omega
      have z6 : m + 1 ≤ s.size := by omega
      have z7 : (m : Int) ≤ (m : Int) + 1 := by omega
      have z8 : m ≤ m + 1 := by omega
      clear HG hS r1 r2
      go_wp2_with (fail)
      generalize ht : textL zs k = T at *
      have hl : T.length = k := by rw [← ht]; simp [textL]
      have d3 : ¬ (9223372036854775807 < k + 1) := by omega
      clear ht
      go_quiet (fail)
      clear hl d3
      go_wp2_with (fail)
      go_roundw
      case rel => exact ⟨k + 1, _, by omega, by go_num, by rw [HS.out]; exact congrArg _ HT.out, Bx.mk (by rw [HW.out, World.drewN_drewN])⟩
      case measure => simp [intOf]; omega
    · obtain rfl : k = zs.length := by omega
      go_wp2_with (fail)
      go_ret
      exact ⟨rfl, n, HW.out⟩
end Go.Proofs.Ytjjiibmbaggjoaa
