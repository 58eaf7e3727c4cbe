/- Scales: names, by the model. -/
import Derived.Test.YtendfnimhmnioaaDoorSc11
namespace Go.Proofs.YtendfnimhmnioaaDoor
open Go.ChangeShapes Go.WideShapes Go.ChangeAt Go.RowKit
set_option linter.unusedVariables false
set_option linter.unusedSimpArgs false
set_option maxRecDepth 100000

def nameL : List UInt8 := [83, 114, 82, 103, 71, 109, 77, 80, 100, 68, 110, 78]
def toneS (t : Int) : ByteArray := if inB t 0 11 = true then ⟨#[nameL.getD t.toNat 0]⟩ else ⟨#[]⟩
theorem spec_names (w : World) : Calls Tryd.prog 87 #[] w fun e w' => e = .returned (.string ⟨nameL.toArray⟩) ∧ w = w' := by
  go_enter Tryd.func87, Tryd.ntmps87
  go_wp2_with (fail)
  go_ret
  exact ⟨rfl, rfl⟩
def namesS : ByteArray := ⟨nameL.toArray⟩
def namesI : List Int := nameL.map fun b => (b.toNat : Int)
theorem names_at (k : Nat) (h : k < namesS.size) : namesI.getD k 0 = (namesS[k].toNat : Int) := by
  have h12 : k < nameL.length := h
  have h2 : k < namesI.length := by simpa [namesI] using h12
  simp only [List.getD, List.getElem?_eq_getElem h2, Option.getD_some]
  simp only [namesI, List.getElem_map]
  rfl
/-- the tone of a letter, or -1 -/
def namedZ (c : UInt8) : Int := idxZ namesI (c.toNat : Int)
set_option maxHeartbeats 1000000 in
theorem spec_named (c : UInt8) (w : World) : Calls Tryd.prog 93 #[.int .u8 (c.toNat : Int)] w fun e w' => e = .returned (.int .i64 (namedZ c)) ∧ w = w' := by
  have hna : ∀ w, Calls Tryd.prog 87 #[] w fun e w' => e = .returned (.string namesS) ∧ w = w' := spec_names
  have HL : Bx (namesI.length = 12) := Bx.mk rfl
  have hS : namesS.size = 12 := rfl
  have HG := Bx.mk names_at
  unfold namedZ
  generalize namesS = s at *
  generalize namesI = zs at *
  go_enter Tryd.func93, Tryd.ntmps93
  go_wp2_with (fail)
  refine (hna _).mono ?_
  rintro e w' ⟨rfl, rfl⟩
  go_wp2_with (fail)
  go_loop [4] (fun i => ∃ k : Nat, k ≤ s.size ∧ i = .int .i64 k ∧ Bx (∀ i, i < k → zs.getD i 0 ≠ (c.toNat : Int))) (fun i => s.size - (intOf i).toNat)
  case atStart => exact ⟨0, Nat.zero_le _, rfl, Bx.mk (fun i hi => by omega)⟩
  case round =>
    obtain ⟨k, hk, rfl, HK⟩ := hrel
    by_cases hlt : k < s.size
    · have hg := HG.out k hlt
      by_cases hc : s[k] = c
      · have hci : (((s[k].toNat : Nat) : Int) == ((c.toNat : Nat) : Int)) = true := by rw [hc]; simp
        have HN : Bx (idxZ zs (c.toNat : Int) = k) := Bx.mk (by exact idx_hit k (by have := HL.out; omega) (by rw [hg, hc]) HK.out)
        clear HK hg hc
        go_wp2_with (fail)
        go_ret
        exact ⟨ret_int HN.out.symm, rfl⟩
      · have hci : (((s[k].toNat : Nat) : Int) == ((c.toNat : Nat) : Int)) = false := beq_eq_false_iff_ne.2 (fun e => hc (UInt8.toNat_inj.1 (by omega)))
        have HS : Bx (∀ i, i < k + 1 → zs.getD i 0 ≠ (c.toNat : Int)) := Bx.mk (fun i hi => by
          by_cases hij : i < k
          · exact HK.out i hij
          · obtain rfl : i = k := (by omega)
            rw [hg]
            exact fun e => hc (UInt8.toNat_inj.1 (by omega)))
        clear HK hg hc
        go_wp2_with (fail)
        go_round
        case rel => exact ⟨k + 1, by omega, by go_num, HS⟩
        case measure => simp [intOf]; omega
    · obtain rfl : k = s.size := by omega
      have HN : Bx (idxZ zs (c.toNat : Int) = -1) := Bx.mk (by exact idx_miss (fun i hi => HK.out i (by have := HL.out; omega)))
      go_wp2_with (fail)
      go_ret
      exact ⟨ret_int HN.out.symm, rfl⟩
end Go.Proofs.YtendfnimhmnioaaDoor
