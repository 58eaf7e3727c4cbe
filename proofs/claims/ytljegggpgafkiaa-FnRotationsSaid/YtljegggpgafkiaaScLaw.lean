/- Scales: what the laws' walks share. -/
import Derived.Test.YtljegggpgafkiaaLaw
import Derived.Test.YtljegggpgafkiaaIm13
namespace Go.Proofs.Ytljegggpgafkiaa
open Go.ChangeShapes Go.WideShapes Go.ChangeAt Go.RowKit
set_option linter.unusedVariables false
set_option linter.unusedSimpArgs false
set_option maxRecDepth 100000

theorem len_of {w : World} {v : Value} {zs : List Int} (h : IntsAt w v zs) : ∃ A c, v = .slice A zs.length c := h.len
theorem ires {f : FuncId} {args : Array Value} {W : World} {t : Int × Int} (h : Calls Try.prog f args W (IntsRes t W)) : Calls Try.prog f args W (ValOut (.tuple #[.int .i64 t.1, .int .i64 t.2]) W) :=
  h.mono fun _ _ ⟨he, hd⟩ => ⟨he, below_dr hd⟩
theorem iout {f : FuncId} {args : Array Value} {W : World} {t : Int × Int} (h : Calls Try.prog f args W (IntsOut t W)) : Calls Try.prog f args W (ValOut (.tuple #[.int .i64 t.1, .int .i64 t.2]) W) :=
  h.mono fun _ _ ⟨he, hd⟩ => ⟨he, hd⟩
theorem vdr {f : FuncId} {args : Array Value} {W : World} {cv : Value} (h : Calls Try.prog f args W (fun e w' => e = .returned cv ∧ ∃ n, w' = W.drewN n)) : Calls Try.prog f args W (ValOut cv W) :=
  h.mono fun _ _ ⟨he, hd⟩ => ⟨he, below_dr hd⟩
theorem intv_len (zs : List Int) : (intvC zs).1.length ≤ 64 := by
  unfold intvC
  split
  · rename_i h
    have := (scale_yes h).1.2
    simp [stepsZ, stepL]; omega
  · simp
theorem rotC_len (zs : List Int) (k : Int) : (rotC zs k).1.length ≤ 64 := by
  unfold rotC
  split
  · rename_i h
    have := (scale_yes h).1.2
    split
    · simp [rotL]; omega
    · simp
  · simp
theorem comC_len (xs zs : List Int) : (comC xs zs).1.length ≤ 64 := by
  unfold comC
  split
  · rename_i h
    have := (scale_yes h.1).1.2
    have := comL_len xs zs xs.length
    simp only; omega
  · simp
theorem numG_len (n : Int) (f : Nat) : ∀ out num t, (numG n f out num t).length ≤ out.length + f := by
  induction f with
  | zero => intro out num t; exact Nat.le_refl _
  | succ f ih =>
    intro out num t
    unfold numG
    split
    · split
      · have := ih (out ++ [t]) num (t + 1)
        simp at this; omega
      · have := ih out (num - chooseZ (11 - t) (n - 1 - out.length)) (t + 1)
        omega
    · omega
theorem numC_len (n x : Int) : (numC n x).1.length ≤ 64 := by
  unfold numC
  split
  · have := numG_len n 12 [0] x 1
    simp only [List.length_singleton] at this
    simp only; omega
  · simp
theorem readSc_len (l : List UInt8) : ((readSc l).getD []).length ≤ 64 := by
  unfold readSc
  split
  · rename_i h
    have := (scale_yes h).1.2
    simp only [Option.getD_some]; omega
  · simp
end Go.Proofs.Ytljegggpgafkiaa
