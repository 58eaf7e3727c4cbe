/- Phrases: what the laws' walks share. -/
import Derived.Test.YtpkdpchlfabhlaaDoorLw
import Derived.Test.YtpkdpchlfabhlaaDoorRm
namespace Go.Proofs.YtpkdpchlfabhlaaDoor
open Go.ChangeShapes Go.WideShapes Go.ChangeAt Go.RowKit
set_option linter.unusedVariables false
set_option linter.unusedSimpArgs false
set_option maxRecDepth 100000

theorem own_capN {w : World} {base e n : Nat} {v : Value} {xs : List Value} (h : w.ownsRow base e 1 v n xs) : ∃ A c, v = .slice A n c ∧ n ≤ c := by
  rcases h.2 with ⟨rfl, rfl⟩ | ⟨g, cap, cur, rfl, _, _, hc, _⟩
  · exact ⟨none, 0, rfl, Nat.le_refl _⟩
  · exact ⟨_, cap, rfl, hc⟩
theorem arg_rows {H : Type} {enc : TypeId × Value → H} {W : World} {b0 : Nat} {v : Value} {d : DataW H} {p : List MemPlace} (hval : Value.okWide Tryd.prog W .any b0 22 v)
    (h : DataW.Trod enc Tryd.prog W 0 (fun _ => true) true 22 v d p) : ∃ L : List (List Int), RowsAt W v L ∧ L.length ≤ 9223372036854775807 ∧ ∀ k, k < L.length → (L.getD k []).length ≤ 9223372036854775807 := by
  obtain ⟨a0, len, cap, rfl⟩ := okWide_slice Tryd.underlying22 hval
  obtain ⟨fuel, hf⟩ := h
  exact arg_rows_cell (by simpa [Value.cells] using hf)
theorem vout {f : FuncId} {args : Array Value} {W : World} {cv : Value} (h : Calls Tryd.prog f args W (fun e w' => e = .returned cv ∧ Below W.heap.size W w')) : Calls Tryd.prog f args W (ValOut cv W) :=
  h.mono fun _ _ ⟨he, hd⟩ => ⟨he, hd⟩
theorem lcrow {f : FuncId} {args : Array Value} {W : World} {t : List Int × Int} (h : Calls Tryd.prog f args W (fun e w' => ∃ v, e = .returned (.tuple #[v, .int .i64 t.2]) ∧ w'.ownsRow W.heap.size 2 1 v t.1.length (ints t.1) ∧ Below W.heap.size W w')) : Calls Tryd.prog f args W (RowOut t.1 (.int .i64 t.2) W) := h
end Go.Proofs.YtpkdpchlfabhlaaDoor
