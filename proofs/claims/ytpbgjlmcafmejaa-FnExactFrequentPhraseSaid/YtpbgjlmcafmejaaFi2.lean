/- FrequentPhrase, the program: the walk. -/
import Derived.Test.YtpbgjlmcafmejaaFi
import Derived.Test.YtpbgjlmcafmejaaFq1
import Derived.Lib.SliceRun
namespace Go.Proofs.Ytpbgjlmcafmejaa
open Go.ChangeShapes Go.WideShapes Go.ChangeAt Go.RowKit
set_option linter.unusedVariables false
set_option linter.unusedSimpArgs false
set_option maxRecDepth 100000

set_option maxHeartbeats 2000000 in
theorem std_clone (b off c : Nat) (zs : List Int) (w : World) (h1 : zs.length ≤ 1048576) (hc : ∀ k, k < zs.length → w.cell? ⟨b, off + k, none⟩ = some (.int .i64 (zs.getD k 0))) (hb : b < w.heap.size) :
    Calls Try.prog 109 #[.slice (some ⟨b, off, none⟩) zs.length c] w (NewRow zs w) := by
  obtain ⟨i0, hi, hz0, hz1, hz2⟩ := info_parts infoI64
  have HO : Bx ((w.alloc (.cells #[] 2)).ownsRow w.heap.size 2 1 (.slice (some ⟨w.heap.size, 0, none⟩) 0 0) 0 []) := Bx.mk (World.ownsRow_lit _ _ _ (Nat.le_refl _) (by decide) (by decide))
  have HN : Bx (∀ j u, (ints zs)[j]? = some u → (w.alloc (.cells #[] 2)).cell? ((⟨b, off, none⟩ : Addr).add j) = some u) := Bx.mk (fun j u hj => by
    have hlt : j < zs.length := by
      rcases Nat.lt_or_ge j zs.length with h | h
      · exact h
      · rw [List.getElem?_eq_none (by simp [ints]; exact h)] at hj; cases hj
    have e : u = .int .i64 (zs.getD j 0) := by
      simp [ints, hlt] at hj
      rw [← hj]; simp [List.getD, hlt]
    subst e
    have := hc j hlt
    have hb2 := ((Below.refl w.heap.size w).alloc (Nat.le_refl _) (.cells #[] 2)).cell (p := ⟨b, off + j, none⟩) hb
    have ea : (⟨b, off, none⟩ : Addr).add j = ⟨b, off + j, none⟩ := by simp [Addr.add]
    rw [ea]
    exact hb2.trans this)
  have q22 : ∀ (w : World) (a : Option Addr) (n c n' c' : Nat), (binOp .eql 22 (.slice a n c) (.slice none n' c')).run Try.prog w = .ok (.bool a.isNone) w := fun w a n c n' c' => Lib.run_eql_slice_nil w _ _ a n c n' c' Try.underlying22
  go_enter Try.func109, Try.ntmps109
  go_wp2_with ((at_builtin; refine wpList_append_own _ rfl _ _ 22 rfl w.heap.size 2 i0 (.int .i64 0) 1 8 Try.underlying22 hi hz0 hz1 hz2 rfl (by decide) _ _ _ rfl HO.out ⟨b, off, none⟩ zs.length c (ints zs) rfl (by simp [ints]) HN.out (fun x hx => by simp [ints] at hx; obtain ⟨a, _, rfl⟩ := hx; rfl) (by unfold maxLen; omega) (by omega) (by simp) ?_; intro v' w3 hown' hgrow3 hnil3; have HO3 := Bx.mk hown'; have HB3 := Bx.mk (Below.grown ((Below.refl w.heap.size w).alloc (Nat.le_refl _) (.cells #[] 2)) hgrow3 (by simp) (own_ge' HO.out)); clear hown' hgrow3 hnil3))
  go_ret
  exact ⟨_, rfl, by have := HO3.out; simpa using this, HB3.out⟩
end Go.Proofs.Ytpbgjlmcafmejaa
