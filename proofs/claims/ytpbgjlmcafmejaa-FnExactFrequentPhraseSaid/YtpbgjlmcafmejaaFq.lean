/- FrequentPhrase, by the model. -/
import Derived.Test.YtpbgjlmcafmejaaPo2
import Derived.Test.YtpbgjlmcafmejaaPs
namespace Go.Proofs.Ytpbgjlmcafmejaa
open Go.ChangeShapes Go.WideShapes Go.ChangeAt Go.RowKit
set_option linter.unusedVariables false
set_option linter.unusedSimpArgs false
set_option maxRecDepth 100000

def cntP (p t : List Int) : Nat := (findN p t t.length).length
theorem cntP_fin (p t : List Int) : (finL p t t.length).length = cntP p t := by simp [finL, cntP]
theorem cntP_le (p t : List Int) : cntP p t ≤ t.length := findN_len _ _ _
def prt (t : List Int) (n k : Nat) : List Int := (t.drop k).take n
theorem prt_len {t : List Int} {n k : Nat} (h : k + n ≤ t.length) : (prt t n k).length = n := by simp [prt]; omega
/-- one part more -/
def fqStep (t : List Int) (s : List Int × Nat) (p : List Int) : List Int × Nat := if s.2 < cntP p t ∨ (cntP p t = s.2 ∧ lexB p s.1 = true) then (p, cntP p t) else s
/-- the most frequent part among the first k -/
def fqF (t : List Int) (n k : Nat) : List Int × Nat := (List.range k).foldl (fun s i => fqStep t s (prt t n i)) ([], 0)
theorem fqF_succ (t : List Int) (n k : Nat) : fqF t n (k + 1) = fqStep t (fqF t n k) (prt t n k) := by simp [fqF, List.range_succ]
theorem fqF_more {t : List Int} {n k : Nat} (h : (fqF t n k).2 < cntP (prt t n k) t) : fqF t n (k + 1) = (prt t n k, cntP (prt t n k) t) := by rw [fqF_succ, fqStep, if_pos (.inl h)]
theorem fqF_lex {t : List Int} {n k : Nat} (h : cntP (prt t n k) t = (fqF t n k).2) (h2 : lexB (prt t n k) (fqF t n k).1 = true) : fqF t n (k + 1) = (prt t n k, (fqF t n k).2) := by rw [fqF_succ, fqStep, if_pos (.inr ⟨h, h2⟩), h]
theorem fqF_nolex {t : List Int} {n k : Nat} (h : cntP (prt t n k) t = (fqF t n k).2) (h2 : lexB (prt t n k) (fqF t n k).1 = false) : fqF t n (k + 1) = fqF t n k := by
  rw [fqF_succ, fqStep, if_neg]
  rintro (h3 | ⟨_, h3⟩)
  · omega
  · rw [h2] at h3; cases h3
theorem fqF_less {t : List Int} {n k : Nat} (h : cntP (prt t n k) t < (fqF t n k).2) : fqF t n (k + 1) = fqF t n k := by
  rw [fqF_succ, fqStep, if_neg]
  rintro (h3 | ⟨h3, _⟩) <;> omega
theorem fqF_len (t : List Int) (n : Nat) : ∀ k, k + n ≤ t.length + 1 → (fqF t n k).1.length ≤ n ∧ ((fqF t n k).2 ≠ 0 → (fqF t n k).1.length = n)
  | 0, _ => ⟨by simp [fqF], fun h => absurd rfl h⟩
  | k + 1, h => by
    have ih := fqF_len t n k (by omega)
    rw [fqF_succ, fqStep]
    split
    · exact ⟨by rw [prt_len (by omega)]; exact Nat.le_refl _, fun _ => prt_len (by omega)⟩
    · exact ih
theorem fqF_cnt (t : List Int) (n : Nat) : ∀ k, (fqF t n k).2 ≤ t.length
  | 0 => by simp [fqF]
  | k + 1 => by
    rw [fqF_succ, fqStep]
    split
    · exact cntP_le _ _
    · exact fqF_cnt t n k
/-- the most frequent phrase, how often, the code -/
def freqE (t : List Int) (n : Int) : List Int × Int × Int := if pitB t = true then (if inB n 2 8 = true then (if (fqF t n.toNat (t.length + 1 - n.toNat)).2 = 0 then ([], 0, 3) else ((fqF t n.toNat (t.length + 1 - n.toNat)).1, ((fqF t n.toNat (t.length + 1 - n.toNat)).2 : Nat), 0)) else ([], 0, 2)) else ([], 0, 7)
def FqO (u : List Int × Int × Int) (w : World) (e : Ending) (w' : World) : Prop := ∃ v, e = .returned (.tuple #[v, .int .i64 u.2.1, .int .i64 u.2.2]) ∧ w'.ownsRow w.heap.size 2 1 v u.1.length (ints u.1) ∧ Below w.heap.size w w'
theorem fq_no {u : List Int × Int × Int} {c : Int} {w w' : World} (h : u = ([], 0, c)) (hb : Below w.heap.size w w') : FqO u w (.returned (.tuple #[.slice none 0 0, .int .i64 0, .int .i64 c])) w' := by
  subst h; exact ⟨_, rfl, World.ownsRow_nil _ _ _ _, hb⟩
set_option maxHeartbeats 2000000 in
theorem spec_own (b off c : Nat) (zs : List Int) (w : World) (h1 : zs.length ≤ 1048576) (hc : ∀ k, k < zs.length → w.cell? ⟨b, off + k, none⟩ = some (.int .i64 (zs.getD k 0))) (hb : b < w.heap.size) :
    Calls Try.prog 103 #[.slice (some ⟨b, off, none⟩) zs.length c] w (NewRow zs w) := by
  obtain ⟨i0, hi, hz0, hz1, hz2⟩ := info_parts infoI64
  have HO : Bx ((w.alloc (.cells #[] 2)).ownsRow w.heap.size 2 1 (.slice (some ⟨w.heap.size, 0, none⟩) 0 0) 0 []) := Bx.mk (World.ownsRow_lit _ _ _ (Nat.le_refl _) (by decide) (by decide))
  have HN : Bx (∀ j u, (ints zs)[j]? = some u → (w.alloc (.cells #[] 2)).cell? ((⟨b, off, none⟩ : Addr).add j) = some u) := Bx.mk (fun j u hj => by
    have hlt : j < zs.length := by
      rcases Nat.lt_or_ge j zs.length with h | h
      · exact h
      · rw [List.getElem?_eq_none (by simp [ints]; exact h)] at hj; cases hj
    have e : u = .int .i64 (zs.getD j 0) := by
      simp [ints, hlt] at hj
      rw [← hj]; simp [List.getD, hlt]
    subst e
    have := hc j hlt
    have hb2 := ((Below.refl w.heap.size w).alloc (Nat.le_refl _) (.cells #[] 2)).cell (p := ⟨b, off + j, none⟩) hb
    have ea : (⟨b, off, none⟩ : Addr).add j = ⟨b, off + j, none⟩ := by simp [Addr.add]
    rw [ea]
    exact hb2.trans this)
  go_enter Try.func103, Try.ntmps103
  go_wp2_with ((at_builtin; refine wpList_append_own _ rfl _ _ 22 rfl w.heap.size 2 i0 (.int .i64 0) 1 8 Try.underlying22 hi hz0 hz1 hz2 rfl (by decide) _ _ _ rfl HO.out ⟨b, off, none⟩ zs.length c (ints zs) rfl (by simp [ints]) HN.out (fun x hx => by simp [ints] at hx; obtain ⟨a, _, rfl⟩ := hx; rfl) (by unfold maxLen; omega) (by omega) (by simp) ?_; intro v' w3 hown' hgrow3 hnil3; have HO3 := Bx.mk hown'; have HB3 := Bx.mk (Below.grown ((Below.refl w.heap.size w).alloc (Nat.le_refl _) (.cells #[] 2)) hgrow3 (by simp) (own_ge' HO.out)); clear hown' hgrow3 hnil3))
  go_ret
  exact ⟨_, rfl, by have := HO3.out; simpa using this, HB3.out⟩
end Go.Proofs.Ytpbgjlmcafmejaa
