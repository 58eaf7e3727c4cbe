/- The decimal form: spec's l01Dec. -/
import Derived.Test.YtmbillcdlcgjiaaKit
import Derived.LoopTactic
import Derived.Below
import Derived.Laws.AppendOwn
import Derived.Laws.OwnMore
import Derived.OwnWalk
import Derived.Laws.BytesArg
import Derived.Lib.ItoaNum
import Derived.Maps.AppendAt
import Derived.Deep.AppendLies
namespace Go.Proofs.Ytmbillcdlcgjiaa
open Go.ChangeShapes Go.WideShapes Go.ChangeAt Go.RowKit
set_option linter.unusedVariables false
set_option linter.unusedSimpArgs false
set_option maxRecDepth 100000

/-- the digits of a number, the lowest first; none for 0 -/
def lowDigits (u : Nat) : List UInt8 := if h : u = 0 then [] else UInt8.ofNat (48 + u % 10) :: lowDigits (u / 10)
termination_by u
decreasing_by omega
theorem low_zero : lowDigits 0 = [] := by rw [lowDigits, dif_pos rfl]
theorem low_pos (u : Nat) (h : u ≠ 0) : lowDigits u = UInt8.ofNat (48 + u % 10) :: lowDigits (u / 10) := by rw [lowDigits, dif_neg h]
theorem low_rev (u : Nat) (h : u ≠ 0) : (lowDigits u).reverse = Lib.decDigits u := by
  induction u using Nat.strongRecOn with
  | ind u ih =>
    rw [low_pos u h, List.reverse_cons]
    by_cases h1 : u < 10
    · rw [Lib.decDigits, dif_pos h1, show u / 10 = 0 by omega, low_zero, show u % 10 = u by omega]; rfl
    · rw [Lib.decDigits, dif_neg h1, ih (u / 10) (by omega) (by omega)]
theorem low_len (u : Nat) (h : u < 10 ^ 20) : (lowDigits u).length ≤ 20 := by
  suffices ∀ k u, u < 10 ^ k → (lowDigits u).length ≤ k from this 20 u h
  intro k
  induction k with
  | zero => intro u hu; obtain rfl : u = 0 := by simpa using hu
            rw [low_zero]; exact Nat.le_refl _
  | succ k ih =>
    intro u hu
    by_cases h0 : u = 0
    · subst h0; rw [low_zero]; exact Nat.zero_le _
    · rw [low_pos u h0, List.length_cons]
      have := ih (u / 10) (by rw [Nat.pow_succ] at hu; omega)
      omega

theorem infoU8 : (Try.prog.info? 5).map (fun i => (i.zero, i.size, i.bytes)) = some (some (.int .u8 0), 1, 1) := by kernel_rfl
def bcells (l : List UInt8) : List Value := l.map fun b => .int .u8 (b.toNat : Int)

theorem bcells_snoc (l : List UInt8) (b : UInt8) : bcells (l ++ [b]) = bcells l ++ [.int .u8 (b.toNat : Int)] := by simp [bcells]
theorem bcells_len (l : List UInt8) : (bcells l).length = l.length := by simp [bcells]
theorem digit_val (N : Nat) : ((UInt8.ofNat (48 + N % 10)).toNat : Int) = 48 + (N : Int) % 10 := by
  rw [UInt8.toNat_ofNat', Nat.mod_eq_of_lt (by omega)]; omega
theorem low_step (l : List UInt8) (N : Nat) (R : List UInt8) (h : l ++ lowDigits N = R) (h0 : N ≠ 0) : (l ++ [UInt8.ofNat (48 + N % 10)]) ++ lowDigits (N / 10) = R := by
  rw [← h, low_pos N h0]; simp
theorem low_room (l : List UInt8) (N n : Nat) (h : l ++ lowDigits N = lowDigits n) (hn : n < 10 ^ 20) : l.length ≤ 20 := by
  have := low_len n hn
  rw [← h, List.length_append] at this
  omega

theorem own_ge {w : World} {base : Nat} {e : TypeId} {size n : Nat} {v : Value} {xs : List Value} (h : w.ownsRow base e size v n xs) : ∀ k, v.ownBlock = some k → base ≤ k := by
  intro k hk
  rcases h.2 with ⟨rfl, _⟩ | ⟨g, cap, cur, rfl, hb, _⟩
  · simp [Value.ownBlock] at hk
  · have : g = k := by simpa [Value.ownBlock] using hk
    omega
/-- behind an append onto a row of the call's own of one new block -/
theorem below_app {B : Nat} {a wr w3 : World} {e : TypeId} {size n : Nat} {v : Value} {xs : List Value} {o : Obj} (hb : Below B a wr) (hown : wr.ownsRow B e size v n xs) (hB : B ≤ a.heap.size)
    (hg : (wr.alloc o).grownBy w3 v.ownBlock) : Below B a w3 :=
  (hb.alloc (Nat.le_trans hB hb.size) o).grown hg (by have := hb.size; simp; omega) (own_ge hown)

theorem cells_of_own {w : World} {base g cap : Nat} {l : List UInt8} (h : w.ownsRow base 5 1 (.slice (some ⟨g, 0, none⟩) l.length cap) l.length (bcells l)) :
    ∀ k, k < l.length → w.cell? ⟨g, k, none⟩ = some (.int .u8 ((l.getD k 0).toNat : Int)) := fun k hk => by
  rw [h.cellAt k (by omega)]
  simp [bcells, hk]
theorem lt_of_own {w : World} {base g cap : Nat} {l : List UInt8} (h : w.ownsRow base 5 1 (.slice (some ⟨g, 0, none⟩) l.length cap) l.length (bcells l)) (hl : 0 < l.length) : g < w.heap.size := by
  obtain ⟨g', cap', hv, _, hlt⟩ := h.form hl
  simp at hv
  omega
theorem rev_step (L : List UInt8) (k : Nat) (hk : 1 ≤ k) (hl : k ≤ L.length) : (L.drop k).reverse ++ [L.getD (k - 1) 0] = (L.drop (k - 1)).reverse := by
  have e : L.drop (k - 1) = L.getD (k - 1) 0 :: L.drop k := by
    rw [List.drop_eq_getElem_cons (by omega), show k - 1 + 1 = k by omega]
    simp [List.getD, show k - 1 < L.length by omega]
  rw [e, List.reverse_cons]
theorem conv_bytes {W : World} {base g cap : Nat} {l : List UInt8} (h : W.ownsRow base 5 1 (.slice (some ⟨g, 0, none⟩) l.length cap) l.length (bcells l)) :
    (convert 154 9 (.slice (some ⟨g, 0, none⟩) l.length cap)).run Try.prog W = .ok (.string ⟨l.toArray⟩) W := by
  have hc := cells_of_own h
  have := run_convert_bytes_arg (P := Try.prog) W 154 5 Try.underlying154 Try.underlying5 g 0 l.length cap (l.map fun b => (b.toNat : Int)) (by simp)
    (fun i hi => by rw [Nat.zero_add, hc i hi]; simp [List.getD, hi]) 9 Try.underlying9
  rw [this]
  simp [strOfNums, Function.comp_def]
theorem itoa_pos (n : Int) (h : 0 < n) : (lowDigits n.natAbs).reverse = Lib.itoa n := by
  rw [low_rev _ (by omega)]; unfold Lib.itoa; rw [if_neg (by omega)]; congr 1; omega
theorem itoa_neg (n : Int) (h : n < 0) : (lowDigits n.natAbs ++ [45]).reverse = Lib.itoa n := by
  rw [List.reverse_append, low_rev _ (by omega)]; unfold Lib.itoa; rw [if_pos h]; rfl

end Go.Proofs.Ytmbillcdlcgjiaa
