/- The model's PowerRatio. -/
import Derived.Test.YtobhmoohalkijaaDoorRatE
namespace Go.Proofs.YtobhmoohalkijaaDoor
open Go.ChangeShapes Go.WideShapes Go.ChangeAt Go.RowKit
set_option linter.unusedVariables false
set_option linter.unusedSimpArgs false
set_option maxRecDepth 100000

/-- the product of so many times a ratio, and a code -/
def powS (n d : Int) : Nat → Int × Int × Int
  | 0 => (1, 1, 0)
  | k + 1 => if (powS n d k).2.2 = 0 then doneR ((powS n d k).1 * n) ((powS n d k).2.1 * d) else (0, 0, 5)
def powE (n d k : Int) : Int × Int × Int := if okR n d = true then (if inB k 0 40 = true then powS n d k.toNat else (0, 0, 2)) else (0, 0, 1)
theorem pow_err (n d : Int) (k j : Nat) (h : powS n d k = (0, 0, 5)) : powS n d (k + j) = (0, 0, 5) := by
  induction j with
  | zero => exact h
  | succ j ih => rw [Nat.add_succ, powS, ih]; rfl
theorem done_rng {n d a b : Int} (hn : 1 ≤ n) (hd : 1 ≤ d) (h : doneR n d = (a, b, 0)) : (1 ≤ a ∧ a ≤ 1000000) ∧ (1 ≤ b ∧ b ≤ 1000000) := by
  obtain ⟨a1, _, _⟩ := red_num n d hn
  obtain ⟨b1, _, _⟩ := red_num d n hd
  rw [gz_comm d n] at b1
  unfold doneR at h
  split at h
  · rename_i hc
    injection h with e1 e2
    injection e2 with e2 _
    subst e1 e2
    omega
  · injection h with e1 e2
    injection e2 with e2 e3
    cases e3
/-- a block of two numbers -/
def PairAt (w : World) (g : Nat) (n d : Int) : Prop := w.heap[g]? = some (.cells #[.int .i64 n, .int .i64 d] 50 (0, 0))
theorem PairAt.c0 {w : World} {g : Nat} {n d : Int} (h : PairAt w g n d) : w.cell? ⟨g, 0, none⟩ = some (.int .i64 n) := by unfold PairAt at h; simp [World.cell?, h]
theorem PairAt.c1 {w : World} {g : Nat} {n d : Int} (h : PairAt w g n d) : w.cell? ⟨g, 1, none⟩ = some (.int .i64 d) := by unfold PairAt at h; simp [World.cell?, h]
theorem PairAt.f0 {w : World} {g : Nat} {n d : Int} (h : PairAt w g n d) (o : Nat) : w.frozen? ⟨g, o, none⟩ = false := by unfold PairAt at h; simp [World.frozen?, h]
theorem PairAt.lt {w : World} {g : Nat} {n d : Int} (h : PairAt w g n d) : g < w.heap.size := by
  unfold PairAt at h
  rcases Nat.lt_or_ge g w.heap.size with h1 | h1
  · exact h1
  · rw [Array.getElem?_eq_none h1] at h; cases h
theorem PairAt.below {w w' : World} {g : Nat} {n d : Int} (h : PairAt w g n d) (hb : Below w.heap.size w w') : PairAt w' g n d := by
  have := hb.block g h.lt
  unfold PairAt at h ⊢
  rw [this, h]
theorem PairAt.alloc {w : World} {g : Nat} {n d : Int} (h : PairAt w g n d) (o : Obj) : PairAt (w.alloc o) g n d := h.below ((Below.refl _ _).alloc (Nat.le_refl _) _)
theorem PairAt.draws {w : World} {g : Nat} {n d : Int} (h : PairAt w g n d) (k : Nat) : PairAt (w.drewN k) g n d := h
theorem PairAt.new (w : World) (n d : Int) : PairAt (w.alloc (.cells #[.int .i64 n, .int .i64 d] 50)) w.heap.size n d := heap_alloc_new w _
theorem PairAt.at (w : World) (g : Nat) (n d : Int) (h : g = w.heap.size) : PairAt (w.alloc (.cells #[.int .i64 n, .int .i64 d] 50)) g n d := by subst h; exact heap_alloc_new w _
theorem PairAt.put {w : World} {g : Nat} {n d : Int} (h : PairAt w g n d) (m e : Int) : PairAt ((w.setCell ⟨g, 0, none⟩ (.int .i64 m)).setCell ⟨g, 1, none⟩ (.int .i64 e)) g m e := by
  have h1 := heap_setCell_same w g 0 _ _ (.int .i64 m) h
  exact heap_setCell_same _ g 1 _ _ (.int .i64 e) h1
theorem PairAt.other {w : World} {g b o : Nat} {n d : Int} (h : PairAt w g n d) (hg : b ≠ g) (u : Value) : PairAt (w.setCell ⟨b, o, none⟩ u) g n d := by
  unfold PairAt at h ⊢
  rw [Below.heap_setCell _ _ _ _ (by show g ≠ b; omega)]; exact h
def PowRel (n d m : Int) (w : World) (i : Value) (wr : World) : Prop := ∃ (k : Nat) (p q : Int), i = .int .i64 k ∧ k ≤ m ∧ powS n d k = (p, q, 0) ∧ (1 ≤ p ∧ p ≤ 1000000) ∧ (1 ≤ q ∧ q ≤ 1000000) ∧ Below w.heap.size w wr ∧ PairAt wr w.heap.size n d ∧ PairAt wr (w.heap.size + 1) 0 0 ∧ PairAt wr (w.heap.size + 1 + 1) p q
end Go.Proofs.YtobhmoohalkijaaDoor
