/- Laws over tunings: what their walks keep. -/
import Derived.Test.YtjjiibmbaggjoaaTu4
import Derived.Test.YtjjiibmbaggjoaaTu5
import Derived.Test.YtjjiibmbaggjoaaHold
namespace Go.Proofs.Ytjjiibmbaggjoaa
open Go.ChangeShapes Go.WideShapes Go.ChangeAt Go.RowKit
set_option linter.unusedVariables false
set_option linter.unusedSimpArgs false
set_option maxRecDepth 100000

theorem Holds.grown {w W W' : World} {L : List (Nat × Nat × Value)} {row : Option Nat} (h : Holds w L W) (hg : W.grownBy W' row) (hn : ∀ p ∈ L, row ≠ some p.1) (hr : ∀ k, row = some k → w.heap.size ≤ k) : Holds w L W' := by
  refine ⟨fun p hp => ?_, h.2.grown hg h.2.size hr⟩
  obtain ⟨h1, h2⟩ := h.1 p hp
  refine ⟨?_, Nat.lt_of_lt_of_le h2 hg.size⟩
  have := hg.block p.1 h2 (fun e => hn p hp e.symm)
  unfold World.cell? at h1 ⊢
  rw [this]; exact h1
theorem Holds.bel {w W : World} {L : List (Nat × Nat × Value)} (h : Holds w L W) : Below w.heap.size w W := h.2
theorem bel_of {q W : World} {a b c d e f : Prop} (h : a ∧ b ∧ c ∧ d ∧ e ∧ f ∧ Below q.heap.size q W) : Below q.heap.size q W := h.2.2.2.2.2.2
theorem bel_up {w q W : World} {L : List (Nat × Nat × Value)} {a b c d e f : Prop} (H : Holds w L q) (h : a ∧ b ∧ c ∧ d ∧ e ∧ f ∧ Below q.heap.size q W) : Below w.heap.size w W := (Holds.bel H).trans ((bel_of h).mono (Holds.bel H).size)
theorem szT_ways (s : ByteArray) (l : List (Int × Int)) (k : Int) : szT s l k = -1 ∨ (szT s l k = k - s.size - l.length ∧ (s.size : Int) + l.length ≤ k) := by
  unfold szT szN
  split
  · exact .inl rfl
  · split
    · exact .inl rfl
    · exact .inr ⟨rfl, by omega⟩
theorem eq_tun_same (s : ByteArray) (va vb : Value) (xs : List (Int × Int)) (w : World) (ha : PrsAt w va xs) (hb : PrsAt w vb xs) (hx : xs.length ≤ 281474976710656) :
    Calls Try.prog 50 #[tun s va, tun s vb] w fun e w' => e = .returned (.bool true) ∧ Below w.heap.size w w' :=
  (eq_tun s s va vb xs xs w ha hb hx hx).mono fun _ _ ⟨he, h⟩ => ⟨by rw [he]; simp, h⟩
/-- a tuning made anew -/
def TunOut (s : ByteArray) (l : List (Int × Int)) (w : World) (e : Ending) (w' : World) : Prop :=
  ∃ v, e = .returned (tun s v) ∧ w'.ownsRow w.heap.size 63 2 v l.length (pcl l) ∧ Below w.heap.size w w'
/-- .. and something beside it -/
def TunOut2 (s : ByteArray) (l : List (Int × Int)) (cv : Value) (w : World) (e : Ending) (w' : World) : Prop :=
  ∃ v, e = .returned (.tuple #[tun s v, cv]) ∧ w'.ownsRow w.heap.size 63 2 v l.length (pcl l) ∧ Below w.heap.size w w'
theorem own_down2 {w : World} {b1 b2 e size n : Nat} {v : Value} {xs : List Value} (hb : b1 ≤ b2) (h : w.ownsRow b2 e size v n xs) : w.ownsRow b1 e size v n xs := own_down hb h
theorem PrsAt.alloc {w : World} {v : Value} {l : List (Int × Int)} (h : PrsAt w v l) (o : Obj) : PrsAt (w.alloc o) v l := h.below ((Below.refl _ _).alloc (Nat.le_refl _) _)
end Go.Proofs.Ytjjiibmbaggjoaa
