/- Tunings: the laws' own functions eqTuning, markTuning, heldTuning, toTuning, szTuning. -/
import Derived.Test.YtobhmoohalkijaaDoorTu3
namespace Go.Proofs.YtobhmoohalkijaaDoor
open Go.ChangeShapes Go.WideShapes Go.ChangeAt Go.RowKit
set_option linter.unusedVariables false
set_option linter.unusedSimpArgs false
set_option maxRecDepth 100000

set_option maxHeartbeats 1000000 in
theorem eq_tun (s t : ByteArray) (va vb : Value) (xs ys : List (Int × Int)) (w : World) (ha : PrsAt w va xs) (hb : PrsAt w vb ys) (hx : xs.length ≤ 281474976710656) (hy : ys.length ≤ 281474976710656) :
    Calls Tryd.prog 9 #[tun s va, tun t vb] w fun e w' => e = .returned (.bool (decide (s = t ∧ xs = ys))) ∧ Below w.heap.size w w' := by
  have hq := fun W h1 h2 => eq_prs va vb xs ys W h1 h2 hx hy
  have HA := Bx.mk ha
  have HB := Bx.mk hb
  unfold tun
  clear ha hb hx hy
  by_cases hst : s = t
  · have HE : decide (s = t ∧ xs = ys) = decide (xs = ys) := by simp [hst]
    rw [HE]
    clear HE
    subst hst
    generalize decide (xs = ys) = b at hq ⊢
    rcases Bool.eq_false_or_eq_true b with hd | hd
    · subst hd
      go_enter Tryd.func9, Tryd.ntmps9
      go_wp2_with (fail)
      refine (hq _ ?_ ?_).mono ?_
      · refine PrsAt.below HA.out ?_
        repeat' (first | (with_reducible exact Below.refl _ _) | (with_reducible assumption) | (with_reducible refine Below.drew ?_) | (with_reducible refine Below.alloc ?_ ?_ _) | (with_reducible refine below_draws ?_ _) | (with_reducible refine Below.setCell ?_ ?_ _) | go_size)
      · refine PrsAt.below HB.out ?_
        repeat' (first | (with_reducible exact Below.refl _ _) | (with_reducible assumption) | (with_reducible refine Below.drew ?_) | (with_reducible refine Below.alloc ?_ ?_ _) | (with_reducible refine below_draws ?_ _) | (with_reducible refine Below.setCell ?_ ?_ _) | go_size)
      rintro r w1 ⟨rfl, hb1⟩
      have B1 : Bx (Below w.heap.size w w1) := Bx.mk (Below.trans (by repeat' (first | (with_reducible exact Below.refl _ _) | (with_reducible assumption) | (with_reducible refine Below.drew ?_) | (with_reducible refine Below.alloc ?_ ?_ _) | (with_reducible refine below_draws ?_ _) | (with_reducible refine Below.setCell ?_ ?_ _) | go_size)) (hb1.mono (by go_size)))
      clear hb1
      go_wp2_with (fail)
      go_ret
      exact ⟨rfl, B1.out⟩
    · subst hd
      go_enter Tryd.func9, Tryd.ntmps9
      go_wp2_with (fail)
      refine (hq _ ?_ ?_).mono ?_
      · refine PrsAt.below HA.out ?_
        repeat' (first | (with_reducible exact Below.refl _ _) | (with_reducible assumption) | (with_reducible refine Below.drew ?_) | (with_reducible refine Below.alloc ?_ ?_ _) | (with_reducible refine below_draws ?_ _) | (with_reducible refine Below.setCell ?_ ?_ _) | go_size)
      · refine PrsAt.below HB.out ?_
        repeat' (first | (with_reducible exact Below.refl _ _) | (with_reducible assumption) | (with_reducible refine Below.drew ?_) | (with_reducible refine Below.alloc ?_ ?_ _) | (with_reducible refine below_draws ?_ _) | (with_reducible refine Below.setCell ?_ ?_ _) | go_size)
      rintro r w1 ⟨rfl, hb1⟩
      have B1 : Bx (Below w.heap.size w w1) := Bx.mk (Below.trans (by repeat' (first | (with_reducible exact Below.refl _ _) | (with_reducible assumption) | (with_reducible refine Below.drew ?_) | (with_reducible refine Below.alloc ?_ ?_ _) | (with_reducible refine below_draws ?_ _) | (with_reducible refine Below.setCell ?_ ?_ _) | go_size)) (hb1.mono (by go_size)))
      clear hb1
      go_wp2_with (fail)
      go_ret
      exact ⟨rfl, B1.out⟩
  · have HE : decide (s = t ∧ xs = ys) = false := by simp [hst]
    rw [HE]
    have h0 : (!s.toList == t.toList) = true := by
      rw [ByteArray.toList_eq, ByteArray.toList_eq]
      simp only [Bool.not_eq_true', beq_eq_false_iff_ne]
      intro h; apply hst
      cases s; cases t; simp_all
    clear HE hq
    go_enter Tryd.func9, Tryd.ntmps9
    go_wp2_with (fail)
    go_ret
    refine ⟨rfl, ?_⟩
    repeat' (first | (with_reducible exact Below.refl _ _) | (with_reducible assumption) | (with_reducible refine Below.drew ?_) | (with_reducible refine Below.alloc ?_ ?_ _) | (with_reducible refine below_draws ?_ _) | (with_reducible refine Below.setCell ?_ ?_ _) | go_size)
set_option maxHeartbeats 1000000 in
theorem mark_tun (s : ByteArray) (v : Value) (l : List (Int × Int)) (base : Nat) (k : Int) (w : World) (h : w.ownsRow base 50 2 v l.length (pcl l)) (hn : l.length ≤ 281474976710656) (hk : 0 ≤ k) (hk2 : k ≤ 1000000000) :
    Calls Tryd.prog 10 #[tun s v, .int .i64 k] w fun e w' => e = .returned (.int .i64 (k + 2 * l.length)) ∧ w'.ownsRow base 50 2 v l.length (pcl (pmk l.length k)) ∧ (w.alloc (.cells #[.string s, v] 24)).grownBy w' v.ownBlock := by
  have hm := fun W hW => mark_prs v l base k W hW hn hk hk2
  have HO := Bx.mk (World.ownsRow.alloc h (.cells #[.string s, v] 24))
  unfold tun
  clear h
  go_enter Tryd.func10, Tryd.ntmps10
  go_wp2_with (fail)
  refine (hm _ HO.out).mono ?_
  rintro r w1 ⟨rfl, ho, hg⟩
  have HR := Bx.mk (And.intro ho hg)
  clear ho hg
  go_wp2_with (fail)
  go_ret
  exact ⟨rfl, HR.out⟩
set_option maxHeartbeats 1000000 in
theorem held_tun (s : ByteArray) (v : Value) (n : Nat) (k : Int) (w : World) (h : PrsAt w v (pmk n k)) (hn : n ≤ 281474976710656) (hk : 0 ≤ k) (hk2 : k ≤ 1000000000) :
    Calls Tryd.prog 11 #[tun s v, .int .i64 k] w fun e w' => e = .returned (.int .i64 (k + 2 * n)) ∧ Below w.heap.size w w' := by
  have hm := fun W hW => held_prs v n k W hW hn hk hk2
  have HO := Bx.mk h
  unfold tun
  clear h
  have h0 : decide (k + 2 * (n : Int) < 0) = false := decide_eq_false (by omega)
  generalize k + 2 * (n : Int) = z at *
  go_enter Tryd.func11, Tryd.ntmps11
  go_wp2_with (fail)
  refine (hm _ (HO.out.below ((Below.refl _ _).alloc (Nat.le_refl _) _))).mono ?_
  rintro r w1 ⟨rfl, rfl⟩
  go_wp2_with (fail)
  go_ret
  exact ⟨rfl, (Below.refl _ _).alloc (Nat.le_refl _) _⟩
/-- a block of two values -/
def BoxAt (w : World) (g : Nat) (x y : Value) (t : TypeId) : Prop := w.heap[g]? = some (.cells #[x, y] t (0, 0))
theorem BoxAt.c0 {w : World} {g : Nat} {x y : Value} {t : TypeId} (h : BoxAt w g x y t) : w.cell? ⟨g, 0, none⟩ = some x := by unfold BoxAt at h; simp [World.cell?, h]
theorem BoxAt.c1 {w : World} {g : Nat} {x y : Value} {t : TypeId} (h : BoxAt w g x y t) : w.cell? ⟨g, 1, none⟩ = some y := by unfold BoxAt at h; simp [World.cell?, h]
theorem BoxAt.f0 {w : World} {g : Nat} {x y : Value} {t : TypeId} (h : BoxAt w g x y t) (o : Nat) : w.frozen? ⟨g, o, none⟩ = false := by unfold BoxAt at h; simp [World.frozen?, h]
theorem BoxAt.lt {w : World} {g : Nat} {x y : Value} {t : TypeId} (h : BoxAt w g x y t) : g < w.heap.size := by
  unfold BoxAt at h
  rcases Nat.lt_or_ge g w.heap.size with h1 | h1
  · exact h1
  · rw [Array.getElem?_eq_none h1] at h; cases h
theorem BoxAt.below {w w' : World} {g : Nat} {x y : Value} {t : TypeId} (h : BoxAt w g x y t) (hb : Below w.heap.size w w') : BoxAt w' g x y t := by
  have := hb.block g h.lt
  unfold BoxAt at h ⊢
  rw [this, h]
theorem BoxAt.alloc {w : World} {g : Nat} {x y : Value} {t : TypeId} (h : BoxAt w g x y t) (o : Obj) : BoxAt (w.alloc o) g x y t := h.below ((Below.refl _ _).alloc (Nat.le_refl _) _)
theorem BoxAt.draws {w : World} {g : Nat} {x y : Value} {t : TypeId} (h : BoxAt w g x y t) (k : Nat) : BoxAt (w.drewN k) g x y t := h
theorem BoxAt.drew1 {w : World} {g : Nat} {x y : Value} {t : TypeId} (h : BoxAt w g x y t) : BoxAt w.drew g x y t := h
theorem BoxAt.at (w : World) (g : Nat) (x y : Value) (t : TypeId) (h : g = w.heap.size) : BoxAt (w.alloc (.cells #[x, y] t)) g x y t := by subst h; exact heap_alloc_new w _
theorem BoxAt.put0 {w : World} {g : Nat} {x y : Value} {t : TypeId} (h : BoxAt w g x y t) (u : Value) : BoxAt (w.setCell ⟨g, 0, none⟩ u) g u y t := heap_setCell_same w g 0 _ _ u h
theorem BoxAt.put1 {w : World} {g : Nat} {x y : Value} {t : TypeId} (h : BoxAt w g x y t) (u : Value) : BoxAt (w.setCell ⟨g, 1, none⟩ u) g x u t := heap_setCell_same w g 1 _ _ u h
theorem BoxAt.other {w : World} {g b o : Nat} {x y : Value} {t : TypeId} (hg : b ≠ g) (h : BoxAt w g x y t) (u : Value) : BoxAt (w.setCell ⟨b, o, none⟩ u) g x y t := by
  unfold BoxAt at h ⊢
  rw [Below.heap_setCell _ _ _ _ (by show g ≠ b; omega)]; exact h
theorem own_down {w : World} {b1 b2 e size n : Nat} {v : Value} {xs : List Value} (hb : b1 ≤ b2) (h : w.ownsRow b2 e size v n xs) : w.ownsRow b1 e size v n xs := by
  refine ⟨h.1, ?_⟩
  rcases h.2 with h | ⟨g, cap, cur, hv, hg, hr⟩
  · exact .inl h
  · exact .inr ⟨g, cap, cur, hv, Nat.le_trans hb hg, hr⟩
theorem own_set {w : World} {base b e size n : Nat} {v : Value} {xs : List Value} (h : w.ownsRow base e size v n xs) (hb : b < base) (o : Nat) (u : Value) : (w.setCell ⟨b, o, none⟩ u).ownsRow base e size v n xs := by
  refine ⟨h.1, ?_⟩
  rcases h.2 with h2 | ⟨g, cap, cur, hv, hg, hc, r⟩
  · exact .inl h2
  · exact .inr ⟨g, cap, cur, hv, hg, by rw [Below.heap_setCell _ _ _ _ (by show g ≠ b; omega)]; exact hc, r⟩
end Go.Proofs.YtobhmoohalkijaaDoor
