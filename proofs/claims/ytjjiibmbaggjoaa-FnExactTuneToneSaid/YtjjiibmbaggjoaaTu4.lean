/- Tunings: the laws' own functions eqTuning, markTuning, heldTuning, toTuning, szTuning. -/
import Derived.Test.YtjjiibmbaggjoaaTu3
namespace Go.Proofs.Ytjjiibmbaggjoaa
open Go.ChangeShapes Go.WideShapes Go.ChangeAt Go.RowKit
set_option linter.unusedVariables false
set_option linter.unusedSimpArgs false
set_option maxRecDepth 100000

set_option maxHeartbeats 1000000 in
theorem eq_tun (s t : ByteArray) (va vb : Value) (xs ys : List (Int × Int)) (w : World) (ha : PrsAt w va xs) (hb : PrsAt w vb ys) (hx : xs.length ≤ 281474976710656) (hy : ys.length ≤ 281474976710656) :
    Calls Try.prog 50 #[tun s va, tun t vb] w fun e w' => e = .returned (.bool (decide (s = t ∧ xs = ys))) ∧ Below w.heap.size w w' := by
  have hq := fun W h1 h2 => eq_prs va vb xs ys W h1 h2 hx hy
  have HA := Bx.mk ha
  have HB := Bx.mk hb
  unfold tun
  clear ha hb hx hy
  by_cases hst : s = t
  · have HE : decide (s = t ∧ xs = ys) = decide (xs = ys) := by simp [hst]
    rw [HE]
    clear HE
    subst hst
    generalize decide (xs = ys) = b at hq ⊢
    rcases Bool.eq_false_or_eq_true b with hd | hd
    · subst hd
      go_enter Try.func50, Try.ntmps50
      go_wp2_with (fail)
      refine (hq _ ?_ ?_).mono ?_
      · refine PrsAt.below HA.out ?_
        repeat' (first | (with_reducible exact Below.refl _ _) | (with_reducible assumption) | (with_reducible refine Below.drew ?_) | (with_reducible refine Below.alloc ?_ ?_ _) | (with_reducible refine below_draws ?_ _) | (with_reducible refine Below.setCell ?_ ?_ _) | go_size)
      · refine PrsAt.below HB.out ?_
        repeat' (first | (with_reducible exact Below.refl _ _) | (with_reducible assumption) | (with_reducible refine Below.drew ?_) | (with_reducible refine Below.alloc ?_ ?_ _) | (with_reducible refine below_draws ?_ _) | (with_reducible refine Below.setCell ?_ ?_ _) | go_size)
      rintro r w1 ⟨rfl, hb1⟩
      have B1 : Bx (Below w.heap.size w w1) := Bx.mk (Below.trans (by repeat' (first | (with_reducible exact Below.refl _ _) | (with_reducible assumption) | (with_reducible refine Below.drew ?_) | (with_reducible refine Below.alloc ?_ ?_ _) | (with_reducible refine below_draws ?_ _) | (with_reducible refine Below.setCell ?_ ?_ _) | go_size)) (hb1.mono (by go_size)))
      clear hb1
      go_wp2_with (fail)
      go_ret
      exact ⟨rfl, B1.out⟩
    · subst hd
      go_enter Try.func50, Try.ntmps50
      go_wp2_with (fail)
      refine (hq _ ?_ ?_).mono ?_
      · refine PrsAt.below HA.out ?_
        repeat' (first | (with_reducible exact Below.refl _ _) | (with_reducible assumption) | (with_reducible refine Below.drew ?_) | (with_reducible refine Below.alloc ?_ ?_ _) | (with_reducible refine below_draws ?_ _) | (with_reducible refine Below.setCell ?_ ?_ _) | go_size)
      · refine PrsAt.below HB.out ?_
        repeat' (first | (with_reducible exact Below.refl _ _) | (with_reducible assumption) | (with_reducible refine Below.drew ?_) | (with_reducible refine Below.alloc ?_ ?_ _) | (with_reducible refine below_draws ?_ _) | (with_reducible refine Below.setCell ?_ ?_ _) | go_size)
      rintro r w1 ⟨rfl, hb1⟩
      have B1 : Bx (Below w.heap.size w w1) := Bx.mk (Below.trans (by repeat' (first | (with_reducible exact Below.refl _ _) | (with_reducible assumption) | (with_reducible refine Below.drew ?_) | (with_reducible refine Below.alloc ?_ ?_ _) | (with_reducible refine below_draws ?_ _) | (with_reducible refine Below.setCell ?_ ?_ _) | go_size)) (hb1.mono (by go_size)))
      clear hb1
      go_wp2_with (fail)
      go_ret
      exact ⟨rfl, B1.out⟩
  · have HE : decide (s = t ∧ xs = ys) = false := by simp [hst]
    rw [HE]
    have h0 : (!s.toList == t.toList) = true := by
      rw [ByteArray.toList_eq, ByteArray.toList_eq]
      simp only [Bool.not_eq_true', beq_eq_false_iff_ne]
      intro h; apply hst
      cases s; cases t; simp_all
    clear HE hq
    go_enter Try.func50, Try.ntmps50
    go_wp2_with (fail)
    go_ret
    refine ⟨rfl, ?_⟩
    repeat' (first | (with_reducible exact Below.refl _ _) | (with_reducible assumption) | (with_reducible refine Below.drew ?_) | (with_reducible refine Below.alloc ?_ ?_ _) | (with_reducible refine below_draws ?_ _) | (with_reducible refine Below.setCell ?_ ?_ _) | go_size)
set_option maxHeartbeats 1000000 in
theorem mark_tun (s : ByteArray) (v : Value) (l : List (Int × Int)) (base : Nat) (k : Int) (w : World) (h : w.ownsRow base 63 2 v l.length (pcl l)) (hn : l.length ≤ 281474976710656) (hk : 0 ≤ k) (hk2 : k ≤ 1000000000) :
    Calls Try.prog 51 #[tun s v, .int .i64 k] w fun e w' => e = .returned (.int .i64 (k + 2 * l.length)) ∧ w'.ownsRow base 63 2 v l.length (pcl (pmk l.length k)) ∧ (w.alloc (.cells #[.string s, v] 59)).grownBy w' v.ownBlock := by
  have hm := fun W hW => mark_prs v l base k W hW hn hk hk2
  have HO := Bx.mk (World.ownsRow.alloc h (.cells #[.string s, v] 59))
  unfold tun
  clear h
  go_enter Try.func51, Try.ntmps51
  go_wp2_with (fail)
  refine (hm _ HO.out).mono ?_
  rintro r w1 ⟨rfl, ho, hg⟩
  have HR := Bx.mk (And.intro ho hg)
  clear ho hg
  go_wp2_with (fail)
  go_ret
  exact ⟨rfl, HR.out⟩
set_option maxHeartbeats 1000000 in
theorem held_tun (s : ByteArray) (v : Value) (n : Nat) (k : Int) (w : World) (h : PrsAt w v (pmk n k)) (hn : n ≤ 281474976710656) (hk : 0 ≤ k) (hk2 : k ≤ 1000000000) :
    Calls Try.prog 52 #[tun s v, .int .i64 k] w fun e w' => e = .returned (.int .i64 (k + 2 * n)) ∧ Below w.heap.size w w' := by
  have hm := fun W hW => held_prs v n k W hW hn hk hk2
  have HO := Bx.mk h
  unfold tun
  clear h
  have h0 : decide (k + 2 * (n : Int) < 0) = false := decide_eq_false (by omega)
  generalize k + 2 * (n : Int) = z at *
  go_enter Try.func52, Try.ntmps52
  go_wp2_with (fail)
  refine (hm _ (HO.out.below ((Below.refl _ _).alloc (Nat.le_refl _) _))).mono ?_
  rintro r w1 ⟨rfl, rfl⟩
  go_wp2_with (fail)
  go_ret
  exact ⟨rfl, (Below.refl _ _).alloc (Nat.le_refl _) _⟩
/-- a block of two values -/
def BoxAt (w : World) (g : Nat) (x y : Value) (t : TypeId) : Prop := w.heap[g]? = some (.cells #[x, y] t (0, 0))
theorem BoxAt.c0 {w : World} {g : Nat} {x y : Value} {t : TypeId} (h : BoxAt w g x y t) : w.cell? ⟨g, 0, none⟩ = some x := by unfold BoxAt at h; simp [World.cell?, h]
theorem BoxAt.c1 {w : World} {g : Nat} {x y : Value} {t : TypeId} (h : BoxAt w g x y t) : w.cell? ⟨g, 1, none⟩ = some y := by unfold BoxAt at h; simp [World.cell?, h]
theorem BoxAt.f0 {w : World} {g : Nat} {x y : Value} {t : TypeId} (h : BoxAt w g x y t) (o : Nat) : w.frozen? ⟨g, o, none⟩ = false := by unfold BoxAt at h; simp [World.frozen?, h]
theorem BoxAt.lt {w : World} {g : Nat} {x y : Value} {t : TypeId} (h : BoxAt w g x y t) : g < w.heap.size := by
  unfold BoxAt at h
  rcases Nat.lt_or_ge g w.heap.size with h1 | h1
  · exact h1
  · rw [Array.getElem?_eq_none h1] at h; cases h
theorem BoxAt.below {w w' : World} {g : Nat} {x y : Value} {t : TypeId} (h : BoxAt w g x y t) (hb : Below w.heap.size w w') : BoxAt w' g x y t := by
  have := hb.block g h.lt
  unfold BoxAt at h ⊢
  rw [this, h]
theorem BoxAt.alloc {w : World} {g : Nat} {x y : Value} {t : TypeId} (h : BoxAt w g x y t) (o : Obj) : BoxAt (w.alloc o) g x y t := h.below ((Below.refl _ _).alloc (Nat.le_refl _) _)
theorem BoxAt.draws {w : World} {g : Nat} {x y : Value} {t : TypeId} (h : BoxAt w g x y t) (k : Nat) : BoxAt (w.drewN k) g x y t := h
theorem BoxAt.drew1 {w : World} {g : Nat} {x y : Value} {t : TypeId} (h : BoxAt w g x y t) : BoxAt w.drew g x y t := h
theorem BoxAt.at (w : World) (g : Nat) (x y : Value) (t : TypeId) (h : g = w.heap.size) : BoxAt (w.alloc (.cells #[x, y] t)) g x y t := by subst h; exact heap_alloc_new w _
theorem BoxAt.put0 {w : World} {g : Nat} {x y : Value} {t : TypeId} (h : BoxAt w g x y t) (u : Value) : BoxAt (w.setCell ⟨g, 0, none⟩ u) g u y t := heap_setCell_same w g 0 _ _ u h
theorem BoxAt.put1 {w : World} {g : Nat} {x y : Value} {t : TypeId} (h : BoxAt w g x y t) (u : Value) : BoxAt (w.setCell ⟨g, 1, none⟩ u) g x u t := heap_setCell_same w g 1 _ _ u h
theorem BoxAt.other {w : World} {g b o : Nat} {x y : Value} {t : TypeId} (hg : b ≠ g) (h : BoxAt w g x y t) (u : Value) : BoxAt (w.setCell ⟨b, o, none⟩ u) g x y t := by
  unfold BoxAt at h ⊢
  rw [Below.heap_setCell _ _ _ _ (by show g ≠ b; omega)]; exact h
theorem own_down {w : World} {b1 b2 e size n : Nat} {v : Value} {xs : List Value} (hb : b1 ≤ b2) (h : w.ownsRow b2 e size v n xs) : w.ownsRow b1 e size v n xs := by
  refine ⟨h.1, ?_⟩
  rcases h.2 with h | ⟨g, cap, cur, hv, hg, hr⟩
  · exact .inl h
  · exact .inr ⟨g, cap, cur, hv, Nat.le_trans hb hg, hr⟩
theorem own_set {w : World} {base b e size n : Nat} {v : Value} {xs : List Value} (h : w.ownsRow base e size v n xs) (hb : b < base) (o : Nat) (u : Value) : (w.setCell ⟨b, o, none⟩ u).ownsRow base e size v n xs := by
  refine ⟨h.1, ?_⟩
  rcases h.2 with h2 | ⟨g, cap, cur, hv, hg, hc, r⟩
  · exact .inl h2
  · exact .inr ⟨g, cap, cur, hv, hg, by rw [Below.heap_setCell _ _ _ _ (by show g ≠ b; omega)]; exact hc, r⟩
set_option maxHeartbeats 1000000 in
theorem copy_tun (s : ByteArray) (v : Value) (l : List (Int × Int)) (w : World) (h : PrsAt w v l) (hn : l.length ≤ 17592186044416) :
    Calls Try.prog 47 #[tun s v] w fun e w' => ∃ u, e = .returned (tun s u) ∧ w'.ownsRow w.heap.size 63 2 u l.length (pcl l) ∧ Below w.heap.size w w' := by
  have hm := fun W hW => copy_prs v l W hW hn
  have HO := Bx.mk h
  unfold tun
  clear h hn
  go_enter Try.func47, Try.ntmps47
  go_wp2_with (fail)
  refine (hm _ (HO.out.below (((Below.refl _ _).alloc (Nat.le_refl _) _ |>.alloc (by simp) _).alloc (by simp; omega) _))).mono ?_
  rintro r w1 ⟨u, rfl, ho, hb1⟩
  obtain ⟨A, c, rfl⟩ := own_len ho
  have K1 : Bx (BoxAt w1 (w.heap.size + 1) (.string ⟨#[]⟩) (.slice none 0 0) 59) := Bx.mk (BoxAt.below ((BoxAt.at _ _ _ _ _ (by simp)).alloc _) hb1)
  have K2 : Bx (BoxAt w1 (w.heap.size + 1 + 1) (.string s) (.slice none 0 0) 59) := Bx.mk (BoxAt.below (BoxAt.at _ _ _ _ _ (by simp)) hb1)
  have B1 : Bx (Below w.heap.size w w1) := Bx.mk (Below.trans (((Below.refl _ _).alloc (Nat.le_refl _) _ |>.alloc (by simp) _).alloc (by simp; omega) _) (hb1.mono (by simp; omega)))
  have HU : Bx (w1.ownsRow (w.heap.size + 1 + 1 + 1) 63 2 (.slice A l.length c) l.length (pcl l)) := Bx.mk (by simpa using ho)
  clear ho hb1 hm HO
  have k10 := K1.out.c0
  have k11 := K1.out.c1
  have k1f0 := K1.out.f0 0
  have k1f1 := K1.out.f0 1
  have k1l := K1.out.lt
  have k20 := K2.out.c0
  have k21 := K2.out.c1
  have k2f0 := K2.out.f0 0
  have k2f1 := K2.out.f0 1
  have k2l := K2.out.lt
  go_wp2_with (fail)
  have P1 := (((BoxAt.other (b := w.heap.size + 1 + 1) (o := 1) (by omega) K1.out (.slice A l.length c)).put0 (.string s)).put1 (.slice A l.length c))
  refine bodyPost_ret (v := .agg #[.string s, .slice A l.length c]) (by simp [results, Try.results47, go_sem, P1.c0, P1.c1]) rfl ?_
  refine ⟨_, rfl, ?_, ?_⟩
  · refine own_down (b2 := w.heap.size + 1 + 1 + 1) (by omega) ?_
    refine own_set (own_set (own_set HU.out ?_ _ _) ?_ _ _) ?_ _ _ <;> omega
  · refine ((B1.out.setCell ?_ _).setCell ?_ _).setCell ?_ _ <;> (dsimp only; omega)
end Go.Proofs.Ytjjiibmbaggjoaa
