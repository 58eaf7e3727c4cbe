/- 'laws.FnExactSharedMoves' returns true at every input: SharedMoves on both sides is one function. -/
import Derived.Test.YtjjiibmbaggjoaaTu2
import Derived.Test.YtjjiibmbaggjoaaTu
import Derived.Test.YtjjiibmbaggjoaaKit
import Derived.Deep.WholeRow
import Derived.Test.YtjjiibmbaggjoaaRz
import Derived.Test.YtjjiibmbaggjoaaRi3
import Derived.Test.YtjjiibmbaggjoaaRu
import Derived.Deep.RegionHeld3
import Derived.Deep.RegionWith
namespace Go.Proofs.Ytjjiibmbaggjoaa
open Go.ChangeShapes Go.WideShapes Go.ChangeAt Go.RowKit
set_option linter.unusedVariables false
set_option linter.unusedSimpArgs false
set_option maxRecDepth 100000

theorem held_prs (v : Value) (n : Nat) (k : Int) (w : World) (h : PrsAt w v (pmk n k)) (hn : n ≤ 281474976710656) (hk : 0 ≤ k) (hk2 : k ≤ 1000000000) :
    Calls Try.prog 94 #[v, .int .i64 k] w fun e w' => e = .returned (.int .i64 (k + 2 * n)) ∧ w = w' := by
  rcases h with ⟨h0, A, c, rfl⟩ | ⟨b, o, c, rfl, _, h1⟩
  · obtain rfl : n = 0 := by have := congrArg List.length h0; rw [pmk_len] at this; simpa using this
    clear h0
    go_enter Try.func94, Try.ntmps94
    go_wp2
    refine wp_loop_rounds 1 ?_
    rw [rounds_succ]
    go_wp2
    go_ret
    exact ⟨ret_int (by simp), rfl⟩
  · rw [pmk_len] at h1 ⊢
    have H1 := Bx.mk h1
    clear h1
    go_enter Try.func94, Try.ntmps94
    go_wp2
    go_loop [1, 5] (fun q i => ∃ j : Nat, j ≤ n ∧ i = .int .i64 j ∧ q = .int .i64 (k + 2 * j)) (fun _ i => n - (intOf i).toNat)
    case atStart => exact ⟨0, Nat.zero_le _, rfl, by go_num⟩
    case round =>
      obtain ⟨j, hj, rfl, rfl⟩ := hrel
      by_cases hlt : j < n
      · have h1 := H1.out j hlt
        rw [pmk_at n k j hlt] at h1
        obtain ⟨h1, h2⟩ := h1
        go_wp2
        go_round
        case rel => exact ⟨j + 1, by omega, by go_num, by go_num⟩
        case measure => simp [intOf]; omega
      · obtain rfl : j = n := by omega
        go_wp2
        go_ret
        exact ⟨rfl, rfl⟩
theorem infoRatL : (Try.prog.info? 63).map (fun i => (i.zero, i.size, i.bytes)) = some (some (.agg #[.int .i64 0, .int .i64 0]), 2, 16) := by kernel_rfl
theorem made_two (n : Nat) : (madeCells #[.int .i64 0, .int .i64 0] (n * 2)).toList = pcl (List.replicate n (0, 0)) := by
  have h : (madeCells #[.int .i64 0, .int .i64 0] (n * 2)).toList = List.replicate (n * 2) (.int .i64 0) := by
    apply List.ext_getElem?
    intro j
    by_cases hj : j < n * 2
    · rcases Nat.mod_two_eq_zero_or_one j with e | e <;> simp [madeCells, hj, e]
    · simp [madeCells, hj]
  rw [h]
  clear h
  induction n with
  | zero => rfl
  | succ n ih => rw [show (n + 1) * 2 = n * 2 + 1 + 1 by omega, List.replicate_succ, List.replicate_succ, ih, List.replicate_succ, pcl_cons]
theorem zero_prow (w : World) (n : Nat) (hn : n ≤ 17592186044416) : (Instr.makeSlice 57 (.int .i64 (n : Int)) (.int .i64 (n : Int))).run Try.prog w = .ok (.slice (some ⟨w.heap.size, 0, none⟩) n n) (w.alloc (.cells (madeCells #[.int .i64 0, .int .i64 0] (n * 2)) 63)) := by
  obtain ⟨i0, hi, hz0, hz1, hz2⟩ := info_parts infoRatL
  have := run_make (P := Try.prog) w 57 63 i0 (.agg #[.int .i64 0, .int .i64 0]) Try.underlying57 hi hz0 .i64 .i64 (n : Int) (n : Int) (by omega) (by omega) (by rw [hz2]; omega) (by omega)
  rw [this, hz1]
  simp [Value.cells]
def pfil (l : List (Int × Int)) (i : Nat) : List (Int × Int) := l.take i ++ List.replicate (l.length - i) (0, 0)
theorem pfil_len (l : List (Int × Int)) (i : Nat) (h : i ≤ l.length) : (pfil l i).length = l.length := by simp [pfil]; omega
theorem pfil_zero (l : List (Int × Int)) : pfil l 0 = List.replicate l.length (0, 0) := by simp [pfil]
theorem pfil_all (l : List (Int × Int)) : pfil l l.length = l := by simp [pfil]
theorem pfil_step (l : List (Int × Int)) (i : Nat) (h : i < l.length) : (pfil l i).set i (pat l i) = pfil l (i + 1) := by
  unfold pfil
  rw [show l.length - i = (l.length - (i + 1)) + 1 by omega, List.replicate_succ, List.set_append_right _ _ (by rw [List.length_take]; omega), show i - (l.take i).length = 0 by rw [List.length_take]; omega, List.set_cons_zero, pat_get h, List.take_succ_eq_append_getElem h, List.append_assoc]
  rfl
set_option maxHeartbeats 1000000 in
theorem copy_prs (v : Value) (l : List (Int × Int)) (w : World) (h : PrsAt w v l) (hn : l.length ≤ 17592186044416) :
    Calls Try.prog 90 #[v] w fun e w' => ∃ u, e = .returned u ∧ w'.ownsRow w.heap.size 63 2 u l.length (pcl l) ∧ Below w.heap.size w w' := by
  rcases h with ⟨rfl, A, c, rfl⟩ | ⟨b, o, c, rfl, hb, h1⟩
  · have hm0 : ∀ W : World, (Instr.makeSlice 57 (.int .i64 0) (.int .i64 0)).run Try.prog W = .ok (.slice (some ⟨W.heap.size, 0, none⟩) 0 0) (W.alloc (.cells #[] 63)) := fun _ => by kernel_rfl
    have hmw := hm0 w
    clear hm0
    go_enter Try.func90, Try.ntmps90
    go_wp2
    refine wp_loop_rounds 1 ?_
    rw [rounds_succ]
    go_wp2
    go_ret
    exact ⟨_, rfl, World.ownsRow_lit _ _ _ (Nat.le_refl _) (by decide) (by decide), (Below.refl _ _).alloc (Nat.le_refl _) _⟩
  · have hmk0 := zero_prow w l.length hn
    have H1 := Bx.mk h1
    clear h1
    go_enter Try.func90, Try.ntmps90
    go_wp2
    go_loopw [4] (fun i wr => ∃ j : Nat, j ≤ l.length ∧ i = .int .i64 j ∧ Bx (wr.ownsRow w.heap.size 63 2 (.slice (some ⟨w.heap.size, 0, none⟩) l.length l.length) l.length (pcl (pfil l j)) ∧ Below w.heap.size w wr)) (fun i _ => l.length - (intOf i).toNat)
    case atStart =>
      refine ⟨0, Nat.zero_le _, rfl, Bx.mk ⟨?_, (Below.refl _ _).alloc (Nat.le_refl _) _⟩⟩
      have := World.ownsRow_lit (base := w.heap.size) (e := 63) (size := 2) w (madeCells #[.int .i64 0, .int .i64 0] (l.length * 2)) l.length (Nat.le_refl _) (by unfold maxLen; omega) (by rw [size_madeCells])
      rw [made_two, ← pfil_zero] at this
      exact this
    case round =>
      obtain ⟨j, hj, rfl, HB⟩ := hrel
      by_cases hlt : j < l.length
      · have hml := pfil_len l j hj
        have h1 := (HB.out.2.cell (p := ⟨b, o + j * 2, none⟩) hb).trans (H1.out j hlt).1
        have h2 := (HB.out.2.cell (p := ⟨b, o + j * 2 + 1, none⟩) hb).trans (H1.out j hlt).2
        have HP := Bx.mk (pfil_step l j hlt)
        generalize pat l j = p at h1 h2 HP
        obtain ⟨p1, p2⟩ := p
        have hq := fun W => law_toratio p1 p2 W
        unfold rat at hq
        go_wp2_with (fail)
        refine (hq _).mono ?_
        rintro r w1 ⟨rfl, hb1⟩
        have HO : Bx (w1.ownsRow w.heap.size 63 2 (.slice (some ⟨w.heap.size, 0, none⟩) l.length l.length) l.length (pcl (pfil l j)) ∧ Below w.heap.size w w1) := Bx.mk ⟨own_below HB.out.1 hb1, HB.out.2.trans (hb1.mono HB.out.2.size)⟩
        clear HB hb1 h1 h2
        have hc : w1.cell? ⟨w.heap.size, j * 2, none⟩ = some (.int .i64 (pat (pfil l j) j).1) := (HO.out.1.cellAt (j * 2) (by omega)).trans (pcl_at0 _ j (by omega))
        have hc1 : w1.cell? ⟨w.heap.size, j * 2 + 1, none⟩ = some (.int .i64 (pat (pfil l j) j).2) := (HO.out.1.cellAt (j * 2 + 1) (by omega)).trans (pcl_at1 _ j (by omega))
        have hf := HO.out.1.frozenAt (j * 2)
        have hf1 := HO.out.1.frozenAt (j * 2 + 1)
        have HS : Bx (((w1.setCell ⟨w.heap.size, j * 2, none⟩ (.int .i64 p1)).setCell ⟨w.heap.size, j * 2 + 1, none⟩ (.int .i64 p2)).ownsRow w.heap.size 63 2 (.slice (some ⟨w.heap.size, 0, none⟩) l.length l.length) l.length (pcl (pfil l (j + 1))) ∧ Below w.heap.size w ((w1.setCell ⟨w.heap.size, j * 2, none⟩ (.int .i64 p1)).setCell ⟨w.heap.size, j * 2 + 1, none⟩ (.int .i64 p2))) := Bx.mk (by
          have hs := HO.out.1.stored (j * 2) (.int .i64 p1)
          have hs2 := hs.1.stored (j * 2 + 1) (.int .i64 p2)
          rw [pcl_set _ j (p1, p2) (by omega), HP.out] at hs2
          exact ⟨hs2.1, (HO.out.2.setCell (Nat.le_refl _) _).setCell (Nat.le_refl _) _⟩)
        generalize (pat (pfil l j) j).1 = u0 at hc
        generalize (pat (pfil l j) j).2 = u1 at hc1
        clear HO hml HP hq
        go_wp2_with (fail)
        go_roundw
        case rel => exact ⟨j + 1, by omega, by go_num, HS⟩
        case measure => simp [intOf]; omega
      · obtain rfl : j = l.length := by omega
        have HE := HB.out
        rw [pfil_all] at HE
        have HE := Bx.mk HE
        clear HB
        go_wp2
        go_ret
        exact ⟨_, rfl, HE.out.1, HE.out.2⟩
end Go.Proofs.Ytjjiibmbaggjoaa

namespace Go.Proofs.Ytjjiibmbaggjoaa
open Go.ChangeShapes Go.WideShapes Go.ChangeAt Go.RowKit
set_option linter.unusedVariables false
set_option linter.unusedSimpArgs false
set_option maxRecDepth 100000

set_option maxHeartbeats 1000000 in
theorem eq_tun (s t : ByteArray) (va vb : Value) (xs ys : List (Int × Int)) (w : World) (ha : PrsAt w va xs) (hb : PrsAt w vb ys) (hx : xs.length ≤ 281474976710656) (hy : ys.length ≤ 281474976710656) :
    Calls Try.prog 50 #[tun s va, tun t vb] w fun e w' => e = .returned (.bool (decide (s = t ∧ xs = ys))) ∧ Below w.heap.size w w' := by
  have hq := fun W h1 h2 => eq_prs va vb xs ys W h1 h2 hx hy
  have HA := Bx.mk ha
  have HB := Bx.mk hb
  unfold tun
  clear ha hb hx hy
  by_cases hst : s = t
  · have HE : decide (s = t ∧ xs = ys) = decide (xs = ys) := by simp [hst]
    rw [HE]
    clear HE
    subst hst
    generalize decide (xs = ys) = b at hq ⊢
    rcases Bool.eq_false_or_eq_true b with hd | hd
    · subst hd
      go_enter Try.func50, Try.ntmps50
      go_wp2_with (fail)
      refine (hq _ ?_ ?_).mono ?_
      · refine PrsAt.below HA.out ?_
        repeat' (first | (with_reducible exact Below.refl _ _) | (with_reducible assumption) | (with_reducible refine Below.drew ?_) | (with_reducible refine Below.alloc ?_ ?_ _) | (with_reducible refine below_draws ?_ _) | (with_reducible refine Below.setCell ?_ ?_ _) | go_size)
      · refine PrsAt.below HB.out ?_
        repeat' (first | (with_reducible exact Below.refl _ _) | (with_reducible assumption) | (with_reducible refine Below.drew ?_) | (with_reducible refine Below.alloc ?_ ?_ _) | (with_reducible refine below_draws ?_ _) | (with_reducible refine Below.setCell ?_ ?_ _) | go_size)
      rintro r w1 ⟨rfl, hb1⟩
      have B1 : Bx (Below w.heap.size w w1) := Bx.mk (Below.trans (by repeat' (first | (with_reducible exact Below.refl _ _) | (with_reducible assumption) | (with_reducible refine Below.drew ?_) | (with_reducible refine Below.alloc ?_ ?_ _) | (with_reducible refine below_draws ?_ _) | (with_reducible refine Below.setCell ?_ ?_ _) | go_size)) (hb1.mono (by go_size)))
      clear hb1
      go_wp2_with (fail)
      go_ret
      exact ⟨rfl, B1.out⟩
    · subst hd
      go_enter Try.func50, Try.ntmps50
      go_wp2_with (fail)
      refine (hq _ ?_ ?_).mono ?_
      · refine PrsAt.below HA.out ?_
        repeat' (first | (with_reducible exact Below.refl _ _) | (with_reducible assumption) | (with_reducible refine Below.drew ?_) | (with_reducible refine Below.alloc ?_ ?_ _) | (with_reducible refine below_draws ?_ _) | (with_reducible refine Below.setCell ?_ ?_ _) | go_size)
      · refine PrsAt.below HB.out ?_
        repeat' (first | (with_reducible exact Below.refl _ _) | (with_reducible assumption) | (with_reducible refine Below.drew ?_) | (with_reducible refine Below.alloc ?_ ?_ _) | (with_reducible refine below_draws ?_ _) | (with_reducible refine Below.setCell ?_ ?_ _) | go_size)
      rintro r w1 ⟨rfl, hb1⟩
      have B1 : Bx (Below w.heap.size w w1) := Bx.mk (Below.trans (by repeat' (first | (with_reducible exact Below.refl _ _) | (with_reducible assumption) | (with_reducible refine Below.drew ?_) | (with_reducible refine Below.alloc ?_ ?_ _) | (with_reducible refine below_draws ?_ _) | (with_reducible refine Below.setCell ?_ ?_ _) | go_size)) (hb1.mono (by go_size)))
      clear hb1
      go_wp2_with (fail)
      go_ret
      exact ⟨rfl, B1.out⟩
  · have HE : decide (s = t ∧ xs = ys) = false := by simp [hst]
    rw [HE]
    have h0 : (!s.toList == t.toList) = true := by
      rw [ByteArray.toList_eq, ByteArray.toList_eq]
      simp only [Bool.not_eq_true', beq_eq_false_iff_ne]
      intro h; apply hst
      cases s; cases t; simp_all
    clear HE hq
    go_enter Try.func50, Try.ntmps50
    go_wp2_with (fail)
    go_ret
    refine ⟨rfl, ?_⟩
    repeat' (first | (with_reducible exact Below.refl _ _) | (with_reducible assumption) | (with_reducible refine Below.drew ?_) | (with_reducible refine Below.alloc ?_ ?_ _) | (with_reducible refine below_draws ?_ _) | (with_reducible refine Below.setCell ?_ ?_ _) | go_size)
set_option maxHeartbeats 1000000 in
theorem mark_tun (s : ByteArray) (v : Value) (l : List (Int × Int)) (base : Nat) (k : Int) (w : World) (h : w.ownsRow base 63 2 v l.length (pcl l)) (hn : l.length ≤ 281474976710656) (hk : 0 ≤ k) (hk2 : k ≤ 1000000000) :
    Calls Try.prog 51 #[tun s v, .int .i64 k] w fun e w' => e = .returned (.int .i64 (k + 2 * l.length)) ∧ w'.ownsRow base 63 2 v l.length (pcl (pmk l.length k)) ∧ (w.alloc (.cells #[.string s, v] 59)).grownBy w' v.ownBlock := by
  have hm := fun W hW => mark_prs v l base k W hW hn hk hk2
  have HO := Bx.mk (World.ownsRow.alloc h (.cells #[.string s, v] 59))
  unfold tun
  clear h
  go_enter Try.func51, Try.ntmps51
  go_wp2_with (fail)
  refine (hm _ HO.out).mono ?_
  rintro r w1 ⟨rfl, ho, hg⟩
  have HR := Bx.mk (And.intro ho hg)
  clear ho hg
  go_wp2_with (fail)
  go_ret
  exact ⟨rfl, HR.out⟩
set_option maxHeartbeats 1000000 in
theorem held_tun (s : ByteArray) (v : Value) (n : Nat) (k : Int) (w : World) (h : PrsAt w v (pmk n k)) (hn : n ≤ 281474976710656) (hk : 0 ≤ k) (hk2 : k ≤ 1000000000) :
    Calls Try.prog 52 #[tun s v, .int .i64 k] w fun e w' => e = .returned (.int .i64 (k + 2 * n)) ∧ Below w.heap.size w w' := by
  have hm := fun W hW => held_prs v n k W hW hn hk hk2
  have HO := Bx.mk h
  unfold tun
  clear h
  have h0 : decide (k + 2 * (n : Int) < 0) = false := decide_eq_false (by omega)
  generalize k + 2 * (n : Int) = z at *
  go_enter Try.func52, Try.ntmps52
  go_wp2_with (fail)
  refine (hm _ (HO.out.below ((Below.refl _ _).alloc (Nat.le_refl _) _))).mono ?_
  rintro r w1 ⟨rfl, rfl⟩
  go_wp2_with (fail)
  go_ret
  exact ⟨rfl, (Below.refl _ _).alloc (Nat.le_refl _) _⟩
/-- a block of two values -/
def BoxAt (w : World) (g : Nat) (x y : Value) (t : TypeId) : Prop := w.heap[g]? = some (.cells #[x, y] t (0, 0))
theorem BoxAt.c0 {w : World} {g : Nat} {x y : Value} {t : TypeId} (h : BoxAt w g x y t) : w.cell? ⟨g, 0, none⟩ = some x := by unfold BoxAt at h; simp [World.cell?, h]
theorem BoxAt.c1 {w : World} {g : Nat} {x y : Value} {t : TypeId} (h : BoxAt w g x y t) : w.cell? ⟨g, 1, none⟩ = some y := by unfold BoxAt at h; simp [World.cell?, h]
theorem BoxAt.f0 {w : World} {g : Nat} {x y : Value} {t : TypeId} (h : BoxAt w g x y t) (o : Nat) : w.frozen? ⟨g, o, none⟩ = false := by unfold BoxAt at h; simp [World.frozen?, h]
theorem BoxAt.lt {w : World} {g : Nat} {x y : Value} {t : TypeId} (h : BoxAt w g x y t) : g < w.heap.size := by
  unfold BoxAt at h
  rcases Nat.lt_or_ge g w.heap.size with h1 | h1
  · exact h1
  · rw [Array.getElem?_eq_none h1] at h; cases h
theorem BoxAt.below {w w' : World} {g : Nat} {x y : Value} {t : TypeId} (h : BoxAt w g x y t) (hb : Below w.heap.size w w') : BoxAt w' g x y t := by
  have := hb.block g h.lt
  unfold BoxAt at h ⊢
  rw [this, h]
theorem BoxAt.alloc {w : World} {g : Nat} {x y : Value} {t : TypeId} (h : BoxAt w g x y t) (o : Obj) : BoxAt (w.alloc o) g x y t := h.below ((Below.refl _ _).alloc (Nat.le_refl _) _)
theorem BoxAt.draws {w : World} {g : Nat} {x y : Value} {t : TypeId} (h : BoxAt w g x y t) (k : Nat) : BoxAt (w.drewN k) g x y t := h
theorem BoxAt.drew1 {w : World} {g : Nat} {x y : Value} {t : TypeId} (h : BoxAt w g x y t) : BoxAt w.drew g x y t := h
theorem BoxAt.at (w : World) (g : Nat) (x y : Value) (t : TypeId) (h : g = w.heap.size) : BoxAt (w.alloc (.cells #[x, y] t)) g x y t := by subst h; exact heap_alloc_new w _
theorem BoxAt.put0 {w : World} {g : Nat} {x y : Value} {t : TypeId} (h : BoxAt w g x y t) (u : Value) : BoxAt (w.setCell ⟨g, 0, none⟩ u) g u y t := heap_setCell_same w g 0 _ _ u h
theorem BoxAt.put1 {w : World} {g : Nat} {x y : Value} {t : TypeId} (h : BoxAt w g x y t) (u : Value) : BoxAt (w.setCell ⟨g, 1, none⟩ u) g x u t := heap_setCell_same w g 1 _ _ u h
theorem BoxAt.other {w : World} {g b o : Nat} {x y : Value} {t : TypeId} (hg : b ≠ g) (h : BoxAt w g x y t) (u : Value) : BoxAt (w.setCell ⟨b, o, none⟩ u) g x y t := by
  unfold BoxAt at h ⊢
  rw [Below.heap_setCell _ _ _ _ (by show g ≠ b; omega)]; exact h
theorem own_down {w : World} {b1 b2 e size n : Nat} {v : Value} {xs : List Value} (hb : b1 ≤ b2) (h : w.ownsRow b2 e size v n xs) : w.ownsRow b1 e size v n xs := by
  refine ⟨h.1, ?_⟩
  rcases h.2 with h | ⟨g, cap, cur, hv, hg, hr⟩
  · exact .inl h
  · exact .inr ⟨g, cap, cur, hv, Nat.le_trans hb hg, hr⟩
theorem own_set {w : World} {base b e size n : Nat} {v : Value} {xs : List Value} (h : w.ownsRow base e size v n xs) (hb : b < base) (o : Nat) (u : Value) : (w.setCell ⟨b, o, none⟩ u).ownsRow base e size v n xs := by
  refine ⟨h.1, ?_⟩
  rcases h.2 with h2 | ⟨g, cap, cur, hv, hg, hc, r⟩
  · exact .inl h2
  · exact .inr ⟨g, cap, cur, hv, hg, by rw [Below.heap_setCell _ _ _ _ (by show g ≠ b; omega)]; exact hc, r⟩
set_option maxHeartbeats 1000000 in
theorem copy_tun (s : ByteArray) (v : Value) (l : List (Int × Int)) (w : World) (h : PrsAt w v l) (hn : l.length ≤ 17592186044416) :
    Calls Try.prog 47 #[tun s v] w fun e w' => ∃ u, e = .returned (tun s u) ∧ w'.ownsRow w.heap.size 63 2 u l.length (pcl l) ∧ Below w.heap.size w w' := by
  have hm := fun W hW => copy_prs v l W hW hn
  have HO := Bx.mk h
  unfold tun
  clear h hn
  go_enter Try.func47, Try.ntmps47
  go_wp2_with (fail)
  refine (hm _ (HO.out.below (((Below.refl _ _).alloc (Nat.le_refl _) _ |>.alloc (by simp) _).alloc (by simp; omega) _))).mono ?_
  rintro r w1 ⟨u, rfl, ho, hb1⟩
  obtain ⟨A, c, rfl⟩ := own_len ho
  have K1 : Bx (BoxAt w1 (w.heap.size + 1) (.string ⟨#[]⟩) (.slice none 0 0) 59) := Bx.mk (BoxAt.below ((BoxAt.at _ _ _ _ _ (by simp)).alloc _) hb1)
  have K2 : Bx (BoxAt w1 (w.heap.size + 1 + 1) (.string s) (.slice none 0 0) 59) := Bx.mk (BoxAt.below (BoxAt.at _ _ _ _ _ (by simp)) hb1)
  have B1 : Bx (Below w.heap.size w w1) := Bx.mk (Below.trans (((Below.refl _ _).alloc (Nat.le_refl _) _ |>.alloc (by simp) _).alloc (by simp; omega) _) (hb1.mono (by simp; omega)))
  have HU : Bx (w1.ownsRow (w.heap.size + 1 + 1 + 1) 63 2 (.slice A l.length c) l.length (pcl l)) := Bx.mk (by simpa using ho)
  clear ho hb1 hm HO
  have k10 := K1.out.c0
  have k11 := K1.out.c1
  have k1f0 := K1.out.f0 0
  have k1f1 := K1.out.f0 1
  have k1l := K1.out.lt
  have k20 := K2.out.c0
  have k21 := K2.out.c1
  have k2f0 := K2.out.f0 0
  have k2f1 := K2.out.f0 1
  have k2l := K2.out.lt
  go_wp2_with (fail)
  have P1 := (((BoxAt.other (b := w.heap.size + 1 + 1) (o := 1) (by omega) K1.out (.slice A l.length c)).put0 (.string s)).put1 (.slice A l.length c))
  refine bodyPost_ret (v := .agg #[.string s, .slice A l.length c]) (by simp [results, Try.results47, go_sem, P1.c0, P1.c1]) rfl ?_
  refine ⟨_, rfl, ?_, ?_⟩
  · refine own_down (b2 := w.heap.size + 1 + 1 + 1) (by omega) ?_
    refine own_set (own_set (own_set HU.out ?_ _ _) ?_ _ _) ?_ _ _ <;> omega
  · refine ((B1.out.setCell ?_ _).setCell ?_ _).setCell ?_ _ <;> (dsimp only; omega)
end Go.Proofs.Ytjjiibmbaggjoaa

namespace Go.Proofs.Ytjjiibmbaggjoaa
open Go.ChangeShapes Go.WideShapes Go.ChangeAt Go.RowKit
set_option linter.unusedVariables false
set_option linter.unusedSimpArgs false
set_option maxRecDepth 100000

theorem cells_rat : Try.prog.cellsOf 55 = 2 := by kernel_rfl
theorem cells_i64t : Try.prog.cellsOf 2 = 1 := by kernel_rfl
set_option maxRecDepth 100000 in
theorem arg_tun {H : Type} {enc : TypeId × Value → H} {W : World} {b0 : Nat} {v : Value} {d : DataW H} {p : List MemPlace} (hval : Value.okWide Try.prog W .any b0 53 v)
    (h : DataW.Trod enc Try.prog W 0 (fun _ => true) true 53 v d p) (hlt : ∀ x ∈ p, x.block < W.heap.size) :
    ∃ (s : ByteArray) (u : Value) (l : List (Int × Int)), v = tun s u ∧ PrsAt W u l ∧ s.size ≤ maxLen ∧ l.length ≤ 9223372036854775807 := by
  obtain ⟨c0, c1, y0, y1, m, rfl, rfl, rfl, hy0, hy1⟩ := Go.Joins.open_agg2 Try.underlying53 (by kernel_rfl) (by kernel_rfl) hval h
  obtain ⟨s, e0, rfl, ws⟩ := DataW.trod_string Try.underlying9 hy0
  simp at e0
  subst e0
  rcases Go.Deep.open_slice_pairs Try.underlying51 Try.underlying55 cells_rat rfl rfl cells_i64t cells_i64t hy1 with ⟨hcs, hx⟩ | ⟨a, len, cap, mm, n, V0, V1, D0, D1, P0, P1, hcs, hba, hl, hm, hmm, hx, hcell⟩
  · simp at hcs
    subst hcs
    exact ⟨s, _, [], rfl, .inl ⟨rfl, none, 0, rfl⟩, ws, by simp⟩
  · simp at hcs
    subst hcs
    have hml : mm = cap := by simpa using hmm
    have hval1 : ∀ i, i < len → ∃ a b : Int, V0 i = .int .i64 a ∧ V1 i = .int .i64 b := fun i hi => by
      obtain ⟨h1, h2, h3, h4⟩ := hcell i (by omega)
      obtain ⟨a, e0, _, _⟩ := DataW.trod_int Try.underlying2 h3
      obtain ⟨b, e1, _, _⟩ := DataW.trod_int Try.underlying2 h4
      simp at e0 e1
      exact ⟨a, b, e0, e1⟩
    by_cases hl0 : len = 0
    · subst hl0
      exact ⟨s, _, [], rfl, .inl ⟨rfl, _, _, rfl⟩, ws, by simp⟩
    · have hc0 := hcell 0 (by omega)
      obtain ⟨b, off, spot⟩ := a
      have hspot : spot = none := by simpa [Addr.add] using World.cell?_spot hc0.1
      subst hspot
      have hb : b < W.heap.size := by
        have := hc0.1
        rcases Nat.lt_or_ge b W.heap.size with h | h
        · exact h
        · simp [World.cell?, Addr.add, Array.getElem?_eq_none h] at this
      let num : Value → Int := fun v => match v with | .int _ x => x | _ => 0
      let l := (List.range len).map fun i => (num (V0 i), num (V1 i))
      have hll : l.length = len := by simp [l]
      refine ⟨s, _, l, rfl, .inr ⟨b, off, cap, by rw [hll], hb, fun k hk => ?_⟩, ws, by rw [hll]; unfold maxLen at hm; omega⟩
      rw [hll] at hk
      obtain ⟨h1, h2, _, _⟩ := hcell k (by omega)
      obtain ⟨a, b', e0, e1⟩ := hval1 k hk
      have hp : pat l k = (a, b') := by simp [pat, l, hk, e0, e1, num]
      rw [hp, ← e0, ← e1]
      rw [show (⟨b, off, none⟩ : Addr).add (k * 2) = ⟨b, off + k * 2, none⟩ by unfold Addr.add; split <;> simp_all] at h1
      rw [show (⟨b, off, none⟩ : Addr).add (k * 2 + 1) = ⟨b, off + k * 2 + 1, none⟩ by unfold Addr.add; split <;> simp_all [Nat.add_assoc]] at h2
      exact ⟨h1, h2⟩
end Go.Proofs.Ytjjiibmbaggjoaa

namespace Go.Proofs.Ytjjiibmbaggjoaa
open Go.ChangeShapes Go.WideShapes Go.ChangeAt Go.RowKit
set_option linter.unusedVariables false
set_option linter.unusedSimpArgs false
set_option maxRecDepth 100000

/-- the cells of a list hold what they held, and nothing that was in w has changed -/
def Holds (w : World) (L : List (Nat × Nat × Value)) (W : World) : Prop := (∀ p ∈ L, W.cell? ⟨p.1, p.2.1, none⟩ = some p.2.2 ∧ p.1 < W.heap.size) ∧ Below w.heap.size w W
theorem Holds.start (w : World) : Holds w [] w := ⟨fun _ h => (by cases h), Below.refl _ _⟩
theorem Holds.below {w W W' : World} {L : List (Nat × Nat × Value)} (h : Holds w L W) (hb : Below W.heap.size W W') : Holds w L W' :=
  ⟨fun p hp => ⟨(hb.cell (p := ⟨p.1, p.2.1, none⟩) (h.1 p hp).2).trans (h.1 p hp).1, Nat.lt_of_lt_of_le (h.1 p hp).2 hb.size⟩, h.2.trans (hb.mono h.2.size)⟩
theorem Holds.draws {w W : World} {L : List (Nat × Nat × Value)} (h : Holds w L W) (n : Nat) : Holds w L (W.drewN n) := h.below (below_draws (Below.refl _ _) n)
theorem Holds.alloc {w W : World} {L : List (Nat × Nat × Value)} (h : Holds w L W) (o : Obj) : Holds w L (W.alloc o) := h.below ((Below.refl _ _).alloc (Nat.le_refl _) _)
theorem Holds.add {w W : World} {L : List (Nat × Nat × Value)} {g k : Nat} {v : Value} (h : Holds w L W) (hc : W.cell? ⟨g, k, none⟩ = some v) : Holds w ((g, k, v) :: L) W := by
  refine ⟨fun p hp => ?_, h.2⟩
  rcases List.mem_cons.1 hp with rfl | hp
  · refine ⟨hc, ?_⟩
    rcases Nat.lt_or_ge g W.heap.size with h1 | h1
    · exact h1
    · simp [World.cell?, Array.getElem?_eq_none h1] at hc
  · exact h.1 p hp
theorem Holds.get {w W : World} {L : List (Nat × Nat × Value)} (h : Holds w L W) {g k : Nat} {v : Value} (hp : (g, k, v) ∈ L) : W.cell? ⟨g, k, none⟩ = some v := (h.1 _ hp).1
theorem Holds.lt {w W : World} {L : List (Nat × Nat × Value)} (h : Holds w L W) {g k : Nat} {v : Value} (hp : (g, k, v) ∈ L) : g < W.heap.size := (h.1 _ hp).2
theorem cell_heap {W : World} {g : Nat} {cs : Array Value} {t : TypeId} {fz : Nat × Nat} (h : W.heap[g]? = some (.cells cs t fz)) (k : Nat) : W.cell? ⟨g, k, none⟩ = cs[k]? := by
  simp [World.cell?, h]
/-- a new block of two cells -/
theorem Holds.pair {w W : World} {L : List (Nat × Nat × Value)} (h : Holds w L W) (x y : Value) (t : TypeId) (fz : Nat × Nat) : Holds w ((W.heap.size, 1, y) :: (W.heap.size, 0, x) :: L) (W.alloc (.cells #[x, y] t fz)) := by
  have e : (W.alloc (.cells #[x, y] t fz)).heap[W.heap.size]? = some (.cells #[x, y] t fz) := heap_alloc_new W _
  exact ((h.alloc _).add (g := W.heap.size) (k := 0) (v := x) ((cell_heap e _).trans rfl)).add (g := W.heap.size) (k := 1) (v := y) ((cell_heap e _).trans rfl)
end Go.Proofs.Ytjjiibmbaggjoaa

namespace Go.Proofs.Ytjjiibmbaggjoaa
open Go.ChangeShapes Go.WideShapes Go.ChangeAt Go.RowKit
set_option linter.unusedVariables false
set_option linter.unusedSimpArgs false
set_option maxRecDepth 100000

theorem Holds.grown {w W W' : World} {L : List (Nat × Nat × Value)} {row : Option Nat} (h : Holds w L W) (hg : W.grownBy W' row) (hn : ∀ p ∈ L, row ≠ some p.1) (hr : ∀ k, row = some k → w.heap.size ≤ k) : Holds w L W' := by
  refine ⟨fun p hp => ?_, h.2.grown hg h.2.size hr⟩
  obtain ⟨h1, h2⟩ := h.1 p hp
  refine ⟨?_, Nat.lt_of_lt_of_le h2 hg.size⟩
  have := hg.block p.1 h2 (fun e => hn p hp e.symm)
  unfold World.cell? at h1 ⊢
  rw [this]; exact h1
theorem Holds.bel {w W : World} {L : List (Nat × Nat × Value)} (h : Holds w L W) : Below w.heap.size w W := h.2
theorem bel_of {q W : World} {a b c d e f : Prop} (h : a ∧ b ∧ c ∧ d ∧ e ∧ f ∧ Below q.heap.size q W) : Below q.heap.size q W := h.2.2.2.2.2.2
theorem bel_up {w q W : World} {L : List (Nat × Nat × Value)} {a b c d e f : Prop} (H : Holds w L q) (h : a ∧ b ∧ c ∧ d ∧ e ∧ f ∧ Below q.heap.size q W) : Below w.heap.size w W := (Holds.bel H).trans ((bel_of h).mono (Holds.bel H).size)
theorem szT_ways (s : ByteArray) (l : List (Int × Int)) (k : Int) : szT s l k = -1 ∨ (szT s l k = k - s.size - l.length ∧ (s.size : Int) + l.length ≤ k) := by
  unfold szT szN
  split
  · exact .inl rfl
  · split
    · exact .inl rfl
    · exact .inr ⟨rfl, by omega⟩
theorem eq_tun_same (s : ByteArray) (va vb : Value) (xs : List (Int × Int)) (w : World) (ha : PrsAt w va xs) (hb : PrsAt w vb xs) (hx : xs.length ≤ 281474976710656) :
    Calls Try.prog 50 #[tun s va, tun s vb] w fun e w' => e = .returned (.bool true) ∧ Below w.heap.size w w' :=
  (eq_tun s s va vb xs xs w ha hb hx hx).mono fun _ _ ⟨he, h⟩ => ⟨by rw [he]; simp, h⟩
/-- a tuning made anew -/
def TunOut (s : ByteArray) (l : List (Int × Int)) (w : World) (e : Ending) (w' : World) : Prop :=
  ∃ v, e = .returned (tun s v) ∧ w'.ownsRow w.heap.size 63 2 v l.length (pcl l) ∧ Below w.heap.size w w'
/-- .. and something beside it -/
def TunOut2 (s : ByteArray) (l : List (Int × Int)) (cv : Value) (w : World) (e : Ending) (w' : World) : Prop :=
  ∃ v, e = .returned (.tuple #[tun s v, cv]) ∧ w'.ownsRow w.heap.size 63 2 v l.length (pcl l) ∧ Below w.heap.size w w'
theorem own_down2 {w : World} {b1 b2 e size n : Nat} {v : Value} {xs : List Value} (hb : b1 ≤ b2) (h : w.ownsRow b2 e size v n xs) : w.ownsRow b1 e size v n xs := own_down hb h
theorem PrsAt.alloc {w : World} {v : Value} {l : List (Int × Int)} (h : PrsAt w v l) (o : Obj) : PrsAt (w.alloc o) v l := h.below ((Below.refl _ _).alloc (Nat.le_refl _) _)
end Go.Proofs.Ytjjiibmbaggjoaa

namespace Go.Proofs.Ytjjiibmbaggjoaa
open Go.ChangeShapes Go.WideShapes Go.ChangeAt Go.RowKit
set_option linter.unusedVariables false
set_option linter.unusedSimpArgs false
set_option maxRecDepth 100000

/-- a block that holds these values -/
def ArrAt (w : World) (g : Nat) (vs : List Value) (t : TypeId) : Prop := w.heap[g]? = some (.cells vs.toArray t (0, 0))
theorem ArrAt.cell {w : World} {g : Nat} {vs : List Value} {t : TypeId} (h : ArrAt w g vs t) (k : Nat) : w.cell? ⟨g, k, none⟩ = vs[k]? := by
  unfold ArrAt at h
  simp [World.cell?, h]
theorem ArrAt.f0 {w : World} {g : Nat} {vs : List Value} {t : TypeId} (h : ArrAt w g vs t) (o : Nat) : w.frozen? ⟨g, o, none⟩ = false := by
  unfold ArrAt at h; simp [World.frozen?, h]
theorem ArrAt.lt {w : World} {g : Nat} {vs : List Value} {t : TypeId} (h : ArrAt w g vs t) : g < w.heap.size := by
  unfold ArrAt at h
  rcases Nat.lt_or_ge g w.heap.size with h1 | h1
  · exact h1
  · rw [Array.getElem?_eq_none h1] at h; cases h
theorem ArrAt.below {w w' : World} {g : Nat} {vs : List Value} {t : TypeId} (h : ArrAt w g vs t) (hb : Below w.heap.size w w') : ArrAt w' g vs t := by
  have := hb.block g h.lt
  unfold ArrAt at h ⊢
  rw [this, h]
theorem ArrAt.alloc {w : World} {g : Nat} {vs : List Value} {t : TypeId} (h : ArrAt w g vs t) (o : Obj) : ArrAt (w.alloc o) g vs t := h.below ((Below.refl _ _).alloc (Nat.le_refl _) _)
theorem ArrAt.draws {w : World} {g : Nat} {vs : List Value} {t : TypeId} (h : ArrAt w g vs t) (k : Nat) : ArrAt (w.drewN k) g vs t := h
theorem ArrAt.at (w : World) (g : Nat) (vs : List Value) (t : TypeId) (h : g = w.heap.size) : ArrAt (w.alloc (.cells vs.toArray t)) g vs t := by subst h; exact heap_alloc_new w _
theorem ArrAt.put {w : World} {g : Nat} {vs : List Value} {t : TypeId} (h : ArrAt w g vs t) (k : Nat) (u : Value) : ArrAt (w.setCell ⟨g, k, none⟩ u) g (vs.set k u) t := by
  have := heap_setCell_same w g k _ _ u h
  unfold ArrAt
  rw [this]
  simp
theorem ArrAt.other {w : World} {g b o : Nat} {vs : List Value} {t : TypeId} (hg : b ≠ g) (h : ArrAt w g vs t) (u : Value) : ArrAt (w.setCell ⟨b, o, none⟩ u) g vs t := by
  unfold ArrAt at h ⊢
  rw [Below.heap_setCell _ _ _ _ (by show g ≠ b; omega)]; exact h
/-- an array being filled from the front -/
def arrV (f : Nat → Value) (z : Value) (n k : Nat) : List Value := (List.range n).map fun i => if i < k then f i else z
theorem arrV_set (f : Nat → Value) (z : Value) (n k : Nat) : (arrV f z n k).set k (f k) = arrV f z n (k + 1) := by
  apply List.ext_getElem?
  intro i
  unfold arrV
  by_cases hn : i < n
  · by_cases h : k = i
    · subst h; simp [hn]
    · have : i < k ↔ i < k + 1 := by omega
      simp [hn, h, this]
  · rw [List.getElem?_eq_none (by simp; omega), List.getElem?_eq_none (by simp; omega)]
theorem arrV_at (f : Nat → Value) (z : Value) (n k i : Nat) (h : i < n) : (arrV f z n k)[i]? = some (if i < k then f i else z) := by simp [arrV, h]
/-- .. being changed from the front -/
def arrM (f g : Nat → Value) (n k : Nat) : List Value := (List.range n).map fun i => if i < k then f i else g i
theorem arrM_set (f g : Nat → Value) (n k : Nat) : (arrM f g n k).set k (f k) = arrM f g n (k + 1) := by
  apply List.ext_getElem?
  intro i
  unfold arrM
  by_cases hn : i < n
  · by_cases h : k = i
    · subst h; simp [hn]
    · have : i < k ↔ i < k + 1 := by omega
      simp [hn, h, this]
  · rw [List.getElem?_eq_none (by simp; omega), List.getElem?_eq_none (by simp; omega)]
theorem arrM_at (f g : Nat → Value) (n k i : Nat) (h : i < n) : (arrM f g n k)[i]? = some (if i < k then f i else g i) := by simp [arrM, h]
theorem ArrAt.own {w : World} {g base n : Nat} {vs : List Value} {t : TypeId} (h : ArrAt w g vs t) (size : Nat) (hg : base ≤ g) (hn : vs.length = n * size) (hm : n ≤ maxLen) : w.ownsRow base t size (.slice (some ⟨g, 0, none⟩) n n) n vs :=
  ⟨hn, .inr ⟨g, n, vs.toArray, rfl, hg, h, Nat.le_refl _, hm, by simpa using hn, by simp [← hn]⟩⟩
end Go.Proofs.Ytjjiibmbaggjoaa

namespace Go.Proofs.Ytjjiibmbaggjoaa
open Go.ChangeShapes Go.WideShapes Go.ChangeAt Go.RowKit
set_option linter.unusedVariables false
set_option linter.unusedSimpArgs false
set_option maxRecDepth 100000

theorem wpR_val {P : Program} {ops : Array Oper} {Q : Exit → Act → World → Prop} {a : Act} {w w2 : World} {rest : List Oper} {o : Oper} (hg : o.guard = none) (v : Value) (hrun : (execOp a.eval o).run P w = .ok (.value v) w2) (hK : wpList P ops Q rest (a.put o.dst v) w2) : wpList P ops Q (o :: rest) a w := by
  refine wpList_plain hg fun K hK' => ?_
  unfold Oper.wp
  rw [hrun]
  exact hK' _ _ hK
theorem wpR_skp {P : Program} {ops : Array Oper} {Q : Exit → Act → World → Prop} {a : Act} {w w2 : World} {rest : List Oper} {o : Oper} (hg : o.guard = none) (hrun : (execOp a.eval o).run P w = .ok .skip w2) (hK : wpList P ops Q rest (a.put o.dst undef) w2) : wpList P ops Q (o :: rest) a w := by
  refine wpList_plain hg fun K hK' => ?_
  unfold Oper.wp
  rw [hrun]
  exact hK' _ _ hK
theorem wpR_sto {P : Program} {ops : Array Oper} {Q : Exit → Act → World → Prop} {a : Act} {w w2 : World} {rest : List Oper} {o : Oper} (hg : o.guard = none) (t : TypeId) (p x : Operand) (hop : o.op = Op.store t p x) (pv xv : Value) (hp : a.eval p = pv) (hx : a.eval x = xv) (hrun : (Instr.storeAt t pv xv).run P w = .ok () w2) (hK : wpList P ops Q rest (a.put o.dst undef) w2) : wpList P ops Q (o :: rest) a w := by
  refine wpR_skp hg (w2 := w2) ?_ hK
  unfold execOp
  simp only [hop, hp, hx]
  rw [Sem.run_bind, hrun]
  rfl
theorem wpR_lod {P : Program} {ops : Array Oper} {Q : Exit → Act → World → Prop} {a : Act} {w : World} {rest : List Oper} {o : Oper} (hg : o.guard = none) (t : TypeId) (p : Operand) (hop : o.op = Op.load t p) (pv v : Value) (hp : a.eval p = pv) (hrun : (Instr.loadAt t pv).run P w = .ok v w) (hK : wpList P ops Q rest (a.put o.dst v) w) : wpList P ops Q (o :: rest) a w := by
  refine wpR_val hg v (w2 := w) ?_ hK
  unfold execOp
  simp only [hop, hp]
  rw [Sem.run_bind, hrun]
  rfl
theorem ArrAt.load {P : Program} {w : World} {g : Nat} {vs : List Value} {t : TypeId} (h : ArrAt w g vs t) (n : Nat) (e : TypeId) (hu : P.underlying t = some (.array n e)) (hi : (P.info? t).map (·.size) = some vs.toArray.size) :
    (Instr.loadAt t (.pointer (some ⟨g, 0, none⟩))).run P w = .ok (.agg vs.toArray) w := by
  simp only [Instr.loadAt, Instr.sureAddr, Sem.run_bind, Sem.run_pure, Result.andThen]
  exact run_loadVar_row _ _ t t vs.toArray (0, 0) _ h hu rfl hi
theorem ArrAt.store {P : Program} {w : World} {g : Nat} {vs : List Value} {t : TypeId} (h : ArrAt w g vs t) (c' : Array Value) (hi : (P.info? t).map (·.size) = some c'.size) (ho : vs.toArray.size = c'.size) (h1 : c'.all (·.oneCell') = true) :
    (Instr.storeAt t (.pointer (some ⟨g, 0, none⟩)) (.agg c')).run P w = .ok () (w.setRow g c') := by
  simp only [Instr.storeAt, Instr.sureAddr, Sem.run_bind, Sem.run_pure, Result.andThen]
  exact run_storeVar_row _ _ t t vs.toArray c' h hi ho h1
theorem setRow_at {w : World} {g : Nat} {vs : List Value} {t : TypeId} (h : ArrAt w g vs t) (c' : Array Value) : ArrAt (w.setRow g c') g c'.toList t := by
  unfold ArrAt at h ⊢
  simp [World.setRow, Array.getElem?_modify, h]
theorem setRow_below {B : Nat} {a w : World} {g : Nat} (hb : Below B a w) (hg : B ≤ g) (c' : Array Value) : Below B a (w.setRow g c') :=
  ⟨hb.os, hb.tape, hb.output, by simpa [World.setRow] using hb.size, fun k hk => by
    rw [← hb.block k hk]
    simp only [World.setRow, Array.getElem?_modify]
    rw [if_neg (by omega)]⟩
theorem ArrAt.from {P : Program} {w : World} {g : Nat} {vs : List Value} {t : TypeId} (h : ArrAt w g vs t) (n : Nat) (hn : vs.length = n) : (loadCellsFrom ⟨g, 0, none⟩ 0 n #[]).run P w = .ok vs.toArray w := by
  subst hn
  have := run_loadCells_list (P := P) w ⟨g, 0, none⟩ vs (fun j v hv => by
    have hadd : (⟨g, 0, none⟩ : Addr).add j = ⟨g, j, none⟩ := by unfold Addr.add; split <;> simp_all
    rw [hadd, h.cell j]; exact hv)
  simpa [loadCells] using this
end Go.Proofs.Ytjjiibmbaggjoaa

namespace Go.Proofs.Ytjjiibmbaggjoaa
open Go.ChangeShapes Go.WideShapes Go.ChangeAt Go.RowKit
set_option linter.unusedVariables false
set_option linter.unusedSimpArgs false
set_option maxRecDepth 100000

def tabF (R : Rg) (n : Nat) : Value := .bool (reasonZ R (((n / 36 : Nat) : Int) - 12) (((n % 36 : Nat) : Int) - 12) == 0)
theorem zero_tab : Try.zeroCells99 = (List.replicate 1296 (Value.bool false)).toArray := by kernel_rfl
theorem arrV_none (f : Nat → Value) (z : Value) (n : Nat) : arrV f z n 0 = List.replicate n z := by
  apply List.ext_getElem?
  intro i
  by_cases h : i < n
  · rw [arrV_at _ _ _ _ _ h, if_neg (Nat.not_lt_zero _), List.getElem?_replicate, if_pos h]
  · rw [List.getElem?_eq_none (by simp [arrV]; omega), List.getElem?_eq_none (by simp; omega)]
theorem arrV_every (f : Nat → Value) (z : Value) (n : Nat) : arrV f z n n = (List.range n).map f := by
  unfold arrV
  apply List.map_congr_left
  intro i hi
  rw [if_pos (List.mem_range.1 hi)]
theorem info_tab (R : Rg) : (Try.prog.info? 99).map (·.size) = some ((List.range 1296).map (tabF R)).toArray.size := by
  have h : (Try.prog.info? 99).map (·.size) = some 1296 := by kernel_rfl
  rw [h]; simp
theorem tab_one (R : Rg) : ((List.range 1296).map (tabF R)).toArray.all (·.oneCell') = true := by simp [tabF, Value.oneCell']
set_option maxHeartbeats 4000000 in
theorem impl_table (R : Rg) (mb n : Nat) (w : World) (hok : OkG R) (hS : PSet w mb n (memP R.f)) :
    Calls Try.prog 81 #[.agg #[.int .u16 (maskN R.u R.u.length : Nat), .int .u16 (maskN R.d R.d.length : Nat), .map (some mb)]] w fun e w' => e = .returned (.agg ((List.range 1296).map (tabF R)).toArray) ∧ Below w.heap.size w w' := by
  have HRE := Bx.mk (fun W p q hb h1 h2 => impl_reason R p q mb n W hok (hS.below hb) h1 h2)
  clear hS hok
  generalize maskN R.u R.u.length = mu at *
  generalize maskN R.d R.d.length = md at *
  go_enter Try.func81, Try.ntmps81
  go_upto_region 1 with (fail)
  have Z0 : BoxN ((w.alloc (.cells #[.int .u16 mu, .int .u16 md, .map (some mb)] 84)).alloc (.cells Try.zeroCells99 99)) w.heap.size #[.int .u16 mu, .int .u16 md, .map (some mb)] 84 := (BoxN.at w _ _ _ rfl).alloc _
  have A0 : ArrAt ((w.alloc (.cells #[.int .u16 mu, .int .u16 md, .map (some mb)] 84)).alloc (.cells Try.zeroCells99 99)) (w.heap.size + 1) (arrV (tabF R) (.bool false) 1296 0) 99 := by
    have := ArrAt.at (w.alloc (.cells #[.int .u16 mu, .int .u16 md, .map (some mb)] 84)) (w.heap.size + 1) (arrV (tabF R) (.bool false) 1296 0) 99 (by simp)
    rw [arrV_none, ← zero_tab] at this
    rw [arrV_none]
    simpa using this
  have B0 : Below w.heap.size w ((w.alloc (.cells #[.int .u16 mu, .int .u16 md, .map (some mb)] 84)).alloc (.cells Try.zeroCells99 99)) := ((Below.refl _ _).alloc (Nat.le_refl _) _).alloc (by simp) _
  generalize (w.alloc (.cells #[.int .u16 mu, .int .u16 md, .map (some mb)] 84)).alloc (.cells Try.zeroCells99 99) = W at *
  go_wp2_with (fail)
  go_loopw [5] (fun i wr => ∃ k : Nat, k ≤ 36 ∧ i = .int .i64 k ∧ Bx (ArrAt wr (w.heap.size + 1) (arrV (tabF R) (.bool false) 1296 (36 * k)) 99) ∧ Bx (BoxN wr w.heap.size #[.int .u16 mu, .int .u16 md, .map (some mb)] 84) ∧ Bx (Below w.heap.size w wr)) (fun i _ => 36 - (intOf i).toNat)
  case atStart => exact ⟨0, Nat.zero_le _, rfl, Bx.mk A0, Bx.mk Z0, Bx.mk B0⟩
  case round =>
    clear A0 Z0 B0
    obtain ⟨k, hk, rfl, HA, HZ, HB⟩ := hrel
    by_cases hlt : k < 36
    · have k0 : (0 : Int) ≤ (k : Int) := by omega
      have k1 : (k : Int) < 36 := by omega
      go_wp2_with (fail)
      go_loopw [8] (fun i wr => ∃ j : Nat, j ≤ 36 ∧ i = .int .i64 j ∧ Bx (ArrAt wr (w.heap.size + 1) (arrV (tabF R) (.bool false) 1296 (36 * k + j)) 99) ∧ Bx (BoxN wr w.heap.size #[.int .u16 mu, .int .u16 md, .map (some mb)] 84) ∧ Bx (Below w.heap.size w wr)) (fun i _ => 36 - (intOf i).toNat)
      case atStart => exact ⟨0, Nat.zero_le _, rfl, HA, HZ, HB⟩
      case round =>
        clear HA HZ HB
        obtain ⟨j, hj, rfl, HA, HZ, HB⟩ := hrel
        by_cases hlj : j < 36
        · have j0 : (0 : Int) ≤ (j : Int) := by omega
          have j1 : (j : Int) < 36 := by omega
          have E1 : IntKind.i64.wrap (-12 + (k : Int)) = (k : Int) - 12 := by rw [show -12 + (k : Int) = (k : Int) - 12 by omega]; exact IntWalk.i64_in _ (by omega)
          have E2 : IntKind.i64.wrap (-12 + (j : Int)) = (j : Int) - 12 := by rw [show -12 + (j : Int) = (j : Int) - 12 by omega]; exact IntWalk.i64_in _ (by omega)
          have hre := fun W hW => HRE.out W ((k : Int) - 12) ((j : Int) - 12) hW (by omega) (by omega)
          have HF : Bx (tabF R (36 * k + j) = .bool (reasonZ R ((k : Int) - 12) ((j : Int) - 12) == 0)) := Bx.mk (by unfold tabF; rw [show (36 * k + j) / 36 = k by omega, show (36 * k + j) % 36 = j by omega])
          generalize reasonZ R ((k : Int) - 12) ((j : Int) - 12) = z at *
          have z0 := HZ.out.c (k := 0) rfl
          have z1 := HZ.out.c (k := 1) rfl
          have z2 := HZ.out.c (k := 2) rfl
          have zl := HZ.out.lt
          have HL := Bx.mk (show 36 * k + j < 1296 by omega)
          clear HRE
          go_wp2_with (fail)
          go_region_with (go_at_call 73; (with_reducible refine (hre _ HB.out.drew).mono ?_); rintro r w5 ⟨rfl, hb5⟩; have A5 := Bx.mk (ArrAt.below (w := wr.drew) HA.out hb5); have Z5 := Bx.mk (BoxN.below (w := wr.drew) HZ.out hb5); have B5 := Bx.mk (HB.out.drew.trans (hb5.mono HB.out.drew.size)); clear hb5; have a0 : w5.cell? ⟨w.heap.size + 1, k * 36 + j, none⟩ = some (.bool false) := (by rw [Nat.mul_comm k 36, A5.out.cell, arrV_at _ _ _ _ _ HL.out, if_neg (by omega)]); have af := A5.out.f0 (k * 36 + j); have al := A5.out.lt)
          have A6 : Bx (ArrAt (w5.setCell ⟨w.heap.size + 1, k * 36 + j, none⟩ (.bool (z == 0))) (w.heap.size + 1) (arrV (tabF R) (.bool false) 1296 (36 * k + j + 1)) 99) := Bx.mk (by
            rw [Nat.mul_comm k 36, ← HF.out, ← arrV_set]; exact A5.out.put _ _)
          have Z6 := Bx.mk (Z5.out.other (b := w.heap.size + 1) (o := k * 36 + j) (by omega) (.bool (z == 0)))
          have B6 := Bx.mk (B5.out.setCell (p := ⟨w.heap.size + 1, k * 36 + j, none⟩) (by dsimp only; omega) (.bool (z == 0)))
          clear A5 Z5 B5 a0 af al HA HZ HB z0 z1 z2 zl hre
          go_wp2_with (fail)
          go_roundw
          case rel => exact ⟨j + 1, by omega, by go_num, A6, Z6, B6⟩
          case measure => simp [intOf]; omega
        · obtain rfl : j = 36 := by omega
          go_wp2_with (fail)
          go_roundw
          case rel => exact ⟨k + 1, by omega, by go_num, HA, HZ, HB⟩
          case measure => simp [intOf]; omega
    · obtain rfl : k = 36 := by omega
      have HL : Bx (ArrAt wr (w.heap.size + 1) ((List.range 1296).map (tabF R)) 99) := Bx.mk (by have := HA.out; rwa [arrV_every] at this)
      have hld := HL.out.load 36 97 Try.underlying99 (info_tab R)
      have hst := HL.out.store ((List.range 1296).map (tabF R)).toArray (info_tab R) rfl (tab_one R)
      have P := setRow_at HL.out ((List.range 1296).map (tabF R)).toArray
      have hB := setRow_below HB.out (show w.heap.size ≤ w.heap.size + 1 by omega) ((List.range 1296).map (tabF R)).toArray
      clear HA HL HRE HZ HB
      have HLL := Bx.mk (info_tab R)
      generalize hLd : (List.range 1296).map (tabF R) = L at *
      have HLE := Bx.mk hLd
      clear hLd
      go_upto_region 10 with (fail)
      refine wp_region_lit ?_
      refine wpR_lod rfl 99 _ rfl (.pointer (some ⟨w.heap.size + 1, 0, none⟩)) _ rfl hld ?_
      refine wpR_sto rfl 99 _ _ rfl (.pointer (some ⟨w.heap.size + 1, 0, none⟩)) _ rfl rfl hst ?_
      refine wpList_nil ?_
      generalize wr.setRow (w.heap.size + 1) L.toArray = W2 at *
      have hP : ArrAt W2 (w.heap.size + 1) L 99 := by simpa using P
      clear hld hst P
      go_wp2_with (fail)
      refine bodyPost_ret (v := .agg L.toArray) ?_ rfl ⟨by rw [HLE.out], hB⟩
      exact results_cell_row Try.results81 _ W2 (w.heap.size + 1) _ L.toArray (0, 0) _ (by simp [go_sem, Act.put]) hP Try.underlying99 rfl HLL.out
end Go.Proofs.Ytjjiibmbaggjoaa

namespace Go.Proofs.Ytjjiibmbaggjoaa
open Go.ChangeShapes Go.WideShapes Go.ChangeAt Go.RowKit
set_option linter.unusedVariables false
set_option linter.unusedSimpArgs false
set_option maxRecDepth 100000

theorem tabF_at (R : Rg) (k j : Nat) (hj : j < 36) : tabF R (36 * k + j) = .bool (reasonZ R ((k : Int) - 12) ((j : Int) - 12) == 0) := by
  unfold tabF; rw [show (36 * k + j) / 36 = k by omega, show (36 * k + j) % 36 = j by omega]
theorem cntM_stepB (A B : Rg) (k j : Nat) (hj : j < 36) : cntM A B (36 * k + j + 1) = ((cntM A B (36 * k + j)).1 + (if ((reasonZ A ((k : Int) - 12) ((j : Int) - 12) == 0) && (reasonZ B ((k : Int) - 12) ((j : Int) - 12) == 0)) = true then 1 else 0),
      (cntM A B (36 * k + j)).2 + (if ((reasonZ A ((k : Int) - 12) ((j : Int) - 12) == 0) || (reasonZ B ((k : Int) - 12) ((j : Int) - 12) == 0)) = true then 1 else 0)) := by
  rw [cntM_step A B k j hj]
  simp only [Bool.and_eq_true, Bool.or_eq_true, beq_iff_eq]
set_option maxHeartbeats 4000000 in
theorem impl_countmoves (A B : Rg) (w : World) :
    Calls Try.prog 80 #[.agg ((List.range 1296).map (tabF A)).toArray, .agg ((List.range 1296).map (tabF B)).toArray] w fun e w' => e = .returned (.tuple #[.int .i64 (cntM A B 1296).1, .int .i64 (cntM A B 1296).2]) ∧ Below w.heap.size w w' := by
  have IA := info_tab A
  have IB := info_tab B
  have OA := tab_one A
  have OB := tab_one B
  have CA : Bx (∀ i, i < 1296 → ((List.range 1296).map (tabF A))[i]? = some (tabF A i)) := Bx.mk (fun i hi => by simp [hi])
  have CB : Bx (∀ i, i < 1296 → ((List.range 1296).map (tabF B))[i]? = some (tabF B i)) := Bx.mk (fun i hi => by simp [hi])
  generalize (List.range 1296).map (tabF A) = LA at *
  generalize (List.range 1296).map (tabF B) = LB at *
  go_enter Try.func80, Try.ntmps80
  go_upto_region 1 with (fail)
  have A0 : ArrAt ((w.alloc (.cells LA.toArray 99)).alloc (.cells LB.toArray 99)) w.heap.size LA 99 := (ArrAt.at w _ LA _ rfl).alloc _
  have A1 : ArrAt ((w.alloc (.cells LA.toArray 99)).alloc (.cells LB.toArray 99)) (w.heap.size + 1) LB 99 := ArrAt.at _ _ LB _ (by simp)
  have HB : Bx (Below w.heap.size w ((w.alloc (.cells LA.toArray 99)).alloc (.cells LB.toArray 99))) := Bx.mk (((Below.refl _ _).alloc (Nat.le_refl _) _).alloc (by simp) _)
  have G0 := Bx.mk A0
  have G1 := Bx.mk A1
  have L0 := A0.lt
  have L1 := A1.lt
  clear A0 A1 IA IB OA OB
  generalize ((w.alloc (.cells LA.toArray 99)).alloc (.cells LB.toArray 99)) = W at *
  go_wp2_with (fail)
  go_loopw [4, 5, 8] (fun x y i wr => ∃ k : Nat, k ≤ 36 ∧ i = .int .i64 k ∧ x = .int .i64 (cntM A B (36 * k)).1 ∧ y = .int .i64 (cntM A B (36 * k)).2 ∧ Bx (wr = W)) (fun _ _ i _ => 36 - (intOf i).toNat)
  case atStart => exact ⟨0, Nat.zero_le _, rfl, rfl, rfl, Bx.mk rfl⟩
  case round =>
    obtain ⟨k, hk, rfl, rfl, rfl, HW⟩ := hrel
    by_cases hlt : k < 36
    · have k0 : (0 : Int) ≤ (k : Int) := by omega
      have k1 : (k : Int) < 36 := by omega
      have HLK := Bx.mk hlt
      go_wp2_with (fail)
      go_loopw [4, 5, 11] (fun x y i wr => ∃ j : Nat, j ≤ 36 ∧ i = .int .i64 j ∧ x = .int .i64 (cntM A B (36 * k + j)).1 ∧ y = .int .i64 (cntM A B (36 * k + j)).2 ∧ Bx (wr = W)) (fun _ _ i _ => 36 - (intOf i).toNat)
      case atStart => exact ⟨0, Nat.zero_le _, rfl, rfl, rfl, HW⟩
      case round =>
        obtain ⟨j, hj, rfl, rfl, rfl, HW⟩ := hrel
        by_cases hlj : j < 36
        · have j0 : (0 : Int) ≤ (j : Int) := by omega
          have j1 : (j : Int) < 36 := by omega
          have HLJ := Bx.mk hlj
          have a0 : wr.cell? ⟨w.heap.size, k * 36 + j, none⟩ = some (.bool (reasonZ A ((k : Int) - 12) ((j : Int) - 12) == 0)) := by
            rw [HW.out, Nat.mul_comm k 36, G0.out.cell, CA.out _ (by omega), tabF_at A k j hlj]
          have b0 : wr.cell? ⟨w.heap.size + 1, k * 36 + j, none⟩ = some (.bool (reasonZ B ((k : Int) - 12) ((j : Int) - 12) == 0)) := by
            rw [HW.out, Nat.mul_comm k 36, G1.out.cell, CB.out _ (by omega), tabF_at B k j hlj]
          have l0 : w.heap.size < wr.heap.size := by rw [HW.out]; exact L0
          have l1 : w.heap.size + 1 < wr.heap.size := by rw [HW.out]; exact L1
          have HR := cntM_rng A B (36 * k + j)
          obtain ⟨r1, r2, r3, r4⟩ := HR
          have r2 : (cntM A B (36 * k + j)).1 ≤ 2000 := by omega
          have r4 : (cntM A B (36 * k + j)).2 ≤ 2000 := by omega
          have HS := Bx.mk (cntM_stepB A B k j hlj)
          clear hlj
          generalize cntM A B (36 * k + j) = cc at *
          obtain ⟨x, y⟩ := cc
          dsimp only at r1 r2 r3 r4 HS ⊢
          generalize (reasonZ A ((k : Int) - 12) ((j : Int) - 12) == 0) = ba at *
          generalize (reasonZ B ((k : Int) - 12) ((j : Int) - 12) == 0) = bb at *
          cases ba
          · cases bb
            · have HS2 : Bx (cntM A B (36 * k + j + 1) = (x, y)) := Bx.mk (by rw [HS.out]; simp)
              clear HS
              go_wp2_with (fail)
              go_roundw
              case rel => exact ⟨j + 1, HLJ.out, by go_num, (congrArg (fun t => Value.int .i64 t.1) HS2.out).symm, (congrArg (fun t => Value.int .i64 t.2) HS2.out).symm, HW⟩
              case measure => have := HLJ.out; simp [intOf]; omega
            · have HS2 : Bx (cntM A B (36 * k + j + 1) = (x, y + 1)) := Bx.mk (by rw [HS.out]; simp)
              clear HS
              go_wp2_with (fail)
              go_roundw
              case rel => exact ⟨j + 1, HLJ.out, by go_num, (congrArg (fun t => Value.int .i64 t.1) HS2.out).symm, (congrArg (fun t => Value.int .i64 t.2) HS2.out).symm, HW⟩
              case measure => have := HLJ.out; simp [intOf]; omega
          · cases bb
            · have HS2 : Bx (cntM A B (36 * k + j + 1) = (x, y + 1)) := Bx.mk (by rw [HS.out]; simp)
              clear HS
              go_wp2_with (fail)
              go_roundw
              case rel => exact ⟨j + 1, HLJ.out, by go_num, (congrArg (fun t => Value.int .i64 t.1) HS2.out).symm, (congrArg (fun t => Value.int .i64 t.2) HS2.out).symm, HW⟩
              case measure => have := HLJ.out; simp [intOf]; omega
            · have HS2 : Bx (cntM A B (36 * k + j + 1) = (x + 1, y + 1)) := Bx.mk (by rw [HS.out]; simp)
              clear HS
              go_wp2_with (fail)
              go_roundw
              case rel => exact ⟨j + 1, HLJ.out, by go_num, (congrArg (fun t => Value.int .i64 t.1) HS2.out).symm, (congrArg (fun t => Value.int .i64 t.2) HS2.out).symm, HW⟩
              case measure => have := HLJ.out; simp [intOf]; omega
        · obtain rfl : j = 36 := by omega
          go_wp2_with (fail)
          go_roundw
          case rel => exact ⟨k + 1, HLK.out, by go_num, rfl, rfl, HW⟩
          case measure => have := HLK.out; simp [intOf]; omega
    · obtain rfl : k = 36 := by omega
      have HBW : Bx (Below w.heap.size w wr) := Bx.mk (by rw [HW.out]; exact HB.out)
      go_wp2_with (fail)
      go_returns
      exact ⟨rfl, HBW.out⟩
theorem keepS2 {q W : World} {g h : Nat} {x0 x1 x2 x3 x4 x5 y0 y1 y2 y3 y4 y5 : Value} {t : TypeId} (X : BoxN q g #[x0, x1, x2, x3, x4, x5] t) (Y : BoxN q h #[y0, y1, y2, y3, y4, y5] t) (hb : Below q.heap.size q W) :
    Below q.heap.size q W ∧ W.cell? ⟨g, 0, none⟩ = some (x0) ∧ W.cell? ⟨g, 1, none⟩ = some (x1) ∧ W.cell? ⟨g, 2, none⟩ = some (x2) ∧ W.cell? ⟨g, 3, none⟩ = some (x3) ∧ W.cell? ⟨g, 4, none⟩ = some (x4) ∧ W.cell? ⟨g, 5, none⟩ = some (x5) ∧ W.cell? ⟨h, 0, none⟩ = some (y0) ∧ W.cell? ⟨h, 1, none⟩ = some (y1) ∧ W.cell? ⟨h, 2, none⟩ = some (y2) ∧ W.cell? ⟨h, 3, none⟩ = some (y3) ∧ W.cell? ⟨h, 4, none⟩ = some (y4) ∧ W.cell? ⟨h, 5, none⟩ = some (y5) ∧ g < W.heap.size ∧ h < W.heap.size := by
  have X1 := X.below hb
  have Y1 := Y.below hb
  exact ⟨hb, X1.c (k := 0) rfl, X1.c (k := 1) rfl, X1.c (k := 2) rfl, X1.c (k := 3) rfl, X1.c (k := 4) rfl, X1.c (k := 5) rfl, Y1.c (k := 0) rfl, Y1.c (k := 1) rfl, Y1.c (k := 2) rfl, Y1.c (k := 3) rfl, Y1.c (k := 4) rfl, Y1.c (k := 5) rfl, X1.lt, Y1.lt⟩
theorem bel1 {q W : World} {p : Prop} (h : Below q.heap.size q W ∧ p) : Below q.heap.size q W := h.1
set_option maxHeartbeats 8000000 in
theorem impl_shared (va vb : Value) (A B : Rg) (w : World) (ha : RgAt w va A) (hb : RgAt w vb B) (ma : Sm A) (mb : Sm B) :
    Calls Try.prog 42 #[va, vb] w (Out3S (sharedE A B) w) := by
  obtain ⟨A1, a1, B1, b1, C1, c1, rfl, _, _, _⟩ := rg_form ha
  obtain ⟨A2, a2, B2, b2, C2, c2, rfl, _, _, _⟩ := rg_form hb
  have hbl : Below w.heap.size w ((w.alloc (.cells #[.string A.s, .slice A1 A.u.length a1, .slice B1 A.d.length b1, .int .i64 A.x, .int .i64 A.y, .slice C1 A.f.length c1] 28)).alloc (.cells #[.string B.s, .slice A2 B.u.length a2, .slice B2 B.d.length b2, .int .i64 B.x, .int .i64 B.y, .slice C2 B.f.length c2] 28)) := ((Below.refl _ _).alloc (Nat.le_refl _) _).alloc (by simp) _
  have X1 := (BoxN.at w w.heap.size #[.string A.s, .slice A1 A.u.length a1, .slice B1 A.d.length b1, .int .i64 A.x, .int .i64 A.y, .slice C1 A.f.length c1] 28 rfl).alloc (.cells #[.string B.s, .slice A2 B.u.length a2, .slice B2 B.d.length b2, .int .i64 B.x, .int .i64 B.y, .slice C2 B.f.length c2] 28)
  have X2 := BoxN.at (w.alloc (.cells #[.string A.s, .slice A1 A.u.length a1, .slice B1 A.d.length b1, .int .i64 A.x, .int .i64 A.y, .slice C1 A.f.length c1] 28)) (w.heap.size + 1) #[.string B.s, .slice A2 B.u.length a2, .slice B2 B.d.length b2, .int .i64 B.x, .int .i64 B.y, .slice C2 B.f.length c2] 28 (by simp)
  generalize hW : ((w.alloc (.cells #[.string A.s, .slice A1 A.u.length a1, .slice B1 A.d.length b1, .int .i64 A.x, .int .i64 A.y, .slice C1 A.f.length c1] 28)).alloc (.cells #[.string B.s, .slice A2 B.u.length a2, .slice B2 B.d.length b2, .int .i64 B.x, .int .i64 B.y, .slice C2 B.f.length c2] 28)) = W at hbl X1 X2
  have ka := impl_validraga _ A W (ha.below hbl) ma
  have HVA := Bx.mk ha
  have HVB := Bx.mk hb
  have HMA := Bx.mk ma
  have HMB := Bx.mk mb
  have HB := Bx.mk hbl
  have XA0 := Bx.mk X1
  have XB0 := Bx.mk X2
  clear ha hb ma mb X1 X2 hbl
  have cla0 := XA0.out.c (k := 0) rfl
  have cla1 := XA0.out.c (k := 1) rfl
  have cla2 := XA0.out.c (k := 2) rfl
  have cla3 := XA0.out.c (k := 3) rfl
  have cla4 := XA0.out.c (k := 4) rfl
  have cla5 := XA0.out.c (k := 5) rfl
  have clb0 := XB0.out.c (k := 0) rfl
  have clb1 := XB0.out.c (k := 1) rfl
  have clb2 := XB0.out.c (k := 2) rfl
  have clb3 := XB0.out.c (k := 3) rfl
  have clb4 := XB0.out.c (k := 4) rfl
  have clb5 := XB0.out.c (k := 5) rfl
  have la := XA0.out.lt
  have lb := XB0.out.lt
  cases e0 : okG A
  · have HE : Bx (sharedE A B = (0, 0, 1)) := Bx.mk (by unfold sharedE; rw [e0]; simp)
    rw [e0] at ka
    clear e0
    go_enter Try.func42, Try.ntmps42
    go_wp2_with (fail)
    refine ka.mono ?_
    rintro r w1 ⟨rfl, hb1⟩
    have BA := Bx.mk (HB.out.trans (hb1.mono HB.out.size))
    clear hb1 cla0 cla1 cla2 cla3 cla4 cla5 clb0 clb1 clb2 clb3 clb4 clb5 la lb
    go_wp2_with (fail)
    go_returns
    exact out3S HE.out BA.out
  · have HOA := Bx.mk (ok_yes e0)
    rw [e0] at ka
    go_enter Try.func42, Try.ntmps42
    go_wp2_with (fail)
    refine ka.mono ?_
    rintro r w1 ⟨rfl, hb1⟩
    have BA := Bx.mk (HB.out.trans (hb1.mono HB.out.size))
    have XA1 := Bx.mk (XA0.out.below hb1)
    have XB1 := Bx.mk (XB0.out.below hb1)
    clear hb1 cla0 cla1 cla2 cla3 cla4 cla5 clb0 clb1 clb2 clb3 clb4 clb5 la lb ka XA0 XB0
    have cla0 := XA1.out.c (k := 0) rfl
    have cla1 := XA1.out.c (k := 1) rfl
    have cla2 := XA1.out.c (k := 2) rfl
    have cla3 := XA1.out.c (k := 3) rfl
    have cla4 := XA1.out.c (k := 4) rfl
    have cla5 := XA1.out.c (k := 5) rfl
    have clb0 := XB1.out.c (k := 0) rfl
    have clb1 := XB1.out.c (k := 1) rfl
    have clb2 := XB1.out.c (k := 2) rfl
    have clb3 := XB1.out.c (k := 3) rfl
    have clb4 := XB1.out.c (k := 4) rfl
    have clb5 := XB1.out.c (k := 5) rfl
    have la := XA1.out.lt
    have lb := XB1.out.lt
    have kb := impl_validraga _ B w1 (HVB.out.below BA.out) HMB.out
    cases e1 : okG B
    · have HE : Bx (sharedE A B = (0, 0, 1)) := Bx.mk (by unfold sharedE; rw [e1]; simp)
      rw [e1] at kb
      clear e0 e1
      go_wp2_with (fail)
      refine kb.mono ?_
      rintro r w2 ⟨rfl, hb2⟩
      have BB := Bx.mk (BA.out.trans (hb2.mono BA.out.size))
      clear hb2 cla0 cla1 cla2 cla3 cla4 cla5 clb0 clb1 clb2 clb3 clb4 clb5 la lb
      go_wp2_with (fail)
      go_returns
      exact out3S HE.out BB.out
    · have HOB := Bx.mk (ok_yes e1)
      have HE : Bx (sharedE A B = ((cntM A B 1296).1, (cntM A B 1296).2, 0)) := Bx.mk (by unfold sharedE; rw [e0, e1]; simp)
      rw [e1] at kb
      clear e0 e1
      go_wp2_with (fail)
      refine kb.mono ?_
      rintro r w2 ⟨rfl, hb2⟩
      have BB := Bx.mk (BA.out.trans (hb2.mono BA.out.size))
      have XA2 := Bx.mk (XA1.out.below hb2)
      have XB2 := Bx.mk (XB1.out.below hb2)
      clear hb2 cla0 cla1 cla2 cla3 cla4 cla5 clb0 clb1 clb2 clb3 clb4 clb5 la lb kb XA1 XB1 BA HB
      have cla0 := XA2.out.c (k := 0) rfl
      have cla1 := XA2.out.c (k := 1) rfl
      have cla2 := XA2.out.c (k := 2) rfl
      have cla3 := XA2.out.c (k := 3) rfl
      have cla4 := XA2.out.c (k := 4) rfl
      have cla5 := XA2.out.c (k := 5) rfl
      have clb0 := XB2.out.c (k := 0) rfl
      have clb1 := XB2.out.c (k := 1) rfl
      have clb2 := XB2.out.c (k := 2) rfl
      have clb3 := XB2.out.c (k := 3) rfl
      have clb4 := XB2.out.c (k := 4) rfl
      have clb5 := XB2.out.c (k := 5) rfl
      have la := XA2.out.lt
      have lb := XB2.out.lt
      have hta := fun m n W (h : PSet W m n (memP A.f)) => impl_table A m n W HOA.out h
      have htb := fun m n W (h : PSet W m n (memP B.f)) => impl_table B m n W HOB.out h
      have hco := fun W => impl_countmoves A B W
      generalize ((List.range 1296).map (tabF A)).toArray = TA at hta hco
      generalize ((List.range 1296).map (tabF B)).toArray = TB at htb hco
      generalize (cntM A B 1296).1 = x at hco HE
      generalize (cntM A B 1296).2 = y at hco HE
      have SS0 : Bx (Below w2.heap.size w2 w2 ∧ w2.cell? ⟨w.heap.size, 0, none⟩ = some (.string A.s) ∧ w2.cell? ⟨w.heap.size, 1, none⟩ = some (.slice A1 A.u.length a1) ∧ w2.cell? ⟨w.heap.size, 2, none⟩ = some (.slice B1 A.d.length b1) ∧ w2.cell? ⟨w.heap.size, 3, none⟩ = some (.int .i64 A.x) ∧ w2.cell? ⟨w.heap.size, 4, none⟩ = some (.int .i64 A.y) ∧ w2.cell? ⟨w.heap.size, 5, none⟩ = some (.slice C1 A.f.length c1) ∧ w2.cell? ⟨w.heap.size + 1, 0, none⟩ = some (.string B.s) ∧ w2.cell? ⟨w.heap.size + 1, 1, none⟩ = some (.slice A2 B.u.length a2) ∧ w2.cell? ⟨w.heap.size + 1, 2, none⟩ = some (.slice B2 B.d.length b2) ∧ w2.cell? ⟨w.heap.size + 1, 3, none⟩ = some (.int .i64 B.x) ∧ w2.cell? ⟨w.heap.size + 1, 4, none⟩ = some (.int .i64 B.y) ∧ w2.cell? ⟨w.heap.size + 1, 5, none⟩ = some (.slice C2 B.f.length c2) ∧ w.heap.size < w2.heap.size ∧ w.heap.size + 1 < w2.heap.size) := Bx.mk (keepS2 XA2.out XB2.out (Below.refl _ _))
      clear hW
      go_wp2_with (fail)
      go_region_held3 (fun W => Below w2.heap.size w2 W ∧ W.cell? ⟨w.heap.size, 0, none⟩ = some (.string A.s) ∧ W.cell? ⟨w.heap.size, 1, none⟩ = some (.slice A1 A.u.length a1) ∧ W.cell? ⟨w.heap.size, 2, none⟩ = some (.slice B1 A.d.length b1) ∧ W.cell? ⟨w.heap.size, 3, none⟩ = some (.int .i64 A.x) ∧ W.cell? ⟨w.heap.size, 4, none⟩ = some (.int .i64 A.y) ∧ W.cell? ⟨w.heap.size, 5, none⟩ = some (.slice C1 A.f.length c1) ∧ W.cell? ⟨w.heap.size + 1, 0, none⟩ = some (.string B.s) ∧ W.cell? ⟨w.heap.size + 1, 1, none⟩ = some (.slice A2 B.u.length a2) ∧ W.cell? ⟨w.heap.size + 1, 2, none⟩ = some (.slice B2 B.d.length b2) ∧ W.cell? ⟨w.heap.size + 1, 3, none⟩ = some (.int .i64 B.x) ∧ W.cell? ⟨w.heap.size + 1, 4, none⟩ = some (.int .i64 B.y) ∧ W.cell? ⟨w.heap.size + 1, 5, none⟩ = some (.slice C2 B.f.length c2) ∧ w.heap.size < W.heap.size ∧ w.heap.size + 1 < W.heap.size)
        (first | exact keepS2 XA2.out XB2.out hbK | exact keepS2 XA2.out XB2.out hbK.drew | exact keepS2 XA2.out XB2.out (Below.refl _ _).drew | exact keepS2 XA2.out XB2.out (Below.refl _ _) | assumption)
        (first
          | (go_at_call 66; (with_reducible refine (impl_rules _ A _ (HVA.out.below (BB.out.trans ((bel1 (q := w2) (by assumption)).mono BB.out.size))) HMA.out HOA.out).mono ?_); rintro r w4 ⟨m1, rfl, hPa, hb4⟩; have hbK := (bel1 (q := w2) (by assumption)).trans (hb4.mono (bel1 (q := w2) (by assumption)).size))
          | (go_at_call 66; (with_reducible refine (impl_rules _ B _ (HVB.out.below (BB.out.trans ((bel1 (q := w2) (by assumption)).mono BB.out.size))) HMB.out HOB.out).mono ?_); rintro r w6 ⟨m2, rfl, hPb, hb6⟩; have hbK := hbK.trans (hb6.mono hbK.size))
          | (go_at_call 81; (with_reducible refine (hta _ _ _ hPa).mono ?_); rintro r w5 ⟨rfl, hb5⟩; have hbK := hbK.trans (hb5.mono hbK.size); clear hPa)
          | (go_at_call 81; (with_reducible refine (htb _ _ _ hPb).mono ?_); rintro r w7 ⟨rfl, hb7⟩; have hbK := hbK.trans (hb7.mono hbK.size))
          | (go_at_call 80; (with_reducible refine (hco _).mono ?_); rintro r w8 ⟨rfl, hb8⟩; have hbK := hbK.trans (hb8.mono hbK.size)))
      all_goals
        have BF := Bx.mk (BB.out.trans (hbK.mono BB.out.size))
        go_wp2_with (fail)
        go_returns
        exact out3S HE.out BF.out
end Go.Proofs.Ytjjiibmbaggjoaa

namespace Go.Proofs.Ytjjiibmbaggjoaa.fnExactSharedMoves
open Go.ChangeShapes Go.WideShapes Go.ChangeAt Go.RowKit
set_option linter.unusedVariables false
set_option linter.unusedSimpArgs false
set_option maxRecDepth 100000

set_option maxHeartbeats 8000000 in
theorem walk (R0 : Rg) (v0 : Value) {w : World} (w0 : RgAt w v0 R0 ∧ Sm0 R0) (R1 : Rg) (v1 : Value) (w1 : RgAt w v1 R1 ∧ Sm0 R1) :
    Calls Try.prog 12 #[v0, v1] w fun e w' => e = .returned (.bool true) ∧ Below w.heap.size w w' := by
  obtain ⟨hi0, hm0⟩ := w0
  have HR0 := Bx.mk hi0
  obtain ⟨A0, a0, B0, b0, C0, c0, rfl, _, _, _⟩ := rg_form hi0
  clear hi0
  obtain ⟨hi1, hm1⟩ := w1
  have HR1 := Bx.mk hi1
  obtain ⟨A1, a1, B1, b1, C1, c1, rfl, _, _, _⟩ := rg_form hi1
  clear hi1
  have X0 := BoxN.at w (w.heap.size) #[.string R0.s, .slice A0 R0.u.length a0, .slice B0 R0.d.length b0, .int .i64 R0.x, .int .i64 R0.y, .slice C0 R0.f.length c0] 25 (by simp)
  have X1 := BoxN.at (w.alloc (.cells #[.string R0.s, .slice A0 R0.u.length a0, .slice B0 R0.d.length b0, .int .i64 R0.x, .int .i64 R0.y, .slice C0 R0.f.length c0] 25)) (w.heap.size + 1) #[.string R1.s, .slice A1 R1.u.length a1, .slice B1 R1.d.length b1, .int .i64 R1.x, .int .i64 R1.y, .slice C1 R1.f.length c1] 25 (by simp)
  have X0 := X0.alloc (.cells #[.string R1.s, .slice A1 R1.u.length a1, .slice B1 R1.d.length b1, .int .i64 R1.x, .int .i64 R1.y, .slice C1 R1.f.length c1] 25)
  have hb : Below w.heap.size w ((w.alloc (.cells #[.string R0.s, .slice A0 R0.u.length a0, .slice B0 R0.d.length b0, .int .i64 R0.x, .int .i64 R0.y, .slice C0 R0.f.length c0] 25)).alloc (.cells #[.string R1.s, .slice A1 R1.u.length a1, .slice B1 R1.d.length b1, .int .i64 R1.x, .int .i64 R1.y, .slice C1 R1.f.length c1] 25)) := (((Below.refl _ _).alloc (Nat.le_refl _) _).alloc (by simp) _)
  generalize hW : (w.alloc (.cells #[.string R0.s, .slice A0 R0.u.length a0, .slice B0 R0.d.length b0, .int .i64 R0.x, .int .i64 R0.y, .slice C0 R0.f.length c0] 25)).alloc (.cells #[.string R1.s, .slice A1 R1.u.length a1, .slice B1 R1.d.length b1, .int .i64 R1.x, .int .i64 R1.y, .slice C1 R1.f.length c1] 25) = q0 at hb X0 X1
  have B_0 := Bx.mk hb
  have X0_0 := Bx.mk X0
  have X1_0 := Bx.mk X1
  clear hb X0 X1
  have y0_0 := X0_0.out.c (k := 0) rfl
  have y0_1 := X0_0.out.c (k := 1) rfl
  have y0_2 := X0_0.out.c (k := 2) rfl
  have y0_3 := X0_0.out.c (k := 3) rfl
  have y0_4 := X0_0.out.c (k := 4) rfl
  have y0_5 := X0_0.out.c (k := 5) rfl
  have y0_l := X0_0.out.lt
  have y1_0 := X1_0.out.c (k := 0) rfl
  have y1_1 := X1_0.out.c (k := 1) rfl
  have y1_2 := X1_0.out.c (k := 2) rfl
  have y1_3 := X1_0.out.c (k := 3) rfl
  have y1_4 := X1_0.out.c (k := 4) rfl
  have y1_5 := X1_0.out.c (k := 5) rfl
  have y1_l := X1_0.out.lt
  go_enter Try.func12, Try.ntmps12
  go_wp2_with (fail)
  try clear hW
  refine (sz_rg _ R0 1048576 (by decide) _ (HR0.out.below B_0.out) hm0).mono ?_
  rintro e1 q1 ⟨z0, rfl, hz0, hb⟩
  have B_1 := Bx.mk (B_0.out.trans (hb.mono B_0.out.size))
  have X0_1 := Bx.mk (X0_0.out.below hb)
  have X1_1 := Bx.mk (X1_0.out.below hb)
  clear B_0 X0_0 X1_0 y0_0 y0_1 y0_2 y0_3 y0_4 y0_5 y0_l y1_0 y1_1 y1_2 y1_3 y1_4 y1_5 y1_l hb
  have y0_0 := X0_1.out.c (k := 0) rfl
  have y0_1 := X0_1.out.c (k := 1) rfl
  have y0_2 := X0_1.out.c (k := 2) rfl
  have y0_3 := X0_1.out.c (k := 3) rfl
  have y0_4 := X0_1.out.c (k := 4) rfl
  have y0_5 := X0_1.out.c (k := 5) rfl
  have y0_l := X0_1.out.lt
  have y1_0 := X1_1.out.c (k := 0) rfl
  have y1_1 := X1_1.out.c (k := 1) rfl
  have y1_2 := X1_1.out.c (k := 2) rfl
  have y1_3 := X1_1.out.c (k := 3) rfl
  have y1_4 := X1_1.out.c (k := 4) rfl
  have y1_5 := X1_1.out.c (k := 5) rfl
  have y1_l := X1_1.out.lt
  rcases hz0 with rfl | ⟨hy0, hx0, SM0⟩
  · go_wp2_with (fail)
    go_ret
    exact ⟨rfl, B_1.out⟩
  have SM0 := Bx.mk SM0
  have hd0 : decide (z0 < 0) = false := decide_eq_false (by omega)
  go_wp2_with (fail)
  refine (sz_rg _ R1 z0 (by omega) _ (HR1.out.below B_1.out) hm1).mono ?_
  rintro e2 q2 ⟨z1, rfl, hz1, hb⟩
  have B_2 := Bx.mk (B_1.out.trans (hb.mono B_1.out.size))
  have X0_2 := Bx.mk (X0_1.out.below hb)
  have X1_2 := Bx.mk (X1_1.out.below hb)
  clear B_1 X0_1 X1_1 y0_0 y0_1 y0_2 y0_3 y0_4 y0_5 y0_l y1_0 y1_1 y1_2 y1_3 y1_4 y1_5 y1_l hb
  have y0_0 := X0_2.out.c (k := 0) rfl
  have y0_1 := X0_2.out.c (k := 1) rfl
  have y0_2 := X0_2.out.c (k := 2) rfl
  have y0_3 := X0_2.out.c (k := 3) rfl
  have y0_4 := X0_2.out.c (k := 4) rfl
  have y0_5 := X0_2.out.c (k := 5) rfl
  have y0_l := X0_2.out.lt
  have y1_0 := X1_2.out.c (k := 0) rfl
  have y1_1 := X1_2.out.c (k := 1) rfl
  have y1_2 := X1_2.out.c (k := 2) rfl
  have y1_3 := X1_2.out.c (k := 3) rfl
  have y1_4 := X1_2.out.c (k := 4) rfl
  have y1_5 := X1_2.out.c (k := 5) rfl
  have y1_l := X1_2.out.lt
  rcases hz1 with rfl | ⟨hy1, hx1, SM1⟩
  · go_wp2_with (fail)
    go_ret
    exact ⟨rfl, B_2.out⟩
  have SM1 := Bx.mk SM1
  have hd1 : decide (z1 < 0) = false := decide_eq_false (by omega)
  go_wp2_with (fail)
  clear hm0 hm1
  have hs := fun va vb W (h : RgAt W va R0) (h' : RgAt W vb R1) (s : Bx (Sm R0) ∧ Bx (Sm R1)) => spec_shared va vb R0 R1 W h h' s.1.out s.2.out
  have hi := fun va vb W (h : RgAt W va R0) (h' : RgAt W vb R1) (s : Bx (Sm R0) ∧ Bx (Sm R1)) => impl_shared va vb R0 R1 W h h' s.1.out s.2.out
  unfold Out3S at hs hi
  generalize sharedE R0 R1 = t at hs hi
  obtain ⟨r0, r1, r2⟩ := t
  dsimp only at hs hi
  go_cut [6, 7, 8] from 14 (fun zz0 zz1 zz2 wx => zz0 = .int .i64 r0 ∧ zz1 = .int .i64 r1 ∧ zz2 = .int .i64 r2 ∧ Below q2.heap.size q2 wx)
  case first =>
    go_region_held3 (fun W => Below q2.heap.size q2 W ∧ W.cell? ⟨w.heap.size, 0, none⟩ = some (.string R0.s) ∧ W.cell? ⟨w.heap.size, 1, none⟩ = some (.slice A0 R0.u.length a0) ∧ W.cell? ⟨w.heap.size, 2, none⟩ = some (.slice B0 R0.d.length b0) ∧ W.cell? ⟨w.heap.size, 3, none⟩ = some (.int .i64 R0.x) ∧ W.cell? ⟨w.heap.size, 4, none⟩ = some (.int .i64 R0.y) ∧ W.cell? ⟨w.heap.size, 5, none⟩ = some (.slice C0 R0.f.length c0) ∧ W.cell? ⟨w.heap.size + 1, 0, none⟩ = some (.string R1.s) ∧ W.cell? ⟨w.heap.size + 1, 1, none⟩ = some (.slice A1 R1.u.length a1) ∧ W.cell? ⟨w.heap.size + 1, 2, none⟩ = some (.slice B1 R1.d.length b1) ∧ W.cell? ⟨w.heap.size + 1, 3, none⟩ = some (.int .i64 R1.x) ∧ W.cell? ⟨w.heap.size + 1, 4, none⟩ = some (.int .i64 R1.y) ∧ W.cell? ⟨w.heap.size + 1, 5, none⟩ = some (.slice C1 R1.f.length c1) ∧ w.heap.size < W.heap.size ∧ w.heap.size + 1 < W.heap.size)
      (first | exact keepS2 X0_2.out X1_2.out hbK | exact keepS2 X0_2.out X1_2.out hbK.drew | exact keepS2 X0_2.out X1_2.out (Below.refl _ _).drew | exact keepS2 X0_2.out X1_2.out (Below.refl _ _) | assumption)
      (first
        | (go_at_call 17; (with_reducible refine (rg_copy _ R0 _ (HR0.out.below (B_2.out.trans ((bel1 (q := q2) (by assumption)).mono B_2.out.size))) SM0.out).mono ?_); rintro r w4 ⟨ve, rfl, hr, hb4⟩; have HC0 := Bx.mk hr; obtain ⟨Ae0, ae0, Be0, be0, Ce0, ce0, rfl, _, _, _⟩ := rg_form hr; have hbK := (bel1 (q := q2) (by assumption)).trans (hb4.mono (bel1 (q := q2) (by assumption)).size); clear hr hb4)
        | (go_at_call 17; (with_reducible refine (rg_copy _ R1 _ (HR1.out.below (B_2.out.trans (hbK.mono B_2.out.size))) SM1.out).mono ?_); rintro r w4 ⟨ve, rfl, hr, hb4⟩; have HC0 := Bx.mk (HC0.out.below hb4); have HC1 := Bx.mk hr; obtain ⟨Ae1, ae1, Be1, be1, Ce1, ce1, rfl, _, _, _⟩ := rg_form hr; have hbK := hbK.trans (hb4.mono hbK.size); clear hr hb4)
        | (go_at_call 41; (with_reducible refine (hs _ _ _ HC0.out HC1.out ⟨SM0, SM1⟩).mono ?_); rintro r wm ⟨rfl, hb⟩; have hbK := hbK.trans (hb.mono hbK.size); clear hb))
    all_goals
      have BM := Bx.mk hbK
      go_wp2_with (fail)
      go_meet
      case rel => exact ⟨rfl, rfl, rfl, BM.out⟩
  case rest =>
    obtain ⟨rfl, rfl, rfl, hb⟩ := hcut
    obtain ⟨q3, hq⟩ : ∃ x, x = wc := ⟨_, rfl⟩
    subst hq
    have B_3 := Bx.mk (B_2.out.trans (hb.mono B_2.out.size))
    have X0_3 := Bx.mk (X0_2.out.below hb)
    have X1_3 := Bx.mk (X1_2.out.below hb)
    clear B_2 X0_2 X1_2 y0_0 y0_1 y0_2 y0_3 y0_4 y0_5 y0_l y1_0 y1_1 y1_2 y1_3 y1_4 y1_5 y1_l hb
    have y0_0 := X0_3.out.c (k := 0) rfl
    have y0_1 := X0_3.out.c (k := 1) rfl
    have y0_2 := X0_3.out.c (k := 2) rfl
    have y0_3 := X0_3.out.c (k := 3) rfl
    have y0_4 := X0_3.out.c (k := 4) rfl
    have y0_5 := X0_3.out.c (k := 5) rfl
    have y0_l := X0_3.out.lt
    have y1_0 := X1_3.out.c (k := 0) rfl
    have y1_1 := X1_3.out.c (k := 1) rfl
    have y1_2 := X1_3.out.c (k := 2) rfl
    have y1_3 := X1_3.out.c (k := 3) rfl
    have y1_4 := X1_3.out.c (k := 4) rfl
    have y1_5 := X1_3.out.c (k := 5) rfl
    have y1_l := X1_3.out.lt
    go_wp2_with (fail)
    refine (rg_copy _ R0 _ (HR0.out.below (B_3.out)) SM0.out).mono ?_
    rintro e4 q4 ⟨vx0, rfl, hr, hb⟩
    have Vx0_4 := Bx.mk hr
    obtain ⟨Ax0, ax0, Bx0, bx0, Cx0, cx0, rfl, _, _, _⟩ := rg_form hr
    clear hr
    have B_4 := Bx.mk (B_3.out.trans (hb.mono B_3.out.size))
    have X0_4 := Bx.mk (X0_3.out.below hb)
    have X1_4 := Bx.mk (X1_3.out.below hb)
    clear B_3 X0_3 X1_3 y0_0 y0_1 y0_2 y0_3 y0_4 y0_5 y0_l y1_0 y1_1 y1_2 y1_3 y1_4 y1_5 y1_l hb
    have y0_0 := X0_4.out.c (k := 0) rfl
    have y0_1 := X0_4.out.c (k := 1) rfl
    have y0_2 := X0_4.out.c (k := 2) rfl
    have y0_3 := X0_4.out.c (k := 3) rfl
    have y0_4 := X0_4.out.c (k := 4) rfl
    have y0_5 := X0_4.out.c (k := 5) rfl
    have y0_l := X0_4.out.lt
    have y1_0 := X1_4.out.c (k := 0) rfl
    have y1_1 := X1_4.out.c (k := 1) rfl
    have y1_2 := X1_4.out.c (k := 2) rfl
    have y1_3 := X1_4.out.c (k := 3) rfl
    have y1_4 := X1_4.out.c (k := 4) rfl
    have y1_5 := X1_4.out.c (k := 5) rfl
    have y1_l := X1_4.out.lt
    go_wp2_with (fail)
    refine (rg_copy _ R1 _ (HR1.out.below (B_4.out.alloc B_4.out.size _)) SM1.out).mono ?_
    rintro e5 q5 ⟨vx1, rfl, hr, hb⟩
    have Vx1_5 := Bx.mk hr
    obtain ⟨Ax1, ax1, Bx1, bx1, Cx1, cx1, rfl, _, _, _⟩ := rg_form hr
    clear hr
    have hbp : Below q4.heap.size q4 q5 := ((Below.refl _ _).alloc (Nat.le_refl _) _).trans (hb.mono (by simp))
    have X2_5 := Bx.mk ((BoxN.at q4 q4.heap.size #[.string R0.s, .slice Ax0 R0.u.length ax0, .slice Bx0 R0.d.length bx0, .int .i64 R0.x, .int .i64 R0.y, .slice Cx0 R0.f.length cx0] 28 rfl).below hb)
    have B_5 := Bx.mk (B_4.out.trans (hbp.mono B_4.out.size))
    have X0_5 := Bx.mk (X0_4.out.below hbp)
    have X1_5 := Bx.mk (X1_4.out.below hbp)
    have Vx0_5 := Bx.mk (Vx0_4.out.below hbp)
    clear B_4 X0_4 X1_4 Vx0_4 y0_0 y0_1 y0_2 y0_3 y0_4 y0_5 y0_l y1_0 y1_1 y1_2 y1_3 y1_4 y1_5 y1_l hb hbp
    have y0_0 := X0_5.out.c (k := 0) rfl
    have y0_1 := X0_5.out.c (k := 1) rfl
    have y0_2 := X0_5.out.c (k := 2) rfl
    have y0_3 := X0_5.out.c (k := 3) rfl
    have y0_4 := X0_5.out.c (k := 4) rfl
    have y0_5 := X0_5.out.c (k := 5) rfl
    have y0_l := X0_5.out.lt
    have y1_0 := X1_5.out.c (k := 0) rfl
    have y1_1 := X1_5.out.c (k := 1) rfl
    have y1_2 := X1_5.out.c (k := 2) rfl
    have y1_3 := X1_5.out.c (k := 3) rfl
    have y1_4 := X1_5.out.c (k := 4) rfl
    have y1_5 := X1_5.out.c (k := 5) rfl
    have y1_l := X1_5.out.lt
    have y2_0 := X2_5.out.c (k := 0) rfl
    have y2_1 := X2_5.out.c (k := 1) rfl
    have y2_2 := X2_5.out.c (k := 2) rfl
    have y2_3 := X2_5.out.c (k := 3) rfl
    have y2_4 := X2_5.out.c (k := 4) rfl
    have y2_5 := X2_5.out.c (k := 5) rfl
    have y2_l := X2_5.out.lt
    go_wp2_with (fail)
    refine (hi _ _ _ (Vx0_5.out.below ((Below.refl _ _).alloc (Nat.le_refl _) _)) (Vx1_5.out.below ((Below.refl _ _).alloc (Nat.le_refl _) _)) ⟨SM0, SM1⟩).mono ?_
    rintro e6 q6 ⟨rfl, hb⟩
    have hbp : Below q5.heap.size q5 q6 := ((Below.refl _ _).alloc (Nat.le_refl _) _).trans (hb.mono (by simp))
    have X3_6 := Bx.mk ((BoxN.at q5 q5.heap.size #[.string R1.s, .slice Ax1 R1.u.length ax1, .slice Bx1 R1.d.length bx1, .int .i64 R1.x, .int .i64 R1.y, .slice Cx1 R1.f.length cx1] 28 rfl).below hb)
    have B_6 := Bx.mk (B_5.out.trans (hbp.mono B_5.out.size))
    have X0_6 := Bx.mk (X0_5.out.below hbp)
    have X1_6 := Bx.mk (X1_5.out.below hbp)
    have X2_6 := Bx.mk (X2_5.out.below hbp)
    have Vx0_6 := Bx.mk (Vx0_5.out.below hbp)
    have Vx1_6 := Bx.mk (Vx1_5.out.below hbp)
    clear B_5 X0_5 X1_5 X2_5 Vx0_5 Vx1_5 y0_0 y0_1 y0_2 y0_3 y0_4 y0_5 y0_l y1_0 y1_1 y1_2 y1_3 y1_4 y1_5 y1_l y2_0 y2_1 y2_2 y2_3 y2_4 y2_5 y2_l hb hbp
    have y0_0 := X0_6.out.c (k := 0) rfl
    have y0_1 := X0_6.out.c (k := 1) rfl
    have y0_2 := X0_6.out.c (k := 2) rfl
    have y0_3 := X0_6.out.c (k := 3) rfl
    have y0_4 := X0_6.out.c (k := 4) rfl
    have y0_5 := X0_6.out.c (k := 5) rfl
    have y0_l := X0_6.out.lt
    have y1_0 := X1_6.out.c (k := 0) rfl
    have y1_1 := X1_6.out.c (k := 1) rfl
    have y1_2 := X1_6.out.c (k := 2) rfl
    have y1_3 := X1_6.out.c (k := 3) rfl
    have y1_4 := X1_6.out.c (k := 4) rfl
    have y1_5 := X1_6.out.c (k := 5) rfl
    have y1_l := X1_6.out.lt
    have y2_0 := X2_6.out.c (k := 0) rfl
    have y2_1 := X2_6.out.c (k := 1) rfl
    have y2_2 := X2_6.out.c (k := 2) rfl
    have y2_3 := X2_6.out.c (k := 3) rfl
    have y2_4 := X2_6.out.c (k := 4) rfl
    have y2_5 := X2_6.out.c (k := 5) rfl
    have y2_l := X2_6.out.lt
    have y3_0 := X3_6.out.c (k := 0) rfl
    have y3_1 := X3_6.out.c (k := 1) rfl
    have y3_2 := X3_6.out.c (k := 2) rfl
    have y3_3 := X3_6.out.c (k := 3) rfl
    have y3_4 := X3_6.out.c (k := 4) rfl
    have y3_5 := X3_6.out.c (k := 5) rfl
    have y3_l := X3_6.out.lt
    go_wp2_with (fail)
    go_upto_region 14 with (fail)
    go_cut [61] from 14 (fun t wx => t = .bool false ∧ Below q6.heap.size q6 wx)
    case first =>
      go_region_with (first
        | (go_at_call 17; (with_reducible refine (rg_copy _ R0 _ (HR0.out.below B_6.out.drew) SM0.out).mono ?_); rintro r wc ⟨ve, rfl, hr, hb4⟩; have HC := Bx.mk hr; obtain ⟨Ae, ae, Be, be, Ce, ce, rfl, _, _, _⟩ := rg_form hr; have BC : Bx (Below q6.heap.size q6 wc) := Bx.mk ((Below.refl _ _).drew.trans hb4); clear hr hb4; have z2_0 := (X2_6.out.below BC.out).c (k := 0) rfl; have z2_1 := (X2_6.out.below BC.out).c (k := 1) rfl; have z2_2 := (X2_6.out.below BC.out).c (k := 2) rfl; have z2_3 := (X2_6.out.below BC.out).c (k := 3) rfl; have z2_4 := (X2_6.out.below BC.out).c (k := 4) rfl; have z2_5 := (X2_6.out.below BC.out).c (k := 5) rfl; have z0_0 := (X0_6.out.below BC.out).c (k := 0) rfl; have z0_1 := (X0_6.out.below BC.out).c (k := 1) rfl; have z0_2 := (X0_6.out.below BC.out).c (k := 2) rfl; have z0_3 := (X0_6.out.below BC.out).c (k := 3) rfl; have z0_4 := (X0_6.out.below BC.out).c (k := 4) rfl; have z0_5 := (X0_6.out.below BC.out).c (k := 5) rfl; have z2_l := (X2_6.out.below BC.out).lt; have z0_l := (X0_6.out.below BC.out).lt)
        | (go_at_call 19; (with_reducible refine (eq_rg _ _ R0 _ (Vx0_6.out.below BC.out) HC.out SM0.out).mono ?_); rintro r wd ⟨rfl, hb5⟩; have BE : Bx (Below q6.heap.size q6 wd) := Bx.mk (BC.out.trans (hb5.mono BC.out.size)); have BD := Bx.mk (B_6.out.trans ((BC.out.trans (hb5.mono BC.out.size)).mono B_6.out.size)); clear hb5))
      all_goals
        try go_wp2_with (fail)
        go_meet
        case rel => exact ⟨rfl, BE.out⟩
    case rest =>
      obtain ⟨rfl, hb⟩ := hcut
      obtain ⟨q7, hq⟩ : ∃ x, x = wc := ⟨_, rfl⟩
      subst hq
      have B_7 := Bx.mk (B_6.out.trans (hb.mono B_6.out.size))
      have X0_7 := Bx.mk (X0_6.out.below hb)
      have X1_7 := Bx.mk (X1_6.out.below hb)
      have X2_7 := Bx.mk (X2_6.out.below hb)
      have X3_7 := Bx.mk (X3_6.out.below hb)
      have Vx0_7 := Bx.mk (Vx0_6.out.below hb)
      have Vx1_7 := Bx.mk (Vx1_6.out.below hb)
      clear B_6 X0_6 X1_6 X2_6 X3_6 Vx0_6 Vx1_6 y0_0 y0_1 y0_2 y0_3 y0_4 y0_5 y0_l y1_0 y1_1 y1_2 y1_3 y1_4 y1_5 y1_l y2_0 y2_1 y2_2 y2_3 y2_4 y2_5 y2_l y3_0 y3_1 y3_2 y3_3 y3_4 y3_5 y3_l hb
      have y0_0 := X0_7.out.c (k := 0) rfl
      have y0_1 := X0_7.out.c (k := 1) rfl
      have y0_2 := X0_7.out.c (k := 2) rfl
      have y0_3 := X0_7.out.c (k := 3) rfl
      have y0_4 := X0_7.out.c (k := 4) rfl
      have y0_5 := X0_7.out.c (k := 5) rfl
      have y0_l := X0_7.out.lt
      have y1_0 := X1_7.out.c (k := 0) rfl
      have y1_1 := X1_7.out.c (k := 1) rfl
      have y1_2 := X1_7.out.c (k := 2) rfl
      have y1_3 := X1_7.out.c (k := 3) rfl
      have y1_4 := X1_7.out.c (k := 4) rfl
      have y1_5 := X1_7.out.c (k := 5) rfl
      have y1_l := X1_7.out.lt
      have y2_0 := X2_7.out.c (k := 0) rfl
      have y2_1 := X2_7.out.c (k := 1) rfl
      have y2_2 := X2_7.out.c (k := 2) rfl
      have y2_3 := X2_7.out.c (k := 3) rfl
      have y2_4 := X2_7.out.c (k := 4) rfl
      have y2_5 := X2_7.out.c (k := 5) rfl
      have y2_l := X2_7.out.lt
      have y3_0 := X3_7.out.c (k := 0) rfl
      have y3_1 := X3_7.out.c (k := 1) rfl
      have y3_2 := X3_7.out.c (k := 2) rfl
      have y3_3 := X3_7.out.c (k := 3) rfl
      have y3_4 := X3_7.out.c (k := 4) rfl
      have y3_5 := X3_7.out.c (k := 5) rfl
      have y3_l := X3_7.out.lt
      go_wp2_with (fail)
      go_region_with (first
        | (go_at_call 17; (with_reducible refine (rg_copy _ R1 _ (HR1.out.below B_7.out.drew) SM1.out).mono ?_); rintro r wc ⟨ve, rfl, hr, hb4⟩; have HC := Bx.mk hr; obtain ⟨Ae, ae, Be, be, Ce, ce, rfl, _, _, _⟩ := rg_form hr; have BC : Bx (Below q7.heap.size q7 wc) := Bx.mk ((Below.refl _ _).drew.trans hb4); clear hr hb4; have z3_0 := (X3_7.out.below BC.out).c (k := 0) rfl; have z3_1 := (X3_7.out.below BC.out).c (k := 1) rfl; have z3_2 := (X3_7.out.below BC.out).c (k := 2) rfl; have z3_3 := (X3_7.out.below BC.out).c (k := 3) rfl; have z3_4 := (X3_7.out.below BC.out).c (k := 4) rfl; have z3_5 := (X3_7.out.below BC.out).c (k := 5) rfl; have z1_0 := (X1_7.out.below BC.out).c (k := 0) rfl; have z1_1 := (X1_7.out.below BC.out).c (k := 1) rfl; have z1_2 := (X1_7.out.below BC.out).c (k := 2) rfl; have z1_3 := (X1_7.out.below BC.out).c (k := 3) rfl; have z1_4 := (X1_7.out.below BC.out).c (k := 4) rfl; have z1_5 := (X1_7.out.below BC.out).c (k := 5) rfl; have z3_l := (X3_7.out.below BC.out).lt; have z1_l := (X1_7.out.below BC.out).lt)
        | (go_at_call 19; (with_reducible refine (eq_rg _ _ R1 _ (Vx1_7.out.below BC.out) HC.out SM1.out).mono ?_); rintro r wd ⟨rfl, hb5⟩; have BE : Bx (Below q7.heap.size q7 wd) := Bx.mk (BC.out.trans (hb5.mono BC.out.size)); have BD := Bx.mk (B_7.out.trans ((BC.out.trans (hb5.mono BC.out.size)).mono B_7.out.size)); clear hb5))
      all_goals
        go_wp2_with (fail)
        go_ret
        exact ⟨rfl, BD.out⟩

theorem own : ownKnob Try.prog.godebug = none := by kernel_rfl
theorem laidOut : laidOutB Try.prog = true := by kernel_rfl

set_option maxRecDepth 100000 in
theorem lifted (os : Os) (started : os.Started) (H : Type) (enc : TypeId × Value → H) :
    ReturnsInHanded {} Try.checked os 12 .any (Rows.fnExactSharedMovesSpec.pre6 enc Try.prog Try.f12 Rows.fnExactSharedMovesRow.domain false) (Rows.fnExactSharedMovesSpec.post enc Try.prog Try.f12 false true false false) := by
  refine returnsInHanded_of_change (C := Try.checked) own started (by kernel_rfl) Try.func12
    (ChangeSpec.witness6 (enc := enc) (C := Try.checked) false ⟨#[], #[.agg #[.string ⟨#[]⟩, .slice none 0 0, .slice none 0 0, .int .i64 0, .int .i64 0, .slice none 0 0], .agg #[.string ⟨#[]⟩, .slice none 0 0, .slice none 0 0, .int .i64 0, .int .i64 0, .slice none 0 0]], []⟩ 8 (by kernel_rfl) (by kernel_rfl) (by kernel_rfl) (by kernel_rfl)) ?_
  intro W base args ds gs before hval0 hW hcnd _
  have hval : ∀ (j : Nat) t v, Try.f12.params[j]? = some t → args[j]? = some v → Value.okWide Try.prog W .any base t v := hval0
  have hW' := hW
  obtain ⟨p, q, hA0, hV, rfl, hfz, hnd⟩ := hW
  have hA : DataW.TrodAll enc Try.prog W 0 (fun _ => true) true Try.f12.params.toList args.toList ds p := hA0
  rw [Try.params12] at hA hval
  obtain ⟨v0, vs0, d0, ds0, p0, q0, hargs, rfl, rfl, h0, r0⟩ := trodAll_cons hA
  obtain ⟨v1, vs1, d1, ds1, p1, q1, rfl, rfl, rfl, h1, r1⟩ := trodAll_cons r0
  obtain ⟨rfl, rfl, rfl⟩ := trodAll_nil r1
  obtain rfl : args = #[v0, v1] := by cases args; simp_all
  obtain ⟨rfl, rfl⟩ := trodVars_none hV
  obtain ⟨R0, w0⟩ := arg_raga (hval 0 25 v0 rfl rfl) h0
  replace w0 := (show RgAt W v0 R0 ∧ Sm0 R0 from w0)
  obtain ⟨R1, w1⟩ := arg_raga (hval 1 25 v1 rfl rfl) h1
  replace w1 := (show RgAt W v1 R1 ∧ Sm0 R1 from w1)
  clear hA0 hval0
  refine (walk R0 v0 w0 R1 v1 w1).mono fun e W' ⟨he, hb⟩ => ?_
  subst he
  exact ⟨_, rfl, post_law laidOut (by kernel_rfl) (by kernel_rfl) Try.underlying4 rfl hW' rfl hb⟩

theorem closed : joinedFacts Try.pinned.checked.prog 12 Try.f12 Rows.fnExactSharedMovesSpec Rows.fnExactSharedMovesRow = true := by
  unfold joinedFacts
  rw [may, lifts, made]
  kernel_rfl
theorem over : Rows.fnExactSharedMovesRow.holds Try.pinned (OpenSpec.ofChange Rows.fnExactSharedMovesSpec) :=
  OpenClaim.holds_of_wide 12 Try.f12 rfl rfl rfl rfl rfl rfl rfl ⟨rfl, rfl, rfl, rfl, rfl⟩ rfl rfl rfl rfl rfl (by kernel_rfl) Try.func12 closed
    (of_decide_eq_true (by kernel_rfl)) (by unfold Func.isWrapper; first | (rw [if_pos (by decide +kernel)]; kernel_rfl) | (rw [if_neg (by decide +kernel)]; exact ⟨rfl, rfl⟩))
    (fun os started H enc _ => lifted os started H enc)

theorem proved : Rows.FnExactSharedMovesSaid := over
#print axioms proved
end Go.Proofs.Ytjjiibmbaggjoaa.fnExactSharedMoves
