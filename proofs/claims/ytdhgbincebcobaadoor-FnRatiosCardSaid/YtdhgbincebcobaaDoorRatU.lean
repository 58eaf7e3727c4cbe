/- Distances of cents, their comparison, and the nearest of a list, by the program. -/
import Derived.Test.YtdhgbincebcobaaDoorRatQ
import Derived.Test.YtdhgbincebcobaaDoorRatG
namespace Go.Proofs.YtdhgbincebcobaaDoor
open Go.ChangeShapes Go.WideShapes Go.ChangeAt Go.RowKit
set_option linter.unusedVariables false
set_option linter.unusedSimpArgs false
set_option maxRecDepth 100000

def cmpZ (x y : Int) : Int := if x < y then -1 else if y < x then 1 else 0
theorem impl_nan (x : Int) (w : World) : Calls Tryd.prog 119 #[.int .i64 x] w fun e w' => e = .returned (.bool false) ∧ w = w' := by
  go_enter Tryd.func119, Tryd.ntmps119
  go_wp2
  go_ret
  exact ⟨rfl, rfl⟩
theorem impl_cmp (x y : Int) (w : World) : Calls Tryd.prog 99 #[.int .i64 x, .int .i64 y] w fun e w' => e = .returned (.int .i64 (cmpZ x y)) ∧ w = w' := by
  rcases Int.lt_trichotomy x y with h | h | h
  · have HE : Bx (cmpZ x y = -1) := Bx.mk (by unfold cmpZ; rw [if_pos h])
    go_enter Tryd.func99, Tryd.ntmps99
    go_wp2_with ((go_at_call 119; refine (impl_nan _ _).mono ?_; rintro e w' ⟨rfl, rfl⟩))
    go_ret
    exact ⟨ret_int HE.out.symm, rfl⟩
  · subst h
    have HE : Bx (cmpZ x x = 0) := Bx.mk (by simp [cmpZ])
    go_enter Tryd.func99, Tryd.ntmps99
    go_wp2_with ((go_at_call 119; refine (impl_nan _ _).mono ?_; rintro e w' ⟨rfl, rfl⟩))
    go_ret
    exact ⟨ret_int HE.out.symm, rfl⟩
  · have HE : Bx (cmpZ x y = 1) := Bx.mk (by unfold cmpZ; rw [if_neg (by omega), if_pos h])
    have h2 : ¬ x < y := by omega
    go_enter Tryd.func99, Tryd.ntmps99
    go_wp2_with ((go_at_call 119; refine (impl_nan _ _).mono ?_; rintro e w' ⟨rfl, rfl⟩))
    go_ret
    exact ⟨ret_int HE.out.symm, rfl⟩
set_option maxHeartbeats 1000000 in
theorem impl_dist (c n d : Int) (w : World) (hT : StepTab w) (ho : okR n d = true) (hc : 0 ≤ c ∧ c ≤ 120000) :
    Calls Tryd.prog 75 #[.int .i64 c, rat n d] w fun e w' => e = .returned (.int .i64 (distP c (n, d))) ∧ Below w.heap.size w w' := by
  obtain ⟨n1, d1, _⟩ := okR_yes ho
  have hce := fun W h => impl_cents n d W h n1 d1
  have hbd := cents_bd n1 d1
  have HD : Bx (distP c (n, d) = max (centsZ n d - c) (c - centsZ n d)) := Bx.mk rfl
  have HT := Bx.mk hT
  clear hT ho n1 d1
  generalize centsZ n d = z at *
  obtain ⟨c1, c2⟩ := hc
  obtain ⟨z1, z2⟩ := hbd
  have HN : Bx (nA (z - c) = max (z - c) (c - z)) := Bx.mk (by unfold nA; omega)
  have h0 : 0 ≤ nA (z - c) ∧ nA (z - c) ≤ 900000000000 := by rw [HN.out]; omega
  have hmag := fun W => mag (z - c) W (by omega) (by omega)
  generalize nA (z - c) = u at *
  unfold rat at *
  go_enter Tryd.func75, Tryd.ntmps75
  go_wp2_with (fail)
  refine (hce _ (HT.out.alloc _)).mono ?_
  rintro r w1 ⟨rfl, hb1⟩
  have B1 : Bx (Below w.heap.size w w1) := Bx.mk (Below.trans (by repeat' (first | (with_reducible exact Below.refl _ _) | (with_reducible assumption) | (with_reducible refine Below.drew ?_) | (with_reducible refine Below.alloc ?_ ?_ _) | (with_reducible refine below_draws ?_ _) | (with_reducible refine Below.setCell ?_ ?_ _) | go_size)) (hb1.mono (by go_size)))
  clear hb1
  have E1 : IntKind.i64.wrap (z - c) = z - c := IntWalk.i64_in _ (by omega)
  go_wp2_with (fail)
  refine (hmag _).mono ?_
  rintro r w2 ⟨rfl, rfl⟩
  obtain ⟨u1, u2⟩ := h0
  have E2 : IntKind.i64.wrap u = u := IntWalk.i64_in _ (by omega)
  go_wp2_with (fail)
  go_ret
  exact ⟨ret_int (by rw [HD.out, ← HN.out]), B1.out⟩
def Two (w : World) (a b n d : Value) (W : World) : Prop := W.cell? ⟨w.heap.size, 0, none⟩ = some a ∧ W.cell? ⟨w.heap.size, 1, none⟩ = some b ∧ W.cell? ⟨w.heap.size + 1, 0, none⟩ = some n ∧ W.cell? ⟨w.heap.size + 1, 1, none⟩ = some d ∧ w.heap.size + 2 ≤ W.heap.size ∧ Bx (StepTab W) ∧ Below w.heap.size w W
theorem keepS {w W W' : World} {a b n d : Value} (h : W.cell? ⟨w.heap.size, 0, none⟩ = some a ∧ W.cell? ⟨w.heap.size, 1, none⟩ = some b ∧ W.cell? ⟨w.heap.size + 1, 0, none⟩ = some n ∧ W.cell? ⟨w.heap.size + 1, 1, none⟩ = some d ∧ w.heap.size + 2 ≤ W.heap.size ∧ Bx (StepTab W) ∧ Below w.heap.size w W) (hb : Below W.heap.size W W') :
    W'.cell? ⟨w.heap.size, 0, none⟩ = some a ∧ W'.cell? ⟨w.heap.size, 1, none⟩ = some b ∧ W'.cell? ⟨w.heap.size + 1, 0, none⟩ = some n ∧ W'.cell? ⟨w.heap.size + 1, 1, none⟩ = some d ∧ w.heap.size + 2 ≤ W'.heap.size ∧ Bx (StepTab W') ∧ Below w.heap.size w W' := by
  obtain ⟨h1, h2, h3, h4, h5, h7, h6⟩ := h
  have hs := hb.size
  exact ⟨(hb.cell (p := ⟨w.heap.size, 0, none⟩) (by show w.heap.size < _; omega)).trans h1, (hb.cell (p := ⟨w.heap.size, 1, none⟩) (by show w.heap.size < _; omega)).trans h2, (hb.cell (p := ⟨w.heap.size + 1, 0, none⟩) (by show w.heap.size + 1 < _; omega)).trans h3, (hb.cell (p := ⟨w.heap.size + 1, 1, none⟩) (by show w.heap.size + 1 < _; omega)).trans h4, by omega, Bx.mk (h7.out.below hb), h6.trans (hb.mono h6.size)⟩
set_option maxHeartbeats 2000000 in
theorem impl_comp (c a b n d : Int) (w : World) (hT : StepTab w) (ho : okR a b = true) (hp : okR n d = true) (hc : 0 ≤ c ∧ c ≤ 120000) :
    Calls Tryd.prog 74 #[.int .i64 c, rat a b, rat n d] w fun e w' => e = .returned (.int .i64 (cmpZ (distP c (a, b)) (distP c (n, d)))) ∧ Below w.heap.size w w' := by
  have h1 := fun W h => impl_dist c a b W h ho hc
  have h2 := fun W h => impl_dist c n d W h hp hc
  have h3 := fun W => impl_cmp (distP c (a, b)) (distP c (n, d)) W
  have HT := Bx.mk hT
  clear hT ho hp hc
  generalize distP c (a, b) = x at *
  generalize distP c (n, d) = y at *
  unfold rat at *
  go_enter Tryd.func74, Tryd.ntmps74
  go_wp2_with (fail)
  have KP : ((w.alloc (.cells #[.int .i64 a, .int .i64 b] 40)).alloc (.cells #[.int .i64 n, .int .i64 d] 40)).cell? ⟨w.heap.size, 0, none⟩ = some (.int .i64 a) := (((PairAt.new w a b).alloc _)).c0
  have HS : Bx (Two w (.int .i64 a) (.int .i64 b) (.int .i64 n) (.int .i64 d) ((w.alloc (.cells #[.int .i64 a, .int .i64 b] 40)).alloc (.cells #[.int .i64 n, .int .i64 d] 40))) :=
    Bx.mk ⟨((PairAt.new w a b).alloc _).c0, ((PairAt.new w a b).alloc _).c1, (PairAt.at _ (w.heap.size + 1) n d (by simp)).c0, (PairAt.at _ (w.heap.size + 1) n d (by simp)).c1, by simp, Bx.mk ((HT.out.alloc _).alloc _), ((Below.refl _ _).alloc (Nat.le_refl _) _).alloc (by simp) _⟩
  clear KP HT
  go_region_held3 (fun W => W.cell? ⟨w.heap.size, 0, none⟩ = some (.int .i64 a) ∧ W.cell? ⟨w.heap.size, 1, none⟩ = some (.int .i64 b) ∧ W.cell? ⟨w.heap.size + 1, 0, none⟩ = some (.int .i64 n) ∧ W.cell? ⟨w.heap.size + 1, 1, none⟩ = some (.int .i64 d) ∧ w.heap.size + 2 ≤ W.heap.size ∧ Bx (StepTab W) ∧ Below w.heap.size w W)
      (first | (with_reducible exact keepS (by assumption) hb4) | (with_reducible exact keepS (by assumption) ((Below.refl _ _).alloc (Nat.le_refl _) _)) | (with_reducible exact keepS (by assumption) (Below.refl _ _).drew) | (with_reducible assumption) | exact keepS HS.out (Below.refl _ _).drew)
      (first | (go_at_call 75; (with_reducible refine (h1 _ (by assumption : _ ∧ _ ∧ _ ∧ _ ∧ _ ∧ Bx _ ∧ _).2.2.2.2.2.1.out).mono ?_); rintro r w4 ⟨rfl, hb4⟩; have hS0 := keepS (w := w) (by assumption) hb4) | (go_at_call 75; (with_reducible refine (h2 _ (by assumption : _ ∧ _ ∧ _ ∧ _ ∧ _ ∧ Bx _ ∧ _).2.2.2.2.2.1.out).mono ?_); rintro r w4 ⟨rfl, hb4⟩; have hS1 := keepS (w := w) (by assumption) hb4) | (go_at_call 99; (with_reducible refine (h3 _).mono ?_); rintro r w4 ⟨rfl, rfl⟩))
  all_goals
    go_wp2_with (fail)
    go_ret
    exact ⟨rfl, (by assumption : _ ∧ _ ∧ _ ∧ _ ∧ _ ∧ Bx _ ∧ _).2.2.2.2.2.2⟩

theorem StepTab.put {W : World} {b o : Nat} (h : StepTab W) (hb : 1 ≠ b) (v : Value) : StepTab (W.setCell ⟨b, o, none⟩ v) := ⟨by simpa [World.setCell] using h.1, fun i hi => by
  rw [World.cell?_setCell_other _ _ _ _ (by intro e; injection e with e1; omega)]; exact h.2 i hi⟩
theorem keepT {g h o : Nat} {w W W' : World} {a b n d : Value} (hh : W.cell? ⟨g, o, none⟩ = some a ∧ W.cell? ⟨g, o + 1, none⟩ = some b ∧ W.cell? ⟨h, 0, none⟩ = some n ∧ W.cell? ⟨h, 1, none⟩ = some d ∧ g < W.heap.size ∧ h < W.heap.size ∧ Bx (StepTab W) ∧ Below w.heap.size w W) (hb : Below W.heap.size W W') :
    W'.cell? ⟨g, o, none⟩ = some a ∧ W'.cell? ⟨g, o + 1, none⟩ = some b ∧ W'.cell? ⟨h, 0, none⟩ = some n ∧ W'.cell? ⟨h, 1, none⟩ = some d ∧ g < W'.heap.size ∧ h < W'.heap.size ∧ Bx (StepTab W') ∧ Below w.heap.size w W' := by
  obtain ⟨h1, h2, h3, h4, h5, h5', h7, h6⟩ := hh
  have hs := hb.size
  exact ⟨(hb.cell (p := ⟨g, o, none⟩) h5).trans h1, (hb.cell (p := ⟨g, o + 1, none⟩) h5).trans h2, (hb.cell (p := ⟨h, 0, none⟩) h5').trans h3, (hb.cell (p := ⟨h, 1, none⟩) h5').trans h4, by omega, by omega, Bx.mk (h7.out.below hb), h6.trans (hb.mono h6.size)⟩
theorem cmp_neg (x y : Int) : decide (cmpZ x y < 0) = decide (x < y) := by
  unfold cmpZ
  split
  · simp [*]
  · split <;> simp <;> omega
theorem pair_cells {w : World} {base g cap : Nat} {l : List (Int × Int)} (h : w.ownsRow base 40 2 (.slice (some ⟨g, 0, none⟩) l.length cap) l.length (pcells l)) :
    ∀ i, i < l.length → w.cell? ⟨g, i * 2, none⟩ = some (.int .i64 (l.getD i (0, 0)).1) ∧ w.cell? ⟨g, i * 2 + 1, none⟩ = some (.int .i64 (l.getD i (0, 0)).2) := fun i hi => by
  have hp : ∀ (l : List (Int × Int)) (i : Nat), i < l.length → (pcells l)[i * 2]? = some (.int .i64 (l.getD i (0, 0)).1) ∧ (pcells l)[i * 2 + 1]? = some (.int .i64 (l.getD i (0, 0)).2) := by
    intro l
    induction l with
    | nil => intro i hi; cases hi
    | cons p l ih =>
      intro i hi
      cases i with
      | zero => exact ⟨rfl, rfl⟩
      | succ i =>
        have := ih i (by simpa using hi)
        rw [show (i + 1) * 2 = i * 2 + 1 + 1 by omega, show i * 2 + 1 + 1 + 1 = (i * 2 + 1) + 1 + 1 by omega]
        exact this
  rw [h.cellAt (i * 2) (by omega), h.cellAt (i * 2 + 1) (by omega)]
  exact hp l i hi
theorem own_cap {w : World} {base : Nat} {e : TypeId} {size n g cap : Nat} {xs : List Value} (h : w.ownsRow base e size (.slice (some ⟨g, 0, none⟩) n cap) n xs) : n ≤ cap := by
  rcases h.2 with ⟨h0, _⟩ | ⟨g', cap', cur, hv, hg, hh, hn, hcap, hsz, htake⟩
  · cases h0
  · cases hv; exact hn
theorem keepU {h : Nat} {w W W' : World} {n d : Value} (hh : W.cell? ⟨h, 0, none⟩ = some n ∧ W.cell? ⟨h, 1, none⟩ = some d ∧ h < W.heap.size ∧ Bx (StepTab W) ∧ Below w.heap.size w W) (hb : Below W.heap.size W W') :
    W'.cell? ⟨h, 0, none⟩ = some n ∧ W'.cell? ⟨h, 1, none⟩ = some d ∧ h < W'.heap.size ∧ Bx (StepTab W') ∧ Below w.heap.size w W' := by
  obtain ⟨h3, h4, h5', h7, h6⟩ := hh
  have hs := hb.size
  exact ⟨(hb.cell (p := ⟨h, 0, none⟩) h5').trans h3, (hb.cell (p := ⟨h, 1, none⟩) h5').trans h4, by omega, Bx.mk (h7.out.below hb), h6.trans (hb.mono h6.size)⟩
theorem keepUss {h o o' : Nat} {w W : World} {n d u u' : Value} (hh : W.cell? ⟨h, 0, none⟩ = some n ∧ W.cell? ⟨h, 1, none⟩ = some d ∧ h < W.heap.size ∧ Bx (StepTab W) ∧ Below w.heap.size w W) (hne : w.heap.size < h) (hg : 1 < w.heap.size) :
    ((W.setCell ⟨w.heap.size, o, none⟩ u).setCell ⟨w.heap.size, o', none⟩ u').cell? ⟨h, 0, none⟩ = some n ∧ ((W.setCell ⟨w.heap.size, o, none⟩ u).setCell ⟨w.heap.size, o', none⟩ u').cell? ⟨h, 1, none⟩ = some d ∧ h < ((W.setCell ⟨w.heap.size, o, none⟩ u).setCell ⟨w.heap.size, o', none⟩ u').heap.size ∧ Bx (StepTab ((W.setCell ⟨w.heap.size, o, none⟩ u).setCell ⟨w.heap.size, o', none⟩ u')) ∧ Below w.heap.size w ((W.setCell ⟨w.heap.size, o, none⟩ u).setCell ⟨w.heap.size, o', none⟩ u') := by
  obtain ⟨h3, h4, h5', h7, h6⟩ := hh
  have k : ∀ p, ((W.setCell ⟨w.heap.size, o, none⟩ u).setCell ⟨w.heap.size, o', none⟩ u').cell? ⟨h, p, none⟩ = W.cell? ⟨h, p, none⟩ := fun p => by
    rw [World.cell?_setCell_other _ _ _ _ (by intro e; injection e with e1; omega), World.cell?_setCell_other _ _ _ _ (by intro e; injection e with e1; omega)]
  exact ⟨(k _).trans h3, (k _).trans h4, by simpa [World.setCell] using h5', Bx.mk ((h7.out.put (by omega) _).put (by omega) _), (h6.setCell (Nat.le_refl _) _).setCell (Nat.le_refl _) _⟩
def MinRel (c : Int) (p : Int × Int) (l : List (Int × Int)) (w : World) (i : Value) (wr : World) : Prop := ∃ k : Nat, k ≤ l.length ∧ i = .int .i64 ((k : Int) + 1) ∧ PairAt wr (w.heap.size + 1) (minP c p (l.take k)).1 (minP c p (l.take k)).2 ∧ PairAt wr w.heap.size 0 0 ∧ Bx (StepTab wr) ∧ Below w.heap.size w wr
set_option maxHeartbeats 2000000 in
theorem impl_minfunc (c : Int) (p : Int × Int) (l : List (Int × Int)) (g cap : Nat) (w : World) (hT : StepTab w) (hc : 0 ≤ c ∧ c ≤ 120000) (hok : ∀ q ∈ p :: l, okR q.1 q.2 = true) (hl : l.length ≤ 10000) (hgw : 1 < w.heap.size) (hcap : l.length + 1 ≤ cap)
    (hcell : ∀ i, i < l.length + 1 → w.cell? ⟨g, i * 2, none⟩ = some (.int .i64 ((p :: l).getD i (0, 0)).1) ∧ w.cell? ⟨g, i * 2 + 1, none⟩ = some (.int .i64 ((p :: l).getD i (0, 0)).2)) (hg : g < w.heap.size) :
    Calls Tryd.prog 72 #[.slice (some ⟨g, 0, none⟩) (l.length + 1) cap, .func (.func 74) #[.int .i64 c] #[]] w fun e w' => e = .returned (rat (minP c p l).1 (minP c p l).2) ∧ Below w.heap.size w w' := by
  have HT := Bx.mk hT
  have HO := Bx.mk hok
  have HC := Bx.mk hcell
  have h00 := (hcell 0 (by omega)).1
  have h01 := (hcell 0 (by omega)).2
  simp only [Nat.zero_mul, Nat.zero_add, List.getD_cons_zero] at h00 h01
  clear hT hok hcell
  go_enter Tryd.func72, Tryd.ntmps72
  go_wp2_with (fail)
  go_loopw [6] (fun i wr => MinRel c p l w i wr) (fun i _ => (l.length + 10 - (intOf i).toNat))
  case atStart =>
    refine ⟨0, Nat.zero_le _, rfl, ?_, ?_, Bx.mk ((HT.out.alloc _).alloc _), ?_⟩
    · show PairAt _ (w.heap.size + 1) p.1 p.2
      repeat' (first | (with_reducible assumption) | (with_reducible refine PairAt.at _ _ _ _ ?_; focus (first | omega | (simp only [World.size_alloc, World.size_setCell, World.size_drew] <;> omega) | (simp <;> omega))) | (with_reducible refine PairAt.alloc ?_ _) | (with_reducible refine PairAt.draws ?_ _) | (with_reducible refine PairAt.drew1 ?_) | (with_reducible apply PairAt.put) | (with_reducible apply PairAt.put1) | (with_reducible apply PairAt.put0) | (with_reducible refine PairAt.other2 ?_ ?_ _; focus (first | omega | (simp only [World.size_alloc, World.size_setCell, World.size_drew] <;> omega) | (simp <;> omega))))
    · repeat' (first | (with_reducible assumption) | (with_reducible refine PairAt.at _ _ _ _ ?_; focus (first | omega | (simp only [World.size_alloc, World.size_setCell, World.size_drew] <;> omega) | (simp <;> omega))) | (with_reducible refine PairAt.alloc ?_ _) | (with_reducible refine PairAt.draws ?_ _) | (with_reducible refine PairAt.drew1 ?_) | (with_reducible apply PairAt.put) | (with_reducible apply PairAt.put1) | (with_reducible apply PairAt.put0) | (with_reducible refine PairAt.other2 ?_ ?_ _; focus (first | omega | (simp only [World.size_alloc, World.size_setCell, World.size_drew] <;> omega) | (simp <;> omega))))
    · repeat' (first | (with_reducible exact Below.refl _ _) | (with_reducible assumption) | (with_reducible refine Below.drew ?_) | (with_reducible refine Below.alloc ?_ ?_ _) | (with_reducible refine below_draws ?_ _) | (with_reducible refine Below.setCell ?_ ?_ _) | go_size)
  case round =>
    obtain ⟨k, hk, rfl, hP, hZ, hST, hb⟩ := hrel
    have K0 := Bx.mk hZ
    have K1 := Bx.mk hP
    have BB := Bx.mk hb
    clear hZ hP hb h00 h01
    have zBB := BB.out.size
    have k0c0 := K0.out.c0
    have k0c1 := K0.out.c1
    have k0f0 := K0.out.f0 0
    have k0f1 := K0.out.f0 1
    have k0lt := K0.out.lt
    have k1c0 := K1.out.c0
    have k1c1 := K1.out.c1
    have k1f0 := K1.out.f0 0
    have k1f1 := K1.out.f0 1
    have k1lt := K1.out.lt
    by_cases hlt : k < l.length
    · have hq1 : wr.cell? ⟨g, (k + 1) * 2, none⟩ = some (.int .i64 (l.getD k (0, 0)).1) := (BB.out.cell (p := ⟨g, (k + 1) * 2, none⟩) hg).trans (HC.out (k + 1) (by omega)).1
      have hq2 : wr.cell? ⟨g, (k + 1) * 2 + 1, none⟩ = some (.int .i64 (l.getD k (0, 0)).2) := (BB.out.cell (p := ⟨g, (k + 1) * 2 + 1, none⟩) hg).trans (HC.out (k + 1) (by omega)).2
      have hqo : okR (l.getD k (0, 0)).1 (l.getD k (0, 0)).2 = true := HO.out _ (by
        have : l.getD k (0, 0) ∈ l := by simp [List.getD, hlt]
        exact List.mem_cons_of_mem _ this)
      have hmo : okR (minP c p (l.take k)).1 (minP c p (l.take k)).2 = true := HO.out _ (by
        rcases minP_mem c (l.take k) p with h | h
        · rw [h]; simp
        · exact List.mem_cons_of_mem _ (List.mem_of_mem_take h))
      have hcomp := fun W h => impl_comp c _ _ _ _ W h hqo hmo hc
      have HS : Bx (minP c p (l.take (k + 1)) = if distP c (l.getD k (0, 0)) < distP c (minP c p (l.take k)) then l.getD k (0, 0) else minP c p (l.take k)) := Bx.mk (by
        rw [← minP_snoc]
        congr 1
        rw [List.take_add_one]
        simp [hlt])
      clear hqo hmo
      generalize l.getD k (0, 0) = q at *
      generalize minP c p (l.take k) = mm at *
      obtain ⟨q1, q2⟩ := q
      obtain ⟨mm1, mm2⟩ := mm
      simp only at hq1 hq2 hcomp HS K1 k1c0 k1c1 
      have hgr : g < wr.heap.size := Nat.lt_of_lt_of_le hg zBB
      have HSS : Bx (wr.cell? ⟨g, (k + 1) * 2, none⟩ = some (.int .i64 q1) ∧ wr.cell? ⟨g, (k + 1) * 2 + 1, none⟩ = some (.int .i64 q2) ∧ wr.cell? ⟨w.heap.size + 1, 0, none⟩ = some (.int .i64 mm1) ∧ wr.cell? ⟨w.heap.size + 1, 1, none⟩ = some (.int .i64 mm2) ∧ g < wr.heap.size ∧ w.heap.size + 1 < wr.heap.size ∧ Bx (StepTab wr) ∧ Below w.heap.size w wr) := Bx.mk ⟨hq1, hq2, K1.out.c0, K1.out.c1, hgr, K1.out.lt, hST, BB.out⟩
      unfold rat at hcomp
      have X1 : (0 : Int) ≤ (k : Int) + 1 := by omega
      have X2 : (k : Int) + 1 < (l.length : Int) + 1 := by omega
      have X3 : ((k : Int) + 1).toNat = k + 1 := by omega
      have HD := Bx.mk (cmp_neg (distP c (q1, q2)) (distP c (mm1, mm2)))
      generalize cmpZ (distP c (q1, q2)) (distP c (mm1, mm2)) = z at hcomp HD
      go_wp2_with (fail)
      go_region_held3 (fun W => W.cell? ⟨g, (k + 1) * 2, none⟩ = some (.int .i64 q1) ∧ W.cell? ⟨g, (k + 1) * 2 + 1, none⟩ = some (.int .i64 q2) ∧ W.cell? ⟨w.heap.size + 1, 0, none⟩ = some (.int .i64 mm1) ∧ W.cell? ⟨w.heap.size + 1, 1, none⟩ = some (.int .i64 mm2) ∧ g < W.heap.size ∧ w.heap.size + 1 < W.heap.size ∧ Bx (StepTab W) ∧ Below w.heap.size w W)
        (first | (with_reducible exact keepT (by assumption) hb4) | (with_reducible exact keepT (by assumption) (Below.refl _ _).drew) | (with_reducible assumption) | exact keepT HSS.out (Below.refl _ _).drew)
        (first | (go_at_call 74; (with_reducible refine (hcomp _ (by assumption : _ ∧ _ ∧ _ ∧ _ ∧ _ ∧ _ ∧ Bx _ ∧ _).2.2.2.2.2.2.1.out).mono ?_); rintro r w4 ⟨rfl, hb4⟩; have hS0 := keepT (w := w) (by assumption) hb4; have HJ0 := Bx.mk (K0.out.drew1.below hb4); have HJ1 := Bx.mk (K1.out.drew1.below hb4)))
      clear k0c0 k0c1 k0f0 k0f1 k0lt k1c0 k1c1 k1f0 k1f1 k1lt hq1 hq2 hgr HSS hcomp K0 K1 BB zBB hST hb4
      obtain ⟨e1, e2, e3, e4, e5, e6, e7, e8⟩ := hS0
      have BB := Bx.mk e8
      have zBB := e8.size
      have f0 := HJ1.out.f0 0
      have f1 := HJ1.out.f0 1
      by_cases hz : distP c (q1, q2) < distP c (mm1, mm2)
      · have hz2 : z < 0 := by have := HD.out; simpa [hz] using this
        rw [if_pos hz] at HS
        clear e8 HD hz
        go_wp2_with (fail)
        go_roundw
        case rel => exact ⟨k + 1, by omega, by go_num, (by rw [HS.out]; have Q := HJ1.out; repeat' (first | (with_reducible assumption) | (with_reducible refine PairAt.at _ _ _ _ ?_; focus (first | omega | (simp only [World.size_alloc, World.size_setCell, World.size_drew] <;> omega) | (simp <;> omega))) | (with_reducible refine PairAt.alloc ?_ _) | (with_reducible refine PairAt.draws ?_ _) | (with_reducible refine PairAt.drew1 ?_) | (with_reducible apply PairAt.put) | (with_reducible apply PairAt.put1) | (with_reducible apply PairAt.put0) | (with_reducible refine PairAt.other2 ?_ ?_ _; focus (first | omega | (simp only [World.size_alloc, World.size_setCell, World.size_drew] <;> omega) | (simp <;> omega))))), (by have Q := HJ0.out; repeat' (first | (with_reducible assumption) | (with_reducible refine PairAt.at _ _ _ _ ?_; focus (first | omega | (simp only [World.size_alloc, World.size_setCell, World.size_drew] <;> omega) | (simp <;> omega))) | (with_reducible refine PairAt.alloc ?_ _) | (with_reducible refine PairAt.draws ?_ _) | (with_reducible refine PairAt.drew1 ?_) | (with_reducible apply PairAt.put) | (with_reducible apply PairAt.put1) | (with_reducible apply PairAt.put0) | (with_reducible refine PairAt.other2 ?_ ?_ _; focus (first | omega | (simp only [World.size_alloc, World.size_setCell, World.size_drew] <;> omega) | (simp <;> omega))))), Bx.mk ((e7.out.put (by omega) _).put (by omega) _), (by have KBO := BB.out; repeat' (first | (with_reducible exact Below.refl _ _) | (with_reducible assumption) | (with_reducible refine Below.drew ?_) | (with_reducible refine Below.alloc ?_ ?_ _) | (with_reducible refine below_draws ?_ _) | (with_reducible refine Below.setCell ?_ ?_ _) | go_size))⟩
        case measure => simp [intOf]; omega
      · have hz2 : ¬ z < 0 := by have := HD.out; simpa [hz] using this
        rw [if_neg hz] at HS
        clear e8 HD hz
        go_wp2_with (fail)
        go_roundw
        case rel => exact ⟨k + 1, by omega, by go_num, (by rw [HS.out]; exact HJ1.out), HJ0.out, e7, BB.out⟩
        case measure => simp [intOf]; omega
    · have HE : Bx (minP c p l = minP c p (l.take k)) := Bx.mk (by rw [List.take_of_length_le (by omega)])
      have X2 : decide ((k : Int) + 1 < (l.length : Int) + 1) = false := by simp; omega
      generalize minP c p (l.take k) = mm at *
      go_wp2_with (fail)
      have P := put_pair K0.out mm.1 mm.2
      refine bodyPost_ret (v := .agg #[.int .i64 mm.1, .int .i64 mm.2]) (by simp [results, Tryd.results72, go_sem, P.1, P.2]) rfl ?_
      rw [HE.out]
      refine ⟨rfl, ?_⟩
      have KBO := BB.out
      repeat' (first | (with_reducible exact Below.refl _ _) | (with_reducible assumption) | (with_reducible refine Below.drew ?_) | (with_reducible refine Below.alloc ?_ ?_ _) | (with_reducible refine below_draws ?_ _) | (with_reducible refine Below.setCell ?_ ?_ _) | go_size)

set_option maxHeartbeats 2000000 in
theorem impl_best (c m : Int) (w : World) (hT : StepTab w) : Calls Tryd.prog 36 #[.int .i64 c, .int .i64 m] w (OctEOut (bestE c m) w) := by
  by_cases hin : (0 ≤ c ∧ c ≤ 120000) ∧ (1 ≤ m ∧ m ≤ 64)
  · obtain ⟨hc, hm⟩ := hin
    have ho := fun W => impl_octs m W hm
    obtain ⟨l, hl⟩ : ∃ l, allR m.toNat = (1, 1) :: l := by
      have := allR_head (m.toNat - 1)
      rwa [show m.toNat - 1 + 1 = m.toNat by omega] at this
    have hok := allR_ok m.toNat (by omega)
    have hlen := allR_len m.toNat (by omega)
    have HE : Bx (bestE c m = (((minP c (1, 1) l).1, (minP c (1, 1) l).2), distP c (minP c (1, 1) l), 0)) := Bx.mk (by
      have h1 : inB c 0 120000 = true := inB_mk hc
      have h2 : inB m 1 64 = true := inB_mk hm
      simp only [bestE, h1, h2, Bool.and_self, if_true]
      rw [bestAll_min c m.toNat hl])
    rw [hl] at ho hok hlen
    have hmo : okR (minP c (1, 1) l).1 (minP c (1, 1) l).2 = true := hok _ (by
      rcases minP_mem c l (1, 1) with h | h
      · rw [h]; simp
      · exact List.mem_cons_of_mem _ h)
    have hmf := fun g cap W h1 h2 h3 h4 h5 => impl_minfunc c (1, 1) l g cap W h1 hc hok (by simp at hlen; omega) h2 h3 h4 h5
    have hdi := fun W h => impl_dist c _ _ W h hmo hc
    have HT := Bx.mk hT
    clear hT hok hmo hl
    obtain ⟨c1, c2⟩ := hc
    obtain ⟨m1, m2⟩ := hm
    generalize minP c (1, 1) l = mm at *
    obtain ⟨a, b⟩ := mm
    simp only at hdi HE hmf
    generalize distP c (a, b) = z at *
    unfold rat at *
    go_enter Tryd.func36, Tryd.ntmps36
    go_wp2_with (fail)
    refine (ho _).mono ?_
    rintro r w1 ⟨v, rfl, hown, hb1⟩
    obtain ⟨g, cap, rfl, hg1, hg2⟩ := hown.form (by simp)
    have HC : Bx (∀ i, i < l.length + 1 → w1.cell? ⟨g, i * 2, none⟩ = some (.int .i64 (((1, 1) :: l : List (Int × Int)).getD i (0, 0)).1) ∧ w1.cell? ⟨g, i * 2 + 1, none⟩ = some (.int .i64 (((1, 1) :: l : List (Int × Int)).getD i (0, 0)).2)) := Bx.mk (pair_cells hown)
    have hcap := own_cap hown
    have HT1 := Bx.mk ((HT.out.alloc _).below hb1)
    have K0 := Bx.mk ((PairAt.new w 0 0).below hb1)
    have B1 : Bx (Below w.heap.size w w1) := Bx.mk (Below.trans (by repeat' (first | (with_reducible exact Below.refl _ _) | (with_reducible assumption) | (with_reducible refine Below.drew ?_) | (with_reducible refine Below.alloc ?_ ?_ _) | (with_reducible refine below_draws ?_ _) | (with_reducible refine Below.setCell ?_ ?_ _) | go_size)) (hb1.mono (by go_size)))
    clear hown hb1 ho hg1
    have zB1 := B1.out.size
    simp only [List.length_cons] at hcap ⊢
    go_wp2_with (fail)
    refine (hmf g cap _ HT1.out HT1.out.1 hcap HC.out hg2).mono ?_
    rintro r w2 ⟨rfl, hb2⟩
    have HT2 := Bx.mk (HT1.out.below hb2)
    have J0 := Bx.mk (K0.out.below hb2)
    have B2 : Bx (Below w.heap.size w w2) := Bx.mk (B1.out.trans (hb2.mono zB1))
    clear hb2 HC K0 HT1 B1 zB1 hmf hcap hg2
    have zB2 := B2.out.size
    have J0c0 := J0.out.c0
    have J0c1 := J0.out.c1
    have J0f0 := J0.out.f0 0
    have J0f1 := J0.out.f0 1
    have J0lt := J0.out.lt
    go_wp2_with (fail)
    have HS : Bx ((w2.alloc (.cells #[.int .i64 a, .int .i64 b] 40)).cell? ⟨w2.heap.size, 0, none⟩ = some (.int .i64 a) ∧ (w2.alloc (.cells #[.int .i64 a, .int .i64 b] 40)).cell? ⟨w2.heap.size, 1, none⟩ = some (.int .i64 b) ∧ w2.heap.size < (w2.alloc (.cells #[.int .i64 a, .int .i64 b] 40)).heap.size ∧ Bx (StepTab (w2.alloc (.cells #[.int .i64 a, .int .i64 b] 40))) ∧ Below w.heap.size w (w2.alloc (.cells #[.int .i64 a, .int .i64 b] 40))) :=
      Bx.mk ⟨(PairAt.new w2 a b).c0, (PairAt.new w2 a b).c1, by simp, Bx.mk (HT2.out.alloc _), B2.out.alloc zB2 _⟩
    have L0 := Bx.mk (J0.out.alloc (.cells #[.int .i64 a, .int .i64 b] 40))
    have hgne : w.heap.size < w2.heap.size := J0lt
    have hgl : 1 < w.heap.size := HT.out.1
    clear J0c0 J0c1 J0f0 J0f1 J0lt HT2 J0 B2 HT
    go_region_held3 (fun W => W.cell? ⟨w2.heap.size, 0, none⟩ = some (.int .i64 a) ∧ W.cell? ⟨w2.heap.size, 1, none⟩ = some (.int .i64 b) ∧ w2.heap.size < W.heap.size ∧ Bx (StepTab W) ∧ Below w.heap.size w W)
      (first | (with_reducible exact keepU (by assumption) hb4) | (with_reducible exact keepU (by assumption) (Below.refl _ _).drew) | (with_reducible exact keepUss (by assumption) hgne hgl) | (with_reducible assumption) | exact keepU HS.out (Below.refl _ _).drew)
      (first | (go_at_call 75; (with_reducible refine (hdi _ (by assumption : _ ∧ _ ∧ _ ∧ Bx _ ∧ _).2.2.2.1.out).mono ?_); rintro r w4 ⟨rfl, hb4⟩; have hS0 := keepU (w := w) (by assumption) hb4; have L1 := Bx.mk (L0.out.drew1.below hb4); have l0 := L1.out.c0; have l1 := L1.out.c1; have l2 := L1.out.f0 0; have l3 := L1.out.f0 1))
    all_goals
      go_wp2_with (fail)
      have P := put_pair L1.out a b
      refine bodyPost_ret (v := .tuple #[.agg #[.int .i64 a, .int .i64 b], .int .i64 z, .int .i64 0]) (by simp [results, Tryd.results36, go_sem, P.1, P.2]) rfl ?_
      exact octe_out HE.out (by assumption : _ ∧ _ ∧ _ ∧ Bx _ ∧ _).2.2.2.2
  · have HE : Bx (bestE c m = ((0, 0), 0, 2)) := Bx.mk (by
      have hf : (inB c 0 120000 && inB m 1 64) = false := by
        rw [Bool.and_eq_false_iff]
        by_cases h1 : 0 ≤ c ∧ c ≤ 120000
        · right; simp only [inB, decide_eq_false_iff_not]; intro h2; exact hin ⟨h1, h2⟩
        · left; simpa only [inB, decide_eq_false_iff_not] using h1
      simp [bestE, hf])
    have hways : c < 0 ∨ (¬ c < 0 ∧ 120000 < c) ∨ (¬ c < 0 ∧ ¬ 120000 < c ∧ m < 1) ∨ (¬ c < 0 ∧ ¬ 120000 < c ∧ ¬ m < 1 ∧ 64 < m) := by omega
    clear hin hT
    rcases hways with h1 | ⟨h1, h2⟩ | ⟨h1, h2, h3⟩ | ⟨h1, h2, h3, h4⟩
    all_goals
      go_enter Tryd.func36, Tryd.ntmps36
      go_wp2_with (fail)
      go_returns
      refine octe_out HE.out ?_
      repeat' (first | (with_reducible exact Below.refl _ _) | (with_reducible assumption) | (with_reducible refine Below.drew ?_) | (with_reducible refine Below.alloc ?_ ?_ _) | (with_reducible refine below_draws ?_ _) | (with_reducible refine Below.setCell ?_ ?_ _) | go_size)
end Go.Proofs.YtdhgbincebcobaaDoor
