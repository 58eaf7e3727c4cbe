/- The model's PowerRatio. -/
import Derived.Test.YtpbbbkmcmfljdaaRatE
namespace Go.Proofs.Ytpbbbkmcmfljdaa
open Go.ChangeShapes Go.WideShapes Go.ChangeAt Go.RowKit
set_option linter.unusedVariables false

/-- the product of so many times a ratio, and a code -/
def powS (n d : Int) : Nat → Int × Int × Int
  | 0 => (1, 1, 0)
  | k + 1 => if (powS n d k).2.2 = 0 then doneR ((powS n d k).1 * n) ((powS n d k).2.1 * d) else (0, 0, 5)
def powE (n d k : Int) : Int × Int × Int := if okR n d = true then (if inB k 0 40 = true then powS n d k.toNat else (0, 0, 2)) else (0, 0, 1)
theorem pow_err (n d : Int) (k j : Nat) (h : powS n d k = (0, 0, 5)) : powS n d (k + j) = (0, 0, 5) := by
  induction j with
  | zero => exact h
  | succ j ih => rw [Nat.add_succ, powS, ih]; rfl
theorem done_rng {n d a b : Int} (hn : 1 ≤ n) (hd : 1 ≤ d) (h : doneR n d = (a, b, 0)) : (1 ≤ a ∧ a ≤ 1000000) ∧ (1 ≤ b ∧ b ≤ 1000000) := by
  obtain ⟨a1, _, _⟩ := red_num n d hn
  obtain ⟨b1, _, _⟩ := red_num d n hd
  rw [gz_comm d n] at b1
  unfold doneR at h
  split at h
  · rename_i hc
    injection h with e1 e2
    injection e2 with e2 _
    subst e1 e2
    omega
  · injection h with e1 e2
    injection e2 with e2 e3
    cases e3
/-- a block of two numbers -/
def PairAt (w : World) (g : Nat) (n d : Int) : Prop := w.heap[g]? = some (.cells #[.int .i64 n, .int .i64 d] 25 (0, 0))
theorem PairAt.c0 {w : World} {g : Nat} {n d : Int} (h : PairAt w g n d) : w.cell? ⟨g, 0, none⟩ = some (.int .i64 n) := by unfold PairAt at h; simp [World.cell?, h]
theorem PairAt.c1 {w : World} {g : Nat} {n d : Int} (h : PairAt w g n d) : w.cell? ⟨g, 1, none⟩ = some (.int .i64 d) := by unfold PairAt at h; simp [World.cell?, h]
theorem PairAt.f0 {w : World} {g : Nat} {n d : Int} (h : PairAt w g n d) (o : Nat) : w.frozen? ⟨g, o, none⟩ = false := by unfold PairAt at h; simp [World.frozen?, h]
theorem PairAt.lt {w : World} {g : Nat} {n d : Int} (h : PairAt w g n d) : g < w.heap.size := by
  unfold PairAt at h
  rcases Nat.lt_or_ge g w.heap.size with h1 | h1
  · exact h1
  · rw [Array.getElem?_eq_none h1] at h; cases h
theorem PairAt.below {w w' : World} {g : Nat} {n d : Int} (h : PairAt w g n d) (hb : Below w.heap.size w w') : PairAt w' g n d := by
  have := hb.block g h.lt
  unfold PairAt at h ⊢
  rw [this, h]
theorem PairAt.alloc {w : World} {g : Nat} {n d : Int} (h : PairAt w g n d) (o : Obj) : PairAt (w.alloc o) g n d := h.below ((Below.refl _ _).alloc (Nat.le_refl _) _)
theorem PairAt.draws {w : World} {g : Nat} {n d : Int} (h : PairAt w g n d) (k : Nat) : PairAt (w.drewN k) g n d := h
theorem PairAt.new (w : World) (n d : Int) : PairAt (w.alloc (.cells #[.int .i64 n, .int .i64 d] 25)) w.heap.size n d := heap_alloc_new w _
theorem PairAt.at (w : World) (g : Nat) (n d : Int) (h : g = w.heap.size) : PairAt (w.alloc (.cells #[.int .i64 n, .int .i64 d] 25)) g n d := by subst h; exact heap_alloc_new w _
theorem PairAt.put {w : World} {g : Nat} {n d : Int} (h : PairAt w g n d) (m e : Int) : PairAt ((w.setCell ⟨g, 0, none⟩ (.int .i64 m)).setCell ⟨g, 1, none⟩ (.int .i64 e)) g m e := by
  have h1 := heap_setCell_same w g 0 _ _ (.int .i64 m) h
  exact heap_setCell_same _ g 1 _ _ (.int .i64 e) h1
theorem PairAt.other {w : World} {g b o : Nat} {n d : Int} (h : PairAt w g n d) (hg : b ≠ g) (u : Value) : PairAt (w.setCell ⟨b, o, none⟩ u) g n d := by
  unfold PairAt at h ⊢
  rw [Below.heap_setCell _ _ _ _ (by show g ≠ b; omega)]; exact h
def PowRel (n d m : Int) (w : World) (i : Value) (wr : World) : Prop := ∃ (k : Nat) (p q : Int), i = .int .i64 k ∧ k ≤ m ∧ powS n d k = (p, q, 0) ∧ (1 ≤ p ∧ p ≤ 1000000) ∧ (1 ≤ q ∧ q ≤ 1000000) ∧ Below w.heap.size w wr ∧ PairAt wr w.heap.size n d ∧ PairAt wr (w.heap.size + 1) 0 0 ∧ PairAt wr (w.heap.size + 1 + 1) p q
set_option maxHeartbeats 2000000 in
theorem spec_power (n d m : Int) (w : World) : Calls Try.prog 21 #[rat n d, .int .i64 m] w (RatOut (powE n d m) w) := by
  have hp0 := fun g W h0 h1 => spec_ok g 0 n d W h0 h1
  cases hn : okR n d
  · have HE : Bx (powE n d m = (0, 0, 1)) := Bx.mk (by simp [powE, hn])
    simp only [hn] at hp0
    clear hn
    unfold rat
    go_enter Try.func21, Try.ntmps21
    go_wp2_with (fail)
    refine (hp0 _ _ (by go_simp) (by go_simp)).mono ?_
    rintro r w' ⟨rfl, k, rfl⟩
    go_wp2_with (fail)
    go_returns
    refine rat_out HE.out ?_
    repeat' (first | (with_reducible exact Below.refl _ _) | (with_reducible assumption) | (with_reducible refine Below.alloc ?_ ?_ _) | (with_reducible refine below_draws ?_ _) | (with_reducible refine Below.setCell ?_ ?_ _) | go_size)
  · have hi := fun W => in_any m 0 40 W
    cases hm : inB m 0 40
    · have HE : Bx (powE n d m = (0, 0, 2)) := Bx.mk (by simp [powE, hn, hm])
      simp only [hn] at hp0
      simp only [hm] at hi
      clear hn hm
      unfold rat
      go_enter Try.func21, Try.ntmps21
      go_wp2_with (fail)
      refine (hp0 _ _ (by go_simp) (by go_simp)).mono ?_
      rintro r w' ⟨rfl, k, rfl⟩
      go_wp2_with (fail)
      refine (hi _).mono ?_
      rintro r w' ⟨rfl, rfl⟩
      go_wp2_with (fail)
      go_returns
      refine rat_out HE.out ?_
      repeat' (first | (with_reducible exact Below.refl _ _) | (with_reducible assumption) | (with_reducible refine Below.alloc ?_ ?_ _) | (with_reducible refine below_draws ?_ _) | (with_reducible refine Below.setCell ?_ ?_ _) | go_size)
    · obtain ⟨m1, m2⟩ := inB_yes hm
      obtain ⟨n1, d1, _⟩ := okR_yes hn
      have HE : Bx (powE n d m = powS n d m.toNat) := Bx.mk (by simp [powE, hn, hm])
      have HN := Bx.mk n1
      have HD := Bx.mk d1
      simp only [hn] at hp0
      simp only [hm] at hi
      clear hn hm n1 d1
      unfold rat
      go_enter Try.func21, Try.ntmps21
      go_wp2_with (fail)
      refine (hp0 _ _ (by go_simp) (by go_simp)).mono ?_
      rintro r w' ⟨rfl, k, rfl⟩
      go_wp2_with (fail)
      refine (hi _).mono ?_
      rintro r w' ⟨rfl, rfl⟩
      clear hp0 hi
      go_wp2_with (fail)
      go_loopw [7] (fun i wr => PowRel n d m w i wr) (fun i _ => (m - intOf i).toNat)
      case atStart =>
        refine ⟨0, 1, 1, rfl, by omega, rfl, by omega, by omega, ?_, ?_, ?_, ?_⟩
        · repeat' (first | (with_reducible exact Below.refl _ _) | (with_reducible assumption) | (with_reducible refine Below.alloc ?_ ?_ _) | (with_reducible refine below_draws ?_ _) | (with_reducible refine Below.setCell ?_ ?_ _) | go_size)
        · exact (((PairAt.new w n d).alloc _).draws k).alloc _
        · exact ((PairAt.at _ _ 0 0 (by simp)).draws k).alloc _
        · exact PairAt.at _ _ 1 1 (by simp)
      case round =>
        obtain ⟨k, p, q, rfl, hk, hp, ⟨p1, p2⟩, ⟨q1, q2⟩, hb, h2, h4, h6⟩ := hrel
        have HB := Bx.mk hb
        have H2 := Bx.mk h2
        have H4 := Bx.mk h4
        have H6 := Bx.mk h6
        have HP := Bx.mk hp
        clear hb hp
        have c0 := h2.c0
        have c1 := h2.c1
        have c2 := h6.c0
        have c3 := h6.c1
        have f0 := h6.f0 0
        have f1 := h6.f0 1
        have g0 := h4.f0 0
        have g1 := h4.f0 1
        have c4 := h4.c0
        have c5 := h4.c1
        clear h2 h4 h6
        by_cases hlt : (k : Int) < m
        · obtain ⟨x1, x2⟩ := mul_rng ⟨p1, p2⟩ HN.out
          obtain ⟨y1, y2⟩ := mul_rng ⟨q1, q2⟩ HD.out
          have HDN := fun W => spec_done (p * n) (q * d) W ⟨x1, x2⟩ ⟨y1, y2⟩
          have HS : Bx (powS n d (k + 1) = doneR (p * n) (q * d)) := Bx.mk (by rw [powS, HP.out]; rfl)
          have HR := fun a b => done_rng (a := a) (b := b) x1 y1
          have HC := done_code (p * n) (q * d)
          generalize doneR (p * n) (q * d) = t at HDN HS HR HC
          generalize p * n / gz (p * n) (q * d) = a at HC
          generalize q * d / gz (p * n) (q * d) = b at HC
          rcases HC with rfl | rfl
          · obtain ⟨⟨a1, a2⟩, b1, b2⟩ := HR a b rfl
            clear HR
            go_wp2_with (fail)
            refine (HDN _).mono ?_
            rintro r w1 ⟨rfl, hb1⟩
            have K2 := Bx.mk (H2.out.below hb1)
            have K4 := Bx.mk (H4.out.below hb1)
            have K6 := Bx.mk (H6.out.below hb1)
            have KB := Bx.mk (HB.out.trans (hb1.mono HB.out.size))
            clear hb1 HDN c0 c1 c2 c3 c4 c5 f0 f1 g0 g1 H2 H4 H6 HB
            have d0 := K6.out.c0
            have d1 := K6.out.c1
            have e0 := K6.out.f0 0
            have e1 := K6.out.f0 1
            have d2 := K4.out.c0
            have d3 := K4.out.c1
            have e2 := K4.out.f0 0
            have e3 := K4.out.f0 1
            have hz := K6.out.lt
            have hz4 := K4.out.lt
            have hz2 := K2.out.lt
            have hwz := KB.out.size
            unfold rat
            go_wp2_with (fail)
            go_roundw
            case rel =>
              refine ⟨k + 1, a, b, by go_num, by omega, HS.out, ⟨a1, a2⟩, ⟨b1, b2⟩, ?_, ?_, ?_, ?_⟩
              · have KBO := KB.out
                repeat' (first | (with_reducible exact Below.refl _ _) | (with_reducible assumption) | (with_reducible refine Below.alloc ?_ ?_ _) | (with_reducible refine below_draws ?_ _) | (with_reducible refine Below.setCell ?_ ?_ _) | go_size)
              · exact ((K2.out.other (by omega) _).other (by omega) _).alloc _
              · exact ((K4.out.other (by omega) _).other (by omega) _).alloc _
              · exact (K6.out.put a b).alloc _
            case measure => simp [intOf]; omega
          · clear HR
            have HF : Bx (powE n d m = (0, 0, 5)) := Bx.mk (by
              rw [HE.out]
              have := pow_err n d (k + 1) (m.toNat - (k + 1)) HS.out
              rw [show k + 1 + (m.toNat - (k + 1)) = m.toNat by omega] at this
              exact this)
            go_wp2_with (fail)
            refine (HDN _).mono ?_
            rintro r w1 ⟨rfl, hb1⟩
            have K2 := Bx.mk (H2.out.below hb1)
            have K4 := Bx.mk (H4.out.below hb1)
            have K6 := Bx.mk (H6.out.below hb1)
            have KB := Bx.mk (HB.out.trans (hb1.mono HB.out.size))
            clear hb1 HDN c0 c1 c2 c3 c4 c5 f0 f1 g0 g1 H2 H4 H6 HB
            have d0 := K6.out.c0
            have d1 := K6.out.c1
            have e0 := K6.out.f0 0
            have e1 := K6.out.f0 1
            have d2 := K4.out.c0
            have d3 := K4.out.c1
            have e2 := K4.out.f0 0
            have e3 := K4.out.f0 1
            have hz := K6.out.lt
            have hz4 := K4.out.lt
            have hz2 := K2.out.lt
            have hwz := KB.out.size
            unfold rat
            go_wp2_with (fail)
            refine bodyPost_ret (v := .tuple #[.agg #[.int .i64 0, .int .i64 0], .int .i64 5]) (by simp [results, Try.results21, go_sem, d2, d3, hz4]) rfl ?_
            refine rat_out HF.out ?_
            have KBO := KB.out
            repeat' (first | (with_reducible exact Below.refl _ _) | (with_reducible assumption) | (with_reducible refine Below.alloc ?_ ?_ _) | (with_reducible refine below_draws ?_ _) | (with_reducible refine Below.setCell ?_ ?_ _) | go_size)
        · obtain rfl : (k : Int) = m := by omega
          have HF : Bx (powE n d k = (p, q, 0)) := Bx.mk (by rw [HE.out]; exact HP.out)
          go_wp2_with (fail)
          refine bodyPost_ret (v := .tuple #[.agg #[.int .i64 p, .int .i64 q], .int .i64 0]) (by simp [results, Try.results21, go_sem, c4, c5]) rfl ?_
          refine rat_out HF.out ?_
          have KBO := HB.out
          repeat' (first | (with_reducible exact Below.refl _ _) | (with_reducible assumption) | (with_reducible refine Below.alloc ?_ ?_ _) | (with_reducible refine below_draws ?_ _) | (with_reducible refine Below.setCell ?_ ?_ _) | go_size)
end Go.Proofs.Ytpbbbkmcmfljdaa
