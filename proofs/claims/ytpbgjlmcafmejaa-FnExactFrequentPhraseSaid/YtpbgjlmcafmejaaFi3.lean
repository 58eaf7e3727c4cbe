/- FrequentPhrase, the program: the walk. -/
import Derived.Test.YtpbgjlmcafmejaaFi2
import Derived.Test.YtpbgjlmcafmejaaRg4
import Derived.Deep.RegionHeld3
namespace Go.Proofs.Ytpbgjlmcafmejaa
open Go.ChangeShapes Go.WideShapes Go.ChangeAt Go.RowKit
set_option linter.unusedVariables false
set_option linter.unusedSimpArgs false
set_option maxRecDepth 100000

theorem padN_wfs {t : List Int} {m k : Nat} (hr : ∀ i, i < t.length → -12 ≤ t.getD i 0 ∧ t.getD i 0 ≤ 23) (h : k + m ≤ t.length) (hm : m ≤ 8) : Wfs (padN t m k) := by
  refine ⟨padN_len h hm, fun x hx => ?_⟩
  unfold padN at hx
  rcases List.mem_append.1 hx with hx | hx
  · obtain ⟨j, hj, rfl⟩ := List.mem_iff_getElem.1 hx
    rw [prt_len h] at hj
    have e := prt_getD (t := t) (m := m) (i := k) hj
    have hl : (prt t m k).getD j 0 = (prt t m k)[j]'(by rw [prt_len h]; exact hj) := by simp [List.getD, prt_len h, hj]
    rw [← hl, e]
    have h1 := hr (k + j) (by omega)
    generalize t.getD (k + j) 0 = z at *
    simp [Lit.wf, IntKind.bits, IntKind.signed, IntKind.min, IntKind.max]
    omega
  · obtain rfl := List.eq_of_mem_replicate hx
    rfl
set_option maxHeartbeats 1000000 in
theorem keepA2 {q : World} {b1 b2 : Nat} {s0 s1 s2 s3 s4 s5 s6 s7 x0 x1 x2 x3 x4 x5 x6 x7 : Int} {T : TypeId} (h1 : ArrAt q b1 (ints [s0, s1, s2, s3, s4, s5, s6, s7]) T) (h2 : ArrAt q b2 (ints [x0, x1, x2, x3, x4, x5, x6, x7]) T) {W : World} (hb : Below q.heap.size q W) :
    Below q.heap.size q W ∧ W.cell? ⟨b1, 0, none⟩ = some (.int .i64 s0) ∧ W.cell? ⟨b1, 1, none⟩ = some (.int .i64 s1) ∧ W.cell? ⟨b1, 2, none⟩ = some (.int .i64 s2) ∧ W.cell? ⟨b1, 3, none⟩ = some (.int .i64 s3) ∧ W.cell? ⟨b1, 4, none⟩ = some (.int .i64 s4) ∧ W.cell? ⟨b1, 5, none⟩ = some (.int .i64 s5) ∧ W.cell? ⟨b1, 6, none⟩ = some (.int .i64 s6) ∧ W.cell? ⟨b1, 7, none⟩ = some (.int .i64 s7) ∧ W.cell? ⟨b2, 0, none⟩ = some (.int .i64 x0) ∧ W.cell? ⟨b2, 1, none⟩ = some (.int .i64 x1) ∧ W.cell? ⟨b2, 2, none⟩ = some (.int .i64 x2) ∧ W.cell? ⟨b2, 3, none⟩ = some (.int .i64 x3) ∧ W.cell? ⟨b2, 4, none⟩ = some (.int .i64 x4) ∧ W.cell? ⟨b2, 5, none⟩ = some (.int .i64 x5) ∧ W.cell? ⟨b2, 6, none⟩ = some (.int .i64 x6) ∧ W.cell? ⟨b2, 7, none⟩ = some (.int .i64 x7) ∧ b1 < W.heap.size ∧ b2 < W.heap.size :=
  ⟨hb, ((h1.below hb).cell 0).trans rfl, ((h1.below hb).cell 1).trans rfl, ((h1.below hb).cell 2).trans rfl, ((h1.below hb).cell 3).trans rfl, ((h1.below hb).cell 4).trans rfl, ((h1.below hb).cell 5).trans rfl, ((h1.below hb).cell 6).trans rfl, ((h1.below hb).cell 7).trans rfl, ((h2.below hb).cell 0).trans rfl, ((h2.below hb).cell 1).trans rfl, ((h2.below hb).cell 2).trans rfl, ((h2.below hb).cell 3).trans rfl, ((h2.below hb).cell 4).trans rfl, ((h2.below hb).cell 5).trans rfl, ((h2.below hb).cell 6).trans rfl, ((h2.below hb).cell 7).trans rfl, (h1.below hb).lt, (h2.below hb).lt⟩
theorem keepS {q W W' : World} {b1 b2 : Nat} {a0 a1 a2 a3 a4 a5 a6 a7 p0 p1 p2 p3 p4 p5 p6 p7 : Value} (h : Below q.heap.size q W ∧ W.cell? ⟨b1, 0, none⟩ = some a0 ∧ W.cell? ⟨b1, 1, none⟩ = some a1 ∧ W.cell? ⟨b1, 2, none⟩ = some a2 ∧ W.cell? ⟨b1, 3, none⟩ = some a3 ∧ W.cell? ⟨b1, 4, none⟩ = some a4 ∧ W.cell? ⟨b1, 5, none⟩ = some a5 ∧ W.cell? ⟨b1, 6, none⟩ = some a6 ∧ W.cell? ⟨b1, 7, none⟩ = some a7 ∧ W.cell? ⟨b2, 0, none⟩ = some p0 ∧ W.cell? ⟨b2, 1, none⟩ = some p1 ∧ W.cell? ⟨b2, 2, none⟩ = some p2 ∧ W.cell? ⟨b2, 3, none⟩ = some p3 ∧ W.cell? ⟨b2, 4, none⟩ = some p4 ∧ W.cell? ⟨b2, 5, none⟩ = some p5 ∧ W.cell? ⟨b2, 6, none⟩ = some p6 ∧ W.cell? ⟨b2, 7, none⟩ = some p7 ∧ b1 < W.heap.size ∧ b2 < W.heap.size) (hb : Below W.heap.size W W') : Below q.heap.size q W' ∧ W'.cell? ⟨b1, 0, none⟩ = some a0 ∧ W'.cell? ⟨b1, 1, none⟩ = some a1 ∧ W'.cell? ⟨b1, 2, none⟩ = some a2 ∧ W'.cell? ⟨b1, 3, none⟩ = some a3 ∧ W'.cell? ⟨b1, 4, none⟩ = some a4 ∧ W'.cell? ⟨b1, 5, none⟩ = some a5 ∧ W'.cell? ⟨b1, 6, none⟩ = some a6 ∧ W'.cell? ⟨b1, 7, none⟩ = some a7 ∧ W'.cell? ⟨b2, 0, none⟩ = some p0 ∧ W'.cell? ⟨b2, 1, none⟩ = some p1 ∧ W'.cell? ⟨b2, 2, none⟩ = some p2 ∧ W'.cell? ⟨b2, 3, none⟩ = some p3 ∧ W'.cell? ⟨b2, 4, none⟩ = some p4 ∧ W'.cell? ⟨b2, 5, none⟩ = some p5 ∧ W'.cell? ⟨b2, 6, none⟩ = some p6 ∧ W'.cell? ⟨b2, 7, none⟩ = some p7 ∧ b1 < W'.heap.size ∧ b2 < W'.heap.size := by
  obtain ⟨hB, h0, h1, h2, h3, h4, h5, h6, h7, k0, k1, k2, k3, k4, k5, k6, k7, l1, l2⟩ := h
  exact ⟨hB.trans (hb.mono hB.size), (hb.cell (p := ⟨b1, 0, none⟩) l1).trans h0, (hb.cell (p := ⟨b1, 1, none⟩) l1).trans h1, (hb.cell (p := ⟨b1, 2, none⟩) l1).trans h2, (hb.cell (p := ⟨b1, 3, none⟩) l1).trans h3, (hb.cell (p := ⟨b1, 4, none⟩) l1).trans h4, (hb.cell (p := ⟨b1, 5, none⟩) l1).trans h5, (hb.cell (p := ⟨b1, 6, none⟩) l1).trans h6, (hb.cell (p := ⟨b1, 7, none⟩) l1).trans h7, (hb.cell (p := ⟨b2, 0, none⟩) l2).trans k0, (hb.cell (p := ⟨b2, 1, none⟩) l2).trans k1, (hb.cell (p := ⟨b2, 2, none⟩) l2).trans k2, (hb.cell (p := ⟨b2, 3, none⟩) l2).trans k3, (hb.cell (p := ⟨b2, 4, none⟩) l2).trans k4, (hb.cell (p := ⟨b2, 5, none⟩) l2).trans k5, (hb.cell (p := ⟨b2, 6, none⟩) l2).trans k6, (hb.cell (p := ⟨b2, 7, none⟩) l2).trans k7, Nat.lt_of_lt_of_le l1 hb.size, Nat.lt_of_lt_of_le l2 hb.size⟩
theorem belA {q W : World} {p : Prop} (h : Below q.heap.size q W ∧ p) : Below q.heap.size q W := h.1
theorem cmpI_lt {a b : Int} (h : a < b) : cmpI a b = -1 := if_pos h
theorem cmpI_gt {a b : Int} (h : b < a) : cmpI a b = 1 := by unfold cmpI; rw [if_neg (by omega), if_pos h]
theorem cmpI_same (a : Int) : cmpI a a = 0 := by unfold cmpI; rw [if_neg (by omega), if_neg (by omega)]
theorem grown_one (w : World) (g k : Nat) (a : Value) : w.grownBy (w.setCell ⟨g, k, none⟩ a) (some g) :=
  ⟨rfl, rfl, rfl, by simp [World.setCell], fun i _ hi => by
    have hne : i ≠ g := fun e => hi (by rw [e])
    rw [Below.heap_setCell _ _ _ _ hne]⟩
theorem grown_eight (w : World) (g : Nat) (a0 a1 a2 a3 a4 a5 a6 a7 : Value) : w.grownBy ((((((((w.setCell ⟨g, 0, none⟩ a0).setCell ⟨g, 1, none⟩ a1).setCell ⟨g, 2, none⟩ a2).setCell ⟨g, 3, none⟩ a3).setCell ⟨g, 4, none⟩ a4).setCell ⟨g, 5, none⟩ a5).setCell ⟨g, 6, none⟩ a6).setCell ⟨g, 7, none⟩ a7) (some g) :=
  ((((((((grown_one w g 0 a0).trans (grown_one _ g 1 a1)).trans (grown_one _ g 2 a2)).trans (grown_one _ g 3 a3)).trans (grown_one _ g 4 a4)).trans (grown_one _ g 5 a5)).trans (grown_one _ g 6 a6)).trans (grown_one _ g 7 a7))
theorem put_eight {w : World} {g : Nat} {s0 s1 s2 s3 s4 s5 s6 s7 : Int} {T : TypeId} (h : ArrAt w g (ints [s0, s1, s2, s3, s4, s5, s6, s7]) T) (x0 x1 x2 x3 x4 x5 x6 x7 : Int) : ArrAt ((((((((w.setCell ⟨g, 0, none⟩ (.int .i64 x0)).setCell ⟨g, 1, none⟩ (.int .i64 x1)).setCell ⟨g, 2, none⟩ (.int .i64 x2)).setCell ⟨g, 3, none⟩ (.int .i64 x3)).setCell ⟨g, 4, none⟩ (.int .i64 x4)).setCell ⟨g, 5, none⟩ (.int .i64 x5)).setCell ⟨g, 6, none⟩ (.int .i64 x6)).setCell ⟨g, 7, none⟩ (.int .i64 x7)) g (ints [x0, x1, x2, x3, x4, x5, x6, x7]) T :=
  ((((((((h.put 0 (.int .i64 x0)).put 1 (.int .i64 x1)).put 2 (.int .i64 x2)).put 3 (.int .i64 x3)).put 4 (.int .i64 x4)).put 5 (.int .i64 x5)).put 6 (.int .i64 x6)).put 7 (.int .i64 x7))
theorem ArrAt.grownK {w w' : World} {g : Nat} {vs : List Value} {t : TypeId} {row : Option Nat} (h : ArrAt w g vs t) (hg : w.grownBy w' row) (hne : some g ≠ row) : ArrAt w' g vs t := by
  have := hg.block g h.lt hne
  unfold ArrAt at h ⊢
  rw [this, h]
set_option maxHeartbeats 8000000 in
theorem impl_frequent (b off c : Nat) (t : List Int) (n : Int) (w : World) (h : ∀ j, j < t.length → w.cell? ⟨b, off + j, none⟩ = some (.int .i64 (t.getD j 0))) (hb : b < w.heap.size) (hc : t.length ≤ c) (h1 : t.length ≤ 1048576) :
    Calls Try.prog 51 #[.slice (some ⟨b, off, none⟩) t.length c, .int .i64 n] w (FqO (freqE t n) w) := by
  have q1 := impl_pits (.slice (some ⟨b, off, none⟩) t.length c) t w (.inr ⟨b, off, c, rfl, hb, h⟩) h1
  have hin : ∀ W, Calls Try.prog 105 #[.int .i64 n] W fun e w' => e = .returned (.bool (inB n 2 8)) ∧ W = w' := fun W => by rw [show inB n 2 8 = turnB n from by simp [inB, turnB]]; exact impl_isturn n W
  have HC := Bx.mk h
  clear h
  cases hp : pitB t
  · have HE := Bx.mk (fr_7 (n := n) hp)
    generalize freqE t n = u at HE ⊢
    rw [hp] at q1
    clear hp hin
    go_enter Try.func51, Try.ntmps51
    go_wp2_with (fail)
    refine q1.mono ?_
    rintro r w1 ⟨rfl, rfl⟩
    go_wp2_with (fail)
    go_returns
    exact fq_no HE.out (Below.refl _ _)
  · cases hi : inB n 2 8
    · have HE := Bx.mk (fr_2 hp hi)
      generalize freqE t n = u at HE ⊢
      rw [hp] at q1
      rw [hi] at hin
      clear hp hi
      go_enter Try.func51, Try.ntmps51
      go_wp2_with (fail)
      refine q1.mono ?_
      rintro r w1 ⟨rfl, rfl⟩
      go_wp2_with (fail)
      refine (hin _).mono ?_
      rintro r w1 ⟨rfl, rfl⟩
      go_wp2_with (fail)
      go_returns
      exact fq_no HE.out (Below.refl _ _)
    · obtain ⟨m2, m8⟩ := inB_yes hi
      obtain ⟨m, rfl⟩ : ∃ m : Nat, n = m := ⟨n.toNat, by omega⟩
      have hr := (pit_yes hp).2
      have hl64 := (pit_yes hp).1
      by_cases hlm : t.length < m
      · have HE := Bx.mk (fr_3 (t := t) (m := m) (k := t.length + 1 - m) hp hi rfl (by rw [show t.length + 1 - m = 0 from by omega]; rfl))
        generalize freqE t (m : Int) = u at HE ⊢
        have dl : decide ((t.length : Int) < (m : Int)) = true := decide_eq_true (by omega)
        rw [hp] at q1
        rw [hi] at hin
        clear hp hi
        go_enter Try.func51, Try.ntmps51
        go_wp2_with (fail)
        refine q1.mono ?_
        rintro r w1 ⟨rfl, rfl⟩
        go_wp2_with (fail)
        refine (hin _).mono ?_
        rintro r w1 ⟨rfl, rfl⟩
        go_wp2_with (fail)
        go_returns
        exact fq_no HE.out (Below.refl _ _)
      · have dl : decide ((t.length : Int) < (m : Int)) = false := decide_eq_false (by omega)
        have HWF := Bx.mk (fun i (hi : i < t.length + 1 - m) => padN_wfs (m := m) (k := i) hr (by omega) (by omega))
        have F0 := Bx.mk (fun h0 => fr_0 (t := t) (m := m) (k := t.length + 1 - m) hp hi rfl h0)
        generalize freqE t (m : Int) = u at F0 ⊢
        have hpo := fun W (hW : Below w.heap.size w W) => impl_partsof b off c m t W (CellsAt.below ⟨hb, HC.out⟩ hW) hc hl64 (by omega) (by omega) (by omega) hr
        rw [hp] at q1
        rw [hi] at hin
        clear hp hi hr
        go_enter Try.func51, Try.ntmps51
        go_wp2_with (fail)
        refine q1.mono ?_
        rintro r w1 ⟨rfl, rfl⟩
        go_wp2_with (fail)
        refine (hin _).mono ?_
        rintro r w1 ⟨rfl, rfl⟩
        go_wp2_with (fail)
        have bA : Below w.heap.size w (w.alloc (.cells #[.int .i64 0, .int .i64 0, .int .i64 0, .int .i64 0, .int .i64 0, .int .i64 0, .int .i64 0, .int .i64 0] 129)) := (Below.refl _ _).alloc (Nat.le_refl _) _
        refine (hpo _ bA).mono ?_
        rintro r w1 ⟨g, rfl, hM, hg, hb1⟩
        have hA := (ArrAt.at w w.heap.size zero8 129 rfl).below hb1
        have B1 := Bx.mk (bA.trans (hb1.mono bA.size))
        have hg2 := hM.lt
        obtain ⟨D, hown, hf⟩ := hM
        have HF := Bx.mk hf
        have HA := Bx.mk hA
        clear hb1 bA hpo hA hf
        go_wp2_with (first
          | (at_range; refine wpList_range_own _ rfl _ 130 rfl 129 2 keyedQ Try.underlying130 _ g 65 D rfl hown ?_; intro w2 hrg hgr hsz2)
          | go_in)
        go_frame
        have hgB : w.heap.size < g := by simp at hg; omega
        have HR2 := Bx.mk hrg
        have HA2 : Bx (ArrAt w2 w.heap.size (ints [0, 0, 0, 0, 0, 0, 0, 0]) 129) := Bx.mk (HA.out.grownK hgr (by simp))
        have HB2 := Bx.mk (B1.out.trans (Below.grown (Below.refl w1.heap.size w1) hgr (Nat.le_refl _) (fun k e => by cases e) |>.mono B1.out.size))
        have HFd := Bx.mk (found_zero (f := cntU t m (t.length + 1 - m)) HF.out)
        obtain ⟨ri, hri⟩ : ∃ x, x = w1.heap.size := ⟨_, rfl⟩
        have hri1 : g < ri := by omega
        rw [← hri] at HR2 ⊢
        clear HA hown hrg hgr hsz2 hg hg2 hri B1
        go_loopw [8] (fun mo wr => ∃ (left : Lit → Bool) (cnt : Nat) (S1 : List Int) (n2 : Int), mo = .int .i64 n2 ∧ Bx (Found (cntU t m (t.length + 1 - m)) left S1 n2) ∧ Bx (wr.ranges Try.prog 129 (plainElem Try.prog 2) g ri 65 D left cnt) ∧ Bx (ArrAt wr w.heap.size (ints S1) 129) ∧ Bx (Below w.heap.size w wr)) (fun _ wr => wr.rangeLeft g ri)
        case atStart => exact ⟨_, _, _, 0, rfl, HFd, HR2, HA2, HB2⟩
        case round =>
          clear HR2 HA2 HB2 HFd
          obtain ⟨left, cnt, S1, n2, rfl, HFd, HRG, HA, HB⟩ := hrel
          go_wp2_with (first
            | (at_next; refine wpList_next_ranges _ rfl _ rfl 129 keyedQ (plainElem Try.prog 2) pq (Value.int .i64) (fun key kl h => (key_inv h).imp fun l h => h.2) (fun v y h => by obtain ⟨c, rfl, _⟩ := plainElem_int_inv Try.underlying2 h; exact ⟨c, rfl⟩) g ri 65 D left cnt rfl HRG.out ?_ ?_)
            | go_in)
          · intro _ hl0
            obtain ⟨i, hi, rfl, hfq, hn⟩ := found_end HFd.out hl0 HWF.out (by omega) (by omega) (by omega)
            have hpl : (prt t m i).length = m := prt_len (by omega)
            have HU : Bx (u = (prt t m i, n2, 0)) := Bx.mk (by
              have := F0.out (by rw [hfq]; dsimp only; omega)
              rw [hfq] at this
              rw [this]
              simp only [Prod.mk.injEq, true_and, and_true]
              omega)
            have hq := std_clone w.heap.size 0 8 (prt t m i) wr (by omega) (fun k hk => by
              rw [hpl] at hk
              have hc := HA.out.cell k
              rw [Nat.zero_add]
              refine hc.trans ?_
              rw [ints_at _ _ (by rw [padN_len (by omega) (by omega)]; omega)]
              unfold padN
              simp only [List.getD, List.getElem?_append_left (show k < (prt t m i).length by rw [hpl]; exact hk)]) HA.out.lt
            rw [hpl] at hq
            clear hpl
            have e1 : (0 : Int) ≤ (m : Int) := by omega
            have e2 : (m : Int) ≤ 8 := by omega
            have al := HA.out.lt
            clear HFd HRG hl0 hfq hn HWF F0
            go_wp2_with (fail)
            refine hq.mono ?_
            rintro r w4 ⟨v, rfl, ho, hb4⟩
            have HO := Bx.mk (fq_down HB.out.size ho)
            have HB4 := Bx.mk (HB.out.trans (hb4.mono HB.out.size))
            obtain ⟨Av, cv, rfl⟩ := own_len ho
            clear ho hb4
            go_wp2_with (fail)
            go_returns
            exact ⟨_, by rw [HU.out]; rfl, by rw [HU.out]; exact HO.out, HB4.out⟩
          · intro x c kl y ym w3 cnt3 hkey hlk hv hat hrg3 hlt3 hgr3 hsz3 hen
            have hWx : Wfs x := by
              obtain ⟨l', h1, h2⟩ := key_inv hkey
              rw [pq_inj h2]; exact h1
            have hcf : c = cntU t m (t.length + 1 - m) x := by
              have e1 := HF.out x kl hkey
              obtain ⟨c', h1, h2, _⟩ := plainElem_int_inv Try.underlying2 hv
              injection h1 with _ h1
              subst h1
              simp only [Prod.mk.injEq] at h2
              rw [hat, h2.1] at e1
              simpa using e1
            have hc0 : 0 ≤ c := by rw [hcf]; exact (cntU_le t m _ x).1
            have HM := Bx.mk (fun h => found_more HFd.out hWx hkey (by rw [← hcf]; exact hc0) h)
            have HL := Bx.mk (fun h => found_less (l := x) HFd.out hkey h)
            rw [← hcf] at HM HL
            have hWS := HFd.out.1.1
            have hlexp := lexC_pos S1 x (by rw [hWS, hWx.1])
            have HRG3 := Bx.mk hrg3
            have HA3 := Bx.mk (HA.out.grownK hgr3 (by simp; omega))
            have HB3 := Bx.mk (Below.grown HB.out hgr3 HB.out.size (fun k e => by cases e; omega))
            have hlt4 : cnt3 < wr.rangeLeft g ri := by rw [HRG.out.left_eq]; exact hlt3
            have HLT := Bx.mk hlt4
            obtain ⟨x0, x1, x2, x3, x4, x5, x6, x7, rfl⟩ := eight hWx.1
            obtain ⟨s0, s1, s2, s3, s4, s5, s6, s7, rfl⟩ := eight hWS
            have hpc : ∀ W, Calls Try.prog 108 #[.agg #[.int .i64 s0, .int .i64 s1, .int .i64 s2, .int .i64 s3, .int .i64 s4, .int .i64 s5, .int .i64 s6, .int .i64 s7], .agg #[.int .i64 x0, .int .i64 x1, .int .i64 x2, .int .i64 x3, .int .i64 x4, .int .i64 x5, .int .i64 x6, .int .i64 x7]] W fun e w' => e = .returned (.int .i64 (lexC [s0, s1, s2, s3, s4, s5, s6, s7] [x0, x1, x2, x3, x4, x5, x6, x7])) ∧ Below W.heap.size W w' := fun W => impl_partcmp [s0, s1, s2, s3, s4, s5, s6, s7] [x0, x1, x2, x3, x4, x5, x6, x7] W rfl rfl
            clear hWx hcf hkey hlk hv hat hrg3 hlt3 hgr3 hWS HFd HRG HA HB hlt4
            generalize lexC [s0, s1, s2, s3, s4, s5, s6, s7] [x0, x1, x2, x3, x4, x5, x6, x7] = lx at *
            generalize lexB [x0, x1, x2, x3, x4, x5, x6, x7] [s0, s1, s2, s3, s4, s5, s6, s7] = lb at *
            replace hen : (Instr.entry (.pointer (some ⟨ri, 0, none⟩))).run Try.prog w3 = .ok (.tuple #[.agg #[.int .i64 x0, .int .i64 x1, .int .i64 x2, .int .i64 x3, .int .i64 x4, .int .i64 x5, .int .i64 x6, .int .i64 x7], .int .i64 c]) w3 := hen
            go_wp2_with (fail)
            have bA : Below w3.heap.size w3 (w3.alloc (.cells #[.int .i64 x0, .int .i64 x1, .int .i64 x2, .int .i64 x3, .int .i64 x4, .int .i64 x5, .int .i64 x6, .int .i64 x7] 129)) := (Below.refl _ _).alloc (Nat.le_refl _) _
            have HRG4 := Bx.mk (ranges_below HRG3.out bA)
            have HA4 := Bx.mk (HA3.out.below bA)
            have HP4 : Bx (ArrAt (w3.alloc (.cells #[.int .i64 x0, .int .i64 x1, .int .i64 x2, .int .i64 x3, .int .i64 x4, .int .i64 x5, .int .i64 x6, .int .i64 x7] 129)) wr.heap.size (ints [x0, x1, x2, x3, x4, x5, x6, x7]) 129) := Bx.mk (ArrAt.at w3 wr.heap.size (ints [x0, x1, x2, x3, x4, x5, x6, x7]) 129 hsz3.symm)
            have HB4 := Bx.mk (HB3.out.trans (bA.mono HB3.out.size))
            have hwl := HA3.out.lt
            have hpw : w.heap.size < wr.heap.size := by rw [← hsz3]; exact hwl
            obtain ⟨pb, hpb⟩ : ∃ x, x = wr.heap.size := ⟨_, rfl⟩
            rw [← hpb] at HP4 hpw ⊢
            clear hpb hsz3 hen bA HRG3 HA3 HB3 hwl
            generalize w3.alloc (.cells #[.int .i64 x0, .int .i64 x1, .int .i64 x2, .int .i64 x3, .int .i64 x4, .int .i64 x5, .int .i64 x6, .int .i64 x7] 129) = q at *
            have hcp := fun W => std_cmp c n2 W
            have hz : ∃ z, z = (if cmpI c n2 = 0 then lx else cmpI c n2) := ⟨_, rfl⟩
            obtain ⟨z, hz⟩ := hz
            obtain ⟨z1, hz1⟩ : ∃ z1, z1 = cmpI c n2 := ⟨_, rfl⟩
            have hor := fun g w a b c => std_or z1 lx g w a b c
            rw [← hz1] at hcp hz
            rw [← hz] at hor
            have HZ := Bx.mk hz
            have HZ1 := Bx.mk hz1
            have HLX := Bx.mk hlexp
            clear hz hz1 hlexp
            have a0 := HA4.out.cell 0
            have a1 := HA4.out.cell 1
            have a2 := HA4.out.cell 2
            have a3 := HA4.out.cell 3
            have a4 := HA4.out.cell 4
            have a5 := HA4.out.cell 5
            have a6 := HA4.out.cell 6
            have a7 := HA4.out.cell 7
            have p0 := HP4.out.cell 0
            have p1 := HP4.out.cell 1
            have p2 := HP4.out.cell 2
            have p3 := HP4.out.cell 3
            have p4 := HP4.out.cell 4
            have p5 := HP4.out.cell 5
            have p6 := HP4.out.cell 6
            have p7 := HP4.out.cell 7
            have al := HA4.out.lt
            have pl := HP4.out.lt
            simp only [ints, List.map_cons, List.map_nil] at a0 p0 a1 p1 a2 p2 a3 p3 a4 p4 a5 p5 a6 p6 a7 p7
            have HS0 : Bx (Below q.heap.size q q ∧ q.cell? ⟨w.heap.size, 0, none⟩ = some (.int .i64 s0) ∧ q.cell? ⟨w.heap.size, 1, none⟩ = some (.int .i64 s1) ∧ q.cell? ⟨w.heap.size, 2, none⟩ = some (.int .i64 s2) ∧ q.cell? ⟨w.heap.size, 3, none⟩ = some (.int .i64 s3) ∧ q.cell? ⟨w.heap.size, 4, none⟩ = some (.int .i64 s4) ∧ q.cell? ⟨w.heap.size, 5, none⟩ = some (.int .i64 s5) ∧ q.cell? ⟨w.heap.size, 6, none⟩ = some (.int .i64 s6) ∧ q.cell? ⟨w.heap.size, 7, none⟩ = some (.int .i64 s7) ∧ q.cell? ⟨pb, 0, none⟩ = some (.int .i64 x0) ∧ q.cell? ⟨pb, 1, none⟩ = some (.int .i64 x1) ∧ q.cell? ⟨pb, 2, none⟩ = some (.int .i64 x2) ∧ q.cell? ⟨pb, 3, none⟩ = some (.int .i64 x3) ∧ q.cell? ⟨pb, 4, none⟩ = some (.int .i64 x4) ∧ q.cell? ⟨pb, 5, none⟩ = some (.int .i64 x5) ∧ q.cell? ⟨pb, 6, none⟩ = some (.int .i64 x6) ∧ q.cell? ⟨pb, 7, none⟩ = some (.int .i64 x7) ∧ w.heap.size < q.heap.size ∧ pb < q.heap.size) := Bx.mk (keepA2 HA4.out HP4.out (Below.refl _ _))
            by_cases hbt : n2 < c ∨ (c = n2 ∧ lb = true)
            · have HE := Bx.mk (HM.out hbt)
              have dz : decide (z > 0) = true := decide_eq_true (by
                rw [HZ.out, HZ1.out]
                have := HLX.out
                rcases hbt with h | ⟨h, h2⟩
                · rw [cmpI_gt h, if_neg (by decide)]; decide
                · subst h; rw [cmpI_same, if_pos rfl]; rw [h2] at this; exact of_decide_eq_true this)
              clear HM HL HZ HZ1 HLX hbt hc0
              go_region_held3 (fun W => Below q.heap.size q W ∧ W.cell? ⟨w.heap.size, 0, none⟩ = some (.int .i64 s0) ∧ W.cell? ⟨w.heap.size, 1, none⟩ = some (.int .i64 s1) ∧ W.cell? ⟨w.heap.size, 2, none⟩ = some (.int .i64 s2) ∧ W.cell? ⟨w.heap.size, 3, none⟩ = some (.int .i64 s3) ∧ W.cell? ⟨w.heap.size, 4, none⟩ = some (.int .i64 s4) ∧ W.cell? ⟨w.heap.size, 5, none⟩ = some (.int .i64 s5) ∧ W.cell? ⟨w.heap.size, 6, none⟩ = some (.int .i64 s6) ∧ W.cell? ⟨w.heap.size, 7, none⟩ = some (.int .i64 s7) ∧ W.cell? ⟨pb, 0, none⟩ = some (.int .i64 x0) ∧ W.cell? ⟨pb, 1, none⟩ = some (.int .i64 x1) ∧ W.cell? ⟨pb, 2, none⟩ = some (.int .i64 x2) ∧ W.cell? ⟨pb, 3, none⟩ = some (.int .i64 x3) ∧ W.cell? ⟨pb, 4, none⟩ = some (.int .i64 x4) ∧ W.cell? ⟨pb, 5, none⟩ = some (.int .i64 x5) ∧ W.cell? ⟨pb, 6, none⟩ = some (.int .i64 x6) ∧ W.cell? ⟨pb, 7, none⟩ = some (.int .i64 x7) ∧ w.heap.size < W.heap.size ∧ pb < W.heap.size)
                (first | (with_reducible assumption) | (with_reducible exact keepS (q := q) (by assumption) hb4) | (with_reducible exact keepS (q := q) (by assumption) (Below.refl _ _).drew) | exact keepS (q := q) HS0.out (Below.refl _ _).drew | exact keepS (q := q) (by assumption) ((Below.refl _ _).alloc (Nat.le_refl _) _))
                (first
                | (go_at_call 59; (with_reducible refine (hcp _).mono ?_); rintro r wa ⟨rfl, rfl⟩)
                | (go_at_call 108; (with_reducible refine (hpc _).mono ?_); rintro r wa ⟨rfl, hb4⟩; have hS0 := keepS (q := q) (by assumption) hb4)
                | (go_at_call 107; (with_reducible refine (hor _ _ ?_ ?_ ?_).mono ?_); exact (BoxN.at _ _ #[.int .i64 z1, .int .i64 lx] _ rfl).c (k := 0) rfl; exact (BoxN.at _ _ #[.int .i64 z1, .int .i64 lx] _ rfl).c (k := 1) rfl; exact (BoxN.at _ _ #[.int .i64 z1, .int .i64 lx] _ rfl).lt; rintro r wb ⟨rfl, hb4⟩; have hS0 := keepS (q := q) (by assumption) hb4))
              have HBK : Bx (Below q.heap.size q _) := Bx.mk (belA (q := q) (by assumption))
              have HA5 := Bx.mk (HA4.out.below HBK.out)
              have HP5 := Bx.mk (HP4.out.below HBK.out)
              have HRG5 := Bx.mk (ranges_below HRG4.out HBK.out)
              have HB5 := Bx.mk (HB4.out.trans (HBK.out.mono HB4.out.size))
              clear HA4 HP4 HRG4 HB4 HS0 a0 p0 a1 p1 a2 p2 a3 p3 a4 p4 a5 p5 a6 p6 a7 p7 al pl
              have HA6 := Bx.mk (put_eight HA5.out x0 x1 x2 x3 x4 x5 x6 x7)
              have HB6 := Bx.mk ((((((((HB5.out.setCell (p := ⟨w.heap.size, 0, none⟩) (Nat.le_refl _) (.int .i64 x0)).setCell (p := ⟨w.heap.size, 1, none⟩) (Nat.le_refl _) (.int .i64 x1)).setCell (p := ⟨w.heap.size, 2, none⟩) (Nat.le_refl _) (.int .i64 x2)).setCell (p := ⟨w.heap.size, 3, none⟩) (Nat.le_refl _) (.int .i64 x3)).setCell (p := ⟨w.heap.size, 4, none⟩) (Nat.le_refl _) (.int .i64 x4)).setCell (p := ⟨w.heap.size, 5, none⟩) (Nat.le_refl _) (.int .i64 x5)).setCell (p := ⟨w.heap.size, 6, none⟩) (Nat.le_refl _) (.int .i64 x6)).setCell (p := ⟨w.heap.size, 7, none⟩) (Nat.le_refl _) (.int .i64 x7))
              have HR6 := Bx.mk (HRG5.out.kept (grown_eight _ w.heap.size (.int .i64 x0) (.int .i64 x1) (.int .i64 x2) (.int .i64 x3) (.int .i64 x4) (.int .i64 x5) (.int .i64 x6) (.int .i64 x7)) (by simp; omega) (by simp; omega))
              have a0 := HA5.out.cell 0
              have p0 := HP5.out.cell 0
              have f0 := HA5.out.f0 0
              have a1 := HA5.out.cell 1
              have p1 := HP5.out.cell 1
              have f1 := HA5.out.f0 1
              have a2 := HA5.out.cell 2
              have p2 := HP5.out.cell 2
              have f2 := HA5.out.f0 2
              have a3 := HA5.out.cell 3
              have p3 := HP5.out.cell 3
              have f3 := HA5.out.f0 3
              have a4 := HA5.out.cell 4
              have p4 := HP5.out.cell 4
              have f4 := HA5.out.f0 4
              have a5 := HA5.out.cell 5
              have p5 := HP5.out.cell 5
              have f5 := HA5.out.f0 5
              have a6 := HA5.out.cell 6
              have p6 := HP5.out.cell 6
              have f6 := HA5.out.f0 6
              have a7 := HA5.out.cell 7
              have p7 := HP5.out.cell 7
              have f7 := HA5.out.f0 7
              have al := HA5.out.lt
              have pl := HP5.out.lt
              simp only [ints, List.map_cons, List.map_nil] at a0 p0 a1 p1 a2 p2 a3 p3 a4 p4 a5 p5 a6 p6 a7 p7
              clear HA5 HB5 HP5 HRG5
              go_wp2_with (fail)
              go_roundw
              case rel => exact ⟨_, cnt3, _, c, rfl, HE, HR6, HA6, HB6⟩
              case measure => rw [HR6.out.left_eq]; exact HLT.out
            · have HE := Bx.mk (HL.out (by
                rcases Int.lt_trichotomy c n2 with h | h | h
                · exact .inl h
                · refine .inr ⟨h, ?_⟩
                  cases lb with
                  | false => rfl
                  | true => exact absurd (.inr ⟨h, rfl⟩) hbt
                · exact absurd (.inl h) hbt))
              have dz : decide (z > 0) = false := decide_eq_false (by
                rw [HZ.out, HZ1.out]
                have := HLX.out
                rcases Int.lt_trichotomy c n2 with h | h | h
                · rw [cmpI_lt h, if_neg (by decide)]; decide
                · subst h
                  rw [cmpI_same, if_pos rfl]
                  cases lb with
                  | false => exact of_decide_eq_false this
                  | true => exact absurd (.inr ⟨rfl, rfl⟩) hbt
                · exact absurd (.inl h) hbt)
              clear HM HL HZ HZ1 HLX hbt hc0
              go_region_held3 (fun W => Below q.heap.size q W ∧ W.cell? ⟨w.heap.size, 0, none⟩ = some (.int .i64 s0) ∧ W.cell? ⟨w.heap.size, 1, none⟩ = some (.int .i64 s1) ∧ W.cell? ⟨w.heap.size, 2, none⟩ = some (.int .i64 s2) ∧ W.cell? ⟨w.heap.size, 3, none⟩ = some (.int .i64 s3) ∧ W.cell? ⟨w.heap.size, 4, none⟩ = some (.int .i64 s4) ∧ W.cell? ⟨w.heap.size, 5, none⟩ = some (.int .i64 s5) ∧ W.cell? ⟨w.heap.size, 6, none⟩ = some (.int .i64 s6) ∧ W.cell? ⟨w.heap.size, 7, none⟩ = some (.int .i64 s7) ∧ W.cell? ⟨pb, 0, none⟩ = some (.int .i64 x0) ∧ W.cell? ⟨pb, 1, none⟩ = some (.int .i64 x1) ∧ W.cell? ⟨pb, 2, none⟩ = some (.int .i64 x2) ∧ W.cell? ⟨pb, 3, none⟩ = some (.int .i64 x3) ∧ W.cell? ⟨pb, 4, none⟩ = some (.int .i64 x4) ∧ W.cell? ⟨pb, 5, none⟩ = some (.int .i64 x5) ∧ W.cell? ⟨pb, 6, none⟩ = some (.int .i64 x6) ∧ W.cell? ⟨pb, 7, none⟩ = some (.int .i64 x7) ∧ w.heap.size < W.heap.size ∧ pb < W.heap.size)
                (first | (with_reducible assumption) | (with_reducible exact keepS (q := q) (by assumption) hb4) | (with_reducible exact keepS (q := q) (by assumption) (Below.refl _ _).drew) | exact keepS (q := q) HS0.out (Below.refl _ _).drew | exact keepS (q := q) (by assumption) ((Below.refl _ _).alloc (Nat.le_refl _) _))
                (first
                | (go_at_call 59; (with_reducible refine (hcp _).mono ?_); rintro r wa ⟨rfl, rfl⟩)
                | (go_at_call 108; (with_reducible refine (hpc _).mono ?_); rintro r wa ⟨rfl, hb4⟩; have hS0 := keepS (q := q) (by assumption) hb4)
                | (go_at_call 107; (with_reducible refine (hor _ _ ?_ ?_ ?_).mono ?_); exact (BoxN.at _ _ #[.int .i64 z1, .int .i64 lx] _ rfl).c (k := 0) rfl; exact (BoxN.at _ _ #[.int .i64 z1, .int .i64 lx] _ rfl).c (k := 1) rfl; exact (BoxN.at _ _ #[.int .i64 z1, .int .i64 lx] _ rfl).lt; rintro r wb ⟨rfl, hb4⟩; have hS0 := keepS (q := q) (by assumption) hb4))
              have HBK : Bx (Below q.heap.size q _) := Bx.mk (belA (q := q) (by assumption))
              have HA5 := Bx.mk (HA4.out.below HBK.out)
              have HP5 := Bx.mk (HP4.out.below HBK.out)
              have HRG5 := Bx.mk (ranges_below HRG4.out HBK.out)
              have HB5 := Bx.mk (HB4.out.trans (HBK.out.mono HB4.out.size))
              clear HA4 HP4 HRG4 HB4 HS0 a0 p0 a1 p1 a2 p2 a3 p3 a4 p4 a5 p5 a6 p6 a7 p7 al pl
              go_wp2_with (fail)
              go_roundw
              case rel => exact ⟨_, cnt3, _, n2, rfl, HE, HRG5, HA5, HB5⟩
              case measure => rw [HRG5.out.left_eq]; exact HLT.out
end Go.Proofs.Ytpbgjlmcafmejaa
