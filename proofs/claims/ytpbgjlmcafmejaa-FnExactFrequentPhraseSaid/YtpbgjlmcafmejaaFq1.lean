/- FrequentPhrase, by the model: the walk. -/
import Derived.Test.YtpbgjlmcafmejaaFq
namespace Go.Proofs.Ytpbgjlmcafmejaa
open Go.ChangeShapes Go.WideShapes Go.ChangeAt Go.RowKit
set_option linter.unusedVariables false
set_option linter.unusedSimpArgs false
set_option maxRecDepth 100000

theorem ints_sub {w : World} {b off c n k : Nat} {t : List Int} (hb : b < w.heap.size) (h : ∀ j, j < t.length → w.cell? ⟨b, off + j, none⟩ = some (.int .i64 (t.getD j 0))) (hk : k + n ≤ t.length) : IntsAt w (.slice (some ⟨b, off + k, none⟩) n c) (prt t n k) := by
  have hl : (prt t n k).length = n := prt_len hk
  refine .inr ⟨b, off + k, c, by rw [hl], hb, fun j hj => ?_⟩
  rw [hl] at hj
  rw [show off + k + j = off + (k + j) from by omega, h (k + j) (by omega)]
  unfold prt
  simp [List.getD, List.getElem?_take, hj, List.getElem?_drop]
theorem fq_down {w : World} {b1 b2 e size n : Nat} {v : Value} {xs : List Value} (hb : b1 ≤ b2) (h : w.ownsRow b2 e size v n xs) : w.ownsRow b1 e size v n xs := by
  refine ⟨h.1, ?_⟩
  rcases h.2 with h | ⟨g, cap, cur, hv, hg, hr⟩
  · exact .inl h
  · exact .inr ⟨g, cap, cur, hv, Nat.le_trans hb hg, hr⟩
/-- numbers from a cell on -/
def CellsAt (w : World) (b o : Nat) (zs : List Int) : Prop := b < w.heap.size ∧ ∀ j, j < zs.length → w.cell? ⟨b, o + j, none⟩ = some (.int .i64 (zs.getD j 0))
theorem CellsAt.below {w w' : World} {b o : Nat} {zs : List Int} (h : CellsAt w b o zs) (hb : Below w.heap.size w w') : CellsAt w' b o zs :=
  ⟨Nat.lt_of_lt_of_le h.1 hb.size, fun j hj => (hb.cell (p := ⟨b, o + j, none⟩) h.1).trans (h.2 j hj)⟩
theorem CellsAt.ints {w : World} {b o n c : Nat} {zs : List Int} (h : CellsAt w b o zs) (hn : n = zs.length) : IntsAt w (.slice (some ⟨b, o, none⟩) n c) zs := by subst hn; exact .inr ⟨b, o, c, rfl, h.1, h.2⟩
theorem cells_sub {w : World} {b off n k : Nat} {t : List Int} (h : CellsAt w b off t) (hk : k + n ≤ t.length) : CellsAt w b (off + k) (prt t n k) := by
  have hl : (prt t n k).length = n := prt_len hk
  refine ⟨h.1, fun j hj => ?_⟩
  rw [hl] at hj
  rw [show off + k + j = off + (k + j) from by omega, h.2 (k + j) (by omega)]
  unfold prt
  simp [List.getD, List.getElem?_take, hj, List.getElem?_drop]
theorem fr_7 {t : List Int} {n : Int} (h : pitB t = false) : freqE t n = ([], 0, 7) := by unfold freqE; rw [h]; rfl
theorem fr_2 {t : List Int} {n : Int} (h : pitB t = true) (h2 : inB n 2 8 = false) : freqE t n = ([], 0, 2) := by unfold freqE; rw [h, h2]; rfl
theorem fr_3 {t : List Int} {m k : Nat} (h : pitB t = true) (h2 : inB (m : Int) 2 8 = true) (hk : k = t.length + 1 - m) (h0 : (fqF t m k).2 = 0) : freqE t (m : Int) = ([], 0, 3) := by
  unfold freqE; rw [h, h2, if_pos rfl, if_pos rfl, Int.toNat_natCast, ← hk, if_pos h0]
theorem fr_0 {t : List Int} {m k : Nat} (h : pitB t = true) (h2 : inB (m : Int) 2 8 = true) (hk : k = t.length + 1 - m) (h0 : (fqF t m k).2 ≠ 0) : freqE t (m : Int) = ((fqF t m k).1, (((fqF t m k).2 : Nat) : Int), 0) := by
  unfold freqE; rw [h, h2, if_pos rfl, if_pos rfl, Int.toNat_natCast, ← hk, if_neg h0]
set_option maxHeartbeats 4000000 in
theorem spec_frequent (b off c : Nat) (t : List Int) (n : Int) (w : World) (h : ∀ j, j < t.length → w.cell? ⟨b, off + j, none⟩ = some (.int .i64 (t.getD j 0))) (hb : b < w.heap.size) (hc : t.length ≤ c) (h1 : t.length ≤ 1048576) :
    Calls Try.prog 50 #[.slice (some ⟨b, off, none⟩) t.length c, .int .i64 n] w (FqO (freqE t n) w) := by
  have q1 := spec_pits (.slice (some ⟨b, off, none⟩) t.length c) t w (.inr ⟨b, off, c, rfl, hb, h⟩) h1
  have hin := fun W => in_any n 2 8 W
  have HC := Bx.mk h
  clear h
  cases hp : pitB t
  · have HE := Bx.mk (fr_7 (n := n) hp)
    generalize freqE t n = u at HE ⊢
    rw [hp] at q1
    clear hp hin
    go_enter Try.func50, Try.ntmps50
    go_wp2_with (fail)
    refine q1.mono ?_
    rintro r w1 ⟨rfl, rfl⟩
    go_wp2_with (fail)
    go_returns
    exact fq_no HE.out (Below.refl _ _)
  · cases hi : inB n 2 8
    · have HE := Bx.mk (fr_2 hp hi)
      generalize freqE t n = u at HE ⊢
      rw [hp] at q1
      rw [hi] at hin
      clear hp hi
      go_enter Try.func50, Try.ntmps50
      go_wp2_with (fail)
      refine q1.mono ?_
      rintro r w1 ⟨rfl, rfl⟩
      go_wp2_with (fail)
      refine (hin _).mono ?_
      rintro r w1 ⟨rfl, rfl⟩
      go_wp2_with (fail)
      go_returns
      exact fq_no HE.out (Below.refl _ _)
    · obtain ⟨m2, m8⟩ := inB_yes hi
      obtain ⟨m, rfl⟩ : ∃ m : Nat, n = m := ⟨n.toNat, by omega⟩
      have F3 := Bx.mk (fun k hk h0 => fr_3 (k := k) hp hi hk h0)
      have F0 := Bx.mk (fun k hk h0 => fr_0 (k := k) hp hi hk h0)
      generalize freqE t (m : Int) = u at F3 F0 ⊢
      rw [hp] at q1
      rw [hi] at hin
      clear hi
      have m2' : 2 ≤ m := by omega
      have m8' : m ≤ 8 := by omega
      clear m2 m8
      have hl64 := (pit_yes hp).1
      clear hp
      go_enter Try.func50, Try.ntmps50
      go_wp2_with (fail)
      refine q1.mono ?_
      rintro r w1 ⟨rfl, rfl⟩
      go_wp2_with (fail)
      refine (hin _).mono ?_
      rintro r w1 ⟨rfl, rfl⟩
      clear q1 hin
      go_wp2_with (fail)
      go_loopw [7, 8, 9] (fun vb mo i wr => ∃ (k b2 o2 l2 c2 : Nat), k ≤ t.length + 1 - m ∧ i = .int .i64 k ∧ mo = .int .i64 ((fqF t m k).2 : Nat) ∧ vb = .slice (some ⟨b2, o2, none⟩) l2 c2 ∧ Bx (l2 = (fqF t m k).1.length) ∧ Bx (CellsAt wr b2 o2 (fqF t m k).1) ∧ Bx (Below w.heap.size w wr)) (fun _ _ i _ => t.length + 1 - m - (intOf i).toNat)
      case atStart => exact ⟨0, _, _, _, _, Nat.zero_le _, rfl, rfl, rfl, Bx.mk rfl, Bx.mk ⟨by simp, fun j hj => absurd hj (Nat.not_lt_zero _)⟩, Bx.mk ((Below.refl _ _).alloc (Nat.le_refl _) _)⟩
      case round =>
        obtain ⟨k, b2, o2, l2, c2, hk, rfl, rfl, rfl, HL, HB2, HW⟩ := hrel
        by_cases hlt : k + m ≤ t.length
        · have hT := Bx.mk (CellsAt.below ⟨hb, HC.out⟩ HW.out)
          have hP := Bx.mk (cells_sub hT.out hlt)
          have hpl : (prt t m k).length = m := prt_len hlt
          have e1 := Bx.mk (fun h => fqF_more (t := t) (n := m) (k := k) h)
          have e2 := Bx.mk (fun h h2 => fqF_lex (t := t) (n := m) (k := k) h h2)
          have e3 := Bx.mk (fun h h2 => fqF_nolex (t := t) (n := m) (k := k) h h2)
          have e4 := Bx.mk (fun h => fqF_less (t := t) (n := m) (k := k) h)
          have hS1 := (fqF_len t m k (by omega)).1
          have hS2 := fqF_cnt t m k
          generalize fqF t m k = S at *
          obtain ⟨S1, S2⟩ := S
          dsimp only at *
          have hfin := cntP_fin (prt t m k) t
          have hcle := cntP_le (prt t m k) t
          have hq : Calls Try.prog 101 #[.slice (some ⟨b, off, none⟩) t.length c, .slice (some ⟨b, off + k, none⟩) m (c - k)] wr fun e w' => ∃ A d, e = .returned (.slice A (cntP (prt t m k) t) d) ∧ Below wr.heap.size wr w' := by
            refine (spec_find _ _ t (prt t m k) wr (hT.out.ints rfl) (hP.out.ints hpl.symm) h1 (by omega)).mono ?_
            rintro e w' ⟨v, rfl, ho, hb⟩
            obtain ⟨A, d, rfl⟩ := own_len ho
            exact ⟨A, d, by rw [hfin], hb⟩
          have hbf : ∀ W, Below wr.heap.size wr W → Calls Try.prog 102 #[.slice (some ⟨b, off + k, none⟩) m (c - k), .slice (some ⟨b2, o2, none⟩) l2 c2] W fun e w' => e = .returned (.bool (lexB (prt t m k) S1)) ∧ ∃ n, w' = W.drewN n := fun W hW =>
            spec_before _ _ (prt t m k) S1 W ((hP.out.below hW).ints hpl.symm) ((HB2.out.below hW).ints HL.out) (by omega) (by omega)
          clear hfin
          generalize prt t m k = p at *
          generalize cntP p t = q at *
          have k0 : (0 : Int) ≤ (k : Int) := by omega
          have d1 : decide ((k : Int) + (m : Int) ≤ (t.length : Int)) = true := decide_eq_true (by omega)
          have s1 : ¬ ((c : Int) < (k : Int) + (m : Int)) := by omega
          have s2 : (k : Int) + (m : Int) ≤ (c : Int) := by omega
          have s3 : (k : Int) ≤ (k : Int) + (m : Int) := by omega
          have hlt2 : k < t.length + 1 - m := by omega
          rcases Nat.lt_trichotomy S2 q with hq1 | hq1 | hq1
          · have HE := Bx.mk (e1.out hq1)
            have dg : decide ((S2 : Int) < (q : Int)) = true := decide_eq_true (by omega)
            have de : ((q : Int) == (S2 : Int)) = false := by simp; omega
            have de2 : decide ((q : Int) = (S2 : Int)) = false := decide_eq_false (by omega)
            clear e1 e2 e3 e4 hS1 hS2 hcle
            go_wp2_with (fail)
            refine hq.mono ?_
            rintro r w4 ⟨A4, d4, rfl, hb4⟩
            have HP4 := Bx.mk (hP.out.below hb4)
            have HB4 := Bx.mk (HB2.out.below hb4)
            have HW4 := Bx.mk (HW.out.trans (hb4.mono HW.out.size))
            have hbf4 := hbf w4 hb4
            clear hq hbf hb4 hP HB2 HW hT
            go_wp2_with (fail)
            go_roundw
            case rel => exact ⟨k + 1, b, off + k, m, c - k, by omega, by go_num, by rw [HE.out], rfl, Bx.mk (by rw [HE.out]; exact hpl.symm), Bx.mk (by rw [HE.out]; exact HP4.out), HW4⟩
            case measure => simp [intOf]; omega
          · subst hq1
            have dg : decide ((S2 : Int) < (S2 : Int)) = false := decide_eq_false (by omega)
            have de : ((S2 : Int) == (S2 : Int)) = true := by simp
            have de2 : decide ((S2 : Int) = (S2 : Int)) = true := decide_eq_true (by omega)
            cases hx : lexB p S1
            · have HE := Bx.mk (e3.out rfl hx)
              rw [hx] at hbf
              clear e1 e2 e3 e4 hS1 hS2 hcle hx
              go_wp2_with (fail)
              refine hq.mono ?_
              rintro r w4 ⟨A4, d4, rfl, hb4⟩
              have HP4 := Bx.mk (hP.out.below hb4)
              have HB4 := Bx.mk (HB2.out.below hb4)
              have HW4 := Bx.mk (HW.out.trans (hb4.mono HW.out.size))
              have hbf4 := hbf w4 hb4
              clear hq hbf hb4 hP HB2 HW hT
              go_wp2_with (fail)
              refine hbf4.mono ?_
              rintro r w5 ⟨rfl, nn, rfl⟩
              have hd5 := below_draws (Below.refl w4.heap.size w4) nn
              have HP5 := Bx.mk (HP4.out.below hd5)
              have HB5 := Bx.mk (HB4.out.below hd5)
              have HW5 := Bx.mk (HW4.out.trans (hd5.mono HW4.out.size))
              clear hd5 HP4 HB4 HW4 hbf4
              go_wp2_with (fail)
              go_roundw
              case rel => exact ⟨k + 1, b2, o2, l2, c2, by omega, by go_num, by rw [HE.out], rfl, Bx.mk (by rw [HE.out]; exact HL.out), Bx.mk (by rw [HE.out]; exact HB5.out), HW5⟩
              case measure => simp [intOf]; omega
            · have HE := Bx.mk (e2.out rfl hx)
              rw [hx] at hbf
              clear e1 e2 e3 e4 hS1 hS2 hcle hx
              go_wp2_with (fail)
              refine hq.mono ?_
              rintro r w4 ⟨A4, d4, rfl, hb4⟩
              have HP4 := Bx.mk (hP.out.below hb4)
              have HB4 := Bx.mk (HB2.out.below hb4)
              have HW4 := Bx.mk (HW.out.trans (hb4.mono HW.out.size))
              have hbf4 := hbf w4 hb4
              clear hq hbf hb4 hP HB2 HW hT
              go_wp2_with (fail)
              refine hbf4.mono ?_
              rintro r w5 ⟨rfl, nn, rfl⟩
              have hd5 := below_draws (Below.refl w4.heap.size w4) nn
              have HP5 := Bx.mk (HP4.out.below hd5)
              have HB5 := Bx.mk (HB4.out.below hd5)
              have HW5 := Bx.mk (HW4.out.trans (hd5.mono HW4.out.size))
              clear hd5 HP4 HB4 HW4 hbf4
              go_wp2_with (fail)
              go_roundw
              case rel => exact ⟨k + 1, b, off + k, m, c - k, by omega, by go_num, by rw [HE.out], rfl, Bx.mk (by rw [HE.out]; exact hpl.symm), Bx.mk (by rw [HE.out]; exact HP5.out), HW5⟩
              case measure => simp [intOf]; omega
          · have HE := Bx.mk (e4.out hq1)
            have dg : decide ((S2 : Int) < (q : Int)) = false := decide_eq_false (by omega)
            have de : ((q : Int) == (S2 : Int)) = false := by simp; omega
            have de2 : decide ((q : Int) = (S2 : Int)) = false := decide_eq_false (by omega)
            clear e1 e2 e3 e4 hS1 hS2 hcle
            go_wp2_with (fail)
            refine hq.mono ?_
            rintro r w4 ⟨A4, d4, rfl, hb4⟩
            have HP4 := Bx.mk (hP.out.below hb4)
            have HB4 := Bx.mk (HB2.out.below hb4)
            have HW4 := Bx.mk (HW.out.trans (hb4.mono HW.out.size))
            have hbf4 := hbf w4 hb4
            clear hq hbf hb4 hP HB2 HW hT
            go_wp2_with (fail)
            go_roundw
            case rel => exact ⟨k + 1, b2, o2, l2, c2, by omega, by go_num, by rw [HE.out], rfl, Bx.mk (by rw [HE.out]; exact HL.out), Bx.mk (by rw [HE.out]; exact HB4.out), HW4⟩
            case measure => simp [intOf]; omega
        · have d1 : decide ((k : Int) + (m : Int) ≤ (t.length : Int)) = false := decide_eq_false (by omega)
          have d2 : ¬ ((k : Int) + (m : Int) ≤ (t.length : Int)) := by omega
          have hkR : k = t.length + 1 - m := by omega
          have hE3 := Bx.mk (F3.out k hkR)
          have hE0 := Bx.mk (F0.out k hkR)
          have hl : (fqF t m k).1.length ≤ 8 := by
            rcases Nat.lt_or_ge (t.length + 1) m with h | h
            · obtain rfl : k = 0 := by omega
              simp [fqF]
            · have := (fqF_len t m k (by omega)).1; omega
          have hcn := fqF_cnt t m k
          clear F3 F0 hkR
          generalize fqF t m k = S at *
          obtain ⟨S1, S2⟩ := S
          dsimp only at *
          by_cases h0 : S2 = 0
          · subst h0
            have HE := Bx.mk (hE3.out rfl)
            clear hE3 hE0 HB2
            go_wp2_with (fail)
            go_returns
            exact fq_no HE.out HW.out
          · have HE := Bx.mk (hE0.out h0)
            have dz : ((S2 : Int) == 0) = false := by simp; omega
            have dz2 : decide ((S2 : Int) = 0) = false := decide_eq_false (by omega)
            obtain rfl := HL.out
            have hq := spec_own b2 o2 c2 S1 wr (by omega) HB2.out.2 HB2.out.1
            clear hE3 hE0 HB2 HL
            go_wp2_with (fail)
            refine hq.mono ?_
            rintro r w5 ⟨v, rfl, ho, hb5⟩
            have HW5 := Bx.mk (HW.out.trans (hb5.mono HW.out.size))
            have HO5 := Bx.mk (fq_down HW.out.size ho)
            clear hq ho hb5 HW
            go_wp2_with (fail)
            go_returns
            have e := HE.out
            subst e
            exact ⟨v, rfl, HO5.out, HW5.out⟩
end Go.Proofs.Ytpbgjlmcafmejaa
