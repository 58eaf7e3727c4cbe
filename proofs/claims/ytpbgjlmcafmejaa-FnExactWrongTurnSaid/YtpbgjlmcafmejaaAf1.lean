/- arcsFrom: its contract as an iterator. -/
import Derived.Test.YtpbgjlmcafmejaaAf
namespace Go.Proofs.Ytpbgjlmcafmejaa
open Go.ChangeShapes Go.WideShapes Go.ChangeAt Go.RowKit Go.Shelf
set_option linter.unusedVariables false
set_option linter.unusedSimpArgs false
set_option maxRecDepth 100000
attribute [local go_sem] Oper.semAt_some

set_option maxRecDepth 100000 in
set_option maxHeartbeats 4000000 in
theorem arcs_stops (n : Nat) (hn : 1 ≤ n) (Bg Bf : Nat) (nn ss : Int) (f : Value) (C : Option Addr) (c : Nat) (L : List (Int × Int × Int)) (s : Int) (w0 w : World) (hBg : Bg < w.heap.size) (hBf : Bf < w.heap.size) (hb0 : Below w0.heap.size w0 w)
    (hg : BoxN w Bg #[.int .i64 nn, .int .i64 ss, f, .slice C L.length c] 30) (hf : w.cell? ⟨Bf, 0, none⟩ = some (.int .i64 s)) (ha : TrsAt w0 (.slice C L.length c) L) (hm : L.length ≤ 1048576) (hcap : L.length ≤ c)
    (hr : ∀ i, i + 1 < L.length → aLt (tat L i) (tat L (i + 1))) (hp : ∀ i, i < L.length → -12 ≤ (tat L i).2.1) :
    SeqStopsK Fence.wide n Try.prog 133 #[.pointer (some ⟨Bg, 0, none⟩), .pointer (some ⟨Bf, 0, none⟩)] (fun x : Int × Int × Int => #[arcV x.1 x.2.1 x.2.2]) (KpA w0.heap.size Bf)
      (fun ys => ys = arcsF L s) (fun pre => pre <+: arcsF L s) L.length w := fun l J Jx W hW hJ hJx hY h0 => by
  have hBW := hb0.trans (hW.mono hb0.size)
  have hgW := hg.below hW
  have hfW := (hW.cell (p := ⟨Bf, 0, none⟩) hBf).trans hf
  have hfl : Bf < W.heap.size := Nat.lt_of_lt_of_le hBf hW.size
  have g0 := hgW.c (k := 0) rfl
  have g1 := hgW.c (k := 1) rfl
  have g2 := hgW.c (k := 2) rfl
  have g3 := hgW.c (k := 3) rfl
  have gl := hgW.lt
  have HGW := Bx.mk hgW
  have HA := Bx.mk ha
  have HBW := Bx.mk hBW
  have hq := impl_place nn ss f C c L s (-12) W (ha.below hBW) hm hr
  have HJ : Bx (∀ pre A B, J pre A → Below A.heap.size A B → J pre B) := Bx.mk (fun pre A B h hb => hJ pre A B none h (grown_below hb) (fun r e => by cases e))
  clear hg hf hW hb0 ha hgW hBW
  refine callsIn_of_wp Try.func133 rfl trivial ?_ rfl
  simp only [Try.ntmps133, List.size_toArray, List.length_cons, List.length_nil, Nat.reduceAdd, Nat.reduceSub, Array.replicate_succ, Array.replicate_zero, List.push_toArray, List.append_toArray, List.nil_append, List.cons_append]
  gi_wp2_with (fail)
  refine ⟨trivial, ?_⟩
  gi_at_call 132
  refine (callsIn_wide.2 hq).mono ?_
  rintro e w1 ⟨k, rfl, hlow, hb1⟩
  have HLOW := Bx.mk hlow
  have HB1 := Bx.mk (HBW.out.trans (hb1.mono HBW.out.size))
  have hJ1 := HJ.out _ _ _ h0 hb1
  have hf1 := (hb1.cell (p := ⟨Bf, 0, none⟩) hfl).trans hfW
  have hfl1 : Bf < w1.heap.size := Nat.lt_of_lt_of_le hfl hb1.size
  have hgw := HGW.out.below hb1
  clear g0 g1 g2 g3 gl hfl
  have g3 := hgw.c (k := 3) rfl
  have gl := hgw.lt
  have hk := hlow.le
  have k1 : (0 : Int) ≤ (k : Int) := by omega
  have k2 : (k : Int) ≤ (L.length : Int) := by omega
  clear hlow hb1 h0 hq hgw HGW HBW hfW
  by_cases hkl : k < L.length
  · obtain ⟨b, o, c', ee, lb, hx⟩ := HA.out.form (by omega)
    injection ee with e1 _ e3
    subst e1 e3
    have hne : ¬ (c = k) := by omega
    have HX := Bx.mk hx
    clear hx HA
    gi_wp2
    gi_loopw [19] (fun i wr => ∃ m : Nat, k + m ≤ L.length ∧ i = .int .i64 m ∧ J (arcsK L k m) wr ∧ KpA w0.heap.size Bf w1 wr ∧ Bx (∀ j, j < m → (tat L (k + j)).1 = s)) (fun i _ => L.length - k - (intOf i).toNat)
    case atStart => exact ⟨0, by omega, rfl, hJ1, ⟨Below.refl _ _, rfl⟩, Bx.mk (fun j hj => by omega)⟩
    case round =>
      clear hJ1 g3 gl
      obtain ⟨m, hmk, rfl, hJs, hkp, HR⟩ := hrel
      have HBR := Bx.mk (HB1.out.trans hkp.1)
      by_cases hlt : k + m < L.length
      · obtain ⟨c0, c1, c2⟩ := HX.out (k + m) hlt
        have c0 := (HBR.out.cell (p := ⟨b, o + (k + m) * 3, none⟩) lb).trans c0
        have c1 := (HBR.out.cell (p := ⟨b, o + (k + m) * 3 + 1, none⟩) lb).trans c1
        have c2 := (HBR.out.cell (p := ⟨b, o + (k + m) * 3 + 2, none⟩) lb).trans c2
        rw [show o + (k + m) * 3 = o + k * 3 + m * 3 by omega] at c0 c1 c2
        have hfr : wr.cell? ⟨Bf, 0, none⟩ = some (.int .i64 s) := (World.cell?_of_block (a := ⟨Bf, 0, none⟩) hkp.2).trans hf1
        have hflr : Bf < wr.heap.size := by
          rcases Nat.lt_or_ge Bf wr.heap.size with hh | hh
          · exact hh
          · have h := hkp.2
            rw [Array.getElem?_eq_none hh, Array.getElem?_eq_getElem hfl1] at h
            cases h
        have HN := Bx.mk (arcsK_succ L k m hlt)
        have HT : Bx ((tat L (k + m)).1 = s → ∀ j, j < m + 1 → (tat L (k + j)).1 = s) := Bx.mk (fun h j hj => by
          rcases Nat.lt_or_ge j m with hh | hh
          · exact HR.out j hh
          · obtain rfl : j = m := by omega
            exact h)
        have HEND : Bx ((tat L (k + m)).1 ≠ s → arcsK L k m = arcsF L s) := Bx.mk (fun h => run_end hr HLOW.out hp HR.out (fun _ => h))
        have HPRE : Bx ((tat L (k + m)).1 = s → arcsK L k (m + 1) <+: arcsF L s) := Bx.mk (fun h => run_pre HLOW.out hp (HT.out h))
        generalize tat L (k + m) = p at c0 c1 c2 HN HT HEND HPRE
        obtain ⟨p1, p2, p3⟩ := p
        dsimp only at c0 c1 c2
        have hlw : (arcsK L k m).length < L.length := by rw [arcsK_len L k m hmk]; omega
        have hBA : Below wr.heap.size wr (wr.alloc (.cells #[.int .i64 p1, .int .i64 p2, .int .i64 p3] 76)) := (Below.refl _ _).alloc (Nat.le_refl _) _
        have hJa := HJ.out _ _ _ hJs hBA
        have HKA : Bx (KpA w0.heap.size Bf w1 (wr.alloc (.cells #[.int .i64 p1, .int .i64 p2, .int .i64 p3] 76))) := Bx.mk ⟨hkp.1.trans (hBA.mono HBR.out.size), (hBA.block Bf hflr).trans hkp.2⟩
        have m1 : (0 : Int) ≤ (m : Int) := by omega
        have m2 : (m : Int) < ((L.length - k : Nat) : Int) := by omega
        have d1 : decide ((m : Int) < ((L.length - k : Nat) : Int)) = true := decide_eq_true m2
        have m3 : m < L.length - k := by omega
        have hbw : b < wr.heap.size := Nat.lt_of_lt_of_le lb HBR.out.size
        clear hkp HR hBA hJs
        by_cases hps : p1 = s
        · subst hps
          have hpp := HPRE.out rfl
          have htt := Bx.mk (HT.out rfl)
          obtain ⟨fn, tmps, assign, body, hy, hR⟩ := hY _ (p1, p2, p3) _ hJa hlw
          unfold arcV at hy
          dsimp only at hy
          clear HPRE HT HEND
          gi_wp2
          refine hR.mono ?_
          rintro e W3 (⟨rfl, hJ3, hk3⟩ | ⟨rfl, hJx3⟩)
          · gi_wp2
            go_roundw
            case rel => exact ⟨m + 1, by omega, by simp, by rw [HN.out]; exact hJ3, kpA_t HKA.out hk3, htt⟩
            case measure => simp [intOf]; omega
          · gi_wp2
            refine bodyPost_ret (results_none rfl _ _ _) rfl ?_
            exact ⟨⟨_, rfl⟩, .inr ⟨_, hpp, by rw [HN.out]; exact hJx3⟩⟩
        · have hne2 : (p1 != s) = true := by simp [hps]
          have hen := HEND.out hps
          clear HPRE HT HEND
          gi_wp2
          refine ⟨fun _ h => (by cases h), ?_⟩
          gi_wp2
          refine bodyPost_ret (results_none rfl _ _ _) rfl ?_
          exact ⟨⟨_, rfl⟩, .inl ⟨_, hen, hJa⟩⟩
      · have hen := run_end hr HLOW.out hp HR.out (fun h => absurd h hlt)
        have d1 : decide ((m : Int) < ((L.length - k : Nat) : Int)) = false := decide_eq_false (by omega)
        have m2 : ¬ ((m : Int) < ((L.length - k : Nat) : Int)) := by omega
        have m3 : ¬ (m < L.length - k) := by omega
        gi_wp2
        go_end0
        exact ⟨⟨_, rfl⟩, .inl (by rw [← hen]; exact hJs)⟩
  · obtain rfl : k = L.length := by omega
    have hend : [] = arcsF L s := by
      have := run_end (m := 0) hr HLOW.out hp (fun j hj => by omega) (fun hj => by omega)
      simpa [arcsK] using this
    by_cases hc0 : c = L.length
    · gi_wp2
      gi_loopw [19] (fun i wr => i = .int .i64 0 ∧ J [] wr) (fun _ _ => 0)
      case atStart => exact ⟨rfl, hJ1⟩
      case round =>
        obtain ⟨rfl, hJs⟩ := hrel
        gi_wp2
        go_end0
        exact ⟨⟨_, rfl⟩, .inl ⟨_, hend, hJs⟩⟩
    · gi_wp2
      gi_loopw [19] (fun i wr => i = .int .i64 0 ∧ J [] wr) (fun _ _ => 0)
      case atStart => exact ⟨rfl, hJ1⟩
      case round =>
        obtain ⟨rfl, hJs⟩ := hrel
        gi_wp2
        go_end0
        exact ⟨⟨_, rfl⟩, .inl ⟨_, hend, hJs⟩⟩
end Go.Proofs.Ytpbgjlmcafmejaa
