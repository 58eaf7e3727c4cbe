/- FittingAt: the program's own. -/
import Derived.Test.YtidblpamolimpaaHo2
namespace Go.Proofs.Ytidblpamolimpaa
open Go.ChangeShapes Go.WideShapes Go.ChangeAt Go.RowKit
set_option linter.unusedVariables false
set_option linter.unusedSimpArgs false
set_option maxRecDepth 100000

def NewRowH (vs : List Int) (w : World) (e : Ending) (w' : World) : Prop := ∃ v, e = .returned v ∧ w'.ownsRow w.heap.size 2 1 v vs.length (ints vs) ∧ Below w.heap.size w w'
set_option maxHeartbeats 4000000 in
theorem impl_wantedF (B : Nat → Bool) (m : Nat) (z : Int) (p1 p2 p3 : Value) (w : World) (hz : z = (m : Int) - 1) (hm32 : m ≤ 1048576) (hd : Bx (∀ s W, s < m → Below w.heap.size w W → Calls Try.prog 29 #[.int .i64 (s : Int), p1, p2, p3] W (fun e w' => e = .returned (.bool (B s)) ∧ Below W.heap.size W w'))) :
    Calls Try.prog 30 #[.int .i64 0, .int .i64 z, .func (.func 29) #[] #[p1, p2, p3]] w (NewRowH (fitN B m) w) := by
  obtain ⟨i0, hi, hz0, hz1, hz2⟩ := info_parts infoI64H
  have HZ := Bx.mk hz
  clear hz
  go_enter Try.func30, Try.ntmps30
  go_wp2_with (fail)
  go_loopw [7, 8] (fun v i wr => ∃ k : Nat, k ≤ m ∧ i = .int .i64 k ∧ wr.ownsRow w.heap.size 2 1 v (fitN B k).length (ints (fitN B k)) ∧ Below w.heap.size w wr) (fun _ i _ => m - (intOf i).toNat)
  case atStart => exact ⟨0, Nat.zero_le _, rfl, World.ownsRow_nil _ _ _ _, Below.refl _ _⟩
  case round =>
    obtain ⟨k, hk, rfl, hown, hbw⟩ := hrel
    by_cases hlt : k < m
    · have x1 : (0 : Int) ≤ (k : Int) := by omega
      have dlt : decide ((k : Int) ≤ z) = true := decide_eq_true (by rw [HZ.out]; omega)
      have HL := Bx.mk (fitN_len B k)
      have hN : Bx (fitN B (k + 1) = if B k = true then fitN B k ++ [(k : Int)] else fitN B k) := Bx.mk rfl
      have hc := hd.out k wr hlt hbw
      generalize B k = bk at hc hN
      cases bk
      · have HS : Bx (fitN B (k + 1) = fitN B k) := Bx.mk hN.out
        clear hN
        go_wp2_with (fail)
        refine hc.mono ?_
        rintro r W ⟨rfl, hb4⟩
        have hown := own_below hown hb4
        have hbw := hbw.trans (hb4.mono hbw.size)
        clear hb4 hc
        go_wp2_with (fail)
        go_roundw
        case rel => exact ⟨k + 1, by omega, by go_num, by rw [HS.out]; exact hown, hbw⟩
        case measure => simp [intOf]; omega
      · have HS : Bx (fitN B (k + 1) = fitN B k ++ [(k : Int)]) := Bx.mk hN.out
        clear hN
        go_wp2_with (fail)
        refine hc.mono ?_
        rintro r W ⟨rfl, hb4⟩
        have hown := own_below hown hb4
        have hbw := hbw.trans (hb4.mono hbw.size)
        clear hb4 hc
        have hsz := hbw.size
        go_wp2_with ((at_builtin; refine wpList_append_own _ rfl _ _ 35 rfl w.heap.size 2 i0 (.int .i64 0) 1 8 Try.underlying35 hi hz0 hz1 hz2 rfl (by decide) _ _ _ rfl (hown.alloc _) ⟨W.heap.size, 0, none⟩ 1 1 [.int .i64 (k : Int)] rfl rfl (cell_one_new _ _ _) (fun x hx => by simp at hx; subst hx; rfl) (by have := HL.out; unfold maxLen; omega) (by have := HL.out; omega) (by simp; omega) ?_; intro v' w3 hown' hgrow3 hnil3))
        have hown2 : w3.ownsRow w.heap.size 2 1 v' (fitN B (k + 1)).length (ints (fitN B (k + 1))) := by
          rw [HS.out, ints_snocH, List.length_append]; exact hown'
        have hb2 : Below w.heap.size w w3 := (hbw.alloc hbw.size _).grown hgrow3 (by simp; omega) (fun g hg => own_lo hown g hg)
        clear hown' hgrow3 hnil3 hown
        go_roundw
        case rel => exact ⟨k + 1, by omega, by go_num, hown2, hb2⟩
        case measure => simp [intOf]; omega
    · obtain rfl : k = m := by omega
      have dlt : decide ((k : Int) ≤ z) = false := decide_eq_false (by rw [HZ.out]; omega)
      clear hd
      go_wp2_with (fail)
      go_ret
      exact ⟨_, rfl, hown, hbw⟩
set_option maxHeartbeats 4000000 in
theorem impl_fittingat (va : Value) (l : List It) (mi se : Int) (w : World) (h0 : ItsAt w va l) (hm : SmI l) :
    Calls Try.prog 11 #[va, .int .i64 mi, .int .i64 se] w (RowOut (fitE l mi se).1 (.int .i64 (fitE l mi se).2) w) := by
  obtain ⟨A, c, rfl⟩ := its_len h0
  have q0 := fun W h => impl_validitems (.slice A l.length c) l W h hm
  have q1 := fun W => impl_moment mi se W
  have HF : Bx (fitE l mi se = if okIts l = false then ([], 1) else if (inB mi 0 1439 && inB se 0 5) = false then ([], 2) else (fitN (fun k => fitB (iat l k) se mi) l.length, 0)) := Bx.mk rfl
  have hmf : ∀ (fn : Fn) (first cap : Array Value) (w : World), (Instr.makeFunc fn first cap).run Try.prog w = .ok (.func fn first cap) w := fun _ _ _ _ => rfl
  have hsub : IntKind.i64.wrap ((l.length : Int) - 1) = (l.length : Int) - 1 := IntWalk.i64_in _ (by have := hm.n; omega)
  have hmn := hm.n
  have L0 := ((BoxN.at w w.heap.size #[.slice A l.length c] 32 rfl).alloc (.cells #[.int .i64 mi] 2)).alloc (.cells #[.int .i64 se] 2)
  have M0 := (BoxN.at (w.alloc (.cells #[.slice A l.length c] 32)) (w.heap.size + 1) #[.int .i64 mi] 2 (by simp)).alloc (.cells #[.int .i64 se] 2)
  have S0 := BoxN.at ((w.alloc (.cells #[.slice A l.length c] 32)).alloc (.cells #[.int .i64 mi] 2)) (w.heap.size + 1 + 1) #[.int .i64 se] 2 (by simp)
  have B0 : Below w.heap.size w (((w.alloc (.cells #[.slice A l.length c] 32)).alloc (.cells #[.int .i64 mi] 2)).alloc (.cells #[.int .i64 se] 2)) := (((Below.refl _ _).alloc (Nat.le_refl _) _).alloc (by simp) _).alloc (by simp; omega) _
  generalize hW : ((w.alloc (.cells #[.slice A l.length c] 32)).alloc (.cells #[.int .i64 mi] 2)).alloc (.cells #[.int .i64 se] 2) = W0 at L0 M0 S0 B0
  have HT := Bx.mk (h0.below B0)
  have B0 := Bx.mk B0
  have L0 := Bx.mk L0
  have M0 := Bx.mk M0
  have S0 := Bx.mk S0
  clear h0
  cases f0 : okIts l
  · simp only [f0] at q0
    have HE : Bx (fitE l mi se = ([], 1)) := Bx.mk (HF.out.trans (by simp [f0]))
    have l0 := L0.out.c (k := 0) rfl
    have m0 := M0.out.c (k := 0) rfl
    have s0 := S0.out.c (k := 0) rfl
    have ll := L0.out.lt
    have lm := M0.out.lt
    have ls := S0.out.lt
    go_enter Try.func11, Try.ntmps11
    go_wp2_with (fail)
    try rw [hW]
    try clear hW
    refine (q0 _ HT.out).mono ?_
    rintro r w1 ⟨rfl, hb⟩
    have B1 := Bx.mk (B0.out.trans (hb.mono B0.out.size))
    have L1 := Bx.mk (L0.out.below hb)
    have M1 := Bx.mk (M0.out.below hb)
    have S1 := Bx.mk (S0.out.below hb)
    have HT1 := Bx.mk (HT.out.below hb)
    clear hb l0 m0 s0 ll lm ls L0 M0 S0 B0 q0
    have l0 := L1.out.c (k := 0) rfl
    have m0 := M1.out.c (k := 0) rfl
    have s0 := S1.out.c (k := 0) rfl
    have ll := L1.out.lt
    have lm := M1.out.lt
    have ls := S1.out.lt
    go_wp2_with (fail)
    go_ret2
    rw [HE.out]
    exact ⟨_, rfl, World.ownsRow_nil _ _ _ _, B1.out⟩
  · simp only [f0] at q0
    cases f1 : (inB mi 0 1439 && inB se 0 5)
    · simp only [f1] at q1
      have HE : Bx (fitE l mi se = ([], 2)) := Bx.mk (HF.out.trans (by simp [f0, f1]))
      have l0 := L0.out.c (k := 0) rfl
      have m0 := M0.out.c (k := 0) rfl
      have s0 := S0.out.c (k := 0) rfl
      have ll := L0.out.lt
      have lm := M0.out.lt
      have ls := S0.out.lt
      go_enter Try.func11, Try.ntmps11
      go_wp2_with (fail)
      try rw [hW]
      try clear hW
      refine (q0 _ HT.out).mono ?_
      rintro r w1 ⟨rfl, hb⟩
      have B1 := Bx.mk (B0.out.trans (hb.mono B0.out.size))
      have L1 := Bx.mk (L0.out.below hb)
      have M1 := Bx.mk (M0.out.below hb)
      have S1 := Bx.mk (S0.out.below hb)
      have HT1 := Bx.mk (HT.out.below hb)
      clear hb l0 m0 s0 ll lm ls L0 M0 S0 B0 q0
      have l0 := L1.out.c (k := 0) rfl
      have m0 := M1.out.c (k := 0) rfl
      have s0 := S1.out.c (k := 0) rfl
      have ll := L1.out.lt
      have lm := M1.out.lt
      have ls := S1.out.lt
      go_wp2_with (fail)
      refine (q1 _).mono ?_
      rintro r wz ⟨rfl, rfl⟩
      go_wp2_with (fail)
      go_ret2
      rw [HE.out]
      exact ⟨_, rfl, World.ownsRow_nil _ _ _ _, B1.out⟩
    · simp only [f1] at q1
      have HE : Bx (fitE l mi se = (fitN (fun k => fitB (iat l k) se mi) l.length, 0)) := Bx.mk (HF.out.trans (by simp [f0, f1]))
      have hb := Bool.and_eq_true_iff.1 f1
      have b1 := inB_yes hb.1
      have HK := Bx.mk (fun k hk => okI_at f0 k hk)
      have qw := fun p1 p2 p3 W h => impl_wantedF (fun k => fitB (iat l k) se mi) l.length ((l.length : Int) - 1) p1 p2 p3 W rfl hmn h
      clear HF f0 f1 hb
      have l0 := L0.out.c (k := 0) rfl
      have m0 := M0.out.c (k := 0) rfl
      have s0 := S0.out.c (k := 0) rfl
      have ll := L0.out.lt
      have lm := M0.out.lt
      have ls := S0.out.lt
      go_enter Try.func11, Try.ntmps11
      go_wp2_with (fail)
      try rw [hW]
      try clear hW
      refine (q0 _ HT.out).mono ?_
      rintro r w1 ⟨rfl, hb⟩
      have B1 := Bx.mk (B0.out.trans (hb.mono B0.out.size))
      have L1 := Bx.mk (L0.out.below hb)
      have M1 := Bx.mk (M0.out.below hb)
      have S1 := Bx.mk (S0.out.below hb)
      have HT1 := Bx.mk (HT.out.below hb)
      clear hb l0 m0 s0 ll lm ls L0 M0 S0 B0 q0
      have l0 := L1.out.c (k := 0) rfl
      have m0 := M1.out.c (k := 0) rfl
      have s0 := S1.out.c (k := 0) rfl
      have ll := L1.out.lt
      have lm := M1.out.lt
      have ls := S1.out.lt
      go_wp2_with (fail)
      refine (q1 _).mono ?_
      rintro r wz ⟨rfl, rfl⟩
      go_wp2_with (fail)
      refine (qw _ _ _ _ (Bx.mk (fun s W hs hbW => impl_fit1 A c l s mi se _ _ _ W (L1.out.below hbW) (S1.out.below hbW) (M1.out.below hbW) (HT1.out.below hbW) hs (HK.out s hs) b1))).mono ?_
      rintro r w2 ⟨v2, rfl, ho, hb⟩
      have HO := Bx.mk (owndown (b1 := w.heap.size) B1.out.size ho)
      have B2 := Bx.mk (B1.out.trans (hb.mono B1.out.size))
      clear ho hb qw
      go_wp2_with (fail)
      go_ret2
      rw [HE.out]
      exact ⟨_, rfl, HO.out, B2.out⟩
end Go.Proofs.Ytidblpamolimpaa
