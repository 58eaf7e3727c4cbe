/- FittingAt: both sides. -/
import Derived.Test.YtmbillcdlcgjiaaHj2
import Derived.Test.YtmbillcdlcgjiaaHi
import Derived.Test.YtmbillcdlcgjiaaHg3
namespace Go.Proofs.Ytmbillcdlcgjiaa
open Go.ChangeShapes Go.WideShapes Go.ChangeAt Go.RowKit
set_option linter.unusedVariables false
set_option linter.unusedSimpArgs false
set_option maxRecDepth 100000

/-- the numbers below n for which this is so -/
def fitN (B : Nat → Bool) : Nat → List Int
  | 0 => []
  | k + 1 => if B k = true then fitN B k ++ [(k : Int)] else fitN B k
theorem fitN_len (B : Nat → Bool) (k : Nat) : (fitN B k).length ≤ k := by
  induction k with
  | zero => simp [fitN]
  | succ k ih =>
    unfold fitN
    split
    · simp; omega
    · omega
def fitE (l : List It) (mi se : Int) : List Int × Int :=
  if okIts l = false then ([], 1) else if (inB mi 0 1439 && inB se 0 5) = false then ([], 2) else (fitN (fun k => fitB (iat l k) se mi) l.length, 0)
theorem fitE_len (l : List It) (mi se : Int) : (fitE l mi se).1.length ≤ 64 := by
  unfold fitE
  cases h : okIts l
  · simp
  · cases inB mi 0 1439 && inB se 0 5
    · simp
    · have h12 := ((okIts_iff l).1 h).1
      have := fitN_len (fun k => fitB (iat l k) se mi) l.length
      simp; omega
theorem infoI64H : (Try.prog.info? 2).map (fun i => (i.zero, i.size, i.bytes)) = some (some (.int .i64 0), 1, 8) := by kernel_rfl
theorem ints_snocH (l : List Int) (z : Int) : ints (l ++ [z]) = ints l ++ [.int .i64 z] := by simp [ints]
set_option maxHeartbeats 4000000 in
theorem spec_fittingat (va : Value) (l : List It) (mi se : Int) (w : World) (h0 : ItsAt w va l) (hm : SmI l) :
    Calls Try.prog 41 #[va, .int .i64 mi, .int .i64 se] w (RowOut (fitE l mi se).1 (.int .i64 (fitE l mi se).2) w) := by
  obtain ⟨i0, hi, hz0, hz1, hz2⟩ := info_parts infoI64H
  obtain ⟨A, c, rfl⟩ := its_len h0
  have HT := Bx.mk h0
  have q0 := fun m => spec_okits (.slice A l.length c) l (w.drewN m) (h0.draws m) hm
  have q1 := fun W => spec_min mi W
  have q2 := fun W => spec_sea se W
  have HF : Bx (fitE l mi se = if okIts l = false then ([], 1) else if (inB mi 0 1439 && inB se 0 5) = false then ([], 2) else (fitN (fun k => fitB (iat l k) se mi) l.length, 0)) := Bx.mk rfl
  clear h0
  cases f0 : okIts l
  · simp only [f0] at q0
    have HE : Bx (fitE l mi se = ([], 1)) := Bx.mk (HF.out.trans (by simp [f0]))
    go_enter Try.func41, Try.ntmps41
    go_wp2_with (fail)
    refine (q0 0).mono ?_
    rintro r w1 ⟨rfl, n, rfl⟩
    go_wp2_with (fail)
    go_ret2
    rw [HE.out]
    exact ⟨_, rfl, World.ownsRow_nil _ _ _ _, below_draws (Below.refl _ _) _⟩
  · simp only [f0] at q0
    cases f1 : inB mi 0 1439
    · simp only [f1] at q1
      have HE : Bx (fitE l mi se = ([], 2)) := Bx.mk (HF.out.trans (by simp [f0, f1]))
      go_enter Try.func41, Try.ntmps41
      go_wp2_with (fail)
      refine (q0 0).mono ?_
      rintro r w1 ⟨rfl, n, rfl⟩
      go_wp2_with (fail)
      refine (q1 _).mono ?_
      rintro r w1 ⟨rfl, rfl⟩
      go_wp2_with (fail)
      go_ret2
      rw [HE.out]
      exact ⟨_, rfl, World.ownsRow_nil _ _ _ _, below_draws (Below.refl _ _) _⟩
    · simp only [f1] at q1
      cases f2 : inB se 0 5
      · simp only [f2] at q2
        have HE : Bx (fitE l mi se = ([], 2)) := Bx.mk (HF.out.trans (by simp [f0, f1, f2]))
        go_enter Try.func41, Try.ntmps41
        go_wp2_with (fail)
        refine (q0 0).mono ?_
        rintro r w1 ⟨rfl, n, rfl⟩
        go_wp2_with (fail)
        refine (q1 _).mono ?_
        rintro r w1 ⟨rfl, rfl⟩
        go_wp2_with (fail)
        refine (q2 _).mono ?_
        rintro r w1 ⟨rfl, rfl⟩
        go_wp2_with (fail)
        go_ret2
        rw [HE.out]
        exact ⟨_, rfl, World.ownsRow_nil _ _ _ _, below_draws (Below.refl _ _) _⟩
      · simp only [f2] at q2
        have HE : Bx (fitE l mi se = (fitN (fun k => fitB (iat l k) se mi) l.length, 0)) := Bx.mk (HF.out.trans (by simp [f0, f1, f2]))
        have b1 := inB_yes f1
        have b2 := inB_yes f2
        have h12 := ((okIts_iff l).1 f0).1
        have HK := Bx.mk (fun k hk => okI_at f0 k hk)
        clear HF f0 f1 f2
        go_enter Try.func41, Try.ntmps41
        go_wp2_with (fail)
        refine (q0 0).mono ?_
        rintro r w1 ⟨rfl, n, rfl⟩
        go_wp2_with (fail)
        refine (q1 _).mono ?_
        rintro r w1 ⟨rfl, rfl⟩
        go_wp2_with (fail)
        refine (q2 _).mono ?_
        rintro r w1 ⟨rfl, rfl⟩
        clear q0 q1 q2
        go_wp2_with (fail)
        go_loopw [8, 9] (fun v i wr => ∃ k : Nat, k ≤ l.length ∧ i = .int .i64 k ∧ wr.ownsRow w.heap.size 2 1 v (fitN (fun k => fitB (iat l k) se mi) k).length (ints (fitN (fun k => fitB (iat l k) se mi) k)) ∧ Below w.heap.size w wr) (fun _ i _ => l.length - (intOf i).toNat)
        case atStart => exact ⟨0, Nat.zero_le _, rfl, World.ownsRow_lit _ _ _ (Nat.le_refl _) (by decide) (by decide), (below_draws (Below.refl _ _) _).alloc (Nat.le_refl _) _⟩
        case round =>
          obtain ⟨k, hk, rfl, hown, hbw⟩ := hrel
          by_cases hlt : k < l.length
          · have dlt : decide ((k : Int) < (l.length : Int)) = true := decide_eq_true (by omega)
            obtain ⟨b, o, rfl, _, lb, hc⟩ := its_cells (HT.out.below hbw) (by omega)
            have hf := fun m => spec_fits b (o + k * 6) (iat l k) mi se (wr.drewN m) (c6dr (hc k hlt) m) lb (HK.out k hlt) ⟨b1.1, by omega⟩ b2.1
            have x1 : (0 : Int) ≤ (k : Int) := by omega
            have x2 : (k : Int) < (l.length : Int) := by omega
            have HN : Bx (fitN (fun k => fitB (iat l k) se mi) (k + 1) = if fitB (iat l k) se mi = true then fitN (fun k => fitB (iat l k) se mi) k ++ [(k : Int)] else fitN (fun k => fitB (iat l k) se mi) k) := Bx.mk rfl
            have HL := Bx.mk (fitN_len (fun k => fitB (iat l k) se mi) k)
            clear hc
            generalize fitB (iat l k) se mi = fd at hf HN
            have HFF := Bx.mk ((hf 0).mono (fun e w' (h : _ ∧ ∃ n, w' = (wr.drewN 0).drewN n) => And.intro h.1 (show Below wr.heap.size wr w' from quietB h.2)))
            cases fd
            · have HS : Bx (fitN (fun k => fitB (iat l k) se mi) (k + 1) = fitN (fun k => fitB (iat l k) se mi) k) := Bx.mk HN.out
              clear HN hf
              go_wp2_with (fail)
              refine HFF.out.mono ?_
              rintro r W ⟨rfl, hb4⟩
              have hown1 := own_below hown hb4
              have hbw1 := hbw.trans (hb4.mono hbw.size)
              clear hb4
              go_wp2_with (fail)
              go_roundw
              case rel => exact ⟨k + 1, by omega, by go_num, by rw [HS.out]; exact hown1, hbw1⟩
              case measure => simp [intOf]; omega
            · have HS : Bx (fitN (fun k => fitB (iat l k) se mi) (k + 1) = fitN (fun k => fitB (iat l k) se mi) k ++ [(k : Int)]) := Bx.mk HN.out
              clear HN hf
              go_wp2_with (fail)
              refine HFF.out.mono ?_
              rintro r W ⟨rfl, hb4⟩
              have hown1 := own_below hown hb4
              have hbw1 := hbw.trans (hb4.mono hbw.size)
              clear hb4 hown hbw
              have hsz := hbw1.size
              go_wp2_with ((at_builtin; refine wpList_append_own _ rfl _ _ 22 rfl w.heap.size 2 i0 (.int .i64 0) 1 8 Try.underlying22 hi hz0 hz1 hz2 rfl (by decide) _ _ _ rfl (hown1.alloc _) ⟨W.heap.size, 0, none⟩ 1 1 [.int .i64 (k : Int)] rfl rfl (cell_one_new _ _ _) (fun x hx => by simp at hx; subst hx; rfl) (by have := HL.out; unfold maxLen; omega) (by have := HL.out; omega) (by simp; omega) ?_; intro v' w3 hown' hgrow3 hnil3))
              have hown2 : w3.ownsRow w.heap.size 2 1 v' (fitN (fun k => fitB (iat l k) se mi) (k + 1)).length (ints (fitN (fun k => fitB (iat l k) se mi) (k + 1))) := by
                rw [HS.out, ints_snocH, List.length_append]; exact hown'
              have hb2 : Below w.heap.size w w3 := (hbw1.alloc hbw1.size _).grown hgrow3 (by simp; omega) (fun g hg => own_lo hown1 g hg)
              clear hown' hgrow3 hnil3 hown1
              go_roundw
              case rel => exact ⟨k + 1, by omega, by go_num, hown2, hb2⟩
              case measure => simp [intOf]; omega
          · obtain rfl : k = l.length := by omega
            have dlt : decide ((l.length : Int) < (l.length : Int)) = false := decide_eq_false (by omega)
            have HO := Bx.mk hown
            have HB := Bx.mk hbw
            clear hown hbw
            go_wp2_with (fail)
            go_ret2
            rw [HE.out]
            exact ⟨_, rfl, HO.out, HB.out⟩
end Go.Proofs.Ytmbillcdlcgjiaa
