/- FirstWrong: the program. -/
import Derived.Test.YtobhmoohalkijaaRw2
namespace Go.Proofs.Ytobhmoohalkijaa
open Go.ChangeShapes Go.WideShapes Go.ChangeAt Go.RowKit
set_option linter.unusedVariables false
set_option linter.unusedSimpArgs false
set_option maxRecDepth 100000

set_option maxHeartbeats 4000000 in
theorem impl_first (v u : Value) (R : Rg) (zs : List Int) (w : World) (h : RgAt w v R) (hm : Sm R) (hu : IntsAt w u zs) (hz : zs.length ≤ 1048576) :
    Calls Try.prog 51 #[v, u] w (Out3 (firstE R zs) w) := by
  obtain ⟨A, a, B, b, C, c, rfl, i1, i2, i3⟩ := rg_form h
  obtain ⟨D, d, rfl⟩ := ints_form hu
  have hb : Below w.heap.size w (w.alloc (.cells #[.string R.s, .slice A R.u.length a, .slice B R.d.length b, .int .i64 R.x, .int .i64 R.y, .slice C R.f.length c] 32)) := (Below.refl _ _).alloc (Nat.le_refl _) _
  have HX := BoxN.at w w.heap.size #[.string R.s, .slice A R.u.length a, .slice B R.d.length b, .int .i64 R.x, .int .i64 R.y, .slice C R.f.length c] 32 rfl
  generalize hW : w.alloc (.cells #[.string R.s, .slice A R.u.length a, .slice B R.d.length b, .int .i64 R.x, .int .i64 R.y, .slice C R.f.length c] 32) = W at hb HX
  have hk := impl_validraga _ R W (h.below hb) hm
  have hp := fun W' (hW' : Below w.heap.size w W') => impl_pits _ zs W' (hu.below hW') hz
  have HV := Bx.mk h
  have HM := Bx.mk hm
  have HI := Bx.mk hu
  have h0 := HX.c (k := 0) rfl
  have h1 := HX.c (k := 1) rfl
  have h2 := HX.c (k := 2) rfl
  have h3 := HX.c (k := 3) rfl
  have h4 := HX.c (k := 4) rfl
  have h5 := HX.c (k := 5) rfl
  have hl := HX.lt
  have HXB := Bx.mk HX
  have HB := Bx.mk hb
  clear h i1 i2 i3 hm HX hb hu
  cases e0 : okG R
  · have HE : Bx (firstE R zs = (0, 0, 1)) := Bx.mk (by unfold firstE; rw [e0]; rfl)
    rw [e0] at hk
    clear e0
    go_enter Try.func51, Try.ntmps51
    go_wp2_with (fail)
    refine hk.mono ?_
    rintro r w1 ⟨rfl, hb⟩
    have B1 := Bx.mk (HB.out.trans (hb.mono HB.out.size))
    clear hb
    go_wp2_with (fail)
    go_returns
    exact out3 HE.out B1.out
  · rw [e0] at hk
    cases e1 : pitB zs
    · have HE : Bx (firstE R zs = (0, 0, 7)) := Bx.mk (by unfold firstE; rw [e0, e1]; rfl)
      rw [e1] at hp
      clear e0 e1
      go_enter Try.func51, Try.ntmps51
      go_wp2_with (fail)
      refine hk.mono ?_
      rintro r w1 ⟨rfl, hb⟩
      have B1 := Bx.mk (HB.out.trans (hb.mono HB.out.size))
      clear hb
      go_wp2_with (fail)
      refine (hp _ B1.out).mono ?_
      rintro r w2 ⟨rfl, rfl⟩
      go_wp2_with (fail)
      go_returns
      exact out3 HE.out B1.out
    · rw [e1] at hp
      have HOK := Bx.mk (ok_yes e0)
      have HPY := Bx.mk (pit_yes e1)
      have HRE := Bx.mk (fun mb n W p q hS h1 h2 => impl_reason R p q mb n W (ok_yes e0) hS h1 h2)
      have HHit := Bx.mk (fun k hk h hn => first_hit (R := R) (zs := zs) e0 e1 k hk h hn)
      have HMiss := Bx.mk (fun hn => first_miss (R := R) (zs := zs) e0 e1 hn)
      clear e0 e1
      go_enter Try.func51, Try.ntmps51
      go_wp2_with (fail)
      refine hk.mono ?_
      rintro r w1 ⟨rfl, hb⟩
      have B1 := Bx.mk (HB.out.trans (hb.mono HB.out.size))
      have X1 := Bx.mk (HXB.out.below hb)
      clear hb
      go_wp2_with (fail)
      refine (hp _ B1.out).mono ?_
      rintro r w2 ⟨rfl, rfl⟩
      have h0 := X1.out.c (k := 0) rfl
      have h1 := X1.out.c (k := 1) rfl
      have h2 := X1.out.c (k := 2) rfl
      have h3 := X1.out.c (k := 3) rfl
      have h4 := X1.out.c (k := 4) rfl
      have h5 := X1.out.c (k := 5) rfl
      have hl := X1.out.lt
      go_wp2_with (fail)
      refine (impl_rules _ R w1 (HV.out.below B1.out) HM.out HOK.out).mono ?_
      rintro r w2 ⟨mb, rfl, hS, hb⟩
      have B2 := Bx.mk (B1.out.trans (hb.mono B1.out.size))
      have S2 := Bx.mk hS
      clear hb hS h0 h1 h2 h3 h4 h5 hl X1 hk hp
      go_wp2_with (fail)
      have Z0 := Bx.mk (BoxN.at w2 w2.heap.size #[.int .u16 (maskN R.u R.u.length : Nat), .int .u16 (maskN R.d R.d.length : Nat), .map (some mb)] 104 rfl)
      have B3 : Bx (Below w.heap.size w (w2.alloc (.cells #[.int .u16 (maskN R.u R.u.length : Nat), .int .u16 (maskN R.d R.d.length : Nat), .map (some mb)] 104))) := Bx.mk (B2.out.alloc B2.out.size _)
      have S3 : Bx (PSet (w2.alloc (.cells #[.int .u16 (maskN R.u R.u.length : Nat), .int .u16 (maskN R.d R.d.length : Nat), .map (some mb)] 104)) mb R.f.length (memP R.f)) := Bx.mk (S2.out.below ((Below.refl _ _).alloc (Nat.le_refl _) _))
      go_loopw [24] (fun i wr => ∃ k : Nat, k ≤ zs.length ∧ i = .int .i64 k ∧ Bx (∀ i, i < k → wrongAt R zs i = 0) ∧ Bx (PSet wr mb R.f.length (memP R.f)) ∧ Bx (BoxN wr w2.heap.size #[.int .u16 (maskN R.u R.u.length : Nat), .int .u16 (maskN R.d R.d.length : Nat), .map (some mb)] 104) ∧ Bx (Below w.heap.size w wr)) (fun i _ => zs.length - (intOf i).toNat)
      case atStart => exact ⟨0, Nat.zero_le _, rfl, Bx.mk (fun i hi => absurd hi (Nat.not_lt_zero _)), S3, Z0, B3⟩
      case round =>
        obtain ⟨k, hk, rfl, HK, HS, HZ, HW⟩ := hrel
        clear Z0 B3 S3 B2 S2
        by_cases hlt : k < zs.length
        · obtain ⟨bb, o, cc, hv, lb, hc0⟩ := HI.out.form (by omega)
          injection hv with hA _ hC
          subst hA hC
          have HC0 := Bx.mk hc0
          clear hc0
          have hc : ∀ k, k < zs.length → wr.cell? ⟨bb, o + k, none⟩ = some (.int .i64 (zs.getD k 0)) := fun k hk => (HW.out.cell (p := ⟨bb, o + k, none⟩) lb).trans (HC0.out k hk)
          have h1 := hc k hlt
          have k1 : (0 : Int) ≤ (k : Int) := by omega
          have k2 : (k : Int) < (zs.length : Int) := by omega
          have HS0 : Bx (wrongAt R zs k = 0 → ∀ i, i < k + 1 → wrongAt R zs i = 0) := Bx.mk (fun h i hi => by
            by_cases hik : i = k
            · subst hik; exact h
            · exact HK.out i (by omega))
          have HH := Bx.mk (fun h => HHit.out k hlt h HK.out)
          have z0 := HZ.out.c (k := 0) rfl
          have z1 := HZ.out.c (k := 1) rfl
          have z2 := HZ.out.c (k := 2) rfl
          have zl := HZ.out.lt
          have hlen64 := HPY.out.1
          obtain ⟨y, hy, h0, hre⟩ : ∃ y : Int, y = zs.getD (k - 1) 0 ∧ wr.cell? ⟨bb, o + (k - 1), none⟩ = some (.int .i64 y) ∧ Calls Try.prog 86 #[.agg #[.int .u16 (maskN R.u R.u.length : Nat), .int .u16 (maskN R.d R.d.length : Nat), .map (some mb)], .int .i64 y, .int .i64 (zs.getD k 0)] wr fun e w' => e = .returned (.int .i64 (wrongAt R zs k)) ∧ Below wr.heap.size wr w' :=
            ⟨_, rfl, hc (k - 1) (by omega), HRE.out mb _ wr _ _ HS.out (HPY.out.2 _ (by omega)) (HPY.out.2 k hlt)⟩
          have HRR := Bx.mk hre
          clear hc hy HRE HPY HI HMiss HHit HK HC0 hre lb hlen64
          generalize wrongAt R zs k = rz at *
          generalize zs.getD k 0 = z at *
          cases k with
          | zero =>
            have m0 : max (-1 : Int) 0 = 0 := by decide
            simp only [Nat.zero_sub, Nat.add_zero] at h0 h1
            obtain rfl : y = z := by rw [h0] at h1; simpa using h1
            clear h0
            by_cases hz0 : rz = 0
            · have HN := Bx.mk (HS0.out hz0)
              subst hz0
              clear HS0 HH
              go_wp2_with (fail)
              refine HRR.out.mono ?_
              rintro r w5 ⟨rfl, hb⟩
              have HS5 := Bx.mk (HS.out.below hb)
              have HZ5 := Bx.mk (HZ.out.below hb)
              have HW5 := Bx.mk (HW.out.trans (hb.mono HW.out.size))
              clear hb HS HZ HW HRR z0 z1 z2 zl h1
              go_wp2_with (fail)
              go_roundw
              case rel => exact ⟨1, by omega, by go_num, HN, HS5, HZ5, HW5⟩
              case measure => simp [intOf]; omega
            · have HE := Bx.mk (HH.out hz0)
              have d0 : (rz != 0) = true := by simpa using hz0
              clear HS0 HH hz0
              go_wp2_with (fail)
              refine HRR.out.mono ?_
              rintro r w5 ⟨rfl, hb⟩
              have HW5 := Bx.mk (HW.out.trans (hb.mono HW.out.size))
              clear hb HS HZ HW HRR z0 z1 z2 zl h1
              go_wp2_with (fail)
              go_returns
              exact out3 (HE.out.trans (by simp)) HW5.out
          | succ j =>
            rw [Nat.add_sub_cancel] at h0
            have y1 : (0 : Int) ≤ (j : Int) + 1 := by omega
            have y2 : (j : Int) + 1 < (zs.length : Int) := by omega
            have y3 : ((j : Int) + 1).toNat = j + 1 := by omega
            have x4 : IntKind.i64.wrap ((j : Int) + 1 - 1) = (j : Int) := by rw [show (j : Int) + 1 - 1 = j by omega]; exact IntWalk.i64_in _ (by omega)
            have x5 : (0 : Int) ≤ (j : Int) := by omega
            have x6 : (j : Int) < (zs.length : Int) := by omega
            have m0 : max (j : Int) 0 = (j : Int) := by omega
            by_cases hz0 : rz = 0
            · have HN := Bx.mk (HS0.out hz0)
              subst hz0
              clear HS0 HH
              go_wp2_with (fail)
              refine HRR.out.mono ?_
              rintro r w5 ⟨rfl, hb⟩
              have HS5 := Bx.mk (HS.out.below hb)
              have HZ5 := Bx.mk (HZ.out.below hb)
              have HW5 := Bx.mk (HW.out.trans (hb.mono HW.out.size))
              clear hb HS HZ HW HRR z0 z1 z2 zl h0 h1
              go_wp2_with (fail)
              go_roundw
              case rel => exact ⟨j + 1 + 1, by omega, by go_num, HN, HS5, HZ5, HW5⟩
              case measure => simp [intOf]; omega
            · have HE := Bx.mk (HH.out hz0)
              have d0 : (rz != 0) = true := by simpa using hz0
              clear HS0 HH hz0
              go_wp2_with (fail)
              refine HRR.out.mono ?_
              rintro r w5 ⟨rfl, hb⟩
              have HW5 := Bx.mk (HW.out.trans (hb.mono HW.out.size))
              clear hb HS HZ HW HRR z0 z1 z2 zl h0 h1
              go_wp2_with (fail)
              go_returns
              exact out3 (HE.out.trans (by simp)) HW5.out
        · obtain rfl : k = zs.length := by omega
          have HE := Bx.mk (HMiss.out HK.out)
          go_wp2_with (fail)
          go_returns
          exact out3 HE.out HW.out
end Go.Proofs.Ytobhmoohalkijaa
