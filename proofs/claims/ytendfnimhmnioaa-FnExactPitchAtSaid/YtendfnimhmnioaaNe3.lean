/- DurationOf and PitchesOf: the model. -/
import Derived.Test.YtendfnimhmnioaaNe
namespace Go.Proofs.Ytendfnimhmnioaa
open Go.ChangeShapes Go.WideShapes Go.ChangeAt Go.RowKit
set_option linter.unusedVariables false
set_option linter.unusedSimpArgs false
set_option maxRecDepth 100000

theorem below_appN {w0 w w' : World} {base e size n : Nat} {v : Value} {xs : List Value} {o : Obj} (hbw : Below w0.heap.size w0 w) (hown : w.ownsRow base e size v n xs) (hB : w0.heap.size ≤ base) (hg : (w.alloc o).grownBy w' v.ownBlock) : Below w0.heap.size w0 w' :=
  (hbw.alloc hbw.size _).grown hg (by have := hbw.size; simp; omega) (fun g hg => Nat.le_trans hB (own_lo hown g hg))
theorem ints_snocN (l : List Int) (z : Int) : ints (l ++ [z]) = ints l ++ [.int .i64 z] := by simp [ints]
theorem spec_sum9 (v : Value) (l : List (Int × Int)) (w : World) (h : PrsAt w v l) (hok : okM l = true) :
    Calls Try.prog 57 #[v] w fun e w' => e = .returned (.int .i64 (durL l)) ∧ w = w' := by
  obtain ⟨A, c, rfl⟩ := prs_len h
  have hm := (okM_yes hok).1
  have HI := Bx.mk h
  have HR := Bx.mk (fun k hk => durN_rng hok k hk)
  clear h hok
  go_enter Try.func57, Try.ntmps57
  go_wp2_with (fail)
  go_loopw [3, 4] (fun s i wr => ∃ k : Nat, k ≤ l.length ∧ i = .int .i64 k ∧ s = .int .i64 (durN l k) ∧ wr = w) (fun _ i _ => l.length - (intOf i).toNat)
  case atStart => exact ⟨0, Nat.zero_le _, rfl, rfl, rfl⟩
  case round =>
    obtain ⟨k, hk, rfl, rfl, rfl⟩ := hrel
    by_cases hlt : k < l.length
    · obtain ⟨b, o, rfl, hb, hc⟩ := prs_form HI.out (by omega)
      obtain ⟨h1, h2⟩ := hc k hlt
      have k1 : (0 : Int) ≤ (k : Int) := by omega
      have k2 : (k : Int) < (l.length : Int) := by omega
      have r1 := HR.out (k + 1) hlt
      have HS : Bx (durN l (k + 1) = durN l k + (pat l k).2) := Bx.mk rfl
      rw [HS.out] at r1
      have y0 : IntKind.i64.wrap (durN l k + (pat l k).2) = durN l k + (pat l k).2 := IntWalk.i64_in _ (by omega)
      clear hc HR HI
      generalize durN l k = s at *
      generalize pat l k = p at *
      obtain ⟨p1, p2⟩ := p
      dsimp only at h1 h2 r1 y0
      go_wp2_with (fail)
      go_roundw
      case rel => exact ⟨k + 1, by omega, by go_num, by rw [HS.out], by first | rfl | trivial⟩
      case measure => simp [intOf]; omega
    · obtain rfl : k = l.length := by omega
      go_wp2_with (fail)
      go_ret
      exact ⟨rfl, rfl⟩
theorem spec_durationof (v : Value) (l : List (Int × Int)) (w : World) (h : PrsAt w v l) (hm : l.length ≤ 1048576) :
    Calls Try.prog 31 #[v] w fun e w' => e = .returned (.tuple #[.int .i64 (durE l).1, .int .i64 (durE l).2]) ∧ Below w.heap.size w w' := by
  have hq := fun W h => spec_okm v l W h hm
  have HI := Bx.mk h
  clear h hm
  cases hok : okM l
  · have HE : Bx (durE l = (0, 1)) := Bx.mk (by simp [durE, hok])
    rw [hok] at hq
    rw [HE.out]
    clear hok
    go_enter Try.func31, Try.ntmps31
    go_wp2_with (fail)
    refine (hq _ HI.out).mono ?_
    rintro r w1 ⟨rfl, rfl⟩
    go_wp2_with (fail)
    go_ret2
    exact ⟨rfl, Below.refl _ _⟩
  · have HE : Bx (durE l = (durL l, 0)) := Bx.mk (by simp [durE, hok])
    have hs := fun W h => spec_sum9 v l W h hok
    rw [hok] at hq
    rw [HE.out]
    clear hok
    go_enter Try.func31, Try.ntmps31
    go_wp2_with (fail)
    refine (hq _ HI.out).mono ?_
    rintro r w1 ⟨rfl, rfl⟩
    go_wp2_with (fail)
    refine (hs _ HI.out).mono ?_
    rintro r w1 ⟨rfl, rfl⟩
    go_wp2_with (fail)
    go_ret2
    exact ⟨rfl, Below.refl _ _⟩
def NewInts (vs : List Int) (w : World) (e : Ending) (w' : World) : Prop := ∃ v, e = .returned v ∧ w'.ownsRow w.heap.size 2 1 v vs.length (ints vs) ∧ Below w.heap.size w w'
theorem pits_takeN (l : List (Int × Int)) (k : Nat) (h : k ≤ l.length) : ((pits l).take k).length = k := by rw [List.length_take, pits_len]; omega
set_option maxHeartbeats 2000000 in
theorem spec_pits9 (v : Value) (l : List (Int × Int)) (w : World) (h : PrsAt w v l) (hm : l.length ≤ 1048576) :
    Calls Try.prog 59 #[v] w (NewInts (pits l) w) := by
  obtain ⟨i0, hi, hz0, hz1, hz2⟩ := info_parts infoI64
  obtain ⟨A, c, rfl⟩ := prs_len h
  have HI := Bx.mk h
  clear h
  go_enter Try.func59, Try.ntmps59
  go_wp2_with (fail)
  go_loopw [3, 4] (fun v i wr => ∃ k : Nat, k ≤ l.length ∧ i = .int .i64 k ∧ wr.ownsRow w.heap.size 2 1 v ((pits l).take k).length (ints ((pits l).take k)) ∧ Below w.heap.size w wr) (fun _ i _ => l.length - (intOf i).toNat)
  case atStart => exact ⟨0, Nat.zero_le _, rfl, World.ownsRow_lit _ _ _ (Nat.le_refl _) (by decide) (by decide), (Below.refl _ _).alloc (Nat.le_refl _) _⟩
  case round =>
    obtain ⟨k, hk, rfl, hown, hbw⟩ := hrel
    have hll := pits_takeN l k hk
    by_cases hlt : k < l.length
    · obtain ⟨b, o, rfl, hb, hc⟩ := prs_form (HI.out.below hbw) (by omega)
      obtain ⟨h1, h2⟩ := hc k hlt
      have HS := Bx.mk (pits_take l k hlt)
      have k1 : (0 : Int) ≤ (k : Int) := by omega
      have k2 : (k : Int) < (l.length : Int) := by omega
      have hsz := hbw.size
      clear hc HI
      generalize pat l k = p at *
      obtain ⟨p1, p2⟩ := p
      dsimp only at h1 h2
      go_wp2_with ((at_builtin; refine wpList_append_own _ rfl _ _ 24 rfl w.heap.size 2 i0 (.int .i64 0) 1 8 Try.underlying24 hi hz0 hz1 hz2 rfl (by decide) _ _ _ rfl (hown.alloc _) ⟨wr.heap.size, 0, none⟩ 1 1 [.int .i64 p1] rfl rfl (cell_one_new _ _ _) (fun x hx => by simp at hx; subst hx; rfl) (by unfold maxLen; omega) (by omega) (by simp; omega) ?_; intro v' w3 hown' hgrow3 hnil3))
      have hown2 : w3.ownsRow w.heap.size 2 1 v' ((pits l).take (k + 1)).length (ints ((pits l).take (k + 1))) := by
        rw [HS.out, ints_snocN, List.length_append]; exact hown'
      have hb2 : Below w.heap.size w w3 := below_appN hbw hown (Nat.le_refl _) hgrow3
      clear hown' hgrow3 hnil3 hown
      go_roundw
      case rel => exact ⟨k + 1, by omega, by go_num, hown2, hb2⟩
      case measure => simp [intOf]; omega
    · obtain rfl : k = l.length := by omega
      have hfull : (pits l).take l.length = pits l := List.take_of_length_le (by rw [pits_len]; exact Nat.le_refl _)
      rw [hfull] at hown
      have HO := Bx.mk hown
      clear hown
      go_wp2_with (fail)
      go_ret
      exact ⟨_, rfl, HO.out, hbw⟩
theorem spec_pitchesof (v : Value) (l : List (Int × Int)) (w : World) (h : PrsAt w v l) (hm : l.length ≤ 1048576) :
    Calls Try.prog 33 #[v] w (RowOut (pitE l).1 (.int .i64 (pitE l).2) w) := by
  have hq := fun W h => spec_okm v l W h hm
  have hs := fun W h => spec_pits9 v l W h hm
  have HI := Bx.mk h
  clear h hm
  cases hok : okM l
  · have HE : Bx (pitE l = ([], 1)) := Bx.mk (by simp [pitE, hok])
    rw [hok] at hq
    rw [HE.out]
    clear hok
    go_enter Try.func33, Try.ntmps33
    go_wp2_with (fail)
    refine (hq _ HI.out).mono ?_
    rintro r w1 ⟨rfl, rfl⟩
    go_wp2_with (fail)
    go_ret2
    exact ⟨_, rfl, World.ownsRow_nil _ _ _ _, Below.refl _ _⟩
  · have HE : Bx (pitE l = (pits l, 0)) := Bx.mk (by simp [pitE, hok])
    rw [hok] at hq
    rw [HE.out]
    clear hok
    go_enter Try.func33, Try.ntmps33
    go_wp2_with (fail)
    refine (hq _ HI.out).mono ?_
    rintro r w1 ⟨rfl, rfl⟩
    go_wp2_with (fail)
    refine (hs _ HI.out).mono ?_
    rintro r w1 ⟨v1, rfl, ho, hb⟩
    have HO := Bx.mk ho
    have HB := Bx.mk hb
    clear ho hb
    go_wp2_with (fail)
    go_ret2
    exact ⟨_, rfl, HO.out, HB.out⟩
end Go.Proofs.Ytendfnimhmnioaa
