/- DurationOf and PitchesOf: the program. -/
import Derived.Test.YtendfnimhmnioaaNe3
import Derived.Test.YtendfnimhmnioaaNi
namespace Go.Proofs.Ytendfnimhmnioaa
open Go.ChangeShapes Go.WideShapes Go.ChangeAt Go.RowKit
set_option linter.unusedVariables false
set_option linter.unusedSimpArgs false
set_option maxRecDepth 100000

theorem make_capN (w : World) (n : Nat) (hn : n ≤ 17592186044416) : (Instr.makeSlice 24 (.int .i64 0) (.int .i64 (n : Int))).run Try.prog w = .ok (.slice (some ⟨w.heap.size, 0, none⟩) 0 n) (w.alloc (.cells (madeCells #[.int .i64 0] n) 2)) := by
  obtain ⟨i0, hi, hz0, hz1, hz2⟩ := info_parts infoI64
  have := run_make (P := Try.prog) w 24 2 i0 (.int .i64 0) Try.underlying24 hi hz0 .i64 .i64 0 (n : Int) (by omega) (by omega) (by rw [hz2]; omega) (by omega)
  rw [this, hz1]
  simp [Value.cells]
theorem own_capN2 (w : World) (n : Nat) (hn : n ≤ maxLen) : (w.alloc (.cells (madeCells #[.int .i64 0] n) 2)).ownsRow w.heap.size 2 1 (.slice (some ⟨w.heap.size, 0, none⟩) 0 n) 0 [] :=
  ⟨rfl, .inr ⟨w.heap.size, n, _, rfl, Nat.le_refl _, heap_alloc_new w _, Nat.zero_le _, hn, by rw [size_madeCells]; simp, by simp⟩⟩
set_option maxHeartbeats 2000000 in
theorem impl_dur (v : Value) (l : List (Int × Int)) (w : World) (h : PrsAt w v l) (hok : okM l = true) :
    Calls Try.prog 58 #[v] w fun e w' => e = .returned (.int .i64 (durL l)) ∧ Below w.heap.size w w' := by
  obtain ⟨A, c, rfl⟩ := prs_len h
  have hm := (okM_yes hok).1
  have HI := Bx.mk h
  have HR := Bx.mk (fun k hk => durN_rng hok k hk)
  clear h hok
  go_enter Try.func58, Try.ntmps58
  go_wp2_with (fail)
  go_loopw [3, 8] (fun s i wr => ∃ k : Nat, k ≤ l.length ∧ i = .int .i64 k ∧ s = .int .i64 (durN l k) ∧ Bx (Below w.heap.size w wr)) (fun _ i _ => l.length - (intOf i).toNat)
  case atStart => exact ⟨0, Nat.zero_le _, rfl, rfl, Bx.mk (Below.refl _ _)⟩
  case round =>
    obtain ⟨k, hk, rfl, rfl, HW⟩ := hrel
    by_cases hlt : k < l.length
    · obtain ⟨b, o, rfl, hb, hc⟩ := prs_form (HI.out.below HW.out) (by omega)
      obtain ⟨h1, h2⟩ := hc k hlt
      have k1 : (0 : Int) ≤ (k : Int) := by omega
      have k2 : (k : Int) < (l.length : Int) := by omega
      have r1 := HR.out (k + 1) hlt
      have HS : Bx (durN l (k + 1) = durN l k + (pat l k).2) := Bx.mk rfl
      rw [HS.out] at r1
      have B1 : Bx (Below w.heap.size w (wr.alloc (.cells #[.int .i64 (pat l k).1, .int .i64 (pat l k).2] 76))) := Bx.mk (HW.out.alloc HW.out.size _)
      have y0 : IntKind.i64.wrap (durN l k + (pat l k).2) = durN l k + (pat l k).2 := IntWalk.i64_in _ (by omega)
      clear hc HR HI
      generalize durN l k = s at *
      generalize pat l k = p at *
      obtain ⟨p1, p2⟩ := p
      dsimp only at h1 h2 r1 y0 B1
      go_wp2_with (fail)
      go_roundw
      case rel => exact ⟨k + 1, by omega, by go_num, by rw [HS.out], B1⟩
      case measure => simp [intOf]; omega
    · obtain rfl : k = l.length := by omega
      go_wp2_with (fail)
      go_ret
      exact ⟨rfl, HW.out⟩
theorem impl_durationof (v : Value) (l : List (Int × Int)) (w : World) (h : PrsAt w v l) (hm : l.length ≤ 1048576) :
    Calls Try.prog 32 #[v] w fun e w' => e = .returned (.tuple #[.int .i64 (durE l).1, .int .i64 (durE l).2]) ∧ Below w.heap.size w w' := by
  have hq := fun W h => impl_validmelody v l W h hm
  have HI := Bx.mk h
  clear h hm
  cases hok : okM l
  · have HE : Bx (durE l = (0, 1)) := Bx.mk (by simp [durE, hok])
    rw [hok] at hq
    rw [HE.out]
    clear hok
    go_enter Try.func32, Try.ntmps32
    go_wp2_with (fail)
    refine (hq _ HI.out).mono ?_
    rintro r w1 ⟨rfl, hb1⟩
    have B1 := Bx.mk hb1
    clear hb1
    go_wp2_with (fail)
    go_ret2
    exact ⟨rfl, B1.out⟩
  · have HE : Bx (durE l = (durL l, 0)) := Bx.mk (by simp [durE, hok])
    have hs := fun W h => impl_dur v l W h hok
    rw [hok] at hq
    rw [HE.out]
    clear hok
    go_enter Try.func32, Try.ntmps32
    go_wp2_with (fail)
    refine (hq _ HI.out).mono ?_
    rintro r w1 ⟨rfl, hb1⟩
    have B1 := Bx.mk hb1
    clear hb1
    go_wp2_with (fail)
    refine (hs _ (HI.out.below B1.out)).mono ?_
    rintro r w2 ⟨rfl, hb2⟩
    have B2 := Bx.mk (B1.out.trans (hb2.mono B1.out.size))
    clear hb2
    go_wp2_with (fail)
    go_ret2
    exact ⟨rfl, B2.out⟩
set_option maxHeartbeats 2000000 in
theorem impl_pits9 (v : Value) (l : List (Int × Int)) (w : World) (h : PrsAt w v l) (hm : l.length ≤ 1048576) :
    Calls Try.prog 60 #[v] w (NewInts (pits l) w) := by
  obtain ⟨i0, hi, hz0, hz1, hz2⟩ := info_parts infoI64
  obtain ⟨A, c, rfl⟩ := prs_len h
  have HI := Bx.mk h
  have hmk := make_capN w l.length (by omega)
  clear h
  go_enter Try.func60, Try.ntmps60
  go_wp2_with (fail)
  go_loopw [3, 11] (fun v i wr => ∃ k : Nat, k ≤ l.length ∧ i = .int .i64 k ∧ wr.ownsRow w.heap.size 2 1 v ((pits l).take k).length (ints ((pits l).take k)) ∧ Below w.heap.size w wr) (fun _ i _ => l.length - (intOf i).toNat)
  case atStart => exact ⟨0, Nat.zero_le _, rfl, own_capN2 w l.length (by unfold maxLen; omega), (Below.refl _ _).alloc (Nat.le_refl _) _⟩
  case round =>
    obtain ⟨k, hk, rfl, hown, hbw⟩ := hrel
    have hll := pits_takeN l k hk
    by_cases hlt : k < l.length
    · obtain ⟨b, o, rfl, hb, hc⟩ := prs_form (HI.out.below hbw) (by omega)
      obtain ⟨h1, h2⟩ := hc k hlt
      have HS := Bx.mk (pits_take l k hlt)
      have k1 : (0 : Int) ≤ (k : Int) := by omega
      have k2 : (k : Int) < (l.length : Int) := by omega
      have hsz := hbw.size
      clear hc HI
      generalize pat l k = p at *
      obtain ⟨p1, p2⟩ := p
      dsimp only at h1 h2
      go_wp2_with ((at_builtin; refine wpList_append_own _ rfl _ _ 24 rfl w.heap.size 2 i0 (.int .i64 0) 1 8 Try.underlying24 hi hz0 hz1 hz2 rfl (by decide) _ _ _ rfl ((hown.alloc _).alloc _) ⟨wr.heap.size + 1, 0, none⟩ 1 1 [.int .i64 p1] rfl rfl (by have := cell_one_new (wr.alloc (.cells #[.int .i64 p1, .int .i64 p2] 76)) (.int .i64 p1) 2; simpa using this) (fun x hx => by simp at hx; subst hx; rfl) (by unfold maxLen; omega) (by omega) (by simp; omega) ?_; intro v' w3 hown' hgrow3 hnil3))
      have hown2 : w3.ownsRow w.heap.size 2 1 v' ((pits l).take (k + 1)).length (ints ((pits l).take (k + 1))) := by
        rw [HS.out, ints_snocN, List.length_append]; exact hown'
      have hb2 : Below w.heap.size w w3 := below_appN (hbw.alloc hbw.size _) (hown.alloc _) (Nat.le_refl _) hgrow3
      clear hown' hgrow3 hnil3 hown
      go_roundw
      case rel => exact ⟨k + 1, by omega, by go_num, hown2, hb2⟩
      case measure => simp [intOf]; omega
    · obtain rfl : k = l.length := by omega
      have hfull : (pits l).take l.length = pits l := List.take_of_length_le (by rw [pits_len]; exact Nat.le_refl _)
      rw [hfull] at hown
      have HO := Bx.mk hown
      clear hown
      go_wp2_with (fail)
      go_ret
      exact ⟨_, rfl, HO.out, hbw⟩
theorem own_downN {w : World} {b1 b2 e size n : Nat} {v : Value} {xs : List Value} (hb : b1 ≤ b2) (h : w.ownsRow b2 e size v n xs) : w.ownsRow b1 e size v n xs := by
  refine ⟨h.1, ?_⟩
  rcases h.2 with h | ⟨g, cap, cur, hv, hg, hr⟩
  · exact .inl h
  · exact .inr ⟨g, cap, cur, hv, Nat.le_trans hb hg, hr⟩
theorem impl_pitchesof (v : Value) (l : List (Int × Int)) (w : World) (h : PrsAt w v l) (hm : l.length ≤ 1048576) :
    Calls Try.prog 34 #[v] w (RowOut (pitE l).1 (.int .i64 (pitE l).2) w) := by
  have hq := fun W h => impl_validmelody v l W h hm
  have hs := fun W h => impl_pits9 v l W h hm
  have HI := Bx.mk h
  clear h hm
  cases hok : okM l
  · have HE : Bx (pitE l = ([], 1)) := Bx.mk (by simp [pitE, hok])
    rw [hok] at hq
    rw [HE.out]
    clear hok
    go_enter Try.func34, Try.ntmps34
    go_wp2_with (fail)
    refine (hq _ HI.out).mono ?_
    rintro r w1 ⟨rfl, hb1⟩
    have B1 := Bx.mk hb1
    clear hb1
    go_wp2_with (fail)
    go_ret2
    exact ⟨_, rfl, World.ownsRow_nil _ _ _ _, B1.out⟩
  · have HE : Bx (pitE l = (pits l, 0)) := Bx.mk (by simp [pitE, hok])
    rw [hok] at hq
    rw [HE.out]
    clear hok
    go_enter Try.func34, Try.ntmps34
    go_wp2_with (fail)
    refine (hq _ HI.out).mono ?_
    rintro r w1 ⟨rfl, hb1⟩
    have B1 := Bx.mk hb1
    clear hb1
    go_wp2_with (fail)
    refine (hs _ (HI.out.below B1.out)).mono ?_
    rintro r w1 ⟨v1, rfl, ho, hb⟩
    have HO := Bx.mk (own_downN B1.out.size ho)
    have HB := Bx.mk (B1.out.trans (hb.mono B1.out.size))
    clear ho hb
    go_wp2_with (fail)
    go_ret2
    exact ⟨_, rfl, HO.out, HB.out⟩
end Go.Proofs.Ytendfnimhmnioaa
