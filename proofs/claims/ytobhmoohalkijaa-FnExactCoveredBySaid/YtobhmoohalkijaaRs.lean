/- The model: l05Pair, l05Pairs, l05Tone, l05Ok. -/
import Derived.Test.YtobhmoohalkijaaRgM
import Derived.Test.YtobhmoohalkijaaRg4
import Derived.Test.YtobhmoohalkijaaNum
namespace Go.Proofs.Ytobhmoohalkijaa
open Go.ChangeShapes Go.WideShapes Go.ChangeAt Go.RowKit
set_option linter.unusedVariables false
set_option linter.unusedSimpArgs false
set_option maxRecDepth 100000

set_option maxHeartbeats 2000000 in
theorem spec_pair (v : Value) (p : List Int) (w : World) (h : IntsAt w v p) (hm : p.length ≤ 1048576) :
    Calls Try.prog 94 #[v] w fun e w' => e = .returned (.bool (pairB p)) ∧ ∃ n, w' = w.drewN n := by
  by_cases h2 : p.length = 2
  · obtain ⟨a, b, rfl⟩ : ∃ a b, p = [a, b] := by
      match p, h2 with
      | [a, b], _ => exact ⟨a, b, rfl⟩
    rcases h with ⟨h0, _⟩ | ⟨g, o, c, rfl, hb, hx⟩
    · simp at h0
    have c0 : w.cell? ⟨g, o + 0, none⟩ = some (.int .i64 a) := hx 0 (by simp)
    have c1 : w.cell? ⟨g, o + 1, none⟩ = some (.int .i64 b) := hx 1 (by simp)
    rw [Nat.add_zero] at c0
    have ha := fun W => in_any a 0 11 W
    have hb' := fun W => in_any b 0 11 W
    clear hx hm h2
    have HP : Bx (pairB [a, b] = (inB a 0 11 && (inB b 0 11 && decide (a ≠ b)))) := Bx.mk rfl
    simp only [List.length_cons, List.length_nil]
    cases e0 : inB a 0 11
    · rw [e0] at ha
      have HE : Bx (pairB [a, b] = false) := Bx.mk (by rw [HP.out, e0]; rfl)
      clear e0 HP
      go_enter Try.func94, Try.ntmps94
      go_wp2_with (fail)
      go_quiet (first | (go_at_call 65; with_reducible exact quiet_eq (ha _)) | (go_at_call 65; with_reducible exact quiet_eq (hb' _)))
      go_wp2_with (fail)
      go_ret
      exact ⟨ret_bool HE.out.symm, _, rfl⟩
    · rw [e0] at ha
      cases e1 : inB b 0 11
      · rw [e1] at hb'
        have HE : Bx (pairB [a, b] = false) := Bx.mk (by rw [HP.out, e0, e1]; rfl)
        clear e0 e1 HP
        go_enter Try.func94, Try.ntmps94
        go_wp2_with (fail)
        go_quiet (first | (go_at_call 65; with_reducible exact quiet_eq (ha _)) | (go_at_call 65; with_reducible exact quiet_eq (hb' _)))
        go_wp2_with (fail)
        go_ret
        exact ⟨ret_bool HE.out.symm, _, rfl⟩
      · rw [e1] at hb'
        have HE : Bx (pairB [a, b] = (a != b)) := Bx.mk (by rw [HP.out, e0, e1]; by_cases h : a = b <;> simp [h])
        clear e0 e1 HP
        go_enter Try.func94, Try.ntmps94
        go_wp2_with (fail)
        go_quiet (first | (go_at_call 65; with_reducible exact quiet_eq (ha _)) | (go_at_call 65; with_reducible exact quiet_eq (hb' _)))
        go_wp2_with (fail)
        go_ret
        exact ⟨ret_bool HE.out.symm, _, rfl⟩
  · obtain ⟨A, c, rfl⟩ := ints_form h
    have HE : Bx (pairB p = false) := Bx.mk (by unfold pairB; rw [decide_eq_false h2]; rfl)
    have d0 : ((p.length : Int) == 2) = false := by simp; omega
    clear h h2
    go_enter Try.func94, Try.ntmps94
    go_wp2_with (fail)
    go_quiet (fail)
    go_wp2_with (fail)
    go_ret
    exact ⟨ret_bool HE.out.symm, _, rfl⟩
/-- a raga behind a pointer -/
def PtrAt (w : World) (g : Nat) (R : Rg) : Prop := ∃ xs, BoxN w g xs 32 ∧ RgAt w (.agg xs) R
theorem PtrAt.below {w w' : World} {g : Nat} {R : Rg} (h : PtrAt w g R) (hb : Below w.heap.size w w') : PtrAt w' g R := by
  obtain ⟨xs, h1, h2⟩ := h
  exact ⟨xs, h1.below hb, h2.below hb⟩
theorem ptr_form {w : World} {g : Nat} {R : Rg} (h : PtrAt w g R) : ∃ A a B b C c, BoxN w g #[.string R.s, .slice A R.u.length a, .slice B R.d.length b, .int .i64 R.x, .int .i64 R.y, .slice C R.f.length c] 32 ∧ IntsAt w (.slice A R.u.length a) R.u ∧ IntsAt w (.slice B R.d.length b) R.d ∧ RowsAt w (.slice C R.f.length c) R.f := by
  obtain ⟨xs, h1, h2⟩ := h
  obtain ⟨A, a, B, b, C, c, e, i1, i2, i3⟩ := rg_form h2
  injection e with e
  subst e
  exact ⟨A, a, B, b, C, c, h1, i1, i2, i3⟩
theorem spec_tone5 (g : Nat) (R : Rg) (t : Int) (w : World) (h : PtrAt w g R) (hm : Sm R) :
    Calls Try.prog 80 #[.pointer (some ⟨g, 0, none⟩), .int .i64 t] w fun e w' => e = .returned (.bool (hasT R t)) ∧ w = w' := by
  obtain ⟨A, a, B, b, C, c, hx, i1, i2, i3⟩ := ptr_form h
  have h1 := hx.c (k := 1) rfl
  have h2 := hx.c (k := 2) rfl
  have hl := hx.lt
  have q1 := spec_has _ R.u t w i1 (Nat.le_trans hm.u (by decide))
  have q2 := spec_has _ R.d t w i2 (Nat.le_trans hm.d (by decide))
  have HT : Bx (hasT R t = (hasB R.u t || hasB R.d t)) := Bx.mk rfl
  clear h hx i1 i2 i3 hm
  generalize hasB R.u t = b1 at q1 HT
  generalize hasB R.d t = b2 at q2 HT
  cases b1
  · go_enter Try.func80, Try.ntmps80
    go_wp2_with (fail)
    refine q1.mono ?_
    rintro r w1 ⟨rfl, rfl⟩
    go_wp2_with (fail)
    refine q2.mono ?_
    rintro r w1 ⟨rfl, rfl⟩
    go_wp2_with (fail)
    go_ret
    exact ⟨ret_bool HT.out.symm, rfl⟩
  · go_enter Try.func80, Try.ntmps80
    go_wp2_with (fail)
    refine q1.mono ?_
    rintro r w1 ⟨rfl, rfl⟩
    go_wp2_with (fail)
    go_ret
    exact ⟨ret_bool HT.out.symm, rfl⟩
set_option maxHeartbeats 4000000 in
theorem spec_pairs (v : Value) (L : List (List Int)) (w : World) (h : RowsAt w v L) (hm : L.length ≤ 1048576) (hg : ∀ k, k < L.length → (L.getD k []).length ≤ 1048576) :
    Calls Try.prog 81 #[v] w fun e w' => e = .returned (.bool (pairsB L)) ∧ ∃ n, w' = w.drewN n := by
  obtain ⟨A, c, rfl⟩ := rows_form h
  have HI := Bx.mk h
  have HG := Bx.mk hg
  clear h hg
  have hlc : (0 : Int) ≤ (L.length : Int) := by omega
  go_enter Try.func81, Try.ntmps81
  go_wp2_with (fail)
  go_loopw [3] (fun i wr => ∃ k : Nat, k ≤ L.length ∧ i = .int .i64 k ∧ Bx (∀ i, i < k → stepB L i = true) ∧ Bx (∃ n, wr = w.drewN n)) (fun i _ => L.length - (intOf i).toNat)
  case atStart => exact ⟨0, Nat.zero_le _, rfl, Bx.mk (fun i hi => by omega), Bx.mk ⟨0, rfl⟩⟩
  case round =>
    obtain ⟨k, hk, rfl, HK, HW⟩ := hrel
    by_cases hlt : k < L.length
    · obtain ⟨b, o, rfl, _, lb, hx⟩ := rows_at HI.out (by omega)
      have HX : Bx (∀ k, k < L.length → ∃ A' c', wr.cell? ⟨b, o + k, none⟩ = some (.slice A' (L.getD k []).length c') ∧ ∀ m, IntsAt (wr.drewN m) (.slice A' (L.getD k []).length c') (L.getD k [])) := Bx.mk (fun k hk => by
        obtain ⟨A', c', h1, h2⟩ := hx k hk
        obtain ⟨n, rfl⟩ := HW.out
        exact ⟨A', c', h1, fun m => h2⟩)
      clear hx
      obtain ⟨A1, c1, h1, i1⟩ := HX.out k hlt
      have I1 := Bx.mk i1
      have hp1 := spec_pair _ _ wr (I1.out 0) (HG.out k hlt)
      have x1 : (0 : Int) ≤ (k : Int) := by omega
      have x2 : (k : Int) < (L.length : Int) := by omega
      cases hr : pairB (L.getD k [])
      · have HN : Bx (pairsB L = false) := Bx.mk (pairs_no k hlt (by unfold stepB; rw [hr]; rfl))
        rw [hr] at hp1
        clear hr HK i1 I1 HX HG HI
        generalize (L.getD k []).length = n at *
        go_wp2_with (fail)
        refine hp1.mono ?_
        rintro r w1 ⟨rfl, n1, rfl⟩
        go_wp2_with (fail)
        go_ret
        exact ⟨ret_bool HN.out.symm, by first | exact drew_more HW.out _ | exact drew_more (drew_more HW.out _) _⟩
      · rw [hr] at hp1
        obtain ⟨a1, b1, e1, r1, r2, r3⟩ := pair_yes hr
        cases k with
        | zero =>
          have HS : Bx (∀ i, i < 1 → stepB L i = true) := Bx.mk (fun i hi => by obtain rfl : i = 0 := (by omega); unfold stepB; rw [hr]; rfl)
          clear hr HK i1 I1 HX HG HI e1
          simp only [Nat.add_zero] at h1
          generalize (L.getD 0 []).length = n at *
          go_wp2_with (fail)
          refine hp1.mono ?_
          rintro r w1 ⟨rfl, n1, rfl⟩
          have x3 : decide ((0 : Int) > 0) = false := by decide
          go_wp2_with (fail)
          go_quiet (fail)
          go_wp2_with (fail)
          go_roundw
          case rel => exact ⟨1, by omega, by go_num, HS, Bx.mk (drew_more HW.out _)⟩
          case measure => simp [intOf]; omega
        | succ j =>
          obtain ⟨A2, c2, h2, i2⟩ := HX.out j (by omega)
          have hs0 := HK.out j (by omega)
          obtain ⟨a2, b2, e2, _⟩ := pair_yes (show pairB (L.getD j []) = true by unfold stepB at hs0; rw [Bool.and_eq_true] at hs0; exact hs0.1)
          have HSt : Bx (stepB L (j + 1) = decide (a2 < a1 ∨ (a2 = a1 ∧ b2 < b1))) := Bx.mk (by
            unfold stepB
            rw [hr, Nat.add_sub_cancel, e1, e2]
            simp [lessP])
          have HSb : Bx (stepB L (j + 1) = true → ∀ i, i < j + 1 + 1 → stepB L i = true) := Bx.mk (fun h i hi => by
            by_cases hij : i < j + 1
            · exact HK.out i hij
            · obtain rfl : i = j + 1 := (by omega)
              exact h)
          rw [e1] at i1 h1 hp1
          rw [e2] at i2 h2
          obtain ⟨b', o', cc1, hv1, lb', hc1⟩ := (i1 0).form (by simp)
          obtain ⟨b'', o'', cc2, hv2, lb'', hc2⟩ := (i2 0).form (by simp)
          injection hv1 with hA1 _ hC1
          injection hv2 with hA2 _ hC2
          subst hA1 hA2 hC1 hC2
          have p0 : wr.cell? ⟨b', o', none⟩ = some (.int .i64 a1) := by have := hc1 0 (by simp); simpa using this
          have p1 : wr.cell? ⟨b', o' + 1, none⟩ = some (.int .i64 b1) := by have := hc1 1 (by simp); simpa using this
          have q0 : wr.cell? ⟨b'', o'', none⟩ = some (.int .i64 a2) := by have := hc2 0 (by simp); simpa using this
          have q1 : wr.cell? ⟨b'', o'' + 1, none⟩ = some (.int .i64 b2) := by have := hc2 1 (by simp); simpa using this
          clear i1 i2 I1 hc1 hc2 HX HG HI HK hs0 hr e1 e2 r1 r2 r3
          have y1 : (0 : Int) ≤ (j : Int) + 1 := by omega
          have y2 : (j : Int) + 1 < (L.length : Int) := by omega
          have y3 : ((j : Int) + 1).toNat = j + 1 := by omega
          have x3 : decide ((j : Int) + 1 > 0) = true := decide_eq_true (by omega)
          have x4 : IntKind.i64.wrap ((j : Int) + 1 - 1) = (j : Int) := by rw [show (j : Int) + 1 - 1 = j by omega]; exact IntWalk.i64_in _ (by omega)
          have x5 : (0 : Int) ≤ (j : Int) := by omega
          have x6 : (j : Int) < (L.length : Int) := by omega
          rcases Int.lt_trichotomy a2 a1 with h | h | h
          · have z1 : decide (a2 > a1) = false := decide_eq_false (by omega)
            have z2 : (a2 == a1) = false := by simp; omega
            have HS := Bx.mk (HSb.out (HSt.out.trans (decide_eq_true (by omega))))
            clear HSt HSb h
            go_wp2_with (fail)
            refine hp1.mono ?_
            rintro r w1 ⟨rfl, n1, rfl⟩
            go_wp2_with (fail)
            go_quiet (fail)
            go_wp2_with (fail)
            go_roundw
            case rel => exact ⟨j + 1 + 1, by omega, by go_num, HS, Bx.mk (drew_more HW.out _)⟩
            case measure => simp [intOf]; omega
          · subst h
            have z1 : decide (a2 > a2) = false := decide_eq_false (by omega)
            have z2 : (a2 == a2) = true := by simp
            by_cases h : b2 < b1
            · have z3 : decide (b2 ≥ b1) = false := decide_eq_false (by omega)
              have HS := Bx.mk (HSb.out (HSt.out.trans (decide_eq_true (by omega))))
              clear HSt HSb h
              go_wp2_with (fail)
              refine hp1.mono ?_
              rintro r w1 ⟨rfl, n1, rfl⟩
              go_wp2_with (fail)
              go_quiet (fail)
              go_wp2_with (fail)
              go_roundw
              case rel => exact ⟨j + 1 + 1, by omega, by go_num, HS, Bx.mk (drew_more HW.out _)⟩
              case measure => simp [intOf]; omega
            · have z3 : decide (b2 ≥ b1) = true := decide_eq_true (by omega)
              have HN : Bx (pairsB L = false) := Bx.mk (pairs_no (j + 1) hlt (HSt.out.trans (decide_eq_false (by omega))))
              clear HSt HSb h
              go_wp2_with (fail)
              refine hp1.mono ?_
              rintro r w1 ⟨rfl, n1, rfl⟩
              go_wp2_with (fail)
              go_quiet (fail)
              go_wp2_with (fail)
              go_ret
              exact ⟨ret_bool HN.out.symm, by first | exact drew_more HW.out _ | exact drew_more (drew_more HW.out _) _⟩
          · have z1 : decide (a2 > a1) = true := decide_eq_true (by omega)
            have HN : Bx (pairsB L = false) := Bx.mk (pairs_no (j + 1) hlt (HSt.out.trans (decide_eq_false (by omega))))
            clear HSt HSb h
            go_wp2_with (fail)
            refine hp1.mono ?_
            rintro r w1 ⟨rfl, n1, rfl⟩
            go_wp2_with (fail)
            go_quiet (fail)
            go_wp2_with (fail)
            go_ret
            exact ⟨ret_bool HN.out.symm, by first | exact drew_more HW.out _ | exact drew_more (drew_more HW.out _) _⟩
    · obtain rfl : k = L.length := by omega
      have HE : Bx (pairsB L = decide (L.length ≤ 8)) := Bx.mk (pairs_all HK.out)
      go_wp2_with (fail)
      go_ret
      exact ⟨ret_bool (by rw [HE.out, decide_eq_decide]; omega), HW.out⟩
end Go.Proofs.Ytobhmoohalkijaa
