/- Scales: validity, places and equal lists, by the program. -/
import Derived.Test.YtljegggpgafkiaaIm
namespace Go.Proofs.Ytljegggpgafkiaa
open Go.ChangeShapes Go.WideShapes Go.ChangeAt Go.RowKit
set_option linter.unusedVariables false
set_option linter.unusedSimpArgs false
set_option maxRecDepth 100000

theorem scale_mk {zs : List Int} (h5 : 5 ≤ zs.length) (h0 : zs.getD 0 0 = 0) (hr : ∀ i, i + 1 < zs.length → zs.getD i 0 < zs.getD (i + 1) 0) (hl : 0 ≤ zs.getD (zs.length - 1) 0 ∧ zs.getD (zs.length - 1) 0 ≤ 11) : scaleB zs = true := by
  have up : ∀ i, i < zs.length → 0 ≤ zs.getD i 0 := by
    intro i
    induction i with
    | zero => intro _; rw [h0]; exact Int.le_refl _
    | succ i ih => intro hi; have := ih (by omega); have := hr i hi; omega
  have dn : ∀ d i, i + d = zs.length - 1 → zs.getD i 0 ≤ 11 := by
    intro d
    induction d with
    | zero => intro i hi; rw [show i = zs.length - 1 by omega]; exact hl.2
    | succ d ih => intro i hi; have h1 := ih (i + 1) (by omega); have := hr i (by omega); omega
  have hri : riseB 0 11 zs = true := rise_yes (fun i hi => ⟨⟨up i hi, dn (zs.length - 1 - i) i (by omega)⟩, fun h => by
    obtain ⟨j, rfl⟩ : ∃ j, i = j + 1 := ⟨i - 1, by omega⟩
    exact hr j hi⟩)
  unfold scaleB
  rw [h0, hri]
  simpa using h5
set_option maxHeartbeats 1000000 in
theorem impl_scale (v : Value) (zs : List Int) (w : World) (h : IntsAt w v zs) (hm : zs.length ≤ 281474976710656) :
    Calls Try.prog 29 #[v] w fun e w' => e = .returned (.bool (scaleB zs)) ∧ ∃ n, w' = w.drewN n := by
  by_cases h5 : 5 ≤ zs.length
  · have hit := impl_istone
    obtain ⟨b, o, c, rfl, hb, hc⟩ := h.form (by omega)
    have h0 := hc 0 (by omega)
    rw [Nat.add_zero] at h0
    have HC := Bx.mk hc
    have x1 : decide ((zs.length : Int) < 5) = false := decide_eq_false (by omega)
    have x2 : (0 : Int) < (zs.length : Int) := by omega
    clear h hc
    by_cases hz : zs.getD 0 0 = 0
    · have HM := Bx.mk (fun hr hl => scale_mk h5 hz hr hl)
      have HN : Bx (∀ i, i + 1 < zs.length → ¬ zs.getD i 0 < zs.getD (i + 1) 0 → scaleB zs = false) := Bx.mk (fun i hi hn => by
        apply Bool.eq_false_iff.2
        intro hs
        exact hn ((rise_all (scale_yes hs).2.1 (i + 1) hi).2 (by omega)))
      have HL : Bx (inB (zs.getD (zs.length - 1) 0) 0 11 = false → scaleB zs = false) := Bx.mk (fun hn => by
        apply Bool.eq_false_iff.2
        intro hs
        rw [inB_mk (scale_in hs (zs.length - 1) (by omega))] at hn
        cases hn)
      have y1 : (zs.getD 0 0 != 0) = false := by simpa using hz
      rw [hz] at h0
      clear hz y1
      go_enter Try.func29, Try.ntmps29
      go_wp2_with (fail)
      go_loopw [16] (fun i wr => ∃ k n : Nat, k + 1 ≤ zs.length ∧ i = .int .i64 k ∧ Bx (∀ i, i < k → zs.getD i 0 < zs.getD (i + 1) 0) ∧ Bx (wr = w.drewN n)) (fun i _ => zs.length - (intOf i).toNat)
      case atStart => exact ⟨0, 0, by omega, rfl, Bx.mk (fun i hi => by omega), Bx.mk rfl⟩
      case round =>
        obtain ⟨k, n, hk, rfl, HK, HW⟩ := hrel
        by_cases hlt : k + 1 < zs.length
        · have h1 : wr.cell? ⟨b, o + k, none⟩ = some (.int .i64 (zs.getD k 0)) := by rw [HW.out]; exact HC.out k (by omega)
          have h2 : wr.cell? ⟨b, o + (k + 1), none⟩ = some (.int .i64 (zs.getD (k + 1) 0)) := by rw [HW.out]; exact HC.out (k + 1) hlt
          have k0 : (0 : Int) ≤ (k : Int) := by omega
          have k1 : (k : Int) < (zs.length : Int) := by omega
          have k2 : (0 : Int) ≤ (k : Int) + 1 := by omega
          have k3 : (k : Int) + 1 < (zs.length : Int) := by omega
          have k4 : ((k : Int) + 1).toNat = k + 1 := by omega
          have k5 : (k : Int) < (zs.length : Int) - 1 := by omega
          have E1 : IntKind.i64.wrap ((k : Int) + 1) = (k : Int) + 1 := IntWalk.i64_in _ (by omega)
          have E2 : IntKind.i64.wrap ((zs.length : Int) - 1) = (zs.length : Int) - 1 := IntWalk.i64_in _ (by omega)
          by_cases hr : zs.getD k 0 < zs.getD (k + 1) 0
          · have HS : Bx (∀ i, i < k + 1 → zs.getD i 0 < zs.getD (i + 1) 0) := Bx.mk (fun i hi => by
              by_cases hij : i < k
              · exact HK.out i hij
              · obtain rfl : i = k := (by omega); exact hr)
            have x7 : decide (zs.getD k 0 ≥ zs.getD (k + 1) 0) = false := decide_eq_false (by omega)
            clear HK HN HL HM
            generalize zs.getD (k + 1) 0 = y at *
            generalize zs.getD k 0 = x at *
            go_wp2_with (fail)
            go_quiet (fail)
            go_wp2_with (fail)
            go_roundw
            case rel => exact ⟨k + 1, _, by omega, by go_num, HS, Bx.mk (by rw [HW.out, World.drewN_drewN])⟩
            case measure => simp [intOf]; omega
          · have HF := Bx.mk (HN.out k hlt (by omega))
            have x7 : decide (zs.getD k 0 ≥ zs.getD (k + 1) 0) = true := decide_eq_true (by omega)
            clear HK HN HL HM hr
            generalize zs.getD (k + 1) 0 = y at *
            generalize zs.getD k 0 = x at *
            go_wp2_with (fail)
            go_quiet (fail)
            go_wp2_with (fail)
            go_ret
            exact ⟨ret_bool HF.out.symm, _, by rw [HW.out, World.drewN_drewN]⟩
        · obtain ⟨m, hm1⟩ : ∃ m : Nat, zs.length = m + 1 := ⟨zs.length - 1, by omega⟩
          obtain rfl : k = m := by omega
          have h1 : wr.cell? ⟨b, o + k, none⟩ = some (.int .i64 (zs.getD k 0)) := by rw [HW.out]; exact HC.out k (by omega)
          have k0 : (0 : Int) ≤ (k : Int) := by omega
          have k1 : (k : Int) < (zs.length : Int) := by omega
          have k5 : ¬ ((k : Int) < (zs.length : Int) - 1) := by omega
          have E2 : (zs.length : Int) - 1 = (k : Int) := by omega
          have HE2 := Bx.mk E2
          have HZ : Bx (zs.length - 1 = k) := Bx.mk (by omega)
          have E3 : IntKind.i64.wrap ((zs.length : Int) - 1) = (k : Int) := by rw [IntWalk.i64_in _ (by omega)]; exact E2
          have hti := fun W => hit (zs.getD k 0) W
          have HF : Bx (inB (zs.getD k 0) 0 11 = scaleB zs) := Bx.mk (by
            cases hi : inB (zs.getD k 0) 0 11
            · exact (HL.out (by rw [HZ.out]; exact hi)).symm
            · exact (HM.out (fun i hi => HK.out i (by omega)) (by rw [HZ.out]; exact inB_yes hi)).symm)
          rw [HF.out] at hti
          clear HK HN HL HM HF hit hlt hk h5 x2
          generalize zs.getD k 0 = x at *
          generalize ht : scaleB zs = t at hti
          have HT := Bx.mk ht
          clear ht
          go_wp2_with (fail)
          refine (hti _).mono ?_
          rintro e w' ⟨rfl, rfl⟩
          go_wp2_with (fail)
          go_ret
          exact ⟨ret_bool HT.out.symm, n, HW.out⟩
    · have HE : Bx (scaleB zs = false) := Bx.mk (by
        apply Bool.eq_false_iff.2
        intro hs
        exact hz (scale_yes hs).2.2)
      have y1 : (zs.getD 0 0 != 0) = true := by simpa using hz
      clear hz
      generalize zs.getD 0 0 = z at *
      go_enter Try.func29, Try.ntmps29
      go_wp2_with (fail)
      go_ret
      exact ⟨ret_bool HE.out.symm, 0, rfl⟩
  · have HE : Bx (scaleB zs = false) := Bx.mk (by simp [scaleB]; intro h; omega)
    obtain ⟨A, c, rfl⟩ := h.len
    have x1 : decide ((zs.length : Int) < 5) = true := decide_eq_true (by omega)
    clear h
    go_enter Try.func29, Try.ntmps29
    go_wp2_with (fail)
    go_ret
    exact ⟨ret_bool HE.out.symm, 0, rfl⟩
set_option maxHeartbeats 1000000 in
theorem impl_at (v : Value) (zs : List Int) (t : Int) (w : World) (h : IntsAt w v zs) (hm : zs.length ≤ 281474976710656) :
    Calls Try.prog 31 #[v, .int .i64 t] w fun e w' => e = .returned (.int .i64 (idxZ zs t)) ∧ w = w' := by
  rcases Nat.eq_zero_or_pos zs.length with h0 | h0
  · obtain ⟨A, c, rfl⟩ := h.len
    have HN : Bx (idxZ zs t = -1) := Bx.mk (by exact idx_miss (fun i hi => by omega))
    have x1 : (zs.length : Int) = 0 := by omega
    rw [h0]
    clear h
    go_enter Try.func31, Try.ntmps31
    go_wp2_with (fail)
    go_loop [8] (fun i => i = .int .i64 0) (fun _ => 0)
    case atStart => rfl
    case round =>
      obtain rfl := hrel
      go_wp2_with (fail)
      go_ret
      exact ⟨ret_int HN.out.symm, rfl⟩
  · obtain ⟨b, o, c, rfl, hb, hc⟩ := h.form h0
    have HC := Bx.mk hc
    clear h hc
    go_enter Try.func31, Try.ntmps31
    go_wp2_with (fail)
    go_loop [8] (fun i => ∃ k : Nat, k ≤ zs.length ∧ i = .int .i64 k ∧ Bx (∀ i, i < k → zs.getD i 0 ≠ t)) (fun i => zs.length - (intOf i).toNat)
    case atStart => exact ⟨0, Nat.zero_le _, rfl, Bx.mk (fun i hi => by omega)⟩
    case round =>
      obtain ⟨k, hk, rfl, HK⟩ := hrel
      by_cases hlt : k < zs.length
      · have h1 : w.cell? ⟨b, o + k, none⟩ = some (.int .i64 (zs.getD k 0)) := HC.out k hlt
        have x1 : (0 : Int) ≤ (k : Int) := by omega
        have x2 : (k : Int) < (zs.length : Int) := by omega
        by_cases he : zs.getD k 0 = t
        · have HN : Bx (idxZ zs t = k) := Bx.mk (by exact idx_hit k hlt he HK.out)
          have y1 : (t == zs.getD k 0) = true := by simpa using he.symm
          clear HK he
          generalize zs.getD k 0 = z at *
          go_wp2_with (fail)
          go_ret
          exact ⟨ret_int HN.out.symm, rfl⟩
        · have HS : Bx (∀ i, i < k + 1 → zs.getD i 0 ≠ t) := Bx.mk (fun i hi => by
            by_cases hij : i < k
            · exact HK.out i hij
            · obtain rfl : i = k := (by omega); exact he)
          have y1 : (t == zs.getD k 0) = false := by simpa using fun e => he (Eq.symm e)
          clear HK he
          generalize zs.getD k 0 = z at *
          go_wp2_with (fail)
          go_round
          case rel => exact ⟨k + 1, by omega, by go_num, HS⟩
          case measure => simp [intOf]; omega
      · obtain rfl : k = zs.length := by omega
        have HN : Bx (idxZ zs t = -1) := Bx.mk (by exact idx_miss HK.out)
        go_wp2_with (fail)
        go_ret
        exact ⟨ret_int HN.out.symm, rfl⟩
set_option maxHeartbeats 1000000 in
theorem impl_same (va vb : Value) (xs ys : List Int) (w : World) (ha : IntsAt w va xs) (hb : IntsAt w vb ys) (hx : xs.length ≤ 281474976710656) (hy : ys.length ≤ 281474976710656) :
    Calls Try.prog 44 #[va, vb] w fun e w' => e = .returned (.bool (decide (xs = ys))) ∧ ∃ n, w' = w.drewN n := by
  by_cases hl : xs.length = ys.length
  · rcases ha with ⟨rfl, A, c, rfl⟩ | ⟨b1, o1, c1, rfl, _, h1⟩
    · have hy0 : ys = [] := List.eq_nil_of_length_eq_zero hl.symm
      subst hy0
      obtain ⟨B, c', rfl⟩ : ∃ B c', vb = .slice B 0 c' := by
        rcases hb with ⟨_, B, c', h⟩ | ⟨b, o, c', h, _⟩
        · exact ⟨B, c', h⟩
        · exact ⟨_, c', h⟩
      clear hb hl hx hy
      go_enter Try.func44, Try.ntmps44
      go_wp2
      refine wp_loop_rounds 1 ?_
      rw [rounds_succ]
      go_wp2
      go_ret
      exact ⟨ret_bool (by simp), 0, rfl⟩
    · rcases hb with ⟨rfl, B, c', rfl⟩ | ⟨b2, o2, c2, rfl, _, h2⟩
      · have hx0 : xs = [] := List.eq_nil_of_length_eq_zero hl
        subst hx0
        clear hl hx hy h1
        go_enter Try.func44, Try.ntmps44
        go_wp2
        refine wp_loop_rounds 1 ?_
        rw [rounds_succ]
        go_wp2
        go_ret
        exact ⟨ret_bool (by simp), 0, rfl⟩
      · have H1 := Bx.mk h1
        have H2 := Bx.mk h2
        have HL := Bx.mk hl
        have hle : ((xs.length : Int) != (ys.length : Int)) = false := by simp; omega
        clear h1 h2 hl
        go_enter Try.func44, Try.ntmps44
        go_wp2
        go_loopw [13] (fun i wr => ∃ k n : Nat, k ≤ xs.length ∧ i = .int .i64 k ∧ Bx (xs.take k = ys.take k) ∧ wr = w.drewN n) (fun i _ => xs.length - (intOf i).toNat)
        case atStart => exact ⟨0, 0, Nat.zero_le _, rfl, Bx.mk rfl, rfl⟩
        case round =>
          obtain ⟨k, n, hk, rfl, HK, rfl⟩ := hrel
          by_cases hlt : k < xs.length
          · have hlt2 : k < ys.length := by have := HL.out; omega
            have c1 := H1.out k hlt
            have c2 := H2.out k hlt2
            have HS := Bx.mk (take_eq_succ xs ys k hlt hlt2 HK.out)
            have HT := Bx.mk (take_ne xs ys k hlt hlt2)
            generalize xs.getD k 0 = p at c1 HS HT
            generalize ys.getD k 0 = q at c2 HS HT
            by_cases hpq : p = q
            · subst hpq
              have HS2 := Bx.mk (HS.out rfl)
              clear HS HT
              go_wp2
              go_quiet (fail)
              go_wp2
              go_roundw
              case rel => exact ⟨k + 1, _, by omega, by go_num, HS2, rfl⟩
              case measure => simp [intOf]; omega
            · have hne : (p != q) = true := by simpa using hpq
              have HT2 := Bx.mk (HT.out hpq)
              clear HS HT hpq
              go_wp2
              go_quiet (fail)
              go_wp2
              go_ret
              exact ⟨ret_bool (by simpa using HT2.out), n + nq, by rw [World.drewN_drewN]⟩
          · have HE : Bx (xs = ys) := Bx.mk (by have := HK.out; rwa [List.take_of_length_le (by omega), List.take_of_length_le (by have := HL.out; omega)] at this)
            go_wp2
            go_ret
            exact ⟨ret_bool (by simpa using HE.out), _, rfl⟩
  · have hle : ((xs.length : Int) != (ys.length : Int)) = true := by simp; omega
    have HN : Bx (xs ≠ ys) := Bx.mk (by rintro rfl; exact hl rfl)
    obtain ⟨A, c, rfl⟩ : ∃ A c, va = .slice A xs.length c := by
      rcases ha with ⟨rfl, A, c, h⟩ | ⟨b, o, c, h, _⟩
      · exact ⟨A, c, h⟩
      · exact ⟨_, c, h⟩
    obtain ⟨B, c', rfl⟩ : ∃ B c, vb = .slice B ys.length c := by
      rcases hb with ⟨rfl, A, c, h⟩ | ⟨b, o, c, h, _⟩
      · exact ⟨A, c, h⟩
      · exact ⟨_, c, h⟩
    clear ha hb hl
    go_enter Try.func44, Try.ntmps44
    go_wp2
    go_ret
    exact ⟨ret_bool (by simpa using HN.out), 0, rfl⟩
end Go.Proofs.Ytljegggpgafkiaa
