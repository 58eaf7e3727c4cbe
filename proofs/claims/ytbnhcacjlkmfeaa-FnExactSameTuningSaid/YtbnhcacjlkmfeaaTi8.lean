/- The program's SameTuning. -/
import Derived.Test.YtbnhcacjlkmfeaaTu15
import Derived.Test.YtbnhcacjlkmfeaaTuLaw
namespace Go.Proofs.Ytbnhcacjlkmfeaa
open Go.ChangeShapes Go.WideShapes Go.ChangeAt Go.RowKit
set_option linter.unusedVariables false
set_option linter.unusedSimpArgs false
set_option maxRecDepth 100000

set_option maxHeartbeats 2000000 in
theorem impl_eqrats (va vb : Value) (xs ys : List (Int × Int)) (w : World) (ha : PrsAt w va xs) (hb : PrsAt w vb ys) (hx : xs.length ≤ 281474976710656) (hy : ys.length ≤ 281474976710656) :
    Calls Try.prog 36 #[va, vb] w fun e w' => e = .returned (.bool (decide (xs = ys))) ∧ Below w.heap.size w w' := by
  by_cases hl : xs.length = ys.length
  · rcases ha with ⟨rfl, A, c, rfl⟩ | ⟨b1, o1, c1, rfl, l1, h1⟩
    · have hy0 : ys = [] := List.eq_nil_of_length_eq_zero hl.symm
      subst hy0
      obtain ⟨B, c', rfl⟩ := prs_len hb
      clear hb hl hx hy
      go_enter Try.func36, Try.ntmps36
      go_wp2
      refine wp_loop_rounds 1 ?_
      rw [rounds_succ]
      go_wp2
      go_ret
      exact ⟨ret_bool (by simp), Below.refl _ _⟩
    · rcases hb with ⟨rfl, B, c', rfl⟩ | ⟨b2, o2, c2, rfl, l2, h2⟩
      · have hx0 : xs = [] := List.eq_nil_of_length_eq_zero hl
        subst hx0
        clear hl hx hy h1
        go_enter Try.func36, Try.ntmps36
        go_wp2
        refine wp_loop_rounds 1 ?_
        rw [rounds_succ]
        go_wp2
        go_ret
        exact ⟨ret_bool (by simp), Below.refl _ _⟩
      · have H1 := Bx.mk h1
        have H2 := Bx.mk h2
        have HL := Bx.mk hl
        have hle : ((xs.length : Int) != (ys.length : Int)) = false := by simp; omega
        clear h1 h2 hl
        go_enter Try.func36, Try.ntmps36
        go_wp2_with (fail)
        go_loopw [13] (fun i wr => ∃ k : Nat, k ≤ xs.length ∧ i = .int .i64 k ∧ Bx (xs.take k = ys.take k) ∧ Bx (Below w.heap.size w wr)) (fun i _ => xs.length - (intOf i).toNat)
        case atStart => exact ⟨0, Nat.zero_le _, rfl, Bx.mk rfl, Bx.mk (Below.refl _ _)⟩
        case round =>
          obtain ⟨k, hk, rfl, HK, HW⟩ := hrel
          by_cases hlt : k < xs.length
          · have hlt2 : k < ys.length := by have := HL.out; omega
            have c1 := (HW.out.cell (p := ⟨b1, o1 + k * 2, none⟩) l1).trans (H1.out k hlt).1
            have c2 := (HW.out.cell (p := ⟨b1, o1 + k * 2 + 1, none⟩) l1).trans (H1.out k hlt).2
            have d1 := (HW.out.cell (p := ⟨b2, o2 + k * 2, none⟩) l2).trans (H2.out k hlt2).1
            have d2 := (HW.out.cell (p := ⟨b2, o2 + k * 2 + 1, none⟩) l2).trans (H2.out k hlt2).2
            have HS := Bx.mk (ptake_succ xs ys k hlt hlt2 HK.out)
            have HT := Bx.mk (ptake_ne xs ys k)
            generalize pat xs k = p at c1 c2 HS HT
            generalize pat ys k = q at d1 d2 HS HT
            obtain ⟨p1, p2⟩ := p
            obtain ⟨q1, q2⟩ := q
            have z1 : (k : Int) < (xs.length : Int) := by omega
            have z2 : (k : Int) < (ys.length : Int) := by omega
            by_cases hpq : p1 = q1 ∧ p2 = q2
            · obtain ⟨rfl, rfl⟩ := hpq
              have HS2 := Bx.mk (HS.out rfl)
              clear HS HT
              go_wp2_with (fail)
              go_quiet (fail)
              go_wp2_with (fail)
              go_roundw
              case rel => exact ⟨k + 1, by omega, by go_num, HS2, Bx.mk (below_draws HW.out _)⟩
              case measure => simp [intOf]; omega
            · have HT2 : Bx (decide (xs = ys) = false) := Bx.mk (decide_eq_false (HT.out (by simpa [Prod.ext_iff] using hpq)))
              by_cases hp1 : p1 = q1
              · subst hp1
                have hp2 : p2 ≠ q2 := fun h => hpq ⟨rfl, h⟩
                have e1 : (p2 == q2) = false := by simpa using hp2
                have e2 : (p2 != q2) = true := by simpa using hp2
                have e3 : decide (p2 = q2) = false := decide_eq_false hp2
                clear HS HT hpq
                go_wp2_with (fail)
                go_quiet (fail)
                go_wp2_with (fail)
                go_ret
                exact ⟨ret_bool HT2.out.symm, below_draws HW.out _⟩
              · have e1 : (p1 == q1) = false := by simpa using hp1
                have e2 : (p1 != q1) = true := by simpa using hp1
                have e3 : decide (p1 = q1) = false := decide_eq_false hp1
                clear HS HT hpq
                go_wp2_with (fail)
                go_quiet (fail)
                go_wp2_with (fail)
                go_ret
                exact ⟨ret_bool HT2.out.symm, below_draws HW.out _⟩
          · have HE : Bx (xs = ys) := Bx.mk (by have := HK.out; rwa [List.take_of_length_le (by omega), List.take_of_length_le (by have := HL.out; omega)] at this)
            go_wp2_with (fail)
            go_ret
            exact ⟨ret_bool (by simpa using HE.out), HW.out⟩
  · have hle : ((xs.length : Int) != (ys.length : Int)) = true := by simp; omega
    have HN : Bx (xs ≠ ys) := Bx.mk (by rintro rfl; exact hl rfl)
    obtain ⟨A, c, rfl⟩ := prs_len ha
    obtain ⟨B, c', rfl⟩ := prs_len hb
    clear ha hb hl
    go_enter Try.func36, Try.ntmps36
    go_wp2
    go_ret
    exact ⟨ret_bool (by simpa using HN.out), Below.refl _ _⟩
set_option maxHeartbeats 1000000 in
theorem impl_sametuning (s t : ByteArray) (va vb : Value) (xs ys : List (Int × Int)) (w : World) (ha : PrsAt w va xs) (hb : PrsAt w vb ys) (hx : xs.length ≤ 281474976710656) (hy : ys.length ≤ 281474976710656) :
    Calls Try.prog 16 #[tun s va, tun t vb] w fun e w' => e = .returned (.bool (decide (s = t ∧ xs = ys))) ∧ Below w.heap.size w w' := by
  have hq := fun W h1 h2 => impl_eqrats va vb xs ys W h1 h2 hx hy
  have HA := Bx.mk ha
  have HB := Bx.mk hb
  obtain ⟨A, c, rfl⟩ := prs_len ha
  obtain ⟨B, c', rfl⟩ := prs_len hb
  unfold tun
  clear ha hb hx hy
  by_cases hst : s = t
  · have HE : decide (s = t ∧ xs = ys) = decide (xs = ys) := by simp [hst]
    rw [HE]
    clear HE
    subst hst
    generalize decide (xs = ys) = r at hq ⊢
    go_enter Try.func16, Try.ntmps16
    go_wp2_with (fail)
    refine (hq _ (HA.out.below (((Below.refl _ _).alloc (Nat.le_refl _) _).alloc (by simp) _)) (HB.out.below (((Below.refl _ _).alloc (Nat.le_refl _) _).alloc (by simp) _))).mono ?_
    rintro e w1 ⟨rfl, hb1⟩
    have B1 : Bx (Below w.heap.size w w1) := Bx.mk ((((Below.refl _ _).alloc (Nat.le_refl _) _).alloc (by simp) _).trans (hb1.mono (by simp; omega)))
    clear hb1
    go_wp2_with (fail)
    go_ret
    exact ⟨rfl, B1.out⟩
  · have HE : decide (s = t ∧ xs = ys) = false := by simp [hst]
    rw [HE]
    have h0 : (s.toList == t.toList) = false := by
      rw [ByteArray.toList_eq, ByteArray.toList_eq]
      simp only [beq_eq_false_iff_ne]
      intro h; apply hst
      cases s; cases t; simp_all
    clear HE hq
    go_enter Try.func16, Try.ntmps16
    go_wp2_with (fail)
    go_ret
    exact ⟨rfl, ((Below.refl _ _).alloc (Nat.le_refl _) _).alloc (by simp) _⟩
end Go.Proofs.Ytbnhcacjlkmfeaa
