/- The model's SameTuning. -/
import Derived.Test.YtbnhcacjlkmfeaaTu6
namespace Go.Proofs.Ytbnhcacjlkmfeaa
open Go.ChangeShapes Go.WideShapes Go.ChangeAt Go.RowKit
set_option linter.unusedVariables false
set_option linter.unusedSimpArgs false
set_option maxRecDepth 100000

theorem prs_slice6 {w : World} {v : Value} {l : List (Int × Int)} (h : PrsAt w v l) (h0 : 0 < l.length) : ∃ b o c, v = .slice (some ⟨b, o, none⟩) l.length c ∧ b < w.heap.size ∧ ∀ k, k < l.length → w.cell? ⟨b, o + k * 2, none⟩ = some (.int .i64 (pat l k).1) ∧ w.cell? ⟨b, o + k * 2 + 1, none⟩ = some (.int .i64 (pat l k).2) := by
  rcases h with ⟨rfl, _⟩ | h
  · cases h0
  · exact h
set_option maxHeartbeats 2000000 in
theorem spec_sametuning (s t : ByteArray) (va vb : Value) (xs ys : List (Int × Int)) (w : World) (ha : PrsAt w va xs) (hb : PrsAt w vb ys) (hx : xs.length ≤ 281474976710656) (hy : ys.length ≤ 281474976710656) :
    Calls Try.prog 15 #[tun s va, tun t vb] w fun e w' => e = .returned (.bool (decide (s = t ∧ xs = ys))) ∧ Below w.heap.size w w' := by
  have HA := Bx.mk ha
  have HB := Bx.mk hb
  unfold tun
  by_cases hst : s = t
  · have HE : decide (s = t ∧ xs = ys) = decide (xs = ys) := by simp [hst]
    rw [HE]
    clear HE
    subst hst
    by_cases hl : xs.length = ys.length
    · have hle : ((xs.length : Int) != (ys.length : Int)) = false := by simp; omega
      by_cases hz : xs.length = 0
      · obtain rfl := List.eq_nil_of_length_eq_zero hz
        obtain rfl := List.eq_nil_of_length_eq_zero (hl.symm.trans hz)
        obtain ⟨A, c, rfl⟩ := prs_len ha
        obtain ⟨B, c', rfl⟩ := prs_len hb
        clear ha hb hl hz HA HB hx hy hle
        go_enter Try.func15, Try.ntmps15
        go_wp2_with (fail)
        refine wp_loop_rounds 1 ?_
        rw [rounds_succ]
        go_wp2_with (fail)
        go_ret
        refine ⟨ret_bool (by simp), ?_⟩
        repeat' (first | (with_reducible exact Below.refl _ _) | (with_reducible refine Below.alloc ?_ ?_ _) | go_size)
      · obtain ⟨b1, o1, c, rfl, l1, h1⟩ := prs_slice6 ha (by omega)
        obtain ⟨b2, o2, c', rfl, l2, h2⟩ := prs_slice6 hb (by omega)
        have H1 := Bx.mk h1
        have H2 := Bx.mk h2
        have HL := Bx.mk hl
        have HX : Bx (BoxAt ((w.alloc (.cells #[.string s, .slice (some ⟨b1, o1, none⟩) xs.length c] 29)).alloc (.cells #[.string s, .slice (some ⟨b2, o2, none⟩) ys.length c'] 29)) w.heap.size (.string s) (.slice (some ⟨b1, o1, none⟩) xs.length c) 29) := Bx.mk ((BoxAt.at _ _ _ _ _ rfl).alloc _)
        have HY : Bx (BoxAt ((w.alloc (.cells #[.string s, .slice (some ⟨b1, o1, none⟩) xs.length c] 29)).alloc (.cells #[.string s, .slice (some ⟨b2, o2, none⟩) ys.length c'] 29)) (w.heap.size + 1) (.string s) (.slice (some ⟨b2, o2, none⟩) ys.length c') 29) := Bx.mk (BoxAt.at _ _ _ _ _ (by simp))
        have HW : Bx (Below w.heap.size w ((w.alloc (.cells #[.string s, .slice (some ⟨b1, o1, none⟩) xs.length c] 29)).alloc (.cells #[.string s, .slice (some ⟨b2, o2, none⟩) ys.length c'] 29))) := Bx.mk (((Below.refl _ _).alloc (Nat.le_refl _) _).alloc (by simp) _)
        clear ha hb hl h1 h2 HA HB
        go_enter Try.func15, Try.ntmps15
        go_wp2_with (fail)
        generalize (w.alloc (.cells #[.string s, .slice (some ⟨b1, o1, none⟩) xs.length c] 29)).alloc (.cells #[.string s, .slice (some ⟨b2, o2, none⟩) ys.length c'] 29) = W0 at *
        go_loopw [5] (fun i wr => ∃ k : Nat, k ≤ xs.length ∧ i = .int .i64 k ∧ Bx (xs.take k = ys.take k) ∧ Bx (BoxAt wr w.heap.size (.string s) (.slice (some ⟨b1, o1, none⟩) xs.length c) 29) ∧ Bx (BoxAt wr (w.heap.size + 1) (.string s) (.slice (some ⟨b2, o2, none⟩) ys.length c') 29) ∧ Bx (Below w.heap.size w wr)) (fun i _ => xs.length - (intOf i).toNat)
        case atStart => exact ⟨0, Nat.zero_le _, rfl, Bx.mk rfl, HX, HY, HW⟩
        case round =>
          clear HX HY HW
          obtain ⟨k, hk, rfl, HK, HX, HY, HW⟩ := hrel
          have x0 := HX.out.c1
          have y0 := HY.out.c1
          by_cases hlt : k < xs.length
          · have hlt2 : k < ys.length := by have := HL.out; omega
            have c1 := (HW.out.cell (p := ⟨b1, o1 + k * 2, none⟩) l1).trans (H1.out k hlt).1
            have c2 := (HW.out.cell (p := ⟨b1, o1 + k * 2 + 1, none⟩) l1).trans (H1.out k hlt).2
            have d1 := (HW.out.cell (p := ⟨b2, o2 + k * 2, none⟩) l2).trans (H2.out k hlt2).1
            have d2 := (HW.out.cell (p := ⟨b2, o2 + k * 2 + 1, none⟩) l2).trans (H2.out k hlt2).2
            have HS := Bx.mk (ptake_succ xs ys k hlt hlt2 HK.out)
            have HT := Bx.mk (ptake_ne xs ys k)
            generalize pat xs k = p at c1 c2 HS HT
            generalize pat ys k = q at d1 d2 HS HT
            obtain ⟨p1, p2⟩ := p
            obtain ⟨q1, q2⟩ := q
            have z1 : (k : Int) < (xs.length : Int) := by omega
            have z2 : (k : Int) < (ys.length : Int) := by omega
            by_cases hpq : p1 = q1 ∧ p2 = q2
            · obtain ⟨rfl, rfl⟩ := hpq
              have HS2 := Bx.mk (HS.out rfl)
              clear HS HT
              go_wp2_with (fail)
              go_quiet (fail)
              go_wp2_with (fail)
              go_roundw
              case rel => exact ⟨k + 1, by omega, by go_num, HS2, Bx.mk (HX.out.draws _), Bx.mk (HY.out.draws _), Bx.mk (below_draws HW.out _)⟩
              case measure => simp [intOf]; omega
            · have HT2 : Bx (decide (xs = ys) = false) := Bx.mk (decide_eq_false (HT.out (by simpa [Prod.ext_iff] using hpq)))
              by_cases hp1 : p1 = q1
              · subst hp1
                have hp2 : p2 ≠ q2 := fun h => hpq ⟨rfl, h⟩
                have e1 : (p2 == q2) = false := by simpa using hp2
                have e2 : (p2 != q2) = true := by simpa using hp2
                have e3 : decide (p2 = q2) = false := decide_eq_false hp2
                clear HS HT hpq
                go_wp2_with (fail)
                go_quiet (fail)
                go_wp2_with (fail)
                go_ret
                exact ⟨ret_bool HT2.out.symm, below_draws HW.out _⟩
              · have e1 : (p1 == q1) = false := by simpa using hp1
                have e2 : (p1 != q1) = true := by simpa using hp1
                have e3 : decide (p1 = q1) = false := decide_eq_false hp1
                clear HS HT hpq
                go_wp2_with (fail)
                go_quiet (fail)
                go_wp2_with (fail)
                go_ret
                exact ⟨ret_bool HT2.out.symm, below_draws HW.out _⟩
          · have HE : Bx (xs = ys) := Bx.mk (by have := HK.out; rwa [List.take_of_length_le (by omega), List.take_of_length_le (by have := HL.out; omega)] at this)
            go_wp2_with (fail)
            go_ret
            exact ⟨ret_bool (by simpa using HE.out), HW.out⟩
    · have hle : ((xs.length : Int) != (ys.length : Int)) = true := by simp; omega
      have HN : Bx (decide (xs = ys) = false) := Bx.mk (by rw [decide_eq_false_iff_not]; rintro rfl; exact hl rfl)
      obtain ⟨A, c, rfl⟩ := prs_len ha
      obtain ⟨B, c', rfl⟩ := prs_len hb
      clear ha hb hl
      rw [HN.out]
      go_enter Try.func15, Try.ntmps15
      go_wp2_with (fail)
      go_ret
      refine ⟨rfl, ?_⟩
      repeat' (first | (with_reducible exact Below.refl _ _) | (with_reducible assumption) | (with_reducible refine Below.drew ?_) | (with_reducible refine Below.alloc ?_ ?_ _) | (with_reducible refine below_draws ?_ _) | (with_reducible refine Below.setCell ?_ ?_ _) | go_size)
  · have HE : decide (s = t ∧ xs = ys) = false := by simp [hst]
    rw [HE]
    have h0 : (!s.toList == t.toList) = true := by
      rw [ByteArray.toList_eq, ByteArray.toList_eq]
      simp only [Bool.not_eq_true', beq_eq_false_iff_ne]
      intro h; apply hst
      cases s; cases t; simp_all
    obtain ⟨A, c, rfl⟩ := prs_len ha
    obtain ⟨B, c', rfl⟩ := prs_len hb
    clear HE ha hb
    go_enter Try.func15, Try.ntmps15
    go_wp2_with (fail)
    go_ret
    refine ⟨rfl, ?_⟩
    repeat' (first | (with_reducible exact Below.refl _ _) | (with_reducible assumption) | (with_reducible refine Below.drew ?_) | (with_reducible refine Below.alloc ?_ ?_ _) | (with_reducible refine below_draws ?_ _) | (with_reducible refine Below.setCell ?_ ?_ _) | go_size)
end Go.Proofs.Ytbnhcacjlkmfeaa
