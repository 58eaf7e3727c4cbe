/- SameRaga on both sides. -/
import Derived.Test.YtjjiibmbaggjoaaREq
import Derived.Test.YtjjiibmbaggjoaaRk
import Derived.Test.YtjjiibmbaggjoaaSc9
namespace Go.Proofs.Ytjjiibmbaggjoaa
open Go.ChangeShapes Go.WideShapes Go.ChangeAt Go.RowKit
set_option linter.unusedVariables false
set_option linter.unusedSimpArgs false
set_option maxRecDepth 100000

set_option maxHeartbeats 1000000 in
theorem std_eqfunc (va vb : Value) (xs ys : List (List Int)) (w : World) (ha : RowsAt w va xs) (hb : RowsAt w vb ys) (hx : xs.length ≤ 281474976710656) (hy : ys.length ≤ 281474976710656)
    (gx : ∀ k, k < xs.length → (xs.getD k []).length ≤ 281474976710656) (gy : ∀ k, k < ys.length → (ys.getD k []).length ≤ 281474976710656) :
    Calls Try.prog 64 #[va, vb, .func (.func 63) #[] #[]] w fun e w' => e = .returned (.bool (decide (xs = ys))) ∧ ∃ n, w' = w.drewN n := by
  obtain ⟨A, c, rfl⟩ := rows_form ha
  obtain ⟨B, d, rfl⟩ := rows_form hb
  by_cases hl : xs.length = ys.length
  · have HL := Bx.mk hl
    have hle : ((xs.length : Int) != (ys.length : Int)) = false := by simp; omega
    have HA := Bx.mk ha
    have HB := Bx.mk hb
    have GX := Bx.mk gx
    have GY := Bx.mk gy
    clear ha hb hl gx gy
    go_enter Try.func64, Try.ntmps64
    go_wp2
    go_loopw [17] (fun i wr => ∃ k : Nat, k ≤ xs.length ∧ i = .int .i64 k ∧ Bx (xs.take k = ys.take k) ∧ Bx (∃ n, wr = w.drewN n)) (fun i _ => xs.length - (intOf i).toNat)
    case atStart => exact ⟨0, Nat.zero_le _, rfl, Bx.mk rfl, Bx.mk ⟨0, rfl⟩⟩
    case round =>
      obtain ⟨k, hk, rfl, HK, HW⟩ := hrel
      by_cases hlt : k < xs.length
      · have hlt2 : k < ys.length := by have := HL.out; omega
        obtain ⟨b1, o1, rfl, _, l1, H1⟩ := rows_at HA.out (by omega)
        obtain ⟨b2, o2, rfl, _, l2, H2⟩ := rows_at HB.out (by omega)
        obtain ⟨A1, e1, c1, i1⟩ := H1 k hlt
        obtain ⟨A2, e2, c2, i2⟩ := H2 k hlt2
        have c1 : wr.cell? ⟨b1, o1 + k, none⟩ = some (.slice A1 (xs.getD k []).length e1) := by obtain ⟨n, rfl⟩ := HW.out; exact c1
        have c2 : wr.cell? ⟨b2, o2 + k, none⟩ = some (.slice A2 (ys.getD k []).length e2) := by obtain ⟨n, rfl⟩ := HW.out; exact c2
        have hq := impl_same _ _ _ _ wr (by obtain ⟨n, rfl⟩ := HW.out; exact i1) (by obtain ⟨n, rfl⟩ := HW.out; exact i2) (GX.out k hlt) (GY.out k hlt2)
        have HS := Bx.mk (rtake_succ xs ys k hlt hlt2 HK.out)
        have HT := Bx.mk (rtake_ne xs ys k)
        clear i1 i2 H1 H2 HA HB GX GY HK
        generalize xs.getD k [] = p at *
        generalize ys.getD k [] = q at *
        by_cases hpq : p = q
        · have HS2 := Bx.mk (HS.out hpq)
          rw [show decide (p = q) = true from decide_eq_true hpq] at hq
          clear HS HT hpq
          go_wp2_with (fail)
          refine hq.mono ?_
          rintro r w1 ⟨rfl, nq, rfl⟩
          go_wp2_with (fail)
          go_roundw
          case rel => exact ⟨k + 1, by omega, by go_num, HS2, Bx.mk (drmore HW.out _)⟩
          case measure => simp [intOf]; omega
        · have HT2 := Bx.mk (HT.out hpq)
          rw [show decide (p = q) = false from decide_eq_false hpq] at hq
          clear HS HT hpq
          go_wp2_with (fail)
          refine hq.mono ?_
          rintro r w1 ⟨rfl, nq, rfl⟩
          go_wp2_with (fail)
          go_ret
          exact ⟨ret_bool (by simpa using HT2.out), drmore HW.out _⟩
      · have HE : Bx (xs = ys) := Bx.mk (by have := HK.out; rwa [List.take_of_length_le (by omega), List.take_of_length_le (by have := HL.out; omega)] at this)
        go_wp2
        go_ret
        exact ⟨ret_bool (by simpa using HE.out), HW.out⟩
  · have hle : ((xs.length : Int) != (ys.length : Int)) = true := by simp; omega
    have HN : Bx (xs ≠ ys) := Bx.mk (by rintro rfl; exact hl rfl)
    clear ha hb hl
    go_enter Try.func64, Try.ntmps64
    go_wp2
    go_ret
    exact ⟨ret_bool (by simpa using HN.out), 0, rfl⟩
/-- are two ragas the same? -/
def sameG (a b : Rg) : Bool := decide (a.s = b.s ∧ a.u = b.u ∧ a.d = b.d ∧ a.x = b.x ∧ a.y = b.y ∧ a.f = b.f)
theorem str_ne {s t : ByteArray} (h : s ≠ t) : (s.toList == t.toList) = false := by
  rw [ByteArray.toList_eq, ByteArray.toList_eq]
  simp only [beq_eq_false_iff_ne]
  intro e; apply h
  cases s; cases t; simp_all
set_option maxHeartbeats 4000000 in
theorem impl_sameraga (va vb : Value) (Ra Rb : Rg) (w : World) (ha : RgAt w va Ra) (hb : RgAt w vb Rb) (hm : Sm Ra) (hn : Sm Rb) :
    Calls Try.prog 21 #[va, vb] w fun e w' => e = .returned (.bool (sameG Ra Rb)) ∧ Below w.heap.size w w' := by
  obtain ⟨A, a, B, b, C, c, rfl, i1, i2, i3⟩ := rg_form ha
  obtain ⟨A', a', B', b', C', c', rfl, j1, j2, j3⟩ := rg_form hb
  obtain ⟨s1, u1, d1, x1, y1, f1⟩ := Ra
  obtain ⟨s2, u2, d2, x2, y2, f2⟩ := Rb
  obtain ⟨ms, mu, md, mf, mg, _, _⟩ := hm
  obtain ⟨ns, nu, nd, nf, ng, _, _⟩ := hn
  dsimp only at i1 i2 i3 j1 j2 j3 ms mu md mf mg ns nu nd nf ng
  have X0 := (BoxN.at w w.heap.size #[.string s1, .slice A u1.length a, .slice B d1.length b, .int .i64 x1, .int .i64 y1, .slice C f1.length c] 28 rfl).alloc (.cells #[.string s2, .slice A' u2.length a', .slice B' d2.length b', .int .i64 x2, .int .i64 y2, .slice C' f2.length c'] 28)
  have X1 := BoxN.at (w.alloc (.cells #[.string s1, .slice A u1.length a, .slice B d1.length b, .int .i64 x1, .int .i64 y1, .slice C f1.length c] 28)) (w.heap.size + 1) #[.string s2, .slice A' u2.length a', .slice B' d2.length b', .int .i64 x2, .int .i64 y2, .slice C' f2.length c'] 28 (by simp)
  have hb : Below w.heap.size w ((w.alloc (.cells #[.string s1, .slice A u1.length a, .slice B d1.length b, .int .i64 x1, .int .i64 y1, .slice C f1.length c] 28)).alloc (.cells #[.string s2, .slice A' u2.length a', .slice B' d2.length b', .int .i64 x2, .int .i64 y2, .slice C' f2.length c'] 28)) := ((Below.refl _ _).alloc (Nat.le_refl _) _).alloc (by simp) _
  generalize hW : (w.alloc (.cells #[.string s1, .slice A u1.length a, .slice B d1.length b, .int .i64 x1, .int .i64 y1, .slice C f1.length c] 28)).alloc (.cells #[.string s2, .slice A' u2.length a', .slice B' d2.length b', .int .i64 x2, .int .i64 y2, .slice C' f2.length c'] 28) = W at hb X0 X1
  have q1 := impl_same _ _ u1 u2 W (i1.below hb) (j1.below hb) (Nat.le_trans mu (by decide)) (Nat.le_trans nu (by decide))
  have q2 := fun m => impl_same _ _ d1 d2 (W.drewN m) (i2.below (below_draws hb m)) (j2.below (below_draws hb m)) (Nat.le_trans md (by decide)) (Nat.le_trans nd (by decide))
  have q3 := fun m => std_eqfunc _ _ f1 f2 (W.drewN m) (i3.below (below_draws hb m)) (j3.below (below_draws hb m)) (Nat.le_trans mf (by decide)) (Nat.le_trans nf (by decide)) (fun k hk => Nat.le_trans (mg k hk) (by decide)) (fun k hk => Nat.le_trans (ng k hk) (by decide))
  have p0 := X0.c (k := 0) rfl
  have p1 := X0.c (k := 1) rfl
  have p2 := X0.c (k := 2) rfl
  have p3 := X0.c (k := 3) rfl
  have p4 := X0.c (k := 4) rfl
  have p5 := X0.c (k := 5) rfl
  have pl := X0.lt
  have r0 := X1.c (k := 0) rfl
  have r1 := X1.c (k := 1) rfl
  have r2 := X1.c (k := 2) rfl
  have r3 := X1.c (k := 3) rfl
  have r4 := X1.c (k := 4) rfl
  have r5 := X1.c (k := 5) rfl
  have rl := X1.lt
  have HB := Bx.mk hb
  clear ha hb X0 X1 i1 i2 i3 j1 j2 j3 ms mu md mf mg ns nu nd nf ng
  have HO : Bx (sameG ⟨s1, u1, d1, x1, y1, f1⟩ ⟨s2, u2, d2, x2, y2, f2⟩ = decide (s1 = s2 ∧ u1 = u2 ∧ d1 = d2 ∧ x1 = x2 ∧ y1 = y2 ∧ f1 = f2)) := Bx.mk rfl
  by_cases hs : s1 = s2
  · by_cases hx : x1 = x2
    · by_cases hy : y1 = y2
      · by_cases hu : u1 = u2
        · rw [decide_eq_true hu] at q1
          by_cases hd : d1 = d2
          · have q2 := fun m => q2 m
            simp only [decide_eq_true hd] at q2
            have HE0 : Bx (sameG ⟨s1, u1, d1, x1, y1, f1⟩ ⟨s2, u2, d2, x2, y2, f2⟩ = decide (f1 = f2)) := Bx.mk (by rw [HO.out]; simp [hs, hx, hy, hu, hd])
            clear HO hu hd
            subst hs hx hy
            generalize sameG _ _ = sg at HE0 ⊢
            have HE : Bx (sg = decide (f1 = f2)) := HE0
            clear HE0
            generalize decide (f1 = f2) = bf at q3 HE
            go_enter Try.func21, Try.ntmps21
            go_wp2_with (fail)
            refine q1.mono ?_
            rintro r w1 ⟨rfl, n, rfl⟩
            go_wp2_with (fail)
            refine (q2 _).mono ?_
            rintro r w1 ⟨rfl, n, rfl⟩
            go_wp2_with (fail)
            refine (q3 _).mono ?_
            rintro r w1 ⟨rfl, n, rfl⟩
            go_wp2_with (fail)
            go_ret
            exact ⟨ret_bool HE.out.symm, below_draws HB.out _⟩
          · skip
            have HE : Bx (sameG ⟨s1, u1, d1, x1, y1, f1⟩ ⟨s2, u2, d2, x2, y2, f2⟩ = false) := Bx.mk (HO.out.trans (decide_eq_false (by simp [hd])))
            clear HO
            simp only [decide_eq_false hd] at q2
            clear hu hd
            subst hs hx hy
            generalize sameG _ _ = sg at HE ⊢
            go_enter Try.func21, Try.ntmps21
            go_wp2_with (fail)
            refine q1.mono ?_
            rintro r w1 ⟨rfl, n, rfl⟩
            go_wp2_with (fail)
            refine (q2 _).mono ?_
            rintro r w1 ⟨rfl, n, rfl⟩
            go_wp2_with (fail)
            go_ret
            exact ⟨ret_bool HE.out.symm, below_draws HB.out _⟩
        · skip
          have HE : Bx (sameG ⟨s1, u1, d1, x1, y1, f1⟩ ⟨s2, u2, d2, x2, y2, f2⟩ = false) := Bx.mk (HO.out.trans (decide_eq_false (by simp [hu])))
          clear HO
          rw [decide_eq_false hu] at q1
          clear hu
          subst hs hx hy
          generalize sameG _ _ = sg at HE ⊢
          go_enter Try.func21, Try.ntmps21
          go_wp2_with (fail)
          refine q1.mono ?_
          rintro r w1 ⟨rfl, n, rfl⟩
          go_wp2_with (fail)
          go_ret
          exact ⟨ret_bool HE.out.symm, below_draws HB.out _⟩
      · skip
        have HE : Bx (sameG ⟨s1, u1, d1, x1, y1, f1⟩ ⟨s2, u2, d2, x2, y2, f2⟩ = false) := Bx.mk (HO.out.trans (decide_eq_false (by simp [hy])))
        clear HO
        have e1 : (y1 == y2) = false := by simpa using hy
        clear hy
        subst hs hx
        generalize sameG _ _ = sg at HE ⊢
        go_enter Try.func21, Try.ntmps21
        go_wp2_with (fail)
        go_ret
        exact ⟨ret_bool HE.out.symm, HB.out⟩
    · skip
      have HE : Bx (sameG ⟨s1, u1, d1, x1, y1, f1⟩ ⟨s2, u2, d2, x2, y2, f2⟩ = false) := Bx.mk (HO.out.trans (decide_eq_false (by simp [hx])))
      clear HO
      have e1 : (x1 == x2) = false := by simpa using hx
      clear hx
      subst hs
      generalize sameG _ _ = sg at HE ⊢
      go_enter Try.func21, Try.ntmps21
      go_wp2_with (fail)
      go_ret
      exact ⟨ret_bool HE.out.symm, HB.out⟩
  · skip
    have HE : Bx (sameG ⟨s1, u1, d1, x1, y1, f1⟩ ⟨s2, u2, d2, x2, y2, f2⟩ = false) := Bx.mk (HO.out.trans (decide_eq_false (by simp [hs])))
    clear HO
    have e1 := str_ne hs
    clear hs
    generalize sameG _ _ = sg at HE ⊢
    go_enter Try.func21, Try.ntmps21
    go_wp2_with (fail)
    go_ret
    exact ⟨ret_bool HE.out.symm, HB.out⟩
end Go.Proofs.Ytjjiibmbaggjoaa
