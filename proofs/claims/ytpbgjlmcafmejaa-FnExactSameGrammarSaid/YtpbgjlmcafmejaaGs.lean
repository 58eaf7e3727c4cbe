/- SameGrammar on both sides. -/
import Derived.Test.YtpbgjlmcafmejaaGr3
import Derived.Test.YtpbgjlmcafmejaaSame
import Derived.Test.YtpbgjlmcafmejaaREq
namespace Go.Proofs.Ytpbgjlmcafmejaa
open Go.ChangeShapes Go.WideShapes Go.ChangeAt Go.RowKit
set_option linter.unusedVariables false
set_option linter.unusedSimpArgs false
set_option maxRecDepth 100000

theorem ttake_ne (xs ys : List (Int × Int × Int)) (k : Nat) (hn : tat xs k ≠ tat ys k) : xs ≠ ys := by
  rintro rfl; exact hn rfl
theorem ttake_succ (xs ys : List (Int × Int × Int)) (k : Nat) (h1 : k < xs.length) (h2 : k < ys.length) (hp : xs.take k = ys.take k) (he : tat xs k = tat ys k) : xs.take (k + 1) = ys.take (k + 1) := by
  rw [tat_get h1, tat_get h2] at he
  rw [List.take_succ_eq_append_getElem h1, List.take_succ_eq_append_getElem h2, hp, he]
def sameGr (a b : Gr) : Bool := decide (a.n = b.n ∧ a.s = b.s ∧ a.f = b.f ∧ a.a = b.a)
set_option maxHeartbeats 2000000 in
theorem impl_sameA (va vb : Value) (xs ys : List (Int × Int × Int)) (w : World) (ha : TrsAt w va xs) (hb : TrsAt w vb ys) (hx : xs.length ≤ 1048576) (hy : ys.length ≤ 1048576) :
    Calls Try.prog 66 #[va, vb] w fun e w' => e = .returned (.bool (decide (xs = ys))) ∧ ∃ n, w' = w.drewN n := by
  obtain ⟨A, c, rfl⟩ := trs_len ha
  obtain ⟨B, d, rfl⟩ := trs_len hb
  have HA := Bx.mk ha
  have HB := Bx.mk hb
  clear ha hb
  by_cases hl : xs.length = ys.length
  · have HL := Bx.mk hl
    have hle : ((xs.length : Int) != (ys.length : Int)) = false := by simp; omega
    clear hl
    go_enter Try.func66, Try.ntmps66
    go_wp2
    go_loopw [13] (fun i wr => ∃ k : Nat, k ≤ xs.length ∧ i = .int .i64 k ∧ Bx (xs.take k = ys.take k) ∧ Bx (∃ n, wr = w.drewN n)) (fun i _ => xs.length - (intOf i).toNat)
    case atStart => exact ⟨0, Nat.zero_le _, rfl, Bx.mk rfl, Bx.mk ⟨0, rfl⟩⟩
    case round =>
      obtain ⟨k, hk, rfl, HK, HW⟩ := hrel
      by_cases hlt : k < xs.length
      · have hlt2 : k < ys.length := by have := HL.out; omega
        obtain ⟨b1, o1, cc1, hv1, _, H1⟩ := HA.out.form (by omega)
        obtain ⟨b2, o2, cc2, hv2, _, H2⟩ := HB.out.form (by omega)
        injection hv1 with hA1 _ hC1
        injection hv2 with hA2 _ hC2
        subst hA1 hC1 hA2 hC2
        have H1 : wr.cell? ⟨b1, o1 + k * 3, none⟩ = some (.int .i64 (tat xs k).1) ∧ wr.cell? ⟨b1, o1 + k * 3 + 1, none⟩ = some (.int .i64 (tat xs k).2.1) ∧ wr.cell? ⟨b1, o1 + k * 3 + 2, none⟩ = some (.int .i64 (tat xs k).2.2) := by obtain ⟨n, rfl⟩ := HW.out; exact H1 k hlt
        have H2 : wr.cell? ⟨b2, o2 + k * 3, none⟩ = some (.int .i64 (tat ys k).1) ∧ wr.cell? ⟨b2, o2 + k * 3 + 1, none⟩ = some (.int .i64 (tat ys k).2.1) ∧ wr.cell? ⟨b2, o2 + k * 3 + 2, none⟩ = some (.int .i64 (tat ys k).2.2) := by obtain ⟨n, rfl⟩ := HW.out; exact H2 k hlt2
        obtain ⟨c1, c2, c3⟩ := H1
        obtain ⟨d1, d2, d3⟩ := H2
        have x1 : (0 : Int) ≤ (k : Int) := by omega
        have x2 : (k : Int) < (xs.length : Int) := by omega
        have x3 : (k : Int) < (ys.length : Int) := by omega
        have dlt : decide ((k : Int) < (xs.length : Int)) = true := decide_eq_true x2
        have HS := Bx.mk (ttake_succ xs ys k hlt hlt2 HK.out)
        have HT := Bx.mk (ttake_ne xs ys k)
        clear HA HB HK HL
        generalize tat xs k = p at *
        generalize tat ys k = q at *
        obtain ⟨p1, p2, p3⟩ := p
        obtain ⟨q1, q2, q3⟩ := q
        dsimp only at c1 c2 c3 d1 d2 d3
        have HQ : Bx ((p1, p2, p3) = (q1, q2, q3) ↔ p1 = q1 ∧ p2 = q2 ∧ p3 = q3) := Bx.mk (by simp)
        by_cases h1 : p1 = q1
        · skip
          by_cases h2 : p2 = q2
          · skip
            by_cases h3 : p3 = q3
            · skip
              have HS2 := Bx.mk (HS.out (HQ.out.2 ⟨h1, h2, h3⟩))
              subst h1 h2 h3
              clear HS HT HQ
              go_wp2_with (fail)
              go_quiet (fail)
              go_wp2_with (fail)
              go_roundw
              case rel => exact ⟨k + 1, by omega, by go_num, HS2, Bx.mk (drmore HW.out _)⟩
              case measure => simp [intOf]; omega
            · skip
              have HT2 := Bx.mk (HT.out (fun hh => h3 (HQ.out.1 hh).2.2))
              subst h1
              subst h2
              have e3 : (p3 == q3) = false := by simpa using h3
              have e3' : (q3 == p3) = false := by rw [beq_eq_false_iff_ne]; exact fun h => h3 h.symm
              have f3 : (p3 != q3) = true := by simpa using h3
              clear HS HT HQ
              go_wp2_with (fail)
              go_quiet (fail)
              go_wp2_with (fail)
              go_ret
              exact ⟨ret_bool (by simpa using HT2.out), drmore HW.out _⟩
          · skip
            have HT2 := Bx.mk (HT.out (fun hh => h2 (HQ.out.1 hh).2.1))
            subst h1
            have e2 : (p2 == q2) = false := by simpa using h2
            have e2' : (q2 == p2) = false := by rw [beq_eq_false_iff_ne]; exact fun h => h2 h.symm
            have f2 : (p2 != q2) = true := by simpa using h2
            clear HS HT HQ
            go_wp2_with (fail)
            go_quiet (fail)
            go_wp2_with (fail)
            go_ret
            exact ⟨ret_bool (by simpa using HT2.out), drmore HW.out _⟩
        · skip
          have HT2 := Bx.mk (HT.out (fun hh => h1 (HQ.out.1 hh).1))
          have e1 : (p1 == q1) = false := by simpa using h1
          have e1' : (q1 == p1) = false := by rw [beq_eq_false_iff_ne]; exact fun h => h1 h.symm
          have f1 : (p1 != q1) = true := by simpa using h1
          clear HS HT HQ
          go_wp2_with (fail)
          go_quiet (fail)
          go_wp2_with (fail)
          go_ret
          exact ⟨ret_bool (by simpa using HT2.out), drmore HW.out _⟩
      · have HE : Bx (xs = ys) := Bx.mk (by have := HK.out; rwa [List.take_of_length_le (by omega), List.take_of_length_le (by have := HL.out; omega)] at this)
        have dlt : decide ((k : Int) < (xs.length : Int)) = false := decide_eq_false (by omega)
        go_wp2
        go_ret
        exact ⟨ret_bool (by simpa using HE.out), HW.out⟩
  · have hle : ((xs.length : Int) != (ys.length : Int)) = true := by simp; omega
    have HN : Bx (xs ≠ ys) := Bx.mk (by rintro rfl; exact hl rfl)
    clear hl
    go_enter Try.func66, Try.ntmps66
    go_wp2
    go_ret
    exact ⟨ret_bool (by simpa using HN.out), 0, rfl⟩
set_option maxHeartbeats 4000000 in
theorem impl_samegr (va vb : Value) (Ga Gb : Gr) (w : World) (ha : GrAt w va Ga) (hb : GrAt w vb Gb) (hm : SmG Ga) (hn : SmG Gb) :
    Calls Try.prog 21 #[va, vb] w fun e w' => e = .returned (.bool (sameGr Ga Gb)) ∧ Below w.heap.size w w' := by
  obtain ⟨B, b, C, c, rfl, i1, i2⟩ := gr_form ha
  obtain ⟨B', b', C', c', rfl, j1, j2⟩ := gr_form hb
  obtain ⟨n1, s1, f1, a1⟩ := Ga
  obtain ⟨n2, s2, f2, a2⟩ := Gb
  obtain ⟨mf, ma, _, _⟩ := hm
  obtain ⟨nf, na, _, _⟩ := hn
  dsimp only at i1 i2 j1 j2 mf ma nf na
  have X0 := (BoxN.at w w.heap.size #[.int .i64 n1, .int .i64 s1, .slice B f1.length b, .slice C a1.length c] 30 rfl).alloc (.cells #[.int .i64 n2, .int .i64 s2, .slice B' f2.length b', .slice C' a2.length c'] 30)
  have X1 := BoxN.at (w.alloc (.cells #[.int .i64 n1, .int .i64 s1, .slice B f1.length b, .slice C a1.length c] 30)) (w.heap.size + 1) #[.int .i64 n2, .int .i64 s2, .slice B' f2.length b', .slice C' a2.length c'] 30 (by simp)
  have hb : Below w.heap.size w ((w.alloc (.cells #[.int .i64 n1, .int .i64 s1, .slice B f1.length b, .slice C a1.length c] 30)).alloc (.cells #[.int .i64 n2, .int .i64 s2, .slice B' f2.length b', .slice C' a2.length c'] 30)) := ((Below.refl _ _).alloc (Nat.le_refl _) _).alloc (by simp) _
  generalize hW : (w.alloc (.cells #[.int .i64 n1, .int .i64 s1, .slice B f1.length b, .slice C a1.length c] 30)).alloc (.cells #[.int .i64 n2, .int .i64 s2, .slice B' f2.length b', .slice C' a2.length c'] 30) = W at hb X0 X1
  have p0 := X0.c (k := 0) rfl
  have p1 := X0.c (k := 1) rfl
  have p2 := X0.c (k := 2) rfl
  have p3 := X0.c (k := 3) rfl
  have pl := X0.lt
  have r0 := X1.c (k := 0) rfl
  have r1 := X1.c (k := 1) rfl
  have r2 := X1.c (k := 2) rfl
  have r3 := X1.c (k := 3) rfl
  have rl := X1.lt
  have HB := Bx.mk hb
  have HO : Bx (sameGr ⟨n1, s1, f1, a1⟩ ⟨n2, s2, f2, a2⟩ = decide (n1 = n2 ∧ s1 = s2 ∧ f1 = f2 ∧ a1 = a2)) := Bx.mk rfl
  generalize sameGr ⟨n1, s1, f1, a1⟩ ⟨n2, s2, f2, a2⟩ = sg at HO ⊢
  have q1 := impl_same _ _ f1 f2 W (i1.below hb) (j1.below hb) (Nat.le_trans mf (by decide)) (Nat.le_trans nf (by decide))
  have q2 := fun m => impl_sameA _ _ a1 a2 (W.drewN m) (i2.below (below_draws hb m)) (j2.below (below_draws hb m)) ma na
  clear ha X0 X1 i1 i2 j2 j1
  by_cases hn : n1 = n2
  · by_cases hs : s1 = s2
    · by_cases hf : f1 = f2
      · rw [decide_eq_true hf] at q1
        have HE : Bx (sg = decide (a1 = a2)) := Bx.mk (by rw [HO.out]; simp [hn, hs, hf])
        generalize decide (a1 = a2) = ba at q2 HE
        clear HO hf
        subst hn hs
        go_enter Try.func21, Try.ntmps21
        go_wp2_with (fail)
        refine q1.mono ?_
        rintro r w1 ⟨rfl, n, rfl⟩
        go_wp2_with (fail)
        refine (q2 _).mono ?_
        rintro r w1 ⟨rfl, m, rfl⟩
        go_wp2_with (fail)
        go_ret
        exact ⟨ret_bool HE.out.symm, by first | exact below_draws HB.out _ | exact below_draws (below_draws HB.out _) _⟩
      · skip
        have HE : Bx (sg = false) := Bx.mk (HO.out.trans (decide_eq_false (by simp [hf])))
        rw [decide_eq_false hf] at q1
        clear HO hf
        subst hn hs
        go_enter Try.func21, Try.ntmps21
        go_wp2_with (fail)
        refine q1.mono ?_
        rintro r w1 ⟨rfl, n, rfl⟩
        go_wp2_with (fail)
        go_ret
        exact ⟨ret_bool HE.out.symm, below_draws HB.out _⟩
    · skip
      have HE : Bx (sg = false) := Bx.mk (HO.out.trans (decide_eq_false (by simp [hs])))
      have e1 : (s1 == s2) = false := by simpa using hs
      have e2 : (s1 != s2) = true := by simpa using hs
      clear HO hs
      subst hn
      go_enter Try.func21, Try.ntmps21
      go_wp2_with (fail)
      go_ret
      exact ⟨ret_bool HE.out.symm, HB.out⟩
  · skip
    have HE : Bx (sg = false) := Bx.mk (HO.out.trans (decide_eq_false (by simp [hn])))
    have e1 : (n1 == n2) = false := by simpa using hn
    have e2 : (n1 != n2) = true := by simpa using hn
    clear HO hn
    go_enter Try.func21, Try.ntmps21
    go_wp2_with (fail)
    go_ret
    exact ⟨ret_bool HE.out.symm, HB.out⟩
set_option maxHeartbeats 4000000 in
theorem spec_samegr (va vb : Value) (Ga Gb : Gr) (w : World) (ha : GrAt w va Ga) (hb : GrAt w vb Gb) (hm : SmG Ga) (hn : SmG Gb) :
    Calls Try.prog 20 #[va, vb] w fun e w' => e = .returned (.bool (sameGr Ga Gb)) ∧ Below w.heap.size w w' := by
  obtain ⟨B, b, C, c, rfl, i1, i2⟩ := gr_form ha
  obtain ⟨B', b', C', c', rfl, j1, j2⟩ := gr_form hb
  obtain ⟨n1, s1, f1, a1⟩ := Ga
  obtain ⟨n2, s2, f2, a2⟩ := Gb
  obtain ⟨mf, ma, _, _⟩ := hm
  obtain ⟨nf, na, _, _⟩ := hn
  dsimp only at i1 i2 j1 j2 mf ma nf na
  have X0 := (BoxN.at w w.heap.size #[.int .i64 n1, .int .i64 s1, .slice B f1.length b, .slice C a1.length c] 30 rfl).alloc (.cells #[.int .i64 n2, .int .i64 s2, .slice B' f2.length b', .slice C' a2.length c'] 30)
  have X1 := BoxN.at (w.alloc (.cells #[.int .i64 n1, .int .i64 s1, .slice B f1.length b, .slice C a1.length c] 30)) (w.heap.size + 1) #[.int .i64 n2, .int .i64 s2, .slice B' f2.length b', .slice C' a2.length c'] 30 (by simp)
  have hb : Below w.heap.size w ((w.alloc (.cells #[.int .i64 n1, .int .i64 s1, .slice B f1.length b, .slice C a1.length c] 30)).alloc (.cells #[.int .i64 n2, .int .i64 s2, .slice B' f2.length b', .slice C' a2.length c'] 30)) := ((Below.refl _ _).alloc (Nat.le_refl _) _).alloc (by simp) _
  generalize hW : (w.alloc (.cells #[.int .i64 n1, .int .i64 s1, .slice B f1.length b, .slice C a1.length c] 30)).alloc (.cells #[.int .i64 n2, .int .i64 s2, .slice B' f2.length b', .slice C' a2.length c'] 30) = W at hb X0 X1
  have p0 := X0.c (k := 0) rfl
  have p1 := X0.c (k := 1) rfl
  have p2 := X0.c (k := 2) rfl
  have p3 := X0.c (k := 3) rfl
  have pl := X0.lt
  have r0 := X1.c (k := 0) rfl
  have r1 := X1.c (k := 1) rfl
  have r2 := X1.c (k := 2) rfl
  have r3 := X1.c (k := 3) rfl
  have rl := X1.lt
  have HB := Bx.mk hb
  have HO : Bx (sameGr ⟨n1, s1, f1, a1⟩ ⟨n2, s2, f2, a2⟩ = decide (n1 = n2 ∧ s1 = s2 ∧ f1 = f2 ∧ a1 = a2)) := Bx.mk rfl
  generalize sameGr ⟨n1, s1, f1, a1⟩ ⟨n2, s2, f2, a2⟩ = sg at HO ⊢
  have q1 := spec_same _ _ f1 f2 W (i1.below hb) (j1.below hb) (Nat.le_trans mf (by decide)) (Nat.le_trans nf (by decide))
  have HX := Bx.mk (And.intro X0 X1)
  clear ha X0 X1 i1 j1
  by_cases hn : n1 = n2
  · by_cases hs : s1 = s2
    · by_cases hf : f1 = f2
      · rw [decide_eq_true hf] at q1
        have HO2 : Bx (sg = decide (a1 = a2)) := Bx.mk (by rw [HO.out]; simp [hn, hs, hf])
        clear HO hf
        subst hn hs
        by_cases hl : a1.length = a2.length
        · have HL := Bx.mk hl
          have hle : ((a1.length : Int) != (a2.length : Int)) = false := by simp; omega
          clear hl
          go_enter Try.func20, Try.ntmps20
          go_wp2_with (fail)
          refine q1.mono ?_
          rintro r w1 ⟨rfl, n, rfl⟩
          go_wp2_with (fail)
          go_loopw [5] (fun i wr => ∃ k : Nat, k ≤ a1.length ∧ i = .int .i64 k ∧ Bx (a1.take k = a2.take k) ∧ Bx (∃ n, wr = W.drewN n)) (fun i _ => a1.length - (intOf i).toNat)
          case atStart => exact ⟨0, Nat.zero_le _, rfl, Bx.mk rfl, Bx.mk ⟨n, rfl⟩⟩
          case round =>
            obtain ⟨k, hk, rfl, HK, HW⟩ := hrel
            clear p0 p1 p2 p3 r0 r1 r2 r3 pl rl
            have p0 := (HX.out.1.below (quietB HW.out)).c (k := 0) rfl
            have p1 := (HX.out.1.below (quietB HW.out)).c (k := 1) rfl
            have p2 := (HX.out.1.below (quietB HW.out)).c (k := 2) rfl
            have p3 := (HX.out.1.below (quietB HW.out)).c (k := 3) rfl
            have r0 := (HX.out.2.below (quietB HW.out)).c (k := 0) rfl
            have r1 := (HX.out.2.below (quietB HW.out)).c (k := 1) rfl
            have r2 := (HX.out.2.below (quietB HW.out)).c (k := 2) rfl
            have r3 := (HX.out.2.below (quietB HW.out)).c (k := 3) rfl
            have pl := (HX.out.1.below (quietB HW.out)).lt
            have rl := (HX.out.2.below (quietB HW.out)).lt
            by_cases hlt : k < a1.length
            · have hlt2 : k < a2.length := by have := HL.out; omega
              obtain ⟨b1, o1, cc1, hv1, _, H1⟩ := (i2.below HB.out).form (by omega)
              obtain ⟨b2, o2, cc2, hv2, _, H2⟩ := (j2.below HB.out).form (by omega)
              injection hv1 with hA1 _ hC1
              injection hv2 with hA2 _ hC2
              subst hA1 hC1 hA2 hC2
              have H1 : wr.cell? ⟨b1, o1 + k * 3, none⟩ = some (.int .i64 (tat a1 k).1) ∧ wr.cell? ⟨b1, o1 + k * 3 + 1, none⟩ = some (.int .i64 (tat a1 k).2.1) ∧ wr.cell? ⟨b1, o1 + k * 3 + 2, none⟩ = some (.int .i64 (tat a1 k).2.2) := by obtain ⟨n, rfl⟩ := HW.out; exact H1 k hlt
              have H2 : wr.cell? ⟨b2, o2 + k * 3, none⟩ = some (.int .i64 (tat a2 k).1) ∧ wr.cell? ⟨b2, o2 + k * 3 + 1, none⟩ = some (.int .i64 (tat a2 k).2.1) ∧ wr.cell? ⟨b2, o2 + k * 3 + 2, none⟩ = some (.int .i64 (tat a2 k).2.2) := by obtain ⟨n, rfl⟩ := HW.out; exact H2 k hlt2
              obtain ⟨c1, c2, c3⟩ := H1
              obtain ⟨d1, d2, d3⟩ := H2
              have x1 : (0 : Int) ≤ (k : Int) := by omega
              have x2 : (k : Int) < (a1.length : Int) := by omega
              have x3 : (k : Int) < (a2.length : Int) := by omega
              have dlt : decide ((k : Int) < (a1.length : Int)) = true := decide_eq_true x2
              have HS := Bx.mk (ttake_succ a1 a2 k hlt hlt2 HK.out)
              have HT := Bx.mk (ttake_ne a1 a2 k)
              clear HK HL
              generalize tat a1 k = p at *
              generalize tat a2 k = q at *
              obtain ⟨p1, p2, p3⟩ := p
              obtain ⟨q1, q2, q3⟩ := q
              dsimp only at c1 c2 c3 d1 d2 d3
              have HQ : Bx ((p1, p2, p3) = (q1, q2, q3) ↔ p1 = q1 ∧ p2 = q2 ∧ p3 = q3) := Bx.mk (by simp)
              by_cases h1 : p1 = q1
              · skip
                by_cases h2 : p2 = q2
                · skip
                  by_cases h3 : p3 = q3
                  · skip
                    have HS2 := Bx.mk (HS.out (HQ.out.2 ⟨h1, h2, h3⟩))
                    subst h1 h2 h3
                    clear HS HT HQ
                    go_wp2_with (fail)
                    go_quiet (fail)
                    go_wp2_with (fail)
                    go_roundw
                    case rel => exact ⟨k + 1, by omega, by go_num, HS2, Bx.mk (drmore HW.out _)⟩
                    case measure => simp [intOf]; omega
                  · skip
                    have HT2 := Bx.mk (HT.out (fun hh => h3 (HQ.out.1 hh).2.2))
                    subst h1
                    subst h2
                    have e3 : (p3 == q3) = false := by simpa using h3
                    have e3' : (q3 == p3) = false := by rw [beq_eq_false_iff_ne]; exact fun h => h3 h.symm
                    have f3 : (p3 != q3) = true := by simpa using h3
                    clear HS HT HQ
                    go_wp2_with (fail)
                    go_quiet (fail)
                    go_wp2_with (fail)
                    go_ret
                    exact ⟨ret_bool (by rw [HO2.out]; simpa using HT2.out), HB.out.trans ((quietB (drmore HW.out _)).mono HB.out.size)⟩
                · skip
                  have HT2 := Bx.mk (HT.out (fun hh => h2 (HQ.out.1 hh).2.1))
                  subst h1
                  have e2 : (p2 == q2) = false := by simpa using h2
                  have e2' : (q2 == p2) = false := by rw [beq_eq_false_iff_ne]; exact fun h => h2 h.symm
                  have f2 : (p2 != q2) = true := by simpa using h2
                  clear HS HT HQ
                  go_wp2_with (fail)
                  go_quiet (fail)
                  go_wp2_with (fail)
                  go_ret
                  exact ⟨ret_bool (by rw [HO2.out]; simpa using HT2.out), HB.out.trans ((quietB (drmore HW.out _)).mono HB.out.size)⟩
              · skip
                have HT2 := Bx.mk (HT.out (fun hh => h1 (HQ.out.1 hh).1))
                have e1 : (p1 == q1) = false := by simpa using h1
                have e1' : (q1 == p1) = false := by rw [beq_eq_false_iff_ne]; exact fun h => h1 h.symm
                have f1 : (p1 != q1) = true := by simpa using h1
                clear HS HT HQ
                go_wp2_with (fail)
                go_quiet (fail)
                go_wp2_with (fail)
                go_ret
                exact ⟨ret_bool (by rw [HO2.out]; simpa using HT2.out), HB.out.trans ((quietB (drmore HW.out _)).mono HB.out.size)⟩
            · have HE : Bx (a1 = a2) := Bx.mk (by have := HK.out; rwa [List.take_of_length_le (by omega), List.take_of_length_le (by have := HL.out; omega)] at this)
              have dlt : decide ((k : Int) < (a1.length : Int)) = false := decide_eq_false (by omega)
              go_wp2_with (fail)
              go_ret
              exact ⟨ret_bool (by rw [HO2.out]; simpa using HE.out), HB.out.trans ((quietB HW.out).mono HB.out.size)⟩
        · have hle : ((a1.length : Int) != (a2.length : Int)) = true := by simp; omega
          have HN : Bx (a1 ≠ a2) := Bx.mk (by rintro rfl; exact hl rfl)
          clear hl
          go_enter Try.func20, Try.ntmps20
          go_wp2_with (fail)
          refine q1.mono ?_
          rintro r w1 ⟨rfl, n, rfl⟩
          go_wp2_with (fail)
          go_ret
          exact ⟨ret_bool (by rw [HO2.out]; simpa using HN.out), below_draws HB.out _⟩
      · skip
        have HE : Bx (sg = false) := Bx.mk (HO.out.trans (decide_eq_false (by simp [hf])))
        rw [decide_eq_false hf] at q1
        clear HO hf
        subst hn hs
        go_enter Try.func20, Try.ntmps20
        go_wp2_with (fail)
        refine q1.mono ?_
        rintro r w1 ⟨rfl, n, rfl⟩
        go_wp2_with (fail)
        go_ret
        exact ⟨ret_bool HE.out.symm, below_draws HB.out _⟩
    · skip
      have HE : Bx (sg = false) := Bx.mk (HO.out.trans (decide_eq_false (by simp [hs])))
      have e1 : (s1 == s2) = false := by simpa using hs
      have e2 : (s1 != s2) = true := by simpa using hs
      clear HO hs
      subst hn
      go_enter Try.func20, Try.ntmps20
      go_wp2_with (fail)
      go_ret
      exact ⟨ret_bool HE.out.symm, HB.out⟩
  · skip
    have HE : Bx (sg = false) := Bx.mk (HO.out.trans (decide_eq_false (by simp [hn])))
    have e1 : (n1 == n2) = false := by simpa using hn
    have e2 : (n1 != n2) = true := by simpa using hn
    clear HO hn
    go_enter Try.func20, Try.ntmps20
    go_wp2_with (fail)
    go_ret
    exact ⟨ret_bool HE.out.symm, HB.out⟩
end Go.Proofs.Ytpbgjlmcafmejaa
