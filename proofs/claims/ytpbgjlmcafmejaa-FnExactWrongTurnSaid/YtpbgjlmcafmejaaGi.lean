/- Valid grammars: the program's small functions. -/
import Derived.Test.YtpbgjlmcafmejaaGvM
import Derived.Test.YtpbgjlmcafmejaaImS
import Derived.Test.YtpbgjlmcafmejaaCmp
import Derived.Test.YtpbgjlmcafmejaaOr
import Derived.Deep.RegionHeld3
namespace Go.Proofs.Ytpbgjlmcafmejaa
open Go.ChangeShapes Go.WideShapes Go.ChangeAt Go.RowKit
set_option linter.unusedVariables false
set_option linter.unusedSimpArgs false
set_option maxRecDepth 100000

theorem impl_great (n s : Int) (A B : Option Addr) (fl fc al ac : Nat) (l : List (Int × Int × Int)) (w : World) (hl : al = l.length) :
    Calls Try.prog 56 #[.agg #[.int .i64 n, .int .i64 s, .slice A fl fc, .slice B al ac]] w fun e w' => e = .returned (.bool (greatB n l)) ∧ Below w.heap.size w w' := by
  subst hl
  have hb : Below w.heap.size w (w.alloc (.cells #[.int .i64 n, .int .i64 s, .slice A fl fc, .slice B l.length ac] 30)) := (Below.refl _ _).alloc (Nat.le_refl _) _
  have HB := Bx.mk hb
  clear hb
  by_cases h1 : n > 32
  · have HE : Bx (greatB n l = true) := Bx.mk (decide_eq_true (.inl h1))
    have d1 : decide (n > 32) = true := decide_eq_true h1
    clear h1
    go_enter Try.func56, Try.ntmps56
    go_wp2_with (fail)
    go_ret
    exact ⟨ret_bool HE.out.symm, HB.out⟩
  · have d1 : decide (n > 32) = false := decide_eq_false h1
    by_cases h2 : l.length > 256
    · have HE : Bx (greatB n l = true) := Bx.mk (decide_eq_true (.inr h2))
      have d2 : decide ((l.length : Int) > 256) = true := decide_eq_true (by omega)
      clear h1 h2
      go_enter Try.func56, Try.ntmps56
      go_wp2_with (fail)
      go_ret
      exact ⟨ret_bool HE.out.symm, HB.out⟩
    · have HE : Bx (greatB n l = false) := Bx.mk (decide_eq_false (by omega))
      have d2 : decide ((l.length : Int) > 256) = false := decide_eq_false (by omega)
      clear h1 h2
      go_enter Try.func56, Try.ntmps56
      go_wp2_with (fail)
      go_ret
      exact ⟨ret_bool HE.out.symm, HB.out⟩
theorem impl_hasst (n s x : Int) (f a : Value) (w : World) :
    Calls Try.prog 57 #[.agg #[.int .i64 n, .int .i64 s, f, a], .int .i64 x] w fun e w' => e = .returned (.bool (stB n x)) ∧ Below w.heap.size w w' := by
  have hb : Below w.heap.size w (w.alloc (.cells #[.int .i64 n, .int .i64 s, f, a] 30)) := (Below.refl _ _).alloc (Nat.le_refl _) _
  have HB := Bx.mk hb
  clear hb
  by_cases h1 : 0 ≤ x
  · have d1 : decide (0 ≤ x) = true := decide_eq_true h1
    by_cases h2 : x < n
    · have d2 : decide (x < n) = true := decide_eq_true h2
      have HE : Bx (stB n x = true) := Bx.mk (decide_eq_true ⟨h1, h2⟩)
      clear h1 h2
      go_enter Try.func57, Try.ntmps57
      go_wp2_with (fail)
      go_ret
      exact ⟨ret_bool HE.out.symm, HB.out⟩
    · have d2 : decide (x < n) = false := decide_eq_false h2
      have HE : Bx (stB n x = false) := Bx.mk (decide_eq_false (fun h => h2 h.2))
      clear h1 h2
      go_enter Try.func57, Try.ntmps57
      go_wp2_with (fail)
      go_ret
      exact ⟨ret_bool HE.out.symm, HB.out⟩
  · have d1 : decide (0 ≤ x) = false := decide_eq_false h1
    have HE : Bx (stB n x = false) := Bx.mk (decide_eq_false (fun h => h1 h.1))
    clear h1
    go_enter Try.func57, Try.ntmps57
    go_wp2_with (fail)
    go_ret
    exact ⟨ret_bool HE.out.symm, HB.out⟩
def cmpA (p q : Int × Int × Int) : Int := if cmpI p.1 q.1 = 0 then cmpI p.2.1 q.2.1 else cmpI p.1 q.1
theorem cmpI_neg (a b : Int) : cmpI a b < 0 ↔ a < b := by unfold cmpI; split <;> (try split) <;> omega
theorem cmpI_zero (a b : Int) : cmpI a b = 0 ↔ a = b := by unfold cmpI; split <;> (try split) <;> omega
theorem cmpA_neg (p q : Int × Int × Int) : cmpA p q < 0 ↔ aLt p q := by
  unfold cmpA aLt
  have h1 := cmpI_neg p.1 q.1
  have h2 := cmpI_zero p.1 q.1
  have h3 := cmpI_neg p.2.1 q.2.1
  split <;> omega
theorem cmpA_zero (p q : Int × Int × Int) : cmpA p q = 0 ↔ p.1 = q.1 ∧ p.2.1 = q.2.1 := by
  unfold cmpA
  have h2 := cmpI_zero p.1 q.1
  have h3 := cmpI_zero p.2.1 q.2.1
  split <;> omega
theorem keepC {w W W' : World} {b1 b2 x1 x2 y1 y2 : Nat} {p1 p2 q1 q2 : Value} (h : W.cell? ⟨b1, x1, none⟩ = some p1 ∧ W.cell? ⟨b1, x2, none⟩ = some p2 ∧ W.cell? ⟨b2, y1, none⟩ = some q1 ∧ W.cell? ⟨b2, y2, none⟩ = some q2 ∧ b1 < W.heap.size ∧ b2 < W.heap.size ∧ Below w.heap.size w W) (hb : Below W.heap.size W W') :
    W'.cell? ⟨b1, x1, none⟩ = some p1 ∧ W'.cell? ⟨b1, x2, none⟩ = some p2 ∧ W'.cell? ⟨b2, y1, none⟩ = some q1 ∧ W'.cell? ⟨b2, y2, none⟩ = some q2 ∧ b1 < W'.heap.size ∧ b2 < W'.heap.size ∧ Below w.heap.size w W' := by
  obtain ⟨h1, h2, h3, h4, h5, h6, h7⟩ := h
  have hs := hb.size
  exact ⟨(hb.cell (p := ⟨b1, x1, none⟩) h5).trans h1, (hb.cell (p := ⟨b1, x2, none⟩) h5).trans h2, (hb.cell (p := ⟨b2, y1, none⟩) h6).trans h3, (hb.cell (p := ⟨b2, y2, none⟩) h6).trans h4, by omega, by omega, h7.trans (hb.mono h7.size)⟩
set_option maxHeartbeats 2000000 in
theorem impl_arccmp (p q : Int × Int × Int) (w : World) :
    Calls Try.prog 61 #[arcV p.1 p.2.1 p.2.2, arcV q.1 q.2.1 q.2.2] w fun e w' => e = .returned (.int .i64 (cmpA p q)) ∧ Below w.heap.size w w' := by
  obtain ⟨p1, p2, p3⟩ := p
  obtain ⟨q1, q2, q3⟩ := q
  have HO : Bx (cmpA (p1, p2, p3) (q1, q2, q3) = if cmpI p1 q1 = 0 then cmpI p2 q2 else cmpI p1 q1) := Bx.mk rfl
  have h1 := fun W => std_cmp p1 q1 W
  have h2 := fun W => std_cmp p2 q2 W
  generalize cmpA (p1, p2, p3) (q1, q2, q3) = z at *
  generalize cmpI p1 q1 = x at *
  generalize cmpI p2 q2 = y at *
  have ho := fun g w a b c => std_or x y g w a b c
  rw [← HO.out] at ho
  unfold arcV
  dsimp only
  go_enter Try.func61, Try.ntmps61
  go_wp2_with (fail)
  have X0 := (BoxN.at w w.heap.size #[.int .i64 p1, .int .i64 p2, .int .i64 p3] 76 rfl).alloc (.cells #[.int .i64 q1, .int .i64 q2, .int .i64 q3] 76)
  have X1 := BoxN.at (w.alloc (.cells #[.int .i64 p1, .int .i64 p2, .int .i64 p3] 76)) (w.heap.size + 1) #[.int .i64 q1, .int .i64 q2, .int .i64 q3] 76 (by simp)
  have hb : Below w.heap.size w ((w.alloc (.cells #[.int .i64 p1, .int .i64 p2, .int .i64 p3] 76)).alloc (.cells #[.int .i64 q1, .int .i64 q2, .int .i64 q3] 76)) := ((Below.refl _ _).alloc (Nat.le_refl _) _).alloc (by simp) _
  generalize hW : (w.alloc (.cells #[.int .i64 p1, .int .i64 p2, .int .i64 p3] 76)).alloc (.cells #[.int .i64 q1, .int .i64 q2, .int .i64 q3] 76) = W at *
  clear hW
  have HS0 : Bx (W.cell? ⟨w.heap.size, 0, none⟩ = some (.int .i64 p1) ∧ W.cell? ⟨w.heap.size, 1, none⟩ = some (.int .i64 p2) ∧ W.cell? ⟨w.heap.size + 1, 0, none⟩ = some (.int .i64 q1) ∧ W.cell? ⟨w.heap.size + 1, 1, none⟩ = some (.int .i64 q2) ∧ w.heap.size < W.heap.size ∧ w.heap.size + 1 < W.heap.size ∧ Below w.heap.size w W) := Bx.mk ⟨X0.c (k := 0) rfl, X0.c (k := 1) rfl, X1.c (k := 0) rfl, X1.c (k := 1) rfl, X0.lt, X1.lt, hb⟩
  have a0 := X0.c (k := 0) rfl
  have a1 := X0.c (k := 1) rfl
  have al := X0.lt
  have b0 := X1.c (k := 0) rfl
  have b1 := X1.c (k := 1) rfl
  have bl := X1.lt
  clear hb X0 X1 HO
  go_region_held3 (fun W => W.cell? ⟨w.heap.size, 0, none⟩ = some (.int .i64 p1) ∧ W.cell? ⟨w.heap.size, 1, none⟩ = some (.int .i64 p2) ∧ W.cell? ⟨w.heap.size + 1, 0, none⟩ = some (.int .i64 q1) ∧ W.cell? ⟨w.heap.size + 1, 1, none⟩ = some (.int .i64 q2) ∧ w.heap.size < W.heap.size ∧ w.heap.size + 1 < W.heap.size ∧ Below w.heap.size w W)
    (first | (with_reducible assumption) | (with_reducible exact keepC (by assumption) hb4) | (with_reducible exact keepC (by assumption) (Below.refl _ _).drew) | exact keepC HS0.out (Below.refl _ _).drew | exact keepC (by assumption) ((Below.refl _ _).alloc (Nat.le_refl _) _))
    (first
    | (go_at_call 59; (with_reducible refine (h1 _).mono ?_); rintro r wa ⟨rfl, rfl⟩)
    | (go_at_call 59; (with_reducible refine (h2 _).mono ?_); rintro r wa ⟨rfl, rfl⟩)
    | (go_at_call 107; (with_reducible refine (ho _ _ ?_ ?_ ?_).mono ?_); exact (BoxN.at _ _ #[.int .i64 x, .int .i64 y] _ rfl).c (k := 0) rfl; exact (BoxN.at _ _ #[.int .i64 x, .int .i64 y] _ rfl).c (k := 1) rfl; exact (BoxN.at _ _ #[.int .i64 x, .int .i64 y] _ rfl).lt; rintro r wb ⟨rfl, hb4⟩; have hS0 := keepC (w := w) (by assumption) hb4))
  all_goals
    have HB1 : Bx (Below w.heap.size w _) := Bx.mk (by assumption : _ ∧ _ ∧ _ ∧ _ ∧ _ ∧ _ ∧ _).2.2.2.2.2.2
    go_wp2_with (fail)
    go_ret
    exact ⟨rfl, HB1.out⟩
theorem incI_no {zs : List Int} (k : Nat) (h : k < zs.length - 1) (hn : ¬ zs.getD k 0 < zs.getD (k + 1) 0) : incI zs = false := decide_eq_false (fun hh => hn (hh k h))
theorem incI_yes {zs : List Int} (h : ∀ i, i < zs.length - 1 → zs.getD i 0 < zs.getD (i + 1) 0) : incI zs = true := decide_eq_true h
theorem incA_no {l : List (Int × Int × Int)} (k : Nat) (h : k < l.length - 1) (hn : ¬ aLt (tat l k) (tat l (k + 1))) : incA l = false := decide_eq_false (fun hh => hn (hh k h))
theorem incA_yes {l : List (Int × Int × Int)} (h : ∀ i, i < l.length - 1 → aLt (tat l i) (tat l (i + 1))) : incA l = true := decide_eq_true h
set_option maxHeartbeats 2000000 in
theorem impl_incI (v : Value) (zs : List Int) (w : World) (h : IntsAt w v zs) (hm : zs.length ≤ 1048576) :
    Calls Try.prog 58 #[v, .func (.func 59) #[] #[]] w fun e w' => e = .returned (.bool (incI zs)) ∧ Below w.heap.size w w' := by
  obtain ⟨A, c, rfl⟩ := ints_form h
  have HI := Bx.mk h
  have hsub : IntKind.i64.wrap ((zs.length : Int) - 1) = (zs.length : Int) - 1 := IntWalk.i64_in _ (by omega)
  clear h
  go_enter Try.func58, Try.ntmps58
  go_wp2_with (fail)
  go_loopw [9] (fun i wr => ∃ k : Nat, k ≤ zs.length - 1 ∧ i = .int .i64 k ∧ Bx (∀ i, i < k → zs.getD i 0 < zs.getD (i + 1) 0) ∧ Bx (∃ n, wr = w.drewN n)) (fun i _ => zs.length - 1 - (intOf i).toNat)
  case atStart => exact ⟨0, Nat.zero_le _, rfl, Bx.mk (fun i hi => by omega), Bx.mk ⟨0, rfl⟩⟩
  case round =>
    obtain ⟨k, hk, rfl, HK, HW⟩ := hrel
    by_cases hlt : k < zs.length - 1
    · have dlt : decide ((k : Int) < (zs.length : Int) - 1) = true := decide_eq_true (by omega)
      obtain ⟨b, o, cc, hv, lb, hc⟩ := HI.out.form (by omega)
      injection hv with hA _ hC
      subst hA hC
      have c1 : wr.cell? ⟨b, o + k, none⟩ = some (.int .i64 (zs.getD k 0)) := by obtain ⟨n, rfl⟩ := HW.out; exact hc k (by omega)
      have c2 : wr.cell? ⟨b, o + (k + 1), none⟩ = some (.int .i64 (zs.getD (k + 1) 0)) := by obtain ⟨n, rfl⟩ := HW.out; exact hc (k + 1) (by omega)
      have x1 : (0 : Int) ≤ (k : Int) := by omega
      have x2 : (k : Int) < (zs.length : Int) := by omega
      have y0 : IntKind.i64.wrap ((k : Int) + 1) = (k : Int) + 1 := IntWalk.i64_in _ (by omega)
      have y1 : (0 : Int) ≤ (k : Int) + 1 := by omega
      have y2 : (k : Int) + 1 < (zs.length : Int) := by omega
      have y3 : ((k : Int) + 1).toNat = k + 1 := by omega
      have HY := Bx.mk (fun h : zs.getD k 0 < zs.getD (k + 1) 0 => (fun i (hi : i < k + 1) => by
        by_cases hij : i < k
        · exact HK.out i hij
        · obtain rfl : i = k := (by omega)
          exact h : ∀ i, i < k + 1 → zs.getD i 0 < zs.getD (i + 1) 0))
      have HN := Bx.mk (incI_no k hlt)
      clear hc HK
      generalize zs.getD k 0 = x at c1 HY HN
      generalize zs.getD (k + 1) 0 = y at c2 HY HN
      have hq := fun W => std_cmp x y W
      have hz := cmpI_neg x y
      generalize cmpI x y = z at hq hz
      by_cases hxy : x < y
      · have HS := Bx.mk (HY.out hxy)
        have dz : decide (z ≥ 0) = false := decide_eq_false (by omega)
        clear HY HN hz hxy
        go_wp2_with (fail)
        go_quiet ((go_at_call 59; exact quiet_eq (hq _)))
        go_wp2_with (fail)
        go_roundw
        case rel => exact ⟨k + 1, by omega, by go_num, HS, Bx.mk (drmore HW.out _)⟩
        case measure => simp [intOf]; omega
      · have HE := Bx.mk (HN.out hxy)
        have dz : decide (z ≥ 0) = true := decide_eq_true (by omega)
        clear HY HN hz hxy
        go_wp2_with (fail)
        go_quiet ((go_at_call 59; exact quiet_eq (hq _)))
        go_wp2_with (fail)
        go_ret
        exact ⟨ret_bool HE.out.symm, quietB (drmore HW.out _)⟩
    · have dlt : decide ((k : Int) < (zs.length : Int) - 1) = false := decide_eq_false (by omega)
      have HE := Bx.mk (incI_yes (zs := zs) (fun i hi => HK.out i (by omega)))
      clear HK
      go_wp2_with (fail)
      go_ret
      exact ⟨ret_bool HE.out.symm, quietB HW.out⟩
set_option maxHeartbeats 2000000 in
theorem impl_incA (v : Value) (l : List (Int × Int × Int)) (w : World) (h : TrsAt w v l) (hm : l.length ≤ 1048576) :
    Calls Try.prog 60 #[v, .func (.func 61) #[] #[]] w fun e w' => e = .returned (.bool (incA l)) ∧ Below w.heap.size w w' := by
  obtain ⟨A, c, rfl⟩ := trs_len h
  have HI := Bx.mk h
  have hsub : IntKind.i64.wrap ((l.length : Int) - 1) = (l.length : Int) - 1 := IntWalk.i64_in _ (by omega)
  clear h
  go_enter Try.func60, Try.ntmps60
  go_wp2_with (fail)
  go_loopw [9] (fun i wr => ∃ k : Nat, k ≤ l.length - 1 ∧ i = .int .i64 k ∧ Bx (∀ i, i < k → aLt (tat l i) (tat l (i + 1))) ∧ Bx (Below w.heap.size w wr)) (fun i _ => l.length - 1 - (intOf i).toNat)
  case atStart => exact ⟨0, Nat.zero_le _, rfl, Bx.mk (fun i hi => by omega), Bx.mk (Below.refl _ _)⟩
  case round =>
    obtain ⟨k, hk, rfl, HK, HW⟩ := hrel
    by_cases hlt : k < l.length - 1
    · have dlt : decide ((k : Int) < (l.length : Int) - 1) = true := decide_eq_true (by omega)
      obtain ⟨b, o, cc, hv, lb, hc⟩ := (HI.out.below HW.out).form (by omega)
      injection hv with hA _ hC
      subst hA hC
      have c1 := hc k (by omega)
      have c2 := hc (k + 1) (by omega)
      have x1 : (0 : Int) ≤ (k : Int) := by omega
      have x2 : (k : Int) < (l.length : Int) := by omega
      have y0 : IntKind.i64.wrap ((k : Int) + 1) = (k : Int) + 1 := IntWalk.i64_in _ (by omega)
      have y1 : (0 : Int) ≤ (k : Int) + 1 := by omega
      have y2 : (k : Int) + 1 < (l.length : Int) := by omega
      have y3 : ((k : Int) + 1).toNat = k + 1 := by omega
      have HY := Bx.mk (fun h : aLt (tat l k) (tat l (k + 1)) => (fun i (hi : i < k + 1) => by
        by_cases hij : i < k
        · exact HK.out i hij
        · obtain rfl : i = k := (by omega)
          exact h : ∀ i, i < k + 1 → aLt (tat l i) (tat l (i + 1))))
      have HN := Bx.mk (incA_no k hlt)
      clear hc HK
      generalize tat l k = p at c1 HY HN
      generalize tat l (k + 1) = q at c2 HY HN
      have hq := fun W => impl_arccmp p q W
      have hz := cmpA_neg p q
      generalize cmpA p q = z at hq hz
      obtain ⟨p1, p2, p3⟩ := p
      obtain ⟨q1, q2, q3⟩ := q
      unfold arcV at hq
      dsimp only at c1 c2 hq
      obtain ⟨c1, c2', c3⟩ := c1
      obtain ⟨d1, d2, d3⟩ := c2
      have HS0 : Bx (wr.cell? ⟨b, o + k * 3, none⟩ = some (.int .i64 p1) ∧ wr.cell? ⟨b, o + k * 3 + 1, none⟩ = some (.int .i64 p2) ∧ wr.cell? ⟨b, o + k * 3 + 2, none⟩ = some (.int .i64 p3) ∧ wr.cell? ⟨b, o + (k + 1) * 3, none⟩ = some (.int .i64 q1) ∧ wr.cell? ⟨b, o + (k + 1) * 3 + 1, none⟩ = some (.int .i64 q2) ∧ wr.cell? ⟨b, o + (k + 1) * 3 + 2, none⟩ = some (.int .i64 q3) ∧ b < wr.heap.size ∧ b < wr.heap.size ∧ Below w.heap.size w wr) := Bx.mk ⟨c1, c2', c3, d1, d2, d3, lb, lb, HW.out⟩
      by_cases hxy : aLt (p1, p2, p3) (q1, q2, q3)
      · have HS := Bx.mk (HY.out hxy)
        have dz : decide (z ≥ 0) = false := decide_eq_false (by have := hz.2 hxy; omega)
        clear HY HN hz hxy
        go_wp2_with (fail)
        go_region_held3 (fun W => W.cell? ⟨b, o + k * 3, none⟩ = some (.int .i64 p1) ∧ W.cell? ⟨b, o + k * 3 + 1, none⟩ = some (.int .i64 p2) ∧ W.cell? ⟨b, o + k * 3 + 2, none⟩ = some (.int .i64 p3) ∧ W.cell? ⟨b, o + (k + 1) * 3, none⟩ = some (.int .i64 q1) ∧ W.cell? ⟨b, o + (k + 1) * 3 + 1, none⟩ = some (.int .i64 q2) ∧ W.cell? ⟨b, o + (k + 1) * 3 + 2, none⟩ = some (.int .i64 q3) ∧ b < W.heap.size ∧ b < W.heap.size ∧ Below w.heap.size w W)
          (first | (with_reducible exact keepE3 (by assumption) hb4) | (with_reducible exact keepE3 (by assumption) (Below.refl _ _).drew) | exact keepE3 HS0.out (Below.refl _ _).drew)
          ((go_at_call 61; (with_reducible refine (hq _).mono ?_); rintro r w4 ⟨rfl, hb4⟩; have hS0 := keepE3 (w := w) (by assumption) hb4))
        have HB1 : Bx (Below w.heap.size w _) := Bx.mk (by assumption : _ ∧ _ ∧ _ ∧ _ ∧ _ ∧ _ ∧ _ ∧ _ ∧ _).2.2.2.2.2.2.2.2
        go_wp2_with (fail)
        go_roundw
        case rel => exact ⟨k + 1, by omega, by go_num, HS, HB1⟩
        case measure => simp [intOf]; omega
      · have HE := Bx.mk (HN.out hxy)
        have dz : decide (z ≥ 0) = true := decide_eq_true (by have : ¬ z < 0 := fun hh => hxy (hz.1 hh); omega)
        clear HY HN hz hxy
        go_wp2_with (fail)
        go_region_held3 (fun W => W.cell? ⟨b, o + k * 3, none⟩ = some (.int .i64 p1) ∧ W.cell? ⟨b, o + k * 3 + 1, none⟩ = some (.int .i64 p2) ∧ W.cell? ⟨b, o + k * 3 + 2, none⟩ = some (.int .i64 p3) ∧ W.cell? ⟨b, o + (k + 1) * 3, none⟩ = some (.int .i64 q1) ∧ W.cell? ⟨b, o + (k + 1) * 3 + 1, none⟩ = some (.int .i64 q2) ∧ W.cell? ⟨b, o + (k + 1) * 3 + 2, none⟩ = some (.int .i64 q3) ∧ b < W.heap.size ∧ b < W.heap.size ∧ Below w.heap.size w W)
          (first | (with_reducible exact keepE3 (by assumption) hb4) | (with_reducible exact keepE3 (by assumption) (Below.refl _ _).drew) | exact keepE3 HS0.out (Below.refl _ _).drew)
          ((go_at_call 61; (with_reducible refine (hq _).mono ?_); rintro r w4 ⟨rfl, hb4⟩; have hS0 := keepE3 (w := w) (by assumption) hb4))
        have HB1 : Bx (Below w.heap.size w _) := Bx.mk (by assumption : _ ∧ _ ∧ _ ∧ _ ∧ _ ∧ _ ∧ _ ∧ _ ∧ _).2.2.2.2.2.2.2.2
        go_wp2_with (fail)
        go_ret
        exact ⟨ret_bool HE.out.symm, HB1.out⟩
    · have dlt : decide ((k : Int) < (l.length : Int) - 1) = false := decide_eq_false (by omega)
      have HE := Bx.mk (incA_yes (l := l) (fun i hi => HK.out i (by omega)))
      clear HK
      go_wp2_with (fail)
      go_ret
      exact ⟨ret_bool HE.out.symm, HW.out⟩
end Go.Proofs.Ytpbgjlmcafmejaa
