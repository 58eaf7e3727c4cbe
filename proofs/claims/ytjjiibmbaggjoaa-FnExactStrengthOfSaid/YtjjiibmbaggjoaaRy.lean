/- StrengthOf on both sides. -/
import Derived.Test.YtjjiibmbaggjoaaRw2
namespace Go.Proofs.Ytjjiibmbaggjoaa
open Go.ChangeShapes Go.WideShapes Go.ChangeAt Go.RowKit
set_option linter.unusedVariables false
set_option linter.unusedSimpArgs false
set_option maxRecDepth 100000

/-- how many of the first k pitches have a tone -/
def cntK (zs : List Int) (t : Int) : Nat → Nat
  | 0 => 0
  | k + 1 => cntK zs t k + (if zs.getD k 0 % 12 = t then 1 else 0)
theorem cnt_le (zs : List Int) (t : Int) (k : Nat) : cntK zs t k ≤ k := by
  induction k with
  | zero => exact Nat.le_refl _
  | succ k ih => unfold cntK; split <;> omega
def strE (R : Rg) (zs : List Int) : Int × Int × Int :=
  if okG R = true then (if pitB zs = true then ((cntK zs R.x zs.length : Int), (cntK zs R.y zs.length : Int), 0) else (0, 0, 7)) else (0, 0, 1)
set_option maxHeartbeats 4000000 in
theorem spec_strength (v u : Value) (R : Rg) (zs : List Int) (w : World) (h : RgAt w v R) (hm : Sm R) (hu : IntsAt w u zs) (hz : zs.length ≤ 1048576) :
    Calls Try.prog 39 #[v, u] w (Out3 (strE R zs) w) := by
  obtain ⟨A, a, B, b, C, c, rfl, i1, i2, i3⟩ := rg_form h
  obtain ⟨D, d, rfl⟩ := ints_form hu
  have hb : Below w.heap.size w (w.alloc (.cells #[.string R.s, .slice A R.u.length a, .slice B R.d.length b, .int .i64 R.x, .int .i64 R.y, .slice C R.f.length c] 28)) := (Below.refl _ _).alloc (Nat.le_refl _) _
  have HX := BoxN.at w w.heap.size #[.string R.s, .slice A R.u.length a, .slice B R.d.length b, .int .i64 R.x, .int .i64 R.y, .slice C R.f.length c] 28 rfl
  generalize hW : w.alloc (.cells #[.string R.s, .slice A R.u.length a, .slice B R.d.length b, .int .i64 R.x, .int .i64 R.y, .slice C R.f.length c] 28) = W at hb HX
  have hk := spec_ask w.heap.size R _ zs W ⟨_, HX, h.below hb⟩ hm (hu.below hb) hz
  have HXB := Bx.mk HX
  have HB := Bx.mk hb
  have HI := Bx.mk (hu.below hb)
  clear h i1 i2 i3 hm HX hb hu
  cases e0 : okG R
  · have HE : Bx (strE R zs = (0, 0, 1)) := Bx.mk (by unfold strE; rw [e0]; rfl)
    rw [show askZ R zs = 1 by unfold askZ; rw [e0]; rfl] at hk
    clear e0
    go_enter Try.func39, Try.ntmps39
    go_wp2_with (fail)
    refine hk.mono ?_
    rintro r w1 ⟨rfl, n, rfl⟩
    go_wp2_with (fail)
    go_returns
    exact out3 HE.out (below_draws HB.out _)
  · cases e1 : pitB zs
    · have HE : Bx (strE R zs = (0, 0, 7)) := Bx.mk (by unfold strE; rw [e0, e1]; rfl)
      rw [show askZ R zs = 7 by unfold askZ; rw [e0, e1]; rfl] at hk
      clear e0 e1
      go_enter Try.func39, Try.ntmps39
      go_wp2_with (fail)
      refine hk.mono ?_
      rintro r w1 ⟨rfl, n, rfl⟩
      go_wp2_with (fail)
      go_returns
      exact out3 HE.out (below_draws HB.out _)
    · have HE : Bx (strE R zs = ((cntK zs R.x zs.length : Int), (cntK zs R.y zs.length : Int), 0)) := Bx.mk (by unfold strE; rw [e0, e1]; rfl)
      have HNE := Bx.mk (ok_yes e0).ne
      have hz64 := (pit_yes e1).1
      have hto := fun z W => spec_tone z W
      rw [show askZ R zs = 0 by unfold askZ; rw [e0, e1]; rfl] at hk
      clear e0 e1
      go_enter Try.func39, Try.ntmps39
      go_wp2_with (fail)
      refine hk.mono ?_
      rintro r w1 ⟨rfl, n, rfl⟩
      go_wp2_with (fail)
      go_loopw [8, 9, 10] (fun s t i wr => ∃ k : Nat, k ≤ zs.length ∧ i = .int .i64 k ∧ s = .int .i64 (cntK zs R.x k : Nat) ∧ t = .int .i64 (cntK zs R.y k : Nat) ∧ Bx (wr = W.drewN n)) (fun _ _ i _ => zs.length - (intOf i).toNat)
      case atStart => exact ⟨0, Nat.zero_le _, rfl, rfl, rfl, Bx.mk rfl⟩
      case round =>
        obtain ⟨k, hk, rfl, rfl, rfl, HW⟩ := hrel
        by_cases hlt : k < zs.length
        · obtain ⟨bb, o, cc, hv, lb, hc⟩ := HI.out.form (by omega)
          injection hv with hA _ hC
          subst hA hC
          have h1 : wr.cell? ⟨bb, o + k, none⟩ = some (.int .i64 (zs.getD k 0)) := by rw [HW.out]; exact hc k hlt
          have h3 : wr.cell? ⟨w.heap.size, 3, none⟩ = some (.int .i64 R.x) := by rw [HW.out]; exact HXB.out.c (k := 3) rfl
          have h4 : wr.cell? ⟨w.heap.size, 4, none⟩ = some (.int .i64 R.y) := by rw [HW.out]; exact HXB.out.c (k := 4) rfl
          have k1 : (0 : Int) ≤ (k : Int) := by omega
          have k2 : (k : Int) < (zs.length : Int) := by omega
          have l1 := cnt_le zs R.x k
          have l2 := cnt_le zs R.y k
          have w1 : IntKind.i64.wrap ((cntK zs R.x k : Nat) + 1 : Int) = ((cntK zs R.x k + 1 : Nat) : Int) := by rw [IntWalk.i64_in _ (by omega)]; omega
          have w2 : IntKind.i64.wrap ((cntK zs R.y k : Nat) + 1 : Int) = ((cntK zs R.y k + 1 : Nat) : Int) := by rw [IntWalk.i64_in _ (by omega)]; omega
          have s1 : cntK zs R.x (k + 1) = cntK zs R.x k + (if zs.getD k 0 % 12 = R.x then 1 else 0) := rfl
          have s2 : cntK zs R.y (k + 1) = cntK zs R.y k + (if zs.getD k 0 % 12 = R.y then 1 else 0) := rfl
          have S := Bx.mk (And.intro s1 s2)
          have ht := fun W => hto (zs.getD k 0) W
          clear hc HI s1 s2 hto
          generalize cntK zs R.x k = m1 at *
          generalize cntK zs R.y k = m2 at *
          generalize zs.getD k 0 = z at *
          generalize z % 12 = tz at *
          by_cases hx : tz = R.x
          · have e1 : (tz == R.x) = true := by simpa using hx
            have S1 : Bx (m1 + 1 = cntK zs R.x (k + 1) ∧ m2 = cntK zs R.y (k + 1)) := Bx.mk (by
              have := S.out
              rw [if_pos hx, if_neg (by rw [hx]; exact HNE.out)] at this
              omega)
            clear S hx
            go_wp2_with (fail)
            refine (ht _).mono ?_
            rintro r w5 ⟨rfl, rfl⟩
            go_wp2_with (fail)
            go_roundw
            case rel => exact ⟨k + 1, by omega, by go_num, by first | (rw [← S1.out.1]; done) | (have h := S1.out.1; simp only [Value.int.injEq, true_and]; omega), by first | (rw [← S1.out.2]; done) | (have h := S1.out.2; simp only [Value.int.injEq, true_and]; omega), HW⟩
            case measure => simp [intOf]; omega
          · have e1 : (tz == R.x) = false := by simpa using hx
            by_cases hy : tz = R.y
            · have e2 : (tz == R.y) = true := by simpa using hy
              have S1 : Bx (m1 = cntK zs R.x (k + 1) ∧ m2 + 1 = cntK zs R.y (k + 1)) := Bx.mk (by
                have := S.out
                rw [if_neg hx, if_pos hy] at this
                omega)
              clear S hx hy
              go_wp2_with (fail)
              refine (ht _).mono ?_
              rintro r w5 ⟨rfl, rfl⟩
              go_wp2_with (fail)
              go_roundw
              case rel => exact ⟨k + 1, by omega, by go_num, by first | (rw [← S1.out.1]; done) | (have h := S1.out.1; simp only [Value.int.injEq, true_and]; omega), by first | (rw [← S1.out.2]; done) | (have h := S1.out.2; simp only [Value.int.injEq, true_and]; omega), HW⟩
              case measure => simp [intOf]; omega
            · have e2 : (tz == R.y) = false := by simpa using hy
              have S1 : Bx (m1 = cntK zs R.x (k + 1) ∧ m2 = cntK zs R.y (k + 1)) := Bx.mk (by
                have := S.out
                rw [if_neg hx, if_neg hy] at this
                omega)
              clear S hx hy
              go_wp2_with (fail)
              refine (ht _).mono ?_
              rintro r w5 ⟨rfl, rfl⟩
              go_wp2_with (fail)
              go_roundw
              case rel => exact ⟨k + 1, by omega, by go_num, by first | (rw [← S1.out.1]; done) | (have h := S1.out.1; simp only [Value.int.injEq, true_and]; omega), by first | (rw [← S1.out.2]; done) | (have h := S1.out.2; simp only [Value.int.injEq, true_and]; omega), HW⟩
              case measure => simp [intOf]; omega
        · obtain rfl : k = zs.length := by omega
          go_wp2_with (fail)
          go_returns
          exact out3 HE.out (by rw [HW.out]; exact below_draws HB.out _)
/-- the counts of the twelve tones -/
def cntA (zs : List Int) (k : Nat) : Array Value := ((List.range 12).map fun (t : Nat) => Value.int .i64 (cntK zs (t : Int) k : Nat)).toArray
theorem cnt_at (zs : List Int) (k t : Nat) (h : t < 12) : (cntA zs k)[t]? = some (.int .i64 (cntK zs (t : Int) k : Nat)) := by
  simp [cntA, h]
theorem cnt_step (zs : List Int) (k t : Nat) (h : t < 12) (e : zs.getD k 0 % 12 = (t : Int)) : (cntA zs k).setIfInBounds t (.int .i64 (cntK zs (t : Int) k + 1 : Nat)) = cntA zs (k + 1) := by
  apply Array.ext'
  unfold cntA
  simp only [Array.toList_setIfInBounds]
  apply List.ext_getElem?
  intro i
  have h1 : cntK zs (t : Int) (k + 1) = cntK zs (t : Int) k + 1 := by
    show cntK zs (t : Int) k + (if zs.getD k 0 % 12 = (t : Int) then 1 else 0) = _
    rw [if_pos e]
  have h0 : ∀ i : Nat, t ≠ i → cntK zs (i : Int) (k + 1) = cntK zs (i : Int) k := fun i hi => by
    show cntK zs (i : Int) k + (if zs.getD k 0 % 12 = (i : Int) then 1 else 0) = _
    rw [if_neg (by rw [e]; omega)]; rfl
  by_cases hi : i < 12
  · rw [List.getElem?_set]
    by_cases hti : t = i
    · subst hti
      simp only [if_true, List.length_map, List.length_range, hi, List.getElem?_map, List.getElem?_range, Option.map_some, h1]
    · simp only [if_neg hti, List.getElem?_map, List.getElem?_range hi, Option.map_some, h0 i hti]
  · rw [List.getElem?_eq_none (by simp; omega), List.getElem?_eq_none (by simp; omega)]
end Go.Proofs.Ytjjiibmbaggjoaa
