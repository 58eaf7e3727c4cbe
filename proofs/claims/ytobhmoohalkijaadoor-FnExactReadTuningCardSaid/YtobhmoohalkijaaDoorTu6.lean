/- A valid tuning, as the model tells it. -/
import Derived.Test.YtobhmoohalkijaaDoorTu4
import Derived.Test.YtobhmoohalkijaaDoorRatE
import Derived.Test.YtobhmoohalkijaaDoorName
namespace Go.Proofs.YtobhmoohalkijaaDoor
open Go.ChangeShapes Go.WideShapes Go.ChangeAt Go.RowKit
set_option linter.unusedVariables false
set_option linter.unusedSimpArgs false
set_option maxRecDepth 100000

/-- the ratio of a tone is as it should be -/
def okTi (l : List (Int × Int)) (i : Nat) : Bool := okR (pat l i).1 (pat l i).2 && (decide ((pat l i).1 < 2 * (pat l i).2) && (decide (i = 0) || decide (cmpR (pat l (i - 1)).1 (pat l (i - 1)).2 (pat l i).1 (pat l i).2 < 0)))
/-- a valid tuning -/
def tunB (s : List UInt8) (l : List (Int × Int)) : Bool := nmB s && (decide (l.length = 12) && ((List.range 12).all (okTi l) && ((pat l 0).1 == 1 && (pat l 0).2 == 1)))
theorem tun_yes {s : List UInt8} {l : List (Int × Int)} (h : tunB s l = true) : nmB s = true ∧ l.length = 12 ∧ (∀ i, i < 12 → okTi l i = true) ∧ pat l 0 = (1, 1) := by
  unfold tunB at h
  simp only [Bool.and_eq_true, decide_eq_true_eq, List.all_eq_true, List.mem_range, beq_iff_eq] at h
  exact ⟨h.1, h.2.1, h.2.2.1, Prod.ext h.2.2.2.1 h.2.2.2.2⟩
theorem okTi_yes {l : List (Int × Int)} {i : Nat} (h : okTi l i = true) : okR (pat l i).1 (pat l i).2 = true ∧ (pat l i).1 < 2 * (pat l i).2 ∧ (0 < i → cmpR (pat l (i - 1)).1 (pat l (i - 1)).2 (pat l i).1 (pat l i).2 < 0) := by
  unfold okTi at h
  simp only [Bool.and_eq_true, Bool.or_eq_true, decide_eq_true_eq] at h
  exact ⟨h.1, h.2.1, fun h0 => h.2.2.resolve_left (by omega)⟩
theorem tun_no {s : List UInt8} {l : List (Int × Int)} {i : Nat} (hi : i < 12) (h : okTi l i = false) : tunB s l = false := by
  cases ht : tunB s l
  · rfl
  · have := (tun_yes ht).2.2.1 i hi
    rw [h] at this; cases this
theorem tun_end {s : List UInt8} {l : List (Int × Int)} (hn : nmB s = true) (hl : l.length = 12) (h : ∀ i, i < 12 → okTi l i = true) : tunB s l = ((pat l 0).1 == 1 && (pat l 0).2 == 1) := by
  unfold tunB
  rw [hn, decide_eq_true hl, show (List.range 12).all (okTi l) = true by simpa [List.all_eq_true] using h]
  simp
theorem quiet_t {P : Program} {f : FuncId} {args : Array Value} {w : World} {n : Nat} {v : Value}
    (h : Calls P f args (w.drewN n) fun e w' => e = .returned v ∧ ∃ m, w' = (w.drewN n).drewN m) : Calls P f args (w.drewN n) fun e w'' => e = .returned v ∧ ∃ m, w'' = w.drewN m :=
  h.mono fun _ _ ⟨he, m, hm⟩ => ⟨he, n + m, by rw [hm]; exact World.drewN_drewN ..⟩
theorem drew_t {w wr : World} (h : ∃ n, wr = w.drewN n) (m : Nat) : ∃ n, wr.drewN m = w.drewN n := by
  obtain ⟨n, rfl⟩ := h
  exact ⟨n + m, World.drewN_drewN ..⟩
set_option maxHeartbeats 2000000 in
theorem spec_tok (g : Nat) (s : ByteArray) (v : Value) (l : List (Int × Int)) (w : World) (h0 : w.cell? ⟨g, 0, none⟩ = some (.string s)) (h1 : w.cell? ⟨g, 1, none⟩ = some v) (h : PrsAt w v l) (hs : s.size ≤ maxLen) (hm : l.length ≤ 281474976710656) :
    Calls Tryd.prog 53 #[.pointer (some ⟨g, 0, none⟩)] w fun e w' => e = .returned (.bool (tunB s.data.toList l)) ∧ ∃ n, w' = w.drewN n := by
  have hnm := fun W => spec_name s W hs
  cases hn : nmB s.data.toList
  · have HE : Bx (tunB s.data.toList l = false) := Bx.mk (by simp [tunB, hn])
    rw [hn] at hnm
    obtain ⟨A, c, rfl⟩ := prs_len h
    clear hn h hs
    go_enter Tryd.func53, Tryd.ntmps53
    go_wp2_with (fail)
    refine (hnm _).mono ?_
    rintro e w' ⟨rfl, rfl⟩
    go_wp2_with (fail)
    go_ret
    exact ⟨ret_bool HE.out.symm, 0, rfl⟩
  · rw [hn] at hnm
    by_cases hl : l.length = 12
    · obtain ⟨b, o, c, rfl, hb, hc⟩ : ∃ b o c, v = .slice (some ⟨b, o, none⟩) 12 c ∧ b < w.heap.size ∧ ∀ k, k < 12 → w.cell? ⟨b, o + k * 2, none⟩ = some (.int .i64 (pat l k).1) ∧ w.cell? ⟨b, o + k * 2 + 1, none⟩ = some (.int .i64 (pat l k).2) := by
        rcases h with ⟨rfl, _⟩ | ⟨b, o, c, h1, h2, h3⟩
        · cases hl
        · rw [hl] at h1 h3; exact ⟨b, o, c, h1, h2, h3⟩
      have HT := Bx.mk (fun (h : ∀ i, i < 12 → okTi l i = true) => tun_end (s := s.data.toList) hn hl h)
      have HN := Bx.mk (fun i hi h => tun_no (s := s.data.toList) (l := l) (i := i) hi h)
      have HC := Bx.mk hc
      generalize tunB s.data.toList l = res at *
      clear h hn hc hm hs
      go_enter Tryd.func53, Tryd.ntmps53
      go_wp2_with (fail)
      refine (hnm _).mono ?_
      rintro e w' ⟨rfl, rfl⟩
      go_wp2_with (fail)
      go_loopw [3] (fun i wr => ∃ k : Nat, k ≤ 12 ∧ i = .int .i64 k ∧ Bx (∀ i, i < k → okTi l i = true) ∧ Bx (∃ n, wr = w.drewN n)) (fun i _ => 12 - (intOf i).toNat)
      case atStart => exact ⟨0, by omega, rfl, Bx.mk (fun i hi => by omega), Bx.mk ⟨0, rfl⟩⟩
      case round =>
        obtain ⟨k, hk, rfl, HK, HW⟩ := hrel
        have h0 : wr.cell? ⟨g, 0, none⟩ = some (.string s) := by obtain ⟨n, rfl⟩ := HW.out; exact h0
        have h1 : wr.cell? ⟨g, 1, none⟩ = some (.slice (some ⟨b, o, none⟩) 12 c) := by obtain ⟨n, rfl⟩ := HW.out; exact h1
        have HC : Bx (∀ k, k < 12 → wr.cell? ⟨b, o + k * 2, none⟩ = some (.int .i64 (pat l k).1) ∧ wr.cell? ⟨b, o + k * 2 + 1, none⟩ = some (.int .i64 (pat l k).2)) := Bx.mk (by obtain ⟨n, rfl⟩ := HW.out; exact HC.out)
        by_cases hlt : k < 12
        · have c0 := (HC.out k hlt).1
          have c1 := (HC.out k hlt).2
          have HN1 := Bx.mk (HN.out k hlt)
          have HI : Bx (okTi l k = (okR (pat l k).1 (pat l k).2 && (decide ((pat l k).1 < 2 * (pat l k).2) && (decide (k = 0) || decide (cmpR (pat l (k - 1)).1 (pat l (k - 1)).2 (pat l k).1 (pat l k).2 < 0))))) := Bx.mk rfl
          have HS : Bx (okTi l k = true → ∀ i, i < k + 1 → okTi l i = true) := Bx.mk (fun h i hi => by
            rcases Nat.lt_or_ge i k with h2 | h2
            · exact HK.out i h2
            · rw [show i = k by omega]; exact h)
          have HQ : Bx (0 < k → okR (pat l (k - 1)).1 (pat l (k - 1)).2 = true) := Bx.mk (fun h => (okTi_yes (HK.out (k - 1) (by omega))).1)
          have d0 : 0 < k → wr.cell? ⟨b, o + (k - 1) * 2, none⟩ = some (.int .i64 (pat l (k - 1)).1) := fun h => (HC.out (k - 1) (by omega)).1
          have d1 : 0 < k → wr.cell? ⟨b, o + (k - 1) * 2 + 1, none⟩ = some (.int .i64 (pat l (k - 1)).2) := fun h => (HC.out (k - 1) (by omega)).2
          generalize (pat l k).1 = p1 at *
          generalize (pat l k).2 = p2 at *
          generalize (pat l (k - 1)).1 = q1 at *
          generalize (pat l (k - 1)).2 = q2 at *
          have hq := fun m => spec_ok b (o + k * 2) p1 p2 (wr.drewN m) c0 c1
          cases hok : okR p1 p2
          · have HE : Bx (res = false) := Bx.mk (HN1.out (by rw [HI.out, hok]; rfl))
            rw [hok] at hq
            clear hok HN1 HI HS HQ d0 d1 HT HN HK HC
            go_wp2_with (fail)
            go_quiet ((go_at_call 85; exact quiet_t (hq _)))
            go_wp2_with (fail)
            go_ret
            exact ⟨ret_bool HE.out.symm, drew_t HW.out _⟩
          · rw [hok] at hq
            obtain ⟨b1, b2, _⟩ := okR_yes hok
            obtain ⟨b11, b12⟩ := b1
            obtain ⟨b21, b22⟩ := b2
            have E1 : IntKind.i64.wrap (2 * p2) = 2 * p2 := IntWalk.i64_in _ (by omega)
            by_cases hlt2 : p1 < 2 * p2
            · have x1 : decide (p1 ≥ 2 * p2) = false := decide_eq_false (by omega)
              have x2 : decide (2 * p2 ≤ p1) = false := decide_eq_false (by omega)
              by_cases hk0 : k = 0
              · have y1 : decide ((k : Int) > 0) = false := decide_eq_false (by omega)
                have y2 : decide (0 < (k : Int)) = false := decide_eq_false (by omega)
                have y3 : decide (k > 0) = false := decide_eq_false (by omega)
                have y4 : decide (0 < k) = false := decide_eq_false (by omega)
                have HE : Bx (∀ i, i < k + 1 → okTi l i = true) := Bx.mk (HS.out (by rw [HI.out, hok]; simp [hlt2, hk0]))
                clear hok HN1 HI HS HQ d0 d1 HT HN HK hlt2 hk0
                go_wp2_with (fail)
                go_quiet ((go_at_call 85; exact quiet_t (hq _)))
                go_wp2_with (fail)
                go_roundw
                case rel => exact ⟨k + 1, by omega, by go_num, HE, Bx.mk (drew_t HW.out _)⟩
                case measure => simp [intOf]; omega
              · obtain ⟨j, rfl⟩ : ∃ j, k = j + 1 := ⟨k - 1, by omega⟩
                have y1 : decide (((j + 1 : Nat) : Int) > 0) = true := decide_eq_true (by omega)
                have y2 : decide (0 < ((j + 1 : Nat) : Int)) = true := decide_eq_true (by omega)
                have y3 : decide (j + 1 > 0) = true := decide_eq_true (by omega)
                have y4 : decide (0 < j + 1) = true := decide_eq_true (by omega)
                have y5 : decide (0 < (j : Int) + 1) = true := decide_eq_true (by omega)
                have y6 : decide ((j : Int) + 1 > 0) = true := decide_eq_true (by omega)
                have d0 := d0 (by omega)
                have d1 := d1 (by omega)
                rw [Nat.add_sub_cancel] at d0 d1
                obtain ⟨e1, e2, _⟩ := okR_yes (HQ.out (by omega))
                have hcm := fun m => spec_cmp0 b b (o + j * 2) (o + (j + 1) * 2) q1 q2 p1 p2 (wr.drewN m) d0 d1 c0 c1 e1 e2 ⟨b11, b12⟩ ⟨b21, b22⟩
                clear e1 e2
                generalize cmpR q1 q2 p1 p2 = cc at *
                have J0 : ((j + 1 : Nat) : Int) - 1 = (j : Int) := by omega
                by_cases hcc : cc < 0
                · have z1 : decide (cc ≥ 0) = false := decide_eq_false (by omega)
                  have z2 : decide (0 ≤ cc) = false := decide_eq_false (by omega)
                  have HE : Bx (∀ i, i < j + 1 + 1 → okTi l i = true) := Bx.mk (HS.out (by rw [HI.out, hok]; simp [hlt2, hcc]))
                  clear hok HN1 HI HS HQ HT HN HK hlt2 hk0 hcc
                  go_wp2_with (fail)
                  go_quiet (first | (go_at_call 85; exact quiet_t (hq _)) | (go_at_call 87; exact quiet_t (hcm _)))
                  go_wp2_with (fail)
                  go_roundw
                  case rel => exact ⟨j + 1 + 1, by omega, by go_num, HE, Bx.mk (drew_t HW.out _)⟩
                  case measure => simp [intOf]; omega
                · have z1 : decide (cc ≥ 0) = true := decide_eq_true (by omega)
                  have z2 : decide (0 ≤ cc) = true := decide_eq_true (by omega)
                  have HE : Bx (res = false) := Bx.mk (HN1.out (by rw [HI.out, hok]; simp [hlt2]; omega))
                  clear hok HN1 HI HS HQ HT HN HK hlt2 hk0 hcc
                  go_wp2_with (fail)
                  go_quiet (first | (go_at_call 85; exact quiet_t (hq _)) | (go_at_call 87; exact quiet_t (hcm _)))
                  go_wp2_with (fail)
                  go_ret
                  exact ⟨ret_bool HE.out.symm, drew_t HW.out _⟩
            · have x1 : decide (p1 ≥ 2 * p2) = true := decide_eq_true (by omega)
              have x2 : decide (2 * p2 ≤ p1) = true := decide_eq_true (by omega)
              have HE : Bx (res = false) := Bx.mk (HN1.out (by rw [HI.out, hok]; simp [hlt2]))
              clear hok HN1 HI HS HQ d0 d1 HT HN HK HC
              go_wp2_with (fail)
              go_quiet ((go_at_call 85; exact quiet_t (hq _)))
              go_wp2_with (fail)
              go_ret
              exact ⟨ret_bool HE.out.symm, drew_t HW.out _⟩
        · obtain rfl : k = 12 := by omega
          have h00 := (HC.out 0 (by omega)).1
          have h01 := (HC.out 0 (by omega)).2
          have HE := Bx.mk (HT.out HK.out)
          generalize (pat l 0).1 = x at *
          generalize (pat l 0).2 = y at *
          rw [Nat.zero_mul, Nat.add_zero] at h00 h01
          clear HT HN HC HK
          go_wp2_with (fail)
          all_goals
            go_ret
            exact ⟨ret_bool (by rw [HE.out]; simp_all), HW.out⟩
    · have HE : Bx (tunB s.data.toList l = false) := Bx.mk (by simp [tunB, hl])
      obtain ⟨A, c, rfl⟩ := prs_len h
      have hne : ((l.length : Int) != 12) = true := by simp; omega
      clear hn h hs
      go_enter Tryd.func53, Tryd.ntmps53
      go_wp2_with (fail)
      refine (hnm _).mono ?_
      rintro e w' ⟨rfl, rfl⟩
      go_wp2_with (fail)
      go_ret
      exact ⟨ret_bool HE.out.symm, 0, rfl⟩
end Go.Proofs.YtobhmoohalkijaaDoor
