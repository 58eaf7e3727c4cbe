/- The helpers of the law FnBasics: r8Long, r8At, r8Wide, r8Abs, r8Same. -/
import Derived.Test.YtfogcabhafhlmaaDoorSrc
import Derived.Test.YtfogcabhafhlmaaDoorBasMath
import Derived.Test.YtfogcabhafhlmaaDoorRoot
namespace Go.Proofs.YtfogcabhafhlmaaDoor
open Go.ChangeShapes Go.WideShapes Go.ChangeAt Go.RowKit
set_option linter.unusedVariables false

theorem r8_abs (n : Int) (w : World) (h : -1000000000000000 ≤ n ∧ n ≤ 1000000000000000) :
    Calls Tryd.prog 14 #[.int .i64 n] w fun e w' => e = .returned (.int .i64 (max n (-n))) ∧ w = w' := by
  obtain ⟨h1, h2⟩ := h
  go_enter Tryd.func14, Tryd.ntmps14
  go_wp2
  go_ret
  exact ⟨rfl, rfl⟩

theorem r8_at (v : Value) (n : Nat) (k : Nat) (w : World) (h : BytesAt w v n) (hn : n ≤ 281474976710656) (hk : (k : Int) ≤ 1000000) :
    Calls Tryd.prog 42 #[v, .int .i64 k, .int .i64 256] w fun e w' => (∃ x : Int, e = .returned (.int .i64 x) ∧ 0 ≤ x ∧ x ≤ 255) ∧ w = w' := by
  obtain ⟨A, c, rfl, hA⟩ := h
  by_cases hlt : k < n
  · obtain ⟨b, o, rfl, hb, hx⟩ := hA (by omega)
    obtain ⟨x, hc, hx0, hx1⟩ := hx k hlt
    clear hx hA
    go_enter Tryd.func42, Tryd.ntmps42
    go_wp2
    go_ret
    exact ⟨⟨x % 256, rfl, by omega, by omega⟩, rfl⟩
  · clear hA
    go_enter Tryd.func42, Tryd.ntmps42
    go_wp2
    go_ret
    exact ⟨⟨0, rfl, by omega, by omega⟩, rfl⟩
theorem r8_wide (v : Value) (n : Nat) (k : Nat) (m : Int) (w : World) (h : BytesAt w v n) (hn : n ≤ 281474976710656) (hk : (k : Int) ≤ 100000) (hm : 1 ≤ m ∧ m ≤ 100000) :
    Calls Tryd.prog 15 #[v, .int .i64 k, .int .i64 m] w fun e w' => (∃ x : Int, e = .returned (.int .i64 x) ∧ 0 ≤ x ∧ x < m) ∧ w = w' := by
  have H := Bx.mk h
  clear h
  obtain ⟨m1, m2⟩ := hm
  go_enter Tryd.func15, Tryd.ntmps15
  go_wp2_with (fail)
  refine (r8_at v n k w H.out hn (by omega)).mono ?_
  rintro e w' ⟨⟨x, rfl, x0, x1⟩, rfl⟩
  go_wp2_with (fail)
  refine (r8_at v n (k + 1) w H.out hn (by omega)).mono ?_
  rintro e w' ⟨⟨y, rfl, y0, y1⟩, rfl⟩
  go_wp2_with (fail)
  go_ret
  exact ⟨⟨(256 * x + y) % m, rfl, Int.emod_nonneg _ (by omega), Int.emod_lt_of_pos _ (by omega)⟩, rfl⟩
theorem r8_wide_at (K : Int) (v : Value) (n : Nat) (k : Nat) (hK : K = (k : Int)) (m : Int) (w : World) (h : BytesAt w v n) (hn : n ≤ 281474976710656) (hk : (k : Int) ≤ 100000) (hm : 1 ≤ m ∧ m ≤ 100000) :
    Calls Tryd.prog 15 #[v, .int .i64 K, .int .i64 m] w fun e w' => (∃ x : Int, e = .returned (.int .i64 x) ∧ 0 ≤ x ∧ x < m) ∧ w = w' := by
  subst hK; exact r8_wide v n k m w h hn hk hm
/-- what r8Long answers -/
def LongOut (n m : Nat) (w : World) (e : Ending) (w' : World) : Prop := (∃ b : Bool, e = .returned (.bool b) ∧ (b = false → (n : Int) ≤ 1048576 ∧ (m : Int) ≤ 1048576)) ∧ w = w'
theorem r8_long (A B : Option Addr) (n m c d : Nat) (w : World) (hn : (n : Int) ≤ 9223372036854775807) (hm : (m : Int) ≤ 9223372036854775807) :
    Calls Tryd.prog 10 #[.slice A n c, .slice B m d] w (LongOut n m w) := by
  by_cases h1 : (1048576 : Int) < n
  · go_enter Tryd.func10, Tryd.ntmps10
    go_wp2
    go_ret
    exact ⟨⟨true, rfl, by simp⟩, rfl⟩
  · by_cases h2 : (1048576 : Int) < m
    · go_enter Tryd.func10, Tryd.ntmps10
      go_wp2
      go_ret
      exact ⟨⟨true, rfl, by simp⟩, rfl⟩
    · go_enter Tryd.func10, Tryd.ntmps10
      go_wp2
      go_ret
      exact ⟨⟨false, rfl, fun _ => ⟨by omega, by omega⟩⟩, rfl⟩
set_option maxRecDepth 100000 in
/-- r8Same is eqInt64S once more -/
theorem r8_same (va vb : Value) (xs : List Int) (w : World) (ha : IntsAt w va xs) (hb : IntsAt w vb xs) (hx : xs.length ≤ 281474976710656) :
    Calls Tryd.prog 21 #[va, vb] w fun e w' => e = .returned (.bool true) ∧ ∃ n, w' = w.drewN n := by
  rcases ha with ⟨rfl, A, c, rfl⟩ | ⟨b1, o1, c1, rfl, _, h1⟩
  · obtain ⟨B, c', rfl⟩ : ∃ B c', vb = .slice B 0 c' := by
      rcases hb with ⟨_, B, c', h⟩ | ⟨b, o, c', h, _⟩
      · exact ⟨B, c', h⟩
      · exact ⟨_, c', h⟩
    clear hb hx
    go_enter Tryd.func21, Tryd.ntmps21
    go_wp2
    refine wp_loop_rounds 1 ?_
    rw [rounds_succ]
    go_wp2
    go_ret
    exact ⟨rfl, 0, rfl⟩
  · rcases hb with ⟨rfl, B, c', rfl⟩ | ⟨b2, o2, c2, rfl, _, h2⟩
    · clear hx h1
      go_enter Tryd.func21, Tryd.ntmps21
      go_wp2
      refine wp_loop_rounds 1 ?_
      rw [rounds_succ]
      go_wp2
      go_ret
      exact ⟨rfl, 0, rfl⟩
    · have H1 := Bx.mk h1
      have H2 := Bx.mk h2
      clear h1 h2
      go_enter Tryd.func21, Tryd.ntmps21
      go_wp2
      go_loopw [5] (fun i wr => ∃ k n : Nat, k ≤ xs.length ∧ i = .int .i64 k ∧ wr = w.drewN n) (fun i _ => xs.length - (intOf i).toNat)
      case atStart => exact ⟨0, 0, Nat.zero_le _, rfl, rfl⟩
      case round =>
        obtain ⟨k, n, hk, rfl, rfl⟩ := hrel
        by_cases hlt : k < xs.length
        · have c1 := H1.out k hlt
          have c2 := H2.out k hlt
          generalize xs.getD k 0 = p at c1 c2
          go_wp2
          go_quiet (fail)
          go_wp2
          go_roundw
          case rel => exact ⟨k + 1, _, by omega, by go_num, rfl⟩
          case measure => simp [intOf]; omega
        · obtain rfl : k = xs.length := by omega
          go_wp2
          go_ret
          exact ⟨rfl, n, rfl⟩

theorem BytesAt.below {w w' : World} {v : Value} {n : Nat} (h : BytesAt w v n) (hb : Below w.heap.size w w') : BytesAt w' v n := by
  obtain ⟨A, c, e, h⟩ := h
  refine ⟨A, c, e, fun h0 => ?_⟩
  obtain ⟨b, o, e, hl, hx⟩ := h h0
  exact ⟨b, o, e, Nat.lt_of_lt_of_le hl hb.size, fun k hk => by
    obtain ⟨x, hc, hr⟩ := hx k hk
    exact ⟨x, (hb.cell (p := ⟨b, o + k, none⟩) hl).trans hc, hr⟩⟩
/-- what RootOf answers -/
def RootOut (a : Int) (w : World) (e : Ending) (w' : World) : Prop := (∃ r : Int, e = .returned (.int .i64 r) ∧ (a < 0 → r = 0) ∧ (0 ≤ a → (0 ≤ r ∧ r ≤ 70000) ∧ r * r ≤ a ∧ a < (r + 1) * (r + 1) ∧ (r + 1) * (r + 1) ≤ 10000000000 ∧ 0 ≤ r * r)) ∧ w = w'
theorem root_small (a r : Int) (ha : a ≤ 4000000000) (h : IsRoot a r) : (0 ≤ r ∧ r ≤ 70000) ∧ r * r ≤ a ∧ a < (r + 1) * (r + 1) ∧ (r + 1) * (r + 1) ≤ 10000000000 ∧ 0 ≤ r * r := by
  obtain ⟨h0, h1, h2⟩ := h
  have hr : r ≤ 70000 := by
    rcases (show r ≤ 70000 ∨ 70000 < r by omega) with h | h
    · exact h
    · have := Int.mul_le_mul (Int.le_of_lt h) (Int.le_of_lt h) (by omega) h0
      omega
  have := Int.mul_le_mul (show r + 1 ≤ 70001 by omega) (show r + 1 ≤ 70001 by omega) (by omega) (by omega)
  exact ⟨⟨h0, hr⟩, h1, h2, by omega, Int.mul_nonneg h0 h0⟩
theorem root_any (a : Int) (w : World) (ha : a ≤ 4000000000) : Calls Tryd.prog 12 #[.int .i64 a] w (RootOut a w) := by
  by_cases h : a < 0
  · refine (impl_root_neg a w h).mono ?_
    rintro e w' ⟨rfl, rfl⟩
    exact ⟨⟨0, rfl, fun _ => rfl, fun h0 => by omega⟩, rfl⟩
  · refine (impl_root a w (by omega) (Lib.hid (by omega))).mono ?_
    rintro e w' ⟨⟨r, rfl, hr⟩, rfl⟩
    exact ⟨⟨r, rfl, fun h0 => by omega, fun _ => root_small a r ha hr⟩, rfl⟩
theorem dround_in (a b : Int) (ha : -1000000000000 ≤ a ∧ a ≤ 1000000000000) (hb : 1 ≤ b ∧ b ≤ 1000000000000) : dround a b = dv a b := by
  have h1 : valB a = true := by unfold valB inB; simp; omega
  have h2 : valB b = true := by unfold valB inB; simp; omega
  have h3 : (b == 0) = false := by simp; omega
  simp [dround, h1, h2, h3]
theorem divround_in (a b : Int) (w : World) (ha : -1000000000000 ≤ a ∧ a ≤ 1000000000000) (hb : 1 ≤ b ∧ b ≤ 1000000000000) :
    Calls Tryd.prog 13 #[.int .i64 a, .int .i64 b] w fun e w' => e = .returned (.int .i64 (dv a b)) ∧ ∃ n, w' = w.drewN n := by
  have := impl_divround a b w
  rw [dround_in a b ha hb] at this
  exact this
theorem blend_in (y z x : Int) (w : World) (hy : -2500 ≤ y ∧ y ≤ 2500) (hz : -2500 ≤ z ∧ z ≤ 2500) :
    Calls Tryd.prog 16 #[.int .i64 0, .int .i64 y, .int .i64 1000, .int .i64 z, .int .i64 x] w fun e w' => e = .returned (.int .i64 (lineZ 0 y 1000 z x)) ∧ Below w.heap.size w w' := by
  have h := impl_blend 0 y 1000 z x w
  have e : blendZ 0 y 1000 z x = lineZ 0 y 1000 z x := by
    unfold blendZ; rw [if_pos]; unfold rngB inB; simp; omega
  rw [e] at h
  exact h

set_option maxRecDepth 100000 in
/-- a slice of bytes that came in -/
theorem arg_bytes {H : Type} {enc : TypeId × Value → H} {W : World} {b0 : Nat} {v : Value} {d : DataW H} {p : List MemPlace} (hval : Value.okWide Tryd.prog W .any b0 22 v)
    (h : DataW.Trod enc Tryd.prog W 0 (fun _ => true) true 22 v d p) (hlt : ∀ x ∈ p, x.block < W.heap.size) : ∃ n : Nat, BytesAt W v n ∧ n ≤ 9223372036854775807 := by
  obtain ⟨a0, len, cap, rfl⟩ := okWide_slice Tryd.underlying22 hval
  obtain ⟨fuel, hf⟩ := h
  rcases open_ints Tryd.underlying22 Tryd.underlying5 (by kernel_rfl) hf with ⟨hcs, hx⟩ | ⟨a, len', cap', zs, hcs, hzl, hl, hm, hz, hx, hcell, hwz⟩
  · simp [Value.cells] at hcs
    obtain ⟨rfl, rfl, rfl⟩ := hcs
    exact ⟨0, ⟨none, 0, rfl, fun h => absurd h (by omega)⟩, by omega⟩
  · simp [Value.cells] at hcs
    obtain ⟨rfl, rfl, rfl⟩ := hcs
    simp only [if_true] at hz
    simp only [Prod.mk.injEq] at hx
    obtain ⟨rfl, rfl⟩ := hx
    refine ⟨len, ⟨some a, cap, rfl, fun h0 => ?_⟩, by unfold maxLen at hm; omega⟩
    obtain ⟨b, off, spot⟩ := a
    have hspot : spot = none := by simpa [Addr.add] using World.cell?_spot (hcell 0 (by omega))
    subst hspot
    have hbW : b < W.heap.size := hlt (.cell b off) (MemPlace.mem_row.2 ⟨0, by omega, by simp⟩)
    refine ⟨b, off, rfl, hbW, fun k hk => ?_⟩
    have := hcell k (by omega)
    rw [show (⟨b, off, none⟩ : Addr).add k = ⟨b, off + k, none⟩ by unfold Addr.add; split <;> simp_all] at this
    have hw := hwz (zs.getD k 0) (by simp [List.getD, show k < zs.length by omega])
    simp [Lit.wf, IntKind.min, IntKind.max, IntKind.bits, IntKind.signed] at hw
    exact ⟨_, this, by simpa using hw⟩
end Go.Proofs.YtfogcabhafhlmaaDoor
