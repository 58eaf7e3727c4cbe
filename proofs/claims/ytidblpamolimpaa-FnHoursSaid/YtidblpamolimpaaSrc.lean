/- The model's choices out of bytes: (*l00Src).next and pick. -/
import Derived.Test.YtidblpamolimpaaRow
import Derived.Laws.BitsAllLaws
namespace Go.Proofs.Ytidblpamolimpaa
open Go.ChangeShapes Go.WideShapes Go.ChangeAt Go.RowKit
set_option linter.unusedVariables false
set_option linter.unusedSimpArgs false
set_option maxRecDepth 100000

/-- block g is a source of choices that has been asked at most T times -/
def Src (w : World) (g T : Nat) : Prop := ∃ (A : Option Addr) (n c at_ : Nat) (seed : Int), w.heap[g]? = some (.cells #[.slice A n c, .int .i64 at_, .int .u64 seed] 60 (0, 0)) ∧ at_ ≤ T ∧ n ≤ 281474976710656 ∧
  (0 ≤ seed ∧ seed ≤ 18446744073709551615) ∧ (0 < n → ∃ b o, A = some ⟨b, o, none⟩ ∧ b < g ∧ ∀ k, k < n → ∃ x : Int, w.cell? ⟨b, o + k, none⟩ = some (.int .u8 x) ∧ 0 ≤ x ∧ x ≤ 255)
def NextOut (g T : Nat) (w : World) (e : Ending) (w' : World) : Prop := ∃ x : Int, (0 ≤ x ∧ x ≤ 255) ∧ e = .returned (.int .i64 x) ∧ Src w' g (T + 1) ∧ w.grownBy w' (some g)

theorem wrap_u64_rng (z : Int) : 0 ≤ IntKind.u64.wrap z ∧ IntKind.u64.wrap z ≤ 18446744073709551615 := by
  simp [IntKind.wrap, IntKind.bits, IntKind.signed]; omega
theorem low_byte (sd : Int) (h : 0 ≤ sd ∧ sd ≤ 18446744073709551615) : ∃ x : Int, bits BinOp.and IntKind.u64 (sd / 1099511627776) 255 = x ∧ (0 ≤ x ∧ x ≤ 255) := by
  refine ⟨_, rfl, ?_⟩
  rw [u64_and _ _ (by omega) (by omega) (by omega) (by omega)]
  have : (sd / 1099511627776).toNat &&& (255 : Int).toNat ≤ 255 := Nat.and_le_right
  omega
theorem src_next {w : World} {g T : Nat} {A : Option Addr} {n c at_ : Nat} {seed sd : Int} (hblk : w.heap[g]? = some (.cells #[.slice A n c, .int .i64 at_, .int .u64 seed] 60 (0, 0))) (hat : at_ ≤ T) (hn : n ≤ 281474976710656)
    (hsd : 0 ≤ sd ∧ sd ≤ 18446744073709551615) (hA : 0 < n → ∃ b o, A = some ⟨b, o, none⟩ ∧ b < g ∧ ∀ k, k < n → ∃ x : Int, w.cell? ⟨b, o + k, none⟩ = some (.int .u8 x) ∧ 0 ≤ x ∧ x ≤ 255) (k m : Nat) :
    Src ((((w.drewN k).setCell ⟨g, 1, none⟩ (.int .i64 ((at_ : Int) + 1))).setCell ⟨g, 2, none⟩ (.int .u64 sd)).drewN m) g (T + 1) := by
  have h1 := heap_setCell_same (w.drewN k) g 1 _ _ (.int .i64 ((at_ : Int) + 1)) hblk
  have h2 := heap_setCell_same _ g 2 _ _ (.int .u64 sd) h1
  refine ⟨A, n, c, at_ + 1, sd, ?_, by omega, hn, hsd, fun hn0 => ?_⟩
  · show (((w.drewN k).setCell ⟨g, 1, none⟩ (.int .i64 ((at_ : Int) + 1))).setCell ⟨g, 2, none⟩ (.int .u64 sd)).heap[g]? = _
    rw [h2]; rfl
  · obtain ⟨b, o, rfl, hbl, hx⟩ := hA hn0
    have hbg : b ≠ g := by omega
    refine ⟨b, o, rfl, hbl, fun j hj => ?_⟩
    obtain ⟨x, hc, hr⟩ := hx j hj
    refine ⟨x, ?_, hr⟩
    show (((w.drewN k).setCell ⟨g, 1, none⟩ (.int .i64 ((at_ : Int) + 1))).setCell ⟨g, 2, none⟩ (.int .u64 sd)).cell? ⟨b, o + j, none⟩ = _
    rw [World.cell?_setCell_other _ _ _ _ (by intro e; injection e with e1; exact hbg e1.symm), World.cell?_setCell_other _ _ _ _ (by intro e; injection e with e1; exact hbg e1.symm)]
    exact hc
theorem src_grown {w : World} {g : Nat} {cs : Array Value} {t : TypeId} (hblk : w.heap[g]? = some (.cells cs t (0, 0))) (k m : Nat) (u v : Value) :
    w.grownBy ((((w.drewN k).setCell ⟨g, 1, none⟩ u).setCell ⟨g, 2, none⟩ v).drewN m) (some g) :=
  ⟨rfl, rfl, rfl, by simp [World.setCell], fun i hi hne => by
    show (((w.drewN k).setCell ⟨g, 1, none⟩ u).setCell ⟨g, 2, none⟩ v).heap[i]? = _
    rw [Below.heap_setCell _ _ _ _ (by rintro rfl; exact hne rfl), Below.heap_setCell _ _ _ _ (by rintro rfl; exact hne rfl)]; rfl⟩
set_option maxHeartbeats 2000000 in
theorem next_any (g T : Nat) (w : World) (h : Src w g T) (hT : T ≤ 1000000000) : Calls Try.prog 44 #[.pointer (some ⟨g, 0, none⟩)] w (NextOut g T w) := by
  obtain ⟨A, n, c, at_, seed, hblk, hat, hn, hseed, hA⟩ := h
  have c0 : w.cell? ⟨g, 0, none⟩ = some (.slice A n c) := by simp [World.cell?, hblk]
  have c1 : w.cell? ⟨g, 1, none⟩ = some (.int .i64 at_) := by simp [World.cell?, hblk]
  have c2 : w.cell? ⟨g, 2, none⟩ = some (.int .u64 seed) := by simp [World.cell?, hblk]
  have f1 : w.frozen? ⟨g, 1, none⟩ = false := by simp [World.frozen?, hblk]
  have f2 : w.frozen? ⟨g, 2, none⟩ = false := by simp [World.frozen?, hblk]
  have HB := Bx.mk hblk
  have HA := Bx.mk hA
  have HS := Bx.mk hseed
  clear hblk hA hseed
  by_cases hlt : at_ < n
  · obtain ⟨b, o, rfl, hbl, hx⟩ := HA.out (by omega)
    have hbg : b ≠ g := by omega
    obtain ⟨x, hcx, hx0, hx1⟩ := hx at_ hlt
    have hlti : (at_ : Int) < n := by omega
    have hat0 : (0 : Int) ≤ at_ := by omega
    clear hx
    go_enter Try.func44, Try.ntmps44
    go_wp2
    go_quiet (fail)
    go_wp2
    go_quiet (fail)
    go_wp2
    have hsd := wrap_u64_rng (IntKind.u64.wrap (IntKind.u64.wrap (seed * 6364136223846793005) + x) + 1442695040888963407)
    generalize IntKind.u64.wrap (IntKind.u64.wrap (IntKind.u64.wrap (seed * 6364136223846793005) + x) + 1442695040888963407) = sd at hsd ⊢
    have HSD := Bx.mk hsd
    clear hsd
    go_quiet (fail)
    go_wp2
    go_ret
    exact ⟨x, ⟨hx0, hx1⟩, rfl, src_next HB.out hat hn HSD.out HA.out _ _, src_grown HB.out _ _ _ _⟩
  · have hge : (n : Int) ≤ at_ := by omega
    have hat0 : (0 : Int) ≤ at_ := by omega
    go_enter Try.func44, Try.ntmps44
    go_wp2
    go_quiet (fail)
    go_wp2
    have hsd := wrap_u64_rng (IntKind.u64.wrap (IntKind.u64.wrap (seed * 6364136223846793005)) + 1442695040888963407)
    generalize IntKind.u64.wrap (IntKind.u64.wrap (IntKind.u64.wrap (seed * 6364136223846793005)) + 1442695040888963407) = sd at hsd ⊢
    obtain ⟨x, hx, hr⟩ := low_byte sd hsd
    have HSD := Bx.mk hsd
    have HX := Bx.mk hx
    have HR := Bx.mk hr
    clear hx hr
    obtain ⟨hs0, hs1⟩ := hsd
    go_quiet (fail)
    go_wp2
    go_ret
    refine ⟨x, HR.out, ?_, src_next HB.out hat hn HSD.out HA.out _ _, src_grown HB.out _ _ _ _⟩
    have hr := HR.out
    exact ret_int (by rw [HX.out, IntWalk.wrap64_in _ (by omega)])

theorem Src.more {w : World} {g T T' : Nat} (h : Src w g T) (hT : T ≤ T') : Src w g T' := by
  obtain ⟨A, n, c, a, sd, h1, h2, h3⟩ := h
  exact ⟨A, n, c, a, sd, h1, by omega, h3⟩
/-- what a choice below n leaves -/
def PickOut (g T : Nat) (n : Int) (w : World) (e : Ending) (w' : World) : Prop := ∃ x : Int, (0 ≤ x ∧ x < n) ∧ e = .returned (.int .i64 x) ∧ Src w' g (T + 2) ∧ w.grownBy w' (some g)
theorem next_parts {g T : Nat} {w : World} {e : Ending} {w' : World} (h : NextOut g T w e w') : ∃ x : Int, (0 ≤ x ∧ x ≤ 255) ∧ e = .returned (.int .i64 x) ∧ Src w' g (T + 1) ∧ w.grownBy w' (some g) := h
theorem pick_parts {g T : Nat} {n : Int} {w : World} {e : Ending} {w' : World} (h : PickOut g T n w e w') : ∃ x : Int, (0 ≤ x ∧ x < n) ∧ e = .returned (.int .i64 x) ∧ Src w' g (T + 2) ∧ w.grownBy w' (some g) := h

set_option maxHeartbeats 1000000 in
theorem pick_any (g T : Nat) (n : Int) (w : World) (h : Src w g T) (hT : T ≤ 100000000) (hn : 1 ≤ n) (hn2 : n ≤ 1000000000000) :
    Calls Try.prog 31 #[.pointer (some ⟨g, 0, none⟩), .int .i64 n] w (PickOut g T n w) := by
  have H := Bx.mk h
  clear h
  by_cases h1 : n ≤ 1
  · go_enter Try.func31, Try.ntmps31
    go_wp2
    go_ret
    exact ⟨0, by omega, rfl, H.out.more (by omega), World.grownBy.refl w _⟩
  · by_cases h2 : 200 < n
    · go_enter Try.func31, Try.ntmps31
      go_wp2_with (fail)
      refine (next_any g T w H.out (by omega)).mono ?_
      rintro e w1 ho
      obtain ⟨x, ⟨hx0, hx1⟩, rfl, hs1, hg1⟩ := next_parts ho
      have H1 := Bx.mk hs1
      have G1 := Bx.mk hg1
      clear ho hs1 hg1
      go_wp2_with (fail)
      refine (next_any g (T + 1) w1 H1.out (by omega)).mono ?_
      rintro e w2 ho
      obtain ⟨y, ⟨hy0, hy1⟩, rfl, hs2, hg2⟩ := next_parts ho
      have H2 := Bx.mk hs2
      have G2 := Bx.mk hg2
      clear ho hs2 hg2
      go_wp2_with (fail)
      go_ret
      exact ⟨(x * 256 + y) % n, ⟨Int.emod_nonneg _ (by omega), Int.emod_lt_of_pos _ (by omega)⟩, rfl, H2.out, G1.out.trans G2.out⟩
    · go_enter Try.func31, Try.ntmps31
      go_wp2_with (fail)
      refine (next_any g T w H.out (by omega)).mono ?_
      rintro e w1 ho
      obtain ⟨x, ⟨hx0, hx1⟩, rfl, hs1, hg1⟩ := next_parts ho
      have H1 := Bx.mk hs1
      have G1 := Bx.mk hg1
      clear ho hs1 hg1
      go_wp2_with (fail)
      go_ret
      exact ⟨x % n, ⟨Int.emod_nonneg _ (by omega), Int.emod_lt_of_pos _ (by omega)⟩, rfl, H1.out.more (by omega), G1.out⟩

/-- a slice of bytes that reads -/
def BytesAt (w : World) (v : Value) (n : Nat) : Prop := ∃ A c, v = .slice A n c ∧ (0 < n → ∃ b o, A = some ⟨b, o, none⟩ ∧ b < w.heap.size ∧ ∀ k, k < n → ∃ x : Int, w.cell? ⟨b, o + k, none⟩ = some (.int .u8 x) ∧ 0 ≤ x ∧ x ≤ 255)
theorem src_from (v : Value) (n : Nat) (w : World) (h : BytesAt w v n) (hn : n ≤ 281474976710656) :
    Calls Try.prog 14 #[v] w fun e w' => ∃ g, e = .returned (.pointer (some ⟨g, 0, none⟩)) ∧ Src w' g 0 ∧ Below w.heap.size w w' ∧ w.heap.size ≤ g := by
  obtain ⟨A, c, rfl, hA⟩ := h
  have HA := Bx.mk hA
  clear hA
  go_enter Try.func14, Try.ntmps14
  go_wp2
  go_ret
  refine ⟨w.heap.size, rfl, ⟨A, n, c, 0, 0, heap_alloc_new w _, Nat.le_refl _, hn, by omega, fun h0 => ?_⟩, (Below.refl _ _).alloc (Nat.le_refl _) _, Nat.le_refl _⟩
  obtain ⟨b, o, hA, hb, hx⟩ := HA.out h0
  refine ⟨b, o, hA, by omega, fun k hk => ?_⟩
  obtain ⟨x, hc, hr⟩ := hx k hk
  exact ⟨x, by rw [World.cell?_alloc_lt w _ _ (by exact hb)]; exact hc, hr⟩
theorem only_below {w w' : World} {g B : Nat} (h : w.grownBy w' (some g)) (hg : B ≤ g) (hB : B ≤ w.heap.size) : Below B w w' :=
  (Below.refl _ _).grown h hB (fun k hk => by injection hk with hk; omega)

def NumsOut (w : World) (e : Ending) (w' : World) : Prop := ∃ a b : Int, (-100000 ≤ a ∧ a ≤ 4000000000) ∧ (1 ≤ b ∧ b ≤ 5000) ∧ e = .returned (.tuple #[.int .i64 a, .int .i64 b]) ∧ Below w.heap.size w w'
theorem mul_le_6 (x y : Int) (hx : 0 ≤ x ∧ x < 60000) (hy : 0 ≤ y ∧ y < 60000) : 0 ≤ x * y ∧ x * y ≤ 3600000000 := by
  have := Int.mul_le_mul (Int.le_of_lt hx.2) (Int.le_of_lt hy.2) hy.1 (by omega)
  exact ⟨Int.mul_nonneg hx.1 hy.1, by omega⟩
end Go.Proofs.Ytidblpamolimpaa
