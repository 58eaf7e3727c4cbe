/- The model's EqualErrors. -/
import Derived.Test.YtbnhcacjlkmfeaaDoorTuG
import Derived.Test.YtbnhcacjlkmfeaaDoorTuP
import Derived.Test.YtbnhcacjlkmfeaaDoorTu11
import Derived.Test.YtbnhcacjlkmfeaaDoorSplit
namespace Go.Proofs.YtbnhcacjlkmfeaaDoor
open Go.ChangeShapes Go.WideShapes Go.ChangeAt Go.RowKit
set_option linter.unusedVariables false
set_option linter.unusedSimpArgs false
set_option maxRecDepth 100000

theorem ints_app (zs : List Int) (x : Int) : ints (zs ++ [x]) = ints zs ++ [.int .i64 x] := by simp [ints]
set_option maxHeartbeats 2000000 in
theorem spec_equal (s : ByteArray) (v : Value) (l : List (Int × Int)) (w : World) (h : PrsAt w v l) (hs : s.size ≤ maxLen) (hm : l.length ≤ 281474976710656) :
    Calls Tryd.prog 16 #[tun s v] w (RowOutE (eqE s.data.toList l).1 (.int .i64 (eqE s.data.toList l).2) w) := by
  have hk := fun g W a0 a1 hW => spec_tok g s v l W a0 a1 hW hs hm
  have HI := Bx.mk h
  unfold tun
  cases ht : tunB s.data.toList l
  · have HE : Bx (eqE s.data.toList l = ([], 1)) := Bx.mk (by simp [eqE, ht])
    rw [ht] at hk
    clear ht h hs hm
    go_enter Tryd.func16, Tryd.ntmps16
    go_wp2_with (fail)
    refine (hk _ _ (by go_simp) (by go_simp) (HI.out.below ((Below.refl _ _).alloc (Nat.le_refl _) _))).mono ?_
    rintro e w' ⟨rfl, k, rfl⟩
    go_wp2_with (fail)
    go_ret2
    rw [RowOutE, HE.out]
    exact ⟨0, _, rfl, World.ownsRow_nil _ _ _ _, below_draws ((Below.refl _ _).alloc (Nat.le_refl _) _) _⟩
  · have HE : Bx (eqE s.data.toList l = (eqT l 12, 0)) := Bx.mk (by simp [eqE, ht])
    obtain ⟨i0, hi, hz0, hz1, hz2⟩ := info_parts infoI64
    have hce := fun p hp g W a0 a1 hW => spec_tcents g s v l p W a0 a1 hW ht hp
    have hcd := Bx.mk (fun p hp => centsT_bd (p := p) ht hp)
    rw [ht] at hk
    clear ht h hs hm
    go_enter Tryd.func16, Tryd.ntmps16
    go_wp2_with (fail)
    refine (hk _ _ (by go_simp) (by go_simp) (HI.out.below ((Below.refl _ _).alloc (Nat.le_refl _) _))).mono ?_
    rintro e w' ⟨rfl, kk, hw⟩
    have K1 : Bx (BoxAt w' w.heap.size (.string s) v 30) := Bx.mk (by rw [hw]; exact BoxAt.draws (BoxAt.at _ _ _ _ _ rfl) kk)
    have B1 : Bx (Below w.heap.size w w') := Bx.mk (by rw [hw]; exact below_draws ((Below.refl _ _).alloc (Nat.le_refl _) _) kk)
    clear hw hk
    go_wp2_with (fail)
    go_loopw [4, 5] (fun v' i wr => ∃ j : Nat, j ≤ 12 ∧ i = .int .i64 j ∧ Bx (wr.ownsRow w'.heap.size 2 1 v' (eqT l j).length (ints (eqT l j)) ∧ Below w.heap.size w wr ∧ w'.heap.size ≤ wr.heap.size) ∧ Bx (BoxAt wr w.heap.size (.string s) v 30)) (fun _ i _ => 12 - (intOf i).toNat)
    case atStart => exact ⟨0, Nat.zero_le _, rfl, Bx.mk ⟨World.ownsRow_lit w' _ _ (Nat.le_refl w'.heap.size) (by decide) (by decide), B1.out.alloc B1.out.size _, by simp⟩, Bx.mk (K1.out.alloc _)⟩
    case round =>
      have K1l := Bx.mk K1.out.lt
      have B1s := Bx.mk B1.out.size
      clear K1 B1
      obtain ⟨j, hj, rfl, HO, K1⟩ := hrel
      by_cases hlt : j < 12
      · have hce1 := hce (j : Int) (by omega)
        obtain ⟨r1, r2⟩ := hcd.out (j : Int) (by omega)
        have HS : Bx (eqT l (j + 1) = eqT l j ++ [centsT l j - 10000 * j]) := Bx.mk (eqT_succ l j)
        have HLn : Bx ((eqT l j).length ≤ 12) := Bx.mk (by rw [eqT_len]; omega)
        generalize centsT l (j : Int) = z at *
        have E1 : IntKind.i64.wrap (10000 * (j : Int)) = 10000 * (j : Int) := IntWalk.i64_in _ (by omega)
        have E2 : IntKind.i64.wrap (z - 10000 * (j : Int)) = z - 10000 * (j : Int) := IntWalk.i64_in _ (by omega)
        have x1 : decide ((j : Int) < 12) = true := decide_eq_true (by omega)
        have k10 := K1.out.c0
        have k11 := K1.out.c1
        clear hce hcd
        go_wp2_with (fail)
        refine (hce1 _ _ k10 k11 (HI.out.below HO.out.2.1)).mono ?_
        rintro e w2 ⟨rfl, hb2⟩
        have hown := own_below HO.out.1 hb2
        have hbw := HO.out.2.1.trans (hb2.mono HO.out.2.1.size)
        have hbs : w'.heap.size ≤ w2.heap.size := Nat.le_trans HO.out.2.2 hb2.size
        have K2 : Bx (BoxAt w2 w.heap.size (.string s) v 30) := Bx.mk (K1.out.below hb2)
        clear hb2 HO K1 k10 k11 hce1
        go_wp2_with ((at_builtin; refine wpList_append_own _ rfl _ _ 36 rfl w'.heap.size 2 i0 (.int .i64 0) 1 8 Tryd.underlying36 hi hz0 hz1 hz2 rfl (by decide) _ _ _ rfl (hown.alloc _) ⟨w2.heap.size, 0, none⟩ 1 1 [.int .i64 (z - 10000 * (j : Int))] rfl rfl (cell_one_new _ _ _) (fun x hx => by simp at hx; subst hx; rfl) (by have := HLn.out; unfold maxLen; omega) (by have := HLn.out; omega) (by simp; omega) ?_; intro v' w3 hown' hgrow3 hnil3))
        have hown2 : w3.ownsRow w'.heap.size 2 1 v' (eqT l (j + 1)).length (ints (eqT l (j + 1))) := by
          rw [HS.out, ints_app, List.length_append]; exact hown'
        have hb3 : Below w2.heap.size w2 w2 := Below.refl _ _
        have K3 : Bx (BoxAt w3 w.heap.size (.string s) v 30) := Bx.mk (by
          have hgg := hgrow3.block w.heap.size (by have := K2.out.lt; simp; omega) (fun e => by have h1 := own_ge' hown _ e.symm; have := K1l.out; omega)
          have h0 := K2.out.alloc (.cells #[.int .i64 (z - 10000 * (j : Int))] 2)
          unfold BoxAt at h0 ⊢
          first | (rw [hgg]; exact h0) | (rw [hgg]; simpa using h0))
        have hb4 : Below w.heap.size w w3 ∧ w'.heap.size ≤ w3.heap.size := ⟨below_app' hbw (own_down B1s.out hown) (Nat.le_refl _) hgrow3, by have := hgrow3.size; simp at this; omega⟩
        clear hown' hgrow3 hnil3 hown hbw hb3
        go_roundw
        case rel => exact ⟨j + 1, by omega, by go_num, Bx.mk ⟨hown2, hb4.1, hb4.2⟩, K3⟩
        case measure => simp [intOf]; omega
      · obtain rfl : j = 12 := by omega
        have x1 : decide (((12 : Nat) : Int) < 12) = false := decide_eq_false (by omega)
        go_wp2_with (fail)
        go_ret2
        rw [RowOutE, HE.out]
        exact ⟨_, _, rfl, own_down B1s.out HO.out.1, HO.out.2.1⟩
end Go.Proofs.YtbnhcacjlkmfeaaDoor
