/- The program's EqualErrors. -/
import Derived.Test.YtbnhcacjlkmfeaaDoorTi2
import Derived.Test.YtbnhcacjlkmfeaaDoorTiA
import Derived.Test.YtbnhcacjlkmfeaaDoorTuG
import Derived.Test.YtbnhcacjlkmfeaaDoorTu11
import Derived.Test.YtbnhcacjlkmfeaaDoorTuP
namespace Go.Proofs.YtbnhcacjlkmfeaaDoor
open Go.ChangeShapes Go.WideShapes Go.ChangeAt Go.RowKit
set_option linter.unusedVariables false
set_option linter.unusedSimpArgs false
set_option maxRecDepth 100000

set_option maxHeartbeats 4000000 in
theorem impl_oft (s : ByteArray) (v : Value) (l : List (Int × Int)) (w : World) (h : PrsAt w v l) (ht : tunB s.data.toList l = true) (hT : StepTab w) :
    Calls Tryd.prog 42 #[tun s v, .func (.func 43) #[] #[]] w fun e w' => e = .returned (.agg #[.int .i64 (centsT l 0), .int .i64 (centsT l 1), .int .i64 (centsT l 2), .int .i64 (centsT l 3), .int .i64 (centsT l 4), .int .i64 (centsT l 5), .int .i64 (centsT l 6), .int .i64 (centsT l 7), .int .i64 (centsT l 8), .int .i64 (centsT l 9), .int .i64 (centsT l 10), .int .i64 (centsT l 11)]) ∧ Below w.heap.size w w' := by
  obtain ⟨_, hl, hok, _⟩ := tun_yes ht
  obtain ⟨b, o, c, rfl, hb, hc⟩ := prs_slice h (by omega)
  rw [hl] at hc ⊢
  have HC := Bx.mk hc
  have HT := Bx.mk hT
  have HK := Bx.mk (fun k (hk : k < 12) => okR_yes (okTi_yes (hok k hk)).1)
  have HV := Bx.mk (fun k (hk : k < 12) => (show centsT l ((k : Nat) : Int) = centsZ (pat l k).1 (pat l k).2 by
    unfold centsT
    rw [show ((k : Nat) : Int) % 12 = (k : Int) by omega, show ((k : Nat) : Int) / 12 = 0 by omega]
    simp))
  unfold tun
  clear h hl hc hok ht hT
  go_enter Tryd.func42, Tryd.ntmps42
  go_wp2_with (fail)
  go_loopw [11] (fun i wr => ∃ k : Nat, k ≤ 12 ∧ i = .int .i64 k ∧ Bx (ArrAt wr (w.heap.size + 1 + 1) (arrV (fun i => .int .i64 (centsT l i)) (.int .i64 0) 12 k) 62) ∧ Bx (ArrAt wr (w.heap.size + 1) (arrV (fun i => .int .i64 (centsT l i)) (.int .i64 0) 12 0) 62) ∧ Bx (Below w.heap.size w wr)) (fun i _ => 12 - (intOf i).toNat)
  case atStart =>
    refine ⟨0, by omega, rfl, Bx.mk ?_, Bx.mk ?_, Bx.mk ((((Below.refl _ _).alloc (Nat.le_refl _) _).alloc (by simp) _).alloc (by simp; omega) _)⟩
    · exact ArrAt.at _ _ _ _ (by simp)
    · exact (ArrAt.at _ _ _ _ (by simp)).alloc _
  case round =>
    obtain ⟨k, hk, rfl, HA, HR, HB⟩ := hrel
    by_cases hlt : k < 12
    · have c0 := (HB.out.cell (p := ⟨b, o + k * 2, none⟩) hb).trans (HC.out k hlt).1
      have c1 := (HB.out.cell (p := ⟨b, o + k * 2 + 1, none⟩) hb).trans (HC.out k hlt).2
      obtain ⟨nn, dd, _⟩ := HK.out k hlt
      have HVk := Bx.mk (HV.out k hlt)
      generalize (pat l k).1 = p1 at *
      generalize (pat l k).2 = p2 at *
      have hce := fun W hT => impl_cents p1 p2 W hT nn dd
      unfold rat at hce
      have hbr : b < wr.heap.size := Nat.lt_of_lt_of_le hb HB.out.size
      have k0 : (0 : Int) ≤ (k : Int) := by omega
      have k1 : (k : Int) < 12 := by omega
      go_wp2_with (fail)
      refine (hce _ (HT.out.below (HB.out.alloc HB.out.size _))).mono ?_
      rintro e w5 ⟨rfl, hb5⟩
      have HA5 : Bx (ArrAt w5 (w.heap.size + 1 + 1) (arrV (fun i => .int .i64 (centsT l i)) (.int .i64 0) 12 k) 62) := Bx.mk ((HA.out.alloc _).below hb5)
      have HR5 : Bx (ArrAt w5 (w.heap.size + 1) (arrV (fun i => .int .i64 (centsT l i)) (.int .i64 0) 12 0) 62) := Bx.mk ((HR.out.alloc _).below hb5)
      have HB5 : Bx (Below w.heap.size w w5) := Bx.mk ((HB.out.alloc HB.out.size _).trans (hb5.mono (Nat.le_trans HB.out.size (by simp))))
      clear hb5 HA HR HB c0 c1 hbr
      have a0 : w5.cell? ⟨w.heap.size + 1 + 1, k, none⟩ = some (.int .i64 0) := by rw [HA5.out.cell, arrV_at _ _ _ _ _ hlt, if_neg (by omega)]
      have af := HA5.out.f0 k
      have al := HA5.out.lt
      have HS : Bx (ArrAt (w5.setCell ⟨w.heap.size + 1 + 1, k, none⟩ (.int .i64 (centsZ p1 p2))) (w.heap.size + 1 + 1) (arrV (fun i => .int .i64 (centsT l i)) (.int .i64 0) 12 (k + 1)) 62) := Bx.mk (by
        rw [← arrV_set, ← HVk.out]
        exact HA5.out.put k _)
      have HR6 : Bx (ArrAt (w5.setCell ⟨w.heap.size + 1 + 1, k, none⟩ (.int .i64 (centsZ p1 p2))) (w.heap.size + 1) (arrV (fun i => .int .i64 (centsT l i)) (.int .i64 0) 12 0) 62) := Bx.mk (ArrAt.other (by omega) HR5.out _)
      have HB6 : Bx (Below w.heap.size w (w5.setCell ⟨w.heap.size + 1 + 1, k, none⟩ (.int .i64 (centsZ p1 p2)))) := Bx.mk (HB5.out.setCell (by show w.heap.size ≤ w.heap.size + 1 + 1; omega) _)
      clear HA5 HR5 HB5 hce HVk
      go_wp2_with (fail)
      go_roundw
      case rel => exact ⟨k + 1, by omega, by go_num, HS, HR6, HB6⟩
      case measure => simp [intOf]; omega
    · obtain rfl : k = 12 := by omega
      have ha : ∀ i, i < 12 → wr.cell? ⟨w.heap.size + 1 + 1, i, none⟩ = some (.int .i64 (centsT l (i : Nat))) := fun i hi => by rw [HA.out.cell, arrV_at _ _ _ _ _ hi, if_pos hi]
      have hr : ∀ i, i < 12 → wr.cell? ⟨w.heap.size + 1, i, none⟩ = some (.int .i64 0) := fun i hi => by rw [HR.out.cell, arrV_at _ _ _ _ _ hi, if_neg (by omega)]
      have a0 : wr.cell? ⟨w.heap.size + 1 + 1, 0, none⟩ = some (.int .i64 (centsT l 0)) := ha 0 (by omega)
      have r0 : wr.cell? ⟨w.heap.size + 1, 0, none⟩ = some (.int .i64 0) := hr 0 (by omega)
      have f0 := HR.out.f0 0
      have a1 : wr.cell? ⟨w.heap.size + 1 + 1, 1, none⟩ = some (.int .i64 (centsT l 1)) := ha 1 (by omega)
      have r1 : wr.cell? ⟨w.heap.size + 1, 1, none⟩ = some (.int .i64 0) := hr 1 (by omega)
      have f1 := HR.out.f0 1
      have a2 : wr.cell? ⟨w.heap.size + 1 + 1, 2, none⟩ = some (.int .i64 (centsT l 2)) := ha 2 (by omega)
      have r2 : wr.cell? ⟨w.heap.size + 1, 2, none⟩ = some (.int .i64 0) := hr 2 (by omega)
      have f2 := HR.out.f0 2
      have a3 : wr.cell? ⟨w.heap.size + 1 + 1, 3, none⟩ = some (.int .i64 (centsT l 3)) := ha 3 (by omega)
      have r3 : wr.cell? ⟨w.heap.size + 1, 3, none⟩ = some (.int .i64 0) := hr 3 (by omega)
      have f3 := HR.out.f0 3
      have a4 : wr.cell? ⟨w.heap.size + 1 + 1, 4, none⟩ = some (.int .i64 (centsT l 4)) := ha 4 (by omega)
      have r4 : wr.cell? ⟨w.heap.size + 1, 4, none⟩ = some (.int .i64 0) := hr 4 (by omega)
      have f4 := HR.out.f0 4
      have a5 : wr.cell? ⟨w.heap.size + 1 + 1, 5, none⟩ = some (.int .i64 (centsT l 5)) := ha 5 (by omega)
      have r5 : wr.cell? ⟨w.heap.size + 1, 5, none⟩ = some (.int .i64 0) := hr 5 (by omega)
      have f5 := HR.out.f0 5
      have a6 : wr.cell? ⟨w.heap.size + 1 + 1, 6, none⟩ = some (.int .i64 (centsT l 6)) := ha 6 (by omega)
      have r6 : wr.cell? ⟨w.heap.size + 1, 6, none⟩ = some (.int .i64 0) := hr 6 (by omega)
      have f6 := HR.out.f0 6
      have a7 : wr.cell? ⟨w.heap.size + 1 + 1, 7, none⟩ = some (.int .i64 (centsT l 7)) := ha 7 (by omega)
      have r7 : wr.cell? ⟨w.heap.size + 1, 7, none⟩ = some (.int .i64 0) := hr 7 (by omega)
      have f7 := HR.out.f0 7
      have a8 : wr.cell? ⟨w.heap.size + 1 + 1, 8, none⟩ = some (.int .i64 (centsT l 8)) := ha 8 (by omega)
      have r8 : wr.cell? ⟨w.heap.size + 1, 8, none⟩ = some (.int .i64 0) := hr 8 (by omega)
      have f8 := HR.out.f0 8
      have a9 : wr.cell? ⟨w.heap.size + 1 + 1, 9, none⟩ = some (.int .i64 (centsT l 9)) := ha 9 (by omega)
      have r9 : wr.cell? ⟨w.heap.size + 1, 9, none⟩ = some (.int .i64 0) := hr 9 (by omega)
      have f9 := HR.out.f0 9
      have a10 : wr.cell? ⟨w.heap.size + 1 + 1, 10, none⟩ = some (.int .i64 (centsT l 10)) := ha 10 (by omega)
      have r10 : wr.cell? ⟨w.heap.size + 1, 10, none⟩ = some (.int .i64 0) := hr 10 (by omega)
      have f10 := HR.out.f0 10
      have a11 : wr.cell? ⟨w.heap.size + 1 + 1, 11, none⟩ = some (.int .i64 (centsT l 11)) := ha 11 (by omega)
      have r11 : wr.cell? ⟨w.heap.size + 1, 11, none⟩ = some (.int .i64 0) := hr 11 (by omega)
      have f11 := HR.out.f0 11
      have hal := HA.out.lt
      have hrl := HR.out.lt
      clear HK HV HC ha hr HA
      go_wp2_with (fail)
      have P : ArrAt _ (w.heap.size + 1) [.int .i64 (centsT l 0), .int .i64 (centsT l 1), .int .i64 (centsT l 2), .int .i64 (centsT l 3), .int .i64 (centsT l 4), .int .i64 (centsT l 5), .int .i64 (centsT l 6), .int .i64 (centsT l 7), .int .i64 (centsT l 8), .int .i64 (centsT l 9), .int .i64 (centsT l 10), .int .i64 (centsT l 11)] 62 := ((((((((((((HR.out.put 0 (.int .i64 (centsT l 0))).put 1 (.int .i64 (centsT l 1))).put 2 (.int .i64 (centsT l 2))).put 3 (.int .i64 (centsT l 3))).put 4 (.int .i64 (centsT l 4))).put 5 (.int .i64 (centsT l 5))).put 6 (.int .i64 (centsT l 6))).put 7 (.int .i64 (centsT l 7))).put 8 (.int .i64 (centsT l 8))).put 9 (.int .i64 (centsT l 9))).put 10 (.int .i64 (centsT l 10))).put 11 (.int .i64 (centsT l 11)))
      have q0 := P.cell 0
      have q1 := P.cell 1
      have q2 := P.cell 2
      have q3 := P.cell 3
      have q4 := P.cell 4
      have q5 := P.cell 5
      have q6 := P.cell 6
      have q7 := P.cell 7
      have q8 := P.cell 8
      have q9 := P.cell 9
      have q10 := P.cell 10
      have q11 := P.cell 11
      refine bodyPost_ret (v := .agg #[.int .i64 (centsT l 0), .int .i64 (centsT l 1), .int .i64 (centsT l 2), .int .i64 (centsT l 3), .int .i64 (centsT l 4), .int .i64 (centsT l 5), .int .i64 (centsT l 6), .int .i64 (centsT l 7), .int .i64 (centsT l 8), .int .i64 (centsT l 9), .int .i64 (centsT l 10), .int .i64 (centsT l 11)]) (by simp [results, Tryd.results42, go_sem, q0, q1, q2, q3, q4, q5, q6, q7, q8, q9, q10, q11]) rfl ?_
      refine ⟨rfl, ?_⟩
      have hB := HB.out
      repeat' (first | (with_reducible assumption) | (with_reducible refine Below.setCell ?_ ?_ _) | (show w.heap.size ≤ w.heap.size + 1; omega))
set_option maxHeartbeats 4000000 in
theorem impl_equal (s : ByteArray) (v : Value) (l : List (Int × Int)) (w : World) (h : PrsAt w v l) (hs : s.size ≤ maxLen) (hm : l.length ≤ 281474976710656) (hT : StepTab w) :
    Calls Tryd.prog 17 #[tun s v] w (RowOutE (eqE s.data.toList l).1 (.int .i64 (eqE s.data.toList l).2) w) := by
  have hk := fun W hW => impl_validtuning s v l W hW hs hm
  have HI := Bx.mk h
  have HT := Bx.mk hT
  cases ht : tunB s.data.toList l
  · have HE : Bx (eqE s.data.toList l = ([], 1)) := Bx.mk (by simp [eqE, ht])
    obtain ⟨A, c, rfl⟩ := prs_len h
    simp only [tun] at *
    rw [ht] at hk
    clear ht h hs hm hT
    go_enter Tryd.func17, Tryd.ntmps17
    go_wp2_with (fail)
    refine (hk _ (HI.out.below ((Below.refl _ _).alloc (Nat.le_refl _) _))).mono ?_
    rintro e w1 ⟨rfl, hb1⟩
    have B1 : Bx (Below w.heap.size w w1) := Bx.mk (((Below.refl _ _).alloc (Nat.le_refl _) _).trans (hb1.mono (by go_size)))
    clear hb1
    go_wp2_with (fail)
    go_ret2
    rw [RowOutE, HE.out]
    exact ⟨0, _, rfl, World.ownsRow_nil _ _ _ _, B1.out⟩
  · have ho := fun W hW hT => impl_oft s v l W hW ht hT
    have hbd := Bx.mk (fun p hp => centsT_bd (p := p) ht hp)
    have HE : Bx (eqE s.data.toList l = (eqT l 12, 0)) := Bx.mk (by simp [eqE, ht])
    obtain ⟨A, c, rfl⟩ := prs_len h
    simp only [tun] at *
    rw [ht] at hk
    clear ht h hs hm hT
    go_enter Tryd.func17, Tryd.ntmps17
    go_wp2_with (fail)
    refine (hk _ (HI.out.below ((Below.refl _ _).alloc (Nat.le_refl _) _))).mono ?_
    rintro e w1 ⟨rfl, hb1⟩
    have B1 : Bx (Below w.heap.size w w1) := Bx.mk (((Below.refl _ _).alloc (Nat.le_refl _) _).trans (hb1.mono (by go_size)))
    have K1 : Bx (BoxAt w1 w.heap.size (.string s) (.slice A l.length c) 30) := Bx.mk (BoxAt.below (BoxAt.at _ _ _ _ _ rfl) hb1)
    clear hb1 hk
    have k10 := K1.out.c0
    have k11 := K1.out.c1
    have k1l := K1.out.lt
    go_wp2_with (fail)
    refine (ho _ (HI.out.below B1.out) (HT.out.below B1.out)).mono ?_
    rintro e w2 ⟨rfl, hb2⟩
    have B2 : Bx (Below w.heap.size w w2) := Bx.mk (B1.out.trans (hb2.mono B1.out.size))
    have BS : Bx (w.heap.size < w2.heap.size) := Bx.mk (Nat.lt_of_lt_of_le k1l hb2.size)
    clear hb2 K1 B1 k10 k11 k1l ho
    go_wp2_with (fail)
    go_loopw [11] (fun i wr => ∃ k : Nat, k ≤ 12 ∧ i = .int .i64 k ∧ Bx (ArrAt wr w2.heap.size (arrM (fun i => .int .i64 (centsT l i - 10000 * i)) (fun i => .int .i64 (centsT l i)) 12 k) 62) ∧ Bx (Below w.heap.size w wr)) (fun i _ => 12 - (intOf i).toNat)
    case atStart =>
      refine ⟨0, by omega, rfl, Bx.mk ?_, Bx.mk (B2.out.alloc B2.out.size _)⟩
      exact ArrAt.at _ _ _ _ rfl
    case round =>
      clear B2
      obtain ⟨k, hk, rfl, HA, HB⟩ := hrel
      by_cases hlt : k < 12
      · have a0 : wr.cell? ⟨w2.heap.size, k, none⟩ = some (.int .i64 (centsT l k)) := by rw [HA.out.cell, arrM_at _ _ _ _ _ hlt, if_neg (by omega)]
        have af := HA.out.f0 k
        have al := HA.out.lt
        have hb0 := hbd.out (k : Int) (by omega)
        have k0 : (0 : Int) ≤ (k : Int) := by omega
        have k1 : (k : Int) < 12 := by omega
        have HS : Bx (ArrAt (wr.setCell ⟨w2.heap.size, k, none⟩ (.int .i64 (centsT l k - 10000 * k))) w2.heap.size (arrM (fun i => .int .i64 (centsT l i - 10000 * i)) (fun i => .int .i64 (centsT l i)) 12 (k + 1)) 62) := Bx.mk (by
          rw [← arrM_set]
          exact HA.out.put k _)
        have HB6 : Bx (Below w.heap.size w (wr.setCell ⟨w2.heap.size, k, none⟩ (.int .i64 (centsT l k - 10000 * k)))) := Bx.mk (HB.out.setCell (by have := BS.out; show w.heap.size ≤ w2.heap.size; omega) _)
        clear HA HB
        generalize centsT l k = z at *
        have E1 : IntKind.i64.wrap (10000 * (k : Int)) = 10000 * (k : Int) := IntWalk.i64_in _ (by omega)
        have E2 : IntKind.i64.wrap (z - 10000 * (k : Int)) = z - 10000 * (k : Int) := IntWalk.i64_in _ (by omega)
        go_wp2_with (fail)
        go_roundw
        case rel => exact ⟨k + 1, by omega, by go_num, HS, HB6⟩
        case measure => simp [intOf]; omega
      · obtain rfl : k = 12 := by omega
        have HO : Bx (wr.ownsRow w.heap.size 62 1 (.slice (some ⟨w2.heap.size, 0, none⟩) 12 12) (eqT l 12).length (ints (eqT l 12))) := Bx.mk (by
          have := HA.out.own (base := w.heap.size) (n := 12) 1 (by have := BS.out; omega) (by simp [arrM]) (by unfold maxLen; omega)
          rw [eqT_len]
          have e : ints (eqT l 12) = arrM (fun i => .int .i64 (centsT l i - 10000 * i)) (fun i => .int .i64 (centsT l i)) 12 12 := by
            unfold ints eqT arrM
            rw [List.map_map]
            apply List.map_congr_left
            intro i hi
            rw [if_pos (List.mem_range.1 hi)]; rfl
          rw [e]
          exact this)
        have al := HA.out.lt
        clear HA
        go_wp2_with (fail)
        go_ret2
        rw [RowOutE, HE.out]
        exact ⟨_, _, rfl, HO.out, HB.out⟩
end Go.Proofs.YtbnhcacjlkmfeaaDoor
