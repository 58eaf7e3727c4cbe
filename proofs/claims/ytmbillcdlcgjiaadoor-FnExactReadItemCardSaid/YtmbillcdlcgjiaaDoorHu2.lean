/- ReadItem: both sides. -/
import Derived.Test.YtmbillcdlcgjiaaDoorHu
import Derived.Test.YtmbillcdlcgjiaaDoorHe
import Derived.Test.YtmbillcdlcgjiaaDoorSc
import Derived.Test.YtmbillcdlcgjiaaDoorShelf
import Derived.Test.YtmbillcdlcgjiaaDoorAr
import Derived.Deep.RegionHeld3
namespace Go.Proofs.YtmbillcdlcgjiaaDoor
open Go.ChangeShapes Go.WideShapes Go.ChangeAt Go.RowKit
set_option linter.unusedVariables false
set_option linter.unusedSimpArgs false
set_option maxRecDepth 100000

theorem keepZ {w W W' : World} {g2 q : Nat} {z0 z1 z2 z3 z4 : Int} (h : W.cell? ⟨g2, q, none⟩ = some (.int .i64 z0) ∧ W.cell? ⟨g2, q + 1, none⟩ = some (.int .i64 z1) ∧ W.cell? ⟨g2, q + 2, none⟩ = some (.int .i64 z2) ∧ W.cell? ⟨g2, q + 3, none⟩ = some (.int .i64 z3) ∧ W.cell? ⟨g2, q + 4, none⟩ = some (.int .i64 z4) ∧ g2 < W.heap.size ∧ Below w.heap.size w W) (hb : Below W.heap.size W W') : W'.cell? ⟨g2, q, none⟩ = some (.int .i64 z0) ∧ W'.cell? ⟨g2, q + 1, none⟩ = some (.int .i64 z1) ∧ W'.cell? ⟨g2, q + 2, none⟩ = some (.int .i64 z2) ∧ W'.cell? ⟨g2, q + 3, none⟩ = some (.int .i64 z3) ∧ W'.cell? ⟨g2, q + 4, none⟩ = some (.int .i64 z4) ∧ g2 < W'.heap.size ∧ Below w.heap.size w W' := by
  obtain ⟨h0, h1, h2, h3, h4, l1, l2⟩ := h
  have hs := hb.size
  exact ⟨(hb.cell (p := ⟨g2, q, none⟩) l1).trans h0, (hb.cell (p := ⟨g2, q + 1, none⟩) l1).trans h1, (hb.cell (p := ⟨g2, q + 2, none⟩) l1).trans h2, (hb.cell (p := ⟨g2, q + 3, none⟩) l1).trans h3, (hb.cell (p := ⟨g2, q + 4, none⟩) l1).trans h4, by omega, l2.trans (hb.mono l2.size)⟩
theorem keepZ6 {w W W' : World} {g1 g2 q : Nat} {nm : List UInt8} {z0 z1 z2 z3 z4 : Int} (h : W.cell? ⟨g1, 0, none⟩ = some (.string ⟨nm.toArray⟩) ∧ g1 < W.heap.size ∧ W.cell? ⟨g2, q, none⟩ = some (.int .i64 z0) ∧ W.cell? ⟨g2, q + 1, none⟩ = some (.int .i64 z1) ∧ W.cell? ⟨g2, q + 2, none⟩ = some (.int .i64 z2) ∧ W.cell? ⟨g2, q + 3, none⟩ = some (.int .i64 z3) ∧ W.cell? ⟨g2, q + 4, none⟩ = some (.int .i64 z4) ∧ g2 < W.heap.size ∧ Below w.heap.size w W) (hb : Below W.heap.size W W') : W'.cell? ⟨g1, 0, none⟩ = some (.string ⟨nm.toArray⟩) ∧ g1 < W'.heap.size ∧ W'.cell? ⟨g2, q, none⟩ = some (.int .i64 z0) ∧ W'.cell? ⟨g2, q + 1, none⟩ = some (.int .i64 z1) ∧ W'.cell? ⟨g2, q + 2, none⟩ = some (.int .i64 z2) ∧ W'.cell? ⟨g2, q + 3, none⟩ = some (.int .i64 z3) ∧ W'.cell? ⟨g2, q + 4, none⟩ = some (.int .i64 z4) ∧ g2 < W'.heap.size ∧ Below w.heap.size w W' := by
  obtain ⟨hn, l0, h0, h1, h2, h3, h4, l1, l2⟩ := h
  have hs := hb.size
  exact ⟨(hb.cell (p := ⟨g1, 0, none⟩) l0).trans hn, by omega, (hb.cell (p := ⟨g2, q, none⟩) l1).trans h0, (hb.cell (p := ⟨g2, q + 1, none⟩) l1).trans h1, (hb.cell (p := ⟨g2, q + 2, none⟩) l1).trans h2, (hb.cell (p := ⟨g2, q + 3, none⟩) l1).trans h3, (hb.cell (p := ⟨g2, q + 4, none⟩) l1).trans h4, by omega, l2.trans (hb.mono l2.size)⟩
theorem zero_rd : itV it0 = .agg #[.string ⟨#[]⟩, .int .i64 0, .int .i64 0, .int .i64 0, .int .i64 0, .int .i64 0] := rfl
theorem five {zs : List Int} (h : zs.length = 5) : ∃ a b c d e, zs = [a, b, c, d, e] := by
  match zs, h with
  | [a, b, c, d, e], _ => exact ⟨a, b, c, d, e, rfl⟩
theorem info_itemU : (Tryd.prog.info? 26).map (·.size) = some 6 := by kernel_rfl
theorem cut_lensI (l : List UInt8) : (Lib.cut l [32]).1.length ≤ l.length ∧ (Lib.cut l [32]).2.1.length ≤ l.length := by
  unfold Lib.cut
  split
  · simp; omega
  · simp
set_option maxHeartbeats 4000000 in
theorem impl_readitem (s : ByteArray) (w : World) (hs : s.size ≤ 1048576) (hv : Bx (Vars w)) (hm : Bx (∃ m, w.cell? ⟨0, 0, none⟩ = some (.int .i64 m) ∧ 0 < w.heap.size)) :
    Calls Tryd.prog 10 #[.string s] w fun e w' => e = .returned (.tuple #[rdV (readI s.data.toList), .bool (readI s.data.toList).isSome]) ∧ Below w.heap.size w w' := by
  obtain ⟨m, hm⟩ := hm.out
  have HM := Bx.mk hm
  clear hm
  obtain ⟨ha, hb⟩ := cut_lensI s.data.toList
  have hsz : s.data.toList.length = s.size := by simp
  have hcut : ∀ W : World, W.cell? ⟨0, 0, none⟩ = some (.int .i64 m) → Calls Tryd.prog 17 #[.string s, .string ⟨#[32]⟩] W fun e w' => e = .returned (.tuple #[.string ⟨(Lib.cut s.data.toList [32]).1.toArray⟩, .string ⟨(Lib.cut s.data.toList [32]).2.1.toArray⟩, .bool (Lib.cut s.data.toList [32]).2.2]) ∧ ∃ n, w' = W.drewN n := fun W h => Tryd.strings_Cut s ⟨#[32]⟩ m W (by omega) h
  have HR0 : Bx (readI s.data.toList = rdI (Lib.cut s.data.toList [32]).1 (Lib.cut s.data.toList [32]).2.1) := Bx.mk rfl
  generalize readI s.data.toList = ro at *
  generalize (Lib.cut s.data.toList [32]).2.2 = c at *
  generalize (Lib.cut s.data.toList [32]).1 = nm at *
  generalize (Lib.cut s.data.toList [32]).2.1 = rest at *
  have hrl : rest.length ≤ 1048576 := by omega
  have hnl : nm.length ≤ 1048576 := by omega
  have hrd := fun W h1 h2 => impl_readlist ⟨rest.toArray⟩ W (by show rest.toArray.size ≤ _; simp; omega) h1 h2
  rw [show (⟨rest.toArray⟩ : ByteArray).data.toList = rest from rfl] at hrd
  have HR : Bx (((readL rest).getD []).length ≠ 5 → ro = none) := Bx.mk (fun h => by
    rw [HR0.out]; unfold rdI
    cases e : readL rest with
    | none => rfl
    | some zs => rw [e] at h; simp only [Option.getD_some] at h; exact if_neg h)
  have HR5 : Bx (((readL rest).getD []).length = 5 → ro = if itB (itZ nm ((readL rest).getD [])) = true then some (itZ nm ((readL rest).getD [])) else none) := Bx.mk (fun h => by
    rw [HR0.out]; unfold rdI
    cases e : readL rest with
    | none => rw [e] at h; simp at h
    | some zs => rw [e] at h; simp only [Option.getD_some] at h ⊢; exact if_pos h)
  clear ha hb hsz HR0
  have R0 := BoxN.at w w.heap.size #[.string ⟨#[]⟩, .int .i64 0, .int .i64 0, .int .i64 0, .int .i64 0, .int .i64 0] 26 rfl
  have B0 := Bx.mk ((Below.refl w.heap.size w).alloc (Nat.le_refl _) (.cells #[.string ⟨#[]⟩, .int .i64 0, .int .i64 0, .int .i64 0, .int .i64 0, .int .i64 0] 26))
  have HM0 : (w.alloc (.cells #[.string ⟨#[]⟩, .int .i64 0, .int .i64 0, .int .i64 0, .int .i64 0, .int .i64 0] 26)).cell? ⟨0, 0, none⟩ = some (.int .i64 m) := (B0.out.cell (p := ⟨0, 0, none⟩) HM.out.2).trans HM.out.1
  generalize hW : w.alloc (.cells #[.string ⟨#[]⟩, .int .i64 0, .int .i64 0, .int .i64 0, .int .i64 0, .int .i64 0] 26) = W0 at R0 B0 HM0
  have R0 := Bx.mk R0
  go_enter Tryd.func10, Tryd.ntmps10
  go_wp2_with (fail)
  try rw [hW]
  try clear hW
  refine (hcut _ HM0).mono ?_
  rintro r wx ⟨rfl, n0, rfl⟩
  have HV1 := Bx.mk (hv.out.below (below_draws B0.out n0))
  have R1 := Bx.mk (R0.out.draws n0)
  have B1 := Bx.mk (below_draws B0.out n0)
  have HM1 : Bx (∃ m, (W0.drewN n0).cell? ⟨0, 0, none⟩ = some (.int .i64 m)) := Bx.mk ⟨m, HM0⟩
  clear hcut HM0 B0 R0
  generalize W0.drewN n0 = w1 at *
  go_wp2_with (fail)
  refine (hrd _ HV1 HM1).mono ?_
  rintro r w2 ⟨v, rfl, ho, hb⟩
  have R2 := Bx.mk (R1.out.below hb)
  have B2 := Bx.mk (B1.out.trans (hb.mono B1.out.size))
  clear hb hrd HV1 HM1 R1 B1
  generalize (readL rest).isSome = rs at *
  generalize (readL rest).getD [] = zs at *
  obtain ⟨A, cc, rfl⟩ := own_len ho
  have HI := Bx.mk (IntsAt.own ho)
  clear ho

  by_cases h5 : zs.length = 5
  rotate_left
  · have HE := Bx.mk (HR.out h5)
    have d5 : ((zs.length : Int) != 5) = true := by simp; omega
    have r0 := R2.out.c (k := 0) rfl
    have r1 := R2.out.c (k := 1) rfl
    have r2 := R2.out.c (k := 2) rfl
    have r3 := R2.out.c (k := 3) rfl
    have r4 := R2.out.c (k := 4) rfl
    have r5 := R2.out.c (k := 5) rfl
    have f0 := R2.out.fr 0
    have f1 := R2.out.fr 1
    have f2 := R2.out.fr 2
    have f3 := R2.out.fr 3
    have f4 := R2.out.fr 4
    have f5 := R2.out.fr 5
    have rl := R2.out.lt
    go_wp2_with (fail)
    have RF : BoxN (((((((w2).setCell ⟨w.heap.size, 0, none⟩ (.string ⟨#[]⟩)).setCell ⟨w.heap.size, 1, none⟩ (.int .i64 0)).setCell ⟨w.heap.size, 2, none⟩ (.int .i64 0)).setCell ⟨w.heap.size, 3, none⟩ (.int .i64 0)).setCell ⟨w.heap.size, 4, none⟩ (.int .i64 0)).setCell ⟨w.heap.size, 5, none⟩ (.int .i64 0)) w.heap.size #[.string ⟨#[]⟩, .int .i64 0, .int .i64 0, .int .i64 0, .int .i64 0, .int .i64 0] 26 := ((((((R2.out).put 0 (.string ⟨#[]⟩)).put 1 (.int .i64 0)).put 2 (.int .i64 0)).put 3 (.int .i64 0)).put 4 (.int .i64 0)).put 5 (.int .i64 0)
    have p0 := RF.c (k := 0) rfl
    have p1 := RF.c (k := 1) rfl
    have p2 := RF.c (k := 2) rfl
    have p3 := RF.c (k := 3) rfl
    have p4 := RF.c (k := 4) rfl
    have p5 := RF.c (k := 5) rfl
    refine bodyPost_ret (v := .tuple #[.agg #[.string ⟨#[]⟩, .int .i64 0, .int .i64 0, .int .i64 0, .int .i64 0, .int .i64 0], .bool false]) (by simp [results, Tryd.results10, go_sem, p0, p1, p2, p3, p4, p5]) rfl ?_
    exact ⟨by rw [HE.out]; rfl, ((((((B2.out).setCell (p := ⟨w.heap.size, 0, none⟩) (Nat.le_refl _) (.string ⟨#[]⟩)).setCell (p := ⟨w.heap.size, 1, none⟩) (Nat.le_refl _) (.int .i64 0)).setCell (p := ⟨w.heap.size, 2, none⟩) (Nat.le_refl _) (.int .i64 0)).setCell (p := ⟨w.heap.size, 3, none⟩) (Nat.le_refl _) (.int .i64 0)).setCell (p := ⟨w.heap.size, 4, none⟩) (Nat.le_refl _) (.int .i64 0)).setCell (p := ⟨w.heap.size, 5, none⟩) (Nat.le_refl _) (.int .i64 0)⟩
  have HE := Bx.mk (HR5.out h5)
  obtain ⟨z0, z1, z2, z3, z4, rfl⟩ := five h5
  obtain ⟨g2, o2, c2, hv2, lg2, hc2⟩ := HI.out.form (by simp)
  injection hv2 with e1 e2 e3
  subst e1 e3
  have C0 : w2.cell? ⟨g2, o2, none⟩ = some (.int .i64 z0) := hc2 0 (by simp)
  have C1 : w2.cell? ⟨g2, o2 + 1, none⟩ = some (.int .i64 z1) := hc2 1 (by simp)
  have C2 : w2.cell? ⟨g2, o2 + 2, none⟩ = some (.int .i64 z2) := hc2 2 (by simp)
  have C3 : w2.cell? ⟨g2, o2 + 3, none⟩ = some (.int .i64 z3) := hc2 3 (by simp)
  have C4 : w2.cell? ⟨g2, o2 + 4, none⟩ = some (.int .i64 z4) := hc2 4 (by simp)
  have SS0 : Bx (w2.cell? ⟨g2, o2, none⟩ = some (.int .i64 z0) ∧ w2.cell? ⟨g2, o2 + 1, none⟩ = some (.int .i64 z1) ∧ w2.cell? ⟨g2, o2 + 2, none⟩ = some (.int .i64 z2) ∧ w2.cell? ⟨g2, o2 + 3, none⟩ = some (.int .i64 z3) ∧ w2.cell? ⟨g2, o2 + 4, none⟩ = some (.int .i64 z4) ∧ g2 < w2.heap.size ∧ Below w2.heap.size w2 w2) := Bx.mk ⟨C0, C1, C2, C3, C4, lg2, Below.refl _ _⟩
  have hvi := fun W => impl_validitem ⟨⟨nm.toArray⟩, z0, z1, z2, z3, z4⟩ W (by show nm.toArray.size ≤ _; simp [maxLen]; omega)
  unfold itV at hvi
  dsimp only at hvi
  have HE2 : Bx (ro = if itB ⟨⟨nm.toArray⟩, z0, z1, z2, z3, z4⟩ = true then some ⟨⟨nm.toArray⟩, z0, z1, z2, z3, z4⟩ else none) := Bx.mk HE.out
  generalize itB ⟨⟨nm.toArray⟩, z0, z1, z2, z3, z4⟩ = ok at *
  clear hc2 HE HR HR5 HI h5
  go_wp2_with (fail)
  go_region_held3 (fun W => W.cell? ⟨g2, o2, none⟩ = some (.int .i64 z0) ∧ W.cell? ⟨g2, o2 + 1, none⟩ = some (.int .i64 z1) ∧ W.cell? ⟨g2, o2 + 2, none⟩ = some (.int .i64 z2) ∧ W.cell? ⟨g2, o2 + 3, none⟩ = some (.int .i64 z3) ∧ W.cell? ⟨g2, o2 + 4, none⟩ = some (.int .i64 z4) ∧ g2 < W.heap.size ∧ Below w2.heap.size w2 W)
    (first | (with_reducible assumption) | (with_reducible exact keepZ (by assumption) (Below.refl _ _).drew) | exact keepZ SS0.out (Below.refl _ _).drew | exact keepZ SS0.out (Below.drew ((Below.refl _ _).alloc (Nat.le_refl _) _)) | exact keepZ (by assumption) ((Below.refl _ _).alloc (Nat.le_refl _) _))
    (fail)
  have B3 := Bx.mk (Below.drew (B2.out.alloc B2.out.size (.cells #[.string ⟨nm.toArray⟩, .int .i64 z0, .int .i64 z1, .int .i64 z2, .int .i64 z3, .int .i64 z4] 26)))
  have R3 : Bx (BoxN (w2.alloc (.cells #[.string ⟨nm.toArray⟩, .int .i64 z0, .int .i64 z1, .int .i64 z2, .int .i64 z3, .int .i64 z4] 26)).drew w.heap.size #[.string ⟨#[]⟩, .int .i64 0, .int .i64 0, .int .i64 0, .int .i64 0, .int .i64 0] 26) := Bx.mk (R2.out.alloc (.cells #[.string ⟨nm.toArray⟩, .int .i64 z0, .int .i64 z1, .int .i64 z2, .int .i64 z3, .int .i64 z4] 26))
  have X3 : Bx (BoxN (w2.alloc (.cells #[.string ⟨nm.toArray⟩, .int .i64 z0, .int .i64 z1, .int .i64 z2, .int .i64 z3, .int .i64 z4] 26)).drew w2.heap.size #[.string ⟨nm.toArray⟩, .int .i64 z0, .int .i64 z1, .int .i64 z2, .int .i64 z3, .int .i64 z4] 26) := Bx.mk (BoxN.at w2 w2.heap.size #[.string ⟨nm.toArray⟩, .int .i64 z0, .int .i64 z1, .int .i64 z2, .int .i64 z3, .int .i64 z4] 26 rfl)
  have hne : w.heap.size < w2.heap.size := R2.out.lt
  generalize (w2.alloc (.cells #[.string ⟨nm.toArray⟩, .int .i64 z0, .int .i64 z1, .int .i64 z2, .int .i64 z3, .int .i64 z4] 26)).drew = w3 at B3 R3 X3 ⊢
  obtain ⟨gx, hgx⟩ : ∃ g, g = w2.heap.size := ⟨_, rfl⟩
  rw [← hgx] at X3 hne ⊢
  clear hgx
  clear SS0 C0 C1 C2 C3 C4
  try clear hS
  have x0 := X3.out.c (k := 0) rfl
  have x1 := X3.out.c (k := 1) rfl
  have x2 := X3.out.c (k := 2) rfl
  have x3 := X3.out.c (k := 3) rfl
  have x4 := X3.out.c (k := 4) rfl
  have x5 := X3.out.c (k := 5) rfl
  have xl := X3.out.lt
  cases ok
  
  · have HE := Bx.mk (show ro = none from HE2.out)
    go_wp2_with (fail)
    refine (hvi _).mono ?_
    rintro r w4 ⟨rfl, hb⟩
    have B4 := Bx.mk (B3.out.trans (hb.mono B3.out.size))
    have R4 := Bx.mk (R3.out.below hb)
    have X4 := Bx.mk (X3.out.below hb)
    clear hb x0 x1 x2 x3 x4 x5 xl
    have r0 := R4.out.c (k := 0) rfl
    have r1 := R4.out.c (k := 1) rfl
    have r2 := R4.out.c (k := 2) rfl
    have r3 := R4.out.c (k := 3) rfl
    have r4 := R4.out.c (k := 4) rfl
    have r5 := R4.out.c (k := 5) rfl
    have f0 := R4.out.fr 0
    have f1 := R4.out.fr 1
    have f2 := R4.out.fr 2
    have f3 := R4.out.fr 3
    have f4 := R4.out.fr 4
    have f5 := R4.out.fr 5
    have rl := R4.out.lt
    have x0 := X4.out.c (k := 0) rfl
    have x1 := X4.out.c (k := 1) rfl
    have x2 := X4.out.c (k := 2) rfl
    have x3 := X4.out.c (k := 3) rfl
    have x4 := X4.out.c (k := 4) rfl
    have x5 := X4.out.c (k := 5) rfl
    have xl := X4.out.lt
    go_wp2_with (fail)
    have RF : BoxN (((((((w4).setCell ⟨w.heap.size, 0, none⟩ (.string ⟨#[]⟩)).setCell ⟨w.heap.size, 1, none⟩ (.int .i64 0)).setCell ⟨w.heap.size, 2, none⟩ (.int .i64 0)).setCell ⟨w.heap.size, 3, none⟩ (.int .i64 0)).setCell ⟨w.heap.size, 4, none⟩ (.int .i64 0)).setCell ⟨w.heap.size, 5, none⟩ (.int .i64 0)) w.heap.size #[.string ⟨#[]⟩, .int .i64 0, .int .i64 0, .int .i64 0, .int .i64 0, .int .i64 0] 26 := ((((((R4.out).put 0 (.string ⟨#[]⟩)).put 1 (.int .i64 0)).put 2 (.int .i64 0)).put 3 (.int .i64 0)).put 4 (.int .i64 0)).put 5 (.int .i64 0)
    have p0 := RF.c (k := 0) rfl
    have p1 := RF.c (k := 1) rfl
    have p2 := RF.c (k := 2) rfl
    have p3 := RF.c (k := 3) rfl
    have p4 := RF.c (k := 4) rfl
    have p5 := RF.c (k := 5) rfl
    refine bodyPost_ret (v := .tuple #[.agg #[.string ⟨#[]⟩, .int .i64 0, .int .i64 0, .int .i64 0, .int .i64 0, .int .i64 0], .bool false]) (by simp [results, Tryd.results10, go_sem, p0, p1, p2, p3, p4, p5]) rfl ?_
    exact ⟨by rw [HE.out]; rfl, ((((((B4.out).setCell (p := ⟨w.heap.size, 0, none⟩) (Nat.le_refl _) (.string ⟨#[]⟩)).setCell (p := ⟨w.heap.size, 1, none⟩) (Nat.le_refl _) (.int .i64 0)).setCell (p := ⟨w.heap.size, 2, none⟩) (Nat.le_refl _) (.int .i64 0)).setCell (p := ⟨w.heap.size, 3, none⟩) (Nat.le_refl _) (.int .i64 0)).setCell (p := ⟨w.heap.size, 4, none⟩) (Nat.le_refl _) (.int .i64 0)).setCell (p := ⟨w.heap.size, 5, none⟩) (Nat.le_refl _) (.int .i64 0)⟩
  · have HE := Bx.mk (show ro = some ⟨⟨nm.toArray⟩, z0, z1, z2, z3, z4⟩ from HE2.out)
    go_wp2_with (fail)
    refine (hvi _).mono ?_
    rintro r w4 ⟨rfl, hb⟩
    have B4 := Bx.mk (B3.out.trans (hb.mono B3.out.size))
    have R4 := Bx.mk (R3.out.below hb)
    have X4 := Bx.mk (X3.out.below hb)
    clear hb x0 x1 x2 x3 x4 x5 xl
    have r0 := R4.out.c (k := 0) rfl
    have r1 := R4.out.c (k := 1) rfl
    have r2 := R4.out.c (k := 2) rfl
    have r3 := R4.out.c (k := 3) rfl
    have r4 := R4.out.c (k := 4) rfl
    have r5 := R4.out.c (k := 5) rfl
    have f0 := R4.out.fr 0
    have f1 := R4.out.fr 1
    have f2 := R4.out.fr 2
    have f3 := R4.out.fr 3
    have f4 := R4.out.fr 4
    have f5 := R4.out.fr 5
    have rl := R4.out.lt
    have x0 := X4.out.c (k := 0) rfl
    have x1 := X4.out.c (k := 1) rfl
    have x2 := X4.out.c (k := 2) rfl
    have x3 := X4.out.c (k := 3) rfl
    have x4 := X4.out.c (k := 4) rfl
    have x5 := X4.out.c (k := 5) rfl
    have xl := X4.out.lt
    go_wp2_with (fail)
    have RF : BoxN (((((((w4).setCell ⟨w.heap.size, 0, none⟩ (.string ⟨nm.toArray⟩)).setCell ⟨w.heap.size, 1, none⟩ (.int .i64 z0)).setCell ⟨w.heap.size, 2, none⟩ (.int .i64 z1)).setCell ⟨w.heap.size, 3, none⟩ (.int .i64 z2)).setCell ⟨w.heap.size, 4, none⟩ (.int .i64 z3)).setCell ⟨w.heap.size, 5, none⟩ (.int .i64 z4)) w.heap.size #[.string ⟨nm.toArray⟩, .int .i64 z0, .int .i64 z1, .int .i64 z2, .int .i64 z3, .int .i64 z4] 26 := ((((((R4.out).put 0 (.string ⟨nm.toArray⟩)).put 1 (.int .i64 z0)).put 2 (.int .i64 z1)).put 3 (.int .i64 z2)).put 4 (.int .i64 z3)).put 5 (.int .i64 z4)
    have p0 := RF.c (k := 0) rfl
    have p1 := RF.c (k := 1) rfl
    have p2 := RF.c (k := 2) rfl
    have p3 := RF.c (k := 3) rfl
    have p4 := RF.c (k := 4) rfl
    have p5 := RF.c (k := 5) rfl
    refine bodyPost_ret (v := .tuple #[.agg #[.string ⟨nm.toArray⟩, .int .i64 z0, .int .i64 z1, .int .i64 z2, .int .i64 z3, .int .i64 z4], .bool true]) (by simp [results, Tryd.results10, go_sem, p0, p1, p2, p3, p4, p5]) rfl ?_
    exact ⟨by rw [HE.out]; rfl, ((((((B4.out).setCell (p := ⟨w.heap.size, 0, none⟩) (Nat.le_refl _) (.string ⟨nm.toArray⟩)).setCell (p := ⟨w.heap.size, 1, none⟩) (Nat.le_refl _) (.int .i64 z0)).setCell (p := ⟨w.heap.size, 2, none⟩) (Nat.le_refl _) (.int .i64 z1)).setCell (p := ⟨w.heap.size, 3, none⟩) (Nat.le_refl _) (.int .i64 z2)).setCell (p := ⟨w.heap.size, 4, none⟩) (Nat.le_refl _) (.int .i64 z3)).setCell (p := ⟨w.heap.size, 5, none⟩) (Nat.le_refl _) (.int .i64 z4)⟩
set_option maxHeartbeats 4000000 in
theorem spec_l08read (s : ByteArray) (w : World) (hs : s.size ≤ 1048576) :
    Calls Tryd.prog 16 #[.string s] w fun e w' => e = .returned (.tuple #[rdV (readI s.data.toList), .bool (readI s.data.toList).isSome]) ∧ Below w.heap.size w w' := by
  have hsp := fun W => spec_split s 32 W (by omega)
  have HR0 := Bx.mk (readI_cut s.data.toList)
  have hln : s.data.toList.length = s.size := by simp
  have hpl : ∀ p ∈ cutL 32 s.data.toList, p.length ≤ 1048576 := fun p hp => by have := piece_len 32 _ p hp; omega
  have hcl : (cutL 32 s.data.toList).length ≤ 1048577 := by have := cut_len 32 s.data.toList; omega
  generalize readI s.data.toList = ro at *
  generalize cutL 32 s.data.toList = ps at *
  have R0 := BoxN.at w w.heap.size #[.string ⟨#[]⟩, .int .i64 0, .int .i64 0, .int .i64 0, .int .i64 0, .int .i64 0] 26 rfl
  have B0 := Bx.mk ((Below.refl w.heap.size w).alloc (Nat.le_refl _) (.cells #[.string ⟨#[]⟩, .int .i64 0, .int .i64 0, .int .i64 0, .int .i64 0, .int .i64 0] 26))
  generalize hW : w.alloc (.cells #[.string ⟨#[]⟩, .int .i64 0, .int .i64 0, .int .i64 0, .int .i64 0, .int .i64 0] 26) = W0 at R0 B0
  have R0 := Bx.mk R0
  go_enter Tryd.func16, Tryd.ntmps16
  go_wp2_with (fail)
  try rw [hW]
  try clear hW
  refine (hsp _).mono ?_
  rintro r w1 ⟨vp, rfl, hop, hb⟩
  have R1 := Bx.mk (R0.out.below hb)
  have B1 := Bx.mk (B0.out.trans (hb.mono B0.out.size))
  clear hb hsp R0 B0
  obtain ⟨AP, cp, rfl⟩ := own_len hop
  have HP := Bx.mk hop
  clear hop
  by_cases h2 : ps.length = 2
  rotate_left
  · have HE := Bx.mk (HR0.out.trans (if_neg h2))
    have d2 : ((ps.length : Int) != 2) = true := by simp; omega
    have r0 := R1.out.c (k := 0) rfl
    have r1 := R1.out.c (k := 1) rfl
    have r2 := R1.out.c (k := 2) rfl
    have r3 := R1.out.c (k := 3) rfl
    have r4 := R1.out.c (k := 4) rfl
    have r5 := R1.out.c (k := 5) rfl
    have f0 := R1.out.fr 0
    have f1 := R1.out.fr 1
    have f2 := R1.out.fr 2
    have f3 := R1.out.fr 3
    have f4 := R1.out.fr 4
    have f5 := R1.out.fr 5
    have rl := R1.out.lt
    go_wp2_with (fail)
    have RF : BoxN (((((((w1).setCell ⟨w.heap.size, 0, none⟩ (.string ⟨#[]⟩)).setCell ⟨w.heap.size, 1, none⟩ (.int .i64 0)).setCell ⟨w.heap.size, 2, none⟩ (.int .i64 0)).setCell ⟨w.heap.size, 3, none⟩ (.int .i64 0)).setCell ⟨w.heap.size, 4, none⟩ (.int .i64 0)).setCell ⟨w.heap.size, 5, none⟩ (.int .i64 0)) w.heap.size #[.string ⟨#[]⟩, .int .i64 0, .int .i64 0, .int .i64 0, .int .i64 0, .int .i64 0] 26 := ((((((R1.out).put 0 (.string ⟨#[]⟩)).put 1 (.int .i64 0)).put 2 (.int .i64 0)).put 3 (.int .i64 0)).put 4 (.int .i64 0)).put 5 (.int .i64 0)
    have p0 := RF.c (k := 0) rfl
    have p1 := RF.c (k := 1) rfl
    have p2 := RF.c (k := 2) rfl
    have p3 := RF.c (k := 3) rfl
    have p4 := RF.c (k := 4) rfl
    have p5 := RF.c (k := 5) rfl
    refine bodyPost_ret (v := .tuple #[.agg #[.string ⟨#[]⟩, .int .i64 0, .int .i64 0, .int .i64 0, .int .i64 0, .int .i64 0], .bool false]) (by simp [results, Tryd.results16, go_sem, p0, p1, p2, p3, p4, p5]) rfl ?_
    exact ⟨by rw [HE.out]; rfl, ((((((B1.out).setCell (p := ⟨w.heap.size, 0, none⟩) (Nat.le_refl _) (.string ⟨#[]⟩)).setCell (p := ⟨w.heap.size, 1, none⟩) (Nat.le_refl _) (.int .i64 0)).setCell (p := ⟨w.heap.size, 2, none⟩) (Nat.le_refl _) (.int .i64 0)).setCell (p := ⟨w.heap.size, 3, none⟩) (Nat.le_refl _) (.int .i64 0)).setCell (p := ⟨w.heap.size, 4, none⟩) (Nat.le_refl _) (.int .i64 0)).setCell (p := ⟨w.heap.size, 5, none⟩) (Nat.le_refl _) (.int .i64 0)⟩
  obtain ⟨nm, rest, rfl⟩ : ∃ a b, ps = [a, b] := by
    match ps, h2 with
    | [a, b], _ => exact ⟨a, b, rfl⟩
  have HR1 := Bx.mk (show ro = rdI nm rest from HR0.out.trans (if_pos h2))
  obtain ⟨g1, cp1, hvp, hg1, lg1⟩ := HP.out.form (by simp)
  injection hvp with e1 e2 e3
  subst e1 e3
  have n0 : w1.cell? ⟨g1, 0, none⟩ = some (.string ⟨nm.toArray⟩) := HP.out.cellAt 0 (by simp)
  have n1 : w1.cell? ⟨g1, 1, none⟩ = some (.string ⟨rest.toArray⟩) := HP.out.cellAt 1 (by simp)
  have hrl : rest.length ≤ 1048576 := hpl rest (by simp)
  have hnl : nm.length ≤ 1048576 := hpl nm (by simp)
  have hrd := fun W => spec_readlist ⟨rest.toArray⟩ W (by show rest.toArray.size ≤ _; simp; omega)
  rw [show (⟨rest.toArray⟩ : ByteArray).data.toList = rest from rfl] at hrd
  have HR : Bx ((readL rest = none ∨ ((readL rest).getD []).length ≠ 5) → ro = none) := Bx.mk (fun h => by
    rw [HR1.out]; unfold rdI
    cases e : readL rest with
    | none => rfl
    | some zs => rw [e] at h; simp only [Option.getD_some] at h; exact if_neg (h.resolve_left (by simp)))
  have HR5 : Bx (((readL rest).getD []).length = 5 → ro = if itB (itZ nm ((readL rest).getD [])) = true then some (itZ nm ((readL rest).getD [])) else none) := Bx.mk (fun h => by
    rw [HR1.out]; unfold rdI
    cases e : readL rest with
    | none => rw [e] at h; simp at h
    | some zs => rw [e] at h; simp only [Option.getD_some] at h ⊢; exact if_pos h)
  clear HR0 HR1 h2 hpl hcl
  go_wp2_with (fail)
  refine (hrd _).mono ?_
  rintro r w2 ⟨v, rfl, ho, hb⟩
  have R2 := Bx.mk (R1.out.below hb)
  have B2 := Bx.mk (B1.out.trans (hb.mono B1.out.size))
  have m0 := (hb.cell (p := ⟨g1, 0, none⟩) lg1).trans n0
  have lg1 := Nat.lt_of_lt_of_le lg1 hb.size
  clear hb hrd R1 B1 n0 n1 HP
  have HIS : Bx ((readL rest).isSome = false → readL rest = none) := Bx.mk (fun h => by cases e : readL rest with | none => rfl | some _ => rw [e] at h; cases h)
  cases hrs : (readL rest).isSome
  · have HE := Bx.mk (HR.out (.inl (HIS.out hrs)))
    obtain ⟨A, cc, rfl⟩ := own_len ho
    clear ho hrs
    have r0 := R2.out.c (k := 0) rfl
    have r1 := R2.out.c (k := 1) rfl
    have r2 := R2.out.c (k := 2) rfl
    have r3 := R2.out.c (k := 3) rfl
    have r4 := R2.out.c (k := 4) rfl
    have r5 := R2.out.c (k := 5) rfl
    have f0 := R2.out.fr 0
    have f1 := R2.out.fr 1
    have f2 := R2.out.fr 2
    have f3 := R2.out.fr 3
    have f4 := R2.out.fr 4
    have f5 := R2.out.fr 5
    have rl := R2.out.lt
    go_wp2_with (fail)
    have RF : BoxN (((((((w2).setCell ⟨w.heap.size, 0, none⟩ (.string ⟨#[]⟩)).setCell ⟨w.heap.size, 1, none⟩ (.int .i64 0)).setCell ⟨w.heap.size, 2, none⟩ (.int .i64 0)).setCell ⟨w.heap.size, 3, none⟩ (.int .i64 0)).setCell ⟨w.heap.size, 4, none⟩ (.int .i64 0)).setCell ⟨w.heap.size, 5, none⟩ (.int .i64 0)) w.heap.size #[.string ⟨#[]⟩, .int .i64 0, .int .i64 0, .int .i64 0, .int .i64 0, .int .i64 0] 26 := ((((((R2.out).put 0 (.string ⟨#[]⟩)).put 1 (.int .i64 0)).put 2 (.int .i64 0)).put 3 (.int .i64 0)).put 4 (.int .i64 0)).put 5 (.int .i64 0)
    have p0 := RF.c (k := 0) rfl
    have p1 := RF.c (k := 1) rfl
    have p2 := RF.c (k := 2) rfl
    have p3 := RF.c (k := 3) rfl
    have p4 := RF.c (k := 4) rfl
    have p5 := RF.c (k := 5) rfl
    refine bodyPost_ret (v := .tuple #[.agg #[.string ⟨#[]⟩, .int .i64 0, .int .i64 0, .int .i64 0, .int .i64 0, .int .i64 0], .bool false]) (by simp [results, Tryd.results16, go_sem, p0, p1, p2, p3, p4, p5]) rfl ?_
    exact ⟨by rw [HE.out]; rfl, ((((((B2.out).setCell (p := ⟨w.heap.size, 0, none⟩) (Nat.le_refl _) (.string ⟨#[]⟩)).setCell (p := ⟨w.heap.size, 1, none⟩) (Nat.le_refl _) (.int .i64 0)).setCell (p := ⟨w.heap.size, 2, none⟩) (Nat.le_refl _) (.int .i64 0)).setCell (p := ⟨w.heap.size, 3, none⟩) (Nat.le_refl _) (.int .i64 0)).setCell (p := ⟨w.heap.size, 4, none⟩) (Nat.le_refl _) (.int .i64 0)).setCell (p := ⟨w.heap.size, 5, none⟩) (Nat.le_refl _) (.int .i64 0)⟩
  · clear HIS hrs
    generalize (readL rest).getD [] = zs at *
    obtain ⟨A, cc, rfl⟩ := own_len ho
    have HI := Bx.mk (IntsAt.own ho)
    clear ho
    by_cases h5 : zs.length = 5
    rotate_left
    · have HE := Bx.mk (HR.out (.inr h5))
      have d5 : ((zs.length : Int) != 5) = true := by simp; omega
      have r0 := R2.out.c (k := 0) rfl
      have r1 := R2.out.c (k := 1) rfl
      have r2 := R2.out.c (k := 2) rfl
      have r3 := R2.out.c (k := 3) rfl
      have r4 := R2.out.c (k := 4) rfl
      have r5 := R2.out.c (k := 5) rfl
      have f0 := R2.out.fr 0
      have f1 := R2.out.fr 1
      have f2 := R2.out.fr 2
      have f3 := R2.out.fr 3
      have f4 := R2.out.fr 4
      have f5 := R2.out.fr 5
      have rl := R2.out.lt
      go_wp2_with (fail)
      have RF : BoxN (((((((w2).setCell ⟨w.heap.size, 0, none⟩ (.string ⟨#[]⟩)).setCell ⟨w.heap.size, 1, none⟩ (.int .i64 0)).setCell ⟨w.heap.size, 2, none⟩ (.int .i64 0)).setCell ⟨w.heap.size, 3, none⟩ (.int .i64 0)).setCell ⟨w.heap.size, 4, none⟩ (.int .i64 0)).setCell ⟨w.heap.size, 5, none⟩ (.int .i64 0)) w.heap.size #[.string ⟨#[]⟩, .int .i64 0, .int .i64 0, .int .i64 0, .int .i64 0, .int .i64 0] 26 := ((((((R2.out).put 0 (.string ⟨#[]⟩)).put 1 (.int .i64 0)).put 2 (.int .i64 0)).put 3 (.int .i64 0)).put 4 (.int .i64 0)).put 5 (.int .i64 0)
      have p0 := RF.c (k := 0) rfl
      have p1 := RF.c (k := 1) rfl
      have p2 := RF.c (k := 2) rfl
      have p3 := RF.c (k := 3) rfl
      have p4 := RF.c (k := 4) rfl
      have p5 := RF.c (k := 5) rfl
      refine bodyPost_ret (v := .tuple #[.agg #[.string ⟨#[]⟩, .int .i64 0, .int .i64 0, .int .i64 0, .int .i64 0, .int .i64 0], .bool false]) (by simp [results, Tryd.results16, go_sem, p0, p1, p2, p3, p4, p5]) rfl ?_
      exact ⟨by rw [HE.out]; rfl, ((((((B2.out).setCell (p := ⟨w.heap.size, 0, none⟩) (Nat.le_refl _) (.string ⟨#[]⟩)).setCell (p := ⟨w.heap.size, 1, none⟩) (Nat.le_refl _) (.int .i64 0)).setCell (p := ⟨w.heap.size, 2, none⟩) (Nat.le_refl _) (.int .i64 0)).setCell (p := ⟨w.heap.size, 3, none⟩) (Nat.le_refl _) (.int .i64 0)).setCell (p := ⟨w.heap.size, 4, none⟩) (Nat.le_refl _) (.int .i64 0)).setCell (p := ⟨w.heap.size, 5, none⟩) (Nat.le_refl _) (.int .i64 0)⟩
    have HE := Bx.mk (HR5.out h5)
    obtain ⟨z0, z1, z2, z3, z4, rfl⟩ := five h5
    obtain ⟨g2, o2, c2, hv2, lg2, hc2⟩ := HI.out.form (by simp)
    injection hv2 with e1 e2 e3
    subst e1 e3
    have C0 : w2.cell? ⟨g2, o2, none⟩ = some (.int .i64 z0) := hc2 0 (by simp)
    have C1 : w2.cell? ⟨g2, o2 + 1, none⟩ = some (.int .i64 z1) := hc2 1 (by simp)
    have C2 : w2.cell? ⟨g2, o2 + 2, none⟩ = some (.int .i64 z2) := hc2 2 (by simp)
    have C3 : w2.cell? ⟨g2, o2 + 3, none⟩ = some (.int .i64 z3) := hc2 3 (by simp)
    have C4 : w2.cell? ⟨g2, o2 + 4, none⟩ = some (.int .i64 z4) := hc2 4 (by simp)
    have SS0 : Bx (w2.cell? ⟨g1, 0, none⟩ = some (.string ⟨nm.toArray⟩) ∧ g1 < w2.heap.size ∧ w2.cell? ⟨g2, o2, none⟩ = some (.int .i64 z0) ∧ w2.cell? ⟨g2, o2 + 1, none⟩ = some (.int .i64 z1) ∧ w2.cell? ⟨g2, o2 + 2, none⟩ = some (.int .i64 z2) ∧ w2.cell? ⟨g2, o2 + 3, none⟩ = some (.int .i64 z3) ∧ w2.cell? ⟨g2, o2 + 4, none⟩ = some (.int .i64 z4) ∧ g2 < w2.heap.size ∧ Below w2.heap.size w2 w2) := Bx.mk ⟨m0, lg1, C0, C1, C2, C3, C4, lg2, Below.refl _ _⟩
    have hvi := fun b W h hl => spec_one b 0 ⟨⟨nm.toArray⟩, z0, z1, z2, z3, z4⟩ W h hl (by show nm.toArray.size ≤ _; simp [maxLen]; omega)
    have HE2 : Bx (ro = if itB ⟨⟨nm.toArray⟩, z0, z1, z2, z3, z4⟩ = true then some ⟨⟨nm.toArray⟩, z0, z1, z2, z3, z4⟩ else none) := Bx.mk HE.out
    generalize itB ⟨⟨nm.toArray⟩, z0, z1, z2, z3, z4⟩ = ok at *
    clear hc2 HE HR HR5 HI h5 m0
    go_wp2_with (fail)
    go_region_held3 (fun W => W.cell? ⟨g1, 0, none⟩ = some (.string ⟨nm.toArray⟩) ∧ g1 < W.heap.size ∧ W.cell? ⟨g2, o2, none⟩ = some (.int .i64 z0) ∧ W.cell? ⟨g2, o2 + 1, none⟩ = some (.int .i64 z1) ∧ W.cell? ⟨g2, o2 + 2, none⟩ = some (.int .i64 z2) ∧ W.cell? ⟨g2, o2 + 3, none⟩ = some (.int .i64 z3) ∧ W.cell? ⟨g2, o2 + 4, none⟩ = some (.int .i64 z4) ∧ g2 < W.heap.size ∧ Below w2.heap.size w2 W)
      (first | (with_reducible assumption) | (with_reducible exact keepZ6 (by assumption) (Below.refl _ _).drew) | exact keepZ6 SS0.out (Below.refl _ _).drew | exact keepZ6 SS0.out (Below.drew ((Below.refl _ _).alloc (Nat.le_refl _) _)) | exact keepZ6 (by assumption) ((Below.refl _ _).alloc (Nat.le_refl _) _))
      (fail)
    have B3 := Bx.mk (Below.drew (B2.out.alloc B2.out.size (.cells #[.string ⟨nm.toArray⟩, .int .i64 z0, .int .i64 z1, .int .i64 z2, .int .i64 z3, .int .i64 z4] 26)))
    have R3 : Bx (BoxN (w2.alloc (.cells #[.string ⟨nm.toArray⟩, .int .i64 z0, .int .i64 z1, .int .i64 z2, .int .i64 z3, .int .i64 z4] 26)).drew w.heap.size #[.string ⟨#[]⟩, .int .i64 0, .int .i64 0, .int .i64 0, .int .i64 0, .int .i64 0] 26) := Bx.mk (R2.out.alloc (.cells #[.string ⟨nm.toArray⟩, .int .i64 z0, .int .i64 z1, .int .i64 z2, .int .i64 z3, .int .i64 z4] 26))
    have X3 : Bx (BoxN (w2.alloc (.cells #[.string ⟨nm.toArray⟩, .int .i64 z0, .int .i64 z1, .int .i64 z2, .int .i64 z3, .int .i64 z4] 26)).drew w2.heap.size #[.string ⟨nm.toArray⟩, .int .i64 z0, .int .i64 z1, .int .i64 z2, .int .i64 z3, .int .i64 z4] 26) := Bx.mk (BoxN.at w2 w2.heap.size #[.string ⟨nm.toArray⟩, .int .i64 z0, .int .i64 z1, .int .i64 z2, .int .i64 z3, .int .i64 z4] 26 rfl)
    have hne : w.heap.size < w2.heap.size := R2.out.lt
    generalize (w2.alloc (.cells #[.string ⟨nm.toArray⟩, .int .i64 z0, .int .i64 z1, .int .i64 z2, .int .i64 z3, .int .i64 z4] 26)).drew = w3 at B3 R3 X3 ⊢
    obtain ⟨gx, hgx⟩ : ∃ g, g = w2.heap.size := ⟨_, rfl⟩
    rw [← hgx] at X3 hne ⊢
    clear hgx
    clear SS0 C0 C1 C2 C3 C4
    try clear hS
    have x0 := X3.out.c (k := 0) rfl
    have x1 := X3.out.c (k := 1) rfl
    have x2 := X3.out.c (k := 2) rfl
    have x3 := X3.out.c (k := 3) rfl
    have x4 := X3.out.c (k := 4) rfl
    have x5 := X3.out.c (k := 5) rfl
    have xl := X3.out.lt
    cases ok
    
    · have HE := Bx.mk (show ro = none from HE2.out)
      go_wp2_with (fail)
      refine (hvi _ _ ⟨x0, x1, x2, x3, x4, x5⟩ xl).mono ?_
      rintro r w4 ⟨rfl, hdr⟩
      have hb := quietB hdr
      have B4 := Bx.mk (B3.out.trans (hb.mono B3.out.size))
      have R4 := Bx.mk (R3.out.below hb)
      have X4 := Bx.mk (X3.out.below hb)
      clear hb hdr x0 x1 x2 x3 x4 x5 xl
      have r0 := R4.out.c (k := 0) rfl
      have r1 := R4.out.c (k := 1) rfl
      have r2 := R4.out.c (k := 2) rfl
      have r3 := R4.out.c (k := 3) rfl
      have r4 := R4.out.c (k := 4) rfl
      have r5 := R4.out.c (k := 5) rfl
      have f0 := R4.out.fr 0
      have f1 := R4.out.fr 1
      have f2 := R4.out.fr 2
      have f3 := R4.out.fr 3
      have f4 := R4.out.fr 4
      have f5 := R4.out.fr 5
      have rl := R4.out.lt
      have x0 := X4.out.c (k := 0) rfl
      have x1 := X4.out.c (k := 1) rfl
      have x2 := X4.out.c (k := 2) rfl
      have x3 := X4.out.c (k := 3) rfl
      have x4 := X4.out.c (k := 4) rfl
      have x5 := X4.out.c (k := 5) rfl
      have xl := X4.out.lt
      go_wp2_with (fail)
      have RF : BoxN (((((((w4).setCell ⟨w.heap.size, 0, none⟩ (.string ⟨#[]⟩)).setCell ⟨w.heap.size, 1, none⟩ (.int .i64 0)).setCell ⟨w.heap.size, 2, none⟩ (.int .i64 0)).setCell ⟨w.heap.size, 3, none⟩ (.int .i64 0)).setCell ⟨w.heap.size, 4, none⟩ (.int .i64 0)).setCell ⟨w.heap.size, 5, none⟩ (.int .i64 0)) w.heap.size #[.string ⟨#[]⟩, .int .i64 0, .int .i64 0, .int .i64 0, .int .i64 0, .int .i64 0] 26 := ((((((R4.out).put 0 (.string ⟨#[]⟩)).put 1 (.int .i64 0)).put 2 (.int .i64 0)).put 3 (.int .i64 0)).put 4 (.int .i64 0)).put 5 (.int .i64 0)
      have p0 := RF.c (k := 0) rfl
      have p1 := RF.c (k := 1) rfl
      have p2 := RF.c (k := 2) rfl
      have p3 := RF.c (k := 3) rfl
      have p4 := RF.c (k := 4) rfl
      have p5 := RF.c (k := 5) rfl
      refine bodyPost_ret (v := .tuple #[.agg #[.string ⟨#[]⟩, .int .i64 0, .int .i64 0, .int .i64 0, .int .i64 0, .int .i64 0], .bool false]) (by simp [results, Tryd.results16, go_sem, p0, p1, p2, p3, p4, p5]) rfl ?_
      exact ⟨by rw [HE.out]; rfl, ((((((B4.out).setCell (p := ⟨w.heap.size, 0, none⟩) (Nat.le_refl _) (.string ⟨#[]⟩)).setCell (p := ⟨w.heap.size, 1, none⟩) (Nat.le_refl _) (.int .i64 0)).setCell (p := ⟨w.heap.size, 2, none⟩) (Nat.le_refl _) (.int .i64 0)).setCell (p := ⟨w.heap.size, 3, none⟩) (Nat.le_refl _) (.int .i64 0)).setCell (p := ⟨w.heap.size, 4, none⟩) (Nat.le_refl _) (.int .i64 0)).setCell (p := ⟨w.heap.size, 5, none⟩) (Nat.le_refl _) (.int .i64 0)⟩
    · have HE := Bx.mk (show ro = some ⟨⟨nm.toArray⟩, z0, z1, z2, z3, z4⟩ from HE2.out)
      go_wp2_with (fail)
      refine (hvi _ _ ⟨x0, x1, x2, x3, x4, x5⟩ xl).mono ?_
      rintro r w4 ⟨rfl, hdr⟩
      have hb := quietB hdr
      have B4 := Bx.mk (B3.out.trans (hb.mono B3.out.size))
      have R4 := Bx.mk (R3.out.below hb)
      have X4 := Bx.mk (X3.out.below hb)
      clear hb hdr x0 x1 x2 x3 x4 x5 xl
      have r0 := R4.out.c (k := 0) rfl
      have r1 := R4.out.c (k := 1) rfl
      have r2 := R4.out.c (k := 2) rfl
      have r3 := R4.out.c (k := 3) rfl
      have r4 := R4.out.c (k := 4) rfl
      have r5 := R4.out.c (k := 5) rfl
      have f0 := R4.out.fr 0
      have f1 := R4.out.fr 1
      have f2 := R4.out.fr 2
      have f3 := R4.out.fr 3
      have f4 := R4.out.fr 4
      have f5 := R4.out.fr 5
      have rl := R4.out.lt
      have x0 := X4.out.c (k := 0) rfl
      have x1 := X4.out.c (k := 1) rfl
      have x2 := X4.out.c (k := 2) rfl
      have x3 := X4.out.c (k := 3) rfl
      have x4 := X4.out.c (k := 4) rfl
      have x5 := X4.out.c (k := 5) rfl
      have xl := X4.out.lt
      go_wp2_with (fail)
      have RF : BoxN (((((((w4).setCell ⟨w.heap.size, 0, none⟩ (.string ⟨nm.toArray⟩)).setCell ⟨w.heap.size, 1, none⟩ (.int .i64 z0)).setCell ⟨w.heap.size, 2, none⟩ (.int .i64 z1)).setCell ⟨w.heap.size, 3, none⟩ (.int .i64 z2)).setCell ⟨w.heap.size, 4, none⟩ (.int .i64 z3)).setCell ⟨w.heap.size, 5, none⟩ (.int .i64 z4)) w.heap.size #[.string ⟨nm.toArray⟩, .int .i64 z0, .int .i64 z1, .int .i64 z2, .int .i64 z3, .int .i64 z4] 26 := ((((((R4.out).put 0 (.string ⟨nm.toArray⟩)).put 1 (.int .i64 z0)).put 2 (.int .i64 z1)).put 3 (.int .i64 z2)).put 4 (.int .i64 z3)).put 5 (.int .i64 z4)
      have p0 := RF.c (k := 0) rfl
      have p1 := RF.c (k := 1) rfl
      have p2 := RF.c (k := 2) rfl
      have p3 := RF.c (k := 3) rfl
      have p4 := RF.c (k := 4) rfl
      have p5 := RF.c (k := 5) rfl
      refine bodyPost_ret (v := .tuple #[.agg #[.string ⟨nm.toArray⟩, .int .i64 z0, .int .i64 z1, .int .i64 z2, .int .i64 z3, .int .i64 z4], .bool true]) (by simp [results, Tryd.results16, go_sem, p0, p1, p2, p3, p4, p5]) rfl ?_
      exact ⟨by rw [HE.out]; rfl, ((((((B4.out).setCell (p := ⟨w.heap.size, 0, none⟩) (Nat.le_refl _) (.string ⟨nm.toArray⟩)).setCell (p := ⟨w.heap.size, 1, none⟩) (Nat.le_refl _) (.int .i64 z0)).setCell (p := ⟨w.heap.size, 2, none⟩) (Nat.le_refl _) (.int .i64 z1)).setCell (p := ⟨w.heap.size, 3, none⟩) (Nat.le_refl _) (.int .i64 z2)).setCell (p := ⟨w.heap.size, 4, none⟩) (Nat.le_refl _) (.int .i64 z3)).setCell (p := ⟨w.heap.size, 5, none⟩) (Nat.le_refl _) (.int .i64 z4)⟩
theorem spec_readitem (s : ByteArray) (w : World) (hs : s.size ≤ 1048576) :
    Calls Tryd.prog 9 #[.string s] w fun e w' => e = .returned (.tuple #[rdV (readI s.data.toList), .bool (readI s.data.toList).isSome]) ∧ Below w.heap.size w w' := by
  have hq := fun W => spec_l08read s W hs
  unfold rdV itV at *
  generalize (readI s.data.toList).getD it0 = x at *
  generalize (readI s.data.toList).isSome = ok at *
  have R0 := BoxN.at w w.heap.size #[.string ⟨#[]⟩, .int .i64 0, .int .i64 0, .int .i64 0, .int .i64 0, .int .i64 0] 26 rfl
  have B0 := Bx.mk ((Below.refl w.heap.size w).alloc (Nat.le_refl _) (.cells #[.string ⟨#[]⟩, .int .i64 0, .int .i64 0, .int .i64 0, .int .i64 0, .int .i64 0] 26))
  generalize hW : w.alloc (.cells #[.string ⟨#[]⟩, .int .i64 0, .int .i64 0, .int .i64 0, .int .i64 0, .int .i64 0] 26) = W0 at R0 B0
  have R0 := Bx.mk R0
  go_enter Tryd.func9, Tryd.ntmps9
  go_wp2_with (fail)
  try rw [hW]
  try clear hW
  refine (hq _).mono ?_
  rintro r w1 ⟨rfl, hb⟩
  have R1 := Bx.mk (R0.out.below hb)
  have B1 := Bx.mk (B0.out.trans (hb.mono B0.out.size))
  clear hb R0 B0
  have r0 := R1.out.c (k := 0) rfl
  have r1 := R1.out.c (k := 1) rfl
  have r2 := R1.out.c (k := 2) rfl
  have r3 := R1.out.c (k := 3) rfl
  have r4 := R1.out.c (k := 4) rfl
  have r5 := R1.out.c (k := 5) rfl
  have f0 := R1.out.fr 0
  have f1 := R1.out.fr 1
  have f2 := R1.out.fr 2
  have f3 := R1.out.fr 3
  have f4 := R1.out.fr 4
  have f5 := R1.out.fr 5
  have rl := R1.out.lt
  go_wp2_with (fail)
  have RF : BoxN (((((((w1).setCell ⟨w.heap.size, 0, none⟩ (.string x.nm)).setCell ⟨w.heap.size, 1, none⟩ (.int .i64 x.f)).setCell ⟨w.heap.size, 2, none⟩ (.int .i64 x.u)).setCell ⟨w.heap.size, 3, none⟩ (.int .i64 x.s)).setCell ⟨w.heap.size, 4, none⟩ (.int .i64 x.m)).setCell ⟨w.heap.size, 5, none⟩ (.int .i64 x.p)) w.heap.size #[.string x.nm, .int .i64 x.f, .int .i64 x.u, .int .i64 x.s, .int .i64 x.m, .int .i64 x.p] 26 := ((((((R1.out).put 0 (.string x.nm)).put 1 (.int .i64 x.f)).put 2 (.int .i64 x.u)).put 3 (.int .i64 x.s)).put 4 (.int .i64 x.m)).put 5 (.int .i64 x.p)
  have p0 := RF.c (k := 0) rfl
  have p1 := RF.c (k := 1) rfl
  have p2 := RF.c (k := 2) rfl
  have p3 := RF.c (k := 3) rfl
  have p4 := RF.c (k := 4) rfl
  have p5 := RF.c (k := 5) rfl
  refine bodyPost_ret (v := .tuple #[.agg #[.string x.nm, .int .i64 x.f, .int .i64 x.u, .int .i64 x.s, .int .i64 x.m, .int .i64 x.p], .bool ok]) (by simp [results, Tryd.results9, go_sem, p0, p1, p2, p3, p4, p5]) rfl ?_
  exact ⟨rfl, ((((((B1.out).setCell (p := ⟨w.heap.size, 0, none⟩) (Nat.le_refl _) (.string x.nm)).setCell (p := ⟨w.heap.size, 1, none⟩) (Nat.le_refl _) (.int .i64 x.f)).setCell (p := ⟨w.heap.size, 2, none⟩) (Nat.le_refl _) (.int .i64 x.u)).setCell (p := ⟨w.heap.size, 3, none⟩) (Nat.le_refl _) (.int .i64 x.s)).setCell (p := ⟨w.heap.size, 4, none⟩) (Nat.le_refl _) (.int .i64 x.m)).setCell (p := ⟨w.heap.size, 5, none⟩) (Nat.le_refl _) (.int .i64 x.p)⟩
end Go.Proofs.YtmbillcdlcgjiaaDoor
