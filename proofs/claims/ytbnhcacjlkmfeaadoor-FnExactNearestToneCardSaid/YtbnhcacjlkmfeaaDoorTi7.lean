/- The program's ladder of cents. -/
import Derived.Test.YtbnhcacjlkmfeaaDoorTi2
import Derived.Test.YtbnhcacjlkmfeaaDoorTiA
import Derived.Test.YtbnhcacjlkmfeaaDoorTuM2
import Derived.Test.YtbnhcacjlkmfeaaDoorTiR
namespace Go.Proofs.YtbnhcacjlkmfeaaDoor
open Go.ChangeShapes Go.WideShapes Go.ChangeAt Go.RowKit
set_option linter.unusedVariables false
set_option linter.unusedSimpArgs false
set_option maxRecDepth 100000
set_option maxRecDepth 10000

def ladL (f : Nat → Int) : List Value := (List.range 36).map fun i => .int .i64 (f i)
theorem arrV_all (f : Nat → Value) (z : Value) (n : Nat) : arrV f z n n = (List.range n).map f := by
  unfold arrV
  apply List.map_congr_left
  intro i hi
  rw [if_pos (List.mem_range.1 hi)]
theorem info_lad (f : Nat → Int) : (Tryd.prog.info? 58).map (·.size) = some (ladL f).toArray.size := by
  have h : (Tryd.prog.info? 58).map (·.size) = some 36 := by kernel_rfl
  rw [h]; simp [ladL]
theorem lad_one (f : Nat → Int) : (ladL f).toArray.all (·.oneCell') = true := by simp [ladL, Value.oneCell']
set_option maxHeartbeats 8000000 in
theorem impl_ladder (s : ByteArray) (v : Value) (l : List (Int × Int)) (f : Nat → Int) (hf : ∀ k : Nat, f k = centsT l (-12 + (k : Int))) (w : World) (h : PrsAt w v l) (ht : tunB s.data.toList l = true) (hT : StepTab w) :
    Calls Tryd.prog 40 #[tun s v] w fun e w' => e = .returned (.agg (ladL f).toArray) ∧ Below w.heap.size w w' := by
  have hce := fun (k : Nat) (hk : k < 36) W hW hT => impl_tcents s v l (-12 + (k : Int)) W hW ht (by omega) hT
  have HBD := Bx.mk (fun (k : Nat) (hk : k < 36) => centsT_bd (p := -12 + (k : Int)) ht (by omega))
  simp only [← hf] at hce HBD
  have HI := Bx.mk h
  have HT := Bx.mk hT
  obtain ⟨A, c, rfl⟩ := prs_len h
  simp only [tun] at *
  clear h ht hT hf
  go_enter Tryd.func40, Tryd.ntmps40
  go_wp2_with (fail)
  go_loopw [5] (fun i wr => ∃ k : Nat, k ≤ 36 ∧ i = .int .i64 k ∧ Bx (ArrAt wr (w.heap.size + 1 + 1) (arrV (fun i => .int .i64 (f i)) (.int .i64 0) 36 k) 58) ∧ Bx (ArrAt wr (w.heap.size + 1) (arrV (fun i => .int .i64 (f i)) (.int .i64 0) 36 0) 58) ∧ Bx (wr.cell? ⟨w.heap.size, 0, none⟩ = some (.string s) ∧ wr.cell? ⟨w.heap.size, 1, none⟩ = some (.slice A l.length c) ∧ w.heap.size < wr.heap.size) ∧ Bx (Below w.heap.size w wr)) (fun i _ => 36 - (intOf i).toNat)
  case atStart =>
    refine ⟨0, by omega, rfl, Bx.mk ?_, Bx.mk ?_, Bx.mk ⟨?_, ?_, ?_⟩, Bx.mk ((((Below.refl _ _).alloc (Nat.le_refl _) _).alloc (by simp) _).alloc (by simp; omega) _)⟩
    · exact ArrAt.at _ _ _ _ (by simp)
    · exact (ArrAt.at _ _ _ _ (by simp)).alloc _
    · exact (((BoxAt.at _ _ _ _ _ rfl).alloc _).alloc _).c0
    · exact (((BoxAt.at _ _ _ _ _ rfl).alloc _).alloc _).c1
    · simp; omega
  case round =>
    obtain ⟨k, hk, rfl, HA, HR, HK, HB⟩ := hrel
    by_cases hlt : k < 36
    · have hc1 := hce k hlt
      obtain ⟨z1, z2⟩ := HBD.out k hlt
      have HF : Bx (.int .i64 (f k) = (fun i => Value.int .i64 (f i)) k) := Bx.mk rfl
      obtain ⟨k10, k11, k1l⟩ := HK.out
      have k0 : (0 : Int) ≤ (k : Int) := by omega
      have k1 : (k : Int) < 36 := by omega
      have E1 : IntKind.i64.wrap (-12 + (k : Int)) = -12 + (k : Int) := IntWalk.i64_in _ (by omega)
      have E2 : IntKind.i64.wrap (f k) = f k := IntWalk.i64_in _ (by omega)
      clear hce HBD
      go_wp2_with (fail)
      refine (hc1 _ (HI.out.below HB.out) (HT.out.below HB.out)).mono ?_
      rintro e w5 ⟨rfl, hb5⟩
      have HA5 := Bx.mk (HA.out.below hb5)
      have HR5 := Bx.mk (HR.out.below hb5)
      have HB5 : Bx (Below w.heap.size w w5) := Bx.mk (HB.out.trans (hb5.mono HB.out.size))
      have K5 : Bx (w5.cell? ⟨w.heap.size, 0, none⟩ = some (.string s) ∧ w5.cell? ⟨w.heap.size, 1, none⟩ = some (.slice A l.length c) ∧ w.heap.size < w5.heap.size) := Bx.mk ⟨(hb5.cell (p := ⟨w.heap.size, 0, none⟩) k1l).trans k10, (hb5.cell (p := ⟨w.heap.size, 1, none⟩) k1l).trans k11, Nat.lt_of_lt_of_le k1l hb5.size⟩
      clear hb5 HA HR HB HK k10 k11 k1l hc1
      have a0 : w5.cell? ⟨w.heap.size + 1 + 1, k, none⟩ = some (.int .i64 0) := by rw [HA5.out.cell, arrV_at _ _ _ _ _ hlt, if_neg (by omega)]
      have af := HA5.out.f0 k
      have al := HA5.out.lt
      have HS : Bx (ArrAt (w5.setCell ⟨w.heap.size + 1 + 1, k, none⟩ (.int .i64 (f k))) (w.heap.size + 1 + 1) (arrV (fun i => .int .i64 (f i)) (.int .i64 0) 36 (k + 1)) 58) := Bx.mk (by
        rw [← arrV_set]
        exact HA5.out.put k _)
      have HR6 : Bx (ArrAt (w5.setCell ⟨w.heap.size + 1 + 1, k, none⟩ (.int .i64 (f k))) (w.heap.size + 1) (arrV (fun i => .int .i64 (f i)) (.int .i64 0) 36 0) 58) := Bx.mk (ArrAt.other (by omega) HR5.out _)
      have K6 : Bx ((w5.setCell ⟨w.heap.size + 1 + 1, k, none⟩ (.int .i64 (f k))).cell? ⟨w.heap.size, 0, none⟩ = some (.string s) ∧ (w5.setCell ⟨w.heap.size + 1 + 1, k, none⟩ (.int .i64 (f k))).cell? ⟨w.heap.size, 1, none⟩ = some (.slice A l.length c) ∧ w.heap.size < (w5.setCell ⟨w.heap.size + 1 + 1, k, none⟩ (.int .i64 (f k))).heap.size) := Bx.mk ⟨by rw [World.cell?_setCell_other _ _ _ _ (by intro e; injection e with e1; omega)]; exact K5.out.1, by rw [World.cell?_setCell_other _ _ _ _ (by intro e; injection e with e1; omega)]; exact K5.out.2.1, by simpa using K5.out.2.2⟩
      have HB6 : Bx (Below w.heap.size w (w5.setCell ⟨w.heap.size + 1 + 1, k, none⟩ (.int .i64 (f k)))) := Bx.mk (HB5.out.setCell (by show w.heap.size ≤ w.heap.size + 1 + 1; omega) _)
      clear HA5 HR5 HB5 K5 HF
      go_wp2_with (fail)
      go_roundw
      case rel => exact ⟨k + 1, by omega, by go_num, HS, HR6, K6, HB6⟩
      case measure => simp [intOf]; omega
    · obtain rfl : k = 36 := by omega
      have HL : Bx (ArrAt wr (w.heap.size + 1 + 1) (ladL f) 58) := Bx.mk (by have := HA.out; rwa [arrV_all] at this)
      have hld := HL.out.load 36 3 Tryd.underlying58 (info_lad f)
      have hst := HR.out.store (ladL f).toArray (info_lad f) (by simp [arrV, ladL]) (lad_one f)
      have P := setRow_at HR.out (ladL f).toArray
      have hB := setRow_below HB.out (show w.heap.size ≤ w.heap.size + 1 by omega) (ladL f).toArray
      clear HA hce HBD HK HL
      go_upto_region 7 with (fail)
      refine wp_region_lit ?_
      refine wpR_lod rfl 58 _ rfl (.pointer (some ⟨w.heap.size + 1 + 1, 0, none⟩)) _ rfl hld ?_
      refine wpR_sto rfl 58 _ _ rfl (.pointer (some ⟨w.heap.size + 1, 0, none⟩)) _ rfl rfl hst ?_
      refine wpList_nil ?_
      have hld2 := P.load 36 3 Tryd.underlying58 (by simpa using info_lad f)
      generalize wr.setRow (w.heap.size + 1) (ladL f).toArray = W2 at *
      have hP : ArrAt W2 (w.heap.size + 1) (ladL f) 58 := by simpa using P
      have hlc := hP.from (P := Tryd.prog) 36 (by simp [ladL])
      clear hld hst P hld2
      go_wp2_with (fail)
      refine bodyPost_ret (v := .agg (ladL f).toArray) ?_ rfl ⟨rfl, hB⟩
      exact results_cell_row Tryd.results40 _ W2 (w.heap.size + 1) _ (ladL f).toArray (0, 0) _ (by simp [go_sem, Act.put]) hP Tryd.underlying58 rfl (info_lad f)
end Go.Proofs.YtbnhcacjlkmfeaaDoor
