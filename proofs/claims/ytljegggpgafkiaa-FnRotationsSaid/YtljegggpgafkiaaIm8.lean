/- Scales: a ring of tones, by the program. -/
import Derived.Test.YtljegggpgafkiaaIm7
import Derived.Defers
import Derived.RegionTactic
import Derived.BigRegion
namespace Go.Proofs.Ytljegggpgafkiaa
open Go.ChangeShapes Go.WideShapes Go.ChangeAt Go.RowKit
set_option linter.unusedVariables false
set_option linter.unusedSimpArgs false
set_option maxRecDepth 100000

/-- a ring in a block of its own -/
structure RingAt (w : World) (g : Nat) (v : Value) (k : Int) : Prop where
  hp : w.heap[g]? = some (.cells #[v, .int .i64 k] 69 (0, 0))
theorem RingAt.c0 {w : World} {g : Nat} {v : Value} {k : Int} (h : RingAt w g v k) : w.cell? ⟨g, 0, none⟩ = some v := by simp [World.cell?, h.hp]
theorem RingAt.c1 {w : World} {g : Nat} {v : Value} {k : Int} (h : RingAt w g v k) : w.cell? ⟨g, 1, none⟩ = some (.int .i64 k) := by simp [World.cell?, h.hp]
theorem RingAt.f1 {w : World} {g : Nat} {v : Value} {k : Int} (h : RingAt w g v k) : w.frozen? ⟨g, 1, none⟩ = false := by simp [World.frozen?, h.hp]
theorem RingAt.lt {w : World} {g : Nat} {v : Value} {k : Int} (h : RingAt w g v k) : g < w.heap.size := by
  rcases Nat.lt_or_ge g w.heap.size with h' | h'
  · exact h'
  · have := h.hp; rw [Array.getElem?_eq_none h'] at this; cases this
theorem RingAt.put {w : World} {g : Nat} {v : Value} {k : Int} (h : RingAt w g v k) (k' : Int) : RingAt (w.setCell ⟨g, 1, none⟩ (.int .i64 k')) g v k' := ⟨by simp [World.setCell, Array.getElem?_modify, h.hp]⟩
theorem RingAt.grown {w w' : World} {g : Nat} {v : Value} {k : Int} {row : Option Nat} (h : RingAt w g v k) (hg : w.grownBy w' row) (hn : some g ≠ row) : RingAt w' g v k := ⟨by rw [hg.block g h.lt hn]; exact h.hp⟩
theorem RingAt.alloc {w : World} {g : Nat} {v : Value} {k : Int} (h : RingAt w g v k) (o : Obj) : RingAt (w.alloc o) g v k := h.grown (World.grownBy_alloc w o none) (by simp)
theorem RingAt.draws {w : World} {g : Nat} {v : Value} {k : Int} (h : RingAt w g v k) (n : Nat) : RingAt (w.drewN n) g v k := ⟨h.hp⟩
theorem grown_put (w : World) (g : Nat) (x : Value) : w.grownBy (w.setCell ⟨g, 1, none⟩ x) (some g) := ⟨rfl, rfl, rfl, by simp [World.setCell], fun k _ hk => Below.heap_setCell _ _ _ _ (fun e => hk (by simp [e]))⟩
theorem own_put {w : World} {base e size n g : Nat} {v x : Value} {xs : List Value} (h : w.ownsRow base e size v n xs) (hg : g < base) : (w.setCell ⟨g, 1, none⟩ x).ownsRow base e size v n xs :=
  h.kept (grown_put w g x) (Or.inr (own_far h hg))
theorem room_row (w : World) (n : Nat) (hn : n ≤ 17592186044416) : (Instr.makeSlice 24 (.int .i64 0) (.int .i64 (n : Int))).run Try.prog w = .ok (.slice (some ⟨w.heap.size, 0, none⟩) 0 n) (w.alloc (.cells (madeCells #[.int .i64 0] n) 2)) := by
  obtain ⟨i0, hi, hz0, hz1, hz2⟩ := info_parts infoI64
  have := run_make (P := Try.prog) w 24 2 i0 (.int .i64 0) Try.underlying24 hi hz0 .i64 .i64 0 (n : Int) (by omega) (by omega) (by rw [hz2]; omega) (by omega)
  rw [this, hz1]
  simp [Value.cells]
set_option maxHeartbeats 1000000 in
theorem ring_on (g L c k : Nat) (A : Option Addr) (u : FrameMode) (w : World) (h : RingAt w g (.slice A L c) k) (hk : k < L) (hL : L ≤ 12) :
    CallsD Try.prog 54 #[.pointer (some ⟨g, 0, none⟩)] u w fun e u' w' => u' = u ∧ (e = .returned (.tuple #[]) ∧ ∃ n, w' = (w.drewN n).setCell ⟨g, 1, none⟩ (.int .i64 (((k + 1) % L : Nat) : Int))) := by
  have c0 := h.c0
  have c1 := h.c1
  have f1 := h.f1
  have k0 : (0 : Int) ≤ (k : Int) + 1 := by omega
  have E1 : IntKind.i64.wrap ((k : Int) + 1) = (k : Int) + 1 := IntWalk.i64_in _ (by omega)
  have Q1 : ((k : Int) + 1).tmod (L : Int) = (((k + 1) % L : Nat) : Int) := by rw [Int.tmod_eq_emod_of_nonneg (by omega)]; push_cast; rfl
  have Q2 : ((k : Int) + 1) % (L : Int) = (((k + 1) % L : Nat) : Int) := by push_cast; rfl
  have z1 : ¬ ((L : Int) = 0) := by omega
  have z2 : ¬ (L = 0) := by omega
  have z6 : (1 : Int) ≤ (L : Int) := by omega
  have hr : (k + 1) % L < L := Nat.mod_lt _ (by omega)
  generalize (k + 1) % L = r at *
  have E2 : IntKind.i64.wrap (r : Int) = (r : Int) := IntWalk.i64_in _ (by omega)
  clear h
  go_enter_d Try.func54, Try.ntmps54
  go_region
  all_goals (go_end0; exact ⟨rfl, 1, rfl⟩)
set_option maxHeartbeats 1000000 in
theorem ring_next (g L c k b o : Nat) (x : Int) (w : World) (h : RingAt w g (.slice (some ⟨b, o, none⟩) L c) k) (hk : k < L) (hL : L ≤ 12) (hx : w.cell? ⟨b, o + k, none⟩ = some (.int .i64 x)) :
    Calls Try.prog 43 #[.pointer (some ⟨g, 0, none⟩)] w fun e w' => e = .returned (.int .i64 x) ∧ ∃ n, w' = (w.drewN n).setCell ⟨g, 1, none⟩ (.int .i64 (((k + 1) % L : Nat) : Int)) := by
  have c0 := h.c0
  have c1 := h.c1
  have HR := Bx.mk h
  have k0 : (0 : Int) ≤ (k : Int) := by omega
  have k1 : (k : Int) < (L : Int) := by omega
  clear h
  go_enter_defers Try.func43, Try.ntmps43
  go_wp2_with (fail)
  go_quiet (fail)
  go_wp2_with (fail)
  refine leaves_cons (f := 54) (args := #[.pointer (some ⟨g, 0, none⟩)]) (by simp) (by simp [go_sem]) ?_
  refine (ring_on g L c k _ .returning _ (HR.out.draws nq) hk hL).mono ?_
  rintro e u' w'' ⟨rfl, rfl, n, rfl⟩
  exact ⟨_, results_tmp rfl _ _ _, rfl, _, by rw [World.drewN_drewN]⟩
/-- behind a turn of the ring -/
theorem ring_own {w w4 : World} {g base n : Nat} {v x : Value} {xs : List Value} (h : w.ownsRow base 2 1 v n xs) (hg : g < base) (hw : ∃ m, w4 = (w.drewN m).setCell ⟨g, 1, none⟩ x) : w4.ownsRow base 2 1 v n xs := by
  obtain ⟨m, rfl⟩ := hw
  exact own_put (own_draws h m) hg
theorem ring_ring {w w4 : World} {g : Nat} {v : Value} {k k' : Int} (h : RingAt w g v k) (hw : ∃ m, w4 = (w.drewN m).setCell ⟨g, 1, none⟩ (.int .i64 k')) : RingAt w4 g v k' := by
  obtain ⟨m, rfl⟩ := hw
  exact (h.draws m).put k'
theorem ring_cell {w w4 : World} {g b off : Nat} {x y : Value} (h : w.cell? ⟨b, off, none⟩ = some y) (hg : g ≠ b) (hw : ∃ m, w4 = (w.drewN m).setCell ⟨g, 1, none⟩ x) : w4.cell? ⟨b, off, none⟩ = some y := by
  obtain ⟨m, rfl⟩ := hw
  rw [World.cell?_of_block (a := ⟨b, off, none⟩) (Below.heap_setCell _ _ _ _ (fun e => hg (by simpa using e.symm)))]
  exact h
theorem ring_below {W w w4 : World} {g B : Nat} {x : Value} (h : Below B W w) (hg : B ≤ g) (hw : ∃ m, w4 = (w.drewN m).setCell ⟨g, 1, none⟩ x) : Below B W w4 := by
  obtain ⟨m, rfl⟩ := hw
  exact (below_draws h m).setCell (p := ⟨g, 1, none⟩) hg _
end Go.Proofs.Ytljegggpgafkiaa
