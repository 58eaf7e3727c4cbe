/- The program's octaves. -/
import Derived.Test.YtbnhcacjlkmfeaaDoorRatLc
import Derived.Test.YtbnhcacjlkmfeaaDoorRatJ
namespace Go.Proofs.YtbnhcacjlkmfeaaDoor
open Go.ChangeShapes Go.WideShapes Go.ChangeAt Go.RowKit
set_option linter.unusedVariables false
set_option linter.unusedSimpArgs false
set_option maxRecDepth 100000

def InOctOut (t : Int × Int × Int) (w : World) (e : Ending) (w' : World) : Prop := e = .returned (.tuple #[rat t.1 t.2.1, .int .i64 t.2.2]) ∧ Below w.heap.size w w'
def OctRelA (n d : Int) (w : World) (x : Value) (wr : World) : Prop := ∃ den k : Int, x = .int .i64 k ∧ OctA n d den k ∧ Below w.heap.size w wr ∧ PairAt wr w.heap.size n den ∧ PairAt wr (w.heap.size + 1) 0 0
def OctRelB (n d den : Int) (w : World) (x : Value) (wr : World) : Prop := ∃ num k : Int, x = .int .i64 k ∧ OctB n d num den k ∧ Below w.heap.size w wr ∧ PairAt wr w.heap.size num den ∧ PairAt wr (w.heap.size + 1) 0 0
set_option maxHeartbeats 2000000 in
theorem impl_inoctave (n d : Int) (w : World) (hn : 1 ≤ n ∧ n ≤ 1000000) (hd : 1 ≤ d ∧ d ≤ 1000000) :
    Calls Tryd.prog 71 #[rat n d] w (InOctOut (octN n d) w) := by
  have HN := Bx.mk hn
  have HD := Bx.mk hd
  obtain ⟨n1, n2⟩ := hn
  obtain ⟨d1, d2⟩ := hd
  unfold rat
  go_enter Tryd.func71, Tryd.ntmps71
  go_wp2_with (fail)
  go_loopw [4] (fun x wr => OctRelA n d w x wr) (fun x _ => (3000000 - intOf x).toNat)
  case atStart =>
    refine ⟨d, 0, rfl, octA_start n d, ?_, ?_, ?_⟩
    · repeat' (first | (with_reducible exact Below.refl _ _) | (with_reducible assumption) | (with_reducible refine Below.drew ?_) | (with_reducible refine Below.alloc ?_ ?_ _) | (with_reducible refine below_draws ?_ _) | (with_reducible refine Below.setCell ?_ ?_ _) | go_size)
    · repeat' (first | (with_reducible assumption) | (with_reducible refine PairAt.at _ _ _ _ ?_; focus (first | omega | (simp only [World.size_alloc, World.size_setCell, World.size_drew] <;> omega) | (simp <;> omega))) | (with_reducible refine PairAt.alloc ?_ _) | (with_reducible refine PairAt.draws ?_ _) | (with_reducible refine PairAt.drew1 ?_) | (with_reducible apply PairAt.put) | (with_reducible apply PairAt.put1) | (with_reducible apply PairAt.put0) | (with_reducible refine PairAt.other2 ?_ ?_ _; focus (first | omega | (simp only [World.size_alloc, World.size_setCell, World.size_drew] <;> omega) | (simp <;> omega))))
    · repeat' (first | (with_reducible assumption) | (with_reducible refine PairAt.at _ _ _ _ ?_; focus (first | omega | (simp only [World.size_alloc, World.size_setCell, World.size_drew] <;> omega) | (simp <;> omega))) | (with_reducible refine PairAt.alloc ?_ _) | (with_reducible refine PairAt.draws ?_ _) | (with_reducible refine PairAt.drew1 ?_) | (with_reducible apply PairAt.put) | (with_reducible apply PairAt.put1) | (with_reducible apply PairAt.put0) | (with_reducible refine PairAt.other2 ?_ ?_ _; focus (first | omega | (simp only [World.size_alloc, World.size_setCell, World.size_drew] <;> omega) | (simp <;> omega))))
  case round =>
    obtain ⟨den, k, rfl, hA, hb, h0, h1⟩ := hrel
    obtain ⟨⟨p1, p2⟩, p3, p4⟩ := octA_bd hA HN.out.2 HD.out
    have HA := Bx.mk hA
    have B0 := Bx.mk hb
    have K0 := Bx.mk h0
    have K1 := Bx.mk h1
    clear hA hb h0 h1
    have zB0 := B0.out.size
    have K0c0 := K0.out.c0
    have K0c1 := K0.out.c1
    have K0f0 := K0.out.f0 0
    have K0f1 := K0.out.f0 1
    have K0lt := K0.out.lt
    have K1c0 := K1.out.c0
    have K1c1 := K1.out.c1
    have K1f0 := K1.out.f0 0
    have K1f1 := K1.out.f0 1
    have K1lt := K1.out.lt
    by_cases hlt : 2 * den ≤ n
    · go_wp2
      go_roundw
      case rel => exact ⟨den * 2, k + 1, rfl, octA_step HA.out hlt, (by have KBO := B0.out; repeat' (first | (with_reducible exact Below.refl _ _) | (with_reducible assumption) | (with_reducible refine Below.drew ?_) | (with_reducible refine Below.alloc ?_ ?_ _) | (with_reducible refine below_draws ?_ _) | (with_reducible refine Below.setCell ?_ ?_ _) | go_size)), (by have Q := K0.out; repeat' (first | (with_reducible assumption) | (with_reducible refine PairAt.at _ _ _ _ ?_; focus (first | omega | (simp only [World.size_alloc, World.size_setCell, World.size_drew] <;> omega) | (simp <;> omega))) | (with_reducible refine PairAt.alloc ?_ _) | (with_reducible refine PairAt.draws ?_ _) | (with_reducible refine PairAt.drew1 ?_) | (with_reducible apply PairAt.put) | (with_reducible apply PairAt.put1) | (with_reducible apply PairAt.put0) | (with_reducible refine PairAt.other2 ?_ ?_ _; focus (first | omega | (simp only [World.size_alloc, World.size_setCell, World.size_drew] <;> omega) | (simp <;> omega))))), (by have Q := K1.out; repeat' (first | (with_reducible assumption) | (with_reducible refine PairAt.at _ _ _ _ ?_; focus (first | omega | (simp only [World.size_alloc, World.size_setCell, World.size_drew] <;> omega) | (simp <;> omega))) | (with_reducible refine PairAt.alloc ?_ _) | (with_reducible refine PairAt.draws ?_ _) | (with_reducible refine PairAt.drew1 ?_) | (with_reducible apply PairAt.put) | (with_reducible apply PairAt.put1) | (with_reducible apply PairAt.put0) | (with_reducible refine PairAt.other2 ?_ ?_ _; focus (first | omega | (simp only [World.size_alloc, World.size_setCell, World.size_drew] <;> omega) | (simp <;> omega)))))⟩
      case measure => simp [intOf]; omega
    · have HB := Bx.mk (octB_start HA.out (by omega))
      go_wp2
      go_loopw [4] (fun x wr => OctRelB n d den w x wr) (fun x _ => (intOf x + 3000000).toNat)
      case atStart => exact ⟨n, k, rfl, HB.out, B0.out, K0.out, K1.out⟩
      case round =>
        clear K0c0 K0c1 K0f0 K0f1 K0lt K1c0 K1c1 K1f0 K1f1 K1lt K0 K1 B0 zB0
        obtain ⟨num, k, rfl, hB, hb, h0, h1⟩ := hrel
        obtain ⟨⟨q1, q2⟩, _, q3, q4⟩ := octB_bd hB HN.out HD.out
        have HB2 := Bx.mk hB
        have B0 := Bx.mk hb
        have K0 := Bx.mk h0
        have K1 := Bx.mk h1
        clear hB hb h0 h1
        have zB0 := B0.out.size
        have K0c0 := K0.out.c0
        have K0c1 := K0.out.c1
        have K0f0 := K0.out.f0 0
        have K0f1 := K0.out.f0 1
        have K0lt := K0.out.lt
        have K1c0 := K1.out.c0
        have K1c1 := K1.out.c1
        have K1f0 := K1.out.f0 0
        have K1f1 := K1.out.f0 1
        have K1lt := K1.out.lt
        by_cases hlt2 : num < den
        · go_wp2
          go_roundw
          case rel => exact ⟨num * 2, k - 1, rfl, octB_step HB2.out hlt2, (by have KBO := B0.out; repeat' (first | (with_reducible exact Below.refl _ _) | (with_reducible assumption) | (with_reducible refine Below.drew ?_) | (with_reducible refine Below.alloc ?_ ?_ _) | (with_reducible refine below_draws ?_ _) | (with_reducible refine Below.setCell ?_ ?_ _) | go_size)), (by have Q := K0.out; repeat' (first | (with_reducible assumption) | (with_reducible refine PairAt.at _ _ _ _ ?_; focus (first | omega | (simp only [World.size_alloc, World.size_setCell, World.size_drew] <;> omega) | (simp <;> omega))) | (with_reducible refine PairAt.alloc ?_ _) | (with_reducible refine PairAt.draws ?_ _) | (with_reducible refine PairAt.drew1 ?_) | (with_reducible apply PairAt.put) | (with_reducible apply PairAt.put1) | (with_reducible apply PairAt.put0) | (with_reducible refine PairAt.other2 ?_ ?_ _; focus (first | omega | (simp only [World.size_alloc, World.size_setCell, World.size_drew] <;> omega) | (simp <;> omega))))), (by have Q := K1.out; repeat' (first | (with_reducible assumption) | (with_reducible refine PairAt.at _ _ _ _ ?_; focus (first | omega | (simp only [World.size_alloc, World.size_setCell, World.size_drew] <;> omega) | (simp <;> omega))) | (with_reducible refine PairAt.alloc ?_ _) | (with_reducible refine PairAt.draws ?_ _) | (with_reducible refine PairAt.drew1 ?_) | (with_reducible apply PairAt.put) | (with_reducible apply PairAt.put1) | (with_reducible apply PairAt.put0) | (with_reducible refine PairAt.other2 ?_ ?_ _; focus (first | omega | (simp only [World.size_alloc, World.size_setCell, World.size_drew] <;> omega) | (simp <;> omega)))))⟩
          case measure => simp [intOf]; omega
        · have HE := Bx.mk (octN_eq HN.out.1 HD.out.1 (octB_end HB2.out (by omega)))
          go_wp2
          have P := put_pair K1.out num den
          refine bodyPost_ret (v := .tuple #[.agg #[.int .i64 num, .int .i64 den], .int .i64 k]) (by simp [results, Tryd.results71, go_sem, P.1, P.2]) rfl ?_
          rw [HE.out]
          refine ⟨rfl, ?_⟩
          have KBO := B0.out
          repeat' (first | (with_reducible exact Below.refl _ _) | (with_reducible assumption) | (with_reducible refine Below.drew ?_) | (with_reducible refine Below.alloc ?_ ?_ _) | (with_reducible refine below_draws ?_ _) | (with_reducible refine Below.setCell ?_ ?_ _) | go_size)
theorem inoct_open {P : Program} {f : FuncId} {args : Array Value} {t : Int × Int × Int} (h : ∀ W, Calls P f args W (InOctOut t W)) (W : World) : Calls P f args W fun e w' => e = .returned (.tuple #[.agg #[.int .i64 t.1, .int .i64 t.2.1], .int .i64 t.2.2]) ∧ Below W.heap.size W w' := h W
end Go.Proofs.YtbnhcacjlkmfeaaDoor
