/- The program's ratio of a pitch. -/
import Derived.Test.YtbnhcacjlkmfeaaDoorTi
import Derived.Test.YtbnhcacjlkmfeaaDoorImS
import Derived.Deep.RegionWith
namespace Go.Proofs.YtbnhcacjlkmfeaaDoor
open Go.ChangeShapes Go.WideShapes Go.ChangeAt Go.RowKit
set_option linter.unusedVariables false
set_option linter.unusedSimpArgs false
set_option maxRecDepth 100000

set_option maxHeartbeats 1000000 in
theorem impl_ratioof (s : ByteArray) (v : Value) (l : List (Int × Int)) (p : Int) (w : World) (h : PrsAt w v l) (hl : l.length = 12) :
    Calls Tryd.prog 66 #[tun s v, .int .i64 p] w fun e w' => e = .returned (rat (pat l (p % 12).toNat).1 (pat l (p % 12).toNat).2) ∧ Below w.heap.size w w' := by
  obtain ⟨b, o, c, rfl, hb, hc⟩ := prs_slice h (by omega)
  rw [hl] at hc ⊢
  have hto := fun W => impl_toneof p W
  obtain ⟨j, hj⟩ : ∃ j : Nat, p % 12 = (j : Int) := ⟨(p % 12).toNat, by omega⟩
  have hj2 : j < 12 := by omega
  rw [hj] at hto ⊢
  rw [Int.toNat_natCast]
  have c0 := (hc j hj2).1
  have c1 := (hc j hj2).2
  generalize (pat l j).1 = n at *
  generalize (pat l j).2 = d at *
  have hnb : (w.heap.size == b) = false := by simp; omega
  have j1 : (0 : Int) ≤ (j : Int) := by omega
  have j2 : (j : Int) < 12 := by omega
  unfold tun
  clear h hc hl hj
  go_enter Tryd.func66, Tryd.ntmps66
  go_wp2_with (fail)
  go_region_with ((go_at_call 93; (with_reducible refine (hto _).mono ?_); rintro r w6 ⟨rfl, rfl⟩))
  all_goals
    go_wp2_with (fail)
    have P1 := BoxAt.drew1 (BoxAt.at (w.alloc (.cells #[.string s, .slice (some ⟨b, o, none⟩) 12 c] 30)) (w.heap.size + 1) (.int .i64 n) (.int .i64 d) 67 (by simp))
    refine bodyPost_ret (v := .agg #[.int .i64 n, .int .i64 d]) (by simp [results, Tryd.results66, go_sem, P1.c0, P1.c1]) rfl ?_
    exact ⟨rfl, (((Below.refl _ _).alloc (Nat.le_refl _) _).alloc (by simp) _).drew⟩
end Go.Proofs.YtbnhcacjlkmfeaaDoor
