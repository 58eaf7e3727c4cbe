/- part.compare, cmp.Or. -/
import Derived.Test.YtpbgjlmcafmejaaFq3
import Derived.Test.YtpbgjlmcafmejaaPi
import Derived.Test.YtpbgjlmcafmejaaOr
namespace Go.Proofs.Ytpbgjlmcafmejaa
open Go.ChangeShapes Go.WideShapes Go.ChangeAt Go.RowKit
set_option linter.unusedVariables false
set_option linter.unusedSimpArgs false
set_option maxRecDepth 100000

theorem arr_ints {w : World} {g n c : Nat} {l : List Int} {T : TypeId} (h : ArrAt w g (ints l) T) (hn : n = l.length) : IntsAt w (.slice (some ⟨g, 0, none⟩) n c) l := by
  subst hn
  refine .inr ⟨g, 0, c, rfl, h.lt, fun k hk => ?_⟩
  have hc := h.cell k
  rw [Nat.zero_add]
  refine hc.trans ?_
  unfold ints
  rw [List.getElem?_map, List.getElem?_eq_getElem hk]
  simp [List.getD, hk]
set_option maxHeartbeats 2000000 in
theorem impl_partcmp (l r : List Int) (w : World) (h1 : l.length = 8) (h2 : r.length = 8) :
    Calls Try.prog 108 #[pq l, pq r] w fun e w' => e = .returned (.int .i64 (lexC l r)) ∧ Below w.heap.size w w' := by
  obtain ⟨a0, a1, a2, a3, a4, a5, a6, a7, rfl⟩ := eight h1
  obtain ⟨b0, b1, b2, b3, b4, b5, b6, b7, rfl⟩ := eight h2
  have hq := fun v1 v2 W ha hb => std_cmpl v1 v2 [a0, a1, a2, a3, a4, a5, a6, a7] [b0, b1, b2, b3, b4, b5, b6, b7] W ha hb (by simp) (by simp)
  generalize lexC [a0, a1, a2, a3, a4, a5, a6, a7] [b0, b1, b2, b3, b4, b5, b6, b7] = z at *
  unfold pq
  simp only [List.map_cons, List.map_nil]
  go_enter Try.func108, Try.ntmps108
  go_wp2_with (fail)
  have ha : IntsAt ((w.alloc (.cells #[.int .i64 a0, .int .i64 a1, .int .i64 a2, .int .i64 a3, .int .i64 a4, .int .i64 a5, .int .i64 a6, .int .i64 a7] 129)).alloc (.cells #[.int .i64 b0, .int .i64 b1, .int .i64 b2, .int .i64 b3, .int .i64 b4, .int .i64 b5, .int .i64 b6, .int .i64 b7] 129)) (.slice (some ⟨w.heap.size, 0, none⟩) 8 8) [a0, a1, a2, a3, a4, a5, a6, a7] := by
    exact arr_ints ((ArrAt.at w w.heap.size (ints [a0, a1, a2, a3, a4, a5, a6, a7]) 129 rfl).alloc (.cells #[.int .i64 b0, .int .i64 b1, .int .i64 b2, .int .i64 b3, .int .i64 b4, .int .i64 b5, .int .i64 b6, .int .i64 b7] 129)) rfl
  have hb : IntsAt ((w.alloc (.cells #[.int .i64 a0, .int .i64 a1, .int .i64 a2, .int .i64 a3, .int .i64 a4, .int .i64 a5, .int .i64 a6, .int .i64 a7] 129)).alloc (.cells #[.int .i64 b0, .int .i64 b1, .int .i64 b2, .int .i64 b3, .int .i64 b4, .int .i64 b5, .int .i64 b6, .int .i64 b7] 129)) (.slice (some ⟨w.heap.size + 1, 0, none⟩) 8 8) [b0, b1, b2, b3, b4, b5, b6, b7] := by
    exact arr_ints (ArrAt.at (w.alloc (.cells #[.int .i64 a0, .int .i64 a1, .int .i64 a2, .int .i64 a3, .int .i64 a4, .int .i64 a5, .int .i64 a6, .int .i64 a7] 129)) (w.heap.size + 1) (ints [b0, b1, b2, b3, b4, b5, b6, b7]) 129 (by simp)) rfl
  have HB : Bx (Below w.heap.size w ((w.alloc (.cells #[.int .i64 a0, .int .i64 a1, .int .i64 a2, .int .i64 a3, .int .i64 a4, .int .i64 a5, .int .i64 a6, .int .i64 a7] 129)).alloc (.cells #[.int .i64 b0, .int .i64 b1, .int .i64 b2, .int .i64 b3, .int .i64 b4, .int .i64 b5, .int .i64 b6, .int .i64 b7] 129))) := Bx.mk (((Below.refl _ _).alloc (Nat.le_refl _) _).alloc (by simp) _)
  have HS := Bx.mk (And.intro ha hb)
  clear ha hb
  generalize (w.alloc (.cells #[.int .i64 a0, .int .i64 a1, .int .i64 a2, .int .i64 a3, .int .i64 a4, .int .i64 a5, .int .i64 a6, .int .i64 a7] 129)).alloc (.cells #[.int .i64 b0, .int .i64 b1, .int .i64 b2, .int .i64 b3, .int .i64 b4, .int .i64 b5, .int .i64 b6, .int .i64 b7] 129) = w2 at *
  have hq2 : ∀ nn, Calls Try.prog 136 #[.slice (some ⟨w.heap.size, 0, none⟩) 8 8, .slice (some ⟨w.heap.size + 1, 0, none⟩) 8 8] (w2.drewN nn) fun e w' => e = .returned (.int .i64 z) ∧ w2.drewN nn = w' := fun nn =>
    hq _ _ _ (HS.out.1.below (below_draws (Below.refl _ _) nn)) (HS.out.2.below (below_draws (Below.refl _ _) nn))
  clear hq HS
  go_quiet ((go_at_call 136; exact quiet_eq (hq2 _)))
  all_goals go_wp2_with (fail)
  all_goals go_returns
  all_goals exact ⟨rfl, below_draws HB.out _⟩
end Go.Proofs.Ytpbgjlmcafmejaa
