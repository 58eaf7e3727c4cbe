/- Slots in memory. -/
import Derived.Test.YtidblpamolimpaaHi0
namespace Go.Proofs.Ytidblpamolimpaa
open Go.ChangeShapes Go.WideShapes Go.ChangeAt Go.RowKit
set_option linter.unusedVariables false
set_option linter.unusedSimpArgs false
set_option maxRecDepth 100000

/-- slots' cells: items with their windows -/
def scl (l : List (It × Value)) : List Value := l.flatMap fun p => itc p.1 ++ [p.2]
theorem scl_cons (p : It × Value) (l : List (It × Value)) : scl (p :: l) = .string p.1.nm :: .int .i64 p.1.f :: .int .i64 p.1.u :: .int .i64 p.1.s :: .int .i64 p.1.m :: .int .i64 p.1.p :: p.2 :: scl l := by simp [scl, itc]
theorem scl_len (l : List (It × Value)) : (scl l).length = 7 * l.length := by
  induction l with
  | nil => rfl
  | cons x l ih => rw [scl_cons]; simp only [List.length_cons, ih]; omega
theorem scl_app (l m : List (It × Value)) : scl (l ++ m) = scl l ++ scl m := by simp [scl]
def sat (l : List (It × Value)) (k : Nat) : It × Value := l.getD k (it0, .nilFunc)
theorem sat_get {l : List (It × Value)} {k : Nat} (h : k < l.length) : sat l k = l[k] := by simp [sat, h]
theorem scl_at (l : List (It × Value)) (k : Nat) (h : k < l.length) : (scl l)[k * 7]? = some (.string (sat l k).1.nm) ∧ (scl l)[k * 7 + 1]? = some (.int .i64 (sat l k).1.f) ∧ (scl l)[k * 7 + 2]? = some (.int .i64 (sat l k).1.u) ∧
    (scl l)[k * 7 + 3]? = some (.int .i64 (sat l k).1.s) ∧ (scl l)[k * 7 + 4]? = some (.int .i64 (sat l k).1.m) ∧ (scl l)[k * 7 + 5]? = some (.int .i64 (sat l k).1.p) ∧ (scl l)[k * 7 + 6]? = some (sat l k).2 := by
  induction l generalizing k with
  | nil => cases h
  | cons x l ih =>
    rw [scl_cons]
    cases k with
    | zero => exact ⟨rfl, rfl, rfl, rfl, rfl, rfl, rfl⟩
    | succ k =>
      have := ih k (by simpa using h)
      rw [show (k + 1) * 7 = k * 7 + 1 + 1 + 1 + 1 + 1 + 1 + 1 by omega]
      rw [show k * 7 + 1 + 1 + 1 + 1 + 1 + 1 + 1 + 1 = (k * 7 + 1) + 1 + 1 + 1 + 1 + 1 + 1 + 1 by omega, show k * 7 + 1 + 1 + 1 + 1 + 1 + 1 + 1 + 2 = (k * 7 + 2) + 1 + 1 + 1 + 1 + 1 + 1 + 1 by omega, show k * 7 + 1 + 1 + 1 + 1 + 1 + 1 + 1 + 3 = (k * 7 + 3) + 1 + 1 + 1 + 1 + 1 + 1 + 1 by omega,
        show k * 7 + 1 + 1 + 1 + 1 + 1 + 1 + 1 + 4 = (k * 7 + 4) + 1 + 1 + 1 + 1 + 1 + 1 + 1 by omega, show k * 7 + 1 + 1 + 1 + 1 + 1 + 1 + 1 + 5 = (k * 7 + 5) + 1 + 1 + 1 + 1 + 1 + 1 + 1 by omega, show k * 7 + 1 + 1 + 1 + 1 + 1 + 1 + 1 + 6 = (k * 7 + 6) + 1 + 1 + 1 + 1 + 1 + 1 + 1 by omega]
      simp only [List.getElem?_cons_succ]
      exact this
theorem box_ne_row {w : World} {base e size n g : Nat} {v : Value} {xs : List Value} {ys : Array Value} {t : TypeId} (h : w.ownsRow base e size v n xs) (hb : BoxN w g ys t) (hne : t ≠ e) : v.ownBlock ≠ some g := by
  intro hv
  rcases h.2 with ⟨hv2, _⟩ | ⟨g2, cap, cur, hv2, _, hg, _⟩
  · rw [hv2] at hv; simp [Value.ownBlock] at hv
  · rw [hv2] at hv
    simp [Value.ownBlock] at hv
    subst hv
    unfold BoxN at hb
    rw [hg] at hb
    simp at hb
    exact hne hb.2.symm
theorem box_ne {w : World} {g h : Nat} {xs ys : Array Value} {s t : TypeId} (h1 : BoxN w g xs s) (h2 : BoxN w h ys t) (hne : s ≠ t) : g ≠ h := by
  rintro rfl
  unfold BoxN at h1 h2
  rw [h1] at h2
  simp at h2
  exact hne h2.2
theorem BoxN.grownN {w w' : World} {g : Nat} {xs : Array Value} {t : TypeId} {row : Option Nat} (h : BoxN w g xs t) (hg : w.grownBy w' row) (hn : row ≠ some g) : BoxN w' g xs t := by
  have := hg.block g h.lt (fun e => hn e.symm)
  unfold BoxN at h ⊢
  rw [this, h]
theorem WinAt.grown {w w' : World} {F : Value} {x : It} {s : Int} {base size n : Nat} {v : Value} {xs : List Value} (h : WinAt w F x s) (ho : w.ownsRow base 50 size v n xs) (hg : w.grownBy w' v.ownBlock) : WinAt w' F x s := by
  rcases h with h | ⟨g, h1, e, b1, b2, hs⟩
  · exact .inl h
  · exact .inr ⟨g, h1, e, b1.grownN hg (box_ne_row ho b1 (by decide)), b2.grownN hg (box_ne_row ho b2 (by decide)), hs⟩
theorem WinAt.setc {w : World} {F : Value} {x : It} {s : Int} {b : Nat} {ys : Array Value} {t : TypeId} (h : WinAt w F x s) (hb : BoxN w b ys t) (h1 : t ≠ 25) (h2 : t ≠ 2) (o : Nat) (u : Value) : WinAt (w.setCell ⟨b, o, none⟩ u) F x s := by
  rcases h with h | ⟨g, h3, e, b1, b2, hs⟩
  · exact .inl h
  · exact .inr ⟨g, h3, e, b1.other (box_ne hb b1 h1) u, b2.other (box_ne hb b2 h2) u, hs⟩
theorem WinAt.rowc {w : World} {F : Value} {x : It} {s : Int} {b : Nat} {ys : Array Value} {t : TypeId} (h : WinAt w F x s) (hb : BoxN w b ys t) (h1 : t ≠ 25) (h2 : t ≠ 2) (c : Array Value) : WinAt (w.setRow b c) F x s := by
  rcases h with h | ⟨g, h3, e, b1, b2, hs⟩
  · exact .inl h
  · exact .inr ⟨g, h3, e, b1.rowo (box_ne hb b1 h1) c, b2.rowo (box_ne hb b2 h2) c, hs⟩
theorem infoSlL : (Try.prog.info? 50).map (fun i => (i.zero, i.size, i.bytes)) = some (some (.agg #[.string ⟨#[]⟩, .int .i64 0, .int .i64 0, .int .i64 0, .int .i64 0, .int .i64 0, .nilFunc]), 7, 64) := by kernel_rfl
/-- a slice that reads as these slots -/
def SltAt (w : World) (v : Value) (l : List (It × Value)) : Prop :=
  (l = [] ∧ ∃ A c, v = .slice A 0 c) ∨ ∃ b off c, v = .slice (some ⟨b, off, none⟩) l.length c ∧ b < w.heap.size ∧ ∀ k, k < l.length → C6 w b (off + k * 7) (sat l k).1 ∧ w.cell? ⟨b, off + k * 7 + 6, none⟩ = some (sat l k).2
theorem SltAt.below {w w' : World} {v : Value} {l : List (It × Value)} (h : SltAt w v l) (hb : Below w.heap.size w w') : SltAt w' v l := by
  rcases h with h | ⟨b, off, c, h1, h2, h3⟩
  · exact .inl h
  · exact .inr ⟨b, off, c, h1, Nat.lt_of_lt_of_le h2 hb.size, fun k hk => ⟨(h3 k hk).1.below h2 hb, (hb.cell (p := ⟨b, off + k * 7 + 6, none⟩) h2).trans (h3 k hk).2⟩⟩
theorem slt_len {w : World} {v : Value} {l : List (It × Value)} (h : SltAt w v l) : ∃ A c, v = .slice A l.length c := by
  rcases h with ⟨rfl, A, c, h⟩ | ⟨b, o, c, h, _⟩
  · exact ⟨A, c, h⟩
  · exact ⟨_, c, h⟩
theorem SltAt.own {w : World} {base : Nat} {v : Value} {l : List (It × Value)} (h : w.ownsRow base 50 7 v l.length (scl l)) : SltAt w v l := by
  rcases Nat.eq_zero_or_pos l.length with h0 | h0
  · refine .inl ⟨List.eq_nil_of_length_eq_zero h0, ?_⟩
    rcases h.2 with ⟨hv, _⟩ | ⟨g, cap, cur, hv, _⟩
    · exact ⟨none, 0, hv⟩
    · exact ⟨some ⟨g, 0, none⟩, cap, by rw [hv, h0]⟩
  · obtain ⟨g, cap, rfl, _, hlt⟩ := h.form h0
    refine .inr ⟨g, 0, cap, rfl, hlt, fun k hk => ?_⟩
    obtain ⟨a0, a1, a2, a3, a4, a5, a6⟩ := scl_at l k hk
    rw [Nat.zero_add]
    exact ⟨⟨(h.cellAt (k * 7) (by omega)).trans a0, (h.cellAt (k * 7 + 1) (by omega)).trans a1, (h.cellAt (k * 7 + 2) (by omega)).trans a2, (h.cellAt (k * 7 + 3) (by omega)).trans a3, (h.cellAt (k * 7 + 4) (by omega)).trans a4, (h.cellAt (k * 7 + 5) (by omega)).trans a5⟩, (h.cellAt (k * 7 + 6) (by omega)).trans a6⟩
theorem slt_cells {w : World} {A : Option Addr} {c n : Nat} {l : List (It × Value)} (h : SltAt w (.slice A n c) l) (h0 : 0 < l.length) : ∃ b o, A = some ⟨b, o, none⟩ ∧ n = l.length ∧ b < w.heap.size ∧ ∀ k, k < l.length → C6 w b (o + k * 7) (sat l k).1 ∧ w.cell? ⟨b, o + k * 7 + 6, none⟩ = some (sat l k).2 := by
  rcases h with ⟨rfl, _⟩ | ⟨b, o, c', e, hb, hx⟩
  · simp at h0
  · injection e with e1 e2 e3
    exact ⟨b, o, e1, e2, hb, hx⟩
/-- slots of items, each with its window -/
structure WinsAt (w : World) (ps : List (It × Value)) (l : List It) (s : Int) : Prop where
  l : ps.map Prod.fst = l
  w : ∀ p, p ∈ ps → WinAt w p.2 p.1 s
theorem WinsAt.below {w w' : World} {ps : List (It × Value)} {l : List It} {s : Int} (h : WinsAt w ps l s) (hb : Below w.heap.size w w') : WinsAt w' ps l s := ⟨h.l, fun p hp => (h.w p hp).below hb⟩
theorem WinsAt.len {w : World} {ps : List (It × Value)} {l : List It} {s : Int} (h : WinsAt w ps l s) : ps.length = l.length := by rw [← h.l]; simp
theorem WinsAt.at {w : World} {ps : List (It × Value)} {l : List It} {s : Int} (h : WinsAt w ps l s) (k : Nat) (hk : k < l.length) : (sat ps k).1 = iat l k ∧ WinAt w (sat ps k).2 (iat l k) s := by
  have hl := h.len
  have e : (sat ps k).1 = iat l k := by
    rw [sat_get (by omega), iat_get hk]
    have := h.l
    subst this
    simp
  refine ⟨e, ?_⟩
  rw [← e]
  exact h.w _ (by rw [sat_get (by omega)]; exact List.getElem_mem _)
end Go.Proofs.Ytidblpamolimpaa
