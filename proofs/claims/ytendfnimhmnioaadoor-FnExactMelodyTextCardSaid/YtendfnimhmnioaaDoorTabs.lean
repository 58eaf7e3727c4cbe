/- Tables of Go's library out of a row's list. -/
import Derived.Test.YtendfnimhmnioaaDoorKit
import Derived.Test.YtendfnimhmnioaaDoorCards
import Derived.Test.YtendfnimhmnioaaDoorTie
import Derived.Lib.LaidTab
import Derived.MakeChecks
import Derived.Deep.DeepHandedRow
namespace Go.Proofs.YtendfnimhmnioaaDoor
open Go.ChangeShapes Go.WideShapes Go.ChangeAt Go.RowKit
set_option linter.unusedVariables false
set_option linter.unusedSimpArgs false
set_option maxRecDepth 100000

theorem tab_get {P : Program} {W : World} {n : String} {k : IntKind} {zs : List Int} {l : List (String × DataW Unit)} {ps : List MemPlace} {g : Nat} {t e : TypeId} {N : Nat} (h : DataW.LaidVars P W l ps) (hm : (n, Lib.tabData k zs) ∈ l)
    (hg : P.globalNamed n = some g) (hty : (P.globals[g]?).map (·.type) = some t) (ht : P.underlying t = some (.array N e)) (he : P.underlying e = some (.int k)) (hce : P.cellsOf e = 1) (hct : P.cellsOf t = N) : Lib.TabIs P W n k zs := by
  obtain ⟨g', t', cs, fuel, p, hg', ht', hvar, hd⟩ := laid_get h hm
  obtain rfl := Option.some.inj (hg.symm.trans hg')
  obtain rfl := Option.some.inj (hty.symm.trans ht')
  unfold Lib.TabIs
  rw [hvar, ← Lib.cells_of_tab ht he hce hct hd]
theorem places_of {A B C : Type} {x : Option (A × B × C)} {a : A} {b : B} (h : x.map (fun y => (y.1, y.2.1)) = some (a, b)) : ∃ c, x = some (a, b, c) := by
  cases x with
  | none => cases h
  | some y =>
    obtain ⟨y1, y2, y3⟩ := y
    simp at h
    obtain ⟨rfl, rfl⟩ := h
    exact ⟨y3, rfl⟩
theorem var_below {P : Program} {W W' : World} {n : String} {cs : Array Value} (hb : Below W.heap.size W W') (h : W.var? P n = some cs) : W'.var? P n = some cs := by
  unfold World.var? at h ⊢
  cases hg : P.globalNamed n with
  | none => rw [hg] at h; simp at h
  | some g =>
    rw [hg] at h
    simp only [Option.bind_some] at h ⊢
    rcases Nat.lt_or_ge g W.heap.size with hl | hl
    · rw [hb.block g hl]; exact h
    · rw [Array.getElem?_eq_none hl] at h; cases h
theorem tab_below {P : Program} {W W' : World} {n : String} {k : IntKind} {zs : List Int} (hb : Below W.heap.size W W') (h : Lib.TabIs P W n k zs) : Lib.TabIs P W' n k zs := var_below hb h
theorem iface_of_trod {P : Program} {W : World} {fuel : Nat} {t : TypeId} {cs : List Value} {name : String} {d : DataW Unit} {p : List MemPlace} {ms : Array (String × TypeId)}
    (h : DataW.trod (fun _ => ()) P W 0 (fun _ => true) false fuel t cs = some (.iface name d, p)) (ht : P.underlying t = some (.interface ms)) : ∃ u v, cs = [.iface u v] := by
  cases fuel with
  | zero => simp [DataW.trod] at h
  | succ fuel =>
    simp only [DataW.trod, ht] at h
    rcases cs with _ | ⟨v, _ | ⟨v2, r⟩⟩
    · simp at h
    · cases v <;> simp at h
      exact ⟨_, _, rfl⟩
    · simp at h
/-- a sentinel of the library's that a row lists: the variable holds some interface value -/
theorem sent_get {P : Program} {W : World} {n : String} {name : String} {d : DataW Unit} {l : List (String × DataW Unit)} {ps : List MemPlace} {g : Nat} {t : TypeId} {ms : Array (String × TypeId)} (h : DataW.LaidVars P W l ps) (hm : (n, DataW.iface name d) ∈ l)
    (hg : P.globalNamed n = some g) (hty : (P.globals[g]?).map (·.type) = some t) (ht : P.underlying t = some (.interface ms)) : ∃ u v, W.var? P n = some #[.iface u v] := by
  obtain ⟨g', t', cs, fuel, p, hg', ht', hvar, hd⟩ := laid_get h hm
  obtain rfl := Option.some.inj (hg.symm.trans hg')
  obtain rfl := Option.some.inj (hty.symm.trans ht')
  obtain ⟨u, v, hcs⟩ := iface_of_trod hd ht
  refine ⟨u, v, ?_⟩
  rw [hvar]
  congr 1
  cases cs
  simp_all
end Go.Proofs.YtendfnimhmnioaaDoor
