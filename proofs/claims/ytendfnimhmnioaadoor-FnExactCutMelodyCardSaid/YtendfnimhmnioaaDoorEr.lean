/- errors.Is and errors.Join, where reasons are errors.New's own or one of them joined. -/
import Derived.Test.YtendfnimhmnioaaDoorRg4
import Derived.LaidEql
import Derived.Stop.Asserts
import Derived.Stop.LaidTwo
import Derived.RowKitTokens
namespace Go.Proofs.YtendfnimhmnioaaDoor
open Go.ChangeShapes Go.WideShapes Go.ChangeAt Go.RowKit
open Go.RowKit Go.Extern.Stop Go.Stop Go.Extern
set_option linter.unusedVariables false
set_option linter.unusedSimpArgs false
set_option maxRecDepth 100000

/-- the reason at an address -/
def erV (a : Addr) : Value := .iface 166 (.pointer (some a))
/-- one reason joined, in block j -/
def jnV (j : Nat) : Value := .iface 102 (.pointer (some ⟨j, 0, none⟩))
theorem erTypeOf (v : Value) (w : World) : (Extern.ReflectliteType.typeOf #[.iface 166 v]).run Tryd.prog w = .ok (.iface 115 (.agg #[.pointer (some ⟨10, 166, none⟩)])) w := by kernel_rfl
/-- what Comparable answers of a type -/
def erCmp : Array Value → Sem Value := Extern.ReflectliteType.method fun t => do Extern.Rtype.noPackHeld "Comparable" t; pure (.bool (← typeInfo t).comparable)
theorem erComparable (w : World) : (erCmp #[.agg #[.pointer (some ⟨10, 166, none⟩)]]).run Tryd.prog w = .ok (.bool true) w := by kernel_rfl
theorem erMethod (v : Value) (w : World) : (Go.method 301 115 v "Comparable").run Tryd.prog w = .ok (164, v) w := by kernel_rfl
theorem erComp : (Tryd.prog.info? 166).map (·.comparable) = some true := by kernel_rfl
theorem erSize : (Tryd.prog.info? 168).map (·.size) = some 1 := by kernel_rfl
theorem noIsE (v : Value) (xT : TypeId) (w : World) : (Instr.typeAssert (.iface 166 v) xT 117 true).run Tryd.prog w = .ok (.tuple #[.nilIface, .bool false]) w := run_typeAssert_lacksB Tryd.underlying117 (by kernel_rfl) (by kernel_rfl) v xT w
theorem noUnE (v : Value) (xT : TypeId) (w : World) : (Instr.typeAssert (.iface 166 v) xT 120 true).run Tryd.prog w = .ok (.tuple #[.nilIface, .bool false]) w := run_typeAssert_lacksB Tryd.underlying120 (by kernel_rfl) (by kernel_rfl) v xT w
theorem noUsE (v : Value) (xT : TypeId) (w : World) : (Instr.typeAssert (.iface 166 v) xT 122 true).run Tryd.prog w = .ok (.tuple #[.nilIface, .bool false]) w := run_typeAssert_lacksB Tryd.underlying122 (by kernel_rfl) (by kernel_rfl) v xT w
theorem noIsJ (v : Value) (xT : TypeId) (w : World) : (Instr.typeAssert (.iface 102 v) xT 117 true).run Tryd.prog w = .ok (.tuple #[.nilIface, .bool false]) w := run_typeAssert_lacksB Tryd.underlying117 (by kernel_rfl) (by kernel_rfl) v xT w
theorem noUnJ (v : Value) (xT : TypeId) (w : World) : (Instr.typeAssert (.iface 102 v) xT 120 true).run Tryd.prog w = .ok (.tuple #[.nilIface, .bool false]) w := run_typeAssert_lacksB Tryd.underlying120 (by kernel_rfl) (by kernel_rfl) v xT w
theorem hasUsJ (v : Value) (xT : TypeId) (w : World) : (Instr.typeAssert (.iface 102 v) xT 122 true).run Tryd.prog w = .ok (.tuple #[.iface 102 v, .bool true]) w := run_typeAssert_hasB Tryd.underlying122 (by kernel_rfl) v xT w
theorem unMethod (v : Value) (w : World) : (Go.method 301 102 v "Unwrap").run Tryd.prog w = .ok (160, v) w := by kernel_rfl
/-- the program's two reasons -/
structure Er (W : World) (a b : Addr) : Prop where
  g0 : W.cell? ⟨0, 0, none⟩ = some (erV a)
  g1 : W.cell? ⟨1, 0, none⟩ = some (erV b)
  l0 : 0 < W.heap.size
  l1 : 1 < W.heap.size
  ha : ∃ ca ta, W.heap[a.block]? = some (.cells ca ta (0, 0))
  hb : ∃ cb tb, W.heap[b.block]? = some (.cells cb tb (0, 0))
  ne : a ≠ b
theorem Er.below {W W' : World} {a b : Addr} (h : Er W a b) (hb : Below W.heap.size W W') : Er W' a b := by
  obtain ⟨ca, ta, ha⟩ := h.ha
  obtain ⟨cb, tb, hbb⟩ := h.hb
  exact ⟨(hb.cell (p := ⟨0, 0, none⟩) h.l0).trans h.g0, (hb.cell (p := ⟨1, 0, none⟩) h.l1).trans h.g1, Nat.lt_of_lt_of_le h.l0 hb.size, Nat.lt_of_lt_of_le h.l1 hb.size,
    ⟨ca, ta, (hb.block _ (Array.getElem?_eq_some_iff.1 ha).1).trans ha⟩, ⟨cb, tb, (hb.block _ (Array.getElem?_eq_some_iff.1 hbb).1).trans hbb⟩, h.ne⟩
theorem cell_lt {W : World} {p : Addr} {v : Value} (h : W.cell? p = some v) : p.block < W.heap.size := by
  rcases Nat.lt_or_ge p.block W.heap.size with h1 | h1
  · exact h1
  · simp [World.cell?, Array.getElem?_eq_none h1] at h
theorem er_star : "*" ++ "errors.errorString" = "*errors.errorString" := by decide
theorem er_row (u : TypeId) (h : Tryd.prog.typeName? 3 u = some "*errors.errorString") : u = 166 :=
  typeName_ptr_named (nm := "errors.errorString") (by rw [er_star]; kernel_rfl) (by kernel_rfl) (by decide) u (by rw [er_star]; exact h)
theorem er_laid {r : List (String × DataW Unit)} {W : World} {t0 t1 : List UInt8} (h : laidMet Tryd.prog (("loop.example/g01033/impl.errNoNote", .iface "*errors.errorString" (.ptr (.agg [.lit (.string t0)]))) :: ("loop.example/g01033/impl.errManyNotes", .iface "*errors.errorString" (.ptr (.agg [.lit (.string t1)]))) :: r) W) : ∃ a b, Er W a b := by
  obtain ⟨a0, a1, s0, s1, c0, c1, tt0, tt1, hv0, hv1, hc0, hs0, hz0, hc1, hs1, hz1, hne, hb0, hb1⟩ := laid_sentinels2 (g0 := 0) (g1 := 1) (ti := 53) (tp := 166) (te := 168) (ts := 9) h (by kernel_rfl) (by kernel_rfl) (by kernel_rfl) (by kernel_rfl) Tryd.underlying53 er_row Tryd.underlying166 Tryd.underlying168 rfl rfl Tryd.underlying9 (by kernel_rfl) (by kernel_rfl)
  have x0 := World.var?_cell (P := Tryd.prog) (g := 0) (by kernel_rfl) hv0 0
  have x1 := World.var?_cell (P := Tryd.prog) (g := 1) (by kernel_rfl) hv1 0
  exact ⟨a0, a1, x0, x1, cell_lt x0, cell_lt x1, ⟨_, _, hb0⟩, ⟨_, _, hb1⟩, hne⟩
end Go.Proofs.YtendfnimhmnioaaDoor
