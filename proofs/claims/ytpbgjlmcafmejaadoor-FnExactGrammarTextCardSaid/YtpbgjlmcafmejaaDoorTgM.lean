/- The text of a grammar: facts, and by the model. -/
import Derived.Test.YtpbgjlmcafmejaaDoorLt
import Derived.Test.YtpbgjlmcafmejaaDoorGv
import Derived.Test.YtpbgjlmcafmejaaDoorGvM
import Derived.Deep.RegionHeld3
namespace Go.Proofs.YtpbgjlmcafmejaaDoor
open Go.ChangeShapes Go.WideShapes Go.ChangeAt Go.RowKit
set_option linter.unusedVariables false
set_option linter.unusedSimpArgs false
set_option maxRecDepth 100000

def arcL (p : Int × Int × Int) : List Int := [p.1, p.2.1, p.2.2]
/-- the lists of a grammar -/
def listsG (G : Gr) : List (List Int) := [[G.n, G.s], G.f] ++ G.a.map arcL
theorem listsG_len (G : Gr) : (listsG G).length = 2 + G.a.length := by simp [listsG]; omega
theorem listsG_0 (G : Gr) : (listsG G).getD 0 [] = [G.n, G.s] := rfl
theorem listsG_1 (G : Gr) : (listsG G).getD 1 [] = G.f := rfl
theorem listsG_a (G : Gr) (k : Nat) (h : k < G.a.length) : (listsG G).getD (2 + k) [] = arcL (tat G.a k) := by
  rw [tat_get h]
  unfold listsG
  rw [List.getD, List.getElem?_append_right (by simp)]
  simp [h]
theorem listsG_take (G : Gr) (k : Nat) (h : k < G.a.length) : (listsG G).take (2 + (k + 1)) = (listsG G).take (2 + k) ++ [arcL (tat G.a k)] := by
  rw [show 2 + (k + 1) = (2 + k) + 1 by omega, List.take_succ_eq_append_getElem (by rw [listsG_len]; omega), ← listsG_a G k h]
  simp [List.getD, List.getElem?_eq_getElem (show 2 + k < (listsG G).length by rw [listsG_len]; omega)]
def gT (G : Gr) (k : Nat) : List UInt8 := lsT (listsG G) (2 + k)
/-- the text of a grammar -/
def gramT (G : Gr) : List UInt8 := if okGr G = true then gT G G.a.length else []
theorem gT_zero (G : Gr) : gT G 0 = textE [G.n, G.s] ++ [59] ++ textE G.f := by
  unfold gT
  rw [show 2 + 0 = 1 + 1 from rfl, lsT_succ _ 1 (by decide) (by rw [listsG_len]; omega), listsG_1, show 1 = 0 + 1 from rfl, lsT_one _ (by rw [listsG_len]; omega), listsG_0]
theorem gT_succ (G : Gr) (k : Nat) (h : k < G.a.length) : gT G (k + 1) = gT G k ++ ([59] ++ textE (arcL (tat G.a k))) := by
  unfold gT
  rw [show 2 + (k + 1) = (2 + k) + 1 by omega, lsT_succ _ (2 + k) (by omega) (by rw [listsG_len]; omega), listsG_a G k h, List.append_assoc]
theorem fit_mk {zs : List Int} (h1 : zs.length ≤ 64) (h2 : ∀ k, k < zs.length → -1000000000000 ≤ zs.getD k 0 ∧ zs.getD k 0 ≤ 1000000000000) : fitL zs = true := by
  unfold fitL
  rw [Bool.and_eq_true, decide_eq_true_eq, List.all_eq_true]
  refine ⟨fun z hz => ?_, h1⟩
  obtain ⟨i, hi, rfl⟩ := List.mem_iff_getElem.1 hz
  have := h2 i hi
  rw [List.getD, List.getElem?_eq_getElem hi, Option.getD_some] at this
  exact inB_mk this
theorem fin_low {G : Gr} (h : OkGr G) : ∀ i, i < G.f.length → (i : Int) ≤ G.f.getD i 0 := by
  intro i
  induction i with
  | zero => intro hi; have := (h.fr 0 hi).1; omega
  | succ i ih => intro hi; have h1 := ih (by omega); have h2 := h.fs i hi; omega
theorem fin_len {G : Gr} (h : OkGr G) : G.f.length ≤ 32 := by
  rcases Nat.eq_zero_or_pos G.f.length with h0 | h0
  · omega
  · have h1 := fin_low h (G.f.length - 1) (by omega)
    have h2 := (h.fr (G.f.length - 1) (by omega)).2
    have h3 := h.n
    omega
theorem fit_0 {G : Gr} (h : OkGr G) : fitL [G.n, G.s] = true := by
  have h1 := h.n
  have h2 := h.s
  refine fit_mk (by simp) (fun k hk => ?_)
  rcases k with _ | _ | k
  · simp [List.getD]; omega
  · simp [List.getD]; omega
  · simp at hk; omega
theorem fit_1 {G : Gr} (h : OkGr G) : fitL G.f = true := by
  have h3 := h.n
  exact fit_mk (by have := fin_len h; omega) (fun k hk => by have := h.fr k hk; omega)
theorem fit_a {G : Gr} (h : OkGr G) (k : Nat) (hk : k < G.a.length) : fitL (arcL (tat G.a k)) = true := by
  have h1 := h.ar k hk
  have h3 := h.n
  refine fit_mk (by simp [arcL]) (fun i hi => ?_)
  unfold arcL at hi ⊢
  rcases i with _ | _ | _ | i
  · simp [List.getD]; omega
  · simp [List.getD]; omega
  · simp [List.getD]; omega
  · simp at hi; omega
theorem fit_lists {G : Gr} (h : OkGr G) : ∀ k, k < (listsG G).length → fitL ((listsG G).getD k []) = true := by
  intro k hk
  rw [listsG_len] at hk
  rcases k with _ | _ | k
  · rw [listsG_0]; exact fit_0 h
  · rw [listsG_1]; exact fit_1 h
  · rw [show k + 1 + 1 = 2 + k by omega, listsG_a G k (by omega)]; exact fit_a h k (by omega)
theorem spec_l2 (x y : Int) (g : Nat) (w : World) (h0 : w.cell? ⟨g, 0, none⟩ = some (.int .i64 x)) (h1 : w.cell? ⟨g, 1, none⟩ = some (.int .i64 y)) (hg : g < w.heap.size) (hx : Bx (fitL [x, y] = true)) :
    Calls Tryd.prog 48 #[.slice (some ⟨g, 0, none⟩) 2 2] w fun e w' => e = .returned (.string ⟨(textE [x, y]).toArray⟩) ∧ Below w.heap.size w w' :=
  spec_list _ [x, y] w (.inr ⟨g, 0, 2, rfl, hg, fun k hk => by
    rcases k with _ | _ | k
    · exact h0
    · exact h1
    · simp at hk; omega⟩) (by simp) (Bx.mk (fit_all _ hx.out).2)
theorem spec_l3 (x y z : Int) (g : Nat) (w : World) (h0 : w.cell? ⟨g, 0, none⟩ = some (.int .i64 x)) (h1 : w.cell? ⟨g, 1, none⟩ = some (.int .i64 y)) (h2 : w.cell? ⟨g, 2, none⟩ = some (.int .i64 z)) (hg : g < w.heap.size) (hx : Bx (fitL [x, y, z] = true)) :
    Calls Tryd.prog 48 #[.slice (some ⟨g, 0, none⟩) 3 3] w fun e w' => e = .returned (.string ⟨(textE [x, y, z]).toArray⟩) ∧ Below w.heap.size w w' :=
  spec_list _ [x, y, z] w (.inr ⟨g, 0, 3, rfl, hg, fun k hk => by
    rcases k with _ | _ | _ | k
    · exact h0
    · exact h1
    · exact h2
    · simp at hk; omega⟩) (by simp) (Bx.mk (fit_all _ hx.out).2)
theorem keepT {g : Nat} {q W W' : World} {v0 v1 v2 : Value} (hh : W.cell? ⟨g, 0, none⟩ = some v0 ∧ W.cell? ⟨g, 1, none⟩ = some v1 ∧ W.cell? ⟨g, 2, none⟩ = some v2 ∧ g < W.heap.size ∧ Below q.heap.size q W) (hb : Below W.heap.size W W') :
    W'.cell? ⟨g, 0, none⟩ = some v0 ∧ W'.cell? ⟨g, 1, none⟩ = some v1 ∧ W'.cell? ⟨g, 2, none⟩ = some v2 ∧ g < W'.heap.size ∧ Below q.heap.size q W' := by
  obtain ⟨h0, h1, h2, h5, h6⟩ := hh
  have hs := hb.size
  exact ⟨(hb.cell (p := ⟨g, 0, none⟩) h5).trans h0, (hb.cell (p := ⟨g, 1, none⟩) h5).trans h1, (hb.cell (p := ⟨g, 2, none⟩) h5).trans h2, by omega, h6.trans (hb.mono h6.size)⟩
theorem belT {q W : World} {a b c d : Prop} (h : a ∧ b ∧ c ∧ d ∧ Below q.heap.size q W) : Below q.heap.size q W := h.2.2.2.2
theorem keepA {g b o : Nat} {q W W' : World} {v3 v0 v1 v2 : Value} (hh : W.cell? ⟨g, 3, none⟩ = some v3 ∧ W.cell? ⟨b, o, none⟩ = some v0 ∧ W.cell? ⟨b, o + 1, none⟩ = some v1 ∧ W.cell? ⟨b, o + 2, none⟩ = some v2 ∧ g < W.heap.size ∧ b < W.heap.size ∧ Below q.heap.size q W) (hb : Below W.heap.size W W') :
    W'.cell? ⟨g, 3, none⟩ = some v3 ∧ W'.cell? ⟨b, o, none⟩ = some v0 ∧ W'.cell? ⟨b, o + 1, none⟩ = some v1 ∧ W'.cell? ⟨b, o + 2, none⟩ = some v2 ∧ g < W'.heap.size ∧ b < W'.heap.size ∧ Below q.heap.size q W' := by
  obtain ⟨h0, h1, h2, h3, h5, h7, h6⟩ := hh
  have hs := hb.size
  exact ⟨(hb.cell (p := ⟨g, 3, none⟩) h5).trans h0, (hb.cell (p := ⟨b, o, none⟩) h7).trans h1, (hb.cell (p := ⟨b, o + 1, none⟩) h7).trans h2, (hb.cell (p := ⟨b, o + 2, none⟩) h7).trans h3, by omega, by omega, h6.trans (hb.mono h6.size)⟩
theorem belA {q W : World} {a b c d e f : Prop} (h : a ∧ b ∧ c ∧ d ∧ e ∧ f ∧ Below q.heap.size q W) : Below q.heap.size q W := h.2.2.2.2.2.2
end Go.Proofs.YtpbgjlmcafmejaaDoor
