/- Orders of items, when they end, what they are worth: plain facts and the model. -/
import Derived.Test.YtidblpamolimpaaHf
import Derived.Test.YtidblpamolimpaaHe2
import Derived.Test.YtidblpamolimpaaSc2
import Derived.Test.YtidblpamolimpaaPl
namespace Go.Proofs.Ytidblpamolimpaa
open Go.ChangeShapes Go.WideShapes Go.ChangeAt Go.RowKit
set_option linter.unusedVariables false
set_option linter.unusedSimpArgs false
set_option maxRecDepth 100000

/-- different indices of n items -/
def ordB (n : Nat) (zs : List Int) : Bool := (List.range zs.length).all fun i => inB (zs.getD i 0) 0 ((n : Int) - 1) && !hasB (zs.take i) (zs.getD i 0)
theorem ordB_iff (n : Nat) (zs : List Int) : ordB n zs = true ↔ ∀ i, i < zs.length → inB (zs.getD i 0) 0 ((n : Int) - 1) = true ∧ hasB (zs.take i) (zs.getD i 0) = false := by
  simp only [ordB, List.all_eq_true, List.mem_range, Bool.and_eq_true, Bool.not_eq_true']
theorem ordB_no {n : Nat} {zs : List Int} (k : Nat) (hk : k < zs.length) (h : inB (zs.getD k 0) 0 ((n : Int) - 1) = false ∨ hasB (zs.take k) (zs.getD k 0) = true) : ordB n zs = false := by
  cases e : ordB n zs
  · rfl
  · obtain ⟨h1, h2⟩ := (ordB_iff n zs).1 e k hk
    rcases h with h | h
    · rw [h] at h1; cases h1
    · rw [h] at h2; cases h2
/-- when items end, one after the other -/
def endW (l : List It) (s : Int) : List Int → Int → Option Int
  | [], t => some t
  | z :: zs, t => if fitB (iat l z.toNat) s t = true then endW l s zs (t + (iat l z.toNat).m) else none
def worthS (l : List It) : List Int → Int
  | [] => 0
  | z :: zs => (iat l z.toNat).p + worthS l zs
theorem worthS_app (l : List It) (a b : List Int) : worthS l (a ++ b) = worthS l a + worthS l b := by
  induction a with
  | nil => simp [worthS]
  | cons z a ih => simp [worthS, ih]; omega
theorem worthS_take (l : List It) (zs : List Int) (k : Nat) (h : k < zs.length) : worthS l (zs.take (k + 1)) = worthS l (zs.take k) + (iat l (zs.getD k 0).toNat).p := by
  rw [List.take_succ_eq_append_getElem h, worthS_app]
  simp [worthS, h]
theorem dropD (zs : List Int) (k : Nat) (h : k < zs.length) : zs.drop k = zs.getD k 0 :: zs.drop (k + 1) := by
  rw [List.drop_eq_getElem_cons h]; simp [h]
def endC : Option Int → Int × Int
  | none => (0, 6)
  | some t => (t, 0)
def prgC (un : Int) : Option Int → Bool
  | none => false
  | some t => decide (t ≤ un)
def endE (l : List It) (zs : List Int) (mi se : Int) : Int × Int :=
  if okIts l = false then (0, 1) else if (inB mi 0 1439 && inB se 0 5) = false then (0, 2) else if ordB l.length zs = false then (0, 7) else endC (endW l se zs mi)
def worthE (l : List It) (zs : List Int) : Int × Int := if okIts l = false then (0, 1) else if ordB l.length zs = false then (0, 7) else (worthS l zs, 0)
def progE (l : List It) (zs : List Int) (mi un se : Int) : Bool :=
  okIts l && (inB mi 0 1439 && inB se 0 5) && inB un mi (mi + 1440) && ordB l.length zs && prgC un (endW l se zs mi)
theorem okI_at {l : List It} (h : okIts l = true) (k : Nat) (hk : k < l.length) : OkI (iat l k) := (itB_iff _).1 (((okIts_iff l).1 h).2 k hk).1
theorem ints_take {w : World} {b o c k : Nat} {zs : List Int} (hb : b < w.heap.size) (h : ∀ i, i < zs.length → w.cell? ⟨b, o + i, none⟩ = some (.int .i64 (zs.getD i 0))) (hk : k ≤ zs.length) : IntsAt w (.slice (some ⟨b, o, none⟩) k c) (zs.take k) := by
  rcases Nat.eq_zero_or_pos k with h0 | h0
  · subst h0; exact .inl ⟨rfl, _, _, rfl⟩
  · have hl : (zs.take k).length = k := by rw [List.length_take]; omega
    refine .inr ⟨b, o, c, by rw [hl], hb, fun i hi => ?_⟩
    rw [hl] at hi
    rw [h i (by omega)]
    simp [List.getD, hi]
/-- a slice that reads as these numbers, and has room for them -/
def IntC (w : World) (v : Value) (zs : List Int) : Prop := ∃ A c, v = .slice A zs.length c ∧ IntsAt w v zs ∧ zs.length ≤ c
theorem IntC.rd {w : World} {v : Value} {zs : List Int} (h : IntC w v zs) : IntsAt w v zs := by
  obtain ⟨A, c, _, h, _⟩ := h; exact h
theorem IntC.below {w w' : World} {v : Value} {zs : List Int} (h : IntC w v zs) (hb : Below w.heap.size w w') : IntC w' v zs := by
  obtain ⟨A, c, e, h, hc⟩ := h; exact ⟨A, c, e, h.below hb, hc⟩
theorem IntC.own {w : World} {base : Nat} {v : Value} {zs : List Int} (h : w.ownsRow base 2 1 v zs.length (ints zs)) : IntC w v zs := by
  obtain ⟨A, c, e, hc⟩ := own_capN h
  exact ⟨A, c, e, IntsAt.own h, hc⟩
end Go.Proofs.Ytidblpamolimpaa
