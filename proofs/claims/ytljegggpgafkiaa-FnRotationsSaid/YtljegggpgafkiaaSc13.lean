/- Scales: the tone of a name, the scale of a text, by the model. -/
import Derived.Test.YtljegggpgafkiaaSc12
namespace Go.Proofs.Ytljegggpgafkiaa
open Go.ChangeShapes Go.WideShapes Go.ChangeAt Go.RowKit
set_option linter.unusedVariables false
set_option linter.unusedSimpArgs false
set_option maxRecDepth 100000

/-- the tone with a name -/
def tnZ : List UInt8 → Int × Bool
  | [c] => if namedZ c < 0 then (0, false) else (namedZ c, true)
  | _ => (0, false)
theorem tn_many (l : List UInt8) (h : l.length ≠ 1) : tnZ l = (0, false) := by
  match l with
  | [] => rfl
  | [c] => exact absurd rfl h
  | _ :: _ :: _ => rfl
/-- a new list, or none -/
def LBOut (o : Option (List Int)) (w : World) (e : Ending) (w' : World) : Prop :=
  ∃ v, e = .returned (.tuple #[v, .bool o.isSome]) ∧ w'.ownsRow w.heap.size 2 1 v (o.getD []).length (ints (o.getD [])) ∧ Below w.heap.size w w'
theorem lb_none {o : Option (List Int)} {w w' : World} (h : o = none) (hb : Below w.heap.size w w') : LBOut o w (.returned (.tuple #[.slice none 0 0, .bool false])) w' :=
  ⟨_, by rw [h]; rfl, by rw [h]; exact World.ownsRow_nil _ _ _ _, hb⟩
theorem lb_some {o : Option (List Int)} {w w' : World} {v : Value} {vs : List Int} (h : o = some vs) (ho : w'.ownsRow w.heap.size 2 1 v vs.length (ints vs)) (hb : Below w.heap.size w w') :
    LBOut o w (.returned (.tuple #[v, .bool true])) w' := ⟨_, by rw [h]; rfl, by rw [h]; exact ho, hb⟩
/-- the scale with a text -/
def readSc (l : List UInt8) : Option (List Int) := if scaleB (l.map namedZ) = true then some (l.map namedZ) else none
set_option maxHeartbeats 2000000 in
theorem spec_readl (s : ByteArray) (w : World) (hs : s.size ≤ 4294967280) : Calls Try.prog 49 #[.string s] w (LBOut (readSc s.data.toList) w) := by
  obtain ⟨i0, hi, hz0, hz1, hz2⟩ := info_parts infoI64
  have hn := spec_named
  go_enter Try.func49, Try.ntmps49
  go_wp2_with (fail)
  go_loopw [4, 5] (fun v i wr => ∃ k : Nat, k ≤ s.size ∧ i = .int .i64 k ∧ wr.ownsRow w.heap.size 2 1 v ((s.data.toList.take k).map namedZ).length (ints ((s.data.toList.take k).map namedZ)) ∧ Below w.heap.size w wr) (fun _ i _ => s.size - (intOf i).toNat)
  case atStart => exact ⟨0, Nat.zero_le _, rfl, World.ownsRow_lit _ _ _ (Nat.le_refl _) (by decide) (by decide), (Below.refl _ _).alloc (Nat.le_refl _) _⟩
  case round =>
    obtain ⟨k, hk, rfl, hown, hbw⟩ := hrel
    have hsz := hbw.size
    have hll : ((s.data.toList.take k).map namedZ).length = k := by simp; omega
    by_cases hlt : k < s.size
    · have HS : Bx ((s.data.toList.take (k + 1)).map namedZ = (s.data.toList.take k).map namedZ ++ [namedZ s[k]]) := Bx.mk (by
        rw [List.take_succ_eq_append_getElem (by simpa using hlt), List.map_append]; rfl)
      have hnk := fun W => hn s[k] W
      generalize (s.data.toList.take k).map namedZ = vs at *
      generalize namedZ s[k] = z at *
      clear hn
      go_wp2_with (fail)
      refine (hnk _).mono ?_
      rintro e w' ⟨rfl, rfl⟩
      go_wp2_with ((at_builtin; refine wpList_append_own _ rfl _ _ 24 rfl w.heap.size 2 i0 (.int .i64 0) 1 8 Try.underlying24 hi hz0 hz1 hz2 rfl (by decide) _ _ _ rfl (hown.alloc _) ⟨wr.heap.size, 0, none⟩ 1 1 [.int .i64 z] rfl rfl (cell_one_new _ _ _) (fun x hx => by simp at hx; subst hx; rfl) (by unfold maxLen; omega) (by omega) (by simp; omega) ?_; intro v' w3 hown' hgrow3 hnil3))
      have hown2 : w3.ownsRow w.heap.size 2 1 v' ((s.data.toList.take (k + 1)).map namedZ).length (ints ((s.data.toList.take (k + 1)).map namedZ)) := by
        rw [HS.out, ints_snoc', List.length_append]; exact hown'
      have hb2 : Below w.heap.size w w3 := below_app' hbw hown (Nat.le_refl _) hgrow3
      clear hown' hgrow3 hnil3 hown
      go_roundw
      case rel => exact ⟨k + 1, by omega, by go_num, hown2, hb2⟩
      case measure => simp [intOf]; omega
    · obtain rfl : k = s.size := by omega
      have HT : Bx (s.data.toList.take s.size = s.data.toList) := Bx.mk (List.take_of_length_le (by simp))
      rw [HT.out] at hown hll
      have hsc := fun v W h => spec_scale v (s.data.toList.map namedZ) W h (by omega)
      have HY := Bx.mk (IntsAt.own hown)
      have HA : Bx (scaleB (s.data.toList.map namedZ) = true → readSc s.data.toList = some (s.data.toList.map namedZ)) := Bx.mk (fun h => by unfold readSc; rw [if_pos h])
      have HB : Bx (scaleB (s.data.toList.map namedZ) = false → readSc s.data.toList = none) := Bx.mk (fun h => by unfold readSc; rw [if_neg (by rw [h]; decide)])
      clear hn HT
      generalize s.data.toList.map namedZ = vs at *
      cases h1 : scaleB vs
      · rw [h1] at hsc
        have HF := Bx.mk (HB.out h1)
        clear h1 HA HB
        go_wp2_with (fail)
        refine (hsc _ _ HY.out).mono ?_
        rintro e w' ⟨rfl, n, rfl⟩
        go_wp2_with (fail)
        go_ret2
        exact lb_none HF.out (below_draws hbw n)
      · rw [h1] at hsc
        have HF := Bx.mk (HA.out h1)
        clear h1 HA HB
        go_wp2_with (fail)
        refine (hsc _ _ HY.out).mono ?_
        rintro e w' ⟨rfl, n, rfl⟩
        go_wp2_with (fail)
        go_ret2
        exact lb_some HF.out hown (below_draws hbw n)
end Go.Proofs.Ytljegggpgafkiaa
