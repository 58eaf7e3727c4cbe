/- spec's l01Split: the pieces of a text at a byte. -/
import Derived.Test.YtendfnimhmnioaaDoorKit
import Derived.Test.YtendfnimhmnioaaDoorSplitMath
import Derived.LoopTactic
import Derived.Below
import Derived.Laws.AppendOwn
import Derived.Laws.OwnMore
import Derived.OwnWalk
import Derived.Maps.AppendAt
import Derived.Deep.AppendLies
import Derived.WalkSpells
namespace Go.Proofs.YtendfnimhmnioaaDoor
open Go.ChangeShapes Go.WideShapes Go.ChangeAt Go.RowKit
set_option linter.unusedVariables false
set_option linter.unusedSimpArgs false
set_option maxRecDepth 100000

theorem infoStr : (Tryd.prog.info? 9).map (fun i => (i.zero, i.size, i.bytes)) = some (some (.string ByteArray.empty), 1, 16) := by kernel_rfl
def strs (ps : List (List UInt8)) : List Value := ps.map fun p => .string ⟨p.toArray⟩
theorem strs_snoc (ps : List (List UInt8)) (p : List UInt8) : strs (ps ++ [p]) = strs ps ++ [.string ⟨p.toArray⟩] := by simp [strs]
theorem strs_len (ps : List (List UInt8)) : (strs ps).length = ps.length := by simp [strs]
theorem own_ge' {w : World} {base : Nat} {e : TypeId} {size n : Nat} {v : Value} {xs : List Value} (h : w.ownsRow base e size v n xs) : ∀ k, v.ownBlock = some k → base ≤ k := by
  intro k hk
  rcases h.2 with ⟨rfl, _⟩ | ⟨g, cap, cur, rfl, hb, _⟩
  · simp [Value.ownBlock] at hk
  · have : g = k := by simpa [Value.ownBlock] using hk
    omega
theorem below_app' {B : Nat} {a wr w3 : World} {e : TypeId} {size n : Nat} {v : Value} {xs : List Value} {o : Obj} (hb : Below B a wr) (hown : wr.ownsRow B e size v n xs) (hB : B ≤ a.heap.size)
    (hg : (wr.alloc o).grownBy w3 v.ownBlock) : Below B a w3 :=
  (hb.alloc (Nat.le_trans hB hb.size) o).grown hg (by have := hb.size; simp; omega) (own_ge' hown)
theorem byte_at (s : ByteArray) (k : Nat) (h : k < s.size) : s.data.toList.drop k = s[k] :: s.data.toList.drop (k + 1) := by
  rw [List.drop_eq_getElem_cons (by simpa using h)]; rfl
theorem piece_more (s : ByteArray) (f k : Nat) (hf : f ≤ k) (h : k < s.size) : (s.data.toList.drop f).take (k - f) ++ [s[k]] = (s.data.toList.drop f).take (k + 1 - f) := by
  rw [show k + 1 - f = (k - f) + 1 by omega, List.take_add_one, List.getElem?_drop, show f + (k - f) = k by omega, List.getElem?_eq_getElem (by simpa using h)]; rfl

set_option maxHeartbeats 1000000 in
set_option maxRecDepth 100000 in
theorem spec_split (s : ByteArray) (c : UInt8) (w : World) (hs : s.size ≤ 4294967280) :
    Calls Tryd.prog 78 #[.string s, .int .u8 (c.toNat : Int)] w fun e w' => ∃ v, e = .returned v ∧ w'.ownsRow w.heap.size 9 1 v (cutL c s.data.toList).length (strs (cutL c s.data.toList)) ∧ Below w.heap.size w w' := by
  obtain ⟨i0, hi, hz0, hz1, hz2⟩ := info_parts infoStr
  go_enter Tryd.func78, Tryd.ntmps78
  go_wp2
  go_loopw [5, 6, 7] (fun v fr i wr => ∃ (k f : Nat) (ps : List (List UInt8)), k ≤ s.size ∧ f ≤ k ∧ i = .int .i64 k ∧ fr = .int .i64 f ∧ ps.length ≤ f ∧ wr.ownsRow w.heap.size 9 1 v ps.length (strs ps) ∧ Below w.heap.size w wr ∧
      Bx (cutL c s.data.toList = ps ++ glue ((s.data.toList.drop f).take (k - f)) (cutL c (s.data.toList.drop k)))) (fun _ _ i _ => s.size - (intOf i).toNat)
  case atStart => exact ⟨0, 0, [], Nat.zero_le _, Nat.le_refl _, rfl, rfl, Nat.le_refl _, World.ownsRow_lit _ _ _ (Nat.le_refl _) (by decide) (by decide), (Below.refl _ _).alloc (Nat.le_refl _) _, Bx.mk (by simp [glue_nil])⟩
  case round =>
    obtain ⟨k, f, ps, hk, hf, rfl, rfl, hpl, hown, hb, HC⟩ := hrel
    have hsize := hb.size
    by_cases hlt : k < s.size
    · have HD := Bx.mk (byte_at s k hlt)
      by_cases hc : s[k] = c
      · have hci : (((s[k].toNat : Nat) : Int) == ((c.toNat : Nat) : Int)) = true := by rw [hc]; simp
        have HC2 : Bx (cutL c s.data.toList = (ps ++ [(s.data.toList.drop f).take (k - f)]) ++ glue ((s.data.toList.drop (k + 1)).take (k + 1 - (k + 1))) (cutL c (s.data.toList.drop (k + 1)))) := Bx.mk (by
          rw [HC.out, HD.out, hc, cut_hit, Nat.sub_self, List.take_zero, glue_nil]; simp)
        have HE := Bx.mk (ext_mk s f k)
        generalize (s.data.toList.drop f).take (k - f) = p at HC2 HE
        clear HC HD hc
        go_wp2_with ((at_builtin; refine wpList_append_own _ rfl _ _ 67 rfl w.heap.size 9 i0 (.string ByteArray.empty) 1 16 Tryd.underlying67 hi hz0 hz1 hz2 rfl (by decide) _ _ _ rfl (hown.alloc _) ⟨wr.heap.size, 0, none⟩ 1 1 [.string (s.extract f k)] rfl rfl (cell_one_new _ _ _) (fun x hx => by simp at hx; subst hx; rfl) (by unfold maxLen; omega) (by omega) (by simp; omega) ?_; intro v' w3 hown' hgrow3 hnil3))
        have hown2 : w3.ownsRow w.heap.size 9 1 v' (ps ++ [p]).length (strs (ps ++ [p])) := by
          rw [strs_snoc, List.length_append, ← HE.out]; exact hown'
        have hb2 := below_app' hb hown (Nat.le_refl _) hgrow3
        clear hown' hgrow3 hnil3 hown HE
        go_roundw
        case rel => exact ⟨k + 1, k + 1, ps ++ [p], by omega, Nat.le_refl _, by go_num, by go_num, by simp; omega, hown2, hb2, HC2⟩
        case measure => simp [intOf]; omega
      · have hci : (((s[k].toNat : Nat) : Int) == ((c.toNat : Nat) : Int)) = false := beq_eq_false_iff_ne.2 (fun e => hc (UInt8.toNat_inj.1 (by omega)))
        have HC2 : Bx (cutL c s.data.toList = ps ++ glue ((s.data.toList.drop f).take (k + 1 - f)) (cutL c (s.data.toList.drop (k + 1)))) := Bx.mk (by
          rw [HC.out, HD.out, cut_miss c _ _ _ hc, piece_more s f k hf hlt])
        clear HC HD hc
        go_wp2
        go_roundw
        case rel => exact ⟨k + 1, f, ps, by omega, by omega, by go_num, rfl, hpl, hown, hb, HC2⟩
        case measure => simp [intOf]; omega
    · obtain rfl : k = s.size := by omega
      have HC2 : Bx (cutL c s.data.toList = ps ++ [(s.data.toList.drop f).take (s.size - f)]) := Bx.mk (by
        rw [HC.out, List.drop_of_length_le (i := s.size) (by simp), cut_nil])
      have HE := Bx.mk (ext_mk s f s.size)
      generalize (s.data.toList.drop f).take (s.size - f) = p at HC2 HE
      clear HC
      go_wp2_with ((at_builtin; refine wpList_append_own _ rfl _ _ 67 rfl w.heap.size 9 i0 (.string ByteArray.empty) 1 16 Tryd.underlying67 hi hz0 hz1 hz2 rfl (by decide) _ _ _ rfl (hown.alloc _) ⟨wr.heap.size, 0, none⟩ 1 1 [.string (s.extract f s.size)] rfl rfl (cell_one_new _ _ _) (fun x hx => by simp at hx; subst hx; rfl) (by unfold maxLen; omega) (by omega) (by simp; omega) ?_; intro v' w3 hown' hgrow3 hnil3))
      have hown2 : w3.ownsRow w.heap.size 9 1 v' (ps ++ [p]).length (strs (ps ++ [p])) := by
        rw [strs_snoc, List.length_append, ← HE.out]; exact hown'
      have hb2 := below_app' hb hown (Nat.le_refl _) hgrow3
      clear hown' hgrow3 hnil3 hown HE
      go_ret
      exact ⟨_, rfl, by rw [HC2.out]; exact hown2, hb2⟩
end Go.Proofs.YtendfnimhmnioaaDoor
