/- The program's list of the ratios of an octave. -/
import Derived.Test.YtdhgbincebcobaaDoorRatN
import Derived.Test.YtdhgbincebcobaaDoorRatGM
import Derived.Test.YtdhgbincebcobaaDoorTabs
import Derived.Deep.AppendLies
namespace Go.Proofs.YtdhgbincebcobaaDoor
open Go.ChangeShapes Go.WideShapes Go.ChangeAt Go.RowKit
set_option linter.unusedVariables false
set_option linter.unusedSimpArgs false
set_option maxRecDepth 100000

theorem infoRat : (Tryd.prog.info? 40).map (fun i => (i.zero, i.size, i.bytes)) = some (some (.agg #[.int .i64 0, .int .i64 0]), 2, 16) := by kernel_rfl
/-- pairs as cells -/
def pcells (l : List (Int × Int)) : List Value := l.flatMap fun p => [.int .i64 p.1, .int .i64 p.2]
theorem pcells_snoc (l : List (Int × Int)) (p : Int × Int) : pcells (l ++ [p]) = pcells l ++ [.int .i64 p.1, .int .i64 p.2] := by simp [pcells]
theorem pcells_len (l : List (Int × Int)) : (pcells l).length = 2 * l.length := by
  induction l with
  | nil => rfl
  | cons p l ih => simp [pcells] at ih ⊢; omega
theorem own_ge2 {w : World} {base : Nat} {e : TypeId} {size n : Nat} {v : Value} {xs : List Value} (h : w.ownsRow base e size v n xs) : ∀ k, v.ownBlock = some k → base ≤ k := by
  intro k hk
  rcases h.2 with ⟨rfl, _⟩ | ⟨g, cap, cur, rfl, hg, _⟩
  · cases hk
  · simp [Value.ownBlock] at hk; omega
theorem below_app2 {B : Nat} {a wr w3 : World} {e : TypeId} {size n : Nat} {v : Value} {xs : List Value} {o : Obj} (hb : Below B a wr) (hown : wr.ownsRow B e size v n xs) (hB : B ≤ a.heap.size)
    (hg : (wr.alloc o).grownBy w3 v.ownBlock) : Below B a w3 := Below.grown (hb.alloc (Nat.le_trans hB hb.size) _) hg (Nat.le_trans (Nat.le_trans hB hb.size) (by simp)) (own_ge2 hown)
theorem own_keep {w w' : World} {B : Nat} {e : TypeId} {size n : Nat} {v : Value} {xs : List Value} (h : w.ownsRow B e size v n xs) (hb : Below w.heap.size w w') : w'.ownsRow B e size v n xs := by
  refine ⟨h.1, ?_⟩
  rcases h.2 with h2 | ⟨g, cap, cur, h1, h2, h3, h4⟩
  · exact .inl h2
  · refine .inr ⟨g, cap, cur, h1, h2, ?_, h4⟩
    have hl : g < w.heap.size := by
      rcases Nat.lt_or_ge g w.heap.size with h | h
      · exact h
      · rw [Array.getElem?_eq_none h] at h3; cases h3
    rw [hb.block g hl]; exact h3
theorem cell_two (w : World) (a b : Value) (t : TypeId) : ∀ j u, [a, b][j]? = some u → (w.alloc (.cells #[a, b] t)).cell? ((⟨w.heap.size, 0, none⟩ : Addr).add j) = some u := by
  intro j u hj
  match j, hj with
  | 0, hj => simp at hj; subst hj; simp [Addr.add]
  | 1, hj => simp at hj; subst hj; simp [Addr.add]
  | j + 2, hj => simp at hj
set_option maxHeartbeats 2000000 in
theorem impl_octs (m : Int) (w : World) (hm : 1 ≤ m ∧ m ≤ 64) :
    Calls Tryd.prog 73 #[.int .i64 m] w fun e w' => ∃ v, e = .returned v ∧ w'.ownsRow w.heap.size 40 2 v (allR m.toNat).length (pcells (allR m.toNat)) ∧ Below w.heap.size w w' := by
  obtain ⟨i0, hi, hz0, hz1, hz2⟩ := info_parts infoRat
  obtain ⟨m1, m2⟩ := hm
  go_enter Tryd.func73, Tryd.ntmps73
  go_wp2_with (fail)
  go_loopw [3, 4] (fun v den wr => ∃ k : Nat, den = .int .i64 ((k : Int) + 1) ∧ (k : Int) ≤ m ∧ wr.ownsRow w.heap.size 40 2 v (allR k).length (pcells (allR k)) ∧ Below w.heap.size w wr) (fun _ den _ => (m + 1 - intOf den).toNat)
  case atStart => exact ⟨0, rfl, by omega, World.ownsRow_nil _ _ _ _, Below.refl _ _⟩
  case round =>
    obtain ⟨k, rfl, hk, hown, hb⟩ := hrel
    have hbs := hb.size
    by_cases hlt : (k : Int) < m
    · have hlen := allR_len k (by omega)
      have hrl := rowR_len (k + 1)
      have hd : decide ((k : Int) + 1 ≤ m) = true := by simp; omega
      go_wp2_with (fail)
      go_loopw [3, 5] (fun v num wr2 => ∃ j : Nat, num = .int .i64 ((k : Int) + 1 + j) ∧ j ≤ k + 2 ∧ wr2.ownsRow w.heap.size 40 2 v (allR k ++ rowR (k + 1) j).length (pcells (allR k ++ rowR (k + 1) j)) ∧ Below w.heap.size w wr2) (fun _ num _ => (1000 - intOf num).toNat)
      case atStart => exact ⟨0, by simp, by omega, by simpa [rowR] using hown, hb⟩
      case round =>
        clear hown hb hbs
        obtain ⟨j, rfl, hj, hown, hb⟩ := hrel
        have hbs := hb.size
        have hrj := hrl j
        by_cases hlt2 : j < k + 2
        · have hv := fun W => impl_valid ((k : Int) + 1 + j) ((k : Int) + 1) W
          have ho : okR ((k : Int) + 1 + j) ((k : Int) + 1) = (gz ((k : Int) + 1 + j) ((k : Int) + 1) == 1) := by
            have h1 : inB ((k : Int) + 1 + j) 1 1000000 = true := inB_mk (by omega)
            have h2 : inB ((k : Int) + 1) 1 1000000 = true := inB_mk (by omega)
            simp [okR, h1, h2]
          rw [ho] at hv
          have HR : Bx (rowR (k + 1) (j + 1) = rowR (k + 1) j ++ (if gz ((k : Int) + 1 + j) ((k : Int) + 1) = 1 then [((k : Int) + 1 + j, (k : Int) + 1)] else [])) := Bx.mk (by rw [rowR]; push_cast; rfl)
          by_cases hg : gz ((k : Int) + 1 + j) ((k : Int) + 1) = 1
          · rw [show (gz ((k : Int) + 1 + j) ((k : Int) + 1) == 1) = true by simpa using hg] at hv
            rw [if_pos hg] at HR
            have HR2 : Bx (allR k ++ rowR (k + 1) (j + 1) = (allR k ++ rowR (k + 1) j) ++ [((k : Int) + 1 + j, (k : Int) + 1)]) := Bx.mk (by rw [HR.out, List.append_assoc])
            clear HR hg ho
            have hll : (allR k ++ rowR (k + 1) j).length ≤ 10000 := by simp; omega
            generalize allR k ++ rowR (k + 1) j = l at *
            unfold rat at hv
            go_wp2_with (fail)
            refine (hv _).mono ?_
            rintro r w2 ⟨rfl, hb2⟩
            have K := Bx.mk ((PairAt.new wr ((k : Int) + 1 + j) ((k : Int) + 1)).below hb2)
            have kc0 := K.out.c0
            have kc1 := K.out.c1
            have klt := K.out.lt
            have hbB : Below w.heap.size w w2 := (hb.alloc hb.size _).trans (hb2.mono (by simp; omega))
            have hown1 : w2.ownsRow w.heap.size 40 2 _ l.length (pcells l) := own_keep (own_keep hown ((Below.refl _ _).alloc (Nat.le_refl _) _)) hb2
            have hbs2 := hbB.size
            clear hown hb hb2 hv
            go_wp2_with ((at_builtin; refine wpList_append_own _ rfl _ _ 86 rfl w.heap.size 40 i0 (.agg #[.int .i64 0, .int .i64 0]) 2 16 Tryd.underlying86 hi hz0 hz1 hz2 rfl (by decide) _ _ _ rfl (hown1.alloc _) ⟨w2.heap.size, 0, none⟩ 1 1 [.int .i64 ((k : Int) + 1 + j), .int .i64 ((k : Int) + 1)] rfl rfl (cell_two _ _ _ _) (fun x hx => by simp at hx; rcases hx with rfl | rfl <;> rfl) (by unfold maxLen; omega) (by omega) (by simp; omega) ?_; intro v' w3 hown' hgrow3 hnil3))
            have hown2 : w3.ownsRow w.heap.size 40 2 v' (l ++ [((k : Int) + 1 + j, (k : Int) + 1)]).length (pcells (l ++ [((k : Int) + 1 + j, (k : Int) + 1)])) := by
              rw [pcells_snoc, List.length_append]; exact hown'
            have hb3 := below_app2 hbB hown1 (Nat.le_refl _) hgrow3
            clear hown' hgrow3 hnil3 hown1
            go_roundw
            case rel => exact ⟨j + 1, by go_num, by omega, by rw [HR2.out]; exact hown2, hb3⟩
            case measure => simp [intOf]; omega
          · rw [show (gz ((k : Int) + 1 + j) ((k : Int) + 1) == 1) = false by simpa using hg] at hv
            rw [if_neg hg, List.append_nil] at HR
            clear hg ho
            unfold rat at hv
            go_wp2_with (fail)
            refine (hv _).mono ?_
            rintro r w2 ⟨rfl, hb2⟩
            have hbB : Below w.heap.size w w2 := (hb.alloc hb.size _).trans (hb2.mono (by simp; omega))
            have hown1 := own_keep (own_keep hown ((Below.refl _ _).alloc (Nat.le_refl _) _)) hb2
            clear hown hb hb2 hv
            go_wp2_with (fail)
            go_roundw
            case rel => exact ⟨j + 1, by go_num, by omega, by rw [HR.out]; exact hown1, hbB⟩
            case measure => simp [intOf]; omega
        · obtain rfl : j = k + 2 := by omega
          go_wp2_with (fail)
          go_roundw
          case rel => exact ⟨k + 1, by go_num, by omega, by rw [allR]; exact hown, hb⟩
          case measure => simp [intOf]; omega
    · obtain rfl : m = k := by omega
      go_wp2_with (fail)
      go_ret
      exact ⟨_, rfl, by simpa using hown, hb⟩
end Go.Proofs.YtdhgbincebcobaaDoor
