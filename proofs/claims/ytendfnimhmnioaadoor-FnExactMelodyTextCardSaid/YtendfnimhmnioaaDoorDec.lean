/- The decimal form: spec's l01Dec. -/
import Derived.Test.YtendfnimhmnioaaDoorKit
import Derived.LoopTactic
import Derived.Below
import Derived.Laws.AppendOwn
import Derived.Laws.OwnMore
import Derived.OwnWalk
import Derived.Laws.BytesArg
import Derived.Lib.ItoaNum
import Derived.Maps.AppendAt
import Derived.Deep.AppendLies
namespace Go.Proofs.YtendfnimhmnioaaDoor
open Go.ChangeShapes Go.WideShapes Go.ChangeAt Go.RowKit
set_option linter.unusedVariables false
set_option linter.unusedSimpArgs false
set_option maxRecDepth 100000

/-- the digits of a number, the lowest first; none for 0 -/
def lowDigits (u : Nat) : List UInt8 := if h : u = 0 then [] else UInt8.ofNat (48 + u % 10) :: lowDigits (u / 10)
termination_by u
decreasing_by omega
theorem low_zero : lowDigits 0 = [] := by rw [lowDigits, dif_pos rfl]
theorem low_pos (u : Nat) (h : u ≠ 0) : lowDigits u = UInt8.ofNat (48 + u % 10) :: lowDigits (u / 10) := by rw [lowDigits, dif_neg h]
theorem low_rev (u : Nat) (h : u ≠ 0) : (lowDigits u).reverse = Lib.decDigits u := by
  induction u using Nat.strongRecOn with
  | ind u ih =>
    rw [low_pos u h, List.reverse_cons]
    by_cases h1 : u < 10
    · rw [Lib.decDigits, dif_pos h1, show u / 10 = 0 by omega, low_zero, show u % 10 = u by omega]; rfl
    · rw [Lib.decDigits, dif_neg h1, ih (u / 10) (by omega) (by omega)]
theorem low_len (u : Nat) (h : u < 10 ^ 20) : (lowDigits u).length ≤ 20 := by
  suffices ∀ k u, u < 10 ^ k → (lowDigits u).length ≤ k from this 20 u h
  intro k
  induction k with
  | zero => intro u hu; obtain rfl : u = 0 := by simpa using hu
            rw [low_zero]; exact Nat.le_refl _
  | succ k ih =>
    intro u hu
    by_cases h0 : u = 0
    · subst h0; rw [low_zero]; exact Nat.zero_le _
    · rw [low_pos u h0, List.length_cons]
      have := ih (u / 10) (by rw [Nat.pow_succ] at hu; omega)
      omega

theorem infoU8 : (Tryd.prog.info? 5).map (fun i => (i.zero, i.size, i.bytes)) = some (some (.int .u8 0), 1, 1) := by kernel_rfl
def bcells (l : List UInt8) : List Value := l.map fun b => .int .u8 (b.toNat : Int)

theorem bcells_snoc (l : List UInt8) (b : UInt8) : bcells (l ++ [b]) = bcells l ++ [.int .u8 (b.toNat : Int)] := by simp [bcells]
theorem bcells_len (l : List UInt8) : (bcells l).length = l.length := by simp [bcells]
theorem digit_val (N : Nat) : ((UInt8.ofNat (48 + N % 10)).toNat : Int) = 48 + (N : Int) % 10 := by
  rw [UInt8.toNat_ofNat', Nat.mod_eq_of_lt (by omega)]; omega
theorem low_step (l : List UInt8) (N : Nat) (R : List UInt8) (h : l ++ lowDigits N = R) (h0 : N ≠ 0) : (l ++ [UInt8.ofNat (48 + N % 10)]) ++ lowDigits (N / 10) = R := by
  rw [← h, low_pos N h0]; simp
theorem low_room (l : List UInt8) (N n : Nat) (h : l ++ lowDigits N = lowDigits n) (hn : n < 10 ^ 20) : l.length ≤ 20 := by
  have := low_len n hn
  rw [← h, List.length_append] at this
  omega

theorem own_ge {w : World} {base : Nat} {e : TypeId} {size n : Nat} {v : Value} {xs : List Value} (h : w.ownsRow base e size v n xs) : ∀ k, v.ownBlock = some k → base ≤ k := by
  intro k hk
  rcases h.2 with ⟨rfl, _⟩ | ⟨g, cap, cur, rfl, hb, _⟩
  · simp [Value.ownBlock] at hk
  · have : g = k := by simpa [Value.ownBlock] using hk
    omega
/-- behind an append onto a row of the call's own of one new block -/
theorem below_app {B : Nat} {a wr w3 : World} {e : TypeId} {size n : Nat} {v : Value} {xs : List Value} {o : Obj} (hb : Below B a wr) (hown : wr.ownsRow B e size v n xs) (hB : B ≤ a.heap.size)
    (hg : (wr.alloc o).grownBy w3 v.ownBlock) : Below B a w3 :=
  (hb.alloc (Nat.le_trans hB hb.size) o).grown hg (by have := hb.size; simp; omega) (own_ge hown)

theorem cells_of_own {w : World} {base g cap : Nat} {l : List UInt8} (h : w.ownsRow base 5 1 (.slice (some ⟨g, 0, none⟩) l.length cap) l.length (bcells l)) :
    ∀ k, k < l.length → w.cell? ⟨g, k, none⟩ = some (.int .u8 ((l.getD k 0).toNat : Int)) := fun k hk => by
  rw [h.cellAt k (by omega)]
  simp [bcells, hk]
theorem lt_of_own {w : World} {base g cap : Nat} {l : List UInt8} (h : w.ownsRow base 5 1 (.slice (some ⟨g, 0, none⟩) l.length cap) l.length (bcells l)) (hl : 0 < l.length) : g < w.heap.size := by
  obtain ⟨g', cap', hv, _, hlt⟩ := h.form hl
  simp at hv
  omega
theorem rev_step (L : List UInt8) (k : Nat) (hk : 1 ≤ k) (hl : k ≤ L.length) : (L.drop k).reverse ++ [L.getD (k - 1) 0] = (L.drop (k - 1)).reverse := by
  have e : L.drop (k - 1) = L.getD (k - 1) 0 :: L.drop k := by
    rw [List.drop_eq_getElem_cons (by omega), show k - 1 + 1 = k by omega]
    simp [List.getD, show k - 1 < L.length by omega]
  rw [e, List.reverse_cons]
theorem conv_bytes {W : World} {base g cap : Nat} {l : List UInt8} (h : W.ownsRow base 5 1 (.slice (some ⟨g, 0, none⟩) l.length cap) l.length (bcells l)) :
    (convert 83 9 (.slice (some ⟨g, 0, none⟩) l.length cap)).run Tryd.prog W = .ok (.string ⟨l.toArray⟩) W := by
  have hc := cells_of_own h
  have := run_convert_bytes_arg (P := Tryd.prog) W 83 5 Tryd.underlying83 Tryd.underlying5 g 0 l.length cap (l.map fun b => (b.toNat : Int)) (by simp)
    (fun i hi => by rw [Nat.zero_add, hc i hi]; simp [List.getD, hi]) 9 Tryd.underlying9
  rw [this]
  simp [strOfNums, Function.comp_def]
theorem itoa_pos (n : Int) (h : 0 < n) : (lowDigits n.natAbs).reverse = Lib.itoa n := by
  rw [low_rev _ (by omega)]; unfold Lib.itoa; rw [if_neg (by omega)]; congr 1; omega
theorem itoa_neg (n : Int) (h : n < 0) : (lowDigits n.natAbs ++ [45]).reverse = Lib.itoa n := by
  rw [List.reverse_append, low_rev _ (by omega)]; unfold Lib.itoa; rw [if_pos h]; rfl

set_option maxHeartbeats 2000000 in
set_option maxRecDepth 100000 in
theorem spec_dec (n : Int) (w : World) (h1 : -9223372036854775808 ≤ n) (h2 : n ≤ 9223372036854775807) (h0 : n ≠ 0) :
    Calls Tryd.prog 71 #[.int .i64 n] w fun e w' => e = .returned (.string ⟨(Lib.itoa n).toArray⟩) ∧ Below w.heap.size w w' := by
  have hz : (n == 0) = false := by simpa using h0
  have hroom : Bx (n.natAbs < 10 ^ 20) := Bx.mk (by omega)
  have H1 := Bx.mk h1
  have H2 := Bx.mk h2
  clear h1 h2
  obtain ⟨i0, hi, hz0, hz1, hz2⟩ := info_parts infoU8
  go_enter Tryd.func71, Tryd.ntmps71
  go_wp2
  go_loopw [3, 4, 5] (fun v m _ wr => ∃ (M : Int) (l : List UInt8), m = .int .i64 M ∧ (-9223372036854775808 ≤ M ∧ M ≤ 9223372036854775807) ∧ wr.ownsRow w.heap.size 5 1 v l.length (bcells l) ∧ Below w.heap.size w wr ∧ l.length ≤ 20 ∧
      Bx (l ++ lowDigits M.natAbs = lowDigits n.natAbs)) (fun _ m _ _ => (intOf m).natAbs)
  case atStart => exact ⟨n, [], rfl, ⟨H1.out, H2.out⟩, World.ownsRow_lit _ _ _ (Nat.le_refl _) (by decide) (by decide), (Below.refl _ _).alloc (Nat.le_refl _) _, by simp, Bx.mk rfl⟩
  case round =>
    obtain ⟨M, l, rfl, ⟨hM1, hM2⟩, hown, hb, hl, HL⟩ := hrel
    have hsize := hb.size
    by_cases hM : 0 ≤ M
    · obtain ⟨N, rfl⟩ : ∃ N : Nat, M = (N : Int) := ⟨M.toNat, by omega⟩
      by_cases hN : N = 0
      · subst hN
        have HL2 : Bx (l = lowDigits n.natAbs) := Bx.mk (by have := HL.out; rw [show ((0 : Nat) : Int).natAbs = 0 from rfl, low_zero, List.append_nil] at this; exact this)
        clear HL
        have hl1 : 1 ≤ l.length := by rw [HL2.out, low_pos _ (by omega)]; simp
        obtain ⟨g, cap, rfl, _, _⟩ := hown.form (by omega)
        by_cases hneg : n < 0
        · have hown0 := hown
          have hb0 := hb
          go_wp2_with ((at_builtin; refine wpList_append_own _ rfl _ _ 83 rfl w.heap.size 5 i0 (.int .u8 0) 1 1 Tryd.underlying83 hi hz0 hz1 hz2 rfl (by decide) _ _ _ rfl (hown.alloc _) ⟨wr.heap.size, 0, none⟩ 1 1 [.int .u8 45] rfl rfl (cell_one_new _ _ _) (fun x hx => by simp at hx; subst hx; rfl) (by unfold maxLen; omega) (by omega) (by simp; omega) ?_; intro v' W2 hown' hgrow3 hnil3; obtain ⟨g2, cap2, rfl, _, _⟩ := hown'.form (by omega)))
          obtain ⟨L, hL⟩ : ∃ L, L = l ++ [45] := ⟨_, rfl⟩
          have hown2 : W2.ownsRow w.heap.size 5 1 (.slice (some ⟨g2, 0, none⟩) L.length cap2) L.length (bcells L) := by
            rw [hL, bcells_snoc, List.length_append]; exact hown'
          have hLl : L.length = l.length + 1 := by rw [hL]; simp
          have HE : Bx (L.reverse = Lib.itoa n) := Bx.mk (by rw [hL, HL2.out]; exact itoa_neg n hneg)
          have hbW := below_app hb0 hown0 (Nat.le_refl _) hgrow3
          have hcL := Bx.mk (cells_of_own hown2)
          have hgW := lt_of_own hown2 (by omega)
          rw [← hLl]
          have hLl2 : L.length ≤ 21 := by omega
          have hl1 : 1 ≤ L.length := by omega
          have HLL := Bx.mk hLl
          clear hown' hgrow3 hnil3 hown hown0 hb0 hb HL2 hL hLl hown2
          go_wp2
          go_loopw [6, 7] (fun vo i wr => ∃ k : Nat, k ≤ L.length ∧ i = .int .i64 ((k : Int) - 1) ∧ wr.ownsRow W2.heap.size 5 1 vo (L.drop k).reverse.length (bcells (L.drop k).reverse) ∧ Below W2.heap.size W2 wr) (fun _ i _ => (intOf i + 1).toNat)
          case atStart => exact ⟨L.length, Nat.le_refl _, by first | go_num | (have := HLL.out; congr 1; omega), by rw [List.drop_length]; exact World.ownsRow_lit _ _ _ (Nat.le_refl _) (by decide) (by decide), (Below.refl _ _).alloc (Nat.le_refl _) _⟩
          case round =>
            obtain ⟨k, hk, rfl, hown, hb⟩ := hrel
            have hsize := hb.size
            by_cases hk1 : 1 ≤ k
            · have hc0 := hcL.out (k - 1) (by omega)
              have hc : wr.cell? ⟨g2, k - 1, none⟩ = some (.int .u8 ((L.getD (k - 1) 0).toNat : Int)) := by rw [hb.cell (p := ⟨g2, k - 1, none⟩) hgW]; exact hc0
              clear hc0
              have hlr : (L.drop k).reverse.length ≤ 21 := by simp; omega
              have HRS := Bx.mk (rev_step L k hk1 hk)
              generalize L.getD (k - 1) 0 = c at hc HRS
              generalize (L.drop k).reverse = R at hown hlr HRS
              go_wp2_with ((at_builtin; refine wpList_append_own _ rfl _ _ 83 rfl W2.heap.size 5 i0 (.int .u8 0) 1 1 Tryd.underlying83 hi hz0 hz1 hz2 rfl (by decide) _ _ _ rfl (hown.alloc _) ⟨wr.heap.size, 0, none⟩ 1 1 [.int .u8 (c.toNat : Int)] rfl rfl (cell_one_new _ _ _) (fun x hx => by simp at hx; subst hx; rfl) (by unfold maxLen; omega) (by omega) (by simp; omega) ?_; intro v' w3 hown' hgrow3 hnil3))
              have hown2 : w3.ownsRow W2.heap.size 5 1 v' (L.drop (k - 1)).reverse.length (bcells (L.drop (k - 1)).reverse) := by
                rw [← HRS.out, bcells_snoc, List.length_append]; exact hown'
              have hb2 := below_app hb hown (Nat.le_refl _) hgrow3
              clear hown' hgrow3 hnil3 hown
              go_roundw
              case rel => exact ⟨k - 1, by omega, by go_num, hown2, hb2⟩
              case measure => simp [intOf]; omega
            · obtain rfl : k = 0 := by omega
              rw [List.drop_zero] at hown
              obtain ⟨g2, cap2, rfl, _, _⟩ := hown.form (by simp; omega)
              have hconv := conv_bytes hown
              rw [List.length_reverse] at hconv
              go_wp2
              go_ret
              exact ⟨ret_str HE.out, hbW.trans (hb.mono hbW.size)⟩
        · obtain ⟨L, hL⟩ : ∃ L, L = l := ⟨_, rfl⟩
          obtain ⟨W2, hW2⟩ : ∃ W2, W2 = wr := ⟨_, rfl⟩
          subst hL hW2
          have hcL := Bx.mk (cells_of_own hown)
          have hgW := lt_of_own hown hl1
          have HE : Bx (L.reverse = Lib.itoa n) := Bx.mk (by rw [HL2.out]; exact itoa_pos n (by omega))
          have hbW := hb
          clear hown HL2 hb
          go_wp2
          go_loopw [6, 7] (fun vo i wr => ∃ k : Nat, k ≤ L.length ∧ i = .int .i64 ((k : Int) - 1) ∧ wr.ownsRow W2.heap.size 5 1 vo (L.drop k).reverse.length (bcells (L.drop k).reverse) ∧ Below W2.heap.size W2 wr) (fun _ i _ => (intOf i + 1).toNat)
          case atStart => exact ⟨L.length, Nat.le_refl _, by first | go_num | (have := HLL.out; congr 1; omega), by rw [List.drop_length]; exact World.ownsRow_lit _ _ _ (Nat.le_refl _) (by decide) (by decide), (Below.refl _ _).alloc (Nat.le_refl _) _⟩
          case round =>
            obtain ⟨k, hk, rfl, hown, hb⟩ := hrel
            have hsize := hb.size
            by_cases hk1 : 1 ≤ k
            · have hc0 := hcL.out (k - 1) (by omega)
              have hc : wr.cell? ⟨g, k - 1, none⟩ = some (.int .u8 ((L.getD (k - 1) 0).toNat : Int)) := by rw [hb.cell (p := ⟨g, k - 1, none⟩) hgW]; exact hc0
              clear hc0
              have hlr : (L.drop k).reverse.length ≤ 21 := by simp; omega
              have HRS := Bx.mk (rev_step L k hk1 hk)
              generalize L.getD (k - 1) 0 = c at hc HRS
              generalize (L.drop k).reverse = R at hown hlr HRS
              go_wp2_with ((at_builtin; refine wpList_append_own _ rfl _ _ 83 rfl W2.heap.size 5 i0 (.int .u8 0) 1 1 Tryd.underlying83 hi hz0 hz1 hz2 rfl (by decide) _ _ _ rfl (hown.alloc _) ⟨wr.heap.size, 0, none⟩ 1 1 [.int .u8 (c.toNat : Int)] rfl rfl (cell_one_new _ _ _) (fun x hx => by simp at hx; subst hx; rfl) (by unfold maxLen; omega) (by omega) (by simp; omega) ?_; intro v' w3 hown' hgrow3 hnil3))
              have hown2 : w3.ownsRow W2.heap.size 5 1 v' (L.drop (k - 1)).reverse.length (bcells (L.drop (k - 1)).reverse) := by
                rw [← HRS.out, bcells_snoc, List.length_append]; exact hown'
              have hb2 := below_app hb hown (Nat.le_refl _) hgrow3
              clear hown' hgrow3 hnil3 hown
              go_roundw
              case rel => exact ⟨k - 1, by omega, by go_num, hown2, hb2⟩
              case measure => simp [intOf]; omega
            · obtain rfl : k = 0 := by omega
              rw [List.drop_zero] at hown
              obtain ⟨g2, cap2, rfl, _, _⟩ := hown.form (by simp; omega)
              have hconv := conv_bytes hown
              rw [List.length_reverse] at hconv
              go_wp2
              go_ret
              exact ⟨ret_str HE.out, hbW.trans (hb.mono hbW.size)⟩
      · have hne : ((N : Int) == 0) = false := by simpa using hN
        have HS := Bx.mk (low_step l N _ HL.out hN)
        have HR := Bx.mk (low_room _ _ _ HS.out hroom.out)
        have hd : Bx (48 + (N : Int) % 10 = ((UInt8.ofNat (48 + N % 10)).toNat : Int)) := Bx.mk (by rw [digit_val])
        go_wp2_with ((at_builtin; refine wpList_append_own _ rfl _ _ 83 rfl w.heap.size 5 i0 (.int .u8 0) 1 1 Tryd.underlying83 hi hz0 hz1 hz2 rfl (by decide) _ _ _ rfl (hown.alloc _) ⟨wr.heap.size, 0, none⟩ 1 1 [.int .u8 (48 + (N : Int) % 10)] rfl rfl (cell_one_new _ _ _) (fun x hx => by simp at hx; subst hx; rfl) (by unfold maxLen; omega) (by omega) (by simp; omega) ?_; intro v' w3 hown' hgrow3 hnil3))
        have hown2 : w3.ownsRow w.heap.size 5 1 v' (l ++ [UInt8.ofNat (48 + N % 10)]).length (bcells (l ++ [UInt8.ofNat (48 + N % 10)])) := by
          rw [bcells_snoc, List.length_append, ← hd.out]; exact hown'
        have hb2 := below_app hb hown (Nat.le_refl _) hgrow3
        clear hown' hgrow3 hnil3 hown
        go_roundw
        case rel => exact ⟨(N : Int) / 10, _, rfl, by omega, hown2, hb2, HR.out, Bx.mk (by rw [← HS.out]; congr 1)⟩
        case measure => simp [intOf]; omega
    · obtain ⟨N, rfl⟩ : ∃ N : Nat, M = -(N : Int) := ⟨(-M).toNat, by omega⟩
      have hN : N ≠ 0 := by omega
      have hne : (-(N : Int) == 0) = false := by simpa using hN
      have hnn : (-(N : Int)).natAbs = N := by omega
      rw [hnn] at HL
      have HS := Bx.mk (low_step l N _ HL.out hN)
      have HR := Bx.mk (low_room _ _ _ HS.out hroom.out)
      have hd : Bx (48 + (N : Int) % 10 = ((UInt8.ofNat (48 + N % 10)).toNat : Int)) := Bx.mk (by rw [digit_val])
      have htm : (-(N : Int)).tmod 10 = -((N : Int) % 10) := by rw [Int.neg_tmod, Int.tmod_eq_emod_of_nonneg (by omega)]
      have htd : (-(N : Int)).tdiv 10 = -((N : Int) / 10) := by rw [Int.neg_tdiv, Int.tdiv_eq_ediv_of_nonneg (by omega)]
      by_cases hr : (N : Int) % 10 = 0
      · rw [hr] at htm hd
        go_wp2_with ((at_builtin; refine wpList_append_own _ rfl _ _ 83 rfl w.heap.size 5 i0 (.int .u8 0) 1 1 Tryd.underlying83 hi hz0 hz1 hz2 rfl (by decide) _ _ _ rfl (hown.alloc _) ⟨wr.heap.size, 0, none⟩ 1 1 [.int .u8 (48)] rfl rfl (cell_one_new _ _ _) (fun x hx => by simp at hx; subst hx; rfl) (by unfold maxLen; omega) (by omega) (by simp; omega) ?_; intro v' w3 hown' hgrow3 hnil3))
        have hown2 : w3.ownsRow w.heap.size 5 1 v' (l ++ [UInt8.ofNat (48 + N % 10)]).length (bcells (l ++ [UInt8.ofNat (48 + N % 10)])) := by
          rw [bcells_snoc, List.length_append, ← hd.out]; exact hown'
        have hb2 := below_app hb hown (Nat.le_refl _) hgrow3
        clear hown' hgrow3 hnil3 hown
        go_roundw
        case rel => exact ⟨-((N : Int) / 10), _, rfl, by omega, hown2, hb2, HR.out, Bx.mk (by rw [← HS.out]; congr 2; omega)⟩
        case measure => simp [intOf]; omega
      · have hr1 : 1 ≤ (N : Int) % 10 := by omega
        clear hr
        go_wp2_with ((at_builtin; refine wpList_append_own _ rfl _ _ 83 rfl w.heap.size 5 i0 (.int .u8 0) 1 1 Tryd.underlying83 hi hz0 hz1 hz2 rfl (by decide) _ _ _ rfl (hown.alloc _) ⟨wr.heap.size, 0, none⟩ 1 1 [.int .u8 (48 + (N : Int) % 10)] rfl rfl (cell_one_new _ _ _) (fun x hx => by simp at hx; subst hx; rfl) (by unfold maxLen; omega) (by omega) (by simp; omega) ?_; intro v' w3 hown' hgrow3 hnil3))
        have hown2 : w3.ownsRow w.heap.size 5 1 v' (l ++ [UInt8.ofNat (48 + N % 10)]).length (bcells (l ++ [UInt8.ofNat (48 + N % 10)])) := by
          rw [bcells_snoc, List.length_append, ← hd.out]; exact hown'
        have hb2 := below_app hb hown (Nat.le_refl _) hgrow3
        clear hown' hgrow3 hnil3 hown
        go_roundw
        case rel => exact ⟨-((N : Int) / 10), _, rfl, by omega, hown2, hb2, HR.out, Bx.mk (by rw [← HS.out]; congr 2; omega)⟩
        case measure => simp [intOf]; omega
theorem spec_dec0 (w : World) :
    Calls Tryd.prog 71 #[.int .i64 0] w fun e w' => e = .returned (.string ⟨(Lib.itoa 0).toArray⟩) ∧ Below w.heap.size w w' := by
  go_enter Tryd.func71, Tryd.ntmps71
  go_wp2
  go_ret
  exact ⟨ret_str (by decide +kernel), Below.refl _ _⟩
/-- the decimal form, at every number -/
theorem spec_dec_any (n : Int) (w : World) (h1 : -9223372036854775808 ≤ n) (h2 : n ≤ 9223372036854775807) :
    Calls Tryd.prog 71 #[.int .i64 n] w fun e w' => e = .returned (.string ⟨(Lib.itoa n).toArray⟩) ∧ Below w.heap.size w w' := by
  by_cases h : n = 0
  · subst h; exact spec_dec0 w
  · exact spec_dec n w h1 h2 h
end Go.Proofs.YtendfnimhmnioaaDoor
