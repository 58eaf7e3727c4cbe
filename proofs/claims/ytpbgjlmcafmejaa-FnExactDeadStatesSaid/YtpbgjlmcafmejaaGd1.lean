/- Dead states: the model. -/
import Derived.Test.YtpbgjlmcafmejaaGdM
import Derived.Test.YtpbgjlmcafmejaaGv
import Derived.Test.YtpbgjlmcafmejaaSc5
namespace Go.Proofs.Ytpbgjlmcafmejaa
open Go.ChangeShapes Go.WideShapes Go.ChangeAt Go.RowKit
set_option linter.unusedVariables false
set_option linter.unusedSimpArgs false
set_option maxRecDepth 100000

def rowB (A : Nat → Bool) (m : Nat) : List Value := (List.range m).map fun i => .bool (A i)
theorem rowB_at (A : Nat → Bool) (m i : Nat) (h : i < m) : (rowB A m)[i]? = some (.bool (A i)) := by simp [rowB, h]
theorem rowB_congr {A B : Nat → Bool} {m : Nat} (h : ∀ i, i < m → A i = B i) : rowB A m = rowB B m := by
  unfold rowB
  apply List.map_congr_left
  intro i hi
  rw [h i (List.mem_range.1 hi)]
theorem rowB_set (A : Nat → Bool) (m i : Nat) : (rowB A m).set i (.bool true) = rowB (fun s => if s = i then true else A s) m := by
  apply List.ext_getElem?
  intro j
  unfold rowB
  by_cases hm : j < m
  · by_cases h : i = j
    · subst h; simp [hm]
    · have : ¬ j = i := fun e => h e.symm
      simp [hm, h, this]
  · rw [List.getElem?_eq_none (by simp; omega), List.getElem?_eq_none (by simp; omega)]
theorem rowB_none (m : Nat) : rowB (fun _ => false) m = List.replicate m (.bool false) := by
  apply List.ext_getElem?
  intro j
  by_cases hm : j < m
  · rw [rowB_at _ _ _ hm, List.getElem?_replicate, if_pos hm]
  · rw [List.getElem?_eq_none (by simp [rowB]; omega), List.getElem?_eq_none (by simp; omega)]
theorem has_iff (zs : List Int) (t : Int) : hasB zs t = true ↔ ∃ i, i < zs.length ∧ zs.getD i 0 = t := by
  unfold hasB
  rw [decide_eq_true_eq]
  rcases idx_cases zs t with ⟨h1, h2⟩ | ⟨k, h1, h2, h3, _⟩
  · rw [h1]
    exact ⟨fun h => by omega, fun ⟨i, hi, he⟩ => absurd he (h2 i hi)⟩
  · rw [h1]
    exact ⟨fun _ => ⟨k, h2, h3⟩, fun _ => by omega⟩
/-- the states that the first k final ones make living -/
def finB (fs : List Int) (k : Nat) : Nat → Bool := fun s => hasB (fs.take k) (s : Int)
theorem finB_succ {fs : List Int} {k f m : Nat} (h : k < fs.length) (hf : fs.getD k 0 = (f : Int)) : rowB (fun s => if s = f then true else finB fs k s) m = rowB (finB fs (k + 1)) m := by
  refine rowB_congr (fun s hs => ?_)
  unfold finB
  rw [Bool.eq_iff_iff]
  have hl : (fs.take (k + 1)).length = k + 1 := by rw [List.length_take]; omega
  have hl2 : (fs.take k).length = k := by rw [List.length_take]; omega
  have hg : ∀ i, i < k + 1 → (fs.take (k + 1)).getD i 0 = fs.getD i 0 := fun i hi => by simp [List.getD, List.getElem?_take, hi]
  have hg2 : ∀ i, i < k → (fs.take k).getD i 0 = fs.getD i 0 := fun i hi => by simp [List.getD, List.getElem?_take, hi]
  constructor
  · intro hh
    split at hh
    · rename_i e
      subst e
      exact (has_iff _ _).2 ⟨k, by omega, by rw [hg k (by omega)]; exact hf⟩
    · obtain ⟨i, hi, he⟩ := (has_iff _ _).1 hh
      exact (has_iff _ _).2 ⟨i, by omega, by rw [hg i (by omega), ← hg2 i (by omega)]; exact he⟩
  · intro hh
    obtain ⟨i, hi, he⟩ := (has_iff _ _).1 hh
    rw [hg i (by omega)] at he
    by_cases e : i = k
    · subst e
      rw [hf] at he
      rw [if_pos (by omega)]
    · split
      · rfl
      · exact (has_iff _ _).2 ⟨i, by omega, by rw [hg2 i (by omega)]; exact he⟩
theorem finB_zero (fs : List Int) (m : Nat) : rowB (finB fs 0) m = rowB (fun _ => false) m := by
  refine rowB_congr (fun s _ => ?_)
  unfold finB
  cases h : hasB (fs.take 0) (s : Int) with
  | false => rfl
  | true => obtain ⟨i, hi, _⟩ := (has_iff _ _).1 h; simp at hi
def aPart (A : Nat → Bool) (l : List (Int × Int × Int)) (k : Nat) : Nat → Bool := (l.take k).foldl aStep A
theorem aPart_succ {A : Nat → Bool} {l : List (Int × Int × Int)} {k : Nat} (h : k < l.length) : aPart A l (k + 1) = aStep (aPart A l k) (tat l k) := by
  unfold aPart
  rw [List.take_succ_eq_append_getElem h, List.foldl_append, tat_get h]
  rfl
theorem aPart_all (A : Nat → Bool) (l : List (Int × Int × Int)) : aPart A l l.length = aRound l A := by unfold aPart aRound; rw [List.take_length]
/-- the dead ones of the first k states -/
def deadK (A : Nat → Bool) : Nat → List Int
  | 0 => []
  | k + 1 => if A k = true then deadK A k else deadK A k ++ [(k : Int)]
theorem deadK_len (A : Nat → Bool) : ∀ k, (deadK A k).length ≤ k
  | 0 => Nat.le_refl _
  | k + 1 => by
    have := deadK_len A k
    unfold deadK
    split
    · omega
    · rw [List.length_append, List.length_singleton]; omega
def deadE (G : Gr) : List Int × Int := if okGr G = true then (deadK (aliveN G.f G.a G.n.toNat) G.n.toNat, 0) else ([], 1)
theorem deadE_len (G : Gr) : (deadE G).1.length ≤ 64 := by
  unfold deadE
  split
  · rename_i h
    have := (ok_of h).n
    have := deadK_len (aliveN G.f G.a G.n.toNat) G.n.toNat
    dsimp only
    omega
  · simp
theorem infoBool : (Try.prog.info? 4).map (fun i => (i.zero, i.size, i.bytes)) = some (some (.bool false), 1, 1) := by kernel_rfl
theorem zero_brow (w : World) (n : Nat) (hn : n ≤ 1048576) : (Instr.makeSlice 125 (.int .i64 (n : Int)) (.int .i64 (n : Int))).run Try.prog w = .ok (.slice (some ⟨w.heap.size, 0, none⟩) n n) (w.alloc (.cells (madeCells #[.bool false] n) 4)) := by
  obtain ⟨i0, hi, hz0, hz1, hz2⟩ := info_parts infoBool
  have := run_make (P := Try.prog) w 125 4 i0 (.bool false) Try.underlying125 hi hz0 .i64 .i64 (n : Int) (n : Int) (by omega) (by omega) (by rw [hz2]; omega) (by omega)
  rw [this, hz1]
  simp [Value.cells]
set_option maxHeartbeats 4000000 in
theorem spec_alive (g : Nat) (G : Gr) (w : World) (h : PtrGr w g G) (hm : SmG G) (hok : OkGr G) :
    Calls Try.prog 99 #[.pointer (some ⟨g, 0, none⟩)] w fun e w' => ∃ b, e = .returned (.slice (some ⟨b, 0, none⟩) G.n.toNat G.n.toNat) ∧ ArrAt w' b (rowB (aliveN G.f G.a G.n.toNat) G.n.toNat) 4 ∧ w.heap.size ≤ b ∧ Below w.heap.size w w' := by
  obtain ⟨B, b, C, c, hx, i1, i2⟩ := ptrgr_form h
  obtain ⟨n, s, fs, l⟩ := G
  obtain ⟨hn, hs, hfr, hu1, hl, har, hu2⟩ := hok
  have mf := hm.f
  dsimp only at *
  obtain ⟨m, rfl⟩ : ∃ m : Nat, n = m := ⟨n.toNat, by omega⟩
  rw [Int.toNat_natCast]
  have HX := Bx.mk hx
  have HF := Bx.mk i1
  have HT := Bx.mk i2
  have HFR := Bx.mk hfr
  have HAR := Bx.mk har
  have y0 := hx.c (k := 0) rfl
  have yl := hx.lt
  have hmk := zero_brow w m (by omega)
  clear h hx i1 i2 hfr har hm hu1 hu2
  go_enter Try.func99, Try.ntmps99
  go_wp2_with (fail)
  clear y0 yl hmk
  go_loopw [4] (fun i wr => ∃ j : Nat, j ≤ fs.length ∧ i = .int .i64 j ∧ Bx (ArrAt wr w.heap.size (rowB (finB fs j) m) 4) ∧ Bx (Below w.heap.size w wr)) (fun i _ => fs.length - (intOf i).toNat)
  case atStart =>
    refine ⟨0, Nat.zero_le _, rfl, Bx.mk ?_, Bx.mk ((Below.refl _ _).alloc (Nat.le_refl _) _)⟩
    have := ArrAt.at w w.heap.size (rowB (fun _ => false) m) 4 rfl
    rw [rowB_none, ← toList_madeCells_one] at this
    rw [finB_zero, rowB_none, ← toList_madeCells_one]
    simpa using this
  case round =>
    obtain ⟨j, hj, rfl, HA, HB⟩ := hrel
    have HXw := Bx.mk (HX.out.below HB.out)
    have HFw := Bx.mk (HF.out.below HB.out)
    have y2 := HXw.out.c (k := 2) rfl
    have yl := HXw.out.lt
    by_cases hlt : j < fs.length
    · obtain ⟨bb, oo, cc, hv, lb, hc⟩ := HFw.out.form (by omega)
      injection hv with hA1 _ hC1
      subst hA1 hC1
      have c1 := hc j hlt
      have x1 : (0 : Int) ≤ (j : Int) := by omega
      have x2 : (j : Int) < (fs.length : Int) := by omega
      have dlt : decide ((j : Int) < (fs.length : Int)) = true := decide_eq_true x2
      have hr := HFR.out j hlt
      obtain ⟨f, hf⟩ : ∃ f : Nat, fs.getD j 0 = f := ⟨(fs.getD j 0).toNat, by omega⟩
      have hst := Bx.mk (finB_succ (m := m) hlt hf)
      rw [hf] at c1 hr
      have hfm : f < m := by omega
      have z1 : (0 : Int) ≤ (f : Int) := by omega
      have z2 : (f : Int) < (m : Int) := by omega
      have a0 := (HA.out.cell f).trans (rowB_at _ _ _ hfm)
      have af := HA.out.f0 f
      have al := HA.out.lt
      have HS : Bx (ArrAt (wr.setCell ⟨w.heap.size, f, none⟩ (.bool true)) w.heap.size (rowB (finB fs (j + 1)) m) 4) := Bx.mk (by
        have := HA.out.put f (.bool true)
        rw [rowB_set, hst.out] at this
        exact this)
      have HB2 := Bx.mk (HB.out.setCell (p := ⟨w.heap.size, f, none⟩) (Nat.le_refl _) (.bool true))
      clear hc hst hf hr HA HXw HFw
      generalize finB fs j f = fv at a0
      go_wp2_with (fail)
      go_roundw
      case rel => exact ⟨j + 1, by omega, by go_num, HS, HB2⟩
      case measure => simp [intOf]; omega
    · obtain rfl : j = fs.length := by omega
      have dlt : decide ((fs.length : Int) < (fs.length : Int)) = false := decide_eq_false (by omega)
      have HA2 : Bx (ArrAt wr w.heap.size (rowB (aliveN fs l 0) m) 4) := Bx.mk (by have := HA.out; unfold finB at this; rw [List.take_length] at this; exact this)
      clear HA HXw HFw hlt
      go_wp2_with (fail)
      clear y2 yl
      go_loopw [5] (fun i wr => ∃ r : Nat, r ≤ m ∧ i = .int .i64 r ∧ Bx (ArrAt wr w.heap.size (rowB (aliveN fs l r) m) 4) ∧ Bx (Below w.heap.size w wr)) (fun i _ => m - (intOf i).toNat)
      case atStart => exact ⟨0, Nat.zero_le _, rfl, HA2, HB⟩
      case round =>
        clear HA2 HB
        obtain ⟨r, hr, rfl, HA, HB⟩ := hrel
        have HXw := Bx.mk (HX.out.below HB.out)
        have y0 := HXw.out.c (k := 0) rfl
        have yl := HXw.out.lt
        by_cases hlr : r < m
        · have dln : decide ((r : Int) < (m : Int)) = true := decide_eq_true (by omega)
          have HNX : Bx (aRound l (aliveN fs l r) = aliveN fs l (r + 1)) := Bx.mk rfl
          generalize aliveN fs l r = A at *
          go_wp2_with (fail)
          clear y0 yl
          go_loopw [6] (fun i wr => ∃ a : Nat, a ≤ l.length ∧ i = .int .i64 a ∧ Bx (ArrAt wr w.heap.size (rowB (aPart A l a) m) 4) ∧ Bx (Below w.heap.size w wr)) (fun i _ => l.length - (intOf i).toNat)
          case atStart => exact ⟨0, Nat.zero_le _, rfl, HA, HB⟩
          case round =>
            clear HA HB HXw
            obtain ⟨a, ha, rfl, HA, HB⟩ := hrel
            have HXw := Bx.mk (HX.out.below HB.out)
            have HTw := Bx.mk (HT.out.below HB.out)
            have y3 := HXw.out.c (k := 3) rfl
            have yl := HXw.out.lt
            by_cases hla : a < l.length
            · obtain ⟨bb, oo, cc, hv, lb, hc⟩ := HTw.out.form (by omega)
              injection hv with hA1 _ hC1
              subst hA1 hC1
              replace hc := hc a hla
              have x1 : (0 : Int) ≤ (a : Int) := by omega
              have x2 : (a : Int) < (l.length : Int) := by omega
              have dla : decide ((a : Int) < (l.length : Int)) = true := decide_eq_true x2
              have hst := Bx.mk (aPart_succ (A := A) hla)
              have hrr := HAR.out a hla
              generalize tat l a = p at hc hst hrr
              obtain ⟨p1, p2, p3⟩ := p
              dsimp only at hc hrr
              obtain ⟨f, rfl⟩ : ∃ f : Nat, p1 = f := ⟨p1.toNat, by omega⟩
              obtain ⟨t, rfl⟩ : ∃ t : Nat, p3 = t := ⟨p3.toNat, by omega⟩
              obtain ⟨c1, c2, c3⟩ := hc
              have hfm : f < m := by omega
              have htm : t < m := by omega
              have z1 : (0 : Int) ≤ (f : Int) := by omega
              have z2 : (f : Int) < (m : Int) := by omega
              have z3 : (0 : Int) ≤ (t : Int) := by omega
              have z4 : (t : Int) < (m : Int) := by omega
              have o0 := (HA.out.cell t).trans (rowB_at _ _ _ htm)
              have a0 := (HA.out.cell f).trans (rowB_at _ _ _ hfm)
              have af := HA.out.f0 f
              have al := HA.out.lt
              clear hrr HXw HTw
              cases ht : aPart A l a t
              · have HS : Bx (ArrAt wr w.heap.size (rowB (aPart A l (a + 1)) m) 4) := Bx.mk (by
                  rw [hst.out]
                  have e : aStep (aPart A l a) ((f : Int), p2, (t : Int)) = aPart A l a := by
                    funext s
                    unfold aStep
                    rw [if_neg (by show ¬ aPart A l a (t : Int).toNat = true; rw [Int.toNat_natCast, ht]; decide)]
                  rw [e]
                  exact HA.out)
                rw [ht] at o0
                clear hst HA ht
                generalize aPart A l a f = fv at a0
                go_wp2_with (fail)
                go_roundw
                case rel => exact ⟨a + 1, by omega, by go_num, HS, HB⟩
                case measure => simp [intOf]; omega
              · have HS : Bx (ArrAt (wr.setCell ⟨w.heap.size, f, none⟩ (.bool true)) w.heap.size (rowB (aPart A l (a + 1)) m) 4) := Bx.mk (by
                  rw [hst.out]
                  have e : aStep (aPart A l a) ((f : Int), p2, (t : Int)) = fun s => if s = f then true else aPart A l a s := by
                    funext s
                    unfold aStep
                    rw [if_pos (by show aPart A l a (t : Int).toNat = true; rw [Int.toNat_natCast]; exact ht)]
                    rfl
                  rw [e, ← rowB_set]
                  exact HA.out.put f (.bool true))
                have HB2 := Bx.mk (HB.out.setCell (p := ⟨w.heap.size, f, none⟩) (Nat.le_refl _) (.bool true))
                rw [ht] at o0
                clear hst HA HB ht
                generalize aPart A l a f = fv at a0
                go_wp2_with (fail)
                go_roundw
                case rel => exact ⟨a + 1, by omega, by go_num, HS, HB2⟩
                case measure => simp [intOf]; omega
            · obtain rfl : a = l.length := by omega
              have dla : decide ((l.length : Int) < (l.length : Int)) = false := decide_eq_false (by omega)
              have HA2 : Bx (ArrAt wr w.heap.size (rowB (aliveN fs l (r + 1)) m) 4) := Bx.mk (by have := HA.out; rw [aPart_all, HNX.out] at this; exact this)
              clear HA HXw HTw
              go_wp2_with (fail)
              go_roundw
              case rel => exact ⟨r + 1, by omega, by go_num, HA2, HB⟩
              case measure => simp [intOf]; omega
        · obtain rfl : r = m := by omega
          have dln : decide ((r : Int) < (r : Int)) = false := decide_eq_false (by omega)
          go_wp2_with (fail)
          go_ret
          exact ⟨_, rfl, HA.out, Nat.le_refl _, HB.out⟩
end Go.Proofs.Ytpbgjlmcafmejaa
