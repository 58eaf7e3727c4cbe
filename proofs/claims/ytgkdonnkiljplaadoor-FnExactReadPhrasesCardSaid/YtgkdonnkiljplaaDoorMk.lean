/- Marking rows of rows, to the mark; rows that are held; a row appended to rows. -/
import Derived.Test.YtgkdonnkiljplaaDoorRm
namespace Go.Proofs.YtgkdonnkiljplaaDoor
open Go.ChangeShapes Go.WideShapes Go.ChangeAt Go.RowKit
set_option linter.unusedVariables false
set_option linter.unusedSimpArgs false
set_option maxRecDepth 100000

def offN (L : List (List Int)) (j : Nat) : Nat := ((L.take j).map List.length).sum
theorem offN_succ (L : List (List Int)) (j : Nat) (h : j < L.length) : offN L (j + 1) = offN L j + (L.getD j []).length := by
  unfold offN
  rw [List.take_succ_eq_append_getElem h, List.map_append, List.sum_append]
  simp [List.getD, List.getElem?_eq_getElem h]
theorem offN_le {L : List (List Int)} {m : Nat} (hg : ∀ i, i < L.length → (L.getD i []).length ≤ m) : ∀ j, j ≤ L.length → offN L j ≤ m * j := by
  intro j
  induction j with
  | zero => intro _; simp [offN]
  | succ j ih =>
    intro hj
    have h1 := ih (by omega)
    have h2 := hg j (by omega)
    rw [offN_succ L j (by omega), Nat.mul_succ]; omega
def markLL (L : List (List Int)) (k : Int) : List (List Int) := (List.range L.length).map fun i => marks (L.getD i []).length (k + offN L i)
theorem markLL_len (L : List (List Int)) (k : Int) : (markLL L k).length = L.length := by simp [markLL]
theorem markLL_at (L : List (List Int)) (k : Int) (i : Nat) (h : i < L.length) : (markLL L k).getD i [] = marks (L.getD i []).length (k + offN L i) := by simp [markLL, h]
set_option maxHeartbeats 1000000 in
theorem mark_rowsX (v : Value) (L : List (List Int)) (V : Nat → Value) (lo hi : Nat) (k : Int) (w : World) (h : RowsOwn w lo v L V) (hU : ∀ i, i < L.length → ∀ g, (V i).ownBlock = some g → g < hi) (hn : L.length ≤ 64)
    (hg : ∀ i, i < L.length → (L.getD i []).length ≤ 64) (hk : 0 ≤ k ∧ k ≤ 4194304) :
    Calls Tryd.prog 7 #[v, .int .i64 k] w fun e w' => e = .returned (.int .i64 (k + offN L L.length)) ∧ RowsOwn w' lo v (markLL L k) V ∧ Turn lo hi w w' := by
  obtain ⟨A, c, rfl⟩ := own_len h.out
  have HO := Bx.mk h
  have HU := Bx.mk hU
  have HG := Bx.mk hg
  have HOF := Bx.mk (offN_le hg)
  clear h hU hg
  go_enter Tryd.func7, Tryd.ntmps7
  go_wp2_with (fail)
  go_loopw [1, 5] (fun q i wr => ∃ (j : Nat), j ≤ L.length ∧ i = .int .i64 j ∧ q = .int .i64 (k + offN L j) ∧ Bx (wr.ownsRow lo 31 1 (.slice A L.length c) L.length ((List.range L.length).map V)) ∧ Bx (∀ i, j ≤ i → i < L.length → wr.ownsRow lo 2 1 (V i) (L.getD i []).length (ints (L.getD i []))) ∧ Bx (∀ i, i < j → wr.ownsRow lo 2 1 (V i) (L.getD i []).length (ints (marks (L.getD i []).length (k + offN L i)))) ∧ Bx (Turn lo hi w wr)) (fun _ i _ => L.length - (intOf i).toNat)
  case atStart => exact ⟨0, Nat.zero_le _, rfl, by simp [offN], Bx.mk HO.out.out, Bx.mk (fun i _ hi => HO.out.row i hi), Bx.mk (fun i hi => absurd hi (Nat.not_lt_zero _)), Bx.mk (Turn.refl _ _ _)⟩
  case round =>
    obtain ⟨j, hj, rfl, rfl, HX, HR, HM, HT⟩ := hrel
    by_cases hlt : j < L.length
    · obtain ⟨g, cap, hv, _, _⟩ := HX.out.form (by omega)
      injection hv with hA _ hC
      subst hA hC
      have c1 : wr.cell? ⟨g, j, none⟩ = some (V j) := by rw [HX.out.cellAt j (by omega)]; simp [hlt]
      have ho := HR.out j (Nat.le_refl _) hlt
      obtain ⟨Aj, cj, hVj⟩ := own_len ho
      rw [hVj] at c1
      have hof := HOF.out j hj
      have hq := mark_intsB (V j) (L.getD j []) lo (k + offN L j) wr ho (Nat.le_trans (HG.out j hlt) (by decide)) (by omega) (by omega)
      rw [hVj] at hq
      have HS := Bx.mk (offN_succ L j hlt)
      have HN : Bx (∀ W, wr.grownBy W (Value.slice Aj (L.getD j []).length cj).ownBlock → W.ownsRow lo 2 1 (Value.slice Aj (L.getD j []).length cj) (L.getD j []).length (ints (marks (L.getD j []).length (k + offN L j))) → W.ownsRow lo 31 1 (.slice (some ⟨g, 0, none⟩) L.length c) L.length ((List.range L.length).map V) ∧ (∀ i, j + 1 ≤ i → i < L.length → W.ownsRow lo 2 1 (V i) (L.getD i []).length (ints (L.getD i []))) ∧ (∀ i, i < j + 1 → W.ownsRow lo 2 1 (V i) (L.getD i []).length (ints (marks (L.getD i []).length (k + offN L i)))) ∧ Turn lo hi w W) := Bx.mk (fun W hgW hoW => by
        rw [← hVj] at hgW hoW
        refine ⟨HX.out.kept hgW (ne_row (fun x hx => HO.out.top j hlt x hx)), fun i hi1 hi2 => (HR.out i (by omega) hi2).kept hgW (ne_row (fun x hx => HO.out.two j i (by omega) hi2 x hx)), fun i hi1 => ?_, HT.out.trans (Turn.grown hgW (fun x hx => ⟨own_lo ho x hx, HU.out j hlt x hx⟩))⟩
        by_cases hij : i = j
        · subst hij; exact hoW
        · exact (HM.out i (by omega)).kept hgW (ne_row (fun x hx e => HO.out.two i j (by omega) hlt x e hx)))
      have HLj := Bx.mk (HG.out j hlt)
      clear ho HX HR HT HM hVj
      generalize (L.getD j []).length = n at *
      have k1 : (0 : Int) ≤ (j : Int) := by omega
      have k2 : (j : Int) < (L.length : Int) := by omega
      have hn64 := HLj.out
      go_wp2_with (fail)
      refine hq.mono ?_
      rintro r w1 ⟨rfl, hoW, hgr⟩
      obtain ⟨n1, n2, n4, n3⟩ := HN.out w1 hgr hoW
      have N1 := Bx.mk n1
      have N2 := Bx.mk n2
      have N3 := Bx.mk n3
      have N4 := Bx.mk n4
      clear n1 n2 n3 n4 hgr hoW HN
      go_wp2_with (fail)
      go_roundw
      case rel => exact ⟨j + 1, by omega, by go_num, by have := HS.out; go_num, N1, N2, N4, N3⟩
      case measure => simp [intOf]; omega
    · obtain rfl : j = L.length := by omega
      go_wp2_with (fail)
      go_ret
      refine ⟨rfl, ⟨?_, ?_, ?_, ?_⟩, HT.out⟩
      · rw [markLL_len]; exact HX.out
      · intro i hi
        rw [markLL_len] at hi
        rw [markLL_at L k i hi, marks_len]
        exact HM.out i hi
      · intro i hi
        rw [markLL_len] at hi
        exact HO.out.top i hi
      · intro i i' h1 h2
        rw [markLL_len] at h2
        exact HO.out.two i i' h1 h2
set_option maxHeartbeats 1000000 in
theorem held_rows (v : Value) (L : List (List Int)) (k : Int) (w : World) (h : RowsAt w v (markLL L k)) (hn : L.length ≤ 64) (hg : ∀ i, i < L.length → (L.getD i []).length ≤ 64) (hk : 0 ≤ k ∧ k ≤ 4194304) :
    Calls Tryd.prog 8 #[v, .int .i64 k] w fun e w' => e = .returned (.int .i64 (k + offN L L.length)) ∧ w = w' := by
  have hll := markLL_len L k
  obtain ⟨A, c, rfl⟩ := rows_form h
  rw [hll]
  have HI := Bx.mk h
  have HG := Bx.mk hg
  have HOF := Bx.mk (offN_le hg)
  have HLL := Bx.mk hll
  clear h hg hll
  go_enter Tryd.func8, Tryd.ntmps8
  go_wp2_with (fail)
  go_loopw [1, 5] (fun q i wr => ∃ (j : Nat), j ≤ L.length ∧ i = .int .i64 j ∧ q = .int .i64 (k + offN L j) ∧ wr = w) (fun _ i _ => L.length - (intOf i).toNat)
  case atStart => exact ⟨0, Nat.zero_le _, rfl, by simp [offN], rfl⟩
  case round =>
    obtain ⟨j, hj, rfl, rfl, rfl⟩ := hrel
    by_cases hlt : j < L.length
    · have HI2 := HI.out
      rw [HLL.out] at HI2
      obtain ⟨b, o, rfl, _, lb, hx⟩ : ∃ b o, A = some ⟨b, o, none⟩ ∧ True ∧ b < wr.heap.size ∧ ∀ k', k' < (markLL L k).length → ∃ A' c', wr.cell? ⟨b, o + k', none⟩ = some (.slice A' ((markLL L k).getD k' []).length c') ∧ IntsAt wr (.slice A' ((markLL L k).getD k' []).length c') ((markLL L k).getD k' []) := by
        obtain ⟨b, o, h1, h2, h3, h4⟩ := rows_at HI.out (by rw [HLL.out]; omega)
        exact ⟨b, o, h1, trivial, h3, h4⟩
      obtain ⟨A1, e1, c1, i1⟩ := hx j (by rw [HLL.out]; exact hlt)
      rw [markLL_at L k j hlt] at c1 i1
      rw [marks_len] at c1 i1
      have hof := HOF.out j hj
      have hq := held_ints _ (L.getD j []).length (k + offN L j) wr i1 (Nat.le_trans (HG.out j hlt) (by decide)) (by omega) (by omega)
      have HS := Bx.mk (offN_succ L j hlt)
      have hn64 := HG.out j hlt
      clear hx i1 HI HI2 lb
      generalize (L.getD j []).length = n at *
      have k1 : (0 : Int) ≤ (j : Int) := by omega
      have k2 : (j : Int) < (L.length : Int) := by omega
      have d1 : decide (k + (offN L j : Int) + (n : Int) < 0) = false := decide_eq_false (by omega)
      go_wp2_with (fail)
      refine hq.mono ?_
      rintro r w1 ⟨rfl, rfl⟩
      go_wp2_with (fail)
      go_roundw
      case rel => exact ⟨j + 1, by omega, by go_num, by have := HS.out; go_num, by first | rfl | trivial⟩
      case measure => simp [intOf]; omega
    · obtain rfl : j = L.length := by omega
      go_wp2_with (fail)
      go_ret
      exact ⟨rfl, rfl⟩
/-- blocks of two element types are two blocks -/
theorem own_types {w : World} {b1 b2 e1 e2 s1 s2 n1 n2 : Nat} {v1 v2 : Value} {x1 x2 : List Value} (h1 : w.ownsRow b1 e1 s1 v1 n1 x1) (h2 : w.ownsRow b2 e2 s2 v2 n2 x2) (hne : e1 ≠ e2) : ∀ g, v1.ownBlock = some g → v2.ownBlock ≠ some g := by
  intro g hg1 hg2
  rcases h1.2 with ⟨rfl, _⟩ | ⟨g1, c1, r1, rfl, _, hc1, _⟩
  · simp [Value.ownBlock] at hg1
  · rcases h2.2 with ⟨rfl, _⟩ | ⟨g2, c2, r2, rfl, _, hc2, _⟩
    · simp [Value.ownBlock] at hg2
    · simp [Value.ownBlock] at hg1 hg2
      subst hg1 hg2
      rw [hc1] at hc2
      injection hc2 with hc2
      injection hc2 with _ h3 _
      exact hne h3
/-- rows and one more -/
theorem RowsOwn.snoc {w5 w3 : World} {base B2 : Nat} {v v' u : Value} {L : List (List Int)} {V : Nat → Value} {zs : List Int} {o : Obj} (h : RowsOwn w5 base v L V) (hu : w5.ownsRow B2 2 1 u zs.length (ints zs)) (hB : base ≤ B2)
    (hv : ∀ g, v.ownBlock = some g → g < B2) (hV : ∀ i, i < L.length → ∀ g, (V i).ownBlock = some g → g < B2) (hg : (w5.alloc o).grownBy w3 v.ownBlock)
    (ho : w3.ownsRow base 31 1 v' (L.length + 1) ((List.range L.length).map V ++ [u])) :
    RowsOwn w3 base v' (L ++ [zs]) (fun i => if i < L.length then V i else u) := by
  have hrow : ∀ i, i < L.length → w3.ownsRow base 2 1 (V i) (L.getD i []).length (ints (L.getD i [])) := fun i hi => ((h.row i hi).alloc o).kept hg (ne_row (fun x hx e => h.top i hi x e hx))
  have hur : w3.ownsRow base 2 1 u zs.length (ints zs) := owndown hB ((hu.alloc o).kept hg (ne_row (fun x hx e => by have h1 := hv x hx; have h2 := own_lo hu x e; omega)))
  have hmap : (List.range (L ++ [zs]).length).map (fun i => if i < L.length then V i else u) = (List.range L.length).map V ++ [u] := by
    rw [List.length_append, List.length_singleton, List.range_succ, List.map_append]
    congr 1
    · apply List.map_congr_left
      intro i hi
      rw [if_pos (List.mem_range.1 hi)]
    · simp
  have hget : ∀ i, i < L.length → (L ++ [zs]).getD i [] = L.getD i [] := fun i hi => by simp [List.getD, List.getElem?_append_left hi]
  have hrows : ∀ k, k < (L ++ [zs]).length → w3.ownsRow base 2 1 (if k < L.length then V k else u) ((L ++ [zs]).getD k []).length (ints ((L ++ [zs]).getD k [])) := by
    intro k hk
    by_cases hkl : k < L.length
    · rw [if_pos hkl, hget k hkl]; exact hrow k hkl
    · rw [if_neg hkl]
      have : k = L.length := by rw [List.length_append, List.length_singleton] at hk; omega
      subst this
      simpa using hur
  refine ⟨by rw [hmap, List.length_append, List.length_singleton]; exact ho, hrows, fun k hk => own_types (hrows k hk) ho (by decide), fun j k hjk hk g hgj hgk => ?_⟩
  have hj : j < L.length := by rw [List.length_append, List.length_singleton] at hk; omega
  simp only [if_pos hj] at hgj
  by_cases hkl : k < L.length
  · simp only [if_pos hkl] at hgk
    exact h.two j k hjk hkl g hgj hgk
  · simp only [if_neg hkl] at hgk
    have h1 := hV j hj g hgj
    have h2 := own_lo hu g hgk
    omega
theorem RowsOwn.nil (w : World) (base : Nat) (V : Nat → Value) : RowsOwn w base (.slice none 0 0) [] V :=
  ⟨World.ownsRow_nil _ _ _ _, fun k hk => absurd hk (Nat.not_lt_zero _), fun k hk => absurd hk (Nat.not_lt_zero _), fun j k _ hk => absurd hk (Nat.not_lt_zero _)⟩
end Go.Proofs.YtgkdonnkiljplaaDoor
