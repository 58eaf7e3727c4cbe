/- Ragas that a law marks: copies whose rows lie apart, and what marking leaves. -/
import Derived.Test.YtgkdonnkiljplaaDoorRg4
namespace Go.Proofs.YtgkdonnkiljplaaDoor
open Go.ChangeShapes Go.WideShapes Go.ChangeAt Go.RowKit
set_option linter.unusedVariables false
set_option linter.unusedSimpArgs false
set_option maxRecDepth 100000

/-- all that was there stands, but for blocks from lo to hi -/
structure Turn (lo hi : Nat) (w w' : World) : Prop where
  os : w'.os = w.os
  tape : w'.tape = w.tape
  output : w'.output = w.output
  size : w.heap.size ≤ w'.heap.size
  block : ∀ b, b < w.heap.size → b < lo ∨ hi ≤ b → w'.heap[b]? = w.heap[b]?
theorem Turn.refl (lo hi : Nat) (w : World) : Turn lo hi w w := ⟨rfl, rfl, rfl, Nat.le_refl _, fun _ _ _ => rfl⟩
theorem Turn.trans {lo hi : Nat} {a b c : World} (h : Turn lo hi a b) (h' : Turn lo hi b c) : Turn lo hi a c :=
  ⟨h'.os.trans h.os, h'.tape.trans h.tape, h'.output.trans h.output, Nat.le_trans h.size h'.size, fun x hx hy => (h'.block x (Nat.lt_of_lt_of_le hx h.size) hy).trans (h.block x hx hy)⟩
theorem Turn.grown {lo hi : Nat} {w w' : World} {row : Option Nat} (h : w.grownBy w' row) (hr : ∀ k, row = some k → lo ≤ k ∧ k < hi) : Turn lo hi w w' :=
  ⟨h.os, h.tape, h.output, h.size, fun b hb hy => h.block b hb (fun e => by have := hr b e.symm; omega)⟩
theorem Turn.below {lo hi : Nat} {w w' : World} (h : Below w.heap.size w w') : Turn lo hi w w' := ⟨h.os, h.tape, h.output, h.size, fun b hb _ => h.block b hb⟩
theorem Turn.keeps {lo hi B : Nat} {a w w' : World} (h : Turn lo hi w w') (hb : Below B a w) (h1 : B ≤ lo) (h2 : B ≤ w.heap.size) : Below B a w' :=
  hb.trans ⟨h.os, h.tape, h.output, h.size, fun b hb => h.block b (by omega) (by omega)⟩
theorem BoxN.turn {lo hi g : Nat} {w w' : World} {xs : Array Value} {t : TypeId} (h : BoxN w g xs t) (ht : Turn lo hi w w') (hg : g < lo ∨ hi ≤ g) : BoxN w' g xs t := by
  have := ht.block g h.lt hg
  unfold BoxN at h ⊢
  rw [this, h]
theorem own_turn {lo hi base e size n : Nat} {w w' : World} {v : Value} {xs : List Value} (h : w.ownsRow base e size v n xs) (ht : Turn lo hi w w') (hg : ∀ g, v.ownBlock = some g → g < lo ∨ hi ≤ g) : w'.ownsRow base e size v n xs := by
  refine ⟨h.1, ?_⟩
  rcases h.2 with h2 | ⟨g, cap, cur, hv, hbg, hc, r⟩
  · exact .inl h2
  · have hlt : g < w.heap.size := (Array.getElem?_eq_some_iff.1 hc).1
    exact .inr ⟨g, cap, cur, hv, hbg, by rw [ht.block g hlt (hg g (by rw [hv]; rfl))]; exact hc, r⟩
theorem mark_intsB {te : TypeId} (v : Value) (zs : List Int) (base : Nat) (k : Int) (w : World) (h : w.ownsRow base te 1 v zs.length (ints zs)) (hn : zs.length ≤ 281474976710656) (hk : 0 ≤ k) (hk2 : k ≤ 2305843009213693952) :
    Calls Tryd.prog 13 #[v, .int .i64 k] w fun e w' => e = .returned (.int .i64 (k + zs.length)) ∧ w'.ownsRow base te 1 v zs.length (ints (marks zs.length k)) ∧ w.grownBy w' v.ownBlock := by
  rcases Nat.eq_zero_or_pos zs.length with h0 | h0
  · obtain rfl := List.eq_nil_of_length_eq_zero h0
    obtain ⟨A, c, rfl⟩ : ∃ A c, v = .slice A 0 c := by
      rcases h.2 with ⟨hv, _⟩ | ⟨g, cap, cur, hv, _⟩
      · exact ⟨none, 0, hv⟩
      · exact ⟨_, cap, hv⟩
    have HO := Bx.mk h
    clear h
    go_enter Tryd.func13, Tryd.ntmps13
    go_wp2
    refine wp_loop_rounds 1 ?_
    rw [rounds_succ]
    go_wp2
    go_ret
    exact ⟨ret_int (by simp), by simpa [marks] using HO.out, World.grownBy.refl w _⟩
  · obtain ⟨g, cap, rfl, hbg, hlt⟩ := h.form h0
    have HO := Bx.mk h
    clear h
    go_enter Tryd.func13, Tryd.ntmps13
    go_wp2
    go_loopw [1, 5] (fun q i wr => ∃ j : Nat, j ≤ zs.length ∧ i = .int .i64 j ∧ q = .int .i64 (k + j) ∧ Bx (wr.ownsRow base te 1 (.slice (some ⟨g, 0, none⟩) zs.length cap) zs.length (ints (mixed zs k j)) ∧ w.grownBy wr (some g))) (fun _ i _ => zs.length - (intOf i).toNat)
    case atStart => exact ⟨0, Nat.zero_le _, rfl, by go_num, Bx.mk ⟨by rw [mixed_zero]; exact HO.out, World.grownBy.refl w _⟩⟩
    case round =>
      obtain ⟨j, hj, rfl, rfl, HB⟩ := hrel
      by_cases hlt : j < zs.length
      · have hc : ∃ u, wr.cell? ⟨g, j, none⟩ = some u := by
          rw [HB.out.1.cellAt j (by omega)]
          have : j < (ints (mixed zs k j)).length := by rw [ints_len, mixed_len _ _ _ hj]; exact hlt
          exact ⟨_, List.getElem?_eq_getElem this⟩
        obtain ⟨u, hc⟩ := hc
        have hf := HB.out.1.frozenAt j
        have HS : Bx ((wr.setCell ⟨g, j, none⟩ (.int .i64 (k + j))).ownsRow base te 1 (.slice (some ⟨g, 0, none⟩) zs.length cap) zs.length (ints (mixed zs k (j + 1))) ∧ w.grownBy (wr.setCell ⟨g, j, none⟩ (.int .i64 (k + j))) (some g)) := Bx.mk (by
          have hs := HB.out.1.stored j (.int .i64 (k + j))
          rw [mixed_step zs k j hlt] at hs
          exact ⟨hs.1, HB.out.2.trans hs.2⟩)
        clear HB
        go_wp2
        go_roundw
        case rel => exact ⟨j + 1, by omega, by go_num, by go_num, HS⟩
        case measure => simp [intOf]; omega
      · obtain rfl : j = zs.length := by omega
        have HE := HB.out
        rw [mixed_all] at HE
        have HE := Bx.mk HE
        go_wp2
        go_ret
        exact ⟨ret_int (by simp), HE.out.1, HE.out.2⟩

theorem ne_row {v : Value} {row : Option Nat} (h : ∀ g, row = some g → v.ownBlock ≠ some g) : v.ownBlock = none ∨ v.ownBlock ≠ row := by
  cases hr : row with
  | none =>
    cases hv : v.ownBlock with
    | none => exact .inl rfl
    | some g => exact .inr (by simp)
  | some g => exact .inr (h g hr)
set_option maxHeartbeats 1000000 in
theorem mark_rows (v : Value) (L : List (List Int)) (V : Nat → Value) (lo hi : Nat) (k : Int) (w : World) (h : RowsOwn w lo v L V) (hU : ∀ i, i < L.length → ∀ g, (V i).ownBlock = some g → g < hi) (hn : L.length ≤ 1048576)
    (hg : ∀ i, i < L.length → (L.getD i []).length ≤ 1048576) (hk : 0 ≤ k ∧ k ≤ 4194304) :
    Calls Tryd.prog 7 #[v, .int .i64 k] w fun e w' => ∃ z : Int, e = .returned (.int .i64 z) ∧ 0 ≤ z ∧ Turn lo hi w w' := by
  obtain ⟨A, c, rfl⟩ := own_len h.out
  have HO := Bx.mk h
  have HU := Bx.mk hU
  have HG := Bx.mk hg
  clear h hU hg
  go_enter Tryd.func7, Tryd.ntmps7
  go_wp2_with (fail)
  go_loopw [1, 5] (fun q i wr => ∃ (j : Nat) (z : Int), j ≤ L.length ∧ i = .int .i64 j ∧ q = .int .i64 z ∧ (0 ≤ z ∧ z ≤ 4194304 + (j : Int) * 1048576) ∧ Bx (wr.ownsRow lo 31 1 (.slice A L.length c) L.length ((List.range L.length).map V)) ∧ Bx (∀ i, j ≤ i → i < L.length → wr.ownsRow lo 2 1 (V i) (L.getD i []).length (ints (L.getD i []))) ∧ Bx (Turn lo hi w wr)) (fun _ i _ => L.length - (intOf i).toNat)
  case atStart => exact ⟨0, _, Nat.zero_le _, rfl, rfl, by omega, Bx.mk HO.out.out, Bx.mk (fun i _ hi => HO.out.row i hi), Bx.mk (Turn.refl _ _ _)⟩
  case round =>
    obtain ⟨j, z, hj, rfl, rfl, hz, HX, HR, HT⟩ := hrel
    by_cases hlt : j < L.length
    · obtain ⟨g, cap, hv, _, _⟩ := HX.out.form (by omega)
      injection hv with hA _ hC
      subst hA hC
      have c1 : wr.cell? ⟨g, j, none⟩ = some (V j) := by rw [HX.out.cellAt j (by omega)]; simp [hlt]
      have ho := HR.out j (Nat.le_refl _) hlt
      obtain ⟨Aj, cj, hVj⟩ := own_len ho
      rw [hVj] at c1
      have hq := mark_intsB (V j) (L.getD j []) lo z wr ho (Nat.le_trans (HG.out j hlt) (by decide)) hz.1 (by omega)
      rw [hVj] at hq
      have HLj := Bx.mk (HG.out j hlt)
      have HN : Bx (∀ W, wr.grownBy W (Value.slice Aj (L.getD j []).length cj).ownBlock → W.ownsRow lo 31 1 (.slice (some ⟨g, 0, none⟩) L.length c) L.length ((List.range L.length).map V) ∧ (∀ i, j + 1 ≤ i → i < L.length → W.ownsRow lo 2 1 (V i) (L.getD i []).length (ints (L.getD i []))) ∧ Turn lo hi w W) := Bx.mk (fun W hgW => by
        rw [← hVj] at hgW
        refine ⟨HX.out.kept hgW (ne_row (fun x hx => HO.out.top j hlt x hx)), fun i hi1 hi2 => (HR.out i (by omega) hi2).kept hgW (ne_row (fun x hx => HO.out.two j i (by omega) hi2 x hx)), HT.out.trans (Turn.grown hgW (fun x hx => ⟨own_lo ho x hx, HU.out j hlt x hx⟩))⟩)
      clear ho HX HR HT hVj
      generalize (L.getD j []).length = n at *
      have k1 : (0 : Int) ≤ (j : Int) := by omega
      have k2 : (j : Int) < (L.length : Int) := by omega
      have hz2 : 0 ≤ z + (n : Int) ∧ z + (n : Int) ≤ 4194304 + ((j + 1 : Nat) : Int) * 1048576 := by have := HLj.out; push_cast; omega
      go_wp2_with (fail)
      refine hq.mono ?_
      rintro r w1 ⟨rfl, _, hgr⟩
      obtain ⟨n1, n2, n3⟩ := HN.out w1 hgr
      have N1 := Bx.mk n1
      have N2 := Bx.mk n2
      have N3 := Bx.mk n3
      clear n1 n2 n3 hgr HN
      go_wp2_with (fail)
      go_roundw
      case rel => exact ⟨j + 1, z + (n : Int), by omega, by go_num, rfl, hz2, N1, N2, N3⟩
      case measure => simp [intOf]; omega
    · obtain rfl : j = L.length := by omega
      go_wp2_with (fail)
      go_ret
      exact ⟨z, rfl, hz.1, HT.out⟩
theorem rows_kept {w w' : World} {Q : Nat} {v : Value} {L : List (List Int)} {V : Nat → Value} {row : Option Nat} (h : RowsOwn w Q v L V) (hg : w.grownBy w' row) (hr : ∀ g, row = some g → g < Q) : RowsOwn w' Q v L V :=
  ⟨h.out.kept hg (ne_row (fun x hx e => by have := own_lo h.out x e; have := hr x hx; omega)), fun k hk => (h.row k hk).kept hg (ne_row (fun x hx e => by have := own_lo (h.row k hk) x e; have := hr x hx; omega)), h.top, h.two⟩
theorem BoxN.grownR {g : Nat} {w w' : World} {xs : Array Value} {t : TypeId} {row : Option Nat} (h : BoxN w g xs t) (hg : w.grownBy w' row) (hn : ¬ some g = row) : BoxN w' g xs t := by
  have := hg.block g h.lt hn
  unfold BoxN at h ⊢
  rw [this, h]
theorem Turn.weaken {lo lo' hi : Nat} {w w' : World} (h : Turn lo' hi w w') (hl : lo ≤ lo') : Turn lo hi w w' :=
  ⟨h.os, h.tape, h.output, h.size, fun b hb hy => h.block b hb (by omega)⟩
end Go.Proofs.YtgkdonnkiljplaaDoor
