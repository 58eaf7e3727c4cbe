/- Ragas that a law marks: copies whose rows lie apart, and what marking leaves. -/
import Derived.Test.YtendfnimhmnioaaRg4
namespace Go.Proofs.Ytendfnimhmnioaa
open Go.ChangeShapes Go.WideShapes Go.ChangeAt Go.RowKit
set_option linter.unusedVariables false
set_option linter.unusedSimpArgs false
set_option maxRecDepth 100000

/-- all that was there stands, but for blocks from lo to hi -/
structure Turn (lo hi : Nat) (w w' : World) : Prop where
  os : w'.os = w.os
  tape : w'.tape = w.tape
  output : w'.output = w.output
  size : w.heap.size ≤ w'.heap.size
  block : ∀ b, b < w.heap.size → b < lo ∨ hi ≤ b → w'.heap[b]? = w.heap[b]?
theorem Turn.refl (lo hi : Nat) (w : World) : Turn lo hi w w := ⟨rfl, rfl, rfl, Nat.le_refl _, fun _ _ _ => rfl⟩
theorem Turn.trans {lo hi : Nat} {a b c : World} (h : Turn lo hi a b) (h' : Turn lo hi b c) : Turn lo hi a c :=
  ⟨h'.os.trans h.os, h'.tape.trans h.tape, h'.output.trans h.output, Nat.le_trans h.size h'.size, fun x hx hy => (h'.block x (Nat.lt_of_lt_of_le hx h.size) hy).trans (h.block x hx hy)⟩
theorem Turn.grown {lo hi : Nat} {w w' : World} {row : Option Nat} (h : w.grownBy w' row) (hr : ∀ k, row = some k → lo ≤ k ∧ k < hi) : Turn lo hi w w' :=
  ⟨h.os, h.tape, h.output, h.size, fun b hb hy => h.block b hb (fun e => by have := hr b e.symm; omega)⟩
theorem Turn.below {lo hi : Nat} {w w' : World} (h : Below w.heap.size w w') : Turn lo hi w w' := ⟨h.os, h.tape, h.output, h.size, fun b hb _ => h.block b hb⟩
theorem Turn.keeps {lo hi B : Nat} {a w w' : World} (h : Turn lo hi w w') (hb : Below B a w) (h1 : B ≤ lo) (h2 : B ≤ w.heap.size) : Below B a w' :=
  hb.trans ⟨h.os, h.tape, h.output, h.size, fun b hb => h.block b (by omega) (by omega)⟩
theorem BoxN.turn {lo hi g : Nat} {w w' : World} {xs : Array Value} {t : TypeId} (h : BoxN w g xs t) (ht : Turn lo hi w w') (hg : g < lo ∨ hi ≤ g) : BoxN w' g xs t := by
  have := ht.block g h.lt hg
  unfold BoxN at h ⊢
  rw [this, h]
theorem own_turn {lo hi base e size n : Nat} {w w' : World} {v : Value} {xs : List Value} (h : w.ownsRow base e size v n xs) (ht : Turn lo hi w w') (hg : ∀ g, v.ownBlock = some g → g < lo ∨ hi ≤ g) : w'.ownsRow base e size v n xs := by
  refine ⟨h.1, ?_⟩
  rcases h.2 with h2 | ⟨g, cap, cur, hv, hbg, hc, r⟩
  · exact .inl h2
  · have hlt : g < w.heap.size := (Array.getElem?_eq_some_iff.1 hc).1
    exact .inr ⟨g, cap, cur, hv, hbg, by rw [ht.block g hlt (hg g (by rw [hv]; rfl))]; exact hc, r⟩
theorem mark_intsB {te : TypeId} (v : Value) (zs : List Int) (base : Nat) (k : Int) (w : World) (h : w.ownsRow base te 1 v zs.length (ints zs)) (hn : zs.length ≤ 281474976710656) (hk : 0 ≤ k) (hk2 : k ≤ 2305843009213693952) :
    Calls Try.prog 20 #[v, .int .i64 k] w fun e w' => e = .returned (.int .i64 (k + zs.length)) ∧ w'.ownsRow base te 1 v zs.length (ints (marks zs.length k)) ∧ w.grownBy w' v.ownBlock := by
  rcases Nat.eq_zero_or_pos zs.length with h0 | h0
  · obtain rfl := List.eq_nil_of_length_eq_zero h0
    obtain ⟨A, c, rfl⟩ : ∃ A c, v = .slice A 0 c := by
      rcases h.2 with ⟨hv, _⟩ | ⟨g, cap, cur, hv, _⟩
      · exact ⟨none, 0, hv⟩
      · exact ⟨_, cap, hv⟩
    have HO := Bx.mk h
    clear h
    go_enter Try.func20, Try.ntmps20
    go_wp2
    refine wp_loop_rounds 1 ?_
    rw [rounds_succ]
    go_wp2
    go_ret
    exact ⟨ret_int (by simp), by simpa [marks] using HO.out, World.grownBy.refl w _⟩
  · obtain ⟨g, cap, rfl, hbg, hlt⟩ := h.form h0
    have HO := Bx.mk h
    clear h
    go_enter Try.func20, Try.ntmps20
    go_wp2
    go_loopw [1, 5] (fun q i wr => ∃ j : Nat, j ≤ zs.length ∧ i = .int .i64 j ∧ q = .int .i64 (k + j) ∧ Bx (wr.ownsRow base te 1 (.slice (some ⟨g, 0, none⟩) zs.length cap) zs.length (ints (mixed zs k j)) ∧ w.grownBy wr (some g))) (fun _ i _ => zs.length - (intOf i).toNat)
    case atStart => exact ⟨0, Nat.zero_le _, rfl, by go_num, Bx.mk ⟨by rw [mixed_zero]; exact HO.out, World.grownBy.refl w _⟩⟩
    case round =>
      obtain ⟨j, hj, rfl, rfl, HB⟩ := hrel
      by_cases hlt : j < zs.length
      · have hc : ∃ u, wr.cell? ⟨g, j, none⟩ = some u := by
          rw [HB.out.1.cellAt j (by omega)]
          have : j < (ints (mixed zs k j)).length := by rw [ints_len, mixed_len _ _ _ hj]; exact hlt
          exact ⟨_, List.getElem?_eq_getElem this⟩
        obtain ⟨u, hc⟩ := hc
        have hf := HB.out.1.frozenAt j
        have HS : Bx ((wr.setCell ⟨g, j, none⟩ (.int .i64 (k + j))).ownsRow base te 1 (.slice (some ⟨g, 0, none⟩) zs.length cap) zs.length (ints (mixed zs k (j + 1))) ∧ w.grownBy (wr.setCell ⟨g, j, none⟩ (.int .i64 (k + j))) (some g)) := Bx.mk (by
          have hs := HB.out.1.stored j (.int .i64 (k + j))
          rw [mixed_step zs k j hlt] at hs
          exact ⟨hs.1, HB.out.2.trans hs.2⟩)
        clear HB
        go_wp2
        go_roundw
        case rel => exact ⟨j + 1, by omega, by go_num, by go_num, HS⟩
        case measure => simp [intOf]; omega
      · obtain rfl : j = zs.length := by omega
        have HE := HB.out
        rw [mixed_all] at HE
        have HE := Bx.mk HE
        go_wp2
        go_ret
        exact ⟨ret_int (by simp), HE.out.1, HE.out.2⟩

theorem ne_row {v : Value} {row : Option Nat} (h : ∀ g, row = some g → v.ownBlock ≠ some g) : v.ownBlock = none ∨ v.ownBlock ≠ row := by
  cases hr : row with
  | none =>
    cases hv : v.ownBlock with
    | none => exact .inl rfl
    | some g => exact .inr (by simp)
  | some g => exact .inr (h g hr)
theorem rows_kept {w w' : World} {Q : Nat} {v : Value} {L : List (List Int)} {V : Nat → Value} {row : Option Nat} (h : RowsOwn w Q v L V) (hg : w.grownBy w' row) (hr : ∀ g, row = some g → g < Q) : RowsOwn w' Q v L V :=
  ⟨h.out.kept hg (ne_row (fun x hx e => by have := own_lo h.out x e; have := hr x hx; omega)), fun k hk => (h.row k hk).kept hg (ne_row (fun x hx e => by have := own_lo (h.row k hk) x e; have := hr x hx; omega)), h.top, h.two⟩
theorem BoxN.grownR {g : Nat} {w w' : World} {xs : Array Value} {t : TypeId} {row : Option Nat} (h : BoxN w g xs t) (hg : w.grownBy w' row) (hn : ¬ some g = row) : BoxN w' g xs t := by
  have := hg.block g h.lt hn
  unfold BoxN at h ⊢
  rw [this, h]
theorem Turn.weaken {lo lo' hi : Nat} {w w' : World} (h : Turn lo' hi w w') (hl : lo ≤ lo') : Turn lo hi w w' :=
  ⟨h.os, h.tape, h.output, h.size, fun b hb hy => h.block b hb (by omega)⟩
end Go.Proofs.Ytendfnimhmnioaa
