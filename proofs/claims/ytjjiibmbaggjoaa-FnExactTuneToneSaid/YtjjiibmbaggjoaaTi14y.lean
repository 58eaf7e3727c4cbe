/- The program's TuneTone. -/
import Derived.Test.YtjjiibmbaggjoaaTi
import Derived.Test.YtjjiibmbaggjoaaTu17c
import Derived.Test.YtjjiibmbaggjoaaTiR
import Derived.Laws.CopyRow
namespace Go.Proofs.Ytjjiibmbaggjoaa
open Go.ChangeShapes Go.WideShapes Go.ChangeAt Go.RowKit
set_option linter.unusedVariables false
set_option linter.unusedSimpArgs false
set_option maxRecDepth 100000
set_option maxRecDepth 10000

theorem box_setRow {w : World} {g b : Nat} {x y : Value} {t : TypeId} (hg : b ≠ g) (h : BoxAt w g x y t) (c : Array Value) : BoxAt (w.setRow b c) g x y t := by
  unfold BoxAt at h ⊢
  simp only [World.setRow, Array.getElem?_modify]
  rw [if_neg hg]; exact h
/-- copying pairs onto a whole row -/
theorem run_copy_row2 {P : Program} (w : World) (dT sT ty elem : TypeId) (g dLen dCap : Nat) (a : Addr) (sLen sCap : Nat) (cur : Array Value) (t : TypeId) (cs : List Value)
    (hu : P.underlying dT = some (.slice elem)) (hs : (P.info? elem).map (·.size) = some 2)
    (hg : w.heap[g]? = some (.cells cur t (0, 0))) (hn : cs.length = Nat.min sLen dLen * 2)
    (hsrc : ∀ j v, cs[j]? = some v → w.cell? (a.add j) = some v) (hfit : cs.length = cur.size) (h1 : ∀ v ∈ cs, v.oneCell' = true) :
    (Builtin.copy_ #[dT, sT] ty #[.slice (some ⟨g, 0, none⟩) dLen dCap, .slice (some a) sLen sCap]).run P w =
      .ok (goInt (Nat.min sLen dLen)) (w.setRow g cs.toArray) := by
  have hl := run_loadCells_list (P := P) w a cs hsrc
  have hst := run_storeCells_at P g 0 t cs 0 cur w hg (by omega) h1
  have e : cur.toList.drop cs.length = [] := by apply List.drop_eq_nil_of_le; simp; omega
  cases hq : P.info? elem with
  | none => simp [hq] at hs
  | some i =>
    have hi : i.size = 2 := by simpa [hq] using hs
    simp [Builtin.copy_, run_underlying hu, Builtin.lenOf, Builtin.firstCells, sizeOf, typeInfo, hq, hi, ← hn, hl, hst, e]
/-- .. as a step of a region that draws its order -/
theorem step_copy_row2 {P : Program} {ops : Array Oper} {o : Oper} {a : Act} {w : World} {K : Act → World → Prop} {Q : Exit → Act → World → Prop} {E : Prop} (hgd : o.guard = none) (d s : Operand) (dT sT : TypeId)
    (ho : o.op = .call { callee := .builtin .copy, args := #[d, s], argTypes := #[dT, sT] }) (elem : TypeId) (hu : P.underlying dT = some (.slice elem)) (hsz : (P.info? elem).map (·.size) = some 2)
    (g : Nat) (ad : Addr) (dLen dCap sLen sCap : Nat) (hd : a.eval d = .slice (some ⟨g, 0, none⟩) dLen dCap) (hs : a.eval s = .slice (some ad) sLen sCap)
    (cur : Array Value) (t : TypeId) (hg : w.heap[g]? = some (.cells cur t (0, 0))) (cs : List Value) (hn : cs.length = Nat.min sLen dLen * 2)
    (hsrc : ∀ j v, cs[j]? = some v → w.cell? (ad.add j) = some v) (hfit : cs.length = cur.size) (h1 : ∀ v ∈ cs, v.oneCell' = true)
    (h : K (a.put o.dst (goInt (Nat.min sLen dLen))) (w.setRow g cs.toArray)) :
    if Region.wanted o (yielded ops a.tmps) = true then Oper.wp P o a w K Q else E := by
  have hw : Region.wanted o (yielded ops a.tmps) = true := by simp [Region.wanted, hgd]
  rw [if_pos hw]
  have hrun := run_copy_row2 (P := P) w dT sT o.type elem g dLen dCap ad sLen sCap cur t cs hu hsz hg hn hsrc hfit h1
  unfold Oper.wp
  simp only [execOp, ho, resolve, invoke, builtin]
  simp [hd, hs, hrun, Result.andThen]
  exact h
set_option maxHeartbeats 4000000 in
theorem impl_tunetone (s : ByteArray) (v : Value) (l : List (Int × Int)) (t : Int) (r : Int × Int) (w : World) (h : PrsAt w v l) (hs : s.size ≤ maxLen) (hm : l.length ≤ 281474976710656) :
    Calls Try.prog 49 #[tun s v, .int .i64 t, .agg #[.int .i64 r.1, .int .i64 r.2]] w (TunOut2E (tuS s (tuneE s.data.toList l t r)) ((tuneE s.data.toList l t r).1.getD []) (.int .i64 (tuneE s.data.toList l t r).2) w) := by
  have hk := fun W hW => impl_validtuning s v l W hW hs hm
  have HI := Bx.mk h
  obtain ⟨A, c, rfl⟩ := prs_len h
  cases ht : tunB s.data.toList l
  · have HE : Bx (tuneE s.data.toList l t r = (none, 1)) := Bx.mk (by simp [tuneE, ht])
    rw [ht] at hk
    clear ht h hs hm
    try simp only [tun] at *
    go_enter Try.func49, Try.ntmps49
    go_wp2_with (fail)
    have K0 := Bx.mk (((BoxAt.at w w.heap.size (.string s) (.slice A l.length c) 59 rfl).alloc (.cells #[.int .i64 r.1, .int .i64 r.2] 63)).alloc (.cells #[.string ⟨#[]⟩, .slice none 0 0] 59))
    have K1 := Bx.mk ((BoxAt.at (w.alloc (.cells #[.string s, .slice A l.length c] 59)) (w.heap.size + 1) (.int .i64 r.1) (.int .i64 r.2) 63 (by simp)).alloc (.cells #[.string ⟨#[]⟩, .slice none 0 0] 59))
    have K2 := Bx.mk (BoxAt.at ((w.alloc (.cells #[.string s, .slice A l.length c] 59)).alloc (.cells #[.int .i64 r.1, .int .i64 r.2] 63)) (w.heap.size + 1 + 1) (.string ⟨#[]⟩) (.slice none 0 0) 59 (by simp))
    have B0 : Bx (Below w.heap.size w (((w.alloc (.cells #[.string s, .slice A l.length c] 59)).alloc (.cells #[.int .i64 r.1, .int .i64 r.2] 63)).alloc (.cells #[.string ⟨#[]⟩, .slice none 0 0] 59))) := Bx.mk ((((Below.refl _ _).alloc (Nat.le_refl _) _).alloc (by simp) _).alloc (by simp; omega) _)
    generalize (((w.alloc (.cells #[.string s, .slice A l.length c] 59)).alloc (.cells #[.int .i64 r.1, .int .i64 r.2] 63)).alloc (.cells #[.string ⟨#[]⟩, .slice none 0 0] 59)) = W0 at *
    refine (hk _ (HI.out.below B0.out)).mono ?_
    rintro e W ⟨rfl, hbw⟩
    have K0d := Bx.mk (K0.out.below hbw)
    have K1d := Bx.mk (K1.out.below hbw)
    have K2d := Bx.mk (K2.out.below hbw)
    have B0d := Bx.mk (B0.out.trans (hbw.mono B0.out.size))
    clear hbw
    clear K0 K1 K2 B0
    have k00 := K0d.out.c0
    have k01 := K0d.out.c1
    have k20 := K2d.out.c0
    have k21 := K2d.out.c1
    have k2f := K2d.out.f0 0
    have k2g := K2d.out.f0 1
    have k2l := K2d.out.lt
    go_wp2_with (fail)
    have P1 := (K2d.out.put0 (.string ⟨#[]⟩)).put1 (.slice none 0 0)
    refine bodyPost_ret (v := .tuple #[.agg #[.string ⟨#[]⟩, .slice none 0 0], _]) (by simp [results, Try.results49, go_sem, P1.c0, P1.c1]; try rfl) rfl ?_
    exact out_none _ _ _ _ _ _ HE.out rfl ((B0d.out.setCell (by show w.heap.size ≤ w.heap.size + 1 + 1; omega) _).setCell (by show w.heap.size ≤ w.heap.size + 1 + 1; omega) _)
  · by_cases h1 : t < 1
    · have HE : Bx (tuneE s.data.toList l t r = (none, 2)) := Bx.mk (by simp [tuneE, ht, inB]; omega)
      have d1 : decide (t < 1) = true := decide_eq_true h1
      rw [ht] at hk
      clear ht h hs hm h1
      try simp only [tun] at *
      go_enter Try.func49, Try.ntmps49
      go_wp2_with (fail)
      have K0 := Bx.mk (((BoxAt.at w w.heap.size (.string s) (.slice A l.length c) 59 rfl).alloc (.cells #[.int .i64 r.1, .int .i64 r.2] 63)).alloc (.cells #[.string ⟨#[]⟩, .slice none 0 0] 59))
      have K1 := Bx.mk ((BoxAt.at (w.alloc (.cells #[.string s, .slice A l.length c] 59)) (w.heap.size + 1) (.int .i64 r.1) (.int .i64 r.2) 63 (by simp)).alloc (.cells #[.string ⟨#[]⟩, .slice none 0 0] 59))
      have K2 := Bx.mk (BoxAt.at ((w.alloc (.cells #[.string s, .slice A l.length c] 59)).alloc (.cells #[.int .i64 r.1, .int .i64 r.2] 63)) (w.heap.size + 1 + 1) (.string ⟨#[]⟩) (.slice none 0 0) 59 (by simp))
      have B0 : Bx (Below w.heap.size w (((w.alloc (.cells #[.string s, .slice A l.length c] 59)).alloc (.cells #[.int .i64 r.1, .int .i64 r.2] 63)).alloc (.cells #[.string ⟨#[]⟩, .slice none 0 0] 59))) := Bx.mk ((((Below.refl _ _).alloc (Nat.le_refl _) _).alloc (by simp) _).alloc (by simp; omega) _)
      generalize (((w.alloc (.cells #[.string s, .slice A l.length c] 59)).alloc (.cells #[.int .i64 r.1, .int .i64 r.2] 63)).alloc (.cells #[.string ⟨#[]⟩, .slice none 0 0] 59)) = W0 at *
      refine (hk _ (HI.out.below B0.out)).mono ?_
      rintro e W ⟨rfl, hbw⟩
      have K0d := Bx.mk (K0.out.below hbw)
      have K1d := Bx.mk (K1.out.below hbw)
      have K2d := Bx.mk (K2.out.below hbw)
      have B0d := Bx.mk (B0.out.trans (hbw.mono B0.out.size))
      clear hbw
      clear K0 K1 K2 B0
      have k00 := K0d.out.c0
      have k01 := K0d.out.c1
      have k20 := K2d.out.c0
      have k21 := K2d.out.c1
      have k2f := K2d.out.f0 0
      have k2g := K2d.out.f0 1
      have k2l := K2d.out.lt
      go_wp2_with (fail)
      have P1 := (K2d.out.put0 (.string ⟨#[]⟩)).put1 (.slice none 0 0)
      refine bodyPost_ret (v := .tuple #[.agg #[.string ⟨#[]⟩, .slice none 0 0], _]) (by simp [results, Try.results49, go_sem, P1.c0, P1.c1]; try rfl) rfl ?_
      exact out_none _ _ _ _ _ _ HE.out rfl ((B0d.out.setCell (by show w.heap.size ≤ w.heap.size + 1 + 1; omega) _).setCell (by show w.heap.size ≤ w.heap.size + 1 + 1; omega) _)
    · have d1 : decide (t < 1) = false := decide_eq_false h1
      by_cases h2 : t ≥ 12
      · have HE : Bx (tuneE s.data.toList l t r = (none, 2)) := Bx.mk (by simp [tuneE, ht, inB]; omega)
        have d2 : decide (t ≥ 12) = true := decide_eq_true h2
        have d3 : decide (12 ≤ t) = true := decide_eq_true h2
        rw [ht] at hk
        clear ht h hs hm h1 h2
        try simp only [tun] at *
        go_enter Try.func49, Try.ntmps49
        go_wp2_with (fail)
        have K0 := Bx.mk (((BoxAt.at w w.heap.size (.string s) (.slice A l.length c) 59 rfl).alloc (.cells #[.int .i64 r.1, .int .i64 r.2] 63)).alloc (.cells #[.string ⟨#[]⟩, .slice none 0 0] 59))
        have K1 := Bx.mk ((BoxAt.at (w.alloc (.cells #[.string s, .slice A l.length c] 59)) (w.heap.size + 1) (.int .i64 r.1) (.int .i64 r.2) 63 (by simp)).alloc (.cells #[.string ⟨#[]⟩, .slice none 0 0] 59))
        have K2 := Bx.mk (BoxAt.at ((w.alloc (.cells #[.string s, .slice A l.length c] 59)).alloc (.cells #[.int .i64 r.1, .int .i64 r.2] 63)) (w.heap.size + 1 + 1) (.string ⟨#[]⟩) (.slice none 0 0) 59 (by simp))
        have B0 : Bx (Below w.heap.size w (((w.alloc (.cells #[.string s, .slice A l.length c] 59)).alloc (.cells #[.int .i64 r.1, .int .i64 r.2] 63)).alloc (.cells #[.string ⟨#[]⟩, .slice none 0 0] 59))) := Bx.mk ((((Below.refl _ _).alloc (Nat.le_refl _) _).alloc (by simp) _).alloc (by simp; omega) _)
        generalize (((w.alloc (.cells #[.string s, .slice A l.length c] 59)).alloc (.cells #[.int .i64 r.1, .int .i64 r.2] 63)).alloc (.cells #[.string ⟨#[]⟩, .slice none 0 0] 59)) = W0 at *
        refine (hk _ (HI.out.below B0.out)).mono ?_
        rintro e W ⟨rfl, hbw⟩
        have K0d := Bx.mk (K0.out.below hbw)
        have K1d := Bx.mk (K1.out.below hbw)
        have K2d := Bx.mk (K2.out.below hbw)
        have B0d := Bx.mk (B0.out.trans (hbw.mono B0.out.size))
        clear hbw
        clear K0 K1 K2 B0
        have k00 := K0d.out.c0
        have k01 := K0d.out.c1
        have k20 := K2d.out.c0
        have k21 := K2d.out.c1
        have k2f := K2d.out.f0 0
        have k2g := K2d.out.f0 1
        have k2l := K2d.out.lt
        go_wp2_with (fail)
        have P1 := (K2d.out.put0 (.string ⟨#[]⟩)).put1 (.slice none 0 0)
        refine bodyPost_ret (v := .tuple #[.agg #[.string ⟨#[]⟩, .slice none 0 0], _]) (by simp [results, Try.results49, go_sem, P1.c0, P1.c1]; try rfl) rfl ?_
        exact out_none _ _ _ _ _ _ HE.out rfl ((B0d.out.setCell (by show w.heap.size ≤ w.heap.size + 1 + 1; omega) _).setCell (by show w.heap.size ≤ w.heap.size + 1 + 1; omega) _)
      · obtain ⟨n, rfl⟩ : ∃ n : Nat, t = (n : Int) := ⟨t.toNat, by omega⟩
        have hl : l.length = 12 := (tun_yes ht).2.1
        have HE : Bx (tuneE s.data.toList l n r = if tunB s.data.toList (l.set n r) = true then (some (l.set n r), 0) else (none, 6)) := Bx.mk (by
          have hin : inB (n : Int) 1 11 = true := by simp [inB]; omega
          simp [tuneE, ht, hin])
        have hk2 := fun V W hW => impl_validtuning s V (l.set n r) W hW hs (by simp; omega)
        have d2 : decide ((n : Int) ≥ 12) = false := decide_eq_false h2
        have d3 : decide (12 ≤ (n : Int)) = false := decide_eq_false h2
        have HN : Bx (1 ≤ n ∧ n < 12) := Bx.mk (by omega)
        rw [ht] at hk
        have HK2 := Bx.mk hk2
        have HL := Bx.mk hl
        clear ht h hs hm h1 h2 hk2 hl
        try simp only [tun] at *
        go_enter Try.func49, Try.ntmps49
        go_wp2_with (fail)
        have K0 := Bx.mk (((BoxAt.at w w.heap.size (.string s) (.slice A l.length c) 59 rfl).alloc (.cells #[.int .i64 r.1, .int .i64 r.2] 63)).alloc (.cells #[.string ⟨#[]⟩, .slice none 0 0] 59))
        have K1 := Bx.mk ((BoxAt.at (w.alloc (.cells #[.string s, .slice A l.length c] 59)) (w.heap.size + 1) (.int .i64 r.1) (.int .i64 r.2) 63 (by simp)).alloc (.cells #[.string ⟨#[]⟩, .slice none 0 0] 59))
        have K2 := Bx.mk (BoxAt.at ((w.alloc (.cells #[.string s, .slice A l.length c] 59)).alloc (.cells #[.int .i64 r.1, .int .i64 r.2] 63)) (w.heap.size + 1 + 1) (.string ⟨#[]⟩) (.slice none 0 0) 59 (by simp))
        have B0 : Bx (Below w.heap.size w (((w.alloc (.cells #[.string s, .slice A l.length c] 59)).alloc (.cells #[.int .i64 r.1, .int .i64 r.2] 63)).alloc (.cells #[.string ⟨#[]⟩, .slice none 0 0] 59))) := Bx.mk ((((Below.refl _ _).alloc (Nat.le_refl _) _).alloc (by simp) _).alloc (by simp; omega) _)
        generalize (((w.alloc (.cells #[.string s, .slice A l.length c] 59)).alloc (.cells #[.int .i64 r.1, .int .i64 r.2] 63)).alloc (.cells #[.string ⟨#[]⟩, .slice none 0 0] 59)) = W0 at *
        refine (hk _ (HI.out.below B0.out)).mono ?_
        rintro e W ⟨rfl, hbw⟩
        have K0d := Bx.mk (K0.out.below hbw)
        have K1d := Bx.mk (K1.out.below hbw)
        have K2d := Bx.mk (K2.out.below hbw)
        have B0d := Bx.mk (B0.out.trans (hbw.mono B0.out.size))
        clear hbw
        clear K0 K1 K2 B0
        have k00 := K0d.out.c0
        have k01 := K0d.out.c1
        have k20 := K2d.out.c0
        have k21 := K2d.out.c1
        have k2f := K2d.out.f0 0
        have k2g := K2d.out.f0 1
        have k2l := K2d.out.lt
        go_upto_region 5 with (fail)
        refine wp_region_lit ?_
        refine wpR_val rfl (.pointer (some ⟨W.heap.size, 0, none⟩)) (w2 := W.alloc (.cells #[.int .i64 0, .int .i64 0, .int .i64 0, .int .i64 0, .int .i64 0, .int .i64 0, .int .i64 0, .int .i64 0, .int .i64 0, .int .i64 0, .int .i64 0, .int .i64 0, .int .i64 0, .int .i64 0, .int .i64 0, .int .i64 0, .int .i64 0, .int .i64 0, .int .i64 0, .int .i64 0, .int .i64 0, .int .i64 0, .int .i64 0, .int .i64 0] 113)) (by kernel_rfl) ?_
        refine wpList_nil ?_
        clear k00 k01 k20 k21 k2f k2g k2l
        rename_i KK hh
        have HA : Bx (ArrAt (W.alloc (.cells #[.int .i64 0, .int .i64 0, .int .i64 0, .int .i64 0, .int .i64 0, .int .i64 0, .int .i64 0, .int .i64 0, .int .i64 0, .int .i64 0, .int .i64 0, .int .i64 0, .int .i64 0, .int .i64 0, .int .i64 0, .int .i64 0, .int .i64 0, .int .i64 0, .int .i64 0, .int .i64 0, .int .i64 0, .int .i64 0, .int .i64 0, .int .i64 0] 113)) W.heap.size [.int .i64 0, .int .i64 0, .int .i64 0, .int .i64 0, .int .i64 0, .int .i64 0, .int .i64 0, .int .i64 0, .int .i64 0, .int .i64 0, .int .i64 0, .int .i64 0, .int .i64 0, .int .i64 0, .int .i64 0, .int .i64 0, .int .i64 0, .int .i64 0, .int .i64 0, .int .i64 0, .int .i64 0, .int .i64 0, .int .i64 0, .int .i64 0] 113) := Bx.mk (ArrAt.at _ _ _ _ rfl)
        have L0 := Bx.mk (K0d.out.alloc (.cells #[.int .i64 0, .int .i64 0, .int .i64 0, .int .i64 0, .int .i64 0, .int .i64 0, .int .i64 0, .int .i64 0, .int .i64 0, .int .i64 0, .int .i64 0, .int .i64 0, .int .i64 0, .int .i64 0, .int .i64 0, .int .i64 0, .int .i64 0, .int .i64 0, .int .i64 0, .int .i64 0, .int .i64 0, .int .i64 0, .int .i64 0, .int .i64 0] 113))
        have L1 := Bx.mk (K1d.out.alloc (.cells #[.int .i64 0, .int .i64 0, .int .i64 0, .int .i64 0, .int .i64 0, .int .i64 0, .int .i64 0, .int .i64 0, .int .i64 0, .int .i64 0, .int .i64 0, .int .i64 0, .int .i64 0, .int .i64 0, .int .i64 0, .int .i64 0, .int .i64 0, .int .i64 0, .int .i64 0, .int .i64 0, .int .i64 0, .int .i64 0, .int .i64 0, .int .i64 0] 113))
        have L2 := Bx.mk (K2d.out.alloc (.cells #[.int .i64 0, .int .i64 0, .int .i64 0, .int .i64 0, .int .i64 0, .int .i64 0, .int .i64 0, .int .i64 0, .int .i64 0, .int .i64 0, .int .i64 0, .int .i64 0, .int .i64 0, .int .i64 0, .int .i64 0, .int .i64 0, .int .i64 0, .int .i64 0, .int .i64 0, .int .i64 0, .int .i64 0, .int .i64 0, .int .i64 0, .int .i64 0] 113))
        have LB := Bx.mk (B0d.out.alloc B0d.out.size (.cells #[.int .i64 0, .int .i64 0, .int .i64 0, .int .i64 0, .int .i64 0, .int .i64 0, .int .i64 0, .int .i64 0, .int .i64 0, .int .i64 0, .int .i64 0, .int .i64 0, .int .i64 0, .int .i64 0, .int .i64 0, .int .i64 0, .int .i64 0, .int .i64 0, .int .i64 0, .int .i64 0, .int .i64 0, .int .i64 0, .int .i64 0, .int .i64 0] 113))
        have LI := Bx.mk (HI.out.below LB.out)
        have LG : Bx (w.heap.size + 1 + 1 < W.heap.size) := Bx.mk K2d.out.lt
        clear K0d K1d K2d B0d HI
        generalize (W.alloc (.cells #[.int .i64 0, .int .i64 0, .int .i64 0, .int .i64 0, .int .i64 0, .int .i64 0, .int .i64 0, .int .i64 0, .int .i64 0, .int .i64 0, .int .i64 0, .int .i64 0, .int .i64 0, .int .i64 0, .int .i64 0, .int .i64 0, .int .i64 0, .int .i64 0, .int .i64 0, .int .i64 0, .int .i64 0, .int .i64 0, .int .i64 0, .int .i64 0] 113)) = W2 at *
        generalize W.heap.size = g at *
        refine hh _ _ ?_
        clear hh
        obtain ⟨b, o, c', e', hb, hc⟩ := prs_slice LI.out (by rw [HL.out]; decide)
        injection e' with e1 e2 e3
        subst e1
        have HS := Bx.mk (pcl_cells hc)
        have HP := Bx.mk (And.intro (show (pcl l).length = 24 by rw [pcl_len, HL.out]) (show ∀ u ∈ pcl l, u.oneCell' = true from fun u hu => by
          simp only [pcl, List.mem_flatMap] at hu
          obtain ⟨p, _, h⟩ := hu
          simp at h
          rcases h with rfl | rfl <;> rfl))
        have hll := HL.out
        rw [hll]
        have f1 := L0.out.c1
        rw [hll] at f1
        clear hb hc e3 d1 d2 d3 hll
        go_wp2_with (fail)
        go_region_law
          ((refine step_copy_row2 (by rfl) _ _ _ _ (by rfl) 63 Try.underlying57 (by kernel_rfl) g ⟨b, o, none⟩ 12 12 12 c (by rfl) (by rfl) _ _ HA.out (pcl l) HP.out.1 HS.out HP.out.1 HP.out.2 ?_))
        have g1 : w.heap.size ≠ g := by have := LG.out; omega
        have g2 : w.heap.size + 1 ≠ g := by have := LG.out; omega
        have g3 : w.heap.size + 1 + 1 ≠ g := by have := LG.out; omega
        have M0 := Bx.mk (box_setRow (Ne.symm g1) (BoxAt.drew1 L0.out) (pcl l).toArray)
        have M1 := Bx.mk (box_setRow (Ne.symm g2) (BoxAt.drew1 L1.out) (pcl l).toArray)
        have M2 := Bx.mk (box_setRow (Ne.symm g3) (BoxAt.drew1 L2.out) (pcl l).toArray)
        have MB : Bx (Below w.heap.size w (W2.drew.setRow g (pcl l).toArray)) := Bx.mk (setRow_below LB.out.drew (by have := LG.out; omega) _)
        have MA : Bx (ArrAt (W2.drew.setRow g (pcl l).toArray) g (pcl l) 113) := Bx.mk (by have := setRow_at (w := W2.drew) HA.out (pcl l).toArray; simpa using this)
        have hll := HL.out
        have O1 := Bx.mk (MA.out.own (base := w.heap.size + 1 + 1 + 1) (n := 12) 2 LG.out (by rw [pcl_len, hll]) (by decide))
        rw [hll] at M0
        clear L0 L1 L2 LB HA HS HP LI f1 g1 g2
        generalize W2.drew.setRow g (pcl l).toArray = W5 at *
        obtain ⟨nn1, nn2⟩ := HN.out
        have n0 : (0 : Int) ≤ (n : Int) := by omega
        have n1 : (n : Int) < 12 := by omega
        have hgl := MA.out.lt
        have hs1 := O1.out.stored (n * 2) (.int .i64 r.1)
        have hs2 := hs1.1.stored (n * 2 + 1) (.int .i64 r.2)
        rw [pcl_set _ n r (by omega)] at hs2
        have O3 : Bx (((W5.setCell ⟨g, n * 2, none⟩ (.int .i64 r.1)).setCell ⟨g, n * 2 + 1, none⟩ (.int .i64 r.2)).ownsRow (w.heap.size + 1 + 1 + 1) 113 2 (.slice (some ⟨g, 0, none⟩) 12 12) 12 (pcl (l.set n r))) := Bx.mk hs2.1
        have K2s : Bx (BoxAt ((W5.setCell ⟨g, n * 2, none⟩ (.int .i64 r.1)).setCell ⟨g, n * 2 + 1, none⟩ (.int .i64 r.2)) (w.heap.size + 1 + 1) (.string ⟨#[]⟩) (.slice none 0 0) 59) := Bx.mk (BoxAt.other (Ne.symm g3) (BoxAt.other (Ne.symm g3) M2.out _) _)
        have B3 : Bx (Below w.heap.size w ((W5.setCell ⟨g, n * 2, none⟩ (.int .i64 r.1)).setCell ⟨g, n * 2 + 1, none⟩ (.int .i64 r.2))) := Bx.mk ((MB.out.setCell (by show w.heap.size ≤ g; have := LG.out; omega) _).setCell (by show w.heap.size ≤ g; have := LG.out; omega) _)
        have HN3 : Bx (w.heap.size + 1 + 1 < ((W5.setCell ⟨g, n * 2, none⟩ (.int .i64 r.1)).setCell ⟨g, n * 2 + 1, none⟩ (.int .i64 r.2)).heap.size) := Bx.mk (by have := LG.out; simp; omega)
        have lt0 : w.heap.size < ((W5.setCell ⟨g, n * 2, none⟩ (.int .i64 r.1)).setCell ⟨g, n * 2 + 1, none⟩ (.int .i64 r.2)).heap.size := by have := LG.out; simp; omega
        have ltg : g < ((W5.setCell ⟨g, n * 2, none⟩ (.int .i64 r.1)).setCell ⟨g, n * 2 + 1, none⟩ (.int .i64 r.2)).heap.size := by simpa using hgl
        have HPR : Bx (PrsAt ((W5.setCell ⟨g, n * 2, none⟩ (.int .i64 r.1)).setCell ⟨g, n * 2 + 1, none⟩ (.int .i64 r.2)) (.slice (some ⟨g, 0, none⟩) 12 12) (l.set n r)) := Bx.mk (prs_own (by rw [show (l.set n r).length = 12 by simp [hll]]; exact O3.out))
        have x0 := (O1.out.cellAt (n * 2) (by omega)).trans (pcl_at0 l n (by omega))
        have x1 := O1.out.frozenAt (n * 2)
        have y1 : (W5.setCell ⟨g, n * 2, none⟩ (.int .i64 r.1)).cell? ⟨g, n * 2 + 1, none⟩ = some (.int .i64 (pat l n).2) := by rw [hs1.1.cellAt (n * 2 + 1) (by omega), List.getElem?_set_ne (by omega)]; exact pcl_at1 l n (by omega)
        have y2 := hs1.1.frozenAt (n * 2 + 1)
        have b0 := M0.out.c0
        have b1 := M0.out.c1
        have r0 := M1.out.c0
        have r1 := M1.out.c1
        have u0 : ((W5.setCell ⟨g, n * 2, none⟩ (.int .i64 r.1)).setCell ⟨g, n * 2 + 1, none⟩ (.int .i64 r.2)).cell? ⟨w.heap.size, 0, none⟩ = some (.string s) := (BoxAt.other (by have := LG.out; omega) (BoxAt.other (by have := LG.out; omega) M0.out _) _).c0
        clear hs1 hs2 O1 M0 M1 M2 MA MB hll nn1 nn2 HN
        go_wp2_with (fail)
        clear x0 x1 y1 y2 b0 b1 r0 r1 hgl
        generalize ((W5.setCell ⟨g, n * 2, none⟩ (.int .i64 r.1)).setCell ⟨g, n * 2 + 1, none⟩ (.int .i64 r.2)) = W6 at *
        go_region
        go_wp2_with (fail)
        have BW : Bx (Below W6.heap.size W6 ((W6.alloc (.cells #[.string s, .slice (some ⟨g, 0, none⟩) 12 12] 59)).drew)) := Bx.mk (((Below.refl _ _).alloc (Nat.le_refl _) _).drew)
        have K3t : Bx (BoxAt ((W6.alloc (.cells #[.string s, .slice (some ⟨g, 0, none⟩) 12 12] 59)).drew) W6.heap.size (.string s) (.slice (some ⟨g, 0, none⟩) 12 12) 59) := Bx.mk (BoxAt.drew1 (BoxAt.at _ _ _ _ _ rfl))
        have K2t := Bx.mk (K2s.out.below BW.out)
        have O3t := Bx.mk (own_below O3.out BW.out)
        have B3t := Bx.mk (B3.out.trans (BW.out.mono B3.out.size))
        have HP2 := Bx.mk (HPR.out.below BW.out)
        have hnb0 : W6.heap.size ≠ w.heap.size + 1 + 1 := by have := HN3.out; omega
        clear K2s O3 B3 HPR BW u0 lt0 ltg
        generalize ((W6.alloc (.cells #[.string s, .slice (some ⟨g, 0, none⟩) 12 12] 59)).drew) = W8 at *
        generalize W6.heap.size = bx at *
        cases hbb : tunB s.data.toList (l.set n r)
        all_goals
          have HK3 := HK2.out _ _ HP2.out
          rw [hbb] at HK3
          have HE2 := HE.out
          rw [hbb] at HE2
          have HE3 := Bx.mk HE2
          clear HE2 HE hbb HK2 HP2
          refine HK3.mono ?_
          rintro e W9 ⟨rfl, hb9⟩
          have K3e := Bx.mk (K3t.out.below hb9)
          have K2e := Bx.mk (K2t.out.below hb9)
          have O3e := Bx.mk (own_below O3t.out hb9)
          have B3e := Bx.mk (B3t.out.trans (hb9.mono B3t.out.size))
          clear hb9 K3t K2t O3t B3t HK3
          have e0 := K3e.out.c0
          have e1 := K3e.out.c1
          have k20 := K2e.out.c0
          have k21 := K2e.out.c1
          have k2f := K2e.out.f0 0
          have k2g := K2e.out.f0 1
          have k2l := K2e.out.lt
          have hnb2 := Ne.symm hnb0
        · have HE : Bx (tuneE s.data.toList l n r = (none, 6)) := Bx.mk (by simpa using HE3.out)
          clear HE3
          go_wp2_with (fail)
          have P1 := (K2e.out.put0 (.string ⟨#[]⟩)).put1 (.slice none 0 0)
          refine bodyPost_ret (v := .tuple #[.agg #[.string ⟨#[]⟩, .slice none 0 0], _]) (by simp [results, Try.results49, go_sem, P1.c0, P1.c1]; try rfl) rfl ?_
          exact out_none _ _ _ _ _ _ HE.out rfl ((B3e.out.setCell (by show w.heap.size ≤ w.heap.size + 1 + 1; omega) _).setCell (by show w.heap.size ≤ w.heap.size + 1 + 1; omega) _)
        · have HE : Bx (tuneE s.data.toList l n r = (some (l.set n r), 0)) := Bx.mk (by simpa using HE3.out)
          clear HE3
          go_wp2_with (fail)
          have P1 := (K2e.out.put0 (.string s)).put1 (.slice (some ⟨g, 0, none⟩) 12 12)
          refine bodyPost_ret (v := .tuple #[.agg #[.string s, .slice (some ⟨g, 0, none⟩) 12 12], _]) (by simp [results, Try.results49, go_sem, P1.c0, P1.c1]; try rfl) rfl ?_
          exact out_some _ _ _ _ _ _ 113 _ HE.out (by rw [List.length_set]; exact HL.out) rfl (own_down (show w.heap.size ≤ w.heap.size + 1 + 1 + 1 by omega) (own_set (own_set O3e.out (Nat.lt_succ_self _) _ _) (Nat.lt_succ_self _) _ _)) ((B3e.out.setCell (by show w.heap.size ≤ w.heap.size + 1 + 1; omega) _).setCell (by show w.heap.size ≤ w.heap.size + 1 + 1; omega) _)
end Go.Proofs.Ytjjiibmbaggjoaa
