/- The program's ValidRaga. -/
import Derived.Test.YtobhmoohalkijaaRi2
import Derived.Test.YtobhmoohalkijaaRs2
namespace Go.Proofs.Ytobhmoohalkijaa
open Go.ChangeShapes Go.WideShapes Go.ChangeAt Go.RowKit
set_option linter.unusedVariables false
set_option linter.unusedSimpArgs false
set_option maxRecDepth 100000

theorem has_mem (zs : List Int) (t : Int) : hasB zs t = decide (t ∈ zs) := by
  rw [Bool.eq_iff_iff, decide_eq_true_eq]
  constructor
  · intro h
    unfold hasB at h
    have h0 : 0 ≤ idxZ zs t := by simpa using h
    apply Classical.byContradiction
    intro hn
    have : ∀ i, i < zs.length → zs.getD i 0 ≠ t := fun i hi he => hn (by rw [← he]; simp [List.getD, List.getElem?_eq_getElem hi])
    rw [idx_miss this] at h0
    omega
  · intro h
    apply Classical.byContradiction
    intro hn
    have hf : hasB zs t = false := by simpa using hn
    unfold hasB at hf
    have h0 : ¬ 0 ≤ idxZ zs t := by simpa using hf
    obtain ⟨i, hi, he⟩ := List.mem_iff_getElem.1 h
    have hall : ¬ ∀ i, i < zs.length → zs.getD i 0 ≠ t := fun hh => hh i hi (by simp [List.getD, List.getElem?_eq_getElem hi, he])
    rcases idx_cases zs t with h1 | ⟨k, h1, _⟩
    · exact hall h1.2
    · omega
theorem hasT_mem (R : Rg) (t : Int) : hasT R t = decide (t ∈ R.u ++ R.d) := by
  unfold hasT
  rw [has_mem, has_mem]
  simp [List.mem_append]
theorem take_mem (L : List Int) (k : Nat) (h : k < L.length) (y : Int) : decide (y ∈ L.take (k + 1)) = if y = L.getD k 0 then true else decide (y ∈ L.take k) := by
  rw [List.take_succ_eq_append_getElem h]
  simp only [List.mem_append, List.mem_singleton, List.getD, List.getElem?_eq_getElem h, Option.getD_some]
  by_cases hy : y = L[k] <;> simp [hy]
theorem BoxN.grown {w w' : World} {g : Nat} {xs : Array Value} {t : TypeId} {row : Option Nat} (h : BoxN w g xs t) (hg : w.grownBy w' row) (hne : some g ≠ row) : BoxN w' g xs t := by
  have := hg.block g h.lt hne
  unfold BoxN at h ⊢
  rw [this, h]
set_option maxHeartbeats 4000000 in
theorem impl_validraga (v : Value) (R : Rg) (w : World) (h : RgAt w v R) (hm : Sm R) :
    Calls Try.prog 84 #[v] w fun e w' => e = .returned (.bool (okG R)) ∧ Below w.heap.size w w' := by
  obtain ⟨A, a, B, b, C, c, rfl, i1, i2, i3⟩ := rg_form h
  have HI := Bx.mk (And.intro i1 (And.intro i2 i3))
  have hb : Below w.heap.size w (w.alloc (.cells #[.string R.s, .slice A R.u.length a, .slice B R.d.length b, .int .i64 R.x, .int .i64 R.y, .slice C R.f.length c] 32)) := (Below.refl _ _).alloc (Nat.le_refl _) _
  have HX := BoxN.at w w.heap.size #[.string R.s, .slice A R.u.length a, .slice B R.d.length b, .int .i64 R.x, .int .i64 R.y, .slice C R.f.length c] 32 rfl
  have HO : Bx (okG R = (nmB R.s.data.toList && (scaleB R.u && (scaleB R.d && (hasT R R.x && (hasT R R.y && (decide (R.x ≠ R.y) && pairsB R.f))))))) := Bx.mk rfl
  have HM := Bx.mk hm
  have hw1 := hb.size
  generalize hW : w.alloc (.cells #[.string R.s, .slice A R.u.length a, .slice B R.d.length b, .int .i64 R.x, .int .i64 R.y, .slice C R.f.length c] 32) = W at hb HX hw1
  have q0 := impl_name R.s W (Nat.le_trans hm.s (by decide))
  have q1 := impl_scale _ R.u W (HI.out.1.below hb) (Nat.le_trans hm.u (by decide))
  have q2 := fun m => impl_scale _ R.d (W.drewN m) (HI.out.2.1.below (below_draws hb m)) (Nat.le_trans hm.d (by decide))
  have q5 := fun m => impl_forb _ R.f (W.drewN m) (HI.out.2.2.below (below_draws hb m)) hm.f hm.g
  have h0 := HX.c (k := 0) rfl
  have h1 := HX.c (k := 1) rfl
  have h2 := HX.c (k := 2) rfl
  have h3 := HX.c (k := 3) rfl
  have h4 := HX.c (k := 4) rfl
  have h5 := HX.c (k := 5) rfl
  have hl := HX.lt
  have HB := Bx.mk hb
  have HXB := Bx.mk HX
  clear h hb HX hm i1 i2 i3
  cases e0 : nmB R.s.data.toList
  · rw [e0] at q0
    have HE : Bx (okG R = false) := Bx.mk (by rw [HO.out, e0]; rfl)
    clear e0 HO
    go_enter Try.func84, Try.ntmps84
    go_wp2_with (fail)
    refine q0.mono ?_
    rintro r w1 ⟨rfl, rfl⟩
    go_wp2_with (fail)
    go_ret
    exact ⟨ret_bool HE.out.symm, HB.out⟩
  · rw [e0] at q0
    cases e1 : scaleB R.u
    · rw [e1] at q1
      have HE : Bx (okG R = false) := Bx.mk (by rw [HO.out, e0, e1]; rfl)
      clear e0 e1 HO
      go_enter Try.func84, Try.ntmps84
      go_wp2_with (fail)
      refine q0.mono ?_
      rintro r w1 ⟨rfl, rfl⟩
      go_wp2_with (fail)
      refine q1.mono ?_
      rintro r w1 ⟨rfl, n1, rfl⟩
      go_wp2_with (fail)
      go_ret
      exact ⟨ret_bool HE.out.symm, below_draws HB.out _⟩
    · rw [e1] at q1
      cases e2 : scaleB R.d
      · rw [e2] at q2
        have HE : Bx (okG R = false) := Bx.mk (by rw [HO.out, e0, e1, e2]; rfl)
        clear e0 e1 e2 HO
        go_enter Try.func84, Try.ntmps84
        go_wp2_with (fail)
        refine q0.mono ?_
        rintro r w1 ⟨rfl, rfl⟩
        go_wp2_with (fail)
        refine q1.mono ?_
        rintro r w1 ⟨rfl, n1, rfl⟩
        go_wp2_with (fail)
        refine (q2 _).mono ?_
        rintro r w1 ⟨rfl, n2, rfl⟩
        go_wp2_with (fail)
        go_ret
        exact ⟨ret_bool HE.out.symm, below_draws HB.out _⟩
      · rw [e2] at q2
        cases e5 : pairsB R.f
        · rw [e5] at q5
          have HE : Bx (okG R = false) := Bx.mk (by rw [HO.out, e5]; simp)
          clear e0 e1 e2 e5 HO
          go_enter Try.func84, Try.ntmps84
          go_wp2_with (fail)
          refine q0.mono ?_
          rintro r w1 ⟨rfl, rfl⟩
          go_wp2_with (fail)
          refine q1.mono ?_
          rintro r w1 ⟨rfl, n1, rfl⟩
          go_wp2_with (fail)
          refine (q2 _).mono ?_
          rintro r w1 ⟨rfl, n2, rfl⟩
          go_wp2_with (fail)
          refine (q5 _).mono ?_
          rintro r w1 ⟨rfl, n3, rfl⟩
          go_wp2_with (fail)
          go_ret
          exact ⟨ret_bool HE.out.symm, below_draws HB.out _⟩
        · rw [e5] at q5
          have HE : Bx (okG R = (decide (R.x ∈ R.u ++ R.d) && (decide (R.y ∈ R.u ++ R.d) && decide (R.x ≠ R.y)))) := Bx.mk (by rw [HO.out, e0, e1, e2, e5, hasT_mem, hasT_mem]; simp)
          have HU := Bx.mk (scale_yes e1)
          have HD := Bx.mk (scale_yes e2)
          have HR : Bx (∀ k, k < (R.u ++ R.d).length → (Lit.int .i64 ((R.u ++ R.d).getD k 0)).wf = true) := Bx.mk (fun k hk => by
            have hz : 0 ≤ (R.u ++ R.d).getD k 0 ∧ (R.u ++ R.d).getD k 0 ≤ 11 := by
              have hmem : (R.u ++ R.d).getD k 0 ∈ R.u ++ R.d := by
                rw [List.getD, List.getElem?_eq_getElem hk]; exact List.getElem_mem _
              rcases List.mem_append.1 hmem with h | h
              · exact has_scale e1 (by rw [has_mem]; exact decide_eq_true h)
              · exact has_scale e2 (by rw [has_mem]; exact decide_eq_true h)
            exact WalkArith.wf_i64 (by omega))
          have hmm := @run_makeMap Try.prog
          clear e0 e1 e2 e5 HO
          go_enter Try.func84, Try.ntmps84
          go_wp2_with (fail)
          refine q0.mono ?_
          rintro r w1 ⟨rfl, rfl⟩
          go_wp2_with (fail)
          refine q1.mono ?_
          rintro r w1 ⟨rfl, n1, rfl⟩
          go_wp2_with (fail)
          refine (q2 _).mono ?_
          rintro r w1 ⟨rfl, n2, rfl⟩
          go_wp2_with (fail)
          refine (q5 _).mono ?_
          rintro r w5 ⟨rfl, hn⟩
          have B5 := Bx.mk ((below_draws HB.out _).trans ((quietB hn).mono (below_draws HB.out _).size))
          have X5 := Bx.mk (HXB.out.below ((below_draws (Below.refl _ _) _).trans (quietB hn)))
          clear hn h0 h1 h2 h3 h4 h5 hl
          have h1 := X5.out.c (k := 1) rfl
          have h2 := X5.out.c (k := 2) rfl
          have hl := X5.out.lt
          go_wp2_with (fail)
          have W6 : Bx (Below w5.heap.size w5 ((w5.alloc (.map #[] 0)).alloc (.cells #[.slice A R.u.length a, .slice B R.d.length b] 27))) := Bx.mk (((Below.refl _ _).alloc (Nat.le_refl _) _).alloc (by simp) _)
          have HA : BoxN ((w5.alloc (.map #[] 0)).alloc (.cells #[.slice A R.u.length a, .slice B R.d.length b] 27)) (w5.heap.size + 1) #[.slice A R.u.length a, .slice B R.d.length b] 27 := BoxN.at _ _ _ _ (by simp)
          have hcon := std_concat (w5.heap.size + 1) R.u R.d _ _ _ ((HI.out.1.below B5.out).below W6.out) ((HI.out.2.1.below B5.out).below W6.out) ⟨by have := HU.out.1; omega, HM.out.u⟩ ⟨by have := HD.out.1; omega, HM.out.d⟩ (HA.c (k := 0) rfl) (HA.c (k := 1) rfl) HA.lt
          have hL0 : 0 < (R.u ++ R.d).length := by have := HU.out.1; simp only [List.length_append]; omega
          have hLm : (R.u ++ R.d).length ≤ 2097152 := by have := HM.out.u; have := HM.out.d; simp only [List.length_append]; omega
          clear HA h1 h2 HU HD q0 q1 q2 q5
          generalize R.u ++ R.d = L at *
          refine hcon.mono ?_
          rintro r w7 ⟨u, rfl, ho, hb7⟩
          obtain ⟨g, cap, rfl, hg1, hg2⟩ := ho.form hL0
          have hz6 : ((w5.alloc (.map #[] 0)).alloc (.cells #[.slice A R.u.length a, .slice B R.d.length b] 27)).heap.size = w5.heap.size + 2 := by simp
          have hg1 : w5.heap.size + 2 ≤ g := by omega
          have B7 := Bx.mk (B5.out.trans ((W6.out.trans (hb7.mono W6.out.size)).mono B5.out.size))
          have X7 := Bx.mk ((X5.out.below W6.out).below hb7)
          have S7 := Bx.mk ((((SetAt.made w5).below ((Below.refl _ _).alloc (Nat.le_refl _) _))).below hb7)
          have O7 := Bx.mk ho
          have hz5 : w.heap.size < w5.heap.size := hl
          clear hcon ho hb7 W6 X5 hl
          rw [hz6] at O7
          clear hz6
          go_wp2_with (fail)
          go_loopw [36] (fun i wr => ∃ k : Nat, k ≤ L.length ∧ i = .int .i64 k ∧ Bx (SetAt wr w5.heap.size k (fun y => decide (y ∈ L.take k))) ∧ Bx (wr.ownsRow (w5.heap.size + 2) 2 1 (.slice (some ⟨g, 0, none⟩) L.length cap) L.length (ints L)) ∧ Bx (BoxN wr w.heap.size #[.string R.s, .slice A R.u.length a, .slice B R.d.length b, .int .i64 R.x, .int .i64 R.y, .slice C R.f.length c] 32) ∧ Bx (Below w.heap.size w wr)) (fun i _ => L.length - (intOf i).toNat)
          case atStart => exact ⟨0, Nat.zero_le _, rfl, Bx.mk (by simpa using S7.out), O7, X7, B7⟩
          case round =>
            obtain ⟨k, hk, rfl, HS, HO, HX, HW⟩ := hrel
            clear S7 O7 X7 B7
            by_cases hlt : k < L.length
            · have h1 : wr.cell? ⟨g, k, none⟩ = some (.int .i64 (L.getD k 0)) := (HO.out.cellAt k (by omega)).trans (ints_at L k hlt)
              have hz := HR.out k hlt
              have HT := Bx.mk (funext (take_mem L k hlt))
              generalize L.getD k 0 = z at h1 hz HT
              have x1 : (0 : Int) ≤ (k : Int) := by omega
              have x2 : (k : Int) < (L.length : Int) := by omega
              go_wp2_with (at_mapUpdate; refine wpList_set_true rfl _ _ _ rfl w5.heap.size k _ z rfl rfl rfl HS.out (by unfold maxLen; omega) hz ?_; intro w8 hs8 hg8)
              have HS8 : Bx (SetAt w8 w5.heap.size (k + 1) (fun y => decide (y ∈ L.take (k + 1)))) := Bx.mk (by rw [HT.out]; exact hs8)
              have HO8 := Bx.mk (HO.out.kept hg8 (.inr (by simp [Value.ownBlock]; omega)))
              have HX8 := Bx.mk (HX.out.grown hg8 (by simp; omega))
              have HW8 := Bx.mk (HW.out.grown hg8 HW.out.size (fun k hk => by cases hk; exact Nat.le_of_lt hz5))
              clear hs8 hg8 HS HO HX HW HT
              try go_wp2_with (fail)
              go_roundw
              case rel => exact ⟨k + 1, by omega, by go_num, HS8, HO8, HX8, HW8⟩
              case measure => simp [intOf]; omega
            · obtain rfl : k = L.length := by omega
              have HS : Bx (SetAt wr w5.heap.size L.length (fun y => decide (y ∈ L))) := Bx.mk (by have := HS.out; rwa [List.take_length] at this)
              have h3 := HX.out.c (k := 3) rfl
              have h4 := HX.out.c (k := 4) rfl
              have hlk := HS.out.look R.x HM.out.x
              by_cases hx : R.x ∈ L
              · have HE2 : Bx ((if R.y = R.x then false else decide (R.y ∈ L)) = okG R) := Bx.mk (by
                  rw [HE.out, decide_eq_true hx]
                  by_cases hy : R.y = R.x
                  · simp [hy]
                  · simp [hy, Ne.symm hy])
                rw [decide_eq_true hx] at hlk
                clear hx HE HR HO
                go_wp2_with (at_delete; refine wpList_set_drop rfl _ _ rfl w5.heap.size L.length _ R.x rfl rfl HS.out HM.out.x ?_; intro w9 hs9 hg9; have h4 := (HX.out.grown hg9 (by simp; omega)).c (k := 4) rfl; have hl9 := hs9.look R.y HM.out.y; rw [HE2.out] at hl9; have B9 := Bx.mk (HW.out.grown hg9 HW.out.size (fun k hk => by cases hk; exact Nat.le_of_lt hz5)); clear hs9 hg9)
                go_ret
                exact ⟨rfl, B9.out⟩
              · have HE2 : Bx (okG R = false) := Bx.mk (by rw [HE.out, decide_eq_false hx]; rfl)
                rw [decide_eq_false hx] at hlk
                clear hx HE HR HO
                go_wp2_with (fail)
                go_ret
                exact ⟨ret_bool HE2.out.symm, HW.out⟩
end Go.Proofs.Ytobhmoohalkijaa
