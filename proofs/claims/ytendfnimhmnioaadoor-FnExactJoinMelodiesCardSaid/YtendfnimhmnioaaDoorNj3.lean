/- JoinMelodies: the program's own. -/
import Derived.Test.YtendfnimhmnioaaDoorNj2
namespace Go.Proofs.YtendfnimhmnioaaDoor
open Go.ChangeShapes Go.WideShapes Go.ChangeAt Go.RowKit
set_option linter.unusedVariables false
set_option linter.unusedSimpArgs false
set_option maxRecDepth 100000

/-- a list of notes that the writer doesn't write -/
structure KRow (v : Value) (T : List (Int × Int)) (g : Nat) (W : World) : Prop where
  p : PrsAt W v T
  n : ∀ k, v.ownBlock = some k → k < W.heap.size ∧ ¬ XB (some g) W k
theorem cells_of {W : World} {p : Addr} {v : Value} (h : W.cell? p = some v) : ∃ o, W.heap[p.block]? = some o ∧ o.isCells = true := by
  have hl := cell_lt h
  refine ⟨_, Array.getElem?_eq_getElem hl, ?_⟩
  unfold World.cell? at h
  rw [Array.getElem?_eq_getElem hl] at h
  revert h
  cases W.heap[p.block] <;> simp [Obj.isCells]
theorem KRow.step {v : Value} {T : List (Int × Int)} {g base : Nat} {W W' : World} (h : KRow v T g W) (hs : Stp g base W W') : KRow v T g W' := by
  have hk := hs.kp 0 (Nat.zero_le _) (Nat.zero_le _)
  refine ⟨?_, fun k e => ?_⟩
  · rcases h.p with h1 | ⟨b, off, c, e, hb, hc⟩
    · exact .inl h1
    · refine .inr ⟨b, off, c, e, Nat.lt_of_lt_of_le hb hk.below.size, fun k hkk => ?_⟩
      obtain ⟨o, ho, hco⟩ := cells_of (hc k hkk).1
      have hn := (h.n b (by rw [e]; rfl)).2
      have heq : W'.heap[b]? = W.heap[b]? := by rw [hk.kept b o ho hco hn]; exact ho.symm
      exact ⟨(World.cell?_of_block (a := ⟨b, off + k * 2, none⟩) heq).trans (hc k hkk).1, (World.cell?_of_block (a := ⟨b, off + k * 2 + 1, none⟩) heq).trans (hc k hkk).2⟩
  · obtain ⟨h1, h2⟩ := h.n k e
    refine ⟨Nat.lt_of_lt_of_le h1 hk.below.size, fun hx => ?_⟩
    rcases hk.next k hx with h3 | h3
    · exact h2 h3
    · omega
/-- what was written of a list of valid notes -/
def JSt (T : List (Int × Int)) (b : Addr) (k : Nat) (l : List (Int × Int)) (q : Option Addr) : Prop := (q = none ∧ l = T.take k ∧ k ≤ 48) ∨ (q = some b ∧ l.length = 48 ∧ 48 < k)
theorem JSt.fin {T l : List (Int × Int)} {a b : Addr} {q : Option Addr} (hne : a ≠ b) (hok : allN T = true) (h : JSt T b T.length l q) : wrE l q a b = donE T := by
  rcases h with ⟨rfl, rfl, h⟩ | ⟨rfl, _, h⟩
  · simp [wrE, donE, hok, h]
  · have : ¬ T.length ≤ 48 := by omega
    simp [wrE, donE, hok, this, Ne.symm hne]
theorem allN_app {l m : List (Int × Int)} (hl : okM l = true) (hm : okM m = true) : allN (l ++ m) = true := by
  refine allN_yes (fun i hi => ?_)
  rw [List.length_append] at hi
  rw [pat_get (by rw [List.length_append]; exact hi)]
  by_cases h : i < l.length
  · rw [List.getElem_append_left h, ← pat_get h]; exact (okM_yes hl).2 i h
  · rw [List.getElem_append_right (by omega), ← pat_get (by omega)]; exact (okM_yes hm).2 _ (by omega)
set_option maxHeartbeats 4000000 in
theorem impl_join (u0 u1 : Value) (l m : List (Int × Int)) (ea eb : Addr) (w : World) (h0 : PrsC w u0 l) (h1 : PrsC w u1 m) (he : Er w ea eb) (hl : l.length ≤ 1048576) (hm : m.length ≤ 1048576) :
    Calls Tryd.prog 23 #[u0, u1] w (NtOut (joE l m).1 (.int .i64 (joE l m).2) w) := by
  obtain ⟨A, c, rfl⟩ := prs_len h0.p
  obtain ⟨B, d, rfl⟩ := prs_len h1.p
  have q0 := fun W h => impl_validmelody (.slice A l.length c) l W h hl
  have q1 := fun W h => impl_validmelody (.slice B m.length d) m W h hm
  have H0 := Bx.mk h0
  have H1 := Bx.mk h1
  have HE := Bx.mk he
  clear h0 h1 he
  cases ok0 : okM l
  · have HR : Bx (joE l m = ([], 1)) := Bx.mk (by simp [joE, ok0])
    rw [ok0] at q0
    rw [HR.out]
    clear ok0
    go_enter Tryd.func23, Tryd.ntmps23
    go_wp2_with (fail)
    refine (q0 _ H0.out.p).mono ?_
    rintro r w1 ⟨rfl, hb1⟩
    have B1 := Bx.mk hb1
    clear hb1
    go_wp2_with (fail)
    go_ret2
    exact ⟨_, rfl, World.ownsRow_nil _ _ _ _, B1.out⟩
  · rw [ok0] at q0
    cases ok1 : okM m
    · have HR : Bx (joE l m = ([], 1)) := Bx.mk (by simp [joE, ok0, ok1])
      rw [ok1] at q1
      rw [HR.out]
      clear ok0 ok1
      go_enter Tryd.func23, Tryd.ntmps23
      go_wp2_with (fail)
      refine (q0 _ H0.out.p).mono ?_
      rintro r w1 ⟨rfl, hb1⟩
      have B1 := Bx.mk hb1
      have I1 := Bx.mk (H1.out.below hb1)
      clear hb1
      go_wp2_with (fail)
      refine (q1 _ I1.out.p).mono ?_
      rintro r w2 ⟨rfl, hb2⟩
      have B2 := Bx.mk (B1.out.trans (hb2.mono B1.out.size))
      clear hb2
      go_wp2_with (fail)
      go_ret2
      exact ⟨_, rfl, World.ownsRow_nil _ _ _ _, B2.out⟩
    · rw [ok1] at q1
      obtain ⟨T, hT⟩ : ∃ T, T = l ++ m := ⟨_, rfl⟩
      have HT := Bx.mk hT
      have l48 := (okM_yes ok0).1
      have m48 := (okM_yes ok1).1
      have hTl : T.length ≤ 96 := by rw [hT, List.length_append]; omega
      have HALL : Bx (allN T = true) := Bx.mk (by rw [hT]; exact allN_app ok0 ok1)
      have HR : Bx (joE l m = donE T) := Bx.mk (by rw [hT]; simp [joE, ok0, ok1])
      rw [HR.out]
      clear ok0 ok1 hT hl hm
      go_enter Tryd.func23, Tryd.ntmps23
      go_wp2_with (fail)
      refine (q0 _ H0.out.p).mono ?_
      rintro r w1 ⟨rfl, hb1⟩
      have B1 := Bx.mk hb1
      have I1 := Bx.mk (H1.out.below hb1)
      clear hb1
      go_wp2_with (fail)
      refine (q1 _ I1.out.p).mono ?_
      rintro r w2 ⟨rfl, hb2⟩
      have B2 := Bx.mk (B1.out.trans (hb2.mono B1.out.size))
      clear hb2 q0 q1 I1 B1
      obtain ⟨g, hg0⟩ : ∃ x, x = w2.heap.size := ⟨_, rfl⟩
      have hwg : w.heap.size ≤ g := by rw [hg0]; exact B2.out.size
      have HW0 := Bx.mk (WrAt.start w2)
      rw [← hg0] at HW0
      have hB3 : Below w.heap.size w ((w2.alloc (.cells #[.slice none 0 0, .nilIface] 55)).alloc (.cells #[.slice A l.length c, .slice B m.length d] 24)) := (B2.out.alloc B2.out.size _).alloc (by have := B2.out.size; simp; omega) _
      have hX := BoxN.at (w2.alloc (.cells #[.slice none 0 0, .nilIface] 55)) (g + 1) #[.slice A l.length c, .slice B m.length d] 24 (by rw [hg0]; simp)
      have hcc := std_concat9 (g + 1) l m T A B c d _ HT (H0.out.below hB3) (H1.out.below hB3) l48 m48 (hX.c (k := 0) rfl) (hX.c (k := 1) rfl) hX.lt
      have HW1 := Bx.mk (HW0.out.below ((Below.refl _ _).alloc (Nat.le_refl _) (.cells #[.slice A l.length c, .slice B m.length d] 24)))
      have HB3 := Bx.mk hB3
      have hs3 : g + 1 ≤ ((w2.alloc (.cells #[.slice none 0 0, .nilIface] 55)).alloc (.cells #[.slice A l.length c, .slice B m.length d] 24)).heap.size := Nat.le_of_lt hX.lt
      clear hB3 hX HW0
      go_wp2_with (fail)
      rw [← hg0]
      clear hg0
      generalize (w2.alloc (.cells #[.slice none 0 0, .nilIface] 55)).alloc (.cells #[.slice A l.length c, .slice B m.length d] 24) = W3 at *
      refine hcc.mono ?_
      rintro e w4 ⟨v4, rfl, ho4, hb4⟩
      have HK4 : Bx (KRow v4 T g w4) := Bx.mk ⟨prs_own ho4, fun k hk => ⟨(ho4.lt k hk).2, fun hx => by
        have h1 := own_lo ho4 k hk
        have h2 := HW1.out.xb k ((xb_same (fun j hj => by injection hj with hj; subst hj; exact hb4.block g HW1.out.lt)).1 hx)
        omega⟩⟩
      have HW4 := Bx.mk (HW1.out.below hb4)
      have HB4 := Bx.mk (HB3.out.trans (hb4.mono HB3.out.size))
      obtain ⟨A4, c4, rfl⟩ := own_len ho4
      clear ho4 hb4 hcc HW1 HB3 H0 H1
      go_wp2_with (fail)
      go_loopw [22] (fun i wr => ∃ (k : Nat) (l' : List (Int × Int)) (q : Option Addr), k ≤ T.length ∧ i = .int .i64 (k : Int) ∧ Bx (JSt T eb k l' q) ∧ Bx (WrAt wr g (g + 1) l' q ∧ Below w.heap.size w wr) ∧ Bx (KRow (.slice A4 T.length c4) T g wr)) (fun i _ => T.length - (intOf i).toNat)
      case atStart => exact ⟨0, [], none, Nat.zero_le _, rfl, Bx.mk (.inl ⟨rfl, by simp, by omega⟩), Bx.mk ⟨HW4.out, HB4.out⟩, HK4⟩
      case round =>
        obtain ⟨k, l', q, hk, rfl, HS, HR, HK⟩ := hrel
        clear HW4 HB4 HK4
        by_cases hlt : k < T.length
        · have d1 : decide ((k : Int) < (T.length : Int)) = true := decide_eq_true (by omega)
          obtain ⟨bb, o, rfl, hb, hc⟩ := prs_form HK.out.p (by omega)
          obtain ⟨c0, c1⟩ := hc k hlt
          have k1 : (0 : Int) ≤ (k : Int) := by omega
          have k2 : (k : Int) < (T.length : Int) := by omega
          have HOKN := Bx.mk (allN_at HALL.out k hlt)
          have HTK : Bx (k ≤ 48 → l' = T.take k → T.take (k + 1) = l' ++ [pat T k]) := Bx.mk (fun _ e => by rw [e, List.take_succ_eq_append_getElem hlt, pat_get hlt])
          clear hc
          generalize pat T k = p at *
          obtain ⟨p1, p2⟩ := p
          dsimp only at c0 c1
          have hAl : Below wr.heap.size wr (wr.alloc (.cells #[.int .i64 p1, .int .i64 p2] 45)) := (Below.refl _ _).alloc (Nat.le_refl _) _
          have W1 := Bx.mk (HR.out.1.below hAl)
          have B1 := Bx.mk (HR.out.2.trans (hAl.mono HR.out.2.size))
          have K1 := Bx.mk (HK.out.step (Stp.of_below (base := g + 1) HR.out.1.lt hAl))
          have E1 := Bx.mk (HE.out.below B1.out)
          have hgl := W1.out.lt
          by_cases hq : q = none
          · subst hq
            have HJ : Bx (l' = T.take k ∧ k ≤ 48) := Bx.mk (by
              rcases HS.out with ⟨_, h1, h2⟩ | ⟨h, _⟩
              · exact ⟨h1, h2⟩
              · cases h)
            have hll : l'.length = k := by rw [HJ.out.1, List.length_take]; omega
            by_cases h48 : k < 48
            · have HS2 : Bx (JSt T eb (k + 1) (l' ++ [(p1, p2)]) none) := Bx.mk (.inl ⟨rfl, (HTK.out HJ.out.2 HJ.out.1).symm, by omega⟩)
              have hw := write_ok g (g + 1) l' none p1 p2 _ W1.out (by omega) HOKN.out (by omega)
              unfold nt at hw
              clear HS HR HK hAl HTK HJ hll
              go_wp2_with (fail)
              refine hw.mono ?_
              rintro e V2 ⟨⟨v2, rfl⟩, hw2, hs2⟩
              have HR2 := Bx.mk (And.intro hw2 (B1.out.trans (hs2.kp w.heap.size hwg (by omega)).below))
              have HK2 := Bx.mk (K1.out.step hs2)
              clear hw2 hs2 hw c0 c1
              go_wp2_with (fail)
              go_roundw
              case rel => exact ⟨k + 1, _, _, by omega, by go_num, HS2, HR2, HK2⟩
              case measure => simp [intOf]; omega
            · have HS2 : Bx (JSt T eb (k + 1) l' (some eb)) := Bx.mk (.inr ⟨rfl, by have := HJ.out.2; omega, by omega⟩)
              have hw := write_full g (g + 1) l' none ea eb p1 p2 _ W1.out E1.out (.inl rfl) HOKN.out (by have := HJ.out.2; omega)
              unfold nt at hw
              clear HS HR HK hAl HTK HJ hll
              go_wp2_with (fail)
              refine hw.mono ?_
              rintro e V2 ⟨⟨v2, rfl⟩, hw2, hs2⟩
              have HR2 := Bx.mk (And.intro hw2 (B1.out.trans (hs2.kp w.heap.size hwg (by omega)).below))
              have HK2 := Bx.mk (K1.out.step hs2)
              clear hw2 hs2 hw c0 c1
              go_wp2_with (fail)
              go_roundw
              case rel => exact ⟨k + 1, _, _, by omega, by go_num, HS2, HR2, HK2⟩
              case measure => simp [intOf]; omega
          · have HJ : Bx (q = some eb ∧ l'.length = 48 ∧ 48 < k) := Bx.mk (by
              rcases HS.out with ⟨h, _⟩ | h
              · exact absurd h hq
              · exact h)
            have HS2 : Bx (JSt T eb (k + 1) l' (some eb)) := Bx.mk (.inr ⟨rfl, HJ.out.2.1, by have := HJ.out.2.2; omega⟩)
            have hw := write_full g (g + 1) l' q ea eb p1 p2 _ W1.out E1.out (.inr HJ.out.1) HOKN.out HJ.out.2.1
            unfold nt at hw
            clear HS HR HK hAl HTK HJ hq
            go_wp2_with (fail)
            refine hw.mono ?_
            rintro e V2 ⟨⟨v2, rfl⟩, hw2, hs2⟩
            have HR2 := Bx.mk (And.intro hw2 (B1.out.trans (hs2.kp w.heap.size hwg (by omega)).below))
            have HK2 := Bx.mk (K1.out.step hs2)
            clear hw2 hs2 hw c0 c1
            go_wp2_with (fail)
            go_roundw
            case rel => exact ⟨k + 1, _, _, by omega, by go_num, HS2, HR2, HK2⟩
            case measure => simp [intOf]; omega
        · obtain rfl : k = T.length := by omega
          have d1 : decide ((T.length : Int) < (T.length : Int)) = false := decide_eq_false (by omega)
          have hfin := JSt.fin (a := ea) HE.out.ne HALL.out HS.out
          have hwr := impl_written g (g + 1) l' q ea eb wr HR.out.1 (HE.out.below HR.out.2) (by
            rcases HS.out with ⟨h, _⟩ | ⟨h, _⟩
            · exact .inl h
            · exact .inr (.inr h))
          rw [hfin] at hwr
          clear hfin HS HALL
          go_wp2_with (fail)
          refine hwr.mono ?_
          rintro e V2 ⟨v2, rfl, ho, hb2⟩
          have HO := Bx.mk (own_downP (b1 := w.heap.size) (by omega) ho)
          have HB2 := Bx.mk (HR.out.2.trans (hb2.mono HR.out.2.size))
          obtain ⟨A2, c2, ev⟩ := own_len HO.out
          subst ev
          clear ho hb2
          go_wp2_with (fail)
          go_ret2
          exact ⟨_, rfl, HO.out, HB2.out⟩
end Go.Proofs.YtendfnimhmnioaaDoor
