/- JoinMelodies: lists of notes appended; the model. -/
import Derived.Test.YtendfnimhmnioaaDoorNt
import Derived.Laws.AppendOwnNone
namespace Go.Proofs.YtendfnimhmnioaaDoor
open Go.ChangeShapes Go.WideShapes Go.ChangeAt Go.RowKit
set_option linter.unusedVariables false
set_option linter.unusedSimpArgs false
set_option maxRecDepth 100000

/-- a slice that reads as these notes; without memory only where it is the nil slice -/
structure PrsC (w : World) (v : Value) (l : List (Int × Int)) : Prop where
  p : PrsAt w v l
  f : v = .slice none 0 0 ∨ ∃ a n c, v = .slice (some a) n c
theorem PrsC.below {w w' : World} {v : Value} {l : List (Int × Int)} (h : PrsC w v l) (hb : Below w.heap.size w w') : PrsC w' v l := ⟨h.p.below hb, h.f⟩
theorem prsc_own {w : World} {base te : Nat} {v : Value} {l : List (Int × Int)} (h : w.ownsRow base te 2 v l.length (pcl l)) : PrsC w v l := by
  refine ⟨prs_own h, ?_⟩
  rcases h.2 with ⟨hv, _⟩ | ⟨g, cap, cur, hv, _⟩
  · exact .inl hv
  · exact .inr ⟨_, _, _, hv⟩
theorem append_prs {ops : Array Oper} {rest : List Oper} {o : Oper} {a : Act} {w : World} {Q : Exit → Act → World → Prop} (hgd : o.guard = none) (s x : Operand) (ho : o.op = .call { callee := .builtin .append, args := #[s, x], argTypes := #[24, 24] })
    (base : Nat) (v : Value) (n : Nat) (xs : List Value) (hs : a.eval s = v) (hown : w.ownsRow base 45 2 v n xs) (u : Value) (l : List (Int × Int)) (hx : a.eval x = u) (hu : PrsC w u l) (hn : n + l.length ≤ 1000000) (hbase : base ≤ w.heap.size)
    (h : ∀ v' w', w'.ownsRow base 45 2 v' (n + l.length) (xs ++ pcl l) → (∀ w0 : World, Below w0.heap.size w0 w → w0.heap.size ≤ base → Below w0.heap.size w0 w') → Below base w w' → wpList Tryd.prog ops Q rest (a.put o.dst v') w') : wpList Tryd.prog ops Q (o :: rest) a w := by
  obtain ⟨i0, hi, hz0, hz1, hz2⟩ := info_parts infoNoteL
  rcases hu.f with rfl | ⟨ad, m, c, rfl⟩
  · have hl : l = [] := by
      rcases hu.p with ⟨h, _⟩ | ⟨b, o, c, e, _⟩
      · exact h
      · cases e
    subst hl
    exact wpList_append_own_none hgd s x _ ho base 45 i0 2 Tryd.underlying24 hi v n xs hs hown hx (h v w (by simpa [pcl] using hown) (fun w0 hb _ => hb) (Below.refl _ _))
  · have hml : m = l.length := by
      obtain ⟨A, c', e⟩ := prs_len hu.p
      injection e
    subst hml
    refine wpList_append_own w hgd s x _ ho base 45 i0 _ 2 16 Tryd.underlying24 hi hz0 hz1 hz2 rfl (by decide) v n xs hs hown ad l.length c (pcl l) hx (by rw [pcl_len]; omega) ?_ (pcl_one l) (by unfold maxLen; omega) (by omega) hbase ?_
    · rcases Nat.eq_zero_or_pos l.length with h0 | h0
      · obtain rfl := List.eq_nil_of_length_eq_zero h0
        intro j u hj; simp [pcl] at hj
      · obtain ⟨b, off, e, hb, hc⟩ := prs_form hu.p h0
        injection e with e
        subst e
        exact prs_news hc
    · intro v' w' ho' hg _
      exact h v' w' ho' (fun w0 hb hle => hb.grown hg hb.size (fun k hk => Nat.le_trans hle (own_lo hown k hk))) ((Below.refl _ _).grown hg hbase (fun k hk => own_lo hown k hk))
set_option maxHeartbeats 4000000 in
theorem spec_join (u0 u1 : Value) (l m : List (Int × Int)) (w : World) (h0 : PrsC w u0 l) (h1 : PrsC w u1 m) (hl : l.length ≤ 1048576) (hm : m.length ≤ 1048576) :
    Calls Tryd.prog 22 #[u0, u1] w (NtOut (joE l m).1 (.int .i64 (joE l m).2) w) := by
  obtain ⟨A, c, rfl⟩ := prs_len h0.p
  obtain ⟨B, d, rfl⟩ := prs_len h1.p
  have q0 := fun W h => spec_okm (.slice A l.length c) l W h hl
  have q1 := fun W h => spec_okm (.slice B m.length d) m W h hm
  have H0 := Bx.mk h0
  have H1 := Bx.mk h1
  clear h0 h1
  cases ok0 : okM l
  · have HE : Bx (joE l m = ([], 1)) := Bx.mk (by simp [joE, ok0])
    rw [ok0] at q0
    rw [HE.out]
    clear ok0
    go_enter Tryd.func22, Tryd.ntmps22
    go_wp2_with (fail)
    refine (q0 _ H0.out.p).mono ?_
    rintro r w1 ⟨rfl, rfl⟩
    go_wp2_with (fail)
    go_ret2
    exact ⟨_, rfl, World.ownsRow_nil _ _ _ _, Below.refl _ _⟩
  · rw [ok0] at q0
    cases ok1 : okM m
    · have HE : Bx (joE l m = ([], 1)) := Bx.mk (by simp [joE, ok0, ok1])
      rw [ok1] at q1
      rw [HE.out]
      clear ok0 ok1
      go_enter Tryd.func22, Tryd.ntmps22
      go_wp2_with (fail)
      refine (q0 _ H0.out.p).mono ?_
      rintro r w1 ⟨rfl, rfl⟩
      go_wp2_with (fail)
      refine (q1 _ H1.out.p).mono ?_
      rintro r w1 ⟨rfl, rfl⟩
      go_wp2_with (fail)
      go_ret2
      exact ⟨_, rfl, World.ownsRow_nil _ _ _ _, Below.refl _ _⟩
    · rw [ok1] at q1
      obtain ⟨T, hT⟩ : ∃ T, T = l ++ m := ⟨_, rfl⟩
      have HT := Bx.mk hT
      have hTl : T.length ≤ 96 := by rw [hT, List.length_append]; have := (okM_yes ok0).1; have := (okM_yes ok1).1; omega
      have HE : Bx (joE l m = donE T) := Bx.mk (by rw [hT]; simp [joE, ok0, ok1])
      have l48 := (okM_yes ok0).1
      have m48 := (okM_yes ok1).1
      have hown := fun W h => spec_own9 (.slice A l.length c) l W h l48
      have HDN := Bx.mk (fun (A' : Option Addr) c' W (hh : PrsAt W (.slice A' T.length c') T) => spec_done9 A' c' T W hh (by omega))
      rw [HE.out]
      clear ok0 ok1 hT
      go_enter Tryd.func22, Tryd.ntmps22
      go_wp2_with (fail)
      refine (q0 _ H0.out.p).mono ?_
      rintro r w1 ⟨rfl, rfl⟩
      go_wp2_with (fail)
      refine (q1 _ H1.out.p).mono ?_
      rintro r w1 ⟨rfl, rfl⟩
      go_wp2_with (fail)
      refine (hown _ H0.out.p).mono ?_
      rintro r w1 ⟨v1, rfl, ho, hb⟩
      have HO := Bx.mk ho
      have HB := Bx.mk hb
      have C1 := Bx.mk (H1.out.below hb)
      obtain ⟨A1, c1, rfl⟩ := own_len ho
      clear ho hb q0 q1 hown
      go_wp2_with ((at_builtin; refine append_prs rfl _ _ rfl w.heap.size (.slice A1 l.length c1) l.length (pcl l) rfl HO.out (.slice B m.length d) m rfl C1.out (by omega) HB.out.size ?_; intro v2 w2 ho2 hb2 _; have HB2 := Bx.mk (hb2 w HB.out (Nat.le_refl _)); have HO2 : Bx (w2.ownsRow w.heap.size 45 2 v2 T.length (pcl T)) := Bx.mk (by rw [HT.out, List.length_append, pcl_app]; exact ho2); obtain ⟨A2, c2, rfl⟩ := own_len HO2.out; clear ho2 hb2))
      have hd := HDN.out A2 c2 w2 (prs_own HO2.out)
      have ho := Bx.mk (dn_own HO2.out)
      refine hd.mono ?_
      rintro r w3 ⟨rfl, rfl⟩
      obtain ⟨A3, c3, ed⟩ := own_len ho.out
      rw [ed]
      rw [ed] at ho
      go_wp2_with (fail)
      go_ret2
      exact ⟨_, rfl, ho.out, HB2.out⟩
end Go.Proofs.YtendfnimhmnioaaDoor
