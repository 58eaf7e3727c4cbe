/- endOf, EndOf, IsProgramme: the program. -/
import Derived.Test.YtmbillcdlcgjiaaHk
import Derived.Test.YtmbillcdlcgjiaaHi
import Derived.Test.YtmbillcdlcgjiaaHl2
namespace Go.Proofs.Ytmbillcdlcgjiaa
open Go.ChangeShapes Go.WideShapes Go.ChangeAt Go.RowKit
set_option linter.unusedVariables false
set_option linter.unusedSimpArgs false
set_option maxRecDepth 100000

theorem wpR_stoN {P : Program} {ops : Array Oper} {Q : Exit → Act → World → Prop} {a : Act} {w w2 : World} {rest : List Oper} {o : Oper} (hg : o.guard = none) (hd : o.dst = none) (t : TypeId) (p x : Operand) (hop : o.op = Op.store t p x) (pv xv : Value) (hp : a.eval p = pv) (hx : a.eval x = xv) (hrun : (Instr.storeAt t pv xv).run P w = .ok () w2)
    (hK : wpList P ops Q rest a w2) : wpList P ops Q (o :: rest) a w :=
  wpR_sto hg t p x hop pv xv hp hx hrun (by rw [hd]; exact hK)
theorem win_fun {w : World} {F : Value} {x : It} {s : Int} (h : WinAt w F x s) : ∃ fn p q, F = .func fn p q := by
  rcases h with ⟨rfl, _⟩ | ⟨g, h1, rfl, _⟩ <;> exact ⟨_, _, _, rfl⟩
theorem store7 (W : World) (x : It) (F : Value) (h : ∃ fn p q, F = .func fn p q) : (Instr.storeAt 109 (.pointer (some ⟨W.heap.size, 0, none⟩)) (.agg #[.string x.nm, .int .i64 x.f, .int .i64 x.u, .int .i64 x.s, .int .i64 x.m, .int .i64 x.p, F])).run Try.prog (W.alloc (.cells #[.string ⟨#[]⟩, .int .i64 0, .int .i64 0, .int .i64 0, .int .i64 0, .int .i64 0, .nilFunc] 109)) = .ok () (W.alloc (.cells #[.string x.nm, .int .i64 x.f, .int .i64 x.u, .int .i64 x.s, .int .i64 x.m, .int .i64 x.p, F] 109)) :=
  run_storeAt_new W 109 _ _ info_slot rfl (by obtain ⟨fn, p, q, rfl⟩ := h; simp [Value.oneCell'])
set_option maxHeartbeats 4000000 in
theorem impl_end (A : Option Addr) (c : Nat) (v : Value) (l : List It) (zs : List Int) (ps : List (It × Value)) (mi se : Int) (w : World) (h0 : SltAt w (.slice A l.length c) ps) (hp : WinsAt w ps l se) (h : IntsAt w v zs) (hok : okIts l = true) (hord : ordB l.length zs = true) (hm : zs.length ≤ 1048576) (hmi : 0 ≤ mi ∧ mi ≤ 1439) :
    Calls Try.prog 96 #[.agg #[.slice A l.length c, .int .i64 mi], v] w fun e w' => e = .returned (.tuple #[.int .i64 ((endW l se zs mi).getD 0), .bool (endW l se zs mi).isSome]) ∧ Below w.heap.size w w' := by
  obtain ⟨B, cb, rfl⟩ := h.len
  have hb0 : Below w.heap.size w (w.alloc (.cells #[.slice A l.length c, .int .i64 mi] 119)) := (Below.refl _ _).alloc (Nat.le_refl _) _
  have X0 := BoxN.at w w.heap.size #[.slice A l.length c, .int .i64 mi] 119 rfl
  have HI := Bx.mk (h.below hb0)
  have HT := Bx.mk (h0.below hb0)
  have HP := Bx.mk (hp.below hb0)
  have HL := hp.len
  have HO := Bx.mk ((ordB_iff _ _).1 hord)
  have HK := Bx.mk (fun k hk => okI_at hok k hk)
  have hoks := Bx.mk hok
  generalize hW : w.alloc (.cells #[.slice A l.length c, .int .i64 mi] 119) = W0 at hb0 X0 HI HT HP
  have B0 := Bx.mk hb0
  have X0 := Bx.mk X0
  have z0 := X0.out.c (k := 0) rfl
  have z1 := X0.out.c (k := 1) rfl
  have zl := X0.out.lt
  clear h h0 hok hord hp hb0
  go_enter Try.func96, Try.ntmps96
  go_wp2_with (fail)
  try rw [hW]
  try clear hW
  clear z0 z1 zl
  go_loopw [6, 14] (fun tv i wr => ∃ (k : Nat) (t : Int), k ≤ zs.length ∧ i = .int .i64 k ∧ tv = .int .i64 t ∧ (0 ≤ t ∧ t ≤ 1439 + 240 * (k : Int)) ∧ Bx (endW l se zs mi = endW l se (zs.drop k) t) ∧ Bx (Below W0.heap.size W0 wr)) (fun _ i _ => zs.length - (intOf i).toNat)
  case atStart => exact ⟨0, mi, Nat.zero_le _, rfl, rfl, by omega, Bx.mk rfl, Bx.mk (Below.refl _ _)⟩
  case round =>
    obtain ⟨k, t, hk, rfl, rfl, ht, HE, HB⟩ := hrel
    by_cases hlt : k < zs.length
    · obtain ⟨hz1, hz2⟩ := HO.out k hlt
      have hzb := inB_yes hz1
      obtain ⟨b, oo, c', e, hb, hc⟩ := (HI.out.below HB.out).form (by omega)
      injection e with e1 e2 e3
      subst e1 e3
      have h1 := hc k hlt
      obtain ⟨n, hn⟩ : ∃ n : Nat, zs.getD k 0 = (n : Int) := ⟨(zs.getD k 0).toNat, by omega⟩
      have hnl : n < l.length := by omega
      obtain ⟨b2, o2, rfl, hpl, hb2, hx⟩ := slt_cells (HT.out.below HB.out) (by omega)
      obtain ⟨⟨c0, c1, c2, c3, c4, c5⟩, c6⟩ := hx n (by omega)
      obtain ⟨pe, pw⟩ := (HP.out.below HB.out).at n hnl
      rw [pe] at c0 c1 c2 c3 c4 c5
      have XB := X0.out.below HB.out
      have z0 := XB.c (k := 0) rfl
      have zl := XB.lt
      have hmm := (HK.out n hnl).m
      have hxk := HK.out n hnl
      have HE2 : Bx (endW l se zs mi = if fitB (iat l n) se t = true then endW l se (zs.drop (k + 1)) (t + (iat l n).m) else none) := Bx.mk (by
        rw [HE.out, dropD zs k hlt, hn]; rfl)
      have x1 : (0 : Int) ≤ (k : Int) := by omega
      have x2 : (k : Int) < (zs.length : Int) := by omega
      have dlt : decide ((k : Int) < (zs.length : Int)) = true := decide_eq_true x2
      have y1 : (0 : Int) ≤ (n : Int) := by omega
      have y2 : (n : Int) < (l.length : Int) := by omega
      rw [hn] at h1
      clear hc hx HE hz1 hz2 hzb pe HI HT HP hpl
      have hwr : IntKind.i64.wrap (t + (iat l n).m) = t + (iat l n).m := IntWalk.i64_in _ (by omega)
      generalize (sat ps n).2 = F at *
      generalize iat l n = x at *
      obtain ⟨wa, hwa⟩ : ∃ W, W = wr.alloc (.cells #[.string x.nm, .int .i64 x.f, .int .i64 x.u, .int .i64 x.s, .int .i64 x.m, .int .i64 x.p, F] 109) := ⟨_, rfl⟩
      have bA : Below wr.heap.size wr wa := by rw [hwa]; exact (Below.refl _ _).alloc (Nat.le_refl _) _
      have hwc := win_calls (pw.below bA) hxk t ⟨ht.1, by omega⟩
      have B1 := Bx.mk (HB.out.trans (bA.mono HB.out.size))
      have XA : BoxN wa wr.heap.size #[.string x.nm, .int .i64 x.f, .int .i64 x.u, .int .i64 x.s, .int .i64 x.m, .int .i64 x.p, F] 109 := by rw [hwa]; exact BoxN.at wr _ _ _ rfl
      have XAB := Bx.mk XA
      have a4 := XA.c (k := 4) rfl
      have a6 := XA.c (k := 6) rfl
      have al := XA.lt
      have hwa := hwa.symm
      clear bA XA
      generalize hfd : fitB x se t = fd at *
      have HXK := Bx.mk hxk
      have HN0 := Bx.mk hn
      clear hn XB HL hxk hnl e2

      have hs7 := store7 wr x F (win_fun pw)
      rw [hwa] at hs7
      clear pw
      cases fd
      · have HN : Bx (endW l se zs mi = none) := Bx.mk HE2.out
        clear HE2 hfd
        go_wp2_with (refine wpR_stoN rfl rfl 109 (.tmp 9) (.tmp 22) rfl (.pointer (some ⟨wr.heap.size, 0, none⟩)) (.agg #[.string x.nm, .int .i64 x.f, .int .i64 x.u, .int .i64 x.s, .int .i64 x.m, .int .i64 x.p, F]) rfl rfl hs7 ?_)
        have HWA := Bx.mk hwa
        clear hs7 hwa
        rcases hwc with ⟨rfl, hc⟩ | ⟨gg, hh, rfl, hc⟩
        · go_wp2_with (fail)
          rw [HWA.out]
          refine hc.mono ?_
          rintro r w1 ⟨rfl, m, rfl⟩
          have B1 := B1.out
          rw [← HWA.out] at B1
          have B1 := Bx.mk B1
          go_wp2_with (fail)
          go_ret2
          exact ⟨by rw [HN.out]; rfl, B0.out.trans ((below_draws B1.out _).mono B0.out.size)⟩
        · go_wp2_with (fail)
          rw [HWA.out]
          refine hc.mono ?_
          rintro r w1 ⟨rfl, m, rfl⟩
          have B1 := B1.out
          rw [← HWA.out] at B1
          have B1 := Bx.mk B1
          go_wp2_with (fail)
          go_ret2
          exact ⟨by rw [HN.out]; rfl, B0.out.trans ((below_draws B1.out _).mono B0.out.size)⟩
      · have HS : Bx (endW l se zs mi = endW l se (zs.drop (k + 1)) (t + x.m)) := Bx.mk HE2.out
        clear HE2 hfd
        go_wp2_with (refine wpR_stoN rfl rfl 109 (.tmp 9) (.tmp 22) rfl (.pointer (some ⟨wr.heap.size, 0, none⟩)) (.agg #[.string x.nm, .int .i64 x.f, .int .i64 x.u, .int .i64 x.s, .int .i64 x.m, .int .i64 x.p, F]) rfl rfl hs7 ?_)
        have HWA := Bx.mk hwa
        clear hs7 hwa
        rcases hwc with ⟨rfl, hc⟩ | ⟨gg, hh, rfl, hc⟩
        · go_wp2_with (fail)
          rw [HWA.out]
          refine hc.mono ?_
          rintro r w1 ⟨rfl, m, rfl⟩
          have B1 := B1.out
          rw [← HWA.out] at B1
          have B1 := Bx.mk B1
          have d4 := (XAB.out.draws m).c (k := 4) rfl
          have dl := (XAB.out.draws m).lt
          go_wp2_with (fail)
          go_roundw
          case rel => exact ⟨k + 1, t + x.m, by omega, by go_num, by first | rfl | simp [hwr], by omega, HS, Bx.mk (below_draws B1.out _)⟩
          case measure => simp [intOf]; omega
        · go_wp2_with (fail)
          rw [HWA.out]
          refine hc.mono ?_
          rintro r w1 ⟨rfl, m, rfl⟩
          have B1 := B1.out
          rw [← HWA.out] at B1
          have B1 := Bx.mk B1
          have d4 := (XAB.out.draws m).c (k := 4) rfl
          have dl := (XAB.out.draws m).lt
          go_wp2_with (fail)
          go_roundw
          case rel => exact ⟨k + 1, t + x.m, by omega, by go_num, by first | rfl | simp [hwr], by omega, HS, Bx.mk (below_draws B1.out _)⟩
          case measure => simp [intOf]; omega
    · obtain rfl : k = zs.length := by omega
      have dlt : decide ((zs.length : Int) < (zs.length : Int)) = false := decide_eq_false (by omega)
      have HN : Bx (endW l se zs mi = some t) := Bx.mk (by rw [HE.out, List.drop_length]; rfl)
      clear HE
      go_wp2_with (fail)
      go_ret2
      exact ⟨by rw [HN.out]; rfl, B0.out.trans (HB.out.mono B0.out.size)⟩
set_option maxHeartbeats 4000000 in
theorem impl_endof (va v : Value) (l : List It) (zs : List Int) (mi se : Int) (w : World) (h0 : ItsAt w va l) (h : IntC w v zs) (hm : SmI l) (hz : zs.length ≤ 1048576) :
    Calls Try.prog 47 #[va, v, .int .i64 mi, .int .i64 se] w fun e w' => e = .returned (.tuple #[.int .i64 (endE l zs mi se).1, .int .i64 (endE l zs mi se).2]) ∧ Below w.heap.size w w' := by
  have q0 := impl_validitems va l w h0 hm
  have q1 := fun W => impl_moment mi se W
  have HT := Bx.mk h0
  have HI := Bx.mk h.rd
  obtain ⟨A, c, rfl⟩ := its_len h0
  obtain ⟨B, cb, rfl⟩ := h.rd.len
  clear h h0
  have HF : Bx (endE l zs mi se = if okIts l = false then (0, 1) else if (inB mi 0 1439 && inB se 0 5) = false then (0, 2) else if ordB l.length zs = false then (0, 7) else endC (endW l se zs mi)) := Bx.mk rfl
  cases f0 : okIts l
  · simp only [f0] at q0
    have HE : Bx (endE l zs mi se = (0, 1)) := Bx.mk (HF.out.trans (by simp [f0]))
    go_enter Try.func47, Try.ntmps47
    go_wp2_with (fail)
    refine q0.mono ?_
    rintro r w1 ⟨rfl, hb⟩
    have B1 := Bx.mk hb
    clear hb
    go_wp2_with (fail)
    go_ret2
    exact ⟨by rw [HE.out]; rfl, B1.out⟩
  · simp only [f0] at q0
    cases f1 : (inB mi 0 1439 && inB se 0 5)
    · simp only [f1] at q1
      have HE : Bx (endE l zs mi se = (0, 2)) := Bx.mk (HF.out.trans (by simp [f0, f1]))
      go_enter Try.func47, Try.ntmps47
      go_wp2_with (fail)
      refine q0.mono ?_
      rintro r w1 ⟨rfl, hb⟩
      have B1 := Bx.mk hb
      clear hb
      go_wp2_with (fail)
      refine (q1 _).mono ?_
      rintro r wz ⟨rfl, rfl⟩
      go_wp2_with (fail)
      go_ret2
      exact ⟨by rw [HE.out]; rfl, B1.out⟩
    · simp only [f1] at q1
      have q3 := fun W h => impl_order l.length (.slice B zs.length cb) zs W h ((okIts_iff l).1 f0).1 hz
      cases f3 : ordB l.length zs
      · simp only [f3] at q3
        have HE : Bx (endE l zs mi se = (0, 7)) := Bx.mk (HF.out.trans (by simp [f0, f1, f3]))
        go_enter Try.func47, Try.ntmps47
        go_wp2_with (fail)
        refine q0.mono ?_
        rintro r w1 ⟨rfl, hb⟩
        have B1 := Bx.mk hb
        clear hb
        go_wp2_with (fail)
        refine (q1 _).mono ?_
        rintro r wz ⟨rfl, rfl⟩
        go_wp2_with (fail)
        refine (q3 _ (HI.out.below B1.out)).mono ?_
        rintro r w2 ⟨rfl, hb⟩
        have B2 := Bx.mk (B1.out.trans (hb.mono B1.out.size))
        clear hb
        go_wp2_with (fail)
        go_ret2
        exact ⟨by rw [HE.out]; rfl, B2.out⟩
      · simp only [f3] at q3
        have hb := Bool.and_eq_true_iff.1 f1
        have b1 := inB_yes hb.1
        have q4 := fun W h => impl_concertof (.slice A l.length c) l mi se W h f0
        have q5 := fun A c ps W h1 h2 h3 => impl_end A c (.slice B zs.length cb) l zs ps mi se W h1 h2 h3 f0 f3 hz b1
        have HG : Bx (endE l zs mi se = endC (endW l se zs mi)) := Bx.mk (HF.out.trans (by simp [f0, f1, f3]))
        generalize endW l se zs mi = u at q5 HG
        clear HF f0 f1 f3 hb b1
        cases u with
        | none =>
          have HE : Bx (endE l zs mi se = (0, 6)) := Bx.mk HG.out
          go_enter Try.func47, Try.ntmps47
          go_wp2_with (fail)
          refine q0.mono ?_
          rintro r w1 ⟨rfl, hb⟩
          have B1 := Bx.mk hb
          clear hb
          go_wp2_with (fail)
          refine (q1 _).mono ?_
          rintro r wz ⟨rfl, rfl⟩
          go_wp2_with (fail)
          refine (q3 _ (HI.out.below B1.out)).mono ?_
          rintro r w2 ⟨rfl, hb⟩
          have B2 := Bx.mk (B1.out.trans (hb.mono B1.out.size))
          clear hb
          go_wp2_with (fail)
          refine (q4 _ (HT.out.below B2.out)).mono ?_
          rintro r w3 ⟨A2, c2, ps, rfl, hown, hwin, hb⟩
          have B3 := Bx.mk (B2.out.trans (hb.mono B2.out.size))
          have HS := Bx.mk hown
          have HW := Bx.mk hwin
          have HPL := hwin.len
          clear hown hwin
          clear hb
          go_wp2_with (fail)
          simp only [Option.getD_none, Option.getD_some, Option.isSome_none, Option.isSome_some] at q5
          refine (q5 _ _ _ _ (SltAt.own (by rw [HPL]; exact HS.out)) HW.out (HI.out.below B3.out)).mono ?_
          rintro r w4 ⟨rfl, hb⟩
          have B4 := Bx.mk (B3.out.trans (hb.mono B3.out.size))
          clear hb
          go_wp2_with (fail)
          go_ret2
          exact ⟨by rw [HE.out]; rfl, B4.out⟩
        | some t =>
          have HE : Bx (endE l zs mi se = (t, 0)) := Bx.mk HG.out
          go_enter Try.func47, Try.ntmps47
          go_wp2_with (fail)
          refine q0.mono ?_
          rintro r w1 ⟨rfl, hb⟩
          have B1 := Bx.mk hb
          clear hb
          go_wp2_with (fail)
          refine (q1 _).mono ?_
          rintro r wz ⟨rfl, rfl⟩
          go_wp2_with (fail)
          refine (q3 _ (HI.out.below B1.out)).mono ?_
          rintro r w2 ⟨rfl, hb⟩
          have B2 := Bx.mk (B1.out.trans (hb.mono B1.out.size))
          clear hb
          go_wp2_with (fail)
          refine (q4 _ (HT.out.below B2.out)).mono ?_
          rintro r w3 ⟨A2, c2, ps, rfl, hown, hwin, hb⟩
          have B3 := Bx.mk (B2.out.trans (hb.mono B2.out.size))
          have HS := Bx.mk hown
          have HW := Bx.mk hwin
          have HPL := hwin.len
          clear hown hwin
          clear hb
          go_wp2_with (fail)
          simp only [Option.getD_none, Option.getD_some, Option.isSome_none, Option.isSome_some] at q5
          refine (q5 _ _ _ _ (SltAt.own (by rw [HPL]; exact HS.out)) HW.out (HI.out.below B3.out)).mono ?_
          rintro r w4 ⟨rfl, hb⟩
          have B4 := Bx.mk (B3.out.trans (hb.mono B3.out.size))
          clear hb
          go_wp2_with (fail)
          go_ret2
          exact ⟨by rw [HE.out]; rfl, B4.out⟩
theorem impl_until (mi un : Int) (w : World) (hmi : 0 ≤ mi ∧ mi ≤ 1439) : Calls Try.prog 98 #[.int .i64 un, .int .i64 mi] w fun e w' => e = .returned (.bool (inB un mi (mi + 1440))) ∧ w = w' := by
  have h1 : IntKind.i64.wrap (mi + 1440) = mi + 1440 := IntWalk.i64_in _ (by omega)
  by_cases d1 : mi ≤ un
  · by_cases d2 : un ≤ mi + 1440
    · have HE : Bx (inB un mi (mi + 1440) = true) := Bx.mk (inB_mk ⟨d1, d2⟩)
      have e1 : decide (mi ≤ un) = true := decide_eq_true d1
      have e2 : decide (un ≤ mi + 1440) = true := decide_eq_true d2
      go_enter Try.func98, Try.ntmps98
      go_wp2_with (fail)
      go_ret
      exact ⟨ret_bool (by rw [HE.out]), rfl⟩
    · have HE : Bx (inB un mi (mi + 1440) = false) := Bx.mk (by simp [inB]; omega)
      have e1 : decide (mi ≤ un) = true := decide_eq_true d1
      have e2 : decide (un ≤ mi + 1440) = false := decide_eq_false d2
      go_enter Try.func98, Try.ntmps98
      go_wp2_with (fail)
      go_ret
      exact ⟨ret_bool (by rw [HE.out]), rfl⟩
  · have HE : Bx (inB un mi (mi + 1440) = false) := Bx.mk (by simp [inB]; omega)
    have e1 : decide (mi ≤ un) = false := decide_eq_false d1
    go_enter Try.func98, Try.ntmps98
    go_wp2_with (fail)
    go_ret
    exact ⟨ret_bool (by rw [HE.out]), rfl⟩
set_option maxHeartbeats 4000000 in
theorem impl_isprog (va v : Value) (l : List It) (zs : List Int) (mi un se : Int) (w : World) (h0 : ItsAt w va l) (h : IntC w v zs) (hm : SmI l) (hz : zs.length ≤ 1048576) :
    Calls Try.prog 49 #[va, v, .int .i64 mi, .int .i64 un, .int .i64 se] w fun e w' => e = .returned (.bool (progE l zs mi un se)) ∧ Below w.heap.size w w' := by
  have q0 := fun W h1 h2 => impl_endof va v l zs mi se W h1 h2 hm hz
  have HT := Bx.mk h0
  have HI := Bx.mk h
  have HP : Bx ((endE l zs mi se).2 ≠ 0 ∧ progE l zs mi un se = false ∨ ∃ t, endE l zs mi se = (t, 0) ∧ (0 ≤ mi ∧ mi ≤ 1439) ∧ progE l zs mi un se = (inB un mi (mi + 1440) && decide (t ≤ un))) := Bx.mk (by
    unfold endE progE
    cases f0 : okIts l
    · exact .inl ⟨by simp, by simp⟩
    · cases f1 : (inB mi 0 1439 && inB se 0 5)
      · exact .inl ⟨by simp, by simp⟩
      · cases f3 : ordB l.length zs
        · exact .inl ⟨by simp, by simp⟩
        · cases endW l se zs mi with
          | none => exact .inl ⟨by simp [endC], by simp [prgC]⟩
          | some t => exact .inr ⟨t, by simp [endC], inB_yes (Bool.and_eq_true_iff.1 f1).1, by simp [prgC]⟩)
  obtain ⟨A, c, rfl⟩ := its_len h0
  obtain ⟨B, cb, rfl⟩ := h.rd.len
  clear h h0
  generalize endE l zs mi se = u at *
  obtain ⟨u1, u2⟩ := u
  rcases HP.out with ⟨hne, HE⟩ | ⟨t, he, hmi, HE⟩
  · have HE := Bx.mk HE
    have d0 : (u2 == 0) = false := by simpa using hne
    clear HP hne
    go_enter Try.func49, Try.ntmps49
    go_wp2_with (fail)
    refine (q0 _ HT.out HI.out).mono ?_
    rintro r w1 ⟨rfl, hb⟩
    have B1 := Bx.mk hb
    clear hb
    go_wp2_with (fail)
    go_ret
    exact ⟨ret_bool HE.out.symm, B1.out⟩
  · have HE := Bx.mk HE
    obtain ⟨rfl, rfl⟩ := Prod.mk.inj he
    have qu := fun W => impl_until mi un W hmi
    clear HP he
    cases f4 : inB un mi (mi + 1440)
    · simp only [f4] at qu
      rw [f4] at HE
      go_enter Try.func49, Try.ntmps49
      go_wp2_with (fail)
      refine (q0 _ HT.out HI.out).mono ?_
      rintro r w1 ⟨rfl, hb⟩
      have B1 := Bx.mk hb
      clear hb
      go_wp2_with (fail)
      refine (qu _).mono ?_
      rintro r wz ⟨rfl, rfl⟩
      go_wp2_with (fail)
      go_ret
      exact ⟨ret_bool HE.out.symm, B1.out⟩
    · simp only [f4] at qu
      rw [f4] at HE
      go_enter Try.func49, Try.ntmps49
      go_wp2_with (fail)
      refine (q0 _ HT.out HI.out).mono ?_
      rintro r w1 ⟨rfl, hb⟩
      have B1 := Bx.mk hb
      clear hb
      go_wp2_with (fail)
      refine (qu _).mono ?_
      rintro r wz ⟨rfl, rfl⟩
      go_wp2_with (fail)
      go_ret
      exact ⟨ret_bool HE.out.symm, B1.out⟩
end Go.Proofs.Ytmbillcdlcgjiaa
