/- EndOf, WorthOf, IsProgramme: the model. -/
import Derived.Test.YtmbillcdlcgjiaaHj
import Derived.Test.YtmbillcdlcgjiaaHe3
namespace Go.Proofs.Ytmbillcdlcgjiaa
open Go.ChangeShapes Go.WideShapes Go.ChangeAt Go.RowKit
set_option linter.unusedVariables false
set_option linter.unusedSimpArgs false
set_option maxRecDepth 100000

theorem its_cells {w : World} {A : Option Addr} {c n : Nat} {l : List It} (h : ItsAt w (.slice A n c) l) (h0 : 0 < l.length) : ∃ b o, A = some ⟨b, o, none⟩ ∧ n = l.length ∧ b < w.heap.size ∧ ∀ k, k < l.length → C6 w b (o + k * 6) (iat l k) := by
  obtain ⟨b, o, c', e, hb, hx⟩ := h.form h0
  injection e with e1 e2 e3
  exact ⟨b, o, e1, e2, hb, hx⟩
set_option maxHeartbeats 4000000 in
theorem spec_end (va v : Value) (l : List It) (zs : List Int) (mi se : Int) (w : World) (h0 : ItsAt w va l) (h : IntsAt w v zs) (hok : okIts l = true) (hord : ordB l.length zs = true) (hm : zs.length ≤ 1048576) (hmi : 0 ≤ mi ∧ mi ≤ 1439) (hse : 0 ≤ se) :
    Calls Try.prog 93 #[va, v, .int .i64 mi, .int .i64 se] w fun e w' => e = .returned (.tuple #[.int .i64 ((endW l se zs mi).getD 0), .bool (endW l se zs mi).isSome]) ∧ ∃ m, w' = w.drewN m := by
  obtain ⟨A, c, rfl⟩ := its_len h0
  obtain ⟨B, cb, rfl⟩ := h.len
  have HI := Bx.mk h
  have HT := Bx.mk h0
  have HO := Bx.mk ((ordB_iff _ _).1 hord)
  have HK := Bx.mk (fun k hk => okI_at hok k hk)
  clear h h0 hok hord
  go_enter Try.func93, Try.ntmps93
  go_wp2_with (fail)
  go_loopw [10, 11] (fun tv i wr => ∃ (k : Nat) (t : Int), k ≤ zs.length ∧ i = .int .i64 k ∧ tv = .int .i64 t ∧ (0 ≤ t ∧ t ≤ 1439 + 240 * (k : Int)) ∧ Bx (endW l se zs mi = endW l se (zs.drop k) t) ∧ ∃ m, wr = w.drewN m) (fun _ i _ => zs.length - (intOf i).toNat)
  case atStart => exact ⟨0, mi, Nat.zero_le _, rfl, rfl, by omega, Bx.mk rfl, 0, rfl⟩
  case round =>
    obtain ⟨k, t, hk, rfl, rfl, ht, HE, hw⟩ := hrel
    by_cases hlt : k < zs.length
    · obtain ⟨hz1, hz2⟩ := HO.out k hlt
      have hzb := inB_yes hz1
      have HIw : Bx (IntsAt wr (.slice B zs.length cb) zs) := Bx.mk (by obtain ⟨m, rfl⟩ := hw; exact HI.out)
      have HTw : Bx (ItsAt wr (.slice A l.length c) l) := Bx.mk (by obtain ⟨m, rfl⟩ := hw; exact HT.out.draws m)
      obtain ⟨b, o, c', e, hb, hc⟩ := HIw.out.form (by omega)
      injection e with e1 e2 e3
      subst e1 e3
      have h1 := hc k hlt
      obtain ⟨n, hn⟩ : ∃ n : Nat, zs.getD k 0 = (n : Int) := ⟨(zs.getD k 0).toNat, by omega⟩
      have hnl : n < l.length := by omega
      obtain ⟨b2, o2, rfl, _, hb2, hx⟩ := its_cells HTw.out (by omega)
      have c4 := (hx n hnl).c4
      have hf := fun m => spec_fits b2 (o2 + n * 6) (iat l n) t se (wr.drewN m) (c6dr (hx n hnl) m) hb2 (HK.out n hnl) ⟨ht.1, by omega⟩ hse
      have hmm := (HK.out n hnl).m
      have HE2 : Bx (endW l se zs mi = if fitB (iat l n) se t = true then endW l se (zs.drop (k + 1)) (t + (iat l n).m) else none) := Bx.mk (by
        rw [HE.out, dropD zs k hlt, hn]; rfl)
      have x1 : (0 : Int) ≤ (k : Int) := by omega
      have x2 : (k : Int) < (zs.length : Int) := by omega
      have dlt : decide ((k : Int) < (zs.length : Int)) = true := decide_eq_true x2
      have y1 : (0 : Int) ≤ (n : Int) := by omega
      have y2 : (n : Int) < (l.length : Int) := by omega
      rw [hn] at h1
      clear hc hx HE HIw HTw hz1 hz2 hzb
      have hwr : IntKind.i64.wrap (t + (iat l n).m) = t + (iat l n).m := IntWalk.i64_in _ (by omega)
      have HF := Bx.mk hf
      generalize hfd : fitB (iat l n) se t = fd at *
      generalize (iat l n).m = m1 at *
      cases fd
      · have HN : Bx (endW l se zs mi = none) := Bx.mk HE2.out
        clear HE2 hfd hf
        go_wp2_with (fail)
        refine (HF.out 0).mono ?_
        rintro r w1 ⟨rfl, m, rfl⟩
        go_wp2_with (fail)
        go_ret2
        exact ⟨by rw [HN.out]; rfl, drmore hw _⟩
      · have HS : Bx (endW l se zs mi = endW l se (zs.drop (k + 1)) (t + m1)) := Bx.mk HE2.out
        clear HE2 hfd hf
        go_wp2_with (fail)
        refine (HF.out 0).mono ?_
        rintro r w1 ⟨rfl, m, rfl⟩
        have c4' : (wr.drewN m).cell? ⟨b2, o2 + n * 6 + 4, none⟩ = some (.int .i64 m1) := c4
        go_wp2_with (fail)
        go_roundw
        case rel => exact ⟨k + 1, t + m1, by omega, by go_num, by first | rfl | simp [hwr], by omega, HS, drmore hw _⟩
        case measure => simp [intOf]; omega
    · obtain rfl : k = zs.length := by omega
      have dlt : decide ((zs.length : Int) < (zs.length : Int)) = false := decide_eq_false (by omega)
      have HN : Bx (endW l se zs mi = some t) := Bx.mk (by rw [HE.out, List.drop_length]; rfl)
      clear HE
      go_wp2_with (fail)
      go_ret2
      exact ⟨by rw [HN.out]; rfl, hw⟩
set_option maxHeartbeats 4000000 in
theorem spec_worth (va v : Value) (l : List It) (zs : List Int) (w : World) (h0 : ItsAt w va l) (h : IntsAt w v zs) (hok : okIts l = true) (hord : ordB l.length zs = true) (hm : zs.length ≤ 1048576) :
    Calls Try.prog 99 #[va, v] w fun e w' => e = .returned (.int .i64 (worthS l zs)) ∧ w = w' := by
  obtain ⟨A, c, rfl⟩ := its_len h0
  obtain ⟨B, cb, rfl⟩ := h.len
  have HI := Bx.mk h
  have HT := Bx.mk h0
  have HO := Bx.mk ((ordB_iff _ _).1 hord)
  have HK := Bx.mk (fun k hk => okI_at hok k hk)
  clear h h0 hok hord
  go_enter Try.func99, Try.ntmps99
  go_wp2_with (fail)
  go_loopw [5, 6] (fun tv i wr => ∃ (k : Nat) (t : Int), k ≤ zs.length ∧ i = .int .i64 k ∧ tv = .int .i64 t ∧ (0 ≤ t ∧ t ≤ 1000 * (k : Int)) ∧ Bx (worthS l (zs.take k) = t) ∧ wr = w) (fun _ i _ => zs.length - (intOf i).toNat)
  case atStart => exact ⟨0, 0, Nat.zero_le _, rfl, rfl, by omega, Bx.mk rfl, rfl⟩
  case round =>
    obtain ⟨k, t, hk, rfl, rfl, ht, HE, rfl⟩ := hrel
    by_cases hlt : k < zs.length
    · obtain ⟨hz1, hz2⟩ := HO.out k hlt
      have hzb := inB_yes hz1
      obtain ⟨b, o, c', e, hb, hc⟩ := HI.out.form (by omega)
      injection e with e1 e2 e3
      subst e1 e3
      have h1 := hc k hlt
      obtain ⟨n, hn⟩ : ∃ n : Nat, zs.getD k 0 = (n : Int) := ⟨(zs.getD k 0).toNat, by omega⟩
      have hnl : n < l.length := by omega
      obtain ⟨b2, o2, rfl, _, hb2, hx⟩ := its_cells HT.out (by omega)
      have c5 := (hx n hnl).c5
      have hpp := (HK.out n hnl).p
      have HS : Bx (worthS l (zs.take (k + 1)) = t + (iat l n).p) := Bx.mk (by rw [worthS_take l zs k hlt, HE.out, hn]; rfl)
      have x1 : (0 : Int) ≤ (k : Int) := by omega
      have x2 : (k : Int) < (zs.length : Int) := by omega
      have dlt : decide ((k : Int) < (zs.length : Int)) = true := decide_eq_true x2
      have y1 : (0 : Int) ≤ (n : Int) := by omega
      have y2 : (n : Int) < (l.length : Int) := by omega
      rw [hn] at h1
      clear hc hx HE hz1 hz2 hzb
      have hwr : IntKind.i64.wrap (t + (iat l n).p) = t + (iat l n).p := IntWalk.i64_in _ (by omega)
      generalize (iat l n).p = m1 at *
      go_wp2_with (fail)
      try go_quiet (fail)
      try go_wp2_with (fail)
      go_roundw
      case rel => exact ⟨k + 1, t + m1, by omega, by go_num, by first | rfl | simp [hwr], by omega, HS, by first | rfl | trivial⟩
      case measure => simp [intOf]; omega
    · obtain rfl : k = zs.length := by omega
      have dlt : decide ((zs.length : Int) < (zs.length : Int)) = false := decide_eq_false (by omega)
      have HN : Bx (worthS l zs = t) := Bx.mk (by have := HE.out; rwa [List.take_length] at this)
      clear HE
      go_wp2_with (fail)
      go_ret
      exact ⟨ret_int HN.out.symm, rfl⟩
end Go.Proofs.Ytmbillcdlcgjiaa
