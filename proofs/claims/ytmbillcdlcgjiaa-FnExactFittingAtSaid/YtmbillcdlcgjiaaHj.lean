/- Orders of items, when they end, what they are worth: plain facts and the model. -/
import Derived.Test.YtmbillcdlcgjiaaHf
import Derived.Test.YtmbillcdlcgjiaaHe2
import Derived.Test.YtmbillcdlcgjiaaSc2
import Derived.Test.YtmbillcdlcgjiaaPl
namespace Go.Proofs.Ytmbillcdlcgjiaa
open Go.ChangeShapes Go.WideShapes Go.ChangeAt Go.RowKit
set_option linter.unusedVariables false
set_option linter.unusedSimpArgs false
set_option maxRecDepth 100000

/-- different indices of n items -/
def ordB (n : Nat) (zs : List Int) : Bool := (List.range zs.length).all fun i => inB (zs.getD i 0) 0 ((n : Int) - 1) && !hasB (zs.take i) (zs.getD i 0)
theorem ordB_iff (n : Nat) (zs : List Int) : ordB n zs = true ↔ ∀ i, i < zs.length → inB (zs.getD i 0) 0 ((n : Int) - 1) = true ∧ hasB (zs.take i) (zs.getD i 0) = false := by
  simp only [ordB, List.all_eq_true, List.mem_range, Bool.and_eq_true, Bool.not_eq_true']
theorem ordB_no {n : Nat} {zs : List Int} (k : Nat) (hk : k < zs.length) (h : inB (zs.getD k 0) 0 ((n : Int) - 1) = false ∨ hasB (zs.take k) (zs.getD k 0) = true) : ordB n zs = false := by
  cases e : ordB n zs
  · rfl
  · obtain ⟨h1, h2⟩ := (ordB_iff n zs).1 e k hk
    rcases h with h | h
    · rw [h] at h1; cases h1
    · rw [h] at h2; cases h2
/-- when items end, one after the other -/
def endW (l : List It) (s : Int) : List Int → Int → Option Int
  | [], t => some t
  | z :: zs, t => if fitB (iat l z.toNat) s t = true then endW l s zs (t + (iat l z.toNat).m) else none
def worthS (l : List It) : List Int → Int
  | [] => 0
  | z :: zs => (iat l z.toNat).p + worthS l zs
theorem worthS_app (l : List It) (a b : List Int) : worthS l (a ++ b) = worthS l a + worthS l b := by
  induction a with
  | nil => simp [worthS]
  | cons z a ih => simp [worthS, ih]; omega
theorem worthS_take (l : List It) (zs : List Int) (k : Nat) (h : k < zs.length) : worthS l (zs.take (k + 1)) = worthS l (zs.take k) + (iat l (zs.getD k 0).toNat).p := by
  rw [List.take_succ_eq_append_getElem h, worthS_app]
  simp [worthS, h]
theorem dropD (zs : List Int) (k : Nat) (h : k < zs.length) : zs.drop k = zs.getD k 0 :: zs.drop (k + 1) := by
  rw [List.drop_eq_getElem_cons h]; simp [h]
def endC : Option Int → Int × Int
  | none => (0, 6)
  | some t => (t, 0)
def prgC (un : Int) : Option Int → Bool
  | none => false
  | some t => decide (t ≤ un)
def endE (l : List It) (zs : List Int) (mi se : Int) : Int × Int :=
  if okIts l = false then (0, 1) else if (inB mi 0 1439 && inB se 0 5) = false then (0, 2) else if ordB l.length zs = false then (0, 7) else endC (endW l se zs mi)
def worthE (l : List It) (zs : List Int) : Int × Int := if okIts l = false then (0, 1) else if ordB l.length zs = false then (0, 7) else (worthS l zs, 0)
def progE (l : List It) (zs : List Int) (mi un se : Int) : Bool :=
  okIts l && (inB mi 0 1439 && inB se 0 5) && inB un mi (mi + 1440) && ordB l.length zs && prgC un (endW l se zs mi)
theorem okI_at {l : List It} (h : okIts l = true) (k : Nat) (hk : k < l.length) : OkI (iat l k) := (itB_iff _).1 (((okIts_iff l).1 h).2 k hk).1
theorem ints_take {w : World} {b o c k : Nat} {zs : List Int} (hb : b < w.heap.size) (h : ∀ i, i < zs.length → w.cell? ⟨b, o + i, none⟩ = some (.int .i64 (zs.getD i 0))) (hk : k ≤ zs.length) : IntsAt w (.slice (some ⟨b, o, none⟩) k c) (zs.take k) := by
  rcases Nat.eq_zero_or_pos k with h0 | h0
  · subst h0; exact .inl ⟨rfl, _, _, rfl⟩
  · have hl : (zs.take k).length = k := by rw [List.length_take]; omega
    refine .inr ⟨b, o, c, by rw [hl], hb, fun i hi => ?_⟩
    rw [hl] at hi
    rw [h i (by omega)]
    simp [List.getD, hi]
/-- a slice that reads as these numbers, and has room for them -/
def IntC (w : World) (v : Value) (zs : List Int) : Prop := ∃ A c, v = .slice A zs.length c ∧ IntsAt w v zs ∧ zs.length ≤ c
theorem IntC.rd {w : World} {v : Value} {zs : List Int} (h : IntC w v zs) : IntsAt w v zs := by
  obtain ⟨A, c, _, h, _⟩ := h; exact h
theorem IntC.below {w w' : World} {v : Value} {zs : List Int} (h : IntC w v zs) (hb : Below w.heap.size w w') : IntC w' v zs := by
  obtain ⟨A, c, e, h, hc⟩ := h; exact ⟨A, c, e, h.below hb, hc⟩
theorem IntC.own {w : World} {base : Nat} {v : Value} {zs : List Int} (h : w.ownsRow base 2 1 v zs.length (ints zs)) : IntC w v zs := by
  obtain ⟨A, c, e, hc⟩ := own_capN h
  exact ⟨A, c, e, IntsAt.own h, hc⟩
set_option maxHeartbeats 4000000 in
theorem spec_order (A : Option Addr) (n c : Nat) (v : Value) (zs : List Int) (w : World) (h : IntC w v zs) (hn : n ≤ 1048576) (hm : zs.length ≤ 1048576) :
    Calls Try.prog 92 #[.slice A n c, v] w fun e w' => e = .returned (.bool (ordB n zs)) ∧ ∃ m, w' = w.drewN m := by
  obtain ⟨B, cb, rfl, h, hcap⟩ := h
  have HI := Bx.mk h
  have hsub : IntKind.i64.wrap ((n : Int) - 1) = (n : Int) - 1 := IntWalk.i64_in _ (by omega)
  clear h
  go_enter Try.func92, Try.ntmps92
  go_wp2_with (fail)
  go_loopw [5] (fun i wr => ∃ k : Nat, k ≤ zs.length ∧ i = .int .i64 k ∧ Bx (∀ i, i < k → inB (zs.getD i 0) 0 ((n : Int) - 1) = true ∧ hasB (zs.take i) (zs.getD i 0) = false) ∧ ∃ m, wr = w.drewN m) (fun i _ => zs.length - (intOf i).toNat)
  case atStart => exact ⟨0, Nat.zero_le _, rfl, Bx.mk (fun i hi => by omega), 0, rfl⟩
  case round =>
    obtain ⟨k, hk, rfl, HK, hw⟩ := hrel
    by_cases hlt : k < zs.length
    · have HIw : Bx (IntsAt wr (.slice B zs.length cb) zs) := Bx.mk (by obtain ⟨m, rfl⟩ := hw; exact HI.out)
      obtain ⟨b, o, c', e, hb, hc⟩ := HIw.out.form (by omega)
      injection e with e1 e2 e3
      subst e1 e3
      have h1 := hc k hlt
      have x1 : (0 : Int) ≤ (k : Int) := by omega
      have x2 : (k : Int) < (zs.length : Int) := by omega
      have x3 : (k : Int) ≤ (cb : Int) := by omega
      have x4 : k ≤ cb := by omega
      have dlt : decide ((k : Int) < (zs.length : Int)) = true := decide_eq_true x2
      have q1 := fun W => in_any (zs.getD k 0) 0 ((n : Int) - 1) W
      have q2 := fun m => spec_has (.slice (some ⟨b, o, none⟩) k cb) (zs.take k) (zs.getD k 0) (wr.drewN m) (ints_take hb hc (by omega)) (by rw [List.length_take]; omega)
      have HNO := Bx.mk (fun h => ordB_no (n := n) (zs := zs) k hlt h)
      have HY : Bx (inB (zs.getD k 0) 0 ((n : Int) - 1) = true → hasB (zs.take k) (zs.getD k 0) = false → ∀ i, i < k + 1 → inB (zs.getD i 0) 0 ((n : Int) - 1) = true ∧ hasB (zs.take i) (zs.getD i 0) = false) := Bx.mk (fun h2 h3 i hi => by
        by_cases hij : i < k
        · exact HK.out i hij
        · obtain rfl : i = k := (by omega)
          exact ⟨h2, h3⟩)
      clear hc HK HI HIw
      generalize zs.getD k 0 = z at *
      generalize hasB (zs.take k) z = hs at *
      cases f1 : inB z 0 ((n : Int) - 1)
      · have HE : Bx (ordB n zs = false) := Bx.mk (HNO.out (.inl f1))
        simp only [f1] at q1
        clear HNO HY f1
        go_wp2_with (fail)
        go_quiet (first | (go_at_call 70; with_reducible exact quiet_eq (q1 _)) | (go_at_call 105; with_reducible exact quiet_eq (q2 _)))
        go_wp2_with (fail)
        go_ret
        exact ⟨ret_bool HE.out.symm, drmore hw _⟩
      · simp only [f1] at q1
        cases hs
        · have HS := Bx.mk (HY.out f1 rfl)
          clear HNO HY f1
          go_wp2_with (fail)
          go_quiet (first | (go_at_call 70; with_reducible exact quiet_eq (q1 _)) | (go_at_call 105; with_reducible exact quiet_eq (q2 _)))
          go_wp2_with (fail)
          go_roundw
          case rel => exact ⟨k + 1, by omega, by go_num, HS, drmore hw _⟩
          case measure => simp [intOf]; omega
        · have HE : Bx (ordB n zs = false) := Bx.mk (HNO.out (.inr rfl))
          clear HNO HY f1
          go_wp2_with (fail)
          go_quiet (first | (go_at_call 70; with_reducible exact quiet_eq (q1 _)) | (go_at_call 105; with_reducible exact quiet_eq (q2 _)))
          go_wp2_with (fail)
          go_ret
          exact ⟨ret_bool HE.out.symm, drmore hw _⟩
    · obtain rfl : k = zs.length := by omega
      have dlt : decide ((zs.length : Int) < (zs.length : Int)) = false := decide_eq_false (by omega)
      have HE : Bx (ordB n zs = true) := Bx.mk ((ordB_iff n zs).2 HK.out)
      clear HK
      go_wp2_with (fail)
      go_ret
      exact ⟨ret_bool HE.out.symm, hw⟩
end Go.Proofs.Ytmbillcdlcgjiaa
