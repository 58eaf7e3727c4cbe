/- FirstWrong: the model. -/
import Derived.Test.YtobhmoohalkijaaRw
namespace Go.Proofs.Ytobhmoohalkijaa
open Go.ChangeShapes Go.WideShapes Go.ChangeAt Go.RowKit
set_option linter.unusedVariables false
set_option linter.unusedSimpArgs false
set_option maxRecDepth 100000

def askZ (R : Rg) (zs : List Int) : Int := if okG R = true then (if pitB zs = true then 0 else 7) else 1
theorem spec_ask (g : Nat) (R : Rg) (v : Value) (zs : List Int) (w : World) (h : PtrAt w g R) (hm : Sm R) (hv : IntsAt w v zs) (hz : zs.length ≤ 1048576) :
    Calls Try.prog 82 #[.pointer (some ⟨g, 0, none⟩), v] w fun e w' => e = .returned (.int .i64 (askZ R zs)) ∧ ∃ n, w' = w.drewN n := by
  have hk := spec_ok5 g R w h hm
  have hp := fun m => spec_pits v zs (w.drewN m) hv hz
  have HO : Bx (askZ R zs = if okG R = true then (if pitB zs = true then 0 else 7) else 1) := Bx.mk rfl
  obtain ⟨A, c, rfl⟩ := ints_form hv
  clear h hv hm hz
  generalize askZ R zs = z at HO ⊢
  generalize okG R = b0 at hk HO
  generalize pitB zs = b1 at hp HO
  cases b0
  · have HE : Bx (z = 1) := Bx.mk (by rw [HO.out]; rfl)
    clear HO
    go_enter Try.func82, Try.ntmps82
    go_wp2_with (fail)
    refine hk.mono ?_
    rintro r w1 ⟨rfl, n, rfl⟩
    go_wp2_with (fail)
    go_ret
    exact ⟨ret_int HE.out.symm, _, rfl⟩
  · cases b1
    · have HE : Bx (z = 7) := Bx.mk (by rw [HO.out]; rfl)
      clear HO
      go_enter Try.func82, Try.ntmps82
      go_wp2_with (fail)
      refine hk.mono ?_
      rintro r w1 ⟨rfl, n, rfl⟩
      go_wp2_with (fail)
      refine (hp _).mono ?_
      rintro r w1 ⟨rfl, rfl⟩
      go_wp2_with (fail)
      go_ret
      exact ⟨ret_int HE.out.symm, _, rfl⟩
    · have HE : Bx (z = 0) := Bx.mk (by rw [HO.out]; rfl)
      clear HO
      go_enter Try.func82, Try.ntmps82
      go_wp2_with (fail)
      refine hk.mono ?_
      rintro r w1 ⟨rfl, n, rfl⟩
      go_wp2_with (fail)
      refine (hp _).mono ?_
      rintro r w1 ⟨rfl, rfl⟩
      go_wp2_with (fail)
      go_ret
      exact ⟨ret_int HE.out.symm, _, rfl⟩
theorem tupE {t : Int × Int} {a b : Int} (h : t = (a, b)) : Ending.returned (.tuple #[.int .i64 a, .int .i64 b]) = .returned (.tuple #[.int .i64 t.1, .int .i64 t.2]) := by
  subst h; rfl
/-- what l05Wrong returns -/
def wrongE (R : Rg) (zs : List Int) : Int × Int := match (List.range zs.length).find? (fun i => wrongAt R zs i != 0) with | some i => ((i : Int), wrongAt R zs i) | none => (-1, 0)
theorem wrong_hit {R : Rg} {zs : List Int} (k : Nat) (hk : k < zs.length) (h : wrongAt R zs k ≠ 0) (hn : ∀ i, i < k → wrongAt R zs i = 0) : wrongE R zs = ((k : Int), wrongAt R zs k) := by
  unfold wrongE
  have : (List.range zs.length).find? (fun i => wrongAt R zs i != 0) = some k := by
    rw [List.find?_range_eq_some]
    exact ⟨by simpa using h, by simpa using hk, fun j hj => by simpa using hn j hj⟩
  rw [this]
theorem wrong_miss {R : Rg} {zs : List Int} (hn : ∀ i, i < zs.length → wrongAt R zs i = 0) : wrongE R zs = (-1, 0) := by
  unfold wrongE
  have : (List.range zs.length).find? (fun i => wrongAt R zs i != 0) = none := by
    rw [List.find?_range_eq_none]
    intro i hi
    simpa using hn i hi
  rw [this]
set_option maxHeartbeats 4000000 in
theorem spec_wrong (g : Nat) (R : Rg) (v : Value) (zs : List Int) (w : World) (h : PtrAt w g R) (hm : Sm R) (hok : OkG R) (hv : IntsAt w v zs) (hp : pitB zs = true) :
    Calls Try.prog 83 #[.pointer (some ⟨g, 0, none⟩), v] w fun e w' => e = .returned (.tuple #[.int .i64 (wrongE R zs).1, .int .i64 (wrongE R zs).2]) ∧ ∃ n, w' = w.drewN n := by
  obtain ⟨A, c, rfl⟩ := ints_form hv
  have HI := Bx.mk hv
  have hz := (pit_yes hp).1
  have HP := Bx.mk (pit_yes hp).2
  have HR := Bx.mk (fun p q m h1 h2 => spec_reason g R p q (w.drewN m) (show PtrAt (w.drewN m) g R from h) hm hok h1 h2)
  have HT := Bx.mk (fun t m => spec_tone5 g R t (w.drewN m) (show PtrAt (w.drewN m) g R from h) hm)
  have hto := fun p W => spec_tone p W
  have HOK := Bx.mk hok
  clear h hm hok hv hp
  go_enter Try.func83, Try.ntmps83
  go_wp2_with (fail)
  go_loopw [6] (fun i wr => ∃ k : Nat, k ≤ zs.length ∧ i = .int .i64 k ∧ Bx (∀ i, i < k → wrongAt R zs i = 0) ∧ Bx (∃ n, wr = w.drewN n)) (fun i _ => zs.length - (intOf i).toNat)
  case atStart => exact ⟨0, Nat.zero_le _, rfl, Bx.mk (fun i hi => absurd hi (Nat.not_lt_zero _)), Bx.mk ⟨0, rfl⟩⟩
  case round =>
    obtain ⟨k, hk, rfl, HK, HW⟩ := hrel
    by_cases hlt : k < zs.length
    · obtain ⟨b, o, cc, hv, _, hc⟩ := HI.out.form (by omega)
      injection hv with hA _ hC
      subst hA hC
      have hc : ∀ k, k < zs.length → wr.cell? ⟨b, o + k, none⟩ = some (.int .i64 (zs.getD k 0)) := by obtain ⟨n, rfl⟩ := HW.out; exact hc
      have h1 := hc k hlt
      have k1 : (0 : Int) ≤ (k : Int) := by omega
      have k2 : (k : Int) < (zs.length : Int) := by omega
      have HS0 : Bx (wrongAt R zs k = 0 → ∀ i, i < k + 1 → wrongAt R zs i = 0) := Bx.mk (fun h i hi => by
        by_cases hik : i = k
        · subst hik; exact h
        · exact HK.out i (by omega))
      have HH := Bx.mk (fun h => wrong_hit (R := R) k hlt h HK.out)
      cases k with
      | zero =>
        have hw0 : wrongAt R zs 0 = if hasT R (zs.getD 0 0 % 12) = true then 0 else 1 := reason_self HOK.out _
        have ht := HT.out (zs.getD 0 0 % 12)
        have hto0 := fun W => hto (zs.getD 0 0) W
        have d0 : decide ((0 : Int) > 0) = false := by decide
        have d1 : decide ((1 : Int) > 0) = true := by decide
        simp only [Nat.add_zero] at h1
        have htw : Calls Try.prog 80 #[.pointer (some ⟨g, 0, none⟩), .int .i64 (zs.getD 0 0 % 12)] wr fun e w' => e = .returned (.bool (hasT R (zs.getD 0 0 % 12))) ∧ wr = w' := by obtain ⟨n, rfl⟩ := HW.out; exact ht n
        cases hb : hasT R (zs.getD 0 0 % 12)
        · rw [hb] at hw0 htw
          have HE : Bx (wrongE R zs = (0, 1)) := Bx.mk (by have := HH.out (by rw [hw0]; simp); rw [this, hw0]; rfl)
          clear hb hw0 ht HT HR HP HI HK HS0 HH hc hto
          generalize zs.getD 0 0 = z at *
          generalize z % 12 = a at *
          go_wp2_with (fail)
          refine (hto0 _).mono ?_
          rintro r w1 ⟨rfl, rfl⟩
          go_wp2_with (fail)
          refine htw.mono ?_
          rintro r w1 ⟨rfl, rfl⟩
          go_wp2_with (fail)
          go_returns
          exact ⟨tupE HE.out, HW.out⟩
        · rw [hb] at hw0 htw
          have HS := Bx.mk (HS0.out (by rw [hw0]; rfl))
          clear hb hw0 ht HT HR HP HI HK HS0 HH hc hto
          generalize zs.getD 0 0 = z at *
          generalize z % 12 = a at *
          go_wp2_with (fail)
          refine (hto0 _).mono ?_
          rintro r w1 ⟨rfl, rfl⟩
          go_wp2_with (fail)
          refine htw.mono ?_
          rintro r w1 ⟨rfl, rfl⟩
          go_wp2_with (fail)
          go_roundw
          case rel => exact ⟨1, by omega, by go_num, HS, HW⟩
          case measure => simp [intOf]; omega
      | succ j =>
        have h0 := hc j (by omega)
        have hr := fun m => HR.out (zs.getD j 0) (zs.getD (j + 1) 0) m (HP.out j (by omega)) (HP.out (j + 1) hlt)
        have hrw : ∀ m, Calls Try.prog 95 #[.pointer (some ⟨g, 0, none⟩), .int .i64 (zs.getD j 0), .int .i64 (zs.getD (j + 1) 0)] (wr.drewN m) fun e w' => e = .returned (.int .i64 (wrongAt R zs (j + 1))) ∧ ∃ n, w' = (wr.drewN m).drewN n := fun m => by
          obtain ⟨n, rfl⟩ := HW.out
          rw [World.drewN_drewN]
          exact hr _
        have y1 : (0 : Int) ≤ (j : Int) + 1 := by omega
        have y2 : (j : Int) + 1 < (zs.length : Int) := by omega
        have y3 : ((j : Int) + 1).toNat = j + 1 := by omega
        have x3 : decide ((j : Int) + 1 > 0) = true := decide_eq_true (by omega)
        have x4 : IntKind.i64.wrap ((j : Int) + 1 - 1) = (j : Int) := by rw [show (j : Int) + 1 - 1 = j by omega]; exact IntWalk.i64_in _ (by omega)
        have x5 : (0 : Int) ≤ (j : Int) := by omega
        have x6 : (j : Int) < (zs.length : Int) := by omega
        have hnn : 0 ≤ wrongAt R zs (j + 1) := reason_nn _ _ _
        clear hr HT HR HP HI HK hc hto
        generalize wrongAt R zs (j + 1) = rz at *
        generalize zs.getD (j + 1) 0 = z at *
        generalize zs.getD j 0 = y at *
        by_cases hz0 : rz = 0
        · have HS := Bx.mk (HS0.out hz0)
          subst hz0
          have d0 : decide ((0 : Int) > 0) = false := by decide
          clear HS0 HH hnn
          go_wp2_with (fail)
          go_quiet ((go_at_call 95; with_reducible exact quiet_dr (hrw _)))
          go_wp2_with (fail)
          go_roundw
          case rel => exact ⟨j + 1 + 1, by omega, by go_num, HS, Bx.mk (drmore HW.out _)⟩
          case measure => simp [intOf]; omega
        · have HE := Bx.mk (HH.out hz0)
          have d0 : decide (rz > 0) = true := decide_eq_true (by omega)
          clear HS0 HH hnn hz0
          go_wp2_with (fail)
          go_quiet ((go_at_call 95; with_reducible exact quiet_dr (hrw _)))
          go_wp2_with (fail)
          go_returns
          exact ⟨tupE (HE.out.trans (by simp)), drmore HW.out _⟩
    · obtain rfl : k = zs.length := by omega
      have HE := Bx.mk (wrong_miss HK.out)
      go_wp2_with (fail)
      go_returns
      exact ⟨tupE HE.out, HW.out⟩
theorem first_wrong {R : Rg} {zs : List Int} (ho : okG R = true) (hp : pitB zs = true) : firstE R zs = if (wrongE R zs).1 < 0 then (0, 0, 3) else ((wrongE R zs).1, (wrongE R zs).2, 0) := by
  unfold firstE wrongE
  rw [ho, hp]
  cases (List.range zs.length).find? (fun i => wrongAt R zs i != 0) with
  | none => rfl
  | some i => simp
set_option maxHeartbeats 4000000 in
theorem spec_first (v u : Value) (R : Rg) (zs : List Int) (w : World) (h : RgAt w v R) (hm : Sm R) (hu : IntsAt w u zs) (hz : zs.length ≤ 1048576) :
    Calls Try.prog 50 #[v, u] w (Out3 (firstE R zs) w) := by
  obtain ⟨A, a, B, b, C, c, rfl, i1, i2, i3⟩ := rg_form h
  obtain ⟨D, d, rfl⟩ := ints_form hu
  have hb : Below w.heap.size w (w.alloc (.cells #[.string R.s, .slice A R.u.length a, .slice B R.d.length b, .int .i64 R.x, .int .i64 R.y, .slice C R.f.length c] 32)) := (Below.refl _ _).alloc (Nat.le_refl _) _
  have HX := BoxN.at w w.heap.size #[.string R.s, .slice A R.u.length a, .slice B R.d.length b, .int .i64 R.x, .int .i64 R.y, .slice C R.f.length c] 32 rfl
  generalize hW : w.alloc (.cells #[.string R.s, .slice A R.u.length a, .slice B R.d.length b, .int .i64 R.x, .int .i64 R.y, .slice C R.f.length c] 32) = W at hb HX
  have hk := spec_ask w.heap.size R _ zs W ⟨_, HX, h.below hb⟩ hm (hu.below hb) hz
  have HR := Bx.mk (fun (hok : OkG R) (hp : pitB zs = true) m => spec_wrong w.heap.size R _ zs (W.drewN m) ⟨_, HX, h.below (below_draws hb m)⟩ hm hok (hu.below (below_draws hb m)) hp)
  have HB := Bx.mk hb
  clear h i1 i2 i3 hm HX hb hu
  cases e0 : okG R
  · have HE : Bx (firstE R zs = (0, 0, 1)) := Bx.mk (by unfold firstE; rw [e0]; rfl)
    rw [show askZ R zs = 1 by unfold askZ; rw [e0]; rfl] at hk
    clear e0 HR
    go_enter Try.func50, Try.ntmps50
    go_wp2_with (fail)
    refine hk.mono ?_
    rintro r w1 ⟨rfl, n, rfl⟩
    go_wp2_with (fail)
    go_returns
    exact out3 HE.out (below_draws HB.out _)
  · cases e1 : pitB zs
    · have HE : Bx (firstE R zs = (0, 0, 7)) := Bx.mk (by unfold firstE; rw [e0, e1]; rfl)
      rw [show askZ R zs = 7 by unfold askZ; rw [e0, e1]; rfl] at hk
      clear e0 e1 HR
      go_enter Try.func50, Try.ntmps50
      go_wp2_with (fail)
      refine hk.mono ?_
      rintro r w1 ⟨rfl, n, rfl⟩
      go_wp2_with (fail)
      go_returns
      exact out3 HE.out (below_draws HB.out _)
    · have HE0 := Bx.mk (first_wrong e0 e1)
      rw [show askZ R zs = 0 by unfold askZ; rw [e0, e1]; rfl] at hk
      have hr := fun m => HR.out (ok_yes e0) e1 m
      clear e0 e1 HR
      generalize wrongE R zs = t at hr HE0
      obtain ⟨t1, t2⟩ := t
      dsimp only at hr HE0
      by_cases hn : t1 < 0
      · have HE : Bx (firstE R zs = (0, 0, 3)) := Bx.mk (HE0.out.trans (if_pos hn))
        have d1 : decide (t1 < 0) = true := decide_eq_true hn
        clear hn HE0
        go_enter Try.func50, Try.ntmps50
        go_wp2_with (fail)
        refine hk.mono ?_
        rintro r w1 ⟨rfl, n, rfl⟩
        go_wp2_with (fail)
        refine (hr _).mono ?_
        rintro r w1 ⟨rfl, n2, rfl⟩
        go_wp2_with (fail)
        go_returns
        exact out3 HE.out (below_draws HB.out _)
      · have HE : Bx (firstE R zs = (t1, t2, 0)) := Bx.mk (HE0.out.trans (if_neg hn))
        have d1 : decide (t1 < 0) = false := decide_eq_false hn
        clear hn HE0
        go_enter Try.func50, Try.ntmps50
        go_wp2_with (fail)
        refine hk.mono ?_
        rintro r w1 ⟨rfl, n, rfl⟩
        go_wp2_with (fail)
        refine (hr _).mono ?_
        rintro r w1 ⟨rfl, n2, rfl⟩
        go_wp2_with (fail)
        go_returns
        exact out3 HE.out (below_draws HB.out _)
end Go.Proofs.Ytobhmoohalkijaa
