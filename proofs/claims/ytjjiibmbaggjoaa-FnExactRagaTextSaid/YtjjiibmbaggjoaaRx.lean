/- Ragas: texts, by the model. -/
import Derived.Test.YtjjiibmbaggjoaaRs2
import Derived.Test.YtjjiibmbaggjoaaSc14
namespace Go.Proofs.Ytjjiibmbaggjoaa
open Go.ChangeShapes Go.WideShapes Go.ChangeAt Go.RowKit
set_option linter.unusedVariables false
set_option linter.unusedSimpArgs false
set_option maxRecDepth 100000

def nmT (m : Int) : ByteArray := namesS.extract m.toNat (m.toNat + 1)
def headS (R : Rg) : ByteArray := ((((((R.s ++ ⟨#[32]⟩) ++ ⟨(textL R.u R.u.length).toArray⟩) ++ ⟨#[32]⟩) ++ ⟨(textL R.d R.d.length).toArray⟩) ++ ⟨#[32]⟩) ++ nmT R.x) ++ nmT R.y
def ragaS (R : Rg) : Nat → ByteArray
  | 0 => headS R
  | k + 1 => ragaS R k ++ ((⟨#[32]⟩ ++ nmT ((R.f.getD k []).getD 0 0)) ++ nmT ((R.f.getD k []).getD 1 0))
def ragaT (R : Rg) : ByteArray := if okG R = true then ragaS R R.f.length else ⟨#[]⟩
theorem app_size (a b : ByteArray) : (a ++ b).size = a.size + b.size := by simp
theorem nmT_size {m : Int} (h : 0 ≤ m ∧ m ≤ 11) : (nmT m).size = 1 := by
  obtain ⟨k, rfl⟩ := Int.eq_ofNat_of_zero_le h.1
  unfold nmT
  rw [show ((k : Int)).toNat = k from rfl, names_ext k (by omega)]
  rfl
theorem nm_size {s : ByteArray} (h : nmB s.data.toList = true) : s.size ≤ 10 := by
  apply Classical.byContradiction
  intro hn
  rw [nm_long s (by omega)] at h
  exact absurd h (by decide)
theorem txt_size (zs : List Int) : (⟨(textL zs zs.length).toArray⟩ : ByteArray).size = zs.length := by
  show (textL zs zs.length).toArray.size = _
  simp [textL]
theorem head_size {R : Rg} (h : OkG R) : (headS R).size ≤ 64 := by
  have h1 := nm_size h.n
  have h2 := txt_size R.u
  have h3 := txt_size R.d
  have h4 := nmT_size (hast_rng h h.x)
  have h5 := nmT_size (hast_rng h h.y)
  obtain ⟨⟨l1, l2⟩, _, _⟩ := scale_yes h.u
  obtain ⟨⟨l3, l4⟩, _, _⟩ := scale_yes h.d
  have h6 : (⟨#[32]⟩ : ByteArray).size = 1 := rfl
  unfold headS
  simp only [app_size]
  omega
theorem raga_size {R : Rg} (h : OkG R) : ∀ k, k ≤ R.f.length → (ragaS R k).size ≤ 64 + 3 * k := by
  intro k
  induction k with
  | zero => intro _; exact head_size h
  | succ k ih =>
    intro hk
    have h0 := ih (by omega)
    obtain ⟨a, b, he, ha, hb, _⟩ := pairs_at h.f k (by omega)
    have h4 := nmT_size ha
    have h5 := nmT_size hb
    have h6 : (⟨#[32]⟩ : ByteArray).size = 1 := rfl
    unfold ragaS
    rw [he]
    simp only [app_size]
    show (ragaS R k).size + (_ + (nmT a).size + (nmT b).size) ≤ _
    omega
set_option maxHeartbeats 4000000 in
theorem spec_l05text (g : Nat) (R : Rg) (w : World) (h : PtrAt w g R) (hok : OkG R) :
    Calls Try.prog 82 #[.pointer (some ⟨g, 0, none⟩)] w fun e w' => e = .returned (.string (ragaS R R.f.length)) ∧ ∃ n, w' = w.drewN n := by
  obtain ⟨A, a0, B, b0, C, c0, hx, i1, i2, i3⟩ := ptr_form h
  have hna : ∀ w, Calls Try.prog 110 #[] w fun e w' => e = .returned (.string namesS) ∧ w = w' := spec_names
  have hu := fun m => spec_text _ R.u (w.drewN m) (i1.draws m) hok.u
  have hd := fun m => spec_text _ R.d (w.drewN m) (i2.draws m) hok.d
  have x0 := hx.c (k := 0) rfl
  have x1 := hx.c (k := 1) rfl
  have x2 := hx.c (k := 2) rfl
  have x3 := hx.c (k := 3) rfl
  have x4 := hx.c (k := 4) rfl
  have x5 := hx.c (k := 5) rfl
  have xl := hx.lt
  have HP := Bx.mk (pairs_yes hok.f).1
  have HA := Bx.mk (pairs_at hok.f)
  have HR := Bx.mk i3
  obtain ⟨xa, xb⟩ := hast_rng hok hok.x
  obtain ⟨ya, yb⟩ := hast_rng hok hok.y
  have HS := Bx.mk (raga_size hok)
  have s1 := nm_size hok.n
  have s2 := txt_size R.u
  have s3 := txt_size R.d
  have HX := Bx.mk (nmT_size (hast_rng hok hok.x))
  have HY := Bx.mk (nmT_size (hast_rng hok hok.y))
  obtain ⟨⟨l1, l2⟩, _, _⟩ := scale_yes hok.u
  obtain ⟨⟨l3, l4⟩, _, _⟩ := scale_yes hok.d
  clear h i1 i2 i3 hok hx
  have H0 : Bx (ragaS R 0 = ((((((R.s ++ ⟨#[32]⟩) ++ ⟨(textL R.u R.u.length).toArray⟩) ++ ⟨#[32]⟩) ++ ⟨(textL R.d R.d.length).toArray⟩) ++ ⟨#[32]⟩) ++ namesS.extract R.x.toNat (R.x.toNat + 1)) ++ namesS.extract R.y.toNat (R.y.toNat + 1)) := Bx.mk rfl
  have HK : Bx (∀ k a b, R.f.getD k [] = [a, b] → ragaS R (k + 1) = ragaS R k ++ ((⟨#[32]⟩ ++ namesS.extract a.toNat (a.toNat + 1)) ++ namesS.extract b.toNat (b.toNat + 1))) := Bx.mk (fun k a b h => by show ragaS R k ++ ((⟨#[32]⟩ ++ nmT ((R.f.getD k []).getD 0 0)) ++ nmT ((R.f.getD k []).getD 1 0)) = _; rw [h]; rfl)
  have hS : namesS.size = 12 := rfl
  generalize (⟨(textL R.u R.u.length).toArray⟩ : ByteArray) = U at *
  generalize (⟨(textL R.d R.d.length).toArray⟩ : ByteArray) = D at *
  generalize R.u.length = nu at *
  generalize R.d.length = nd at *
  obtain ⟨mx, hmx⟩ := Int.eq_ofNat_of_zero_le xa
  obtain ⟨my, hmy⟩ := Int.eq_ofNat_of_zero_le ya
  have HMX := Bx.mk hmx
  have HMY := Bx.mk hmy
  rw [hmx] at x3 xb
  rw [hmy] at x4 yb
  clear hmx hmy xa ya
  have E1 : IntKind.i64.wrap ((mx : Int) + 1) = (mx : Int) + 1 := IntWalk.i64_in _ (by omega)
  have E2 : IntKind.i64.wrap ((my : Int) + 1) = (my : Int) + 1 := IntWalk.i64_in _ (by omega)
  have HN := Bx.mk hS
  generalize namesS = s at *
  have z0 : (0 : Int) ≤ (mx : Int) := Int.natCast_nonneg _
  have z3 : (mx : Int) + 1 ≤ (s.size : Int) := by omega
  have z5 : ((mx : Int) + 1).toNat = mx + 1 := by omega
  have z6 : mx + 1 ≤ s.size := by omega
  have z7 : (mx : Int) ≤ (mx : Int) + 1 := by omega
  have z8 : mx ≤ mx + 1 := by omega
  have t0 : (0 : Int) ≤ (my : Int) := Int.natCast_nonneg _
  have t3 : (my : Int) + 1 ≤ (s.size : Int) := by omega
  have t5 : ((my : Int) + 1).toNat = my + 1 := by omega
  have t6 : my + 1 ≤ s.size := by omega
  have t7 : (my : Int) ≤ (my : Int) + 1 := by omega
  have t8 : my ≤ my + 1 := by omega
  go_enter Try.func82, Try.ntmps82
  go_wp2_with (fail)
  refine (hna _).mono ?_
  rintro e w' ⟨rfl, rfl⟩
  go_upto_region 2 with (fail)
  go_quiet (first | (go_at_call 111; with_reducible exact quiet_dr (hu _)) | (go_at_call 111; with_reducible exact quiet_dr (hd _)))
  have H1 := H0.out.symm
  rw [HMX.out, HMY.out] at H1
  simp only [Int.toNat_natCast] at H1
  rw [H1]
  clear H1 H0 hu hd x0 x1 x2 x3 x4 HX HY s1 s2 s3 E1 E2 z0 z3 z5 z6 z7 z8 t0 t3 t5 t6 t7 t8 l1 l2 l3 l4 hS HMX HMY xb yb hna
  go_wp2_with (fail)
  go_loopw [4, 5] (fun t i wr => ∃ k : Nat, k ≤ R.f.length ∧ i = .int .i64 k ∧ t = .string (ragaS R k) ∧ Bx (∃ n, wr = w.drewN n)) (fun _ i _ => R.f.length - (intOf i).toNat)
  case atStart => exact ⟨0, Nat.zero_le _, rfl, rfl, Bx.mk ⟨_, rfl⟩⟩
  case round =>
    obtain ⟨k, hk, rfl, rfl, HW⟩ := hrel
    have y5 : wr.cell? ⟨g, 5, none⟩ = some (.slice C R.f.length c0) := by obtain ⟨n, rfl⟩ := HW.out; exact x5
    have yl : g < wr.heap.size := by obtain ⟨n, rfl⟩ := HW.out; exact xl
    by_cases hlt : k < R.f.length
    · obtain ⟨b, o, rfl, _, lb, hx⟩ := rows_at HR.out (by omega)
      obtain ⟨A', c', h1, i1⟩ := hx k hlt
      obtain ⟨a1, b1, e1, ra, rb, _⟩ := HA.out k hlt
      have HE := Bx.mk (HK.out k a1 b1 e1)
      rw [e1] at i1 h1
      obtain ⟨b', o', cc1, hv1, lb', hc1⟩ := i1.form (by simp)
      injection hv1 with hA1 _ hC1
      subst hA1 hC1
      have h1 : wr.cell? ⟨b, o + k, none⟩ = some (.slice (some ⟨b', o', none⟩) 2 c') := by obtain ⟨n, rfl⟩ := HW.out; exact h1
      have p0 : wr.cell? ⟨b', o', none⟩ = some (.int .i64 a1) := by obtain ⟨n, rfl⟩ := HW.out; have := hc1 0 (by simp); simpa using this
      have p1 : wr.cell? ⟨b', o' + 1, none⟩ = some (.int .i64 b1) := by obtain ⟨n, rfl⟩ := HW.out; have := hc1 1 (by simp); simpa using this
      have q1 : (0 : Int) ≤ (k : Int) := by omega
      have q2 : (k : Int) < (R.f.length : Int) := by omega
      have tl : (ragaS R k).size ≤ 100 := by have := HS.out k hk; have := HP.out; omega
      have HL := Bx.mk hlt
      have q3 : (k : Int) ≤ 8 := by have := HP.out; omega
      obtain ⟨ma, rfl⟩ := Int.eq_ofNat_of_zero_le ra.1
      obtain ⟨mb, rfl⟩ := Int.eq_ofNat_of_zero_le rb.1
      have hS := HN.out
      have E1 : IntKind.i64.wrap ((ma : Int) + 1) = (ma : Int) + 1 := IntWalk.i64_in _ (by omega)
      have E2 : IntKind.i64.wrap ((mb : Int) + 1) = (mb : Int) + 1 := IntWalk.i64_in _ (by omega)
      have z0 : (0 : Int) ≤ (ma : Int) := Int.natCast_nonneg _
      have z3 : (ma : Int) + 1 ≤ (s.size : Int) := by omega
      have z5 : ((ma : Int) + 1).toNat = ma + 1 := by omega
      have z6 : ma + 1 ≤ s.size := by omega
      have z7 : (ma : Int) ≤ (ma : Int) + 1 := by omega
      have z8 : ma ≤ ma + 1 := by omega
      have t0 : (0 : Int) ≤ (mb : Int) := Int.natCast_nonneg _
      have t3 : (mb : Int) + 1 ≤ (s.size : Int) := by omega
      have t5 : ((mb : Int) + 1).toNat = mb + 1 := by omega
      have t6 : mb + 1 ≤ s.size := by omega
      have t7 : (mb : Int) ≤ (mb : Int) + 1 := by omega
      have t8 : mb ≤ mb + 1 := by omega
      clear hx i1 e1 hc1 HS HP HA HR HK HN x5 ra rb lb lb' xl
      generalize ragaS R k = T at *
      go_wp2_with (fail)
      go_quiet (fail)
      go_wp2_with (fail)
      go_roundw
      case rel => exact ⟨k + 1, HL.out, by go_num, by rw [HE.out]; rfl, Bx.mk (by obtain ⟨n, rfl⟩ := HW.out; exact ⟨_, by rw [World.drewN_drewN]⟩)⟩
      case measure => have := HL.out; simp [intOf]; omega
    · obtain rfl : k = R.f.length := by omega
      go_wp2_with (fail)
      go_ret
      exact ⟨rfl, HW.out⟩
theorem spec_ragatext (v : Value) (R : Rg) (w : World) (h : RgAt w v R) (hm : Sm R) : Calls Try.prog 43 #[v] w fun e w' => e = .returned (.string (ragaT R)) ∧ Below w.heap.size w w' := by
  obtain ⟨A, a, B, b, C, c, rfl, i1, i2, i3⟩ := rg_form h
  have hb : Below w.heap.size w (w.alloc (.cells #[.string R.s, .slice A R.u.length a, .slice B R.d.length b, .int .i64 R.x, .int .i64 R.y, .slice C R.f.length c] 28)) := (Below.refl _ _).alloc (Nat.le_refl _) _
  have HX := BoxN.at w w.heap.size #[.string R.s, .slice A R.u.length a, .slice B R.d.length b, .int .i64 R.x, .int .i64 R.y, .slice C R.f.length c] 28 rfl
  generalize hW : w.alloc (.cells #[.string R.s, .slice A R.u.length a, .slice B R.d.length b, .int .i64 R.x, .int .i64 R.y, .slice C R.f.length c] 28) = W at hb HX
  have hk := spec_ok5 w.heap.size R W ⟨_, HX, h.below hb⟩ hm
  have HQ := Bx.mk (fun (hok : OkG R) n => spec_l05text w.heap.size R (W.drewN n) ⟨_, HX, h.below (below_draws hb n)⟩ hok)
  have HB := Bx.mk hb
  clear h i1 i2 i3 hm HX hb
  cases e0 : okG R
  · have HE : Bx (ragaT R = ⟨#[]⟩) := Bx.mk (by unfold ragaT; rw [e0]; rfl)
    rw [e0] at hk
    clear e0 HQ
    go_enter Try.func43, Try.ntmps43
    go_wp2_with (fail)
    refine hk.mono ?_
    rintro r w1 ⟨rfl, n, rfl⟩
    go_wp2_with (fail)
    go_ret
    exact ⟨by rw [HE.out]; rfl, below_draws HB.out _⟩
  · have HE : Bx (ragaT R = ragaS R R.f.length) := Bx.mk (by unfold ragaT; rw [e0]; rfl)
    have hq := HQ.out (ok_yes e0)
    rw [e0] at hk
    clear e0 HQ
    go_enter Try.func43, Try.ntmps43
    go_wp2_with (fail)
    refine hk.mono ?_
    rintro r w1 ⟨rfl, n, rfl⟩
    go_wp2_with (fail)
    refine (hq _).mono ?_
    rintro r w2 ⟨rfl, n2, rfl⟩
    go_wp2_with (fail)
    go_ret
    exact ⟨by rw [HE.out]; rfl, below_draws HB.out _⟩
end Go.Proofs.Ytjjiibmbaggjoaa
