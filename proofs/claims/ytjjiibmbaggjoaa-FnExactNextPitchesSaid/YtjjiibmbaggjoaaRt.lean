/- TonesOf on both sides. -/
import Derived.Test.YtjjiibmbaggjoaaRq
import Derived.Test.YtjjiibmbaggjoaaSc6
namespace Go.Proofs.Ytjjiibmbaggjoaa
open Go.ChangeShapes Go.WideShapes Go.ChangeAt Go.RowKit
set_option linter.unusedVariables false
set_option linter.unusedSimpArgs false
set_option maxRecDepth 100000

/-- the tones of a raga, the first ones -/
def tonK (R : Rg) : Nat → List Int
  | 0 => []
  | k + 1 => if hasT R (k : Int) = true then tonK R k ++ [(k : Int)] else tonK R k
theorem tonK_len (R : Rg) (k : Nat) : (tonK R k).length ≤ k := by
  induction k with
  | zero => exact Nat.le_refl _
  | succ k ih =>
    unfold tonK
    split
    · rw [List.length_append]; exact Nat.succ_le_succ ih
    · omega
theorem tonK_mask {R : Rg} (h : OkG R) : ∀ k, k ≤ 12 → tonesN (maskN R.u R.u.length ||| maskN R.d R.d.length) k = tonK R k := by
  intro k
  induction k with
  | zero => intro _; rfl
  | succ k ih =>
    intro hk
    have h1 := on_has h.u (k : Int)
    have h2 := on_has h.d (k : Int)
    have e : ((k : Int) % 12).toNat = k := by omega
    have e2 : (k : Int) % 12 = (k : Int) := by omega
    rw [e, e2] at h1 h2
    rw [tones_succ, on_or _ _ _ (by omega), h1, h2, ih (by omega)]
    rfl
def tonesE (R : Rg) : List Int × Int := if okG R = true then (tonK R 12, 0) else ([], 1)
set_option maxHeartbeats 2000000 in
theorem spec_l05tones (g : Nat) (R : Rg) (w : World) (h : PtrAt w g R) (hm : Sm R) : Calls Try.prog 65 #[.pointer (some ⟨g, 0, none⟩)] w (NewRow (tonK R 12) w) := by
  obtain ⟨i0, hi, hz0, hz1, hz2⟩ := info_parts infoI64
  have ht := fun t W (hW : Below w.heap.size w W) => spec_tone5 g R t W (h.below hW) hm
  clear h hm
  go_enter Try.func65, Try.ntmps65
  go_wp2_with (fail)
  go_loopw [3, 4] (fun v i wr => ∃ k : Nat, k ≤ 12 ∧ i = .int .i64 k ∧ wr.ownsRow w.heap.size 2 1 v (tonK R k).length (ints (tonK R k)) ∧ Below w.heap.size w wr) (fun _ i _ => 12 - (intOf i).toNat)
  case atStart => exact ⟨0, Nat.zero_le _, rfl, World.ownsRow_lit _ _ _ (Nat.le_refl _) (by decide) (by decide), (Below.refl _ _).alloc (Nat.le_refl _) _⟩
  case round =>
    obtain ⟨k, hk, rfl, hown, hbw⟩ := hrel
    have hsz := hbw.size
    by_cases hlt : k < 12
    · have k0 : (0 : Int) ≤ (k : Int) := by omega
      have k1 : (k : Int) < 12 := by omega
      have HL := Bx.mk (tonK_len R k)
      have hq := ht (k : Int) wr hbw
      cases ho : hasT R (k : Int)
      · have HS : Bx (tonK R (k + 1) = tonK R k) := Bx.mk (by show (if hasT R (k : Int) = true then _ else _) = _; rw [if_neg (by rw [ho]; decide)])
        rw [ho] at hq
        clear ho ht
        go_wp2_with (fail)
        refine hq.mono ?_
        rintro r w1 ⟨rfl, rfl⟩
        go_wp2_with (fail)
        go_roundw
        case rel => exact ⟨k + 1, by omega, by go_num, by rw [HS.out]; exact hown, hbw⟩
        case measure => simp [intOf]; omega
      · have HS : Bx (tonK R (k + 1) = tonK R k ++ [(k : Int)]) := Bx.mk (by show (if hasT R (k : Int) = true then _ else _) = _; rw [if_pos ho])
        rw [ho] at hq
        clear ho ht
        go_wp2_with (fail)
        refine hq.mono ?_
        rintro r w1 ⟨rfl, rfl⟩
        go_wp2_with ((at_builtin; refine wpList_append_own _ rfl _ _ 22 rfl w.heap.size 2 i0 (.int .i64 0) 1 8 Try.underlying22 hi hz0 hz1 hz2 rfl (by decide) _ _ _ rfl (hown.alloc _) ⟨wr.heap.size, 0, none⟩ 1 1 [.int .i64 k] rfl rfl (cell_one_new _ _ _) (fun x hx => by simp at hx; subst hx; rfl) (by have := HL.out; unfold maxLen; omega) (by have := HL.out; omega) (by simp; omega) ?_; intro v' w3 hown' hgrow3 hnil3))
        have hown2 : w3.ownsRow w.heap.size 2 1 v' (tonK R (k + 1)).length (ints (tonK R (k + 1))) := by
          rw [HS.out, ints_snoc', List.length_append]; exact hown'
        have hb2 : Below w.heap.size w w3 := below_app' hbw hown (Nat.le_refl _) hgrow3
        clear hown' hgrow3 hnil3 hown
        go_roundw
        case rel => exact ⟨k + 1, by omega, by go_num, hown2, hb2⟩
        case measure => simp [intOf]; omega
    · obtain rfl : k = 12 := by omega
      go_wp2_with (fail)
      go_ret
      exact ⟨_, rfl, hown, hbw⟩
theorem spec_tones5 (v : Value) (R : Rg) (w : World) (h : RgAt w v R) (hm : Sm R) : Calls Try.prog 22 #[v] w (LCOut (tonesE R) w) := by
  obtain ⟨A, a, B, b, C, c, rfl, i1, i2, i3⟩ := rg_form h
  have hb : Below w.heap.size w (w.alloc (.cells #[.string R.s, .slice A R.u.length a, .slice B R.d.length b, .int .i64 R.x, .int .i64 R.y, .slice C R.f.length c] 28)) := (Below.refl _ _).alloc (Nat.le_refl _) _
  have HX := BoxN.at w w.heap.size #[.string R.s, .slice A R.u.length a, .slice B R.d.length b, .int .i64 R.x, .int .i64 R.y, .slice C R.f.length c] 28 rfl
  generalize hW : w.alloc (.cells #[.string R.s, .slice A R.u.length a, .slice B R.d.length b, .int .i64 R.x, .int .i64 R.y, .slice C R.f.length c] 28) = W at hb HX
  have hk := spec_ok5 w.heap.size R W ⟨_, HX, h.below hb⟩ hm
  have hq := fun n => spec_l05tones w.heap.size R (W.drewN n) ⟨_, HX, h.below (below_draws hb n)⟩ hm
  have HB := Bx.mk hb
  clear h i1 i2 i3 hm HX hb
  cases e0 : okG R
  · have HE : Bx (tonesE R = ([], 1)) := Bx.mk (by unfold tonesE; rw [e0]; rfl)
    rw [e0] at hk
    clear e0
    go_enter Try.func22, Try.ntmps22
    go_wp2_with (fail)
    refine hk.mono ?_
    rintro r w1 ⟨rfl, n, rfl⟩
    go_wp2_with (fail)
    go_returns
    exact lc_nil HE.out (below_draws HB.out _)
  · have HE : Bx (tonesE R = (tonK R 12, 0)) := Bx.mk (by unfold tonesE; rw [e0]; rfl)
    rw [e0] at hk
    clear e0
    go_enter Try.func22, Try.ntmps22
    go_wp2_with (fail)
    refine hk.mono ?_
    rintro r w1 ⟨rfl, n, rfl⟩
    go_wp2_with (fail)
    refine (hq _).mono ?_
    rintro r w2 ⟨u, rfl, ho, hb⟩
    have HO := Bx.mk (owndown (b1 := w.heap.size) (below_draws HB.out n).size ho)
    have B2 := Bx.mk ((below_draws HB.out n).trans (hb.mono (below_draws HB.out n).size))
    clear ho hb
    go_wp2_with (fail)
    go_returns
    exact lc_some HE.out HO.out B2.out
theorem impl_tones5 (v : Value) (R : Rg) (w : World) (h : RgAt w v R) (hm : Sm R) : Calls Try.prog 23 #[v] w (LCOut (tonesE R) w) := by
  obtain ⟨A, a, B, b, C, c, rfl, i1, i2, i3⟩ := rg_form h
  have hb : Below w.heap.size w (w.alloc (.cells #[.string R.s, .slice A R.u.length a, .slice B R.d.length b, .int .i64 R.x, .int .i64 R.y, .slice C R.f.length c] 28)) := (Below.refl _ _).alloc (Nat.le_refl _) _
  have HX := BoxN.at w w.heap.size #[.string R.s, .slice A R.u.length a, .slice B R.d.length b, .int .i64 R.x, .int .i64 R.y, .slice C R.f.length c] 28 rfl
  generalize hW : w.alloc (.cells #[.string R.s, .slice A R.u.length a, .slice B R.d.length b, .int .i64 R.x, .int .i64 R.y, .slice C R.f.length c] 28) = W at hb HX
  have hk := impl_validraga _ R W (h.below hb) hm
  have HV := Bx.mk h
  have HM := Bx.mk hm
  have h0 := HX.c (k := 0) rfl
  have h1 := HX.c (k := 1) rfl
  have h2 := HX.c (k := 2) rfl
  have h3 := HX.c (k := 3) rfl
  have h4 := HX.c (k := 4) rfl
  have h5 := HX.c (k := 5) rfl
  have hl := HX.lt
  have HXB := Bx.mk HX
  have HB := Bx.mk hb
  clear h i1 i2 i3 hm HX hb
  cases e0 : okG R
  · have HE : Bx (tonesE R = ([], 1)) := Bx.mk (by unfold tonesE; rw [e0]; rfl)
    rw [e0] at hk
    clear e0
    go_enter Try.func23, Try.ntmps23
    go_wp2_with (fail)
    refine hk.mono ?_
    rintro r w1 ⟨rfl, hb⟩
    have B1 := Bx.mk (HB.out.trans (hb.mono HB.out.size))
    clear hb
    go_wp2_with (fail)
    go_returns
    exact lc_nil HE.out B1.out
  · rw [e0] at hk
    have HOK := Bx.mk (ok_yes e0)
    have HE : Bx (tonesE R = (tonesN (maskN R.u R.u.length ||| maskN R.d R.d.length) 12, 0)) := Bx.mk (by unfold tonesE; rw [e0, tonK_mask (ok_yes e0) 12 (Nat.le_refl _)]; rfl)
    have hu := mask_lt R.u R.u.length (fun k hk => scale_in (ok_yes e0).u k hk)
    have hd := mask_lt R.d R.d.length (fun k hk => scale_in (ok_yes e0).d k hk)
    have hor : (maskN R.u R.u.length ||| maskN R.d R.d.length) < 65536 := Nat.lt_of_lt_of_le (Nat.or_lt_two_pow (n := 12) hu hd) (by decide)
    clear e0
    go_enter Try.func23, Try.ntmps23
    go_wp2_with (fail)
    refine hk.mono ?_
    rintro r w1 ⟨rfl, hb⟩
    have B1 := Bx.mk (HB.out.trans (hb.mono HB.out.size))
    have X1 := Bx.mk (HXB.out.below hb)
    have h0 := X1.out.c (k := 0) rfl
    have h1 := X1.out.c (k := 1) rfl
    have h2 := X1.out.c (k := 2) rfl
    have h3 := X1.out.c (k := 3) rfl
    have h4 := X1.out.c (k := 4) rfl
    have h5 := X1.out.c (k := 5) rfl
    have hl := X1.out.lt
    clear hb
    go_wp2_with (fail)
    refine (impl_rules _ R w1 (HV.out.below B1.out) HM.out HOK.out).mono ?_
    rintro r w2 ⟨mb, rfl, hS, hb⟩
    have B2 := Bx.mk (B1.out.trans (hb.mono B1.out.size))
    clear hb hS h0 h1 h2 h3 h4 h5 hl
    go_wp2_with (fail)
    refine (impl_all _ _ _ _ hu hd).mono ?_
    rintro r w3 ⟨rfl, hb⟩
    have B3 := Bx.mk (B2.out.trans (hb.mono B2.out.size))
    clear hb
    go_wp2_with (fail)
    refine (impl_tones _ _ hor).mono ?_
    rintro r w4 ⟨u, rfl, ho, hb⟩
    have HO := Bx.mk (owndown (b1 := w.heap.size) B3.out.size ho)
    have B4 := Bx.mk (B3.out.trans (hb.mono B3.out.size))
    clear ho hb
    go_wp2_with (fail)
    go_returns
    exact lc_some HE.out HO.out B4.out
end Go.Proofs.Ytjjiibmbaggjoaa
