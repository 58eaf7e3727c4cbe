/- NextPitches on both sides. -/
import Derived.Test.YtjjiibmbaggjoaaRv
import Derived.Test.YtjjiibmbaggjoaaRt
namespace Go.Proofs.Ytjjiibmbaggjoaa
open Go.ChangeShapes Go.WideShapes Go.ChangeAt Go.RowKit
set_option linter.unusedVariables false
set_option linter.unusedSimpArgs false
set_option maxRecDepth 100000

/-- the pitches to which a move is allowed, the first ones -/
def nextK (R : Rg) (p : Int) : Nat → List Int
  | 0 => []
  | k + 1 => if reasonZ R p ((k : Int) - 12) = 0 then nextK R p k ++ [(k : Int) - 12] else nextK R p k
theorem nextK_len (R : Rg) (p : Int) (k : Nat) : (nextK R p k).length ≤ k := by
  induction k with
  | zero => exact Nat.le_refl _
  | succ k ih =>
    unfold nextK
    split
    · rw [List.length_append]; exact Nat.succ_le_succ ih
    · omega
def nextE (R : Rg) (p : Int) : List Int × Int := if okG R = true then (if inP p = true then (nextK R p 36, 0) else ([], 2)) else ([], 1)
theorem nextE_len (R : Rg) (p : Int) : (nextE R p).1.length ≤ 64 := by
  unfold nextE
  split
  · split
    · exact Nat.le_trans (nextK_len R p 36) (by decide)
    · exact Nat.zero_le _
  · exact Nat.zero_le _
set_option maxHeartbeats 2000000 in
theorem spec_l05next (g : Nat) (R : Rg) (p : Int) (w : World) (h : PtrAt w g R) (hm : Sm R) (hok : OkG R) (hp : -12 ≤ p ∧ p ≤ 23) : Calls Try.prog 74 #[.pointer (some ⟨g, 0, none⟩), .int .i64 p] w (NewRow (nextK R p 36) w) := by
  obtain ⟨i0, hi, hz0, hz1, hz2⟩ := info_parts infoI64
  have ht := fun q W (hW : Below w.heap.size w W) hq => spec_reason g R p q W (h.below hW) hm hok hp hq
  clear h hm hok hp
  go_enter Try.func74, Try.ntmps74
  go_wp2_with (fail)
  go_loopw [5, 6] (fun v i wr => ∃ k : Nat, k ≤ 36 ∧ i = .int .i64 ((k : Int) - 12) ∧ wr.ownsRow w.heap.size 2 1 v (nextK R p k).length (ints (nextK R p k)) ∧ Below w.heap.size w wr) (fun _ i _ => 36 - (intOf i + 12).toNat)
  case atStart => exact ⟨0, Nat.zero_le _, rfl, World.ownsRow_lit _ _ _ (Nat.le_refl _) (by decide) (by decide), (Below.refl _ _).alloc (Nat.le_refl _) _⟩
  case round =>
    obtain ⟨k, hk, rfl, hown, hbw⟩ := hrel
    by_cases hlt : k < 36
    · obtain ⟨z, hz⟩ : ∃ z : Int, z = (k : Int) - 12 := ⟨_, rfl⟩
      have z0 : -12 ≤ z := by omega
      have z1 : z ≤ 23 := by omega
      have HL := Bx.mk (nextK_len R p k)
      have hq := ht z wr hbw ⟨z0, z1⟩
      have hN : Bx (nextK R p (k + 1) = if reasonZ R p z = 0 then nextK R p k ++ [z] else nextK R p k) := Bx.mk (by rw [hz]; rfl)
      have HZ := Bx.mk hz
      rw [← hz]
      clear hz ht
      generalize reasonZ R p z = rz at *
      by_cases h0 : rz = 0
      · subst h0
        have HS : Bx (nextK R p (k + 1) = nextK R p k ++ [z]) := Bx.mk (hN.out.trans (if_pos rfl))
        clear hN
        go_wp2_with (fail)
        refine hq.mono ?_
        rintro r w1 ⟨rfl, n, rfl⟩
        have hown := own_below hown (below_draws (Below.refl _ _) n)
        have hbw := below_draws hbw n
        generalize wr.drewN n = W at *
        have hsz := hbw.size
        go_wp2_with ((at_builtin; refine wpList_append_own _ rfl _ _ 22 rfl w.heap.size 2 i0 (.int .i64 0) 1 8 Try.underlying22 hi hz0 hz1 hz2 rfl (by decide) _ _ _ rfl (hown.alloc _) ⟨W.heap.size, 0, none⟩ 1 1 [.int .i64 z] rfl rfl (cell_one_new _ _ _) (fun x hx => by simp at hx; subst hx; rfl) (by have := HL.out; unfold maxLen; omega) (by have := HL.out; omega) (by simp; omega) ?_; intro v' w3 hown' hgrow3 hnil3))
        have hown2 : w3.ownsRow w.heap.size 2 1 v' (nextK R p (k + 1)).length (ints (nextK R p (k + 1))) := by
          rw [HS.out, ints_snoc', List.length_append]; exact hown'
        have hb2 : Below w.heap.size w w3 := below_app' hbw hown (Nat.le_refl _) hgrow3
        clear hown' hgrow3 hnil3 hown
        go_roundw
        case rel => exact ⟨k + 1, by omega, congrArg (Value.int .i64) (by have := HZ.out; push_cast; omega), hown2, hb2⟩
        case measure => have := HZ.out; simp [intOf]; omega
      · have HS : Bx (nextK R p (k + 1) = nextK R p k) := Bx.mk (hN.out.trans (if_neg h0))
        have hzb : (rz == 0) = false := by simpa using h0
        clear hN
        go_wp2_with (fail)
        refine hq.mono ?_
        rintro r w1 ⟨rfl, n, rfl⟩
        have hown := own_below hown (below_draws (Below.refl _ _) n)
        have hbw := below_draws hbw n
        generalize wr.drewN n = W at *
        go_wp2_with (fail)
        go_roundw
        case rel => exact ⟨k + 1, by omega, congrArg (Value.int .i64) (by have := HZ.out; push_cast; omega), by rw [HS.out]; exact hown, hbw⟩
        case measure => have := HZ.out; simp [intOf]; omega
    · obtain rfl : k = 36 := by omega
      go_wp2_with (fail)
      go_ret
      exact ⟨_, rfl, hown, hbw⟩
set_option maxHeartbeats 4000000 in
theorem spec_next5 (v : Value) (R : Rg) (p : Int) (w : World) (h : RgAt w v R) (hm : Sm R) : Calls Try.prog 34 #[v, .int .i64 p] w (LCOut (nextE R p) w) := by
  obtain ⟨A, a, B, b, C, c, rfl, i1, i2, i3⟩ := rg_form h
  have hb : Below w.heap.size w (w.alloc (.cells #[.string R.s, .slice A R.u.length a, .slice B R.d.length b, .int .i64 R.x, .int .i64 R.y, .slice C R.f.length c] 28)) := (Below.refl _ _).alloc (Nat.le_refl _) _
  have HX := BoxN.at w w.heap.size #[.string R.s, .slice A R.u.length a, .slice B R.d.length b, .int .i64 R.x, .int .i64 R.y, .slice C R.f.length c] 28 rfl
  generalize hW : w.alloc (.cells #[.string R.s, .slice A R.u.length a, .slice B R.d.length b, .int .i64 R.x, .int .i64 R.y, .slice C R.f.length c] 28) = W at hb HX
  have hk := spec_ok5 w.heap.size R W ⟨_, HX, h.below hb⟩ hm
  have hp := fun W => spec_pitch p W
  have HR := Bx.mk (fun (hok : OkG R) n h1 => spec_l05next w.heap.size R p (W.drewN n) ⟨_, HX, h.below (below_draws hb n)⟩ hm hok h1)
  have HB := Bx.mk hb
  have HO : Bx (nextE R p = if okG R = true then (if inB p (-12) 23 = true then (nextK R p 36, 0) else ([], 2)) else ([], 1)) := Bx.mk rfl
  clear h i1 i2 i3 hm HX hb
  cases e0 : okG R
  · have HE : Bx (nextE R p = ([], 1)) := Bx.mk (by rw [HO.out, e0]; rfl)
    rw [e0] at hk
    clear e0 HO HR
    go_enter Try.func34, Try.ntmps34
    go_wp2_with (fail)
    refine hk.mono ?_
    rintro r w1 ⟨rfl, n, rfl⟩
    go_wp2_with (fail)
    go_returns
    exact lc_nil HE.out (below_draws HB.out _)
  · rw [e0] at hk
    cases e1 : inB p (-12) 23
    · have HE : Bx (nextE R p = ([], 2)) := Bx.mk (by rw [HO.out, e0, e1]; simp)
      rw [e1] at hp
      clear e0 e1 HO HR
      go_enter Try.func34, Try.ntmps34
      go_wp2_with (fail)
      refine hk.mono ?_
      rintro r w1 ⟨rfl, n, rfl⟩
      go_wp2_with (fail)
      refine (hp _).mono ?_
      rintro r w1 ⟨rfl, rfl⟩
      go_wp2_with (fail)
      go_returns
      exact lc_nil HE.out (below_draws HB.out _)
    · rw [e1] at hp
      have HE : Bx (nextE R p = (nextK R p 36, 0)) := Bx.mk (by rw [HO.out, e0, e1]; simp)
      have hq := fun n => HR.out (ok_yes e0) n (inB_yes e1)
      clear e0 e1 HO HR
      go_enter Try.func34, Try.ntmps34
      go_wp2_with (fail)
      refine hk.mono ?_
      rintro r w1 ⟨rfl, n, rfl⟩
      go_wp2_with (fail)
      refine (hp _).mono ?_
      rintro r w1 ⟨rfl, rfl⟩
      go_wp2_with (fail)
      refine (hq _).mono ?_
      rintro r w2 ⟨u, rfl, ho, hb⟩
      have HO := Bx.mk (owndown (b1 := w.heap.size) (below_draws HB.out n).size ho)
      have B2 := Bx.mk ((below_draws HB.out n).trans (hb.mono (below_draws HB.out n).size))
      clear ho hb
      go_wp2_with (fail)
      go_returns
      exact lc_some HE.out HO.out B2.out
set_option maxHeartbeats 4000000 in
theorem impl_next5 (v : Value) (R : Rg) (p : Int) (w : World) (h : RgAt w v R) (hm : Sm R) : Calls Try.prog 35 #[v, .int .i64 p] w (LCOut (nextE R p) w) := by
  obtain ⟨i0, hi, hz0, hz1, hz2⟩ := info_parts infoI64
  obtain ⟨A, a, B, b, C, c, rfl, i1, i2, i3⟩ := rg_form h
  have hb : Below w.heap.size w (w.alloc (.cells #[.string R.s, .slice A R.u.length a, .slice B R.d.length b, .int .i64 R.x, .int .i64 R.y, .slice C R.f.length c] 28)) := (Below.refl _ _).alloc (Nat.le_refl _) _
  have HX := BoxN.at w w.heap.size #[.string R.s, .slice A R.u.length a, .slice B R.d.length b, .int .i64 R.x, .int .i64 R.y, .slice C R.f.length c] 28 rfl
  generalize hW : w.alloc (.cells #[.string R.s, .slice A R.u.length a, .slice B R.d.length b, .int .i64 R.x, .int .i64 R.y, .slice C R.f.length c] 28) = W at hb HX
  have hk := impl_validraga _ R W (h.below hb) hm
  have hp := fun W => impl_ispitch p W
  have HV := Bx.mk h
  have HM := Bx.mk hm
  have h0 := HX.c (k := 0) rfl
  have h1 := HX.c (k := 1) rfl
  have h2 := HX.c (k := 2) rfl
  have h3 := HX.c (k := 3) rfl
  have h4 := HX.c (k := 4) rfl
  have h5 := HX.c (k := 5) rfl
  have hl := HX.lt
  have HXB := Bx.mk HX
  have HB := Bx.mk hb
  have HO : Bx (nextE R p = if okG R = true then (if inB p (-12) 23 = true then (nextK R p 36, 0) else ([], 2)) else ([], 1)) := Bx.mk rfl
  clear h i1 i2 i3 hm HX hb
  cases e0 : okG R
  · have HE : Bx (nextE R p = ([], 1)) := Bx.mk (by rw [HO.out, e0]; rfl)
    rw [e0] at hk
    clear e0 HO
    go_enter Try.func35, Try.ntmps35
    go_wp2_with (fail)
    refine hk.mono ?_
    rintro r w1 ⟨rfl, hb⟩
    have B1 := Bx.mk (HB.out.trans (hb.mono HB.out.size))
    clear hb
    go_wp2_with (fail)
    go_returns
    exact lc_nil HE.out B1.out
  · rw [e0] at hk
    cases e1 : inB p (-12) 23
    · have HE : Bx (nextE R p = ([], 2)) := Bx.mk (by rw [HO.out, e0, e1]; simp)
      rw [e1] at hp
      clear e0 e1 HO
      go_enter Try.func35, Try.ntmps35
      go_wp2_with (fail)
      refine hk.mono ?_
      rintro r w1 ⟨rfl, hb⟩
      have B1 := Bx.mk (HB.out.trans (hb.mono HB.out.size))
      clear hb
      go_wp2_with (fail)
      refine (hp _).mono ?_
      rintro r w2 ⟨rfl, rfl⟩
      go_wp2_with (fail)
      go_returns
      exact lc_nil HE.out B1.out
    · rw [e1] at hp
      have HE : Bx (nextE R p = (nextK R p 36, 0)) := Bx.mk (by rw [HO.out, e0, e1]; simp)
      have HOK := Bx.mk (ok_yes e0)
      have HRE := Bx.mk (fun mb n W q hS h2 => impl_reason R p q mb n W (ok_yes e0) hS (inB_yes e1) h2)
      clear e0 e1 HO
      go_enter Try.func35, Try.ntmps35
      go_wp2_with (fail)
      refine hk.mono ?_
      rintro r w1 ⟨rfl, hb⟩
      have B1 := Bx.mk (HB.out.trans (hb.mono HB.out.size))
      have X1 := Bx.mk (HXB.out.below hb)
      clear hb
      go_wp2_with (fail)
      refine (hp _).mono ?_
      rintro r w2 ⟨rfl, rfl⟩
      have h0 := X1.out.c (k := 0) rfl
      have h1 := X1.out.c (k := 1) rfl
      have h2 := X1.out.c (k := 2) rfl
      have h3 := X1.out.c (k := 3) rfl
      have h4 := X1.out.c (k := 4) rfl
      have h5 := X1.out.c (k := 5) rfl
      have hl := X1.out.lt
      go_wp2_with (fail)
      refine (impl_rules _ R w1 (HV.out.below B1.out) HM.out HOK.out).mono ?_
      rintro r w2 ⟨mb, rfl, hS, hb⟩
      have B2 := Bx.mk (B1.out.trans (hb.mono B1.out.size))
      have S2 := Bx.mk hS
      clear hb hS h0 h1 h2 h3 h4 h5 hl X1 hk hp
      go_wp2_with (fail)
      have Z0 := Bx.mk (BoxN.at w2 w2.heap.size #[.int .u16 (maskN R.u R.u.length : Nat), .int .u16 (maskN R.d R.d.length : Nat), .map (some mb)] 84 rfl)
      have B3 : Bx (Below w.heap.size w (w2.alloc (.cells #[.int .u16 (maskN R.u R.u.length : Nat), .int .u16 (maskN R.d R.d.length : Nat), .map (some mb)] 84))) := Bx.mk (B2.out.alloc B2.out.size _)
      have S3 : Bx (PSet (w2.alloc (.cells #[.int .u16 (maskN R.u R.u.length : Nat), .int .u16 (maskN R.d R.d.length : Nat), .map (some mb)] 84)) mb R.f.length (memP R.f)) := Bx.mk (S2.out.below ((Below.refl _ _).alloc (Nat.le_refl _) _))
      generalize hW3 : w2.alloc (.cells #[.int .u16 (maskN R.u R.u.length : Nat), .int .u16 (maskN R.d R.d.length : Nat), .map (some mb)] 84) = W3 at *
      clear hW3
      go_loopw [6, 8] (fun v i wr => ∃ k : Nat, k ≤ 36 ∧ i = .int .i64 ((k : Int) - 12) ∧ wr.ownsRow W3.heap.size 2 1 v (nextK R p k).length (ints (nextK R p k)) ∧ Below W3.heap.size W3 wr) (fun _ i _ => 36 - (intOf i + 12).toNat)
      case atStart => exact ⟨0, Nat.zero_le _, rfl, World.ownsRow_nil _ _ _ _, Below.refl _ _⟩
      case round =>
        obtain ⟨k, hk, rfl, hown, hbw⟩ := hrel
        by_cases hlt : k < 36
        · obtain ⟨z, hz⟩ : ∃ z : Int, z = (k : Int) - 12 := ⟨_, rfl⟩
          have z0 : -12 ≤ z := by omega
          have z1 : z ≤ 23 := by omega
          have HL := Bx.mk (nextK_len R p k)
          have hq := HRE.out mb _ wr z (S3.out.below hbw) ⟨z0, z1⟩
          have ZK := Bx.mk (Z0.out.below hbw)
          have y0 := ZK.out.c (k := 0) rfl
          have y1 := ZK.out.c (k := 1) rfl
          have y2 := ZK.out.c (k := 2) rfl
          have yl := ZK.out.lt
          have hN : Bx (nextK R p (k + 1) = if reasonZ R p z = 0 then nextK R p k ++ [z] else nextK R p k) := Bx.mk (by rw [hz]; rfl)
          have HZ := Bx.mk hz
          rw [← hz]
          clear hz HRE ZK
          generalize reasonZ R p z = rz at *
          by_cases h0 : rz = 0
          · subst h0
            have HS : Bx (nextK R p (k + 1) = nextK R p k ++ [z]) := Bx.mk (hN.out.trans (if_pos rfl))
            clear hN
            go_wp2_with (fail)
            refine hq.mono ?_
            rintro r W ⟨rfl, hb⟩
            have hown := own_below hown hb
            have hbw := hbw.trans (hb.mono hbw.size)
            clear hb y0 y1 y2 yl
            have hsz := hbw.size
            go_wp2_with ((at_builtin; refine wpList_append_own _ rfl _ _ 22 rfl W3.heap.size 2 i0 (.int .i64 0) 1 8 Try.underlying22 hi hz0 hz1 hz2 rfl (by decide) _ _ _ rfl (hown.alloc _) ⟨W.heap.size, 0, none⟩ 1 1 [.int .i64 z] rfl rfl (cell_one_new _ _ _) (fun x hx => by simp at hx; subst hx; rfl) (by have := HL.out; unfold maxLen; omega) (by have := HL.out; omega) (by simp; omega) ?_; intro v' w3 hown' hgrow3 hnil3))
            have hown2 : w3.ownsRow W3.heap.size 2 1 v' (nextK R p (k + 1)).length (ints (nextK R p (k + 1))) := by
              rw [HS.out, ints_snoc', List.length_append]; exact hown'
            have hb2 : Below W3.heap.size W3 w3 := below_app' hbw hown (Nat.le_refl _) hgrow3
            clear hown' hgrow3 hnil3 hown
            go_roundw
            case rel => exact ⟨k + 1, by omega, congrArg (Value.int .i64) (by have := HZ.out; push_cast; omega), hown2, hb2⟩
            case measure => have := HZ.out; simp [intOf]; omega
          · have HS : Bx (nextK R p (k + 1) = nextK R p k) := Bx.mk (hN.out.trans (if_neg h0))
            have hzb : (rz == 0) = false := by simpa using h0
            clear hN
            go_wp2_with (fail)
            refine hq.mono ?_
            rintro r W ⟨rfl, hb⟩
            have hown := own_below hown hb
            have hbw := hbw.trans (hb.mono hbw.size)
            clear hb y0 y1 y2 yl
            go_wp2_with (fail)
            go_roundw
            case rel => exact ⟨k + 1, by omega, congrArg (Value.int .i64) (by have := HZ.out; push_cast; omega), by rw [HS.out]; exact hown, hbw⟩
            case measure => have := HZ.out; simp [intOf]; omega
        · obtain rfl : k = 36 := by omega
          have HO := Bx.mk (owndown (b1 := w.heap.size) B3.out.size hown)
          have B4 := Bx.mk (B3.out.trans (hbw.mono B3.out.size))
          clear hown hbw
          go_wp2_with (fail)
          go_returns
          exact lc_some HE.out HO.out B4.out
end Go.Proofs.Ytjjiibmbaggjoaa
