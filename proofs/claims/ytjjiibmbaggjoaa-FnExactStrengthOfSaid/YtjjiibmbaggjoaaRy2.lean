/- StrengthOf: the program. -/
import Derived.Test.YtjjiibmbaggjoaaRy
namespace Go.Proofs.Ytjjiibmbaggjoaa
open Go.ChangeShapes Go.WideShapes Go.ChangeAt Go.RowKit
set_option linter.unusedVariables false
set_option linter.unusedSimpArgs false
set_option maxRecDepth 100000

theorem cnt_zero (zs : List Int) : cntA zs 0 = #[.int .i64 0, .int .i64 0, .int .i64 0, .int .i64 0, .int .i64 0, .int .i64 0, .int .i64 0, .int .i64 0, .int .i64 0, .int .i64 0, .int .i64 0, .int .i64 0] := rfl
set_option maxHeartbeats 4000000 in
theorem impl_strength (v u : Value) (R : Rg) (zs : List Int) (w : World) (h : RgAt w v R) (hm : Sm R) (hu : IntsAt w u zs) (hz : zs.length ≤ 1048576) :
    Calls Try.prog 40 #[v, u] w (Out3 (strE R zs) w) := by
  obtain ⟨A, a, B, b, C, c, rfl, i1, i2, i3⟩ := rg_form h
  obtain ⟨D, d, rfl⟩ := ints_form hu
  have hb : Below w.heap.size w (w.alloc (.cells #[.string R.s, .slice A R.u.length a, .slice B R.d.length b, .int .i64 R.x, .int .i64 R.y, .slice C R.f.length c] 28)) := (Below.refl _ _).alloc (Nat.le_refl _) _
  have HX := BoxN.at w w.heap.size #[.string R.s, .slice A R.u.length a, .slice B R.d.length b, .int .i64 R.x, .int .i64 R.y, .slice C R.f.length c] 28 rfl
  generalize hW : w.alloc (.cells #[.string R.s, .slice A R.u.length a, .slice B R.d.length b, .int .i64 R.x, .int .i64 R.y, .slice C R.f.length c] 28) = W at hb HX
  have hk := impl_validraga _ R W (h.below hb) hm
  have hp := fun W' (hW' : Below w.heap.size w W') => impl_pits _ zs W' (hu.below hW') hz
  have HI := Bx.mk hu
  have h0 := HX.c (k := 0) rfl
  have h1 := HX.c (k := 1) rfl
  have h2 := HX.c (k := 2) rfl
  have h3 := HX.c (k := 3) rfl
  have h4 := HX.c (k := 4) rfl
  have h5 := HX.c (k := 5) rfl
  have hl := HX.lt
  have HXB := Bx.mk HX
  have HB := Bx.mk hb
  clear h i1 i2 i3 hm HX hb hu
  cases e0 : okG R
  · have HE : Bx (strE R zs = (0, 0, 1)) := Bx.mk (by unfold strE; rw [e0]; rfl)
    rw [e0] at hk
    clear e0
    go_enter Try.func40, Try.ntmps40
    go_wp2_with (fail)
    refine hk.mono ?_
    rintro r w1 ⟨rfl, hb⟩
    have B1 := Bx.mk (HB.out.trans (hb.mono HB.out.size))
    clear hb
    go_wp2_with (fail)
    go_returns
    exact out3 HE.out B1.out
  · rw [e0] at hk
    cases e1 : pitB zs
    · have HE : Bx (strE R zs = (0, 0, 7)) := Bx.mk (by unfold strE; rw [e0, e1]; rfl)
      rw [e1] at hp
      clear e0 e1
      go_enter Try.func40, Try.ntmps40
      go_wp2_with (fail)
      refine hk.mono ?_
      rintro r w1 ⟨rfl, hb⟩
      have B1 := Bx.mk (HB.out.trans (hb.mono HB.out.size))
      clear hb
      go_wp2_with (fail)
      refine (hp _ B1.out).mono ?_
      rintro r w2 ⟨rfl, rfl⟩
      go_wp2_with (fail)
      go_returns
      exact out3 HE.out B1.out
    · rw [e1] at hp
      have HE : Bx (strE R zs = ((cntK zs R.x zs.length : Int), (cntK zs R.y zs.length : Int), 0)) := Bx.mk (by unfold strE; rw [e0, e1]; rfl)
      have HOK := Bx.mk (ok_yes e0)
      have hz64 := (pit_yes e1).1
      have hto := fun z W => impl_toneof z W
      clear e0 e1
      go_enter Try.func40, Try.ntmps40
      go_wp2_with (fail)
      refine hk.mono ?_
      rintro r w1 ⟨rfl, hb⟩
      have B1 := Bx.mk (HB.out.trans (hb.mono HB.out.size))
      have X1 := Bx.mk (HXB.out.below hb)
      clear hb
      go_wp2_with (fail)
      refine (hp _ B1.out).mono ?_
      rintro r w2 ⟨rfl, rfl⟩
      clear h0 h1 h2 h3 h4 h5 hl hk hp
      go_wp2_with (fail)
      have Z2 : Bx (BoxN (w1.alloc (.cells (cntA zs 0) 95)) w1.heap.size (cntA zs 0) 95) := Bx.mk (BoxN.at w1 _ _ _ rfl)
      have X2 : Bx (BoxN (w1.alloc (.cells (cntA zs 0) 95)) w.heap.size #[.string R.s, .slice A R.u.length a, .slice B R.d.length b, .int .i64 R.x, .int .i64 R.y, .slice C R.f.length c] 28) := Bx.mk (X1.out.alloc _)
      have B2 : Bx (Below w.heap.size w (w1.alloc (.cells (cntA zs 0) 95))) := Bx.mk (B1.out.alloc B1.out.size _)
      rw [cnt_zero] at X2 B2
      have hlt1 := X1.out.lt
      go_loopw [20] (fun i wr => ∃ k : Nat, k ≤ zs.length ∧ i = .int .i64 k ∧ Bx (BoxN wr w1.heap.size (cntA zs k) 95) ∧ Bx (BoxN wr w.heap.size #[.string R.s, .slice A R.u.length a, .slice B R.d.length b, .int .i64 R.x, .int .i64 R.y, .slice C R.f.length c] 28) ∧ Bx (Below w.heap.size w wr)) (fun i _ => zs.length - (intOf i).toNat)
      case atStart => exact ⟨0, Nat.zero_le _, rfl, Z2, X2, B2⟩
      case round =>
        obtain ⟨k, hk, rfl, HZ, HX, HW⟩ := hrel
        clear Z2 X2 B2 X1
        by_cases hlt : k < zs.length
        · obtain ⟨bb, o, cc, hv, lb, hc⟩ := HI.out.form (by omega)
          injection hv with hA _ hC
          subst hA hC
          have h1 : wr.cell? ⟨bb, o + k, none⟩ = some (.int .i64 (zs.getD k 0)) := (HW.out.cell (p := ⟨bb, o + k, none⟩) lb).trans (hc k hlt)
          have k1 : (0 : Int) ≤ (k : Int) := by omega
          have k2 : (k : Int) < (zs.length : Int) := by omega
          have ht := fun W => hto (zs.getD k 0) W
          obtain ⟨t, htt, he⟩ : ∃ t : Nat, t < 12 ∧ zs.getD k 0 % 12 = (t : Int) := ⟨(zs.getD k 0 % 12).toNat, by have := Int.emod_lt_of_pos (zs.getD k 0) (show (0 : Int) < 12 by decide); have := Int.emod_nonneg (zs.getD k 0) (show (12 : Int) ≠ 0 by decide); omega, by have := Int.emod_nonneg (zs.getD k 0) (show (12 : Int) ≠ 0 by decide); omega⟩
          rw [he] at ht
          have z1 := HZ.out.c (cnt_at zs k t htt)
          have zf := HZ.out.fr t
          have zl := HZ.out.lt
          have l1 := cnt_le zs (t : Int) k
          have w1' : IntKind.i64.wrap ((cntK zs (t : Int) k : Nat) + 1 : Int) = ((cntK zs (t : Int) k + 1 : Nat) : Int) := by rw [IntWalk.i64_in _ (by omega)]; omega
          have t1 : (0 : Int) ≤ (t : Int) := by omega
          have t2 : (t : Int) < 12 := by omega
          have HS := Bx.mk (fun (u : Value) (hu : u = .int .i64 (cntK zs (t : Int) k + 1 : Nat)) => (show BoxN (wr.setCell ⟨w1.heap.size, t, none⟩ u) w1.heap.size (cntA zs (k + 1)) 95 from by subst hu; rw [← cnt_step zs k t htt he]; exact HZ.out.put t _))
          have HX8 := Bx.mk (fun (u : Value) => HX.out.other (b := w1.heap.size) (o := t) (by omega) u)
          have HW8 := Bx.mk (fun (u : Value) => HW.out.setCell (p := ⟨w1.heap.size, t, none⟩) (by dsimp only; omega) u)
          clear hc HI he hto HZ HX HW lb
          generalize cntK zs (t : Int) k = m at *
          generalize zs.getD k 0 = z at *
          go_wp2_with (fail)
          refine (ht _).mono ?_
          rintro r w5 ⟨rfl, rfl⟩
          go_wp2_with (fail)
          go_roundw
          case rel => exact ⟨k + 1, by omega, by go_num, Bx.mk (HS.out _ (by first | rfl | simp)), Bx.mk (HX8.out _), Bx.mk (HW8.out _)⟩
          case measure => simp [intOf]; omega
        · obtain rfl : k = zs.length := by omega
          have rx := hast_rng HOK.out HOK.out.x
          have ry := hast_rng HOK.out HOK.out.y
          obtain ⟨tx, hx⟩ : ∃ t : Nat, R.x = (t : Int) := ⟨R.x.toNat, by omega⟩
          obtain ⟨ty, hy⟩ : ∃ t : Nat, R.y = (t : Int) := ⟨R.y.toNat, by omega⟩
          have h3 := HX.out.c (k := 3) (v := .int .i64 R.x) rfl
          have h4 := HX.out.c (k := 4) (v := .int .i64 R.y) rfl
          have hl := HX.out.lt
          have HE2 : Bx (strE R zs = ((cntK zs (tx : Int) zs.length : Int), (cntK zs (ty : Int) zs.length : Int), 0)) := Bx.mk (by rw [HE.out, hx, hy])
          rw [hx] at h3 rx
          rw [hy] at h4 ry
          have z1 := HZ.out.c (cnt_at zs zs.length tx (by omega))
          have z2 := HZ.out.c (cnt_at zs zs.length ty (by omega))
          have zl := HZ.out.lt
          have t1 : (0 : Int) ≤ (tx : Int) := by omega
          have t2 : (tx : Int) < 12 := by omega
          have t3 : (0 : Int) ≤ (ty : Int) := by omega
          have t4 : (ty : Int) < 12 := by omega
          clear HE HOK rx ry hx hy HI
          generalize cntK zs (tx : Int) zs.length = m1 at *
          generalize cntK zs (ty : Int) zs.length = m2 at *
          go_wp2_with (fail)
          go_quiet (fail)
          go_wp2_with (fail)
          go_returns
          exact out3 HE2.out (below_draws HW.out _)
end Go.Proofs.Ytjjiibmbaggjoaa
