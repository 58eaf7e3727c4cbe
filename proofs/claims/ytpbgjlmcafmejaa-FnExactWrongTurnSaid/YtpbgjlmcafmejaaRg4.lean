/- The laws' own functions over ragas: szRaga, eqRaga, toRaga. -/
import Derived.Test.YtpbgjlmcafmejaaRg3
namespace Go.Proofs.Ytpbgjlmcafmejaa
open Go.ChangeShapes Go.WideShapes Go.ChangeAt Go.RowKit
set_option linter.unusedVariables false
set_option linter.unusedSimpArgs false
set_option maxRecDepth 100000

/-- a block of values -/
def BoxN (w : World) (g : Nat) (xs : Array Value) (t : TypeId) : Prop := w.heap[g]? = some (.cells xs t (0, 0))
theorem BoxN.c {w : World} {g : Nat} {xs : Array Value} {t : TypeId} (h : BoxN w g xs t) {k : Nat} {v : Value} (hk : xs[k]? = some v) : w.cell? ⟨g, k, none⟩ = some v := by unfold BoxN at h; simp [World.cell?, h, hk]
theorem BoxN.fr {w : World} {g : Nat} {xs : Array Value} {t : TypeId} (h : BoxN w g xs t) (o : Nat) : w.frozen? ⟨g, o, none⟩ = false := by unfold BoxN at h; simp [World.frozen?, h]
theorem BoxN.lt {w : World} {g : Nat} {xs : Array Value} {t : TypeId} (h : BoxN w g xs t) : g < w.heap.size := by
  unfold BoxN at h
  rcases Nat.lt_or_ge g w.heap.size with h1 | h1
  · exact h1
  · rw [Array.getElem?_eq_none h1] at h; cases h
theorem BoxN.below {w w' : World} {g : Nat} {xs : Array Value} {t : TypeId} (h : BoxN w g xs t) (hb : Below w.heap.size w w') : BoxN w' g xs t := by
  have := hb.block g h.lt
  unfold BoxN at h ⊢
  rw [this, h]
theorem BoxN.alloc {w : World} {g : Nat} {xs : Array Value} {t : TypeId} (h : BoxN w g xs t) (o : Obj) : BoxN (w.alloc o) g xs t := h.below ((Below.refl _ _).alloc (Nat.le_refl _) _)
theorem BoxN.draws {w : World} {g : Nat} {xs : Array Value} {t : TypeId} (h : BoxN w g xs t) (k : Nat) : BoxN (w.drewN k) g xs t := h
theorem BoxN.at (w : World) (g : Nat) (xs : Array Value) (t : TypeId) (h : g = w.heap.size) : BoxN (w.alloc (.cells xs t)) g xs t := by subst h; exact heap_alloc_new w _
theorem BoxN.put {w : World} {g : Nat} {xs : Array Value} {t : TypeId} (h : BoxN w g xs t) (k : Nat) (u : Value) : BoxN (w.setCell ⟨g, k, none⟩ u) g (xs.setIfInBounds k u) t := heap_setCell_same w g k _ _ u h
theorem BoxN.other {w : World} {g b o : Nat} {xs : Array Value} {t : TypeId} (hg : b ≠ g) (h : BoxN w g xs t) (u : Value) : BoxN (w.setCell ⟨b, o, none⟩ u) g xs t := by
  unfold BoxN at h ⊢
  rw [Below.heap_setCell _ _ _ _ (by show g ≠ b; omega)]; exact h
theorem rg_form {w : World} {v : Value} {R : Rg} (h : RgAt w v R) : ∃ A a B b C c, v = .agg #[.string R.s, .slice A R.u.length a, .slice B R.d.length b, .int .i64 R.x, .int .i64 R.y, .slice C R.f.length c] ∧ IntsAt w (.slice A R.u.length a) R.u ∧ IntsAt w (.slice B R.d.length b) R.d ∧ RowsAt w (.slice C R.f.length c) R.f := by
  obtain ⟨u, d, f, rfl, h1, h2, h3⟩ := h
  obtain ⟨A, a, rfl⟩ := ints_form h1
  obtain ⟨B, b, rfl⟩ := ints_form h2
  obtain ⟨C, c, rfl⟩ := rows_form h3
  exact ⟨A, a, B, b, C, c, rfl, h1, h2, h3⟩
theorem sz_rg (v : Value) (R : Rg) (k0 : Int) (hk0 : 0 ≤ k0 ∧ k0 ≤ 1048576) (w : World) (h : RgAt w v R) (hm : Sm0 R) : Calls Try.prog 22 #[v, .int .i64 k0] w (SzOut (Sm R) k0 w) := by
  obtain ⟨k1, k2⟩ := hk0
  obtain ⟨hs, hu, hd, hf, hg, wx, wy⟩ := hm
  obtain ⟨A, a, B, b, C, c, rfl, iu, id, ir⟩ := rg_form h
  unfold maxLen at hs
  have HI := Bx.mk ir
  have HW := Bx.mk (And.intro wx wy)
  clear h ir iu id wx wy
  have hrow := fun k W hW hk => sz_rows (.slice C R.f.length c) R.f k W hW hk hf hg
  by_cases c0 : k0 < R.s.size
  · have d0 : decide (k0 - (R.s.size : Int) < 0) = true := by simp; omega
    go_enter Try.func22, Try.ntmps22
    go_wp2_with (fail)
    go_ret
    exact ⟨-1, rfl, .inl rfl, (Below.refl _ _).alloc (Nat.le_refl _) _⟩
  · have d0 : decide (k0 - (R.s.size : Int) < 0) = false := by simp; omega
    obtain ⟨z1, e1, b1⟩ : ∃ z1 : Int, z1 = k0 - (R.s.size : Int) ∧ (0 ≤ z1 ∧ z1 ≤ k0 - (R.s.size : Int)) := ⟨_, rfl, by omega⟩
    have E1 := Bx.mk e1
    have hq1 := fun W => sz_ints A R.u.length a z1 W (by omega) hu
    by_cases c1 : z1 < R.u.length
    · rw [show szI R.u.length z1 = -1 from if_pos c1] at hq1
      clear c1
      rw [← e1] at d0
      go_enter Try.func22, Try.ntmps22
      go_wp2_with (fail)
      rw [← e1]
      refine (hq1 _).mono ?_
      rintro r w1 ⟨rfl, rfl⟩
      go_wp2_with (fail)
      go_ret
      exact ⟨-1, rfl, .inl rfl, (Below.refl _ _).alloc (Nat.le_refl _) _⟩
    · rw [show szI R.u.length z1 = z1 - R.u.length from if_neg c1] at hq1
      obtain ⟨z2, e2, b2⟩ : ∃ z2 : Int, z2 = z1 - (R.u.length : Int) ∧ (0 ≤ z2 ∧ z2 ≤ k0) := ⟨_, rfl, by omega⟩
      have E2 := Bx.mk e2
      have d1 : decide (z2 < 0) = false := by simp; omega
      have hq2 := fun W => sz_ints B R.d.length b z2 W (by omega) hd
      rw [← e2] at hq1
      rw [← e1] at d0
      by_cases c2 : z2 < R.d.length
      · rw [show szI R.d.length z2 = -1 from if_pos c2] at hq2
        clear c1 c2 e2
        go_enter Try.func22, Try.ntmps22
        go_wp2_with (fail)
        rw [← e1]
        clear e1
        refine (hq1 _).mono ?_
        rintro r w1 ⟨rfl, rfl⟩
        go_wp2_with (fail)
        refine (hq2 _).mono ?_
        rintro r w1 ⟨rfl, rfl⟩
        go_wp2_with (fail)
        go_ret
        exact ⟨-1, rfl, .inl rfl, (Below.refl _ _).alloc (Nat.le_refl _) _⟩
      · rw [show szI R.d.length z2 = z2 - R.d.length from if_neg c2] at hq2
        obtain ⟨z3, e3, b3⟩ : ∃ z3 : Int, z3 = z2 - (R.d.length : Int) ∧ (0 ≤ z3 ∧ z3 ≤ k0) := ⟨_, rfl, by omega⟩
        have d2 : decide (z3 < 0) = false := by simp; omega
        rw [← e3] at hq2
        have S1 : Bx (R.s.size ≤ 1048576 ∧ R.u.length ≤ 1048576 ∧ R.d.length ≤ 1048576) := Bx.mk (by omega)
        clear c0 c1 c2 e2 e3 E1 E2 hs
        go_enter Try.func22, Try.ntmps22
        go_wp2_with (fail)
        rw [← e1]
        clear e1
        refine (hq1 _).mono ?_
        rintro r w1 ⟨rfl, rfl⟩
        go_wp2_with (fail)
        refine (hq2 _).mono ?_
        rintro r w1 ⟨rfl, rfl⟩
        go_wp2_with (fail)
        refine (hrow z3 _ (HI.out.below ((Below.refl _ _).alloc (Nat.le_refl _) _)) (by omega)).mono ?_
        rintro r w1 ⟨z, rfl, hz, hb⟩
        have HB := Bx.mk (Below.trans ((Below.refl w.heap.size w).alloc (Nat.le_refl _) _) (hb.mono (by simp)))
        clear hb
        rcases hz with rfl | ⟨h0, h1, h2⟩
        · go_wp2_with (fail)
          go_ret
          exact ⟨-1, rfl, .inl rfl, HB.out⟩
        · have d3 : decide (z < 0) = false := by simp; omega
          have HS : Bx (Sm R) := Bx.mk ⟨S1.out.1, S1.out.2.1, S1.out.2.2, h2.1, h2.2, HW.out.1, HW.out.2⟩
          clear h2
          go_wp2_with (fail)
          go_ret
          exact ⟨z, rfl, .inr ⟨h0, by omega, HS.out⟩, HB.out⟩
theorem quietB {w w' : World} (h : ∃ n, w' = w.drewN n) : Below w.heap.size w w' := by
  obtain ⟨n, rfl⟩ := h
  exact below_draws (Below.refl _ _) n
theorem eq_rg (va vb : Value) (R : Rg) (w : World) (ha : RgAt w va R) (hb : RgAt w vb R) (hm : Sm R) :
    Calls Try.prog 26 #[va, vb] w fun e w' => e = .returned (.bool true) ∧ Below w.heap.size w w' := by
  obtain ⟨A, a, B, b, C, c, rfl, iu, id, ir⟩ := rg_form ha
  obtain ⟨A', a', B', b', C', c', rfl, iu', id', ir'⟩ := rg_form hb
  have q1 := fun W (h : Below w.heap.size w W) => eq_ints _ _ R.u R.u W (iu.below h) (iu'.below h) (Nat.le_trans hm.u (by decide)) (Nat.le_trans hm.u (by decide))
  have q2 := fun W (h : Below w.heap.size w W) => eq_ints _ _ R.d R.d W (id.below h) (id'.below h) (Nat.le_trans hm.d (by decide)) (Nat.le_trans hm.d (by decide))
  have q3 := fun W (h : Below w.heap.size w W) => eq_rows _ _ R.f R.f W (ir.below h) (ir'.below h) (Nat.le_trans hm.f (by decide)) (Nat.le_trans hm.f (by decide)) (fun k hk => Nat.le_trans (hm.g k hk) (by decide)) (fun k hk => Nat.le_trans (hm.g k hk) (by decide))
  simp only [decide_true] at q1 q2 q3
  clear ha hb iu id ir iu' id' ir' hm
  go_enter Try.func26, Try.ntmps26
  go_wp2_with (fail)
  have B0 : Bx (Below w.heap.size w ((w.alloc (.cells #[.string R.s, .slice A R.u.length a, .slice B R.d.length b, .int .i64 R.x, .int .i64 R.y, .slice C R.f.length c] 41)).alloc (.cells #[.string R.s, .slice A' R.u.length a', .slice B' R.d.length b', .int .i64 R.x, .int .i64 R.y, .slice C' R.f.length c'] 41))) := Bx.mk (((Below.refl _ _).alloc (Nat.le_refl _) _).alloc (by simp) _)
  refine (q1 _ B0.out).mono ?_
  rintro r w1 ⟨rfl, n1, rfl⟩
  go_wp2_with (fail)
  refine (q2 _ (below_draws B0.out _)).mono ?_
  rintro r w1 ⟨rfl, n2, rfl⟩
  go_wp2_with (fail)
  refine (q3 _ (below_draws B0.out _)).mono ?_
  rintro r w1 ⟨rfl, n3, rfl⟩
  go_wp2_with (fail)
  go_ret
  exact ⟨rfl, below_draws B0.out _⟩
theorem BoxN.drop {w : World} {g : Nat} {xs : Array Value} {t : TypeId} (h : BoxN w g xs t) {W : World} (hb : Below w.heap.size w W) : BoxN W g xs t := h.below hb
set_option maxHeartbeats 2000000 in
theorem copy_rg (v : Value) (R : Rg) (w : World) (h : RgAt w v R) (hm : Sm R) :
    Calls Try.prog 24 #[v] w fun e w' => ∃ u d f V, e = .returned (rgV R.s u d R.x R.y f) ∧ w'.ownsRow w.heap.size 2 1 u R.u.length (ints R.u) ∧ w'.ownsRow w.heap.size 2 1 d R.d.length (ints R.d) ∧ RowsOwn w' w.heap.size f R.f V ∧
      (∀ g, u.ownBlock = some g → d.ownBlock ≠ some g) ∧ Below w.heap.size w w' := by
  obtain ⟨A, a, B, b, C, c, rfl, iu, id, ir⟩ := rg_form h
  have q1 := fun W (h : Below w.heap.size w W) => copy_ints _ R.u W (iu.below h) (Nat.le_trans hm.u (by decide))
  have q2 := fun W (h : Below w.heap.size w W) => copy_ints _ R.d W (id.below h) (Nat.le_trans hm.d (by decide))
  have q3 := fun W (h : Below w.heap.size w W) => copy_rows _ R.f W (ir.below h) hm.f hm.g
  clear h iu id ir hm
  go_enter Try.func24, Try.ntmps24
  go_wp2_with (fail)
  have P0 : BoxN (w.alloc (.cells #[.string R.s, .slice A R.u.length a, .slice B R.d.length b, .int .i64 R.x, .int .i64 R.y, .slice C R.f.length c] 37)) w.heap.size #[.string R.s, .slice A R.u.length a, .slice B R.d.length b, .int .i64 R.x, .int .i64 R.y, .slice C R.f.length c] 37 := BoxN.at w _ _ _ rfl
  have Z0 := BoxN.at (w.alloc (.cells #[.string R.s, .slice A R.u.length a, .slice B R.d.length b, .int .i64 R.x, .int .i64 R.y, .slice C R.f.length c] 37)) (w.heap.size + 1) #[.string ⟨#[]⟩, .slice none 0 0, .slice none 0 0, .int .i64 0, .int .i64 0, .slice none 0 0] 41 (by simp)
  have K0 := BoxN.at ((w.alloc (.cells #[.string R.s, .slice A R.u.length a, .slice B R.d.length b, .int .i64 R.x, .int .i64 R.y, .slice C R.f.length c] 37)).alloc (.cells #[.string ⟨#[]⟩, .slice none 0 0, .slice none 0 0, .int .i64 0, .int .i64 0, .slice none 0 0] 41)) (w.heap.size + 1 + 1) #[.string R.s, .slice none 0 0, .slice none 0 0, .int .i64 0, .int .i64 0, .slice none 0 0] 41 (by simp)
  have P0 := (P0.alloc (.cells #[.string ⟨#[]⟩, .slice none 0 0, .slice none 0 0, .int .i64 0, .int .i64 0, .slice none 0 0] 41)).alloc (.cells #[.string R.s, .slice none 0 0, .slice none 0 0, .int .i64 0, .int .i64 0, .slice none 0 0] 41)
  have Z0 := Z0.alloc (.cells #[.string R.s, .slice none 0 0, .slice none 0 0, .int .i64 0, .int .i64 0, .slice none 0 0] 41)
  have B0 : Below w.heap.size w (((w.alloc (.cells #[.string R.s, .slice A R.u.length a, .slice B R.d.length b, .int .i64 R.x, .int .i64 R.y, .slice C R.f.length c] 37)).alloc (.cells #[.string ⟨#[]⟩, .slice none 0 0, .slice none 0 0, .int .i64 0, .int .i64 0, .slice none 0 0] 41)).alloc (.cells #[.string R.s, .slice none 0 0, .slice none 0 0, .int .i64 0, .int .i64 0, .slice none 0 0] 41)) := (((Below.refl _ _).alloc (Nat.le_refl _) _).alloc (by simp) _).alloc (by simp; omega) _
  have S0 : (((w.alloc (.cells #[.string R.s, .slice A R.u.length a, .slice B R.d.length b, .int .i64 R.x, .int .i64 R.y, .slice C R.f.length c] 37)).alloc (.cells #[.string ⟨#[]⟩, .slice none 0 0, .slice none 0 0, .int .i64 0, .int .i64 0, .slice none 0 0] 41)).alloc (.cells #[.string R.s, .slice none 0 0, .slice none 0 0, .int .i64 0, .int .i64 0, .slice none 0 0] 41)).heap.size = w.heap.size + 1 + 1 + 1 := by simp
  generalize hW : (((w.alloc (.cells #[.string R.s, .slice A R.u.length a, .slice B R.d.length b, .int .i64 R.x, .int .i64 R.y, .slice C R.f.length c] 37)).alloc (.cells #[.string ⟨#[]⟩, .slice none 0 0, .slice none 0 0, .int .i64 0, .int .i64 0, .slice none 0 0] 41)).alloc (.cells #[.string R.s, .slice none 0 0, .slice none 0 0, .int .i64 0, .int .i64 0, .slice none 0 0] 41)) = W0 at *
  clear hW
  refine (q1 _ B0).mono ?_
  rintro r w1 ⟨u, rfl, ho, hb⟩
  obtain ⟨Au, cu, rfl⟩ := own_len ho
  have B1 := Bx.mk (B0.trans (hb.mono B0.size))
  have HU := Bx.mk (S0 ▸ ho)
  have P1 := Bx.mk (P0.below hb)
  have Z1 := Bx.mk (Z0.below hb)
  have K1 := Bx.mk (K0.below hb)
  clear P0 Z0 K0 B0 q1 ho hb S0
  have p2 := P1.out.c (k := 2) rfl
  have k1 := K1.out.c (k := 1) rfl
  have kf := K1.out.fr 1
  have kl := K1.out.lt
  go_wp2_with (fail)
  have K1 : Bx (BoxN (w1.setCell ⟨w.heap.size + 1 + 1, 1, none⟩ (.slice Au R.u.length cu)) (w.heap.size + 1 + 1) #[.string R.s, .slice Au R.u.length cu, .slice none 0 0, .int .i64 0, .int .i64 0, .slice none 0 0] 41) := Bx.mk (K1.out.put 1 (.slice Au R.u.length cu))
  have P1 := Bx.mk (P1.out.other (b := w.heap.size + 1 + 1) (o := 1) (by omega) (.slice Au R.u.length cu))
  have Z1 := Bx.mk (Z1.out.other (b := w.heap.size + 1 + 1) (o := 1) (by omega) (.slice Au R.u.length cu))
  have HU := Bx.mk (ownset HU.out (b := w.heap.size + 1 + 1) (by omega) 1 (.slice Au R.u.length cu))
  have B1 := Bx.mk (B1.out.setCell (p := ⟨w.heap.size + 1 + 1, 1, none⟩) (by dsimp only; omega) (.slice Au R.u.length cu))
  clear p2 k1 kf kl
  generalize hW : w1.setCell ⟨w.heap.size + 1 + 1, 1, none⟩ (.slice Au R.u.length cu) = W1 at *
  clear hW
  refine (q2 _ B1.out).mono ?_
  rintro r w2 ⟨d, rfl, ho, hb⟩
  obtain ⟨Ad, cd, rfl⟩ := own_len ho
  have hz := P1.out.lt
  have N1 : Bx (∀ g, (.slice Au R.u.length cu : Value).ownBlock = some g → (.slice Ad R.d.length cd : Value).ownBlock ≠ some g) := Bx.mk (fun g h1 h2 => by
    have := own_hi HU.out g h1
    have := own_lo ho g h2
    omega)
  have L1 := K1.out.lt
  have B2 := Bx.mk (B1.out.trans (hb.mono B1.out.size))
  have HD := Bx.mk (owndown (b1 := w.heap.size + 1 + 1 + 1) (by omega) ho)
  have HU := Bx.mk (own_below HU.out hb)
  have P2 := Bx.mk (P1.out.below hb)
  have Z2 := Bx.mk (Z1.out.below hb)
  have K2 := Bx.mk (K1.out.below hb)
  clear P1 Z1 K1 B1 q2 ho hb L1 hz
  have p3 := P2.out.c (k := 3) rfl
  have p4 := P2.out.c (k := 4) rfl
  have p5 := P2.out.c (k := 5) rfl
  have k2 := K2.out.c (k := 2) rfl
  have k3 := K2.out.c (k := 3) rfl
  have k4 := K2.out.c (k := 4) rfl
  have kf2 := K2.out.fr 2
  have kf3 := K2.out.fr 3
  have kf4 := K2.out.fr 4
  have kl := K2.out.lt
  go_wp2_with (fail)
  have q3 := fun W (h : Below w.heap.size w W) => q3 W h
  have K3 : Bx (BoxN (((w2.setCell ⟨w.heap.size + 1 + 1, 2, none⟩ (.slice Ad R.d.length cd)).setCell ⟨w.heap.size + 1 + 1, 3, none⟩ (.int .i64 R.x)).setCell ⟨w.heap.size + 1 + 1, 4, none⟩ (.int .i64 R.y)) (w.heap.size + 1 + 1) #[.string R.s, .slice Au R.u.length cu, .slice Ad R.d.length cd, .int .i64 R.x, .int .i64 R.y, .slice none 0 0] 41) := Bx.mk (((K2.out.put 2 (.slice Ad R.d.length cd)).put 3 (.int .i64 R.x)).put 4 (.int .i64 R.y))
  have Z3 := Bx.mk (((Z2.out.other (b := w.heap.size + 1 + 1) (o := 2) (by omega) (.slice Ad R.d.length cd)).other (b := w.heap.size + 1 + 1) (o := 3) (by omega) (.int .i64 R.x)).other (b := w.heap.size + 1 + 1) (o := 4) (by omega) (.int .i64 R.y))
  have HU := Bx.mk (ownset (ownset (ownset HU.out (b := w.heap.size + 1 + 1) (by omega) 2 (.slice Ad R.d.length cd)) (b := w.heap.size + 1 + 1) (by omega) 3 (.int .i64 R.x)) (b := w.heap.size + 1 + 1) (by omega) 4 (.int .i64 R.y))
  have HD := Bx.mk (ownset (ownset (ownset HD.out (b := w.heap.size + 1 + 1) (by omega) 2 (.slice Ad R.d.length cd)) (b := w.heap.size + 1 + 1) (by omega) 3 (.int .i64 R.x)) (b := w.heap.size + 1 + 1) (by omega) 4 (.int .i64 R.y))
  have B3 := Bx.mk (((B2.out.setCell (p := ⟨w.heap.size + 1 + 1, 2, none⟩) (by dsimp only; omega) (.slice Ad R.d.length cd)).setCell (p := ⟨w.heap.size + 1 + 1, 3, none⟩) (by dsimp only; omega) (.int .i64 R.x)).setCell (p := ⟨w.heap.size + 1 + 1, 4, none⟩) (by dsimp only; omega) (.int .i64 R.y))
  clear p3 p4 p5 k2 k3 k4 kf2 kf3 kf4 kl K2 Z2 B2 P2
  generalize hW : ((w2.setCell ⟨w.heap.size + 1 + 1, 2, none⟩ (.slice Ad R.d.length cd)).setCell ⟨w.heap.size + 1 + 1, 3, none⟩ (.int .i64 R.x)).setCell ⟨w.heap.size + 1 + 1, 4, none⟩ (.int .i64 R.y) = W3 at *
  clear hW
  refine (q3 _ B3.out).mono ?_
  rintro r w4 ⟨f, V, rfl, ho, hb⟩
  obtain ⟨Af, cf, rfl⟩ := own_len ho.out
  have L3 := K3.out.lt
  have B4 := Bx.mk (B3.out.trans (hb.mono B3.out.size))
  have HF := Bx.mk (RowsOwn.down (b1 := w.heap.size + 1 + 1 + 1) (by omega) ho)
  have HU := Bx.mk (own_below HU.out hb)
  have HD := Bx.mk (own_below HD.out hb)
  have Z4 := Bx.mk (Z3.out.below hb)
  have K4 := Bx.mk (K3.out.below hb)
  clear Z3 K3 B3 q3 ho hb L3
  have k0 := K4.out.c (k := 0) rfl
  have k1 := K4.out.c (k := 1) rfl
  have k2 := K4.out.c (k := 2) rfl
  have k3 := K4.out.c (k := 3) rfl
  have k4 := K4.out.c (k := 4) rfl
  have k5 := K4.out.c (k := 5) rfl
  have kf5 := K4.out.fr 5
  have kl := K4.out.lt
  have z0 := Z4.out.c (k := 0) rfl
  have z1 := Z4.out.c (k := 1) rfl
  have z2 := Z4.out.c (k := 2) rfl
  have z3 := Z4.out.c (k := 3) rfl
  have z4 := Z4.out.c (k := 4) rfl
  have z5 := Z4.out.c (k := 5) rfl
  have zf0 := Z4.out.fr 0
  have zf1 := Z4.out.fr 1
  have zf2 := Z4.out.fr 2
  have zf3 := Z4.out.fr 3
  have zf4 := Z4.out.fr 4
  have zf5 := Z4.out.fr 5
  have zl := Z4.out.lt
  go_wp2_with (fail)
  have P : BoxN (((((((w4.setCell ⟨w.heap.size + 1 + 1, 5, none⟩ (.slice Af R.f.length cf)).setCell ⟨w.heap.size + 1, 0, none⟩ (.string R.s)).setCell ⟨w.heap.size + 1, 1, none⟩ (.slice Au R.u.length cu)).setCell ⟨w.heap.size + 1, 2, none⟩ (.slice Ad R.d.length cd)).setCell ⟨w.heap.size + 1, 3, none⟩ (.int .i64 R.x)).setCell ⟨w.heap.size + 1, 4, none⟩ (.int .i64 R.y)).setCell ⟨w.heap.size + 1, 5, none⟩ (.slice Af R.f.length cf)) (w.heap.size + 1) #[.string R.s, .slice Au R.u.length cu, .slice Ad R.d.length cd, .int .i64 R.x, .int .i64 R.y, .slice Af R.f.length cf] 41 := (((((((Z4.out.other (b := w.heap.size + 1 + 1) (o := 5) (by omega) (.slice Af R.f.length cf)).put 0 (.string R.s)).put 1 (.slice Au R.u.length cu)).put 2 (.slice Ad R.d.length cd)).put 3 (.int .i64 R.x)).put 4 (.int .i64 R.y)).put 5 (.slice Af R.f.length cf))
  have p0 := P.c (k := 0) rfl
  have p1 := P.c (k := 1) rfl
  have p2 := P.c (k := 2) rfl
  have p3 := P.c (k := 3) rfl
  have p4 := P.c (k := 4) rfl
  have p5 := P.c (k := 5) rfl
  refine bodyPost_ret (v := rgV R.s (.slice Au R.u.length cu) (.slice Ad R.d.length cd) R.x R.y (.slice Af R.f.length cf)) (by simp [results, Try.results24, go_sem, rgV, p0, p1, p2, p3, p4, p5]) rfl ?_
  have hU := ownset (ownset (ownset (ownset (ownset (ownset (ownset HU.out (b := w.heap.size + 1 + 1) (by omega) 5 (.slice Af R.f.length cf)) (b := w.heap.size + 1) (by omega) 0 (.string R.s)) (b := w.heap.size + 1) (by omega) 1 (.slice Au R.u.length cu)) (b := w.heap.size + 1) (by omega) 2 (.slice Ad R.d.length cd)) (b := w.heap.size + 1) (by omega) 3 (.int .i64 R.x)) (b := w.heap.size + 1) (by omega) 4 (.int .i64 R.y)) (b := w.heap.size + 1) (by omega) 5 (.slice Af R.f.length cf)
  have hD := ownset (ownset (ownset (ownset (ownset (ownset (ownset HD.out (b := w.heap.size + 1 + 1) (by omega) 5 (.slice Af R.f.length cf)) (b := w.heap.size + 1) (by omega) 0 (.string R.s)) (b := w.heap.size + 1) (by omega) 1 (.slice Au R.u.length cu)) (b := w.heap.size + 1) (by omega) 2 (.slice Ad R.d.length cd)) (b := w.heap.size + 1) (by omega) 3 (.int .i64 R.x)) (b := w.heap.size + 1) (by omega) 4 (.int .i64 R.y)) (b := w.heap.size + 1) (by omega) 5 (.slice Af R.f.length cf)
  have hF := RowsOwn.set (RowsOwn.set (RowsOwn.set (RowsOwn.set (RowsOwn.set (RowsOwn.set (RowsOwn.set HF.out (b := w.heap.size + 1 + 1) (by omega) 5 (.slice Af R.f.length cf)) (b := w.heap.size + 1) (by omega) 0 (.string R.s)) (b := w.heap.size + 1) (by omega) 1 (.slice Au R.u.length cu)) (b := w.heap.size + 1) (by omega) 2 (.slice Ad R.d.length cd)) (b := w.heap.size + 1) (by omega) 3 (.int .i64 R.x)) (b := w.heap.size + 1) (by omega) 4 (.int .i64 R.y)) (b := w.heap.size + 1) (by omega) 5 (.slice Af R.f.length cf)
  exact ⟨_, _, _, V, rfl, owndown (by omega) hU, owndown (by omega) hD, RowsOwn.down (by omega) hF, N1.out, ((((((B4.out.setCell (p := ⟨w.heap.size + 1 + 1, 5, none⟩) (by dsimp only; omega) (.slice Af R.f.length cf)).setCell (p := ⟨w.heap.size + 1, 0, none⟩) (by dsimp only; omega) (.string R.s)).setCell (p := ⟨w.heap.size + 1, 1, none⟩) (by dsimp only; omega) (.slice Au R.u.length cu)).setCell (p := ⟨w.heap.size + 1, 2, none⟩) (by dsimp only; omega) (.slice Ad R.d.length cd)).setCell (p := ⟨w.heap.size + 1, 3, none⟩) (by dsimp only; omega) (.int .i64 R.x)).setCell (p := ⟨w.heap.size + 1, 4, none⟩) (by dsimp only; omega) (.int .i64 R.y)).setCell (p := ⟨w.heap.size + 1, 5, none⟩) (by dsimp only; omega) (.slice Af R.f.length cf)⟩
theorem rg_copy (v : Value) (R : Rg) (w : World) (h : RgAt w v R) (hm : Sm R) :
    Calls Try.prog 24 #[v] w fun e w' => ∃ v', e = .returned v' ∧ RgAt w' v' R ∧ Below w.heap.size w w' :=
  (copy_rg v R w h hm).mono fun e w' ⟨u, d, f, V, he, hu, hd, hf, _, hb⟩ => ⟨_, he, ⟨u, d, f, rfl, IntsAt.own hu, IntsAt.own hd, hf.at⟩, hb⟩
end Go.Proofs.Ytpbgjlmcafmejaa
