/- Ragas that a law marks: copies whose rows lie apart, and what marking leaves. -/
import Derived.Test.YtpbgjlmcafmejaaRg4
namespace Go.Proofs.Ytpbgjlmcafmejaa
open Go.ChangeShapes Go.WideShapes Go.ChangeAt Go.RowKit
set_option linter.unusedVariables false
set_option linter.unusedSimpArgs false
set_option maxRecDepth 100000

/-- all that was there stands, but for blocks from lo to hi -/
structure Turn (lo hi : Nat) (w w' : World) : Prop where
  os : w'.os = w.os
  tape : w'.tape = w.tape
  output : w'.output = w.output
  size : w.heap.size ≤ w'.heap.size
  block : ∀ b, b < w.heap.size → b < lo ∨ hi ≤ b → w'.heap[b]? = w.heap[b]?
theorem Turn.refl (lo hi : Nat) (w : World) : Turn lo hi w w := ⟨rfl, rfl, rfl, Nat.le_refl _, fun _ _ _ => rfl⟩
theorem Turn.trans {lo hi : Nat} {a b c : World} (h : Turn lo hi a b) (h' : Turn lo hi b c) : Turn lo hi a c :=
  ⟨h'.os.trans h.os, h'.tape.trans h.tape, h'.output.trans h.output, Nat.le_trans h.size h'.size, fun x hx hy => (h'.block x (Nat.lt_of_lt_of_le hx h.size) hy).trans (h.block x hx hy)⟩
theorem Turn.grown {lo hi : Nat} {w w' : World} {row : Option Nat} (h : w.grownBy w' row) (hr : ∀ k, row = some k → lo ≤ k ∧ k < hi) : Turn lo hi w w' :=
  ⟨h.os, h.tape, h.output, h.size, fun b hb hy => h.block b hb (fun e => by have := hr b e.symm; omega)⟩
theorem Turn.below {lo hi : Nat} {w w' : World} (h : Below w.heap.size w w') : Turn lo hi w w' := ⟨h.os, h.tape, h.output, h.size, fun b hb _ => h.block b hb⟩
theorem Turn.keeps {lo hi B : Nat} {a w w' : World} (h : Turn lo hi w w') (hb : Below B a w) (h1 : B ≤ lo) (h2 : B ≤ w.heap.size) : Below B a w' :=
  hb.trans ⟨h.os, h.tape, h.output, h.size, fun b hb => h.block b (by omega) (by omega)⟩
theorem BoxN.turn {lo hi g : Nat} {w w' : World} {xs : Array Value} {t : TypeId} (h : BoxN w g xs t) (ht : Turn lo hi w w') (hg : g < lo ∨ hi ≤ g) : BoxN w' g xs t := by
  have := ht.block g h.lt hg
  unfold BoxN at h ⊢
  rw [this, h]
theorem own_turn {lo hi base e size n : Nat} {w w' : World} {v : Value} {xs : List Value} (h : w.ownsRow base e size v n xs) (ht : Turn lo hi w w') (hg : ∀ g, v.ownBlock = some g → g < lo ∨ hi ≤ g) : w'.ownsRow base e size v n xs := by
  refine ⟨h.1, ?_⟩
  rcases h.2 with h2 | ⟨g, cap, cur, hv, hbg, hc, r⟩
  · exact .inl h2
  · have hlt : g < w.heap.size := (Array.getElem?_eq_some_iff.1 hc).1
    exact .inr ⟨g, cap, cur, hv, hbg, by rw [ht.block g hlt (hg g (by rw [hv]; rfl))]; exact hc, r⟩
theorem mark_intsB {te : TypeId} (v : Value) (zs : List Int) (base : Nat) (k : Int) (w : World) (h : w.ownsRow base te 1 v zs.length (ints zs)) (hn : zs.length ≤ 281474976710656) (hk : 0 ≤ k) (hk2 : k ≤ 2305843009213693952) :
    Calls Try.prog 36 #[v, .int .i64 k] w fun e w' => e = .returned (.int .i64 (k + zs.length)) ∧ w'.ownsRow base te 1 v zs.length (ints (marks zs.length k)) ∧ w.grownBy w' v.ownBlock := by
  rcases Nat.eq_zero_or_pos zs.length with h0 | h0
  · obtain rfl := List.eq_nil_of_length_eq_zero h0
    obtain ⟨A, c, rfl⟩ : ∃ A c, v = .slice A 0 c := by
      rcases h.2 with ⟨hv, _⟩ | ⟨g, cap, cur, hv, _⟩
      · exact ⟨none, 0, hv⟩
      · exact ⟨_, cap, hv⟩
    have HO := Bx.mk h
    clear h
    go_enter Try.func36, Try.ntmps36
    go_wp2
    refine wp_loop_rounds 1 ?_
    rw [rounds_succ]
    go_wp2
    go_ret
    exact ⟨ret_int (by simp), by simpa [marks] using HO.out, World.grownBy.refl w _⟩
  · obtain ⟨g, cap, rfl, hbg, hlt⟩ := h.form h0
    have HO := Bx.mk h
    clear h
    go_enter Try.func36, Try.ntmps36
    go_wp2
    go_loopw [1, 5] (fun q i wr => ∃ j : Nat, j ≤ zs.length ∧ i = .int .i64 j ∧ q = .int .i64 (k + j) ∧ Bx (wr.ownsRow base te 1 (.slice (some ⟨g, 0, none⟩) zs.length cap) zs.length (ints (mixed zs k j)) ∧ w.grownBy wr (some g))) (fun _ i _ => zs.length - (intOf i).toNat)
    case atStart => exact ⟨0, Nat.zero_le _, rfl, by go_num, Bx.mk ⟨by rw [mixed_zero]; exact HO.out, World.grownBy.refl w _⟩⟩
    case round =>
      obtain ⟨j, hj, rfl, rfl, HB⟩ := hrel
      by_cases hlt : j < zs.length
      · have hc : ∃ u, wr.cell? ⟨g, j, none⟩ = some u := by
          rw [HB.out.1.cellAt j (by omega)]
          have : j < (ints (mixed zs k j)).length := by rw [ints_len, mixed_len _ _ _ hj]; exact hlt
          exact ⟨_, List.getElem?_eq_getElem this⟩
        obtain ⟨u, hc⟩ := hc
        have hf := HB.out.1.frozenAt j
        have HS : Bx ((wr.setCell ⟨g, j, none⟩ (.int .i64 (k + j))).ownsRow base te 1 (.slice (some ⟨g, 0, none⟩) zs.length cap) zs.length (ints (mixed zs k (j + 1))) ∧ w.grownBy (wr.setCell ⟨g, j, none⟩ (.int .i64 (k + j))) (some g)) := Bx.mk (by
          have hs := HB.out.1.stored j (.int .i64 (k + j))
          rw [mixed_step zs k j hlt] at hs
          exact ⟨hs.1, HB.out.2.trans hs.2⟩)
        clear HB
        go_wp2
        go_roundw
        case rel => exact ⟨j + 1, by omega, by go_num, by go_num, HS⟩
        case measure => simp [intOf]; omega
      · obtain rfl : j = zs.length := by omega
        have HE := HB.out
        rw [mixed_all] at HE
        have HE := Bx.mk HE
        go_wp2
        go_ret
        exact ⟨ret_int (by simp), HE.out.1, HE.out.2⟩

set_option maxHeartbeats 2000000 in
theorem copy_rg2 (v : Value) (R : Rg) (w : World) (h : RgAt w v R) (hm : Sm R) :
    Calls Try.prog 24 #[v] w fun e w' => ∃ u d f V, e = .returned (rgV R.s u d R.x R.y f) ∧ w'.ownsRow w.heap.size 2 1 u R.u.length (ints R.u) ∧ w'.ownsRow w.heap.size 2 1 d R.d.length (ints R.d) ∧ (∀ g, u.ownBlock = some g → d.ownBlock ≠ some g) ∧ (∃ Q, w.heap.size ≤ Q ∧ RowsOwn w' Q f R.f V ∧ (∀ g, u.ownBlock = some g → g < Q) ∧ (∀ g, d.ownBlock = some g → g < Q)) ∧ Below w.heap.size w w' := by
  obtain ⟨A, a, B, b, C, c, rfl, iu, id, ir⟩ := rg_form h
  have q1 := fun W (h : Below w.heap.size w W) => copy_ints _ R.u W (iu.below h) (Nat.le_trans hm.u (by decide))
  have q2 := fun W (h : Below w.heap.size w W) => copy_ints _ R.d W (id.below h) (Nat.le_trans hm.d (by decide))
  have q3 := fun W (h : Below w.heap.size w W) => copy_rows _ R.f W (ir.below h) hm.f hm.g
  clear h iu id ir hm
  go_enter Try.func24, Try.ntmps24
  go_wp2_with (fail)
  have P0 : BoxN (w.alloc (.cells #[.string R.s, .slice A R.u.length a, .slice B R.d.length b, .int .i64 R.x, .int .i64 R.y, .slice C R.f.length c] 37)) w.heap.size #[.string R.s, .slice A R.u.length a, .slice B R.d.length b, .int .i64 R.x, .int .i64 R.y, .slice C R.f.length c] 37 := BoxN.at w _ _ _ rfl
  have Z0 := BoxN.at (w.alloc (.cells #[.string R.s, .slice A R.u.length a, .slice B R.d.length b, .int .i64 R.x, .int .i64 R.y, .slice C R.f.length c] 37)) (w.heap.size + 1) #[.string ⟨#[]⟩, .slice none 0 0, .slice none 0 0, .int .i64 0, .int .i64 0, .slice none 0 0] 41 (by simp)
  have K0 := BoxN.at ((w.alloc (.cells #[.string R.s, .slice A R.u.length a, .slice B R.d.length b, .int .i64 R.x, .int .i64 R.y, .slice C R.f.length c] 37)).alloc (.cells #[.string ⟨#[]⟩, .slice none 0 0, .slice none 0 0, .int .i64 0, .int .i64 0, .slice none 0 0] 41)) (w.heap.size + 1 + 1) #[.string R.s, .slice none 0 0, .slice none 0 0, .int .i64 0, .int .i64 0, .slice none 0 0] 41 (by simp)
  have P0 := (P0.alloc (.cells #[.string ⟨#[]⟩, .slice none 0 0, .slice none 0 0, .int .i64 0, .int .i64 0, .slice none 0 0] 41)).alloc (.cells #[.string R.s, .slice none 0 0, .slice none 0 0, .int .i64 0, .int .i64 0, .slice none 0 0] 41)
  have Z0 := Z0.alloc (.cells #[.string R.s, .slice none 0 0, .slice none 0 0, .int .i64 0, .int .i64 0, .slice none 0 0] 41)
  have B0 : Below w.heap.size w (((w.alloc (.cells #[.string R.s, .slice A R.u.length a, .slice B R.d.length b, .int .i64 R.x, .int .i64 R.y, .slice C R.f.length c] 37)).alloc (.cells #[.string ⟨#[]⟩, .slice none 0 0, .slice none 0 0, .int .i64 0, .int .i64 0, .slice none 0 0] 41)).alloc (.cells #[.string R.s, .slice none 0 0, .slice none 0 0, .int .i64 0, .int .i64 0, .slice none 0 0] 41)) := (((Below.refl _ _).alloc (Nat.le_refl _) _).alloc (by simp) _).alloc (by simp; omega) _
  have S0 : (((w.alloc (.cells #[.string R.s, .slice A R.u.length a, .slice B R.d.length b, .int .i64 R.x, .int .i64 R.y, .slice C R.f.length c] 37)).alloc (.cells #[.string ⟨#[]⟩, .slice none 0 0, .slice none 0 0, .int .i64 0, .int .i64 0, .slice none 0 0] 41)).alloc (.cells #[.string R.s, .slice none 0 0, .slice none 0 0, .int .i64 0, .int .i64 0, .slice none 0 0] 41)).heap.size = w.heap.size + 1 + 1 + 1 := by simp
  generalize hW : (((w.alloc (.cells #[.string R.s, .slice A R.u.length a, .slice B R.d.length b, .int .i64 R.x, .int .i64 R.y, .slice C R.f.length c] 37)).alloc (.cells #[.string ⟨#[]⟩, .slice none 0 0, .slice none 0 0, .int .i64 0, .int .i64 0, .slice none 0 0] 41)).alloc (.cells #[.string R.s, .slice none 0 0, .slice none 0 0, .int .i64 0, .int .i64 0, .slice none 0 0] 41)) = W0 at *
  clear hW
  refine (q1 _ B0).mono ?_
  rintro r w1 ⟨u, rfl, ho, hb⟩
  obtain ⟨Au, cu, rfl⟩ := own_len ho
  have B1 := Bx.mk (B0.trans (hb.mono B0.size))
  have HU := Bx.mk (S0 ▸ ho)
  have P1 := Bx.mk (P0.below hb)
  have Z1 := Bx.mk (Z0.below hb)
  have K1 := Bx.mk (K0.below hb)
  clear P0 Z0 K0 B0 q1 ho hb S0
  have p2 := P1.out.c (k := 2) rfl
  have k1 := K1.out.c (k := 1) rfl
  have kf := K1.out.fr 1
  have kl := K1.out.lt
  go_wp2_with (fail)
  have K1 : Bx (BoxN (w1.setCell ⟨w.heap.size + 1 + 1, 1, none⟩ (.slice Au R.u.length cu)) (w.heap.size + 1 + 1) #[.string R.s, .slice Au R.u.length cu, .slice none 0 0, .int .i64 0, .int .i64 0, .slice none 0 0] 41) := Bx.mk (K1.out.put 1 (.slice Au R.u.length cu))
  have P1 := Bx.mk (P1.out.other (b := w.heap.size + 1 + 1) (o := 1) (by omega) (.slice Au R.u.length cu))
  have Z1 := Bx.mk (Z1.out.other (b := w.heap.size + 1 + 1) (o := 1) (by omega) (.slice Au R.u.length cu))
  have HU := Bx.mk (ownset HU.out (b := w.heap.size + 1 + 1) (by omega) 1 (.slice Au R.u.length cu))
  have B1 := Bx.mk (B1.out.setCell (p := ⟨w.heap.size + 1 + 1, 1, none⟩) (by dsimp only; omega) (.slice Au R.u.length cu))
  clear p2 k1 kf kl
  generalize hW : w1.setCell ⟨w.heap.size + 1 + 1, 1, none⟩ (.slice Au R.u.length cu) = W1 at *
  clear hW
  refine (q2 _ B1.out).mono ?_
  rintro r w2 ⟨d, rfl, ho, hb⟩
  obtain ⟨Ad, cd, rfl⟩ := own_len ho
  have hz := P1.out.lt
  have N1 : Bx (∀ g, (.slice Au R.u.length cu : Value).ownBlock = some g → (.slice Ad R.d.length cd : Value).ownBlock ≠ some g) := Bx.mk (fun g h1 h2 => by
    have := own_hi HU.out g h1
    have := own_lo ho g h2
    omega)
  have L1 := K1.out.lt
  have B2 := Bx.mk (B1.out.trans (hb.mono B1.out.size))
  have HD := Bx.mk (owndown (b1 := w.heap.size + 1 + 1 + 1) (by omega) ho)
  have HU := Bx.mk (own_below HU.out hb)
  have P2 := Bx.mk (P1.out.below hb)
  have Z2 := Bx.mk (Z1.out.below hb)
  have K2 := Bx.mk (K1.out.below hb)
  clear P1 Z1 K1 B1 q2 ho hb L1 hz
  have p3 := P2.out.c (k := 3) rfl
  have p4 := P2.out.c (k := 4) rfl
  have p5 := P2.out.c (k := 5) rfl
  have k2 := K2.out.c (k := 2) rfl
  have k3 := K2.out.c (k := 3) rfl
  have k4 := K2.out.c (k := 4) rfl
  have kf2 := K2.out.fr 2
  have kf3 := K2.out.fr 3
  have kf4 := K2.out.fr 4
  have kl := K2.out.lt
  go_wp2_with (fail)
  have q3 := fun W (h : Below w.heap.size w W) => q3 W h
  have K3 : Bx (BoxN (((w2.setCell ⟨w.heap.size + 1 + 1, 2, none⟩ (.slice Ad R.d.length cd)).setCell ⟨w.heap.size + 1 + 1, 3, none⟩ (.int .i64 R.x)).setCell ⟨w.heap.size + 1 + 1, 4, none⟩ (.int .i64 R.y)) (w.heap.size + 1 + 1) #[.string R.s, .slice Au R.u.length cu, .slice Ad R.d.length cd, .int .i64 R.x, .int .i64 R.y, .slice none 0 0] 41) := Bx.mk (((K2.out.put 2 (.slice Ad R.d.length cd)).put 3 (.int .i64 R.x)).put 4 (.int .i64 R.y))
  have Z3 := Bx.mk (((Z2.out.other (b := w.heap.size + 1 + 1) (o := 2) (by omega) (.slice Ad R.d.length cd)).other (b := w.heap.size + 1 + 1) (o := 3) (by omega) (.int .i64 R.x)).other (b := w.heap.size + 1 + 1) (o := 4) (by omega) (.int .i64 R.y))
  have HU := Bx.mk (ownset (ownset (ownset HU.out (b := w.heap.size + 1 + 1) (by omega) 2 (.slice Ad R.d.length cd)) (b := w.heap.size + 1 + 1) (by omega) 3 (.int .i64 R.x)) (b := w.heap.size + 1 + 1) (by omega) 4 (.int .i64 R.y))
  have HD := Bx.mk (ownset (ownset (ownset HD.out (b := w.heap.size + 1 + 1) (by omega) 2 (.slice Ad R.d.length cd)) (b := w.heap.size + 1 + 1) (by omega) 3 (.int .i64 R.x)) (b := w.heap.size + 1 + 1) (by omega) 4 (.int .i64 R.y))
  have B3 := Bx.mk (((B2.out.setCell (p := ⟨w.heap.size + 1 + 1, 2, none⟩) (by dsimp only; omega) (.slice Ad R.d.length cd)).setCell (p := ⟨w.heap.size + 1 + 1, 3, none⟩) (by dsimp only; omega) (.int .i64 R.x)).setCell (p := ⟨w.heap.size + 1 + 1, 4, none⟩) (by dsimp only; omega) (.int .i64 R.y))
  clear p3 p4 p5 k2 k3 k4 kf2 kf3 kf4 kl K2 Z2 B2 P2
  generalize hW : ((w2.setCell ⟨w.heap.size + 1 + 1, 2, none⟩ (.slice Ad R.d.length cd)).setCell ⟨w.heap.size + 1 + 1, 3, none⟩ (.int .i64 R.x)).setCell ⟨w.heap.size + 1 + 1, 4, none⟩ (.int .i64 R.y) = W3 at *
  clear hW
  refine (q3 _ B3.out).mono ?_
  rintro r w4 ⟨f, V, rfl, ho, hb⟩
  obtain ⟨Af, cf, rfl⟩ := own_len ho.out
  have L3 := K3.out.lt
  have B4 := Bx.mk (B3.out.trans (hb.mono B3.out.size))
  have HF := Bx.mk ho
  have HQ : Bx (w.heap.size + 1 + 1 < W3.heap.size) := Bx.mk L3
  have NU := Bx.mk (own_hi HU.out)
  have ND := Bx.mk (own_hi HD.out)
  have HU := Bx.mk (own_below HU.out hb)
  have HD := Bx.mk (own_below HD.out hb)
  have Z4 := Bx.mk (Z3.out.below hb)
  have K4 := Bx.mk (K3.out.below hb)
  clear Z3 K3 B3 q3 ho hb L3
  have k0 := K4.out.c (k := 0) rfl
  have k1 := K4.out.c (k := 1) rfl
  have k2 := K4.out.c (k := 2) rfl
  have k3 := K4.out.c (k := 3) rfl
  have k4 := K4.out.c (k := 4) rfl
  have k5 := K4.out.c (k := 5) rfl
  have kf5 := K4.out.fr 5
  have kl := K4.out.lt
  have z0 := Z4.out.c (k := 0) rfl
  have z1 := Z4.out.c (k := 1) rfl
  have z2 := Z4.out.c (k := 2) rfl
  have z3 := Z4.out.c (k := 3) rfl
  have z4 := Z4.out.c (k := 4) rfl
  have z5 := Z4.out.c (k := 5) rfl
  have zf0 := Z4.out.fr 0
  have zf1 := Z4.out.fr 1
  have zf2 := Z4.out.fr 2
  have zf3 := Z4.out.fr 3
  have zf4 := Z4.out.fr 4
  have zf5 := Z4.out.fr 5
  have zl := Z4.out.lt
  go_wp2_with (fail)
  have P : BoxN (((((((w4.setCell ⟨w.heap.size + 1 + 1, 5, none⟩ (.slice Af R.f.length cf)).setCell ⟨w.heap.size + 1, 0, none⟩ (.string R.s)).setCell ⟨w.heap.size + 1, 1, none⟩ (.slice Au R.u.length cu)).setCell ⟨w.heap.size + 1, 2, none⟩ (.slice Ad R.d.length cd)).setCell ⟨w.heap.size + 1, 3, none⟩ (.int .i64 R.x)).setCell ⟨w.heap.size + 1, 4, none⟩ (.int .i64 R.y)).setCell ⟨w.heap.size + 1, 5, none⟩ (.slice Af R.f.length cf)) (w.heap.size + 1) #[.string R.s, .slice Au R.u.length cu, .slice Ad R.d.length cd, .int .i64 R.x, .int .i64 R.y, .slice Af R.f.length cf] 41 := (((((((Z4.out.other (b := w.heap.size + 1 + 1) (o := 5) (by omega) (.slice Af R.f.length cf)).put 0 (.string R.s)).put 1 (.slice Au R.u.length cu)).put 2 (.slice Ad R.d.length cd)).put 3 (.int .i64 R.x)).put 4 (.int .i64 R.y)).put 5 (.slice Af R.f.length cf))
  have p0 := P.c (k := 0) rfl
  have p1 := P.c (k := 1) rfl
  have p2 := P.c (k := 2) rfl
  have p3 := P.c (k := 3) rfl
  have p4 := P.c (k := 4) rfl
  have p5 := P.c (k := 5) rfl
  refine bodyPost_ret (v := rgV R.s (.slice Au R.u.length cu) (.slice Ad R.d.length cd) R.x R.y (.slice Af R.f.length cf)) (by simp [results, Try.results24, go_sem, rgV, p0, p1, p2, p3, p4, p5]) rfl ?_
  have hU := ownset (ownset (ownset (ownset (ownset (ownset (ownset HU.out (b := w.heap.size + 1 + 1) (by omega) 5 (.slice Af R.f.length cf)) (b := w.heap.size + 1) (by omega) 0 (.string R.s)) (b := w.heap.size + 1) (by omega) 1 (.slice Au R.u.length cu)) (b := w.heap.size + 1) (by omega) 2 (.slice Ad R.d.length cd)) (b := w.heap.size + 1) (by omega) 3 (.int .i64 R.x)) (b := w.heap.size + 1) (by omega) 4 (.int .i64 R.y)) (b := w.heap.size + 1) (by omega) 5 (.slice Af R.f.length cf)
  have hD := ownset (ownset (ownset (ownset (ownset (ownset (ownset HD.out (b := w.heap.size + 1 + 1) (by omega) 5 (.slice Af R.f.length cf)) (b := w.heap.size + 1) (by omega) 0 (.string R.s)) (b := w.heap.size + 1) (by omega) 1 (.slice Au R.u.length cu)) (b := w.heap.size + 1) (by omega) 2 (.slice Ad R.d.length cd)) (b := w.heap.size + 1) (by omega) 3 (.int .i64 R.x)) (b := w.heap.size + 1) (by omega) 4 (.int .i64 R.y)) (b := w.heap.size + 1) (by omega) 5 (.slice Af R.f.length cf)
  have hF := RowsOwn.set (RowsOwn.set (RowsOwn.set (RowsOwn.set (RowsOwn.set (RowsOwn.set (RowsOwn.set HF.out (b := w.heap.size + 1 + 1) (by have := HQ.out; omega) 5 (.slice Af R.f.length cf)) (b := w.heap.size + 1) (by have := HQ.out; omega) 0 (.string R.s)) (b := w.heap.size + 1) (by have := HQ.out; omega) 1 (.slice Au R.u.length cu)) (b := w.heap.size + 1) (by have := HQ.out; omega) 2 (.slice Ad R.d.length cd)) (b := w.heap.size + 1) (by have := HQ.out; omega) 3 (.int .i64 R.x)) (b := w.heap.size + 1) (by have := HQ.out; omega) 4 (.int .i64 R.y)) (b := w.heap.size + 1) (by have := HQ.out; omega) 5 (.slice Af R.f.length cf)
  exact ⟨_, _, _, V, rfl, owndown (by omega) hU, owndown (by omega) hD, N1.out, ⟨W3.heap.size, by have := HQ.out; omega, hF, NU.out, ND.out⟩, ((((((B4.out.setCell (p := ⟨w.heap.size + 1 + 1, 5, none⟩) (by dsimp only; omega) (.slice Af R.f.length cf)).setCell (p := ⟨w.heap.size + 1, 0, none⟩) (by dsimp only; omega) (.string R.s)).setCell (p := ⟨w.heap.size + 1, 1, none⟩) (by dsimp only; omega) (.slice Au R.u.length cu)).setCell (p := ⟨w.heap.size + 1, 2, none⟩) (by dsimp only; omega) (.slice Ad R.d.length cd)).setCell (p := ⟨w.heap.size + 1, 3, none⟩) (by dsimp only; omega) (.int .i64 R.x)).setCell (p := ⟨w.heap.size + 1, 4, none⟩) (by dsimp only; omega) (.int .i64 R.y)).setCell (p := ⟨w.heap.size + 1, 5, none⟩) (by dsimp only; omega) (.slice Af R.f.length cf)⟩
theorem ne_row {v : Value} {row : Option Nat} (h : ∀ g, row = some g → v.ownBlock ≠ some g) : v.ownBlock = none ∨ v.ownBlock ≠ row := by
  cases hr : row with
  | none =>
    cases hv : v.ownBlock with
    | none => exact .inl rfl
    | some g => exact .inr (by simp)
  | some g => exact .inr (h g hr)
set_option maxHeartbeats 1000000 in
theorem mark_rows (v : Value) (L : List (List Int)) (V : Nat → Value) (lo hi : Nat) (k : Int) (w : World) (h : RowsOwn w lo v L V) (hU : ∀ i, i < L.length → ∀ g, (V i).ownBlock = some g → g < hi) (hn : L.length ≤ 1048576)
    (hg : ∀ i, i < L.length → (L.getD i []).length ≤ 1048576) (hk : 0 ≤ k ∧ k ≤ 4194304) :
    Calls Try.prog 77 #[v, .int .i64 k] w fun e w' => ∃ z : Int, e = .returned (.int .i64 z) ∧ 0 ≤ z ∧ Turn lo hi w w' := by
  obtain ⟨A, c, rfl⟩ := own_len h.out
  have HO := Bx.mk h
  have HU := Bx.mk hU
  have HG := Bx.mk hg
  clear h hU hg
  go_enter Try.func77, Try.ntmps77
  go_wp2_with (fail)
  go_loopw [1, 5] (fun q i wr => ∃ (j : Nat) (z : Int), j ≤ L.length ∧ i = .int .i64 j ∧ q = .int .i64 z ∧ (0 ≤ z ∧ z ≤ 4194304 + (j : Int) * 1048576) ∧ Bx (wr.ownsRow lo 22 1 (.slice A L.length c) L.length ((List.range L.length).map V)) ∧ Bx (∀ i, j ≤ i → i < L.length → wr.ownsRow lo 2 1 (V i) (L.getD i []).length (ints (L.getD i []))) ∧ Bx (Turn lo hi w wr)) (fun _ i _ => L.length - (intOf i).toNat)
  case atStart => exact ⟨0, _, Nat.zero_le _, rfl, rfl, by omega, Bx.mk HO.out.out, Bx.mk (fun i _ hi => HO.out.row i hi), Bx.mk (Turn.refl _ _ _)⟩
  case round =>
    obtain ⟨j, z, hj, rfl, rfl, hz, HX, HR, HT⟩ := hrel
    by_cases hlt : j < L.length
    · obtain ⟨g, cap, hv, _, _⟩ := HX.out.form (by omega)
      injection hv with hA _ hC
      subst hA hC
      have c1 : wr.cell? ⟨g, j, none⟩ = some (V j) := by rw [HX.out.cellAt j (by omega)]; simp [hlt]
      have ho := HR.out j (Nat.le_refl _) hlt
      obtain ⟨Aj, cj, hVj⟩ := own_len ho
      rw [hVj] at c1
      have hq := mark_intsB (V j) (L.getD j []) lo z wr ho (Nat.le_trans (HG.out j hlt) (by decide)) hz.1 (by omega)
      rw [hVj] at hq
      have HLj := Bx.mk (HG.out j hlt)
      have HN : Bx (∀ W, wr.grownBy W (Value.slice Aj (L.getD j []).length cj).ownBlock → W.ownsRow lo 22 1 (.slice (some ⟨g, 0, none⟩) L.length c) L.length ((List.range L.length).map V) ∧ (∀ i, j + 1 ≤ i → i < L.length → W.ownsRow lo 2 1 (V i) (L.getD i []).length (ints (L.getD i []))) ∧ Turn lo hi w W) := Bx.mk (fun W hgW => by
        rw [← hVj] at hgW
        refine ⟨HX.out.kept hgW (ne_row (fun x hx => HO.out.top j hlt x hx)), fun i hi1 hi2 => (HR.out i (by omega) hi2).kept hgW (ne_row (fun x hx => HO.out.two j i (by omega) hi2 x hx)), HT.out.trans (Turn.grown hgW (fun x hx => ⟨own_lo ho x hx, HU.out j hlt x hx⟩))⟩)
      clear ho HX HR HT hVj
      generalize (L.getD j []).length = n at *
      have k1 : (0 : Int) ≤ (j : Int) := by omega
      have k2 : (j : Int) < (L.length : Int) := by omega
      have hz2 : 0 ≤ z + (n : Int) ∧ z + (n : Int) ≤ 4194304 + ((j + 1 : Nat) : Int) * 1048576 := by have := HLj.out; push_cast; omega
      go_wp2_with (fail)
      refine hq.mono ?_
      rintro r w1 ⟨rfl, _, hgr⟩
      obtain ⟨n1, n2, n3⟩ := HN.out w1 hgr
      have N1 := Bx.mk n1
      have N2 := Bx.mk n2
      have N3 := Bx.mk n3
      clear n1 n2 n3 hgr HN
      go_wp2_with (fail)
      go_roundw
      case rel => exact ⟨j + 1, z + (n : Int), by omega, by go_num, rfl, hz2, N1, N2, N3⟩
      case measure => simp [intOf]; omega
    · obtain rfl : j = L.length := by omega
      go_wp2_with (fail)
      go_ret
      exact ⟨z, rfl, hz.1, HT.out⟩
theorem rows_kept {w w' : World} {Q : Nat} {v : Value} {L : List (List Int)} {V : Nat → Value} {row : Option Nat} (h : RowsOwn w Q v L V) (hg : w.grownBy w' row) (hr : ∀ g, row = some g → g < Q) : RowsOwn w' Q v L V :=
  ⟨h.out.kept hg (ne_row (fun x hx e => by have := own_lo h.out x e; have := hr x hx; omega)), fun k hk => (h.row k hk).kept hg (ne_row (fun x hx e => by have := own_lo (h.row k hk) x e; have := hr x hx; omega)), h.top, h.two⟩
theorem BoxN.grownR {g : Nat} {w w' : World} {xs : Array Value} {t : TypeId} {row : Option Nat} (h : BoxN w g xs t) (hg : w.grownBy w' row) (hn : ¬ some g = row) : BoxN w' g xs t := by
  have := hg.block g h.lt hn
  unfold BoxN at h ⊢
  rw [this, h]
theorem Turn.weaken {lo lo' hi : Nat} {w w' : World} (h : Turn lo' hi w w') (hl : lo ≤ lo') : Turn lo hi w w' :=
  ⟨h.os, h.tape, h.output, h.size, fun b hb hy => h.block b hb (by omega)⟩
set_option maxHeartbeats 1000000 in
theorem mark_rg (R : Rg) (u d f : Value) (V : Nat → Value) (lo hi Q : Nat) (w : World) (hm : Sm R) (hu : w.ownsRow lo 2 1 u R.u.length (ints R.u)) (hd : w.ownsRow lo 2 1 d R.d.length (ints R.d)) (hf : RowsOwn w Q f R.f V) (hQ : lo ≤ Q)
    (n1 : ∀ g, u.ownBlock = some g → d.ownBlock ≠ some g) (n2 : ∀ g, u.ownBlock = some g → g < Q) (n3 : ∀ g, d.ownBlock = some g → g < Q) (hU : ∀ g, u.ownBlock = some g → g < hi) (hD : ∀ g, d.ownBlock = some g → g < hi) (hF : ∀ i, i < R.f.length → ∀ g, (V i).ownBlock = some g → g < hi) :
    Calls Try.prog 27 #[rgV R.s u d R.x R.y f, .int .i64 1] w fun e w' => ∃ z : Int, e = .returned (.int .i64 z) ∧ 0 ≤ z ∧ Turn lo hi w w' := by
  obtain ⟨Au, au, rfl⟩ := own_len hu
  obtain ⟨Ad, ad, rfl⟩ := own_len hd
  obtain ⟨Af, af, rfl⟩ := own_len hf.out
  have b1 := hm.u
  have b2 := hm.d
  have q1 := fun W hW => mark_intsB (te := 2) (.slice Au R.u.length au) R.u lo 1 W hW (Nat.le_trans hm.u (by decide)) (by decide) (by decide)
  have q2 := fun W hW => mark_intsB (te := 2) (.slice Ad R.d.length ad) R.d lo (1 + (R.u.length : Int)) W hW (Nat.le_trans hm.d (by decide)) (by omega) (by omega)
  have q3 := fun W hW => mark_rows (.slice Af R.f.length af) R.f V Q hi (1 + (R.u.length : Int) + (R.d.length : Int)) W hW hF hm.f hm.g (by omega)
  have HU := Bx.mk hu
  have HD := Bx.mk hd
  have HF := Bx.mk hf
  have N := Bx.mk (And.intro n1 (And.intro n2 (And.intro n3 (And.intro hU (And.intro hD hQ)))))
  clear hu hd hf n1 n2 n3 hU hD hF hm hQ
  unfold rgV
  go_enter Try.func27, Try.ntmps27
  go_wp2_with (fail)
  have hb0 : Below w.heap.size w (w.alloc (.cells #[.string R.s, .slice Au R.u.length au, .slice Ad R.d.length ad, .int .i64 R.x, .int .i64 R.y, .slice Af R.f.length af] 41)) := (Below.refl _ _).alloc (Nat.le_refl _) _
  have P0 := BoxN.at w w.heap.size #[.string R.s, .slice Au R.u.length au, .slice Ad R.d.length ad, .int .i64 R.x, .int .i64 R.y, .slice Af R.f.length af] 41 rfl
  generalize w.alloc (.cells #[.string R.s, .slice Au R.u.length au, .slice Ad R.d.length ad, .int .i64 R.x, .int .i64 R.y, .slice Af R.f.length af] 41) = W0 at hb0 P0 ⊢
  have T0 : Bx (Turn lo hi w W0) := Bx.mk (Turn.below hb0)
  have HN := Bx.mk (own_hi HU.out)
  have HNd := Bx.mk (own_hi HD.out)
  have HU := Bx.mk (own_below HU.out hb0)
  have HD := Bx.mk (own_below HD.out hb0)
  have HF := Bx.mk (RowsOwn.below HF.out hb0)
  have P0 := Bx.mk P0
  clear hb0
  have p0 := P0.out.c (k := 0) rfl
  have p1 := P0.out.c (k := 1) rfl
  have p2 := P0.out.c (k := 2) rfl
  have p3 := P0.out.c (k := 3) rfl
  have p4 := P0.out.c (k := 4) rfl
  have p5 := P0.out.c (k := 5) rfl
  have pl := P0.out.lt
  refine (q1 _ HU.out).mono ?_
  rintro r w1 ⟨rfl, _, hg⟩
  have T1 := Bx.mk (T0.out.trans (Turn.grown hg (fun x hx => ⟨own_lo HU.out x hx, N.out.2.2.2.1 x hx⟩)))
  have HD1 := Bx.mk (HD.out.kept hg (ne_row (fun x hx => N.out.1 x hx)))
  have HF1 := Bx.mk (rows_kept HF.out hg N.out.2.1)
  have P1 := Bx.mk (P0.out.grownR hg (fun e => by have := HN.out _ e.symm; omega))
  clear T0 HD HF P0 p0 p1 p2 p3 p4 p5 pl hg q1 HU
  have p0 := P1.out.c (k := 0) rfl
  have p1 := P1.out.c (k := 1) rfl
  have p2 := P1.out.c (k := 2) rfl
  have p3 := P1.out.c (k := 3) rfl
  have p4 := P1.out.c (k := 4) rfl
  have p5 := P1.out.c (k := 5) rfl
  have pl := P1.out.lt
  go_wp2_with (fail)
  refine (q2 _ HD1.out).mono ?_
  rintro r w2 ⟨rfl, _, hg⟩
  have T2 := Bx.mk (T1.out.trans (Turn.grown hg (fun x hx => ⟨own_lo HD1.out x hx, N.out.2.2.2.2.1 x hx⟩)))
  have HF2 := Bx.mk (rows_kept HF1.out hg N.out.2.2.1)
  have P2 := Bx.mk (P1.out.grownR hg (fun e => by have := HNd.out _ e.symm; omega))
  clear T1 HD1 HF1 P1 p0 p1 p2 p3 p4 p5 pl hg q2
  have p0 := P2.out.c (k := 0) rfl
  have p1 := P2.out.c (k := 1) rfl
  have p2 := P2.out.c (k := 2) rfl
  have p3 := P2.out.c (k := 3) rfl
  have p4 := P2.out.c (k := 4) rfl
  have p5 := P2.out.c (k := 5) rfl
  have pl := P2.out.lt
  go_wp2_with (fail)
  refine (q3 _ HF2.out).mono ?_
  rintro r w3 ⟨z, rfl, hz, ht⟩
  have T3 := Bx.mk (T2.out.trans (ht.weaken N.out.2.2.2.2.2))
  clear ht p0 p1 p2 p3 p4 p5 pl
  go_wp2_with (fail)
  go_ret
  exact ⟨z, rfl, hz, T3.out⟩
end Go.Proofs.Ytpbgjlmcafmejaa
