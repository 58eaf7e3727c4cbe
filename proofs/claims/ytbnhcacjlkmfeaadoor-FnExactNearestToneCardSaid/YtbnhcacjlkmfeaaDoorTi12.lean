/- The program's NearestTone. -/
import Derived.Test.YtbnhcacjlkmfeaaDoorTi7
import Derived.Test.YtbnhcacjlkmfeaaDoorTuM3
import Derived.Test.YtbnhcacjlkmfeaaDoorShelf
import Derived.Shelf.SlSorted.Search
namespace Go.Proofs.YtbnhcacjlkmfeaaDoor
open Go.ChangeShapes Go.WideShapes Go.ChangeAt Go.RowKit
set_option linter.unusedVariables false
set_option linter.unusedSimpArgs false
set_option maxRecDepth 100000
set_option maxRecDepth 10000

theorem impl_searchints (g : Nat) (f : Nat → Int) (x : Int) (W : World) (hm : ∀ i j, i ≤ j → j < 36 → f i ≤ f j) (h : ArrAt W g (ladL f) 58) :
    Calls Tryd.prog 41 #[.slice (some ⟨g, 0, none⟩) 36 36, .int .i64 x] W fun e w' => e = .returned (.int .i64 (cntF f 36 x : Nat)) ∧ Below W.heap.size W w' := by
  have hd : ∀ i, i < 36 → (((List.range 36).map f).toArray)[i]! = f i := fun i hi => by
    rw [getElem!_pos _ i (by simpa using hi)]; simp
  have hq := Any.sort_SearchInts Tryd.searchInts g 0 36 ((List.range 36).map f).toArray x W (fun i hi => by
    have hi2 : i < 36 := by simpa using hi
    rw [Nat.zero_add, h.cell i, hd i hi2]
    simp [ladL, hi2]) h.lt (by simp) (fun a b hab hb hx => by
    have hb2 : b < 36 := by simpa using hb
    rw [hd a (by omega)] at hx
    rw [hd b hb2]
    have := hm a b hab hb2
    simp only [decide_eq_true_eq] at hx ⊢
    omega)
  have e1 : ((List.range 36).map f).toArray.size = 36 := by simp
  rw [e1] at hq
  exact hq
set_option maxHeartbeats 8000000 in
theorem impl_nearest (s : ByteArray) (v : Value) (l : List (Int × Int)) (c0 : Int) (w : World) (h : PrsAt w v l) (hs : s.size ≤ maxLen) (hm : l.length ≤ 281474976710656) (hT : StepTab w) :
    Calls Tryd.prog 15 #[tun s v, .int .i64 c0] w (ThreeOut (neE s.data.toList l c0) w) := by
  have hk := fun W hW => impl_validtuning s v l W hW hs hm
  have HI := Bx.mk h
  have HT := Bx.mk hT
  cases ht : tunB s.data.toList l
  · have HE : Bx (neE s.data.toList l c0 = (0, 0, 1)) := Bx.mk (by simp [neE, ht])
    obtain ⟨A, c, rfl⟩ := prs_len h
    simp only [tun] at *
    rw [ht] at hk
    clear ht h hs hm hT
    go_enter Tryd.func15, Tryd.ntmps15
    go_wp2_with (fail)
    refine (hk _ (HI.out.below ((Below.refl _ _).alloc (Nat.le_refl _) _))).mono ?_
    rintro e w1 ⟨rfl, hb1⟩
    have B1 : Bx (Below w.heap.size w w1) := Bx.mk (((Below.refl _ _).alloc (Nat.le_refl _) _).trans (hb1.mono (by go_size)))
    clear hb1
    go_wp2_with (fail)
    go_returns
    rw [ThreeOut, HE.out]
    exact ⟨rfl, B1.out⟩
  · have HIN : Bx (inB c0 (-120000) 240000 = (decide (-120000 ≤ c0) && decide (c0 ≤ 240000))) := Bx.mk (by simp [inB])
    cases hc : inB c0 (-120000) 240000
    · have HE : Bx (neE s.data.toList l c0 = (0, 0, 2)) := Bx.mk (by simp [neE, ht, hc])
      obtain ⟨A, c, rfl⟩ := prs_len h
      simp only [tun] at *
      rw [ht] at hk
      have hno := inB_no hc
      clear ht h hs hm hT hc HIN
      by_cases h1 : c0 < -120000
      · have d1 : decide (c0 < -120000) = true := decide_eq_true h1
        go_enter Tryd.func15, Tryd.ntmps15
        go_wp2_with (fail)
        refine (hk _ (HI.out.below ((Below.refl _ _).alloc (Nat.le_refl _) _))).mono ?_
        rintro e w1 ⟨rfl, hb1⟩
        have B1 : Bx (Below w.heap.size w w1) := Bx.mk (((Below.refl _ _).alloc (Nat.le_refl _) _).trans (hb1.mono (by go_size)))
        clear hb1
        go_wp2_with (fail)
        go_returns
        rw [ThreeOut, HE.out]
        exact ⟨rfl, B1.out⟩
      · have d1 : decide (c0 < -120000) = false := decide_eq_false h1
        have d2 : decide (c0 > 240000) = true := decide_eq_true (by omega)
        have d3 : decide (240000 < c0) = true := decide_eq_true (by omega)
        go_enter Tryd.func15, Tryd.ntmps15
        go_wp2_with (fail)
        refine (hk _ (HI.out.below ((Below.refl _ _).alloc (Nat.le_refl _) _))).mono ?_
        rintro e w1 ⟨rfl, hb1⟩
        have B1 : Bx (Below w.heap.size w w1) := Bx.mk (((Below.refl _ _).alloc (Nat.le_refl _) _).trans (hb1.mono (by go_size)))
        clear hb1
        go_wp2_with (fail)
        go_returns
        rw [ThreeOut, HE.out]
        exact ⟨rfl, B1.out⟩
    · obtain ⟨q1, q2⟩ := inB_yes hc
      obtain ⟨f, hf⟩ : ∃ f : Nat → Int, ∀ k : Nat, f k = centsT l (-12 + (k : Int)) := ⟨fun k => centsT l (-12 + (k : Int)), fun _ => rfl⟩
      have hmo : ∀ i j, i ≤ j → j < 36 → f i ≤ f j := fun i j hi _ => by rw [hf, hf]; exact ladder_mono ht i j hi
      have HBD := Bx.mk (fun (k : Nat) (hk : k < 36) => (show -500000000000 ≤ f k ∧ f k ≤ 500000000000 by rw [hf]; exact centsT_bd ht (by omega)))
      have HE : Bx (neE s.data.toList l c0 = (-12 + (cntF f 36 (nearV f c0) : Int), c0 - nearV f c0, 0)) := Bx.mk (by simp [neE, ht, hc, near_is l c0 f hf hmo])
      have hlad := fun W hW hT => impl_ladder s v l f hf W hW ht hT
      have hse := fun g x W hW => impl_searchints g f x W hmo hW
      obtain ⟨a1, _, a3⟩ := cnt_is f c0 36 hmo
      have A3 := Bx.mk a3
      clear a3
      obtain ⟨n1, n2, _, _⟩ := near_alg f c0 hmo
      have HNV : Bx (nearV f c0 = if cntF f 36 c0 < 36 ∧ f (cntF f 36 c0) - c0 < c0 - f (cntF f 36 c0 - 1) then f (cntF f 36 c0) else f (cntF f 36 c0 - 1)) := Bx.mk rfl
      have hse1 := fun g W hW => hse g c0 W hW
      have hse2 := fun g W hW => hse g (nearV f c0) W hW
      have HBN : Bx (-500000000000 ≤ nearV f c0 ∧ nearV f c0 ≤ 500000000000) := Bx.mk (by rw [← n2]; exact HBD.out _ n1)
      generalize nearV f c0 = N at *
      generalize cntF f 36 N = P at *
      generalize cntF f 36 c0 = a at *
      obtain ⟨A, c, rfl⟩ := prs_len h
      simp only [tun] at *
      rw [ht] at hk
      have d1 : decide (c0 < -120000) = false := decide_eq_false (by omega)
      have d2 : decide (c0 > 240000) = false := decide_eq_false (by omega)
      have d3 : decide (240000 < c0) = false := decide_eq_false (by omega)
      have hls : (ladL f).toArray.size = 36 := by simp [ladL]
      have HLS := Bx.mk hls
      have hinf := info_lad f
      have hone := lad_one f
      have HLL : Bx ((ladL f).toArray.toList = ladL f) := Bx.mk rfl
      have HLC := Bx.mk (fun k (hk : k < 36) => (show (ladL f)[k]? = some (.int .i64 (f k)) by simp [ladL, hk]))
      generalize hC : (ladL f).toArray = C at *
      clear ht h hs hm hT hc HIN hf hse hmo n2
      go_enter Tryd.func15, Tryd.ntmps15
      go_wp2_with (fail)
      refine (hk _ (HI.out.below ((Below.refl _ _).alloc (Nat.le_refl _) _))).mono ?_
      rintro e w1 ⟨rfl, hb1⟩
      have B1 : Bx (Below w.heap.size w w1) := Bx.mk (((Below.refl _ _).alloc (Nat.le_refl _) _).trans (hb1.mono (by go_size)))
      have K1 : Bx (BoxAt w1 w.heap.size (.string s) (.slice A l.length c) 30) := Bx.mk (BoxAt.below (BoxAt.at _ _ _ _ _ rfl) hb1)
      clear hb1 hk
      have k10 := K1.out.c0
      have k11 := K1.out.c1
      have k1l := K1.out.lt
      go_wp2_with (fail)
      refine (hlad _ (HI.out.below B1.out) (HT.out.below B1.out)).mono ?_
      rintro e w2 ⟨rfl, hb2⟩
      have B2 : Bx (Below w.heap.size w w2) := Bx.mk (B1.out.trans (hb2.mono B1.out.size))
      clear hb2 K1 B1 k10 k11 k1l hlad
      rename_i KK1 hh1 KK2 hh2
      refine hh2 _ _ ?_
      have hz : (#[.int .i64 0, .int .i64 0, .int .i64 0, .int .i64 0, .int .i64 0, .int .i64 0, .int .i64 0, .int .i64 0, .int .i64 0, .int .i64 0, .int .i64 0, .int .i64 0, .int .i64 0, .int .i64 0, .int .i64 0, .int .i64 0, .int .i64 0, .int .i64 0, .int .i64 0, .int .i64 0, .int .i64 0, .int .i64 0, .int .i64 0, .int .i64 0, .int .i64 0, .int .i64 0, .int .i64 0, .int .i64 0, .int .i64 0, .int .i64 0, .int .i64 0, .int .i64 0, .int .i64 0, .int .i64 0, .int .i64 0, .int .i64 0] : Array Value).size = C.size := by rw [hls]; rfl
      refine wpR_val rfl (.int .i64 c0) (w2 := w2) rfl ?_
      refine wpR_val rfl (.pointer (some ⟨w2.heap.size, 0, none⟩)) (w2 := w2.alloc (.cells #[.int .i64 0, .int .i64 0, .int .i64 0, .int .i64 0, .int .i64 0, .int .i64 0, .int .i64 0, .int .i64 0, .int .i64 0, .int .i64 0, .int .i64 0, .int .i64 0, .int .i64 0, .int .i64 0, .int .i64 0, .int .i64 0, .int .i64 0, .int .i64 0, .int .i64 0, .int .i64 0, .int .i64 0, .int .i64 0, .int .i64 0, .int .i64 0, .int .i64 0, .int .i64 0, .int .i64 0, .int .i64 0, .int .i64 0, .int .i64 0, .int .i64 0, .int .i64 0, .int .i64 0, .int .i64 0, .int .i64 0, .int .i64 0] 58)) (by kernel_rfl) ?_
      refine wpR_sto rfl 58 _ _ rfl (.pointer (some ⟨w2.heap.size, 0, none⟩)) (.agg C) rfl rfl (run_storeAt_new w2 58 _ C hinf hz hone) ?_
      refine wpR_val rfl (.int .i64 c0) (w2 := w2.alloc (.cells C 58)) rfl ?_
      refine wpList_nil ?_
      have HA : Bx (ArrAt (w2.alloc (.cells C 58)) w2.heap.size (ladL f) 58) := Bx.mk (by rw [← hC]; exact ArrAt.at _ _ _ _ rfl)
      have HB : Bx (Below w.heap.size w (w2.alloc (.cells C 58))) := Bx.mk (B2.out.alloc B2.out.size _)
      have HG : Bx (w.heap.size ≤ w2.heap.size) := Bx.mk B2.out.size
      clear hz B2 hinf hone
      generalize w2.alloc (.cells C 58) = w3 at *
      generalize w2.heap.size = g at *
      refine hh1 _ _ ?_
      go_wp2_with (fail)
      refine (hse1 _ _ HA.out).mono ?_
      rintro e w4 ⟨rfl, hb4⟩
      have HA4 := Bx.mk (HA.out.below hb4)
      have HB4 := Bx.mk (HB.out.trans (hb4.mono HB.out.size))
      clear hb4 HA HB
      have ck := fun (k : Nat) (hk : k < 36) => (show w4.cell? ⟨g, k, none⟩ = some (.int .i64 (f k)) by rw [HA4.out.cell]; exact HLC.out k hk)
      have CK := Bx.mk ck
      clear ck
      have E6 : IntKind.i64.wrap (-12 + (P : Int)) = -12 + (P : Int) := IntWalk.i64_in _ (by omega)
      obtain ⟨b1, b2⟩ := HBN.out
      rcases Nat.eq_zero_or_pos a with h0 | h0
      · subst h0
        have hN : N = f 0 := by have := HNV.out; split at this <;> simpa using this
        subst hN
        have c0' := CK.out 0 (by omega)
        have f0' := HA4.out.f0 0
        have lt0 := HA4.out.lt
        have hc := A3.out 0 (by omega) (by omega)
        have M0 : max (-1 : Int) 0 = 0 := by omega
        have E2 : IntKind.i64.wrap (f 0 - c0) = f 0 - c0 := IntWalk.i64_in _ (by omega)
        have E3 : IntKind.i64.wrap (c0 - f 0) = c0 - f 0 := IntWalk.i64_in _ (by omega)
        have D5 : decide (f 0 - c0 < c0 - f 0) = false := decide_eq_false (by omega)
        clear CK A3 HNV HBN HBD HLC HLL hc
        go_wp2_with (fail)
        refine (hse2 _ _ HA4.out).mono ?_
        rintro e w5 ⟨rfl, hb5⟩
        have HB5 := Bx.mk (HB4.out.trans (hb5.mono HB4.out.size))
        clear hb5 HA4 HB4
        go_wp2_with (fail)
        go_returns
        rw [ThreeOut, HE.out]
        exact ⟨rfl, HB5.out⟩
      · obtain ⟨m, hm⟩ : ∃ m : Nat, m = a - 1 := ⟨_, rfl⟩
        have hm1 : m < 36 := by omega
        have cm := CK.out m hm1
        have fm := HA4.out.f0 m
        have lt0 := HA4.out.lt
        obtain ⟨bm1, bm2⟩ := HBD.out m hm1
        have E1 : IntKind.i64.wrap ((a : Int) - 1) = (m : Int) := by rw [IntWalk.i64_in _ (by omega)]; omega
        have M1 : decide ((0 : Int) > (m : Int)) = false := decide_eq_false (by omega)
        have M2 : decide ((m : Int) < 0) = false := decide_eq_false (by omega)
        have M3 : max (m : Int) 0 = (m : Int) := by omega
        have k0 : (0 : Int) ≤ (m : Int) := by omega
        have k1 : (m : Int) < 36 := by omega
        have E3 : IntKind.i64.wrap (c0 - f m) = c0 - f m := IntWalk.i64_in _ (by omega)
        have HNV2 : Bx (N = if a < 36 ∧ f a - c0 < c0 - f m then f a else f m) := Bx.mk (by rw [hm]; exact HNV.out)
        clear HNV A3 hm HLC HLL
        by_cases ha : a < 36
        · have ca := CK.out a ha
          have fa := HA4.out.f0 a
          obtain ⟨ba1, ba2⟩ := HBD.out a ha
          have D4 : decide ((a : Int) < 36) = true := decide_eq_true (by omega)
          have j0 : (0 : Int) ≤ (a : Int) := by omega
          have j1 : (a : Int) < 36 := by omega
          have E2 : IntKind.i64.wrap (f a - c0) = f a - c0 := IntWalk.i64_in _ (by omega)
          by_cases hd : f a - c0 < c0 - f m
          · have D5 : decide (f a - c0 < c0 - f m) = true := decide_eq_true hd
            have hN : N = f a := by rw [HNV2.out, if_pos ⟨ha, hd⟩]
            subst hN
            have E7 : IntKind.i64.wrap (c0 - f a) = c0 - f a := IntWalk.i64_in _ (by omega)
            clear HNV2 HBN HBD CK ha hd
            go_wp2_with (fail)
            refine (hse2 _ _ HA4.out).mono ?_
            rintro e w5 ⟨rfl, hb5⟩
            have HB5 := Bx.mk (HB4.out.trans (hb5.mono HB4.out.size))
            clear hb5 HA4 HB4
            go_wp2_with (fail)
            go_returns
            rw [ThreeOut, HE.out]
            exact ⟨rfl, HB5.out⟩
          · have D5 : decide (f a - c0 < c0 - f m) = false := decide_eq_false hd
            have hN : N = f m := by rw [HNV2.out, if_neg (fun h => hd h.2)]
            subst hN
            clear HNV2 HBN HBD CK ha hd
            go_wp2_with (fail)
            refine (hse2 _ _ HA4.out).mono ?_
            rintro e w5 ⟨rfl, hb5⟩
            have HB5 := Bx.mk (HB4.out.trans (hb5.mono HB4.out.size))
            clear hb5 HA4 HB4
            go_wp2_with (fail)
            go_returns
            rw [ThreeOut, HE.out]
            exact ⟨rfl, HB5.out⟩
        · have D4 : decide ((a : Int) < 36) = false := decide_eq_false (by omega)
          have hN : N = f m := by rw [HNV2.out, if_neg (fun h => ha h.1)]
          subst hN
          clear HNV2 HBN HBD CK
          go_wp2_with (fail)
          refine (hse2 _ _ HA4.out).mono ?_
          rintro e w5 ⟨rfl, hb5⟩
          have HB5 := Bx.mk (HB4.out.trans (hb5.mono HB4.out.size))
          clear hb5 HA4 HB4
          go_wp2_with (fail)
          go_returns
          rw [ThreeOut, HE.out]
          exact ⟨rfl, HB5.out⟩
end Go.Proofs.YtbnhcacjlkmfeaaDoor
