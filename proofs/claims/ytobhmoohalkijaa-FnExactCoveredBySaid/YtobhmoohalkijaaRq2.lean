/- Why a move is wrong: the program's reason. -/
import Derived.Test.YtobhmoohalkijaaRq
import Derived.Deep.RegionHeld3
namespace Go.Proofs.Ytobhmoohalkijaa
open Go.ChangeShapes Go.WideShapes Go.ChangeAt Go.RowKit
set_option linter.unusedVariables false
set_option linter.unusedSimpArgs false
set_option maxRecDepth 100000

set_option maxHeartbeats 4000000 in
theorem impl_reason (R : Rg) (p q : Int) (mb n : Nat) (w : World) (hok : OkG R) (hS : PSet w mb n (memP R.f)) (hp : -12 ≤ p ∧ p ≤ 23) (hq : -12 ≤ q ∧ q ≤ 23) :
    Calls Try.prog 86 #[.agg #[.int .u16 (maskN R.u R.u.length : Nat), .int .u16 (maskN R.d R.d.length : Nat), .map (some mb)], .int .i64 p, .int .i64 q] w fun e w' => e = .returned (.int .i64 (reasonZ R p q)) ∧ Below w.heap.size w w' := by
  have hu := mask_lt R.u R.u.length (fun k hk => scale_in hok.u k hk)
  have hd := mask_lt R.d R.d.length (fun k hk => scale_in hok.d k hk)
  have hua := on_has hok.u
  have hda := on_has hok.d
  obtain ⟨mu, hmu⟩ : ∃ m, m = maskN R.u R.u.length := ⟨_, rfl⟩
  obtain ⟨md, hmd⟩ : ∃ m, m = maskN R.d R.d.length := ⟨_, rfl⟩
  rw [← hmu] at hu hua
  rw [← hmd] at hd hda
  rw [← hmu, ← hmd]
  clear hmu hmd
  have hor : mu ||| md < 65536 := Nat.lt_of_lt_of_le (Nat.or_lt_two_pow (n := 12) hu hd) (by decide)
  have hT : ∀ z : Int, onB (mu ||| md) (z % 12).toNat = hasT R (z % 12) := fun z => by
    have hz : 0 ≤ z % 12 ∧ z % 12 < 12 := ⟨Int.emod_nonneg _ (by decide), Int.emod_lt_of_pos _ (by decide)⟩
    rw [on_or _ _ _ (by omega), hua, hda]; rfl
  have hall := fun W => impl_all mu md (some mb) W hu hd
  have hA := fun W => impl_holds (mu ||| md) p W hor
  have hB := fun W => impl_holds (mu ||| md) q W hor
  have hU := fun W => impl_holds mu q W (by omega)
  have hD := fun W => impl_holds md q W (by omega)
  rw [hT] at hA hB
  rw [hua] at hU
  rw [hda] at hD
  have hm := fun W => mag (q - p) W (by omega) (by omega)
  have hnA : decide (nA (q - p) > 12) = decide (12 < q - p ∨ 12 < p - q) := by rw [decide_eq_decide]; unfold nA; omega
  have hsub : IntKind.i64.wrap (q - p) = q - p := IntWalk.i64_in _ (by omega)
  have hta := fun W => impl_toneof p W
  have htb := fun W => impl_toneof q W
  have rp : 0 ≤ p % 12 ∧ p % 12 < 12 := ⟨Int.emod_nonneg _ (by decide), Int.emod_lt_of_pos _ (by decide)⟩
  have rq : 0 ≤ q % 12 ∧ q % 12 < 12 := ⟨Int.emod_nonneg _ (by decide), Int.emod_lt_of_pos _ (by decide)⟩
  have hlk := fun W (hW : Below w.heap.size w W) => (hS.below hW).look (p % 12) (q % 12) (WalkArith.wf_i64 (by omega)) (WalkArith.wf_i64 (by omega))
  have HO : Bx (reasonZ R p q = if hasT R (p % 12) = true ∧ hasT R (q % 12) = true then (if 12 < q - p ∨ 12 < p - q then 2 else if p < q ∧ hasB R.u (q % 12) = false then 3 else if q < p ∧ hasB R.d (q % 12) = false then 4 else if memP R.f (p % 12) (q % 12) = true then 5 else 0) else 1) := Bx.mk rfl
  generalize hasT R (p % 12) = ta at hA HO
  generalize hasT R (q % 12) = tb at hB HO
  generalize hasB R.u (q % 12) = ub at hU HO
  generalize hasB R.d (q % 12) = db at hD HO
  generalize memP R.f (p % 12) (q % 12) = fb at hlk HO
  generalize p % 12 = a at *
  generalize q % 12 = b at *
  generalize reasonZ R p q = rz at HO ⊢
  have hlt : Bx (∀ c : Prop, [Decidable c] → c → decide c = true) := Bx.mk (fun c _ h => decide_eq_true h)
  clear hT hua hda hS hok hp hq hu hd hor rp rq
  generalize nA (q - p) = nz at hm hnA
  have hb : Below w.heap.size w (w.alloc (.cells #[.int .u16 (mu : Int), .int .u16 (md : Int), .map (some mb)] 104)) := (Below.refl _ _).alloc (Nat.le_refl _) _
  have HX := BoxN.at w w.heap.size #[.int .u16 (mu : Int), .int .u16 (md : Int), .map (some mb)] 104 rfl
  generalize hW : w.alloc (.cells #[.int .u16 (mu : Int), .int .u16 (md : Int), .map (some mb)] 104) = W at hb HX
  have B0 := Bx.mk hb
  have X0 := Bx.mk HX
  have c0 := HX.c (k := 0) rfl
  have c1 := HX.c (k := 1) rfl
  have c2 := HX.c (k := 2) rfl
  have cl := HX.lt
  clear hb HX
  cases ta
  · have HE : Bx (rz = 1) := Bx.mk (by rw [HO.out]; simp)
    clear HO
    go_enter Try.func86, Try.ntmps86
    go_wp2_with (fail)
    refine (hall _).mono ?_
    rintro r w1 ⟨rfl, hb⟩
    have B1 := Bx.mk (B0.out.trans (hb.mono B0.out.size))
    have X1 := Bx.mk (X0.out.below hb)
    have c0 := X1.out.c (k := 0) rfl
    have c1 := X1.out.c (k := 1) rfl
    have c2 := X1.out.c (k := 2) rfl
    have cl := X1.out.lt
    clear hb
    go_wp2_with (fail)
    refine (hA _).mono ?_
    rintro r wz ⟨rfl, rfl⟩
    go_wp2_with (fail)
    go_ret
    exact ⟨ret_int HE.out.symm, B1.out⟩
  · cases tb
    · have HE : Bx (rz = 1) := Bx.mk (by rw [HO.out]; simp)
      clear HO
      go_enter Try.func86, Try.ntmps86
      go_wp2_with (fail)
      refine (hall _).mono ?_
      rintro r w1 ⟨rfl, hb⟩
      have B1 := Bx.mk (B0.out.trans (hb.mono B0.out.size))
      have X1 := Bx.mk (X0.out.below hb)
      have c0 := X1.out.c (k := 0) rfl
      have c1 := X1.out.c (k := 1) rfl
      have c2 := X1.out.c (k := 2) rfl
      have cl := X1.out.lt
      clear hb
      go_wp2_with (fail)
      refine (hA _).mono ?_
      rintro r wz ⟨rfl, rfl⟩
      go_wp2_with (fail)
      refine (hall _).mono ?_
      rintro r w2 ⟨rfl, hb⟩
      have B2 := Bx.mk (B1.out.trans (hb.mono B1.out.size))
      have X2 := Bx.mk (X1.out.below hb)
      have c0 := X2.out.c (k := 0) rfl
      have c1 := X2.out.c (k := 1) rfl
      have c2 := X2.out.c (k := 2) rfl
      have cl := X2.out.lt
      clear hb
      go_wp2_with (fail)
      refine (hB _).mono ?_
      rintro r wz ⟨rfl, rfl⟩
      go_wp2_with (fail)
      go_ret
      exact ⟨ret_int HE.out.symm, B2.out⟩
    · by_cases hd : 12 < q - p ∨ 12 < p - q
      · have HE : Bx (rz = 2) := Bx.mk (by rw [HO.out]; simp [hd])
        rw [decide_eq_true hd] at hnA
        clear HO hd
        go_enter Try.func86, Try.ntmps86
        go_wp2_with (fail)
        refine (hall _).mono ?_
        rintro r w1 ⟨rfl, hb⟩
        have B1 := Bx.mk (B0.out.trans (hb.mono B0.out.size))
        have X1 := Bx.mk (X0.out.below hb)
        have c0 := X1.out.c (k := 0) rfl
        have c1 := X1.out.c (k := 1) rfl
        have c2 := X1.out.c (k := 2) rfl
        have cl := X1.out.lt
        clear hb
        go_wp2_with (fail)
        refine (hA _).mono ?_
        rintro r wz ⟨rfl, rfl⟩
        go_wp2_with (fail)
        refine (hall _).mono ?_
        rintro r w2 ⟨rfl, hb⟩
        have B2 := Bx.mk (B1.out.trans (hb.mono B1.out.size))
        have X2 := Bx.mk (X1.out.below hb)
        have c0 := X2.out.c (k := 0) rfl
        have c1 := X2.out.c (k := 1) rfl
        have c2 := X2.out.c (k := 2) rfl
        have cl := X2.out.lt
        clear hb
        go_wp2_with (fail)
        refine (hB _).mono ?_
        rintro r wz ⟨rfl, rfl⟩
        go_wp2_with (fail)
        refine (hm _).mono ?_
        rintro r wz ⟨rfl, rfl⟩
        go_wp2_with (fail)
        go_ret
        exact ⟨ret_int HE.out.symm, B2.out⟩
      · rw [decide_eq_false hd] at hnA
        rcases Int.lt_trichotomy p q with h | h | h
        · cases ub
          · have HE : Bx (rz = 3) := Bx.mk (by rw [HO.out]; simp [hd, h])
            have g1 : decide (q > p) = true := decide_eq_true h
            have g2 : decide (q < p) = false := decide_eq_false (by omega)
            clear HO hd h
            go_enter Try.func86, Try.ntmps86
            go_wp2_with (fail)
            refine (hall _).mono ?_
            rintro r w1 ⟨rfl, hb⟩
            have B1 := Bx.mk (B0.out.trans (hb.mono B0.out.size))
            have X1 := Bx.mk (X0.out.below hb)
            have c0 := X1.out.c (k := 0) rfl
            have c1 := X1.out.c (k := 1) rfl
            have c2 := X1.out.c (k := 2) rfl
            have cl := X1.out.lt
            clear hb
            go_wp2_with (fail)
            refine (hA _).mono ?_
            rintro r wz ⟨rfl, rfl⟩
            go_wp2_with (fail)
            refine (hall _).mono ?_
            rintro r w2 ⟨rfl, hb⟩
            have B2 := Bx.mk (B1.out.trans (hb.mono B1.out.size))
            have X2 := Bx.mk (X1.out.below hb)
            have c0 := X2.out.c (k := 0) rfl
            have c1 := X2.out.c (k := 1) rfl
            have c2 := X2.out.c (k := 2) rfl
            have cl := X2.out.lt
            clear hb
            go_wp2_with (fail)
            refine (hB _).mono ?_
            rintro r wz ⟨rfl, rfl⟩
            go_wp2_with (fail)
            refine (hm _).mono ?_
            rintro r wz ⟨rfl, rfl⟩
            go_wp2_with (fail)
            refine (hU _).mono ?_
            rintro r wz ⟨rfl, rfl⟩
            go_wp2_with (fail)
            go_ret
            exact ⟨ret_int HE.out.symm, B2.out⟩
          · skip
            have HF : Bx (rz = if fb = true then 5 else 0) := Bx.mk (by rw [HO.out]; simp [hd]; omega)
            have g1 : decide (q > p) = true := decide_eq_true h
            have g2 : decide (q < p) = false := decide_eq_false (by omega)
            clear HO hd h
            go_enter Try.func86, Try.ntmps86
            go_wp2_with (fail)
            refine (hall _).mono ?_
            rintro r w1 ⟨rfl, hb⟩
            have B1 := Bx.mk (B0.out.trans (hb.mono B0.out.size))
            have X1 := Bx.mk (X0.out.below hb)
            have c0 := X1.out.c (k := 0) rfl
            have c1 := X1.out.c (k := 1) rfl
            have c2 := X1.out.c (k := 2) rfl
            have cl := X1.out.lt
            clear hb
            go_wp2_with (fail)
            refine (hA _).mono ?_
            rintro r wz ⟨rfl, rfl⟩
            go_wp2_with (fail)
            refine (hall _).mono ?_
            rintro r w2 ⟨rfl, hb⟩
            have B2 := Bx.mk (B1.out.trans (hb.mono B1.out.size))
            have X2 := Bx.mk (X1.out.below hb)
            have c0 := X2.out.c (k := 0) rfl
            have c1 := X2.out.c (k := 1) rfl
            have c2 := X2.out.c (k := 2) rfl
            have cl := X2.out.lt
            clear hb
            go_wp2_with (fail)
            refine (hB _).mono ?_
            rintro r wz ⟨rfl, rfl⟩
            go_wp2_with (fail)
            refine (hm _).mono ?_
            rintro r wz ⟨rfl, rfl⟩
            go_wp2_with (fail)
            refine (hU _).mono ?_
            rintro r wz ⟨rfl, rfl⟩
            go_wp2_with (fail)
            have HS0 : Bx (w2.drew.cell? ⟨w.heap.size, 2, none⟩ = some (.map (some mb)) ∧ w.heap.size < w2.drew.heap.size ∧ (Instr.lookup 102 (.map (some mb)) (.agg #[.int .i64 a, .int .i64 b]) false).run Try.prog w2.drew = .ok (.bool fb) w2.drew ∧ Below w.heap.size w w2.drew) := Bx.mk ⟨c2, cl, hlk w2.drew B2.out.drew, B2.out.drew⟩
            have HS1 : Bx (w2.cell? ⟨w.heap.size, 2, none⟩ = some (.map (some mb)) ∧ w.heap.size < w2.heap.size ∧ (Instr.lookup 102 (.map (some mb)) (.agg #[.int .i64 a, .int .i64 b]) false).run Try.prog w2 = .ok (.bool fb) w2 ∧ Below w.heap.size w w2) := Bx.mk ⟨c2, cl, hlk w2 B2.out, B2.out⟩
            go_region_held3 (fun W => W.cell? ⟨w.heap.size, 2, none⟩ = some (.map (some mb)) ∧ w.heap.size < W.heap.size ∧ (Instr.lookup 102 (.map (some mb)) (.agg #[.int .i64 a, .int .i64 b]) false).run Try.prog W = .ok (.bool fb) W ∧ Below w.heap.size w W)
              (first | assumption | exact HS0.out | exact HS1.out)
              (first | (go_at_call 104; (with_reducible refine (hta _).mono ?_); rintro r wz ⟨rfl, rfl⟩) | (go_at_call 104; (with_reducible refine (htb _).mono ?_); rintro r wz ⟨rfl, rfl⟩))
            have HB9 : Bx (Below w.heap.size w _) := Bx.mk (by assumption : _ ∧ _ ∧ _ ∧ _).2.2.2
            cases fb
            · have HE : Bx (rz = 0) := Bx.mk (by have := HF.out; simpa using this)
              go_wp2_with (fail)
              go_ret
              exact ⟨ret_int HE.out.symm, HB9.out⟩
            · have HE : Bx (rz = 5) := Bx.mk (by have := HF.out; simpa using this)
              go_wp2_with (fail)
              go_ret
              exact ⟨ret_int HE.out.symm, HB9.out⟩
        · skip
          have HF : Bx (rz = if fb = true then 5 else 0) := Bx.mk (by rw [HO.out]; simp [hd]; omega)
          have g1 : decide (q > p) = false := decide_eq_false (by omega)
          have g2 : decide (q < p) = false := decide_eq_false (by omega)
          clear HO hd h
          go_enter Try.func86, Try.ntmps86
          go_wp2_with (fail)
          refine (hall _).mono ?_
          rintro r w1 ⟨rfl, hb⟩
          have B1 := Bx.mk (B0.out.trans (hb.mono B0.out.size))
          have X1 := Bx.mk (X0.out.below hb)
          have c0 := X1.out.c (k := 0) rfl
          have c1 := X1.out.c (k := 1) rfl
          have c2 := X1.out.c (k := 2) rfl
          have cl := X1.out.lt
          clear hb
          go_wp2_with (fail)
          refine (hA _).mono ?_
          rintro r wz ⟨rfl, rfl⟩
          go_wp2_with (fail)
          refine (hall _).mono ?_
          rintro r w2 ⟨rfl, hb⟩
          have B2 := Bx.mk (B1.out.trans (hb.mono B1.out.size))
          have X2 := Bx.mk (X1.out.below hb)
          have c0 := X2.out.c (k := 0) rfl
          have c1 := X2.out.c (k := 1) rfl
          have c2 := X2.out.c (k := 2) rfl
          have cl := X2.out.lt
          clear hb
          go_wp2_with (fail)
          refine (hB _).mono ?_
          rintro r wz ⟨rfl, rfl⟩
          go_wp2_with (fail)
          refine (hm _).mono ?_
          rintro r wz ⟨rfl, rfl⟩
          go_wp2_with (fail)
          have HS0 : Bx (w2.drew.cell? ⟨w.heap.size, 2, none⟩ = some (.map (some mb)) ∧ w.heap.size < w2.drew.heap.size ∧ (Instr.lookup 102 (.map (some mb)) (.agg #[.int .i64 a, .int .i64 b]) false).run Try.prog w2.drew = .ok (.bool fb) w2.drew ∧ Below w.heap.size w w2.drew) := Bx.mk ⟨c2, cl, hlk w2.drew B2.out.drew, B2.out.drew⟩
          have HS1 : Bx (w2.cell? ⟨w.heap.size, 2, none⟩ = some (.map (some mb)) ∧ w.heap.size < w2.heap.size ∧ (Instr.lookup 102 (.map (some mb)) (.agg #[.int .i64 a, .int .i64 b]) false).run Try.prog w2 = .ok (.bool fb) w2 ∧ Below w.heap.size w w2) := Bx.mk ⟨c2, cl, hlk w2 B2.out, B2.out⟩
          go_region_held3 (fun W => W.cell? ⟨w.heap.size, 2, none⟩ = some (.map (some mb)) ∧ w.heap.size < W.heap.size ∧ (Instr.lookup 102 (.map (some mb)) (.agg #[.int .i64 a, .int .i64 b]) false).run Try.prog W = .ok (.bool fb) W ∧ Below w.heap.size w W)
            (first | assumption | exact HS0.out | exact HS1.out)
            (first | (go_at_call 104; (with_reducible refine (hta _).mono ?_); rintro r wz ⟨rfl, rfl⟩) | (go_at_call 104; (with_reducible refine (htb _).mono ?_); rintro r wz ⟨rfl, rfl⟩))
          have HB9 : Bx (Below w.heap.size w _) := Bx.mk (by assumption : _ ∧ _ ∧ _ ∧ _).2.2.2
          cases fb
          · have HE : Bx (rz = 0) := Bx.mk (by have := HF.out; simpa using this)
            go_wp2_with (fail)
            go_ret
            exact ⟨ret_int HE.out.symm, HB9.out⟩
          · have HE : Bx (rz = 5) := Bx.mk (by have := HF.out; simpa using this)
            go_wp2_with (fail)
            go_ret
            exact ⟨ret_int HE.out.symm, HB9.out⟩
        · cases db
          · have HE : Bx (rz = 4) := Bx.mk (by rw [HO.out]; simp [hd, h]; omega)
            have g1 : decide (q > p) = false := decide_eq_false (by omega)
            have g2 : decide (q < p) = true := decide_eq_true h
            clear HO hd h
            go_enter Try.func86, Try.ntmps86
            go_wp2_with (fail)
            refine (hall _).mono ?_
            rintro r w1 ⟨rfl, hb⟩
            have B1 := Bx.mk (B0.out.trans (hb.mono B0.out.size))
            have X1 := Bx.mk (X0.out.below hb)
            have c0 := X1.out.c (k := 0) rfl
            have c1 := X1.out.c (k := 1) rfl
            have c2 := X1.out.c (k := 2) rfl
            have cl := X1.out.lt
            clear hb
            go_wp2_with (fail)
            refine (hA _).mono ?_
            rintro r wz ⟨rfl, rfl⟩
            go_wp2_with (fail)
            refine (hall _).mono ?_
            rintro r w2 ⟨rfl, hb⟩
            have B2 := Bx.mk (B1.out.trans (hb.mono B1.out.size))
            have X2 := Bx.mk (X1.out.below hb)
            have c0 := X2.out.c (k := 0) rfl
            have c1 := X2.out.c (k := 1) rfl
            have c2 := X2.out.c (k := 2) rfl
            have cl := X2.out.lt
            clear hb
            go_wp2_with (fail)
            refine (hB _).mono ?_
            rintro r wz ⟨rfl, rfl⟩
            go_wp2_with (fail)
            refine (hm _).mono ?_
            rintro r wz ⟨rfl, rfl⟩
            go_wp2_with (fail)
            refine (hD _).mono ?_
            rintro r wz ⟨rfl, rfl⟩
            go_wp2_with (fail)
            go_ret
            exact ⟨ret_int HE.out.symm, B2.out⟩
          · skip
            have HF : Bx (rz = if fb = true then 5 else 0) := Bx.mk (by rw [HO.out]; simp [hd]; omega)
            have g1 : decide (q > p) = false := decide_eq_false (by omega)
            have g2 : decide (q < p) = true := decide_eq_true h
            clear HO hd h
            go_enter Try.func86, Try.ntmps86
            go_wp2_with (fail)
            refine (hall _).mono ?_
            rintro r w1 ⟨rfl, hb⟩
            have B1 := Bx.mk (B0.out.trans (hb.mono B0.out.size))
            have X1 := Bx.mk (X0.out.below hb)
            have c0 := X1.out.c (k := 0) rfl
            have c1 := X1.out.c (k := 1) rfl
            have c2 := X1.out.c (k := 2) rfl
            have cl := X1.out.lt
            clear hb
            go_wp2_with (fail)
            refine (hA _).mono ?_
            rintro r wz ⟨rfl, rfl⟩
            go_wp2_with (fail)
            refine (hall _).mono ?_
            rintro r w2 ⟨rfl, hb⟩
            have B2 := Bx.mk (B1.out.trans (hb.mono B1.out.size))
            have X2 := Bx.mk (X1.out.below hb)
            have c0 := X2.out.c (k := 0) rfl
            have c1 := X2.out.c (k := 1) rfl
            have c2 := X2.out.c (k := 2) rfl
            have cl := X2.out.lt
            clear hb
            go_wp2_with (fail)
            refine (hB _).mono ?_
            rintro r wz ⟨rfl, rfl⟩
            go_wp2_with (fail)
            refine (hm _).mono ?_
            rintro r wz ⟨rfl, rfl⟩
            go_wp2_with (fail)
            refine (hD _).mono ?_
            rintro r wz ⟨rfl, rfl⟩
            go_wp2_with (fail)
            have HS0 : Bx (w2.drew.cell? ⟨w.heap.size, 2, none⟩ = some (.map (some mb)) ∧ w.heap.size < w2.drew.heap.size ∧ (Instr.lookup 102 (.map (some mb)) (.agg #[.int .i64 a, .int .i64 b]) false).run Try.prog w2.drew = .ok (.bool fb) w2.drew ∧ Below w.heap.size w w2.drew) := Bx.mk ⟨c2, cl, hlk w2.drew B2.out.drew, B2.out.drew⟩
            have HS1 : Bx (w2.cell? ⟨w.heap.size, 2, none⟩ = some (.map (some mb)) ∧ w.heap.size < w2.heap.size ∧ (Instr.lookup 102 (.map (some mb)) (.agg #[.int .i64 a, .int .i64 b]) false).run Try.prog w2 = .ok (.bool fb) w2 ∧ Below w.heap.size w w2) := Bx.mk ⟨c2, cl, hlk w2 B2.out, B2.out⟩
            go_region_held3 (fun W => W.cell? ⟨w.heap.size, 2, none⟩ = some (.map (some mb)) ∧ w.heap.size < W.heap.size ∧ (Instr.lookup 102 (.map (some mb)) (.agg #[.int .i64 a, .int .i64 b]) false).run Try.prog W = .ok (.bool fb) W ∧ Below w.heap.size w W)
              (first | assumption | exact HS0.out | exact HS1.out)
              (first | (go_at_call 104; (with_reducible refine (hta _).mono ?_); rintro r wz ⟨rfl, rfl⟩) | (go_at_call 104; (with_reducible refine (htb _).mono ?_); rintro r wz ⟨rfl, rfl⟩))
            have HB9 : Bx (Below w.heap.size w _) := Bx.mk (by assumption : _ ∧ _ ∧ _ ∧ _).2.2.2
            cases fb
            · have HE : Bx (rz = 0) := Bx.mk (by have := HF.out; simpa using this)
              go_wp2_with (fail)
              go_ret
              exact ⟨ret_int HE.out.symm, HB9.out⟩
            · have HE : Bx (rz = 5) := Bx.mk (by have := HF.out; simpa using this)
              go_wp2_with (fail)
              go_ret
              exact ⟨ret_int HE.out.symm, HB9.out⟩
end Go.Proofs.Ytobhmoohalkijaa
