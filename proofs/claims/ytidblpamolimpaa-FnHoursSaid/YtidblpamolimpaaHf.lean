/- FitsTime and NextStart: the model. -/
import Derived.Test.YtidblpamolimpaaHe3
namespace Go.Proofs.Ytidblpamolimpaa
open Go.ChangeShapes Go.WideShapes Go.ChangeAt Go.RowKit
set_option linter.unusedVariables false
set_option linter.unusedSimpArgs false
set_option maxRecDepth 100000

def fitsE (x : It) (mi se : Int) : Bool := itB x && (inB mi 0 1439 && (inB se 0 5 && fitB x se mi))
/-- when an item may begin next, and a code -/
def nextE (x : It) (mi se : Int) : Int × Int :=
  if itB x = false then (0, 1) else if (inB mi 0 1439 && inB se 0 5) = false then (0, 2) else if seaB x se = false then (0, 3) else if winB x mi = true then (mi, 0) else (x.f, 0)
theorem c6dr {w : World} {b o : Nat} {x : It} (h : C6 w b o x) (n : Nat) : C6 (w.drewN n) b o x := ⟨h.c0, h.c1, h.c2, h.c3, h.c4, h.c5⟩
theorem inb5 {n lo hi : Int} (h : inB n lo hi = true) : lo ≤ n ∧ n ≤ hi := inB_yes h

set_option maxHeartbeats 4000000 in
theorem spec_fitstime (x : It) (mi se : Int) (w : World) (hs : x.nm.size ≤ maxLen) :
    Calls Try.prog 8 #[itV x, .int .i64 mi, .int .i64 se] w fun e w' => e = .returned (.bool (fitsE x mi se)) ∧ Below w.heap.size w w' := by
  have hq0 := fun W h hl => spec_one w.heap.size 0 x W h hl hs
  have hq1 := fun W => spec_min mi W
  have hq2 := fun W => spec_sea se W
  have HC := Bx.mk (c6_alloc w x 25)
  have HB : Bx (Below w.heap.size w (w.alloc (.cells #[.string x.nm, .int .i64 x.f, .int .i64 x.u, .int .i64 x.s, .int .i64 x.m, .int .i64 x.p] 25))) := Bx.mk ((Below.refl _ _).alloc (Nat.le_refl _) _)
  have HL : Bx (w.heap.size < (w.alloc (.cells #[.string x.nm, .int .i64 x.f, .int .i64 x.u, .int .i64 x.s, .int .i64 x.m, .int .i64 x.p] 25)).heap.size) := Bx.mk (by simp)
  unfold itV
  have HF : Bx (fitsE x mi se = (itB x && (inB mi 0 1439 && (inB se 0 5 && fitB x se mi)))) := Bx.mk rfl
  cases f0 : itB x
  · simp only [f0] at hq0
    have HE : Bx (fitsE x mi se = false) := Bx.mk (HF.out.trans (by simp [f0]))
    go_enter Try.func8, Try.ntmps8
    go_wp2_with (fail)
    refine (hq0 _ HC.out HL.out).mono ?_
    rintro r w1 ⟨rfl, n, rfl⟩
    go_wp2_with (fail)
    go_ret
    exact ⟨ret_bool HE.out.symm, below_draws HB.out _⟩
  · simp only [f0] at hq0
    cases f1 : inB mi 0 1439
    · simp only [f1] at hq1
      have HE : Bx (fitsE x mi se = false) := Bx.mk (HF.out.trans (by simp [f1]))
      go_enter Try.func8, Try.ntmps8
      go_wp2_with (fail)
      refine (hq0 _ HC.out HL.out).mono ?_
      rintro r w1 ⟨rfl, n, rfl⟩
      go_wp2_with (fail)
      refine (hq1 _).mono ?_
      rintro r w1 ⟨rfl, rfl⟩
      go_wp2_with (fail)
      go_ret
      exact ⟨ret_bool HE.out.symm, below_draws HB.out _⟩
    · simp only [f1] at hq1
      cases f2 : inB se 0 5
      · simp only [f2] at hq2
        have HE : Bx (fitsE x mi se = false) := Bx.mk (HF.out.trans (by simp [f2]))
        go_enter Try.func8, Try.ntmps8
        go_wp2_with (fail)
        refine (hq0 _ HC.out HL.out).mono ?_
        rintro r w1 ⟨rfl, n, rfl⟩
        go_wp2_with (fail)
        refine (hq1 _).mono ?_
        rintro r w1 ⟨rfl, rfl⟩
        go_wp2_with (fail)
        refine (hq2 _).mono ?_
        rintro r w1 ⟨rfl, rfl⟩
        go_wp2_with (fail)
        go_ret
        exact ⟨ret_bool HE.out.symm, below_draws HB.out _⟩
      · simp only [f2] at hq2
        have HE : Bx (fitsE x mi se = fitB x se mi) := Bx.mk (HF.out.trans (by simp [f0, f1, f2]))
        have b1 := inB_yes f1
        have b2 := inB_yes f2
        have hq3 := fun W h hl => spec_fits w.heap.size 0 x mi se W h hl ((itB_iff x).1 f0) ⟨b1.1, by omega⟩ b2.1
        clear f0 f1 f2 b1 b2
        go_enter Try.func8, Try.ntmps8
        go_wp2_with (fail)
        refine (hq0 _ HC.out HL.out).mono ?_
        rintro r w1 ⟨rfl, n, rfl⟩
        go_wp2_with (fail)
        refine (hq1 _).mono ?_
        rintro r w1 ⟨rfl, rfl⟩
        go_wp2_with (fail)
        refine (hq2 _).mono ?_
        rintro r w1 ⟨rfl, rfl⟩
        go_wp2_with (fail)
        refine (hq3 _ ?_ ?_).mono ?_
        · first | exact HC.out | exact c6dr HC.out _ | exact c6dr (c6dr HC.out _) _
        · exact HL.out
        rintro r w1 ⟨rfl, n2, rfl⟩
        go_wp2_with (fail)
        go_ret
        exact ⟨ret_bool HE.out.symm, below_draws HB.out _⟩
end Go.Proofs.Ytidblpamolimpaa
