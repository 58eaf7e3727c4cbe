/- ReadRatio on both sides: one reading (readRE). -/
import Derived.Test.YtobhmoohalkijaaDoorRatRM
namespace Go.Proofs.YtobhmoohalkijaaDoor
open Go.ChangeShapes Go.WideShapes Go.ChangeAt Go.RowKit
set_option linter.unusedVariables false
set_option linter.unusedSimpArgs false
set_option maxRecDepth 100000

def ReadROut (t : Int × Int × Bool) (w : World) (e : Ending) (w' : World) : Prop := e = .returned (.tuple #[rat t.1 t.2.1, .bool t.2.2]) ∧ Below w.heap.size w w'
theorem readr_out {t : Int × Int × Bool} {w w' : World} {n d : Int} {c : Bool} (h : t = (n, d, c)) (hb : Below w.heap.size w w') : ReadROut t w (.returned (.tuple #[.agg #[.int .i64 n, .int .i64 d], .bool c])) w' := by
  subst h; exact ⟨rfl, hb⟩
theorem readr_open {P : Program} {f : FuncId} {args : Array Value} {t : Int × Int × Bool} {W : World} (h : Calls P f args W (ReadROut t W)) : Calls P f args W fun e w' => e = .returned (.tuple #[.agg #[.int .i64 t.1, .int .i64 t.2.1], .bool t.2.2]) ∧ Below W.heap.size W w' := h
set_option maxHeartbeats 2000000 in
theorem spec_l02read (s : ByteArray) (w : World) (hs : s.size ≤ 1048576) : Calls Tryd.prog 52 #[.string s] w (ReadROut (readRE s.data.toList) w) := by
  have hsplit := fun W => spec_split s 47 W (by omega)
  have hl1 := cutl_length 47 s.data.toList
  have hsz : s.data.toList.length = s.size := Array.length_toList
  rcases rd_cases s.data.toList with ⟨a, b, h2, hr, ha, hb⟩ | ⟨h2, hr⟩
  · have HE := Bx.mk hr
    rw [h2] at hsplit
    clear hr h2 hl1
    have hna : ∀ W : World, Calls Tryd.prog 84 #[.string ⟨a.toArray⟩] W fun e w' => e = .returned (.tuple #[.int .i64 ((numZ a).getD 0), .bool (numZ a).isSome]) ∧ W = w' := fun W => spec_num_t ⟨a.toArray⟩ W (by show a.toArray.size ≤ maxLen; unfold maxLen; simp; omega)
    have hnb : ∀ W : World, Calls Tryd.prog 84 #[.string ⟨b.toArray⟩] W fun e w' => e = .returned (.tuple #[.int .i64 ((numZ b).getD 0), .bool (numZ b).isSome]) ∧ W = w' := fun W => spec_num_t ⟨b.toArray⟩ W (by show b.toArray.size ≤ maxLen; unfold maxLen; simp; omega)
    clear ha hb hs hsz
    have HP : Bx (pairE a b = if ((numZ a).isSome && ((numZ b).isSome && okR ((numZ a).getD 0) ((numZ b).getD 0))) = true then ((numZ a).getD 0, (numZ b).getD 0, true) else (0, 0, false)) := Bx.mk rfl
    generalize pairE a b = t at HE HP
    generalize numZ a = x at *
    generalize numZ b = y at *
    generalize readRE s.data.toList = u at HE ⊢
    obtain rfl := HE.out
    clear HE
    simp only [List.length_cons, List.length_nil, Nat.reduceAdd] at hsplit
    cases x with
    | none =>
      simp only [Option.getD_none, Option.isSome_none, Option.getD_some, Option.isSome_some] at hna hnb
      have HF : Bx (u = (0, 0, false)) := Bx.mk (by rw [HP.out]; rfl)
      clear HP
      go_enter Tryd.func52, Tryd.ntmps52
      go_wp2_with (fail)
      refine (hsplit _).mono ?_
      rintro e w1 ⟨v, rfl, hown, hb1⟩
      obtain ⟨g, cap, rfl, hg1, hg2⟩ := hown.form (by omega)
      have HC := Bx.mk (str_cells' hown)
      have HB := Bx.mk hb1
      clear hown hb1 hsplit
      have K0 := Bx.mk ((PairAt.new w 0 0).below HB.out)
      have BB : Bx (Below w.heap.size w w1) := Bx.mk (Below.trans (by repeat' (first | (with_reducible exact Below.refl _ _) | (with_reducible assumption) | (with_reducible refine Below.drew ?_) | (with_reducible refine Below.alloc ?_ ?_ _) | (with_reducible refine below_draws ?_ _) | (with_reducible refine Below.setCell ?_ ?_ _) | go_size)) (HB.out.mono (by go_size)))
      clear HB
      have zBB := BB.out.size
      have c0 := HC.out 0 (by simp)
      have c1 := HC.out 1 (by simp)
      simp only [List.getD_cons_zero, List.getD_cons_succ] at c0 c1
      clear HC
      have K0c0 := K0.out.c0
      have K0c1 := K0.out.c1
      have K0f0 := K0.out.f0 0
      have K0f1 := K0.out.f0 1
      have K0lt := K0.out.lt
      go_wp2_with (fail)
      refine (hna _).mono ?_
      rintro e w' ⟨rfl, rfl⟩
      go_wp2_with (fail)
      refine (hnb _).mono ?_
      rintro e w' ⟨rfl, rfl⟩
      go_wp2_with (fail)
      have P0 := fun o => ((K0.out.put (0) (0)).alloc o).c0
      have P1 := fun o => ((K0.out.put (0) (0)).alloc o).c1
      refine bodyPost_ret (v := .tuple #[.agg #[.int .i64 (0), .int .i64 (0)], .bool false]) (by simp [results, Tryd.results52, go_sem, P0, P1]) rfl ?_
      refine readr_out HF.out ?_
      have KBO := BB.out
      repeat' (first | (with_reducible exact Below.refl _ _) | (with_reducible assumption) | (with_reducible refine Below.drew ?_) | (with_reducible refine Below.alloc ?_ ?_ _) | (with_reducible refine below_draws ?_ _) | (with_reducible refine Below.setCell ?_ ?_ _) | go_size)
    | some x =>
      cases y with
      | none =>
        simp only [Option.getD_none, Option.isSome_none, Option.getD_some, Option.isSome_some] at hna hnb
        have HF : Bx (u = (0, 0, false)) := Bx.mk (by rw [HP.out]; rfl)
        clear HP
        go_enter Tryd.func52, Tryd.ntmps52
        go_wp2_with (fail)
        refine (hsplit _).mono ?_
        rintro e w1 ⟨v, rfl, hown, hb1⟩
        obtain ⟨g, cap, rfl, hg1, hg2⟩ := hown.form (by omega)
        have HC := Bx.mk (str_cells' hown)
        have HB := Bx.mk hb1
        clear hown hb1 hsplit
        have K0 := Bx.mk ((PairAt.new w 0 0).below HB.out)
        have BB : Bx (Below w.heap.size w w1) := Bx.mk (Below.trans (by repeat' (first | (with_reducible exact Below.refl _ _) | (with_reducible assumption) | (with_reducible refine Below.drew ?_) | (with_reducible refine Below.alloc ?_ ?_ _) | (with_reducible refine below_draws ?_ _) | (with_reducible refine Below.setCell ?_ ?_ _) | go_size)) (HB.out.mono (by go_size)))
        clear HB
        have zBB := BB.out.size
        have c0 := HC.out 0 (by simp)
        have c1 := HC.out 1 (by simp)
        simp only [List.getD_cons_zero, List.getD_cons_succ] at c0 c1
        clear HC
        have K0c0 := K0.out.c0
        have K0c1 := K0.out.c1
        have K0f0 := K0.out.f0 0
        have K0f1 := K0.out.f0 1
        have K0lt := K0.out.lt
        go_wp2_with (fail)
        refine (hna _).mono ?_
        rintro e w' ⟨rfl, rfl⟩
        go_wp2_with (fail)
        refine (hnb _).mono ?_
        rintro e w' ⟨rfl, rfl⟩
        go_wp2_with (fail)
        have P0 := fun o => ((K0.out.put (0) (0)).alloc o).c0
        have P1 := fun o => ((K0.out.put (0) (0)).alloc o).c1
        refine bodyPost_ret (v := .tuple #[.agg #[.int .i64 (0), .int .i64 (0)], .bool false]) (by simp [results, Tryd.results52, go_sem, P0, P1]) rfl ?_
        refine readr_out HF.out ?_
        have KBO := BB.out
        repeat' (first | (with_reducible exact Below.refl _ _) | (with_reducible assumption) | (with_reducible refine Below.drew ?_) | (with_reducible refine Below.alloc ?_ ?_ _) | (with_reducible refine below_draws ?_ _) | (with_reducible refine Below.setCell ?_ ?_ _) | go_size)
      | some y =>
        have hok := fun g W h0 h1 => spec_ok g 0 x y W h0 h1
        cases ho : okR x y
        · simp only [Option.getD_none, Option.isSome_none, Option.getD_some, Option.isSome_some] at hna hnb
          have HF : Bx (u = (0, 0, false)) := Bx.mk (by rw [HP.out]; simp [ho])
          rw [ho] at hok
          clear ho
          clear HP
          go_enter Tryd.func52, Tryd.ntmps52
          go_wp2_with (fail)
          refine (hsplit _).mono ?_
          rintro e w1 ⟨v, rfl, hown, hb1⟩
          obtain ⟨g, cap, rfl, hg1, hg2⟩ := hown.form (by omega)
          have HC := Bx.mk (str_cells' hown)
          have HB := Bx.mk hb1
          clear hown hb1 hsplit
          have K0 := Bx.mk ((PairAt.new w 0 0).below HB.out)
          have BB : Bx (Below w.heap.size w w1) := Bx.mk (Below.trans (by repeat' (first | (with_reducible exact Below.refl _ _) | (with_reducible assumption) | (with_reducible refine Below.drew ?_) | (with_reducible refine Below.alloc ?_ ?_ _) | (with_reducible refine below_draws ?_ _) | (with_reducible refine Below.setCell ?_ ?_ _) | go_size)) (HB.out.mono (by go_size)))
          clear HB
          have zBB := BB.out.size
          have c0 := HC.out 0 (by simp)
          have c1 := HC.out 1 (by simp)
          simp only [List.getD_cons_zero, List.getD_cons_succ] at c0 c1
          clear HC
          have K0c0 := K0.out.c0
          have K0c1 := K0.out.c1
          have K0f0 := K0.out.f0 0
          have K0f1 := K0.out.f0 1
          have K0lt := K0.out.lt
          go_wp2_with (fail)
          refine (hna _).mono ?_
          rintro e w' ⟨rfl, rfl⟩
          go_wp2_with (fail)
          refine (hnb _).mono ?_
          rintro e w' ⟨rfl, rfl⟩
          go_wp2_with (fail)
          refine (hok _ _ (by go_simp) (by go_simp)).mono ?_
          rintro e w' ⟨rfl, k, rfl⟩
          go_wp2_with (fail)
          have P0 := fun o k => (((K0.out.alloc o).draws k).put (0) (0)).c0
          have P1 := fun o k => (((K0.out.alloc o).draws k).put (0) (0)).c1
          refine bodyPost_ret (v := .tuple #[.agg #[.int .i64 (0), .int .i64 (0)], .bool false]) (by simp [results, Tryd.results52, go_sem, P0, P1]) rfl ?_
          refine readr_out HF.out ?_
          have KBO := BB.out
          repeat' (first | (with_reducible exact Below.refl _ _) | (with_reducible assumption) | (with_reducible refine Below.drew ?_) | (with_reducible refine Below.alloc ?_ ?_ _) | (with_reducible refine below_draws ?_ _) | (with_reducible refine Below.setCell ?_ ?_ _) | go_size)
        · simp only [Option.getD_none, Option.isSome_none, Option.getD_some, Option.isSome_some] at hna hnb
          have HF : Bx (u = (x, y, true)) := Bx.mk (by rw [HP.out]; simp [ho])
          rw [ho] at hok
          clear ho
          clear HP
          go_enter Tryd.func52, Tryd.ntmps52
          go_wp2_with (fail)
          refine (hsplit _).mono ?_
          rintro e w1 ⟨v, rfl, hown, hb1⟩
          obtain ⟨g, cap, rfl, hg1, hg2⟩ := hown.form (by omega)
          have HC := Bx.mk (str_cells' hown)
          have HB := Bx.mk hb1
          clear hown hb1 hsplit
          have K0 := Bx.mk ((PairAt.new w 0 0).below HB.out)
          have BB : Bx (Below w.heap.size w w1) := Bx.mk (Below.trans (by repeat' (first | (with_reducible exact Below.refl _ _) | (with_reducible assumption) | (with_reducible refine Below.drew ?_) | (with_reducible refine Below.alloc ?_ ?_ _) | (with_reducible refine below_draws ?_ _) | (with_reducible refine Below.setCell ?_ ?_ _) | go_size)) (HB.out.mono (by go_size)))
          clear HB
          have zBB := BB.out.size
          have c0 := HC.out 0 (by simp)
          have c1 := HC.out 1 (by simp)
          simp only [List.getD_cons_zero, List.getD_cons_succ] at c0 c1
          clear HC
          have K0c0 := K0.out.c0
          have K0c1 := K0.out.c1
          have K0f0 := K0.out.f0 0
          have K0f1 := K0.out.f0 1
          have K0lt := K0.out.lt
          go_wp2_with (fail)
          refine (hna _).mono ?_
          rintro e w' ⟨rfl, rfl⟩
          go_wp2_with (fail)
          refine (hnb _).mono ?_
          rintro e w' ⟨rfl, rfl⟩
          go_wp2_with (fail)
          refine (hok _ _ (by go_simp) (by go_simp)).mono ?_
          rintro e w' ⟨rfl, k, rfl⟩
          go_wp2_with (fail)
          have P0 := fun o k => (((K0.out.alloc o).draws k).put (x) (y)).c0
          have P1 := fun o k => (((K0.out.alloc o).draws k).put (x) (y)).c1
          refine bodyPost_ret (v := .tuple #[.agg #[.int .i64 (x), .int .i64 (y)], .bool true]) (by simp [results, Tryd.results52, go_sem, P0, P1]) rfl ?_
          refine readr_out HF.out ?_
          have KBO := BB.out
          repeat' (first | (with_reducible exact Below.refl _ _) | (with_reducible assumption) | (with_reducible refine Below.drew ?_) | (with_reducible refine Below.alloc ?_ ?_ _) | (with_reducible refine below_draws ?_ _) | (with_reducible refine Below.setCell ?_ ?_ _) | go_size)
  · have HE := Bx.mk hr
    have hne : (((cutL 47 s.data.toList).length : Int) == 2) = false := by simpa using fun e => h2 (by omega)
    generalize readRE s.data.toList = u at HE ⊢
    generalize cutL 47 s.data.toList = ps at *
    clear hr h2
    go_enter Tryd.func52, Tryd.ntmps52
    go_wp2_with (fail)
    refine (hsplit _).mono ?_
    rintro e w1 ⟨v, rfl, hown, hb1⟩
    obtain ⟨g, cap, rfl, hg1, hg2⟩ := hown.form (by omega)
    have HC := Bx.mk (str_cells' hown)
    have HB := Bx.mk hb1
    clear HC
    have K0 := Bx.mk ((PairAt.new w 0 0).below hb1)
    have BB : Bx (Below w.heap.size w w1) := Bx.mk (Below.trans (by repeat' (first | (with_reducible exact Below.refl _ _) | (with_reducible assumption) | (with_reducible refine Below.drew ?_) | (with_reducible refine Below.alloc ?_ ?_ _) | (with_reducible refine below_draws ?_ _) | (with_reducible refine Below.setCell ?_ ?_ _) | go_size)) (hb1.mono (by go_size)))
    clear hown hb1 hsplit
    have zBB := BB.out.size
    have K0c0 := K0.out.c0
    have K0c1 := K0.out.c1
    have K0f0 := K0.out.f0 0
    have K0f1 := K0.out.f0 1
    have K0lt := K0.out.lt
    go_wp2_with (fail)
    have P := put_pair K0.out 0 0
    refine bodyPost_ret (v := .tuple #[.agg #[.int .i64 0, .int .i64 0], .bool false]) (by simp [results, Tryd.results52, go_sem, P.1, P.2]) rfl ?_
    refine readr_out HE.out ?_
    have KBO := BB.out
    repeat' (first | (with_reducible exact Below.refl _ _) | (with_reducible assumption) | (with_reducible refine Below.drew ?_) | (with_reducible refine Below.alloc ?_ ?_ _) | (with_reducible refine below_draws ?_ _) | (with_reducible refine Below.setCell ?_ ?_ _) | go_size)
theorem rd_range {l : List UInt8} : -9223372036854775808 ≤ (numZ l).getD 0 ∧ (numZ l).getD 0 ≤ 9223372036854775807 := by
  cases h : numZ l with
  | none => simp
  | some v => have := (num_some l v h).2; simp; omega
set_option maxHeartbeats 2000000 in
theorem impl_readratio (s : ByteArray) (w : World) (hs : s.size ≤ 1048576) (hv : Bx (Vars w)) (m : Int) (hm : Bx (w.cell? ⟨2, 0, none⟩ = some (.int .i64 m) ∧ 2 < w.heap.size)) : Calls Tryd.prog 29 #[.string s] w (ReadROut (readRE s.data.toList) w) := by
  have hsz : s.data.toList.length = s.size := Array.length_toList
  obtain ⟨ha, hb⟩ := cut_lens s.data.toList
  have hcut : ∀ W : World, W.cell? ⟨2, 0, none⟩ = some (.int .i64 m) → Calls Tryd.prog 27 #[.string s, .string ⟨#[47]⟩] W fun e w' => e = .returned (.tuple #[.string ⟨(Lib.cut s.data.toList [47]).1.toArray⟩, .string ⟨(Lib.cut s.data.toList [47]).2.1.toArray⟩, .bool (Lib.cut s.data.toList [47]).2.2]) ∧ ∃ n, w' = W.drewN n := fun W h => Tryd.strings_Cut s ⟨#[47]⟩ m W (by omega) h
  have hu : readRE s.data.toList = pairE (Lib.cut s.data.toList [47]).1 (Lib.cut s.data.toList [47]).2.1 := rfl
  generalize readRE s.data.toList = u at hu ⊢
  generalize (Lib.cut s.data.toList [47]).2.2 = c at hcut
  generalize (Lib.cut s.data.toList [47]).1 = a at *
  generalize (Lib.cut s.data.toList [47]).2.1 = b at *
  have hna := fun W h => impl_read_t ⟨a.toArray⟩ W (by show a.toArray.size ≤ 1048576; simp; omega) h
  have hnb := fun W h => impl_read_t ⟨b.toArray⟩ W (by show b.toArray.size ≤ 1048576; simp; omega) h
  have ea : (⟨a.toArray⟩ : ByteArray).data.toList = a := rfl
  have eb : (⟨b.toArray⟩ : ByteArray).data.toList = b := rfl
  rw [ea] at hna
  rw [eb] at hnb
  clear ea eb ha hb hs hsz
  have HP : Bx (u = if ((numZ a).isSome && ((numZ b).isSome && okR ((numZ a).getD 0) ((numZ b).getD 0))) = true then ((numZ a).getD 0, (numZ b).getD 0, true) else (0, 0, false)) := Bx.mk hu
  clear hu
  generalize numZ a = x at *
  generalize numZ b = y at *
  cases x with
  | none =>
    simp only [Option.getD_none, Option.isSome_none, Option.getD_some, Option.isSome_some] at hna hnb
    have HF : Bx (u = (0, 0, false)) := Bx.mk (by rw [HP.out]; rfl)
    clear HP
    go_enter Tryd.func29, Tryd.ntmps29
    go_wp2_with (fail)
    refine (hcut _ (by have := hm.out.1; have := hm.out.2; go_simp)).mono ?_
    rintro e w' ⟨rfl, k, rfl⟩
    have HV0 : Bx (Vars ((w.alloc (.cells #[.int .i64 0, .int .i64 0] 50)).drewN k)) := Bx.mk (hv.out.below (below_draws ((Below.refl _ _).alloc (Nat.le_refl _) _) k))
    have K0 : Bx (PairAt ((w.alloc (.cells #[.int .i64 0, .int .i64 0] 50)).drewN k) w.heap.size 0 0) := Bx.mk ((PairAt.new w 0 0).draws k)
    have BB : Bx (Below w.heap.size w ((w.alloc (.cells #[.int .i64 0, .int .i64 0] 50)).drewN k)) := Bx.mk (below_draws ((Below.refl _ _).alloc (Nat.le_refl _) _) k)
    go_wp2_with (fail)
    refine (hna _ HV0).mono ?_
    rintro e w1 ⟨rfl, hb1⟩
    have HV1 := Bx.mk (HV0.out.below hb1)
    have K1 := Bx.mk (K0.out.below hb1)
    have B1 : Bx (Below w.heap.size w w1) := Bx.mk (BB.out.trans (hb1.mono BB.out.size))
    clear hb1 K0 BB HV0
    have zB1 := B1.out.size
    have K1c0 := K1.out.c0
    have K1c1 := K1.out.c1
    have K1f0 := K1.out.f0 0
    have K1f1 := K1.out.f0 1
    have K1lt := K1.out.lt
    go_wp2_with (fail)
    refine (hnb _ HV1).mono ?_
    rintro e w2 ⟨rfl, hb2⟩
    have K2 := Bx.mk (K1.out.below hb2)
    have B2 : Bx (Below w.heap.size w w2) := Bx.mk (B1.out.trans (hb2.mono zB1))
    clear hb2 HV1
    clear K1c0 K1c1 K1f0 K1f1 K1lt K1
    clear B1 zB1
    have zB2 := B2.out.size
    have K2c0 := K2.out.c0
    have K2c1 := K2.out.c1
    have K2f0 := K2.out.f0 0
    have K2f1 := K2.out.f0 1
    have K2lt := K2.out.lt
    go_wp2_with (fail)
    have P0 := fun o => ((K2.out.put (0) (0)).alloc o).c0
    have P1 := fun o => ((K2.out.put (0) (0)).alloc o).c1
    refine bodyPost_ret (v := .tuple #[.agg #[.int .i64 (0), .int .i64 (0)], .bool false]) (by simp [results, Tryd.results29, go_sem, P0, P1]) rfl ?_
    refine readr_out HF.out ?_
    have KBO := B2.out
    repeat' (first | (with_reducible exact Below.refl _ _) | (with_reducible assumption) | (with_reducible refine Below.drew ?_) | (with_reducible refine Below.alloc ?_ ?_ _) | (with_reducible refine below_draws ?_ _) | (with_reducible refine Below.setCell ?_ ?_ _) | go_size)
  | some x =>
    cases y with
    | none =>
      simp only [Option.getD_none, Option.isSome_none, Option.getD_some, Option.isSome_some] at hna hnb
      have HF : Bx (u = (0, 0, false)) := Bx.mk (by rw [HP.out]; rfl)
      clear HP
      go_enter Tryd.func29, Tryd.ntmps29
      go_wp2_with (fail)
      refine (hcut _ (by have := hm.out.1; have := hm.out.2; go_simp)).mono ?_
      rintro e w' ⟨rfl, k, rfl⟩
      have HV0 : Bx (Vars ((w.alloc (.cells #[.int .i64 0, .int .i64 0] 50)).drewN k)) := Bx.mk (hv.out.below (below_draws ((Below.refl _ _).alloc (Nat.le_refl _) _) k))
      have K0 : Bx (PairAt ((w.alloc (.cells #[.int .i64 0, .int .i64 0] 50)).drewN k) w.heap.size 0 0) := Bx.mk ((PairAt.new w 0 0).draws k)
      have BB : Bx (Below w.heap.size w ((w.alloc (.cells #[.int .i64 0, .int .i64 0] 50)).drewN k)) := Bx.mk (below_draws ((Below.refl _ _).alloc (Nat.le_refl _) _) k)
      go_wp2_with (fail)
      refine (hna _ HV0).mono ?_
      rintro e w1 ⟨rfl, hb1⟩
      have HV1 := Bx.mk (HV0.out.below hb1)
      have K1 := Bx.mk (K0.out.below hb1)
      have B1 : Bx (Below w.heap.size w w1) := Bx.mk (BB.out.trans (hb1.mono BB.out.size))
      clear hb1 K0 BB HV0
      have zB1 := B1.out.size
      have K1c0 := K1.out.c0
      have K1c1 := K1.out.c1
      have K1f0 := K1.out.f0 0
      have K1f1 := K1.out.f0 1
      have K1lt := K1.out.lt
      go_wp2_with (fail)
      refine (hnb _ HV1).mono ?_
      rintro e w2 ⟨rfl, hb2⟩
      have K2 := Bx.mk (K1.out.below hb2)
      have B2 : Bx (Below w.heap.size w w2) := Bx.mk (B1.out.trans (hb2.mono zB1))
      clear hb2 HV1
      clear K1c0 K1c1 K1f0 K1f1 K1lt K1
      clear B1 zB1
      have zB2 := B2.out.size
      have K2c0 := K2.out.c0
      have K2c1 := K2.out.c1
      have K2f0 := K2.out.f0 0
      have K2f1 := K2.out.f0 1
      have K2lt := K2.out.lt
      go_wp2_with (fail)
      have P0 := fun o => ((K2.out.put (0) (0)).alloc o).c0
      have P1 := fun o => ((K2.out.put (0) (0)).alloc o).c1
      refine bodyPost_ret (v := .tuple #[.agg #[.int .i64 (0), .int .i64 (0)], .bool false]) (by simp [results, Tryd.results29, go_sem, P0, P1]) rfl ?_
      refine readr_out HF.out ?_
      have KBO := B2.out
      repeat' (first | (with_reducible exact Below.refl _ _) | (with_reducible assumption) | (with_reducible refine Below.drew ?_) | (with_reducible refine Below.alloc ?_ ?_ _) | (with_reducible refine below_draws ?_ _) | (with_reducible refine Below.setCell ?_ ?_ _) | go_size)
    | some y =>
      have hok := fun W => impl_valid x y W
      cases ho : okR x y
      · simp only [Option.getD_none, Option.isSome_none, Option.getD_some, Option.isSome_some] at hna hnb
        have HF : Bx (u = (0, 0, false)) := Bx.mk (by rw [HP.out]; simp [ho])
        rw [ho] at hok
        clear ho
        unfold rat at hok
        clear HP
        go_enter Tryd.func29, Tryd.ntmps29
        go_wp2_with (fail)
        refine (hcut _ (by have := hm.out.1; have := hm.out.2; go_simp)).mono ?_
        rintro e w' ⟨rfl, k, rfl⟩
        have HV0 : Bx (Vars ((w.alloc (.cells #[.int .i64 0, .int .i64 0] 50)).drewN k)) := Bx.mk (hv.out.below (below_draws ((Below.refl _ _).alloc (Nat.le_refl _) _) k))
        have K0 : Bx (PairAt ((w.alloc (.cells #[.int .i64 0, .int .i64 0] 50)).drewN k) w.heap.size 0 0) := Bx.mk ((PairAt.new w 0 0).draws k)
        have BB : Bx (Below w.heap.size w ((w.alloc (.cells #[.int .i64 0, .int .i64 0] 50)).drewN k)) := Bx.mk (below_draws ((Below.refl _ _).alloc (Nat.le_refl _) _) k)
        go_wp2_with (fail)
        refine (hna _ HV0).mono ?_
        rintro e w1 ⟨rfl, hb1⟩
        have HV1 := Bx.mk (HV0.out.below hb1)
        have K1 := Bx.mk (K0.out.below hb1)
        have B1 : Bx (Below w.heap.size w w1) := Bx.mk (BB.out.trans (hb1.mono BB.out.size))
        clear hb1 K0 BB HV0
        have zB1 := B1.out.size
        have K1c0 := K1.out.c0
        have K1c1 := K1.out.c1
        have K1f0 := K1.out.f0 0
        have K1f1 := K1.out.f0 1
        have K1lt := K1.out.lt
        go_wp2_with (fail)
        refine (hnb _ HV1).mono ?_
        rintro e w2 ⟨rfl, hb2⟩
        have K2 := Bx.mk (K1.out.below hb2)
        have B2 : Bx (Below w.heap.size w w2) := Bx.mk (B1.out.trans (hb2.mono zB1))
        clear hb2 HV1
        clear K1c0 K1c1 K1f0 K1f1 K1lt K1
        clear B1 zB1
        have zB2 := B2.out.size
        have K2c0 := K2.out.c0
        have K2c1 := K2.out.c1
        have K2f0 := K2.out.f0 0
        have K2f1 := K2.out.f0 1
        have K2lt := K2.out.lt
        go_wp2_with (fail)
        refine (hok _).mono ?_
        rintro r3 w3 ⟨rfl, hb3⟩
        have K3_0 : Bx (PairAt w3 w.heap.size (0) (0)) := Bx.mk (PairAt.below (by have QK2 := K2.out; repeat' (first | (with_reducible assumption) | (with_reducible refine PairAt.at _ _ _ _ ?_; focus (first | omega | (simp only [World.size_alloc, World.size_setCell, World.size_drew] <;> omega) | (simp <;> omega))) | (with_reducible refine PairAt.alloc ?_ _) | (with_reducible refine PairAt.draws ?_ _) | (with_reducible refine PairAt.drew1 ?_) | (with_reducible apply PairAt.put) | (with_reducible apply PairAt.put1) | (with_reducible apply PairAt.put0) | (with_reducible refine PairAt.other2 ?_ ?_ _; focus (first | omega | (simp only [World.size_alloc, World.size_setCell, World.size_drew] <;> omega) | (simp <;> omega))))) hb3)
        have K3_r : Bx (PairAt w3 w2.heap.size (x) (y)) := Bx.mk (PairAt.below (by have QK2 := K2.out; repeat' (first | (with_reducible assumption) | (with_reducible refine PairAt.at _ _ _ _ ?_; focus (first | omega | (simp only [World.size_alloc, World.size_setCell, World.size_drew] <;> omega) | (simp <;> omega))) | (with_reducible refine PairAt.alloc ?_ _) | (with_reducible refine PairAt.draws ?_ _) | (with_reducible refine PairAt.drew1 ?_) | (with_reducible apply PairAt.put) | (with_reducible apply PairAt.put1) | (with_reducible apply PairAt.put0) | (with_reducible refine PairAt.other2 ?_ ?_ _; focus (first | omega | (simp only [World.size_alloc, World.size_setCell, World.size_drew] <;> omega) | (simp <;> omega))))) hb3)
        have B3 : Bx (Below w.heap.size w w3) := Bx.mk (Below.trans (by have KBO := B2.out; repeat' (first | (with_reducible exact Below.refl _ _) | (with_reducible assumption) | (with_reducible refine Below.drew ?_) | (with_reducible refine Below.alloc ?_ ?_ _) | (with_reducible refine below_draws ?_ _) | (with_reducible refine Below.setCell ?_ ?_ _) | go_size)) (hb3.mono (by go_size)))
        clear hb3
        clear K2c0 K2c1 K2f0 K2f1 K2lt K2
        clear B2 zB2
        have zB3 := B3.out.size
        have K3_0c0 := K3_0.out.c0
        have K3_0c1 := K3_0.out.c1
        have K3_0f0 := K3_0.out.f0 0
        have K3_0f1 := K3_0.out.f0 1
        have K3_0lt := K3_0.out.lt
        have K3_rc0 := K3_r.out.c0
        have K3_rc1 := K3_r.out.c1
        have K3_rf0 := K3_r.out.f0 0
        have K3_rf1 := K3_r.out.f0 1
        have K3_rlt := K3_r.out.lt
        go_wp2_with (fail)
        have P0 := (K3_0.out.put (0) (0)).c0
        have P1 := (K3_0.out.put (0) (0)).c1
        refine bodyPost_ret (v := .tuple #[.agg #[.int .i64 (0), .int .i64 (0)], .bool false]) (by simp [results, Tryd.results29, go_sem, P0, P1]) rfl ?_
        refine readr_out HF.out ?_
        have KBO := B3.out
        repeat' (first | (with_reducible exact Below.refl _ _) | (with_reducible assumption) | (with_reducible refine Below.drew ?_) | (with_reducible refine Below.alloc ?_ ?_ _) | (with_reducible refine below_draws ?_ _) | (with_reducible refine Below.setCell ?_ ?_ _) | go_size)
      · simp only [Option.getD_none, Option.isSome_none, Option.getD_some, Option.isSome_some] at hna hnb
        have HF : Bx (u = (x, y, true)) := Bx.mk (by rw [HP.out]; simp [ho])
        rw [ho] at hok
        clear ho
        unfold rat at hok
        clear HP
        go_enter Tryd.func29, Tryd.ntmps29
        go_wp2_with (fail)
        refine (hcut _ (by have := hm.out.1; have := hm.out.2; go_simp)).mono ?_
        rintro e w' ⟨rfl, k, rfl⟩
        have HV0 : Bx (Vars ((w.alloc (.cells #[.int .i64 0, .int .i64 0] 50)).drewN k)) := Bx.mk (hv.out.below (below_draws ((Below.refl _ _).alloc (Nat.le_refl _) _) k))
        have K0 : Bx (PairAt ((w.alloc (.cells #[.int .i64 0, .int .i64 0] 50)).drewN k) w.heap.size 0 0) := Bx.mk ((PairAt.new w 0 0).draws k)
        have BB : Bx (Below w.heap.size w ((w.alloc (.cells #[.int .i64 0, .int .i64 0] 50)).drewN k)) := Bx.mk (below_draws ((Below.refl _ _).alloc (Nat.le_refl _) _) k)
        go_wp2_with (fail)
        refine (hna _ HV0).mono ?_
        rintro e w1 ⟨rfl, hb1⟩
        have HV1 := Bx.mk (HV0.out.below hb1)
        have K1 := Bx.mk (K0.out.below hb1)
        have B1 : Bx (Below w.heap.size w w1) := Bx.mk (BB.out.trans (hb1.mono BB.out.size))
        clear hb1 K0 BB HV0
        have zB1 := B1.out.size
        have K1c0 := K1.out.c0
        have K1c1 := K1.out.c1
        have K1f0 := K1.out.f0 0
        have K1f1 := K1.out.f0 1
        have K1lt := K1.out.lt
        go_wp2_with (fail)
        refine (hnb _ HV1).mono ?_
        rintro e w2 ⟨rfl, hb2⟩
        have K2 := Bx.mk (K1.out.below hb2)
        have B2 : Bx (Below w.heap.size w w2) := Bx.mk (B1.out.trans (hb2.mono zB1))
        clear hb2 HV1
        clear K1c0 K1c1 K1f0 K1f1 K1lt K1
        clear B1 zB1
        have zB2 := B2.out.size
        have K2c0 := K2.out.c0
        have K2c1 := K2.out.c1
        have K2f0 := K2.out.f0 0
        have K2f1 := K2.out.f0 1
        have K2lt := K2.out.lt
        go_wp2_with (fail)
        refine (hok _).mono ?_
        rintro r3 w3 ⟨rfl, hb3⟩
        have K3_0 : Bx (PairAt w3 w.heap.size (0) (0)) := Bx.mk (PairAt.below (by have QK2 := K2.out; repeat' (first | (with_reducible assumption) | (with_reducible refine PairAt.at _ _ _ _ ?_; focus (first | omega | (simp only [World.size_alloc, World.size_setCell, World.size_drew] <;> omega) | (simp <;> omega))) | (with_reducible refine PairAt.alloc ?_ _) | (with_reducible refine PairAt.draws ?_ _) | (with_reducible refine PairAt.drew1 ?_) | (with_reducible apply PairAt.put) | (with_reducible apply PairAt.put1) | (with_reducible apply PairAt.put0) | (with_reducible refine PairAt.other2 ?_ ?_ _; focus (first | omega | (simp only [World.size_alloc, World.size_setCell, World.size_drew] <;> omega) | (simp <;> omega))))) hb3)
        have K3_r : Bx (PairAt w3 w2.heap.size (x) (y)) := Bx.mk (PairAt.below (by have QK2 := K2.out; repeat' (first | (with_reducible assumption) | (with_reducible refine PairAt.at _ _ _ _ ?_; focus (first | omega | (simp only [World.size_alloc, World.size_setCell, World.size_drew] <;> omega) | (simp <;> omega))) | (with_reducible refine PairAt.alloc ?_ _) | (with_reducible refine PairAt.draws ?_ _) | (with_reducible refine PairAt.drew1 ?_) | (with_reducible apply PairAt.put) | (with_reducible apply PairAt.put1) | (with_reducible apply PairAt.put0) | (with_reducible refine PairAt.other2 ?_ ?_ _; focus (first | omega | (simp only [World.size_alloc, World.size_setCell, World.size_drew] <;> omega) | (simp <;> omega))))) hb3)
        have B3 : Bx (Below w.heap.size w w3) := Bx.mk (Below.trans (by have KBO := B2.out; repeat' (first | (with_reducible exact Below.refl _ _) | (with_reducible assumption) | (with_reducible refine Below.drew ?_) | (with_reducible refine Below.alloc ?_ ?_ _) | (with_reducible refine below_draws ?_ _) | (with_reducible refine Below.setCell ?_ ?_ _) | go_size)) (hb3.mono (by go_size)))
        clear hb3
        clear K2c0 K2c1 K2f0 K2f1 K2lt K2
        clear B2 zB2
        have zB3 := B3.out.size
        have K3_0c0 := K3_0.out.c0
        have K3_0c1 := K3_0.out.c1
        have K3_0f0 := K3_0.out.f0 0
        have K3_0f1 := K3_0.out.f0 1
        have K3_0lt := K3_0.out.lt
        have K3_rc0 := K3_r.out.c0
        have K3_rc1 := K3_r.out.c1
        have K3_rf0 := K3_r.out.f0 0
        have K3_rf1 := K3_r.out.f0 1
        have K3_rlt := K3_r.out.lt
        go_wp2_with (fail)
        have P0 := (K3_0.out.put (x) (y)).c0
        have P1 := (K3_0.out.put (x) (y)).c1
        refine bodyPost_ret (v := .tuple #[.agg #[.int .i64 (x), .int .i64 (y)], .bool true]) (by simp [results, Tryd.results29, go_sem, P0, P1]) rfl ?_
        refine readr_out HF.out ?_
        have KBO := B3.out
        repeat' (first | (with_reducible exact Below.refl _ _) | (with_reducible assumption) | (with_reducible refine Below.drew ?_) | (with_reducible refine Below.alloc ?_ ?_ _) | (with_reducible refine below_draws ?_ _) | (with_reducible refine Below.setCell ?_ ?_ _) | go_size)
end Go.Proofs.YtobhmoohalkijaaDoor
