/- A ratio as text, on both sides. -/
import Derived.Test.YtbnhcacjlkmfeaaDoorRatQ
import Derived.Test.YtbnhcacjlkmfeaaDoorDec
import Derived.Test.YtbnhcacjlkmfeaaDoorReadDec2
import Derived.Lib.ItoaLen
namespace Go.Proofs.YtbnhcacjlkmfeaaDoor
open Go.ChangeShapes Go.WideShapes Go.ChangeAt Go.RowKit
set_option linter.unusedVariables false
set_option linter.unusedSimpArgs false
set_option maxRecDepth 100000

/-- a ratio as text -/
def ratT (n d : Int) : List UInt8 := Lib.itoa n ++ ([47] ++ Lib.itoa d)
theorem keepP {g o : Nat} {w W W' : World} {n d : Value} (h : W.cell? ⟨g, o, none⟩ = some n ∧ W.cell? ⟨g, o + 1, none⟩ = some d ∧ g < W.heap.size ∧ Below w.heap.size w W) (hb : Below W.heap.size W W') :
    W'.cell? ⟨g, o, none⟩ = some n ∧ W'.cell? ⟨g, o + 1, none⟩ = some d ∧ g < W'.heap.size ∧ Below w.heap.size w W' := by
  obtain ⟨h1, h2, h5, h6⟩ := h
  have hs := hb.size
  exact ⟨(hb.cell (p := ⟨g, o, none⟩) h5).trans h1, (hb.cell (p := ⟨g, o + 1, none⟩) h5).trans h2, by omega, h6.trans (hb.mono h6.size)⟩
set_option maxHeartbeats 1000000 in
theorem spec_rtext (g o : Nat) (n d : Int) (w : World) (h0 : w.cell? ⟨g, o, none⟩ = some (.int .i64 n)) (h1 : w.cell? ⟨g, o + 1, none⟩ = some (.int .i64 d)) (hg : g < w.heap.size)
    (hn : Bx (-9223372036854775808 ≤ n ∧ n ≤ 9223372036854775807)) (hd : Bx (-9223372036854775808 ≤ d ∧ d ≤ 9223372036854775807)) :
    Calls Tryd.prog 73 #[.pointer (some ⟨g, o, none⟩)] w fun e w' => e = .returned (.string ⟨(ratT n d).toArray⟩) ∧ Below w.heap.size w w' := by
  have ha := fun W => spec_dec_any n W hn.out.1 hn.out.2
  have hb := fun W => spec_dec_any d W hd.out.1 hd.out.2
  have HT : Bx (ratT n d = Lib.itoa n ++ ([47] ++ Lib.itoa d)) := Bx.mk rfl
  have HS : Bx (w.cell? ⟨g, o, none⟩ = some (.int .i64 n) ∧ w.cell? ⟨g, o + 1, none⟩ = some (.int .i64 d) ∧ g < w.heap.size ∧ Below w.heap.size w w) := Bx.mk ⟨h0, h1, hg, Below.refl _ _⟩
  have L1 := Lib.itoa_length_le n hn.out.1 hn.out.2
  have L2 := Lib.itoa_length_le d hd.out.1 hd.out.2
  generalize Lib.itoa n = x at *
  generalize Lib.itoa d = y at *
  have E1 : (9223372036854775807 < x.length + 1) = False := eq_false (by omega)
  have E2 : (9223372036854775807 < x.length + 1 + y.length) = False := eq_false (by omega)
  clear L1 L2
  go_enter Tryd.func73, Tryd.ntmps73
  go_wp2_with (fail)
  go_region_held3 (fun W => W.cell? ⟨g, o, none⟩ = some (.int .i64 n) ∧ W.cell? ⟨g, o + 1, none⟩ = some (.int .i64 d) ∧ g < W.heap.size ∧ Below w.heap.size w W)
      (first | (with_reducible exact keepP (by assumption) hb4) | (with_reducible exact keepP (by assumption) ((Below.refl _ _).alloc (Nat.le_refl _) _)) | (with_reducible exact keepP (by assumption) (Below.refl _ _).drew) | exact keepP HS.out (Below.refl _ _).drew)
      (first | (go_at_call 94; (with_reducible refine (ha _).mono ?_); rintro r w4 ⟨rfl, hb4⟩; have hS0 := keepP (w := w) (by assumption) hb4) | (go_at_call 94; (with_reducible refine (hb _).mono ?_); rintro r w4 ⟨rfl, hb4⟩; have hS1 := keepP (w := w) (by assumption) hb4))
  all_goals
    go_wp2_with (fail)
    go_ret
    exact ⟨ret_str (by rw [HT.out]; simp), (by assumption : _ ∧ _ ∧ _ ∧ _).2.2.2⟩
/-- RatioText -/
def rtextE (n d : Int) : List UInt8 := if okR n d = true then ratT n d else []
theorem okR_box {n d : Int} (h : okR n d = true) : Bx (-9223372036854775808 ≤ n ∧ n ≤ 9223372036854775807) ∧ Bx (-9223372036854775808 ≤ d ∧ d ≤ 9223372036854775807) := by
  obtain ⟨a, b, _⟩ := okR_yes h
  exact ⟨Bx.mk (by omega), Bx.mk (by omega)⟩
theorem keepQ {g o : Nat} {w W W' : World} {n d : Value} {nm : String} {k : IntKind} {zs : List Int} (h : W.cell? ⟨g, o, none⟩ = some n ∧ W.cell? ⟨g, o + 1, none⟩ = some d ∧ g < W.heap.size ∧ Bx (Lib.TabIs Tryd.prog W nm k zs) ∧ Below w.heap.size w W) (hb : Below W.heap.size W W') :
    W'.cell? ⟨g, o, none⟩ = some n ∧ W'.cell? ⟨g, o + 1, none⟩ = some d ∧ g < W'.heap.size ∧ Bx (Lib.TabIs Tryd.prog W' nm k zs) ∧ Below w.heap.size w W' := by
  obtain ⟨h1, h2, h5, h7, h6⟩ := h
  have hs := hb.size
  exact ⟨(hb.cell (p := ⟨g, o, none⟩) h5).trans h1, (hb.cell (p := ⟨g, o + 1, none⟩) h5).trans h2, by omega, Bx.mk (tab_below hb h7.out), h6.trans (hb.mono h6.size)⟩
set_option maxHeartbeats 2000000 in
theorem impl_ratiotext (n d : Int) (w : World) (hT : Bx (Lib.TabIs Tryd.prog w "internal/strconv.uint64pow10" .u64 Lib.pow10Tab)) :
    Calls Tryd.prog 49 #[rat n d] w fun e w' => e = .returned (.string ⟨(rtextE n d).toArray⟩) ∧ Below w.heap.size w w' := by
  have hp0 := fun W => impl_valid n d W
  cases hn : okR n d
  · have HE : Bx (rtextE n d = []) := Bx.mk (by simp [rtextE, hn])
    simp only [hn] at hp0
    clear hn
    unfold rat at *
    go_enter Tryd.func49, Tryd.ntmps49
    go_wp2_with (fail)
    refine (hp0 _).mono ?_
    rintro r1 w1 ⟨rfl, hb1⟩
    have B1 : Bx (Below w.heap.size w w1) := Bx.mk (Below.trans (by repeat' (first | (with_reducible exact Below.refl _ _) | (with_reducible assumption) | (with_reducible refine Below.drew ?_) | (with_reducible refine Below.alloc ?_ ?_ _) | (with_reducible refine below_draws ?_ _) | (with_reducible refine Below.setCell ?_ ?_ _) | go_size)) (hb1.mono (by go_size)))
    clear hb1
    go_wp2_with (fail)
    go_ret
    exact ⟨ret_str HE.out.symm, B1.out⟩
  · have HE : Bx (rtextE n d = Lib.itoa n ++ ([47] ++ Lib.itoa d)) := Bx.mk (by simp [rtextE, ratT, hn])
    obtain ⟨bn, bd⟩ := okR_box hn
    have ha := fun W h => impl_dec n W bn h
    have hb := fun W h => impl_dec d W bd h
    simp only [hn] at hp0
    have L1 := Lib.itoa_length_le n bn.out.1 bn.out.2
    have L2 := Lib.itoa_length_le d bd.out.1 bd.out.2
    clear hn bn bd
    generalize Lib.itoa n = x at *
    generalize Lib.itoa d = y at *
    have E1 : (9223372036854775807 < x.length + 1) = False := eq_false (by omega)
    have E2 : (9223372036854775807 < x.length + 1 + y.length) = False := eq_false (by omega)
    clear L1 L2
    unfold rat at *
    go_enter Tryd.func49, Tryd.ntmps49
    go_wp2_with (fail)
    refine (hp0 _).mono ?_
    rintro r1 w1 ⟨rfl, hb1⟩
    have K1 := (PairAt.new w n d).below hb1
    have HS : Bx (w1.cell? ⟨w.heap.size, 0, none⟩ = some (.int .i64 n) ∧ w1.cell? ⟨w.heap.size, 0 + 1, none⟩ = some (.int .i64 d) ∧ w.heap.size < w1.heap.size ∧ Bx (Lib.TabIs Tryd.prog w1 "internal/strconv.uint64pow10" .u64 Lib.pow10Tab) ∧ Below w.heap.size w w1) :=
      Bx.mk ⟨K1.c0, K1.c1, K1.lt, Bx.mk (tab_below hb1 (tab_below ((Below.refl _ _).alloc (Nat.le_refl _) _) hT.out)), Below.trans (by repeat' (first | (with_reducible exact Below.refl _ _) | (with_reducible assumption) | (with_reducible refine Below.drew ?_) | (with_reducible refine Below.alloc ?_ ?_ _) | (with_reducible refine below_draws ?_ _) | (with_reducible refine Below.setCell ?_ ?_ _) | go_size)) (hb1.mono (by go_size))⟩
    clear hb1 K1
    go_wp2_with (fail)
    go_region_held3 (fun W => W.cell? ⟨w.heap.size, 0, none⟩ = some (.int .i64 n) ∧ W.cell? ⟨w.heap.size, 1, none⟩ = some (.int .i64 d) ∧ w.heap.size < W.heap.size ∧ Bx (Lib.TabIs Tryd.prog W "internal/strconv.uint64pow10" .u64 Lib.pow10Tab) ∧ Below w.heap.size w W)
      (first | (with_reducible exact keepQ (o := 0) (by assumption) hb4) | (with_reducible exact keepQ (o := 0) (by assumption) ((Below.refl _ _).alloc (Nat.le_refl _) _)) | (with_reducible exact keepQ (o := 0) (by assumption) (Below.refl _ _).drew) | exact keepQ (o := 0) HS.out (Below.refl _ _).drew)
      (first | (go_at_call 75; (with_reducible refine (ha _ (by assumption : _ ∧ _ ∧ _ ∧ _ ∧ _).2.2.2.1).mono ?_); rintro r w4 ⟨rfl, hb4⟩; have hS0 := keepQ (o := 0) (w := w) (by assumption) hb4) | (go_at_call 75; (with_reducible refine (hb _ (by assumption : _ ∧ _ ∧ _ ∧ _ ∧ _).2.2.2.1).mono ?_); rintro r w4 ⟨rfl, hb4⟩; have hS1 := keepQ (o := 0) (w := w) (by assumption) hb4))
    all_goals
      go_wp2_with (fail)
      go_ret
      exact ⟨ret_str (by rw [HE.out]; simp), (by assumption : _ ∧ _ ∧ _ ∧ _ ∧ _).2.2.2.2⟩
end Go.Proofs.YtbnhcacjlkmfeaaDoor
