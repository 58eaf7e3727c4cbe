/- RagaText, by the program. -/
import Derived.Test.YtjjiibmbaggjoaaRx
import Derived.Test.YtjjiibmbaggjoaaRx2
import Derived.Test.YtjjiibmbaggjoaaRi3
import Derived.Lib.Join
import Derived.Deep.RegionHeld3
import Derived.Deep.AppendLies
namespace Go.Proofs.Ytjjiibmbaggjoaa
open Go.ChangeShapes Go.WideShapes Go.ChangeAt Go.RowKit
set_option linter.unusedVariables false
set_option linter.unusedSimpArgs false
set_option maxRecDepth 100000

theorem keepG {g : Nat} {q W W' : World} {v0 v1 v2 v3 v4 : Value} (hh : W.cell? ⟨g, 0, none⟩ = some v0 ∧ W.cell? ⟨g, 1, none⟩ = some v1 ∧ W.cell? ⟨g, 2, none⟩ = some v2 ∧ W.cell? ⟨g, 3, none⟩ = some v3 ∧ W.cell? ⟨g, 4, none⟩ = some v4 ∧ g < W.heap.size ∧ Below q.heap.size q W) (hb : Below W.heap.size W W') :
    W'.cell? ⟨g, 0, none⟩ = some v0 ∧ W'.cell? ⟨g, 1, none⟩ = some v1 ∧ W'.cell? ⟨g, 2, none⟩ = some v2 ∧ W'.cell? ⟨g, 3, none⟩ = some v3 ∧ W'.cell? ⟨g, 4, none⟩ = some v4 ∧ g < W'.heap.size ∧ Below q.heap.size q W' := by
  obtain ⟨h0, h1, h2, h3, h4, h5, h6⟩ := hh
  have hs := hb.size
  exact ⟨(hb.cell (p := ⟨g, 0, none⟩) h5).trans h0, (hb.cell (p := ⟨g, 1, none⟩) h5).trans h1, (hb.cell (p := ⟨g, 2, none⟩) h5).trans h2, (hb.cell (p := ⟨g, 3, none⟩) h5).trans h3, (hb.cell (p := ⟨g, 4, none⟩) h5).trans h4, by omega, h6.trans (hb.mono h6.size)⟩
theorem belG {q W : World} {a b c d e f : Prop} (h : a ∧ b ∧ c ∧ d ∧ e ∧ f ∧ Below q.heap.size q W) : Below q.heap.size q W := h.2.2.2.2.2.2
theorem infoStrR : (Try.prog.info? 9).map (fun i => (i.zero, i.size, i.bytes)) = some (some (.string ByteArray.empty), 1, 16) := by kernel_rfl
def strV (l : List ByteArray) : List Value := l.map Value.string
theorem strV_snoc (l : List ByteArray) (x : ByteArray) : strV (l ++ [x]) = strV l ++ [.string x] := by simp [strV]
def pairW (R : Rg) (i : Nat) : ByteArray := nmT ((R.f.getD i []).getD 0 0) ++ nmT ((R.f.getD i []).getD 1 0)
def wordsW (R : Rg) (U D : ByteArray) (k : Nat) : List ByteArray := [R.s, U, D, nmT R.x ++ nmT R.y] ++ (List.range k).map (pairW R)
theorem wordsW_len (R : Rg) (U D : ByteArray) (k : Nat) : (wordsW R U D k).length = 4 + k := by simp [wordsW]; omega
theorem wordsW_succ (R : Rg) (U D : ByteArray) (k : Nat) : wordsW R U D (k + 1) = wordsW R U D k ++ [pairW R k] := by simp [wordsW, List.range_succ]
theorem join_snocW (x : List UInt8) (r : List (List UInt8)) (y : List UInt8) : Lib.join ((x :: r) ++ [y]) [32] = Lib.join (x :: r) [32] ++ (32 :: y) := by
  rw [List.cons_append, Lib.join_cons, Lib.join_cons]; simp [Lib.joinTail]
theorem join_words (R : Rg) (k : Nat) : (⟨(Lib.join ((wordsW R ⟨(textL R.u R.u.length).toArray⟩ ⟨(textL R.d R.d.length).toArray⟩ k).map (·.data.toList)) [32]).toArray⟩ : ByteArray) = ragaS R k := by
  induction k with
  | zero =>
    show (⟨(Lib.join [R.s.data.toList, (textL R.u R.u.length).toArray.toList, (textL R.d R.d.length).toArray.toList, (nmT R.x ++ nmT R.y).data.toList] [32]).toArray⟩ : ByteArray) = headS R
    rw [Lib.join_cons]
    apply ByteArray.ext
    simp [Lib.joinTail, headS]
  | succ k ih =>
    rw [wordsW_succ, List.map_append]
    have hc : ∃ x r, (wordsW R ⟨(textL R.u R.u.length).toArray⟩ ⟨(textL R.d R.d.length).toArray⟩ k).map (·.data.toList) = x :: r := ⟨_, _, rfl⟩
    obtain ⟨x, r, hxr⟩ := hc
    rw [hxr] at ih ⊢
    show (⟨(Lib.join ((x :: r) ++ [(pairW R k).data.toList]) [32]).toArray⟩ : ByteArray) = ragaS R k ++ ((⟨#[32]⟩ ++ nmT ((R.f.getD k []).getD 0 0)) ++ nmT ((R.f.getD k []).getD 1 0))
    rw [join_snocW, ← ih]
    apply ByteArray.ext
    simp [pairW]
theorem below_drewR {B : Nat} {a w : World} (h : Below B a w) : Below B a w.drew := h.drew
theorem own_drewR {w : World} {base : Nat} {e : TypeId} {size n : Nat} {v : Value} {xs : List Value} (h : w.ownsRow base e size v n xs) : w.drew.ownsRow base e size v n xs := h
theorem app_cellR {w w6 : World} {o' : Obj} {row : Option Nat} {b off : Nat} {x : Value} (g : w.cell? ⟨b, off, none⟩ = some x) (hg : (w.alloc o').grownBy w6 row) (hn : row ≠ some b) : w6.cell? ⟨b, off, none⟩ = some x :=
  hg.cell ((World.grownBy_alloc w o' none).cell g (by simp)) (fun e => hn e.symm)
theorem tone_nmT {m : Int} (h : 0 ≤ m ∧ m ≤ 11) : toneS m = nmT m := by
  obtain ⟨k, rfl⟩ := Int.eq_ofNat_of_zero_le h.1
  unfold toneS nmT
  rw [if_pos (inB_mk ⟨by omega, h.2⟩), show ((k : Int)).toNat = k from rfl, names_ext k (by omega)]
set_option maxHeartbeats 4000000 in
theorem impl_ragatext (v : Value) (R : Rg) (w : World) (h : RgAt w v R) (hm : Sm R) : Calls Try.prog 44 #[v] w fun e w' => e = .returned (.string (ragaT R)) ∧ Below w.heap.size w w' := by
  obtain ⟨A, a, B, b, C, c, rfl, i1, i2, i3⟩ := rg_form h
  have hb : Below w.heap.size w (w.alloc (.cells #[.string R.s, .slice A R.u.length a, .slice B R.d.length b, .int .i64 R.x, .int .i64 R.y, .slice C R.f.length c] 28)) := (Below.refl _ _).alloc (Nat.le_refl _) _
  have HX := BoxN.at w w.heap.size #[.string R.s, .slice A R.u.length a, .slice B R.d.length b, .int .i64 R.x, .int .i64 R.y, .slice C R.f.length c] 28 rfl
  generalize hW : w.alloc (.cells #[.string R.s, .slice A R.u.length a, .slice B R.d.length b, .int .i64 R.x, .int .i64 R.y, .slice C R.f.length c] 28) = W at hb HX
  have hk := impl_validraga _ R W (h.below hb) hm
  have HI3 := Bx.mk i3
  have h0 := HX.c (k := 0) rfl
  have h1 := HX.c (k := 1) rfl
  have h2 := HX.c (k := 2) rfl
  have h3 := HX.c (k := 3) rfl
  have h4 := HX.c (k := 4) rfl
  have h5 := HX.c (k := 5) rfl
  have hl := HX.lt
  have HXB := Bx.mk HX
  have HB := Bx.mk hb
  cases e0 : okG R
  · have HE : Bx (ragaT R = ⟨#[]⟩) := Bx.mk (by unfold ragaT; rw [e0]; rfl)
    rw [e0] at hk
    clear e0 h i1 i2 i3 hm HX hb
    go_enter Try.func44, Try.ntmps44
    go_wp2_with (fail)
    refine hk.mono ?_
    rintro r w1 ⟨rfl, hb⟩
    have B1 := Bx.mk (HB.out.trans (hb.mono HB.out.size))
    clear hb
    go_wp2_with (fail)
    go_ret
    exact ⟨by rw [HE.out]; rfl, B1.out⟩
  · have HE : Bx (ragaT R = ragaS R R.f.length) := Bx.mk (by unfold ragaT; rw [e0]; rfl)
    have HOK := Bx.mk (ok_yes e0)
    have TU : Bx (textS R.u = ⟨(textL R.u R.u.length).toArray⟩) := Bx.mk (by simp [textS, HOK.out.u])
    have TD : Bx (textS R.d = ⟨(textL R.d R.d.length).toArray⟩) := Bx.mk (by simp [textS, HOK.out.d])
    have su := fun W (hW : Below w.heap.size w W) => impl_scaletext _ R.u W (i1.below hW) (Nat.le_trans hm.u (by decide))
    have sd := fun W (hW : Below w.heap.size w W) => impl_scaletext _ R.d W (i2.below hW) (Nat.le_trans hm.d (by decide))
    rw [TU.out] at su
    rw [TD.out] at sd
    have tx := fun W => impl_tonename R.x W
    have ty := fun W => impl_tonename R.y W
    have l1 := tone_size R.x
    have l2 := tone_size R.y
    rw [tone_nmT (hast_rng HOK.out HOK.out.x)] at tx l1
    rw [tone_nmT (hast_rng HOK.out HOK.out.y)] at ty l2
    have HPA := Bx.mk (pairs_at HOK.out.f)
    have HJD : Bx (∀ k, (⟨(Lib.join ((wordsW R ⟨(textL R.u R.u.length).toArray⟩ ⟨(textL R.d R.d.length).toArray⟩ k).map (·.data.toList)) [32]).toArray⟩ : ByteArray) = ragaS R k) := Bx.mk (join_words R)
    have HZ := Bx.mk (fun k => raga_size HOK.out k)
    have HP8 := (pairs_yes HOK.out.f).1
    have HW0 : Bx (∀ U D : ByteArray, strV (wordsW R U D 0) = [.string R.s, .string U, .string D, .string (nmT R.x ++ nmT R.y)]) := Bx.mk (fun _ _ => rfl)
    obtain ⟨i0, hi, hz0, hz1, hz2⟩ := info_parts infoStrR
    rw [e0] at hk
    clear e0 h i1 i2 i3 hm HX hb
    generalize (⟨(textL R.u R.u.length).toArray⟩ : ByteArray) = U at *
    generalize (⟨(textL R.d R.d.length).toArray⟩ : ByteArray) = D at *
    generalize nmT R.x = nx at *
    generalize nmT R.y = ny at *
    go_enter Try.func44, Try.ntmps44
    go_wp2_with (fail)
    refine hk.mono ?_
    rintro r w1 ⟨rfl, hb⟩
    have B1 := Bx.mk (HB.out.trans (hb.mono HB.out.size))
    have X1 := Bx.mk (HXB.out.below hb)
    clear hb HXB HB h0 h1 h2 h3 h4 h5 hl
    have h0 := X1.out.c (k := 0) rfl
    have h1 := X1.out.c (k := 1) rfl
    have h2 := X1.out.c (k := 2) rfl
    have h3 := X1.out.c (k := 3) rfl
    have h4 := X1.out.c (k := 4) rfl
    have hl := X1.out.lt
    have E1 : (9223372036854775807 < nx.size + ny.size) = False := eq_false (by omega)
    have SS0 : Bx (w1.cell? ⟨w.heap.size, 0, none⟩ = some (.string R.s) ∧ w1.cell? ⟨w.heap.size, 1, none⟩ = some (.slice A R.u.length a) ∧ w1.cell? ⟨w.heap.size, 2, none⟩ = some (.slice B R.d.length b) ∧ w1.cell? ⟨w.heap.size, 3, none⟩ = some (.int .i64 R.x) ∧ w1.cell? ⟨w.heap.size, 4, none⟩ = some (.int .i64 R.y) ∧ w.heap.size < w1.heap.size ∧ Below w1.heap.size w1 w1) := Bx.mk ⟨h0, h1, h2, h3, h4, hl, Below.refl _ _⟩
    go_wp2_with (fail)
    go_region_held3 (fun W => W.cell? ⟨w.heap.size, 0, none⟩ = some (.string R.s) ∧ W.cell? ⟨w.heap.size, 1, none⟩ = some (.slice A R.u.length a) ∧ W.cell? ⟨w.heap.size, 2, none⟩ = some (.slice B R.d.length b) ∧ W.cell? ⟨w.heap.size, 3, none⟩ = some (.int .i64 R.x) ∧ W.cell? ⟨w.heap.size, 4, none⟩ = some (.int .i64 R.y) ∧ w.heap.size < W.heap.size ∧ Below w1.heap.size w1 W)
      (first | (with_reducible exact keepG (by assumption) hb4) | (with_reducible exact keepG (by assumption) (Below.refl _ _)) | (with_reducible exact keepG (by assumption) (Below.refl _ _).drew) | exact keepG SS0.out (Below.refl _ _).drew | exact keepG (by assumption) ((Below.refl _ _).alloc (Nat.le_refl _) _))
      (first
        | (go_at_call 83; (with_reducible refine (su _ (B1.out.trans ((belG (q := w1) (by assumption)).mono B1.out.size))).mono ?_); rintro r w4 ⟨rfl, hb4⟩; have hS0 := keepG (q := w1) (by assumption) hb4)
        | (go_at_call 83; (with_reducible refine (sd _ (B1.out.trans ((belG (q := w1) (by assumption)).mono B1.out.size))).mono ?_); rintro r w4 ⟨rfl, hb4⟩; have hS0 := keepG (q := w1) (by assumption) hb4)
        | (go_at_call 84; (with_reducible refine (tx _).mono ?_); rintro r w4 ⟨rfl, rfl⟩)
        | (go_at_call 84; (with_reducible refine (ty _).mono ?_); rintro r w4 ⟨rfl, rfl⟩))
    have BS := belG (q := w1) hS0
    have B4 := Bx.mk (B1.out.trans (BS.mono B1.out.size))
    have X4 := Bx.mk ((X1.out.below BS).alloc (.cells #[.string R.s, .string U, .string D, .string (nx ++ ny)] 9))
    have O5 : Bx ((w4.alloc (.cells #[.string R.s, .string U, .string D, .string (nx ++ ny)] 9)).ownsRow w4.heap.size 9 1 (.slice (some ⟨w4.heap.size, 0, none⟩) 4 4) 4 (strV (wordsW R U D 0))) := Bx.mk (by
      rw [HW0.out]
      exact World.ownsRow_lit w4 #[.string R.s, .string U, .string D, .string (nx ++ ny)] 4 (Nat.le_refl _) (by decide) rfl)
    clear hS0 h0 h1 h2 h3 h4 hl SS0 BS X1 hk tx ty su sd E1 HW0
    have y5 := X4.out.c (k := 5) rfl
    have yl := X4.out.lt
    go_wp2_with (fail)
    go_loopw [3, 28] (fun v i wr => ∃ k : Nat, k ≤ R.f.length ∧ i = .int .i64 k ∧ wr.ownsRow w4.heap.size 9 1 v (4 + k) (strV (wordsW R U D k)) ∧ Below w4.heap.size w4 wr) (fun _ i _ => R.f.length - (intOf i).toNat)
    case atStart => exact ⟨0, Nat.zero_le _, rfl, O5.out, (Below.refl _ _).alloc (Nat.le_refl _) _⟩
    case round =>
      obtain ⟨k, hk, rfl, hown, hbw⟩ := hrel
      have hsz := hbw.size
      by_cases hlt : k < R.f.length
      · obtain ⟨bb, oo, rfl, _, lb, hx⟩ := rows_at HI3.out (by omega)
        have HBW := Bx.mk (B4.out.trans (hbw.mono B4.out.size))
        obtain ⟨A', c', g1, j1⟩ := hx k hlt
        obtain ⟨ta, tb, e1, ra, rb, _⟩ := HPA.out k hlt
        have HS : Bx (wordsW R U D (k + 1) = wordsW R U D k ++ [nmT ta ++ nmT tb]) := Bx.mk (by rw [wordsW_succ]; unfold pairW; rw [e1]; rfl)
        rw [e1] at j1 g1
        obtain ⟨b', o', cc1, hv1, lb', hc1⟩ := j1.form (by simp)
        injection hv1 with hA1 _ hC1
        subst hA1 hC1
        have g1 : wr.cell? ⟨bb, oo + k, none⟩ = some (.slice (some ⟨b', o', none⟩) 2 c') := (HBW.out.cell (p := ⟨bb, oo + k, none⟩) lb).trans g1
        have p0 : wr.cell? ⟨b', o', none⟩ = some (.int .i64 ta) := (HBW.out.cell (p := ⟨b', o', none⟩) lb').trans (by have := hc1 0 (by simp); simpa using this)
        have p1 : wr.cell? ⟨b', o' + 1, none⟩ = some (.int .i64 tb) := (HBW.out.cell (p := ⟨b', o' + 1, none⟩) lb').trans (by have := hc1 1 (by simp); simpa using this)
        have HFB : Bx (b' < w4.heap.size) := Bx.mk (Nat.lt_of_lt_of_le lb' B4.out.size)
        have q1 : (0 : Int) ≤ (k : Int) := by omega
        have q2 : (k : Int) < (R.f.length : Int) := by omega
        have q3 : k ≤ 8 := by omega
        have na := fun W => impl_tonename ta W
        have nb := fun W => impl_tonename tb W
        rw [tone_nmT ra] at na
        rw [tone_nmT rb] at nb
        have s1 := nmT_size ra
        have s2 := nmT_size rb
        have HL := Bx.mk hlt
        clear hx j1 e1 hc1 ra rb lb lb' hlt y5 yl
        generalize nmT ta = za at *
        generalize nmT tb = zb at *
        have E1 : (9223372036854775807 < za.size + zb.size) = False := eq_false (by omega)
        go_wp2_with (fail)
        go_region_held3 (fun W => W.cell? ⟨b', o', none⟩ = some (.int .i64 ta) ∧ W.cell? ⟨b', o' + 1, none⟩ = some (.int .i64 tb))
          (first | go_keep | exact ⟨g6, g7⟩ | exact ⟨p0, p1⟩ | assumption)
          (first
            | (go_at_call 84; (with_reducible refine (na _).mono ?_); rintro r w5 ⟨rfl, rfl⟩)
            | (go_at_call 84; (with_reducible refine (nb _).mono ?_); rintro r w5 ⟨rfl, rfl⟩)
            | (refine step_append_lies _ (by rfl) _ _ _ (by rfl) w4.heap.size 9 i0 _ 1 16 Try.underlying104 hi hz0 hz1 hz2 rfl (by omega) _ _ _ (by rfl) ((own_drewR hown).alloc _) ⟨wr.drew.heap.size, 0, none⟩ 1 1 [.string (za ++ zb)] (by rfl) (by rfl) (World.news_of_block (cs := #[.string (za ++ zb)]) (t := 9) (fr := (0, 0)) (heap_alloc_new wr.drew _)) (by simp [Value.oneCell']) (by omega) (by unfold maxLen; omega) (by omega) (by have := hsz; show w4.heap.size ≤ (wr.alloc _).heap.size; rw [World.size_alloc]; omega) (wr.drew.heap.size + 1) (by show (wr.alloc _).heap.size = wr.heap.size + 1; rw [World.size_alloc]) ?_; intro gg cap w6 hown6 hgrow hat hlt6; have g6 := app_cellR (w := wr.drew) p0 hgrow (own_far hown HFB.out); have g7 := app_cellR (w := wr.drew) p1 hgrow (own_far hown HFB.out)))
        have hb2 : Below w4.heap.size w4 w6 := below_app' (below_drewR hbw) (own_drewR hown) (Nat.le_refl _) hgrow
        have hown2 : w6.ownsRow w4.heap.size 9 1 (.slice (some ⟨gg, 0, none⟩) (4 + k + 1) cap) (4 + (k + 1)) (strV (wordsW R U D (k + 1))) := by
          rw [HS.out, strV_snoc]; exact hown6
        clear hown6 hgrow hat hown g6 g7
        go_wp2_with (fail)
        go_roundw
        case rel => exact ⟨k + 1, HL.out, by go_num, hown2, hb2⟩
        case measure => have := HL.out; simp [intOf]; omega
      · obtain rfl : k = R.f.length := by omega
        obtain ⟨g, cap, rfl, hg1, hg2⟩ := hown.form (by omega)
        have hcap : 4 + R.f.length ≤ cap := by
          rcases hown.2 with ⟨h, _⟩ | ⟨g', cap', cur, h, _, _, h2, _⟩
          · cases h
          · simp only [Value.slice.injEq] at h; omega
        have hjoin : Calls Try.prog 85 #[.slice (some ⟨g, 0, none⟩) (4 + R.f.length) cap, .string ⟨#[32]⟩] wr fun e w' => e = .returned (.string (ragaS R R.f.length)) ∧ Below wr.heap.size wr w' := by
          have hl := wordsW_len R U D R.f.length
          have hJJ : (⟨(Lib.join ((wordsW R U D R.f.length).map (·.data.toList)) [32]).toArray⟩ : ByteArray) = ragaS R R.f.length := HJD.out _
          have hsz := HZ.out R.f.length (Nat.le_refl _)
          have hq := Try.strings_Join g 0 cap (wordsW R U D R.f.length) ⟨#[32]⟩ wr (fun j x hx => by
            have hj : j < 4 + R.f.length := by
              rcases Nat.lt_or_ge j (4 + R.f.length) with h | h
              · exact h
              · rw [List.getElem?_eq_none (by omega)] at hx; cases hx
            rw [Nat.zero_add, hown.cellAt j (by omega)]
            simp [strV, hx]) hg2 (by omega) (by omega) (by
              rw [← hJJ] at hsz
              have e : (⟨(Lib.join ((wordsW R U D R.f.length).map (·.data.toList)) [32]).toArray⟩ : ByteArray).size = (Lib.join ((wordsW R U D R.f.length).map (·.data.toList)) [32]).length := by show Array.size _ = _; simp
              rw [e] at hsz
              show (Lib.join ((wordsW R U D R.f.length).map (·.data.toList)) [32]).length ≤ _
              omega)
          rw [hl] at hq
          have e3 : (⟨(Lib.join ((wordsW R U D R.f.length).map (·.data.toList)) (⟨#[32]⟩ : ByteArray).data.toList).toArray⟩ : ByteArray) = ragaS R R.f.length := hJJ
          rw [e3] at hq
          exact hq
        have HQ := Bx.mk hjoin
        have HBW := Bx.mk (B4.out.trans (hbw.mono B4.out.size))
        clear hjoin hown hcap hbw hg1 hg2 y5 yl
        go_wp2_with (fail)
        refine HQ.out.mono ?_
        rintro r w7 ⟨rfl, hb7⟩
        have HB7 := Bx.mk (HBW.out.trans (hb7.mono HBW.out.size))
        clear hb7
        go_wp2_with (fail)
        go_ret
        exact ⟨by rw [HE.out]; rfl, HB7.out⟩
end Go.Proofs.Ytjjiibmbaggjoaa
