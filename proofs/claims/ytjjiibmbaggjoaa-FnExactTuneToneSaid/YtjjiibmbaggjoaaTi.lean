/- The program's ValidTuning. -/
import Derived.Test.YtjjiibmbaggjoaaTuM
import Derived.Test.YtjjiibmbaggjoaaRatLc
namespace Go.Proofs.Ytjjiibmbaggjoaa
open Go.ChangeShapes Go.WideShapes Go.ChangeAt Go.RowKit
set_option linter.unusedVariables false
set_option linter.unusedSimpArgs false
set_option maxRecDepth 100000

theorem keepG {g b o1 o2 o3 o4 : Nat} {w W W' : World} {x y p1 p2 q1 q2 : Value} (h : W.cell? ⟨g, 0, none⟩ = some x ∧ W.cell? ⟨g, 1, none⟩ = some y ∧ W.cell? ⟨b, o1, none⟩ = some p1 ∧ W.cell? ⟨b, o2, none⟩ = some p2 ∧ W.cell? ⟨b, o3, none⟩ = some q1 ∧ W.cell? ⟨b, o4, none⟩ = some q2 ∧ g < W.heap.size ∧ b < W.heap.size ∧ Below w.heap.size w W) (hb : Below W.heap.size W W') :
    W'.cell? ⟨g, 0, none⟩ = some x ∧ W'.cell? ⟨g, 1, none⟩ = some y ∧ W'.cell? ⟨b, o1, none⟩ = some p1 ∧ W'.cell? ⟨b, o2, none⟩ = some p2 ∧ W'.cell? ⟨b, o3, none⟩ = some q1 ∧ W'.cell? ⟨b, o4, none⟩ = some q2 ∧ g < W'.heap.size ∧ b < W'.heap.size ∧ Below w.heap.size w W' := by
  obtain ⟨h1, h2, h3, h4, h5, h6, h7, h8, h9⟩ := h
  have hs := hb.size
  exact ⟨(hb.cell (p := ⟨g, 0, none⟩) h7).trans h1, (hb.cell (p := ⟨g, 1, none⟩) h7).trans h2, (hb.cell (p := ⟨b, o1, none⟩) h8).trans h3, (hb.cell (p := ⟨b, o2, none⟩) h8).trans h4, (hb.cell (p := ⟨b, o3, none⟩) h8).trans h5, (hb.cell (p := ⟨b, o4, none⟩) h8).trans h6, by omega, by omega, h9.trans (hb.mono h9.size)⟩
set_option maxHeartbeats 4000000 in
theorem impl_validtuning (s : ByteArray) (v : Value) (l : List (Int × Int)) (w : World) (h : PrsAt w v l) (hs : s.size ≤ maxLen) (hm : l.length ≤ 281474976710656) :
    Calls Try.prog 91 #[tun s v] w fun e w' => e = .returned (.bool (tunB s.data.toList l)) ∧ Below w.heap.size w w' := by
  have hnm := fun W => impl_name s W hs
  have HI := Bx.mk h
  unfold tun
  cases hn : nmB s.data.toList
  · have HE : Bx (tunB s.data.toList l = false) := Bx.mk (by simp [tunB, hn])
    rw [hn] at hnm
    obtain ⟨A, c, rfl⟩ := prs_len h
    clear hn h hs
    go_enter Try.func91, Try.ntmps91
    go_wp2_with (fail)
    refine (hnm _).mono ?_
    rintro e w' ⟨rfl, rfl⟩
    go_wp2_with (fail)
    go_ret
    exact ⟨ret_bool HE.out.symm, (Below.refl _ _).alloc (Nat.le_refl _) _⟩
  · rw [hn] at hnm
    by_cases hl : l.length = 12
    · obtain ⟨b, o, c, rfl, hb, hc⟩ := prs_slice h (by omega)
      rw [hl] at hc ⊢
      have h00 := (hc 0 (by omega)).1
      have h01 := (hc 0 (by omega)).2
      rw [Nat.zero_mul, Nat.add_zero] at h00 h01
      have hnb : (w.heap.size == b) = false := by simp; omega
      by_cases h0 : (pat l 0).1 = 1 ∧ (pat l 0).2 = 1
      · have HM := Bx.mk (fun hcc h11 => tun_mk (s := s.data.toList) hn hl h0 hcc h11)
        have HN := Bx.mk (fun i hi h => tun_bad (s := s.data.toList) (l := l) (i := i) hi h)
        have HL := Bx.mk (fun h => tun_bad11 (s := s.data.toList) (l := l) h)
        have HC := Bx.mk hc
        rw [h0.1] at h00
        rw [h0.2] at h01
        generalize hres : tunB s.data.toList l = res at *
        clear h hn hc hm hs h0 hres
        go_enter Try.func91, Try.ntmps91
        go_wp2_with (fail)
        refine (hnm _).mono ?_
        rintro e w' ⟨rfl, rfl⟩
        go_wp2_with (fail)
        go_loopw [25] (fun i wr => ∃ k : Nat, k ≤ 11 ∧ i = .int .i64 k ∧ Bx (∀ i, i < k → (cmpE (pat l i).1 (pat l i).2 (pat l (i + 1)).1 (pat l (i + 1)).2).1 = -1) ∧ Bx (wr.cell? ⟨w.heap.size, 0, none⟩ = some (.string s) ∧ wr.cell? ⟨w.heap.size, 1, none⟩ = some (.slice (some ⟨b, o, none⟩) 12 c) ∧ w.heap.size < wr.heap.size) ∧ Bx (Below w.heap.size w wr)) (fun i _ => 11 - (intOf i).toNat)
        case atStart => exact ⟨0, by omega, rfl, Bx.mk (fun i hi => by omega), Bx.mk ⟨(BoxAt.at _ _ _ _ _ rfl).c0, (BoxAt.at _ _ _ _ _ rfl).c1, (BoxAt.at _ _ _ _ _ rfl).lt⟩, Bx.mk ((Below.refl _ _).alloc (Nat.le_refl _) _)⟩
        case round =>
          obtain ⟨k, hk, rfl, HK, K1, B1⟩ := hrel
          obtain ⟨k10, k11, k1l⟩ := K1.out
          have hbr : b < wr.heap.size := Nat.lt_of_lt_of_le hb B1.out.size
          clear h00 h01 hnm hnb
          by_cases hlt : k < 11
          · have c0 := (B1.out.cell (p := ⟨b, o + k * 2, none⟩) hb).trans (HC.out k (by omega)).1
            have c1 := (B1.out.cell (p := ⟨b, o + k * 2 + 1, none⟩) hb).trans (HC.out k (by omega)).2
            have d0 := (B1.out.cell (p := ⟨b, o + (k + 1) * 2, none⟩) hb).trans (HC.out (k + 1) (by omega)).1
            have d1 := (B1.out.cell (p := ⟨b, o + (k + 1) * 2 + 1, none⟩) hb).trans (HC.out (k + 1) (by omega)).2
            have HS : Bx ((cmpE (pat l k).1 (pat l k).2 (pat l (k + 1)).1 (pat l (k + 1)).2).1 = -1 → ∀ i, i < k + 1 → (cmpE (pat l i).1 (pat l i).2 (pat l (i + 1)).1 (pat l (i + 1)).2).1 = -1) := Bx.mk (fun h i hi => by
              rcases Nat.lt_or_ge i k with h2 | h2
              · exact HK.out i h2
              · rw [show i = k by omega]; exact h)
            have HN1 := Bx.mk (HN.out k hlt)
            have k0 : (0 : Int) ≤ (k : Int) := by omega
            have k2 : (0 : Int) ≤ (k : Int) + 1 := by omega
            have k3 : (k : Int) < 12 := by omega
            have k4 : ((k : Int) + 1).toNat = k + 1 := by omega
            have k5 : (k : Int) + 1 < 12 := by omega
            have k6 : (k : Int) < 11 := by omega
            have E1 : IntKind.i64.wrap ((k : Int) + 1) = (k : Int) + 1 := IntWalk.i64_in _ (by omega)
            have hcm := fun W => two_open (impl_compare (pat l k).1 (pat l k).2 (pat l (k + 1)).1 (pat l (k + 1)).2) W
            simp only [rat] at hcm
            generalize cmpE (pat l k).1 (pat l k).2 (pat l (k + 1)).1 (pat l (k + 1)).2 = z at *
            generalize (pat l k).1 = p1 at *
            generalize (pat l k).2 = p2 at *
            generalize (pat l (k + 1)).1 = q1 at *
            generalize (pat l (k + 1)).2 = q2 at *
            obtain ⟨z1, z2⟩ := z
            dsimp only at hcm HS HN1
            clear HM HN HL HK
            have HS0 : Bx (wr.cell? ⟨w.heap.size, 0, none⟩ = some (.string s) ∧ wr.cell? ⟨w.heap.size, 1, none⟩ = some (.slice (some ⟨b, o, none⟩) 12 c) ∧ wr.cell? ⟨b, o + k * 2, none⟩ = some (.int .i64 p1) ∧ wr.cell? ⟨b, o + k * 2 + 1, none⟩ = some (.int .i64 p2) ∧ wr.cell? ⟨b, o + (k + 1) * 2, none⟩ = some (.int .i64 q1) ∧ wr.cell? ⟨b, o + (k + 1) * 2 + 1, none⟩ = some (.int .i64 q2) ∧ w.heap.size < wr.heap.size ∧ b < wr.heap.size ∧ Below w.heap.size w wr) := Bx.mk ⟨k10, k11, c0, c1, d0, d1, k1l, hbr, B1.out⟩
            by_cases hz : z1 = -1
            · subst hz
              have HE := Bx.mk (HS.out rfl)
              clear HS HN1
              go_wp2_with (fail)
              go_region_held3 (fun W => W.cell? ⟨w.heap.size, 0, none⟩ = some (.string s) ∧ W.cell? ⟨w.heap.size, 1, none⟩ = some (.slice (some ⟨b, o, none⟩) 12 c) ∧ W.cell? ⟨b, o + k * 2, none⟩ = some (.int .i64 p1) ∧ W.cell? ⟨b, o + k * 2 + 1, none⟩ = some (.int .i64 p2) ∧ W.cell? ⟨b, o + (k + 1) * 2, none⟩ = some (.int .i64 q1) ∧ W.cell? ⟨b, o + (k + 1) * 2 + 1, none⟩ = some (.int .i64 q2) ∧ w.heap.size < W.heap.size ∧ b < W.heap.size ∧ Below w.heap.size w W)
                (first | (with_reducible exact keepG (by assumption) hb4) | (with_reducible exact keepG (by assumption) (Below.refl _ _).drew) | exact keepG HS0.out (Below.refl _ _).drew)
                ((go_at_call 117; (with_reducible refine (hcm _).mono ?_); rintro r w4 ⟨rfl, hb4⟩; have hS0 := keepG (w := w) (by assumption) hb4))
              all_goals
                have SS : _ ∧ _ ∧ _ ∧ _ ∧ _ ∧ _ ∧ _ ∧ _ ∧ _ := (by assumption)
                have SB := Bx.mk SS
                clear SS
                go_wp2_with (fail)
                go_roundw
                case rel => exact ⟨k + 1, by omega, by go_num, HE, Bx.mk ⟨SB.out.1, SB.out.2.1, SB.out.2.2.2.2.2.2.1⟩, Bx.mk SB.out.2.2.2.2.2.2.2.2⟩
                case measure => simp [intOf]; omega
            · have HE := Bx.mk (HN1.out hz)
              have hz1 : (z1 != -1) = true := by simpa using hz
              clear HS HN1
              go_wp2_with (fail)
              go_region_held3 (fun W => W.cell? ⟨w.heap.size, 0, none⟩ = some (.string s) ∧ W.cell? ⟨w.heap.size, 1, none⟩ = some (.slice (some ⟨b, o, none⟩) 12 c) ∧ W.cell? ⟨b, o + k * 2, none⟩ = some (.int .i64 p1) ∧ W.cell? ⟨b, o + k * 2 + 1, none⟩ = some (.int .i64 p2) ∧ W.cell? ⟨b, o + (k + 1) * 2, none⟩ = some (.int .i64 q1) ∧ W.cell? ⟨b, o + (k + 1) * 2 + 1, none⟩ = some (.int .i64 q2) ∧ w.heap.size < W.heap.size ∧ b < W.heap.size ∧ Below w.heap.size w W)
                (first | (with_reducible exact keepG (by assumption) hb4) | (with_reducible exact keepG (by assumption) (Below.refl _ _).drew) | exact keepG HS0.out (Below.refl _ _).drew)
                ((go_at_call 117; (with_reducible refine (hcm _).mono ?_); rintro r w4 ⟨rfl, hb4⟩; have hS0 := keepG (w := w) (by assumption) hb4))
              all_goals
                have SS : _ ∧ _ ∧ _ ∧ _ ∧ _ ∧ _ ∧ _ ∧ _ ∧ _ := (by assumption)
                have SB := Bx.mk SS
                clear SS
                go_wp2_with (fail)
                go_ret
                exact ⟨ret_bool HE.out.symm, SB.out.2.2.2.2.2.2.2.2⟩
          · obtain rfl : k = 11 := by omega
            have c0 := (B1.out.cell (p := ⟨b, o + 11 * 2, none⟩) hb).trans (HC.out 11 (by omega)).1
            have c1 := (B1.out.cell (p := ⟨b, o + 11 * 2 + 1, none⟩) hb).trans (HC.out 11 (by omega)).2
            have HM1 := Bx.mk (HM.out HK.out)
            have ok := (cmpE_lt (HK.out 10 (by omega))).2.1
            obtain ⟨⟨n1, n2⟩, ⟨d1, d2⟩, _⟩ := okR_yes ok
            simp only [Nat.reduceAdd] at n1 n2 d1 d2
            generalize (pat l 11).1 = p1 at *
            generalize (pat l 11).2 = p2 at *
            have E1 : IntKind.i64.wrap (2 * p2) = 2 * p2 := IntWalk.i64_in _ (by omega)
            clear HM HN HK ok K1 hlt hk
            have hc0 : wr.cell? ⟨b, o + 22, none⟩ = some (.int .i64 p1) := c0
            have hc1 : wr.cell? ⟨b, o + 22 + 1, none⟩ = some (.int .i64 p2) := c1
            by_cases hp : p1 < 2 * p2
            · have x1 : decide (p1 < 2 * p2) = true := decide_eq_true hp
              have HE := Bx.mk (HM1.out hp)
              clear HM1 HL hp
              go_wp2_with (fail)
              go_ret
              exact ⟨ret_bool HE.out.symm, B1.out.alloc B1.out.size _⟩
            · have x1 : decide (p1 < 2 * p2) = false := decide_eq_false hp
              have HE := Bx.mk (HL.out (by omega))
              clear HM1 HL hp
              go_wp2_with (fail)
              go_ret
              exact ⟨ret_bool HE.out.symm, B1.out.alloc B1.out.size _⟩
      · have HE : Bx (tunB s.data.toList l = false) := Bx.mk (tun_bad0 h0)
        generalize tunB s.data.toList l = res at *
        by_cases hx : (pat l 0).1 = 1
        · have hy : ((pat l 0).2 == 1) = false := by simp; exact fun h => h0 ⟨hx, h⟩
          rw [hx] at h00
          generalize (pat l 0).2 = y at *
          clear h hn hc hm hs h0 hx
          go_enter Try.func91, Try.ntmps91
          go_wp2_with (fail)
          refine (hnm _).mono ?_
          rintro e w' ⟨rfl, rfl⟩
          go_wp2_with (fail)
          go_ret
          exact ⟨ret_bool HE.out.symm, (Below.refl _ _).alloc (Nat.le_refl _) _⟩
        · have hy : ((pat l 0).1 == 1) = false := by simpa using hx
          generalize (pat l 0).1 = x at *
          generalize (pat l 0).2 = y at *
          clear h hn hc hm hs h0 hx
          go_enter Try.func91, Try.ntmps91
          go_wp2_with (fail)
          refine (hnm _).mono ?_
          rintro e w' ⟨rfl, rfl⟩
          go_wp2_with (fail)
          go_ret
          exact ⟨ret_bool HE.out.symm, (Below.refl _ _).alloc (Nat.le_refl _) _⟩
    · have HE : Bx (tunB s.data.toList l = false) := Bx.mk (by simp [tunB, hl])
      obtain ⟨A, c, rfl⟩ := prs_len h
      have hne : ((l.length : Int) != 12) = true := by simp; omega
      clear hn h hs
      go_enter Try.func91, Try.ntmps91
      go_wp2_with (fail)
      refine (hnm _).mono ?_
      rintro e w' ⟨rfl, rfl⟩
      go_wp2_with (fail)
      go_ret
      exact ⟨ret_bool HE.out.symm, (Below.refl _ _).alloc (Nat.le_refl _) _⟩
end Go.Proofs.Ytjjiibmbaggjoaa
