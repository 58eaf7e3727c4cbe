/- The program's ratio and cents of a pitch, PitchCents. -/
import Derived.Test.YtbnhcacjlkmfeaaDoorTi1
import Derived.Deep.RegionWith
import Derived.Test.YtbnhcacjlkmfeaaDoorRatQ
namespace Go.Proofs.YtbnhcacjlkmfeaaDoor
open Go.ChangeShapes Go.WideShapes Go.ChangeAt Go.RowKit
set_option linter.unusedVariables false
set_option linter.unusedSimpArgs false
set_option maxRecDepth 100000

theorem keepH {h : Nat} {w W W' : World} {n d : Value} (hh : W.cell? ⟨h, 0, none⟩ = some n ∧ W.cell? ⟨h, 1, none⟩ = some d ∧ h < W.heap.size ∧ Bx (StepTab W) ∧ Below w.heap.size w W) (hb : Below W.heap.size W W') :
    W'.cell? ⟨h, 0, none⟩ = some n ∧ W'.cell? ⟨h, 1, none⟩ = some d ∧ h < W'.heap.size ∧ Bx (StepTab W') ∧ Below w.heap.size w W' := by
  obtain ⟨h3, h4, h5, h7, h6⟩ := hh
  have hs := hb.size
  exact ⟨(hb.cell (p := ⟨h, 0, none⟩) (by show h < _; omega)).trans h3, (hb.cell (p := ⟨h, 1, none⟩) (by show h < _; omega)).trans h4, by omega, Bx.mk (h7.out.below hb), h6.trans (hb.mono h6.size)⟩
set_option maxHeartbeats 2000000 in
theorem impl_tcents (s : ByteArray) (v : Value) (l : List (Int × Int)) (p : Int) (w : World) (h : PrsAt w v l) (ht : tunB s.data.toList l = true) (hp : -12 ≤ p ∧ p ≤ 23) (hT : StepTab w) :
    Calls Tryd.prog 36 #[tun s v, .int .i64 p] w fun e w' => e = .returned (.int .i64 (centsT l p)) ∧ Below w.heap.size w w' := by
  obtain ⟨_, hl, hok, _⟩ := tun_yes ht
  have hfl := fun W => impl_octave p W hp
  have hro := fun W hW => impl_ratioof s v l p W hW hl
  have HE : Bx (centsT l p = 120000 * (p / 12) + centsZ (pat l (p % 12).toNat).1 (pat l (p % 12).toNat).2) := Bx.mk rfl
  have f1 : -1 ≤ p / 12 := by omega
  have f2 : p / 12 ≤ 1 := by omega
  obtain ⟨⟨n1, n2⟩, ⟨d1, d2⟩, _⟩ := okR_yes (okTi_yes (hok (p % 12).toNat (by omega))).1
  generalize (pat l (p % 12).toNat).1 = n at *
  generalize (pat l (p % 12).toNat).2 = d at *
  have hce := fun W hT => impl_cents n d W hT ⟨n1, n2⟩ ⟨d1, d2⟩
  obtain ⟨z1, z2⟩ := cents_bd (n := n) (d := d) ⟨n1, n2⟩ ⟨d1, d2⟩
  generalize centsZ n d = z at *
  generalize p / 12 = f at *
  have E1 : IntKind.i64.wrap (120000 * f) = 120000 * f := IntWalk.i64_in _ (by omega)
  have E2 : IntKind.i64.wrap (120000 * f + z) = 120000 * f + z := IntWalk.i64_in _ (by omega)
  have HI := Bx.mk h
  have HT := Bx.mk hT
  obtain ⟨A, c, rfl⟩ := prs_len h
  rw [HE.out]
  simp only [tun, rat] at *
  clear ht hok h hT hl n1 n2 d1 d2 z1 z2 HE hp
  have HS0 : Bx ((w.alloc (.cells #[.string s, .slice A l.length c] 30)).cell? ⟨w.heap.size, 0, none⟩ = some (.string s) ∧ (w.alloc (.cells #[.string s, .slice A l.length c] 30)).cell? ⟨w.heap.size, 1, none⟩ = some (.slice A l.length c) ∧ w.heap.size < (w.alloc (.cells #[.string s, .slice A l.length c] 30)).heap.size ∧ Bx (StepTab (w.alloc (.cells #[.string s, .slice A l.length c] 30))) ∧ Below w.heap.size w (w.alloc (.cells #[.string s, .slice A l.length c] 30))) := Bx.mk ⟨(BoxAt.at _ _ _ _ _ rfl).c0, (BoxAt.at _ _ _ _ _ rfl).c1, (BoxAt.at _ _ _ _ _ rfl).lt, Bx.mk (HT.out.alloc _), (Below.refl _ _).alloc (Nat.le_refl _) _⟩
  go_enter Tryd.func36, Tryd.ntmps36
  go_wp2_with (fail)
  go_region_held3 (fun W => W.cell? ⟨w.heap.size, 0, none⟩ = some (.string s) ∧ W.cell? ⟨w.heap.size, 1, none⟩ = some (.slice A l.length c) ∧ w.heap.size < W.heap.size ∧ Bx (StepTab W) ∧ Below w.heap.size w W)
    (first | (with_reducible exact keepH (by assumption) hb4) | (with_reducible exact keepH (by assumption) (Below.refl _ _)) | (with_reducible exact keepH (by assumption) (Below.refl _ _).drew) | exact keepH HS0.out (Below.refl _ _).drew)
    (first | (go_at_call 65; (with_reducible refine (hfl _).mono ?_); rintro r w5 ⟨rfl, rfl⟩) | (go_at_call 66; (with_reducible refine (hro _ (HI.out.below (by assumption : _ ∧ _ ∧ _ ∧ Bx _ ∧ _).2.2.2.2)).mono ?_); rintro r w4 ⟨rfl, hb4⟩; have hS0 := keepH (w := w) (by assumption) hb4) | (go_at_call 43; (with_reducible refine (hce _ (by assumption : _ ∧ _ ∧ _ ∧ Bx _ ∧ _).2.2.2.1.out).mono ?_); rintro r w4 ⟨rfl, hb4⟩; have hS0 := keepH (w := w) (by assumption) hb4))
  all_goals
    go_wp2_with (fail)
    go_ret
    exact ⟨rfl, (by assumption : _ ∧ _ ∧ _ ∧ Bx _ ∧ _).2.2.2.2⟩
set_option maxHeartbeats 1000000 in
theorem impl_pitchcents (s : ByteArray) (v : Value) (l : List (Int × Int)) (p : Int) (w : World) (h : PrsAt w v l) (hs : s.size ≤ maxLen) (hm : l.length ≤ 281474976710656) (hT : StepTab w) :
    Calls Tryd.prog 12 #[tun s v, .int .i64 p] w (TwoOut (pcE s.data.toList l p) w) := by
  have hk := fun W hW => impl_validtuning s v l W hW hs hm
  have hpi := fun W => impl_ispitch p W
  have HI := Bx.mk h
  have HT := Bx.mk hT
  obtain ⟨A, c, rfl⟩ := prs_len h
  simp only [tun] at *
  cases ht : tunB s.data.toList l
  · have HE : Bx (pcE s.data.toList l p = (0, 1)) := Bx.mk (by simp [pcE, ht])
    rw [ht] at hk
    clear ht h hs hm hT
    go_enter Tryd.func12, Tryd.ntmps12
    go_wp2_with (fail)
    refine (hk _ (HI.out.below ((Below.refl _ _).alloc (Nat.le_refl _) _))).mono ?_
    rintro e w1 ⟨rfl, hb1⟩
    have B1 : Bx (Below w.heap.size w w1) := Bx.mk (((Below.refl _ _).alloc (Nat.le_refl _) _).trans (hb1.mono (by go_size)))
    clear hb1
    go_wp2_with (fail)
    go_ret2
    rw [TwoOut, HE.out]
    exact ⟨rfl, B1.out⟩
  · have hce := fun W hW hp hT => impl_tcents s (.slice A l.length c) l p W hW ht hp hT
    simp only [tun] at hce
    cases hp : inB p (-12) 23
    · have HE : Bx (pcE s.data.toList l p = (0, 2)) := Bx.mk (by simp [pcE, ht, hp])
      rw [ht] at hk
      rw [hp] at hpi
      clear ht h hs hm hT hp hce
      go_enter Tryd.func12, Tryd.ntmps12
      go_wp2_with (fail)
      refine (hk _ (HI.out.below ((Below.refl _ _).alloc (Nat.le_refl _) _))).mono ?_
      rintro e w1 ⟨rfl, hb1⟩
      have B1 : Bx (Below w.heap.size w w1) := Bx.mk (((Below.refl _ _).alloc (Nat.le_refl _) _).trans (hb1.mono (by go_size)))
      clear hb1
      go_wp2_with (fail)
      refine (hpi _).mono ?_
      rintro e w2 ⟨rfl, rfl⟩
      go_wp2_with (fail)
      go_ret2
      rw [TwoOut, HE.out]
      exact ⟨rfl, B1.out⟩
    · have HE : Bx (pcE s.data.toList l p = (centsT l p, 0)) := Bx.mk (by simp [pcE, ht, hp])
      have hce := fun W hW hT => hce W hW (inB_yes hp) hT
      rw [ht] at hk
      rw [hp] at hpi
      generalize centsT l p = z at *
      clear ht h hs hm hT hp
      go_enter Tryd.func12, Tryd.ntmps12
      go_wp2_with (fail)
      refine (hk _ (HI.out.below ((Below.refl _ _).alloc (Nat.le_refl _) _))).mono ?_
      rintro e w1 ⟨rfl, hb1⟩
      have B1 : Bx (Below w.heap.size w w1) := Bx.mk (((Below.refl _ _).alloc (Nat.le_refl _) _).trans (hb1.mono (by go_size)))
      have K1 : Bx (BoxAt w1 w.heap.size (.string s) (.slice A l.length c) 30) := Bx.mk (BoxAt.below (BoxAt.at _ _ _ _ _ rfl) hb1)
      clear hb1
      go_wp2_with (fail)
      refine (hpi _).mono ?_
      rintro e w2 ⟨rfl, rfl⟩
      have k10 := K1.out.c0
      have k11 := K1.out.c1
      have k1l := K1.out.lt
      go_wp2_with (fail)
      refine (hce _ (HI.out.below B1.out) (HT.out.below B1.out)).mono ?_
      rintro e w3 ⟨rfl, hb3⟩
      have B3 : Bx (Below w.heap.size w w3) := Bx.mk (B1.out.trans (hb3.mono B1.out.size))
      clear hb3
      go_wp2_with (fail)
      go_ret2
      rw [TwoOut, HE.out]
      exact ⟨rfl, B3.out⟩
end Go.Proofs.YtbnhcacjlkmfeaaDoor
