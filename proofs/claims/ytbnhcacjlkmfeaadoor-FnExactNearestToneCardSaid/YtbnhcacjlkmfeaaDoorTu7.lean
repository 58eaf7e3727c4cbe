/- The model's cents and frequency of a pitch. -/
import Derived.Test.YtbnhcacjlkmfeaaDoorTu6
import Derived.Test.YtbnhcacjlkmfeaaDoorSc3
import Derived.Test.YtbnhcacjlkmfeaaDoorRatB
namespace Go.Proofs.YtbnhcacjlkmfeaaDoor
open Go.ChangeShapes Go.WideShapes Go.ChangeAt Go.RowKit
set_option linter.unusedVariables false
set_option linter.unusedSimpArgs false
set_option maxRecDepth 100000

/-- the cents of a pitch -/
noncomputable def centsT (l : List (Int × Int)) (p : Int) : Int := 120000 * (p / 12) + centsZ (pat l (p % 12).toNat).1 (pat l (p % 12).toNat).2
theorem prs_slice {w : World} {v : Value} {l : List (Int × Int)} (h : PrsAt w v l) (h0 : 0 < l.length) : ∃ b o c, v = .slice (some ⟨b, o, none⟩) l.length c ∧ b < w.heap.size ∧ ∀ k, k < l.length → w.cell? ⟨b, o + k * 2, none⟩ = some (.int .i64 (pat l k).1) ∧ w.cell? ⟨b, o + k * 2 + 1, none⟩ = some (.int .i64 (pat l k).2) := by
  rcases h with ⟨rfl, _⟩ | h
  · cases h0
  · exact h
theorem cell_lt {w : World} {g o : Nat} {u : Value} (h : w.cell? ⟨g, o, none⟩ = some u) : g < w.heap.size := by
  rcases Nat.lt_or_ge g w.heap.size with h1 | h1
  · exact h1
  · simp [World.cell?, Array.getElem?_eq_none h1] at h
set_option maxHeartbeats 2000000 in
theorem spec_tcents (g : Nat) (s : ByteArray) (v : Value) (l : List (Int × Int)) (p : Int) (w : World) (h0 : w.cell? ⟨g, 0, none⟩ = some (.string s)) (h1 : w.cell? ⟨g, 1, none⟩ = some v) (h : PrsAt w v l) (ht : tunB s.data.toList l = true) (hp : -12 ≤ p ∧ p ≤ 23) :
    Calls Tryd.prog 32 #[.pointer (some ⟨g, 0, none⟩), .int .i64 p] w fun e w' => e = .returned (.int .i64 (centsT l p)) ∧ Below w.heap.size w w' := by
  obtain ⟨_, hl, hok, _⟩ := tun_yes ht
  obtain ⟨b, o, c, rfl, hb, hc⟩ := prs_slice h (by omega)
  rw [hl] at h1 hc
  have hto := fun W => spec_tone p W
  have hfl := fun W => spec_floor p W hp
  have HE : Bx (centsT l p = 120000 * (p / 12) + centsZ (pat l (p % 12).toNat).1 (pat l (p % 12).toNat).2) := Bx.mk rfl
  obtain ⟨j, hj⟩ : ∃ j : Nat, p % 12 = (j : Int) := ⟨(p % 12).toNat, by omega⟩
  have hj2 : j < 12 := by omega
  have j1 : (0 : Int) ≤ (j : Int) := by omega
  have j2 : (j : Int) < 12 := by omega
  rw [hj] at HE hto
  rw [Int.toNat_natCast] at HE
  have f1 : -1 ≤ p / 12 := by omega
  have f2 : p / 12 ≤ 1 := by omega
  have c0 := (hc j hj2).1
  have c1 := (hc j hj2).2
  obtain ⟨⟨n1, n2⟩, ⟨d1, d2⟩, _⟩ := okR_yes (okTi_yes (hok j hj2)).1
  generalize (pat l j).1 = n at *
  generalize (pat l j).2 = d at *
  have hce := fun W a0 a1 => spec_cents b (o + j * 2) n d W a0 a1 ⟨n1, n2⟩ ⟨d1, d2⟩
  obtain ⟨z1, z2⟩ := cents_bd (n := n) (d := d) ⟨n1, n2⟩ ⟨d1, d2⟩
  generalize centsZ n d = z at *
  generalize p / 12 = f at *
  have E1 : IntKind.i64.wrap (120000 * f) = 120000 * f := IntWalk.i64_in _ (by omega)
  have E2 : IntKind.i64.wrap (120000 * f + z) = 120000 * f + z := IntWalk.i64_in _ (by omega)
  have HS0 : Bx (w.cell? ⟨b, o + j * 2, none⟩ = some (.int .i64 n) ∧ w.cell? ⟨b, o + j * 2 + 1, none⟩ = some (.int .i64 d) ∧ w.cell? ⟨g, 0, none⟩ = some (.string s) ∧ w.cell? ⟨g, 1, none⟩ = some (.slice (some ⟨b, o, none⟩) 12 c) ∧ b < w.heap.size ∧ g < w.heap.size ∧ Below w.heap.size w w) := Bx.mk ⟨c0, c1, h0, h1, hb, cell_lt h0, Below.refl _ _⟩
  rw [HE.out]
  clear ht hok h hc hl hj n1 n2 d1 d2 z1 z2 HE hp
  go_enter Tryd.func32, Tryd.ntmps32
  go_wp2_with (fail)
  go_region_held3 (fun W => W.cell? ⟨b, o + j * 2, none⟩ = some (.int .i64 n) ∧ W.cell? ⟨b, o + j * 2 + 1, none⟩ = some (.int .i64 d) ∧ W.cell? ⟨g, 0, none⟩ = some (.string s) ∧ W.cell? ⟨g, 1, none⟩ = some (.slice (some ⟨b, o, none⟩) 12 c) ∧ b < W.heap.size ∧ g < W.heap.size ∧ Below w.heap.size w W)
    (first | (with_reducible exact keepE (by assumption) hb4) | (with_reducible exact keepE (by assumption) (Below.refl _ _)) | (with_reducible exact keepE (by assumption) (Below.refl _ _).drew) | exact keepE HS0.out (Below.refl _ _).drew)
    (first | (go_at_call 59; (with_reducible refine (hfl _).mono ?_); rintro r w5 ⟨rfl, rfl⟩) | (go_at_call 61; (with_reducible refine (hto _).mono ?_); rintro r w6 ⟨rfl, rfl⟩) | (go_at_call 60; (with_reducible refine (hce _ (by assumption : _ ∧ _ ∧ _ ∧ _ ∧ _ ∧ _ ∧ _).1 (by assumption : _ ∧ _ ∧ _ ∧ _ ∧ _ ∧ _ ∧ _).2.1).mono ?_); rintro r w4 ⟨rfl, hb4⟩; have hS0 := keepE (w := w) (by assumption) hb4))
  all_goals
    go_wp2_with (fail)
    go_ret
    exact ⟨rfl, (by assumption : _ ∧ _ ∧ _ ∧ _ ∧ _ ∧ _ ∧ _).2.2.2.2.2.2⟩
end Go.Proofs.YtbnhcacjlkmfeaaDoor
