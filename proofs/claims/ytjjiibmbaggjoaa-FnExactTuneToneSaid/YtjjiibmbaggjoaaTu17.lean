/- The model's TuneTone: a tuning with ratios of its own. -/
import Derived.Test.YtjjiibmbaggjoaaTuG
import Derived.Test.YtjjiibmbaggjoaaTuP
import Derived.Test.YtjjiibmbaggjoaaTiA
import Derived.Test.YtjjiibmbaggjoaaSplit
import Derived.Deep.AppendLies
import Derived.Deep.RegionLaw
namespace Go.Proofs.Ytjjiibmbaggjoaa
open Go.ChangeShapes Go.WideShapes Go.ChangeAt Go.RowKit
set_option linter.unusedVariables false
set_option linter.unusedSimpArgs false
set_option maxRecDepth 100000

theorem pcl_cells {w : World} {b o : Nat} {l : List (Int × Int)} (hc : ∀ k, k < l.length → w.cell? ⟨b, o + k * 2, none⟩ = some (.int .i64 (pat l k).1) ∧ w.cell? ⟨b, o + k * 2 + 1, none⟩ = some (.int .i64 (pat l k).2)) :
    ∀ j u, (pcl l)[j]? = some u → w.cell? ((⟨b, o, none⟩ : Addr).add j) = some u := by
  intro j u hu
  have hj : j < 2 * l.length := by rw [← pcl_len]; exact (List.getElem?_eq_some_iff.1 hu).1
  have hadd : (⟨b, o, none⟩ : Addr).add j = ⟨b, o + j, none⟩ := by unfold Addr.add; split <;> simp_all
  rw [hadd]
  rcases Nat.mod_two_eq_zero_or_one j with e | e
  · obtain ⟨k, rfl⟩ : ∃ k, j = k * 2 := ⟨j / 2, by omega⟩
    rw [pcl_at0 l k (by omega)] at hu
    rw [← hu]; exact (hc k (by omega)).1
  · obtain ⟨k, rfl⟩ : ∃ k, j = k * 2 + 1 := ⟨j / 2, by omega⟩
    rw [pcl_at1 l k (by omega)] at hu
    rw [← hu, ← Nat.add_assoc]; exact (hc k (by omega)).2
set_option maxHeartbeats 2000000 in
theorem spec_own (g : Nat) (s : ByteArray) (v : Value) (l : List (Int × Int)) (w : World) (h0 : w.cell? ⟨g, 0, none⟩ = some (.string s)) (h1 : w.cell? ⟨g, 1, none⟩ = some v) (h : PrsAt w v l) (hl : l.length = 12) :
    Calls Try.prog 89 #[.pointer (some ⟨g, 0, none⟩)] w (TunOutE s l w) := by
  obtain ⟨b, o, c, rfl, hb, hc⟩ := prs_slice h (by omega)
  obtain ⟨i0, hi, hz0, hz1, hz2⟩ := info_parts infoRatL
  have HN := Bx.mk (pcl_cells hc)
  rw [hl] at h1
  have hBW : Below w.heap.size w ((w.alloc (.cells #[.string ⟨#[]⟩, .slice none 0 0] 59)).drew.alloc (.cells #[] 63)) := ((((Below.refl _ _).alloc (Nat.le_refl _) _).drew).alloc (by go_size) _)
  have HOM : Bx (((w.alloc (.cells #[.string ⟨#[]⟩, .slice none 0 0] 59)).drew.alloc (.cells #[] 63)).ownsRow (w.heap.size + 1) 63 2 (.slice (some ⟨w.heap.size + 1, 0, none⟩) 0 0) 0 []) := Bx.mk (by
    have := World.ownsRow_made (base := w.heap.size + 1) (e := 63) (size := 2) (w.alloc (.cells #[.string ⟨#[]⟩, .slice none 0 0] 59)).drew #[] 0 (by go_size) (by decide) rfl
    rw [show (w.alloc (.cells #[.string ⟨#[]⟩, .slice none 0 0] 59)).drew.heap.size = w.heap.size + 1 by simp] at this
    exact this)
  have HNW : Bx (∀ j u, (pcl l)[j]? = some u → ((w.alloc (.cells #[.string ⟨#[]⟩, .slice none 0 0] 59)).drew.alloc (.cells #[] 63)).cell? ((⟨b, o, none⟩ : Addr).add j) = some u) := Bx.mk (fun j u hu => by
    have hadd : (⟨b, o, none⟩ : Addr).add j = ⟨b, o + j, none⟩ := by unfold Addr.add; split <;> simp_all
    have h2 := HN.out j u hu
    rw [hadd] at h2 ⊢
    exact (hBW.cell (p := ⟨b, o + j, none⟩) hb).trans h2)
  have KW : Bx (BoxAt ((w.alloc (.cells #[.string ⟨#[]⟩, .slice none 0 0] 59)).drew.alloc (.cells #[] 63)) w.heap.size (.string ⟨#[]⟩) (.slice none 0 0) 59) := Bx.mk (BoxAt.alloc (BoxAt.drew1 (BoxAt.at _ _ _ _ _ rfl)) _)
  have HBW := Bx.mk hBW
  have HSZ : Bx (((w.alloc (.cells #[.string ⟨#[]⟩, .slice none 0 0] 59)).drew.alloc (.cells #[] 63)).heap.size = w.heap.size + 1 + 1) := Bx.mk (by simp)
  have hpl : (pcl l).length = 12 * 2 := by rw [pcl_len, hl]
  have hp1 : ∀ u ∈ pcl l, u.oneCell' = true := fun u hu => by
    simp only [pcl, List.mem_flatMap] at hu
    obtain ⟨p, _, h⟩ := hu
    simp at h
    rcases h with rfl | rfl <;> rfl
  have HP := Bx.mk (And.intro hpl hp1)
  have HL := Bx.mk hl
  have hgl : g < w.heap.size := by
    rcases Nat.lt_or_ge g w.heap.size with h2 | h2
    · exact h2
    · simp [World.cell?, Array.getElem?_eq_none h2] at h0
  have hng : (w.heap.size == g) = false := by simp; omega
  have hng2 : (w.heap.size + 1 == g) = false := by simp; omega
  clear h hc hBW hpl hp1 hl HN
  go_enter Try.func89, Try.ntmps89
  go_wp2_with (fail)
  go_region_law
    ((refine step_append_lies _ (by rfl) _ _ _ (by rfl) (w.heap.size + 1) 63 i0 _ 2 16 Try.underlying57 hi hz0 hz1 hz2 (by rfl) (by omega) _ 0 [] (by rfl) HOM.out ⟨b, o, none⟩ 12 c (pcl l) (by rfl) HP.out.1 HNW.out HP.out.2 (by omega) (by unfold maxLen; omega) (by omega) (by go_size) (w.heap.size + 1 + 1) (by simp) ?_; intro gg cap w6 hown6 hgrow hat hlt6; have HO6 := Bx.mk hown6; have hne : (Value.slice (some ⟨w.heap.size + 1, 0, none⟩) 0 0).ownBlock ≠ some w.heap.size := (fun e => by simp [Value.ownBlock] at e); have K6 : Bx (BoxAt w6 w.heap.size (.string ⟨#[]⟩) (.slice none 0 0) 59) := Bx.mk (by have h := hgrow.block w.heap.size (by go_size) (fun e => hne e.symm); have h2 := KW.out; unfold BoxAt at h2 ⊢; rw [h]; exact h2); have B6 : Bx (Below w.heap.size w w6) := Bx.mk (Below.grown HBW.out hgrow (by have := HSZ.out; omega) (fun k hk => by simp [Value.ownBlock] at hk; omega)); have gc := K6.out.c0; have gc1 := K6.out.c1; have gf := K6.out.f0 0; have gf1 := K6.out.f0 1; have L6 := K6.out.lt; have g0 := (B6.out.cell (p := ⟨g, 0, none⟩) hgl).trans h0; have g1 := (B6.out.cell (p := ⟨g, 1, none⟩) hgl).trans h1; clear hown6 hat hgrow hne))
  all_goals
    have HO7 : Bx (w6.ownsRow (w.heap.size + 1) 63 2 (.slice (some ⟨gg, 0, none⟩) 12 cap) l.length (pcl l)) := Bx.mk (by have := HO6.out; rw [HL.out]; simpa using this)
    clear HO6
    go_wp2_with (fail)
    have P1 := (K6.out.put0 (.string s)).put1 (.slice (some ⟨gg, 0, none⟩) 12 cap)
    refine bodyPost_ret (v := .agg #[.string s, .slice (some ⟨gg, 0, none⟩) 12 cap]) (by simp [results, Try.results89, go_sem, P1.c0, P1.c1]) rfl ?_
    exact ⟨_, _, rfl, own_down (Nat.le_succ _) (own_set (own_set HO7.out (Nat.lt_succ_self _) _ _) (Nat.lt_succ_self _) _ _), (B6.out.setCell (Nat.le_refl _) _).setCell (Nat.le_refl _) _⟩
end Go.Proofs.Ytjjiibmbaggjoaa
