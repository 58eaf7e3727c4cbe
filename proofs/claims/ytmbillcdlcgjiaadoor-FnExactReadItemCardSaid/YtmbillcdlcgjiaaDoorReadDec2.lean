/- ReadDecimal, the program's side; Decimal. -/
import Derived.Test.YtmbillcdlcgjiaaDoorReadDec
import Derived.Test.YtmbillcdlcgjiaaDoorDec
import Derived.Test.YtmbillcdlcgjiaaDoorTabs
import Derived.Test.YtmbillcdlcgjiaaDoorShelf
import Derived.Lib.AppendIntMem
import Derived.Lib.AtoiErrMem
namespace Go.Proofs.YtmbillcdlcgjiaaDoor
open Go.ChangeShapes Go.WideShapes Go.ChangeAt Go.RowKit
set_option linter.unusedVariables false
set_option linter.unusedSimpArgs false
set_option maxRecDepth 100000

/-- what the walks want of the library's variables -/
structure Vars (w : World) : Prop where
  tab : Lib.TabIs Tryd.prog w "internal/strconv.uint64pow10" .u64 Lib.pow10Tab
  syn : ∃ u v, w.var? Tryd.prog "strconv.ErrSyntax" = some #[.iface u v]
  rng : ∃ u v, w.var? Tryd.prog "strconv.ErrRange" = some #[.iface u v]
theorem Vars.below {w w' : World} (h : Vars w) (hb : Below w.heap.size w w') : Vars w' :=
  ⟨tab_below hb h.tab, let ⟨u, v, e⟩ := h.syn; ⟨u, v, var_below hb e⟩, let ⟨u, v, e⟩ := h.rng; ⟨u, v, var_below hb e⟩⟩

theorem impl_dec (n : Int) (w : World) (h : Bx (-9223372036854775808 ≤ n ∧ n ≤ 9223372036854775807)) (htab : Bx (Lib.TabIs Tryd.prog w "internal/strconv.uint64pow10" .u64 Lib.pow10Tab)) :
    Calls Tryd.prog 27 #[.int .i64 n] w fun e w' => e = .returned (.string ⟨(Lib.itoa n).toArray⟩) ∧ Below w.heap.size w w' := by
  go_enter Tryd.func27, Tryd.ntmps27
  go_wp2_with ((go_at_call 40; refine (Tryd.strconv_FormatInt_10 _ h.out.1 h.out.2 _ htab.out).mono ?_; rintro e w' ⟨rfl, k, os, rfl⟩))
  go_ret
  exact ⟨rfl, Lib.below_grow _ _ (Nat.le_refl _) _ _⟩

theorem parse_range (l : List UInt8) (v : Int) (h : Lib.parseIntB 64 l = .ok v) : -9223372036854775808 ≤ v ∧ v ≤ 9223372036854775807 := by
  unfold Lib.parseIntB at h
  split at h
  · cases h
  · simp only at h
    split at h
    · cases h
    · cases h
    · split at h
      · cases h
      · split at h
        · cases h
        · rename_i h1 h2
          injection h with h
          subst h
          split <;> omega

theorem str_mk (s : ByteArray) : s = ⟨s.data.toList.toArray⟩ := by cases s; simp

theorem ok_below {w w' : World} {t : TypeId} (h : w' = w ∨ ∃ s, w' = Lib.bytesWorld w t s) : Below w.heap.size w w' := by
  rcases h with rfl | ⟨s, rfl⟩
  · exact Below.refl _ _
  · exact Lib.bytesWorld_below _ _ _
set_option maxHeartbeats 1000000 in
theorem impl_read (s : ByteArray) (w : World) (hs : s.size ≤ 1048576) (hv : Bx (Vars w)) :
    Calls Tryd.prog 34 #[.string s] w fun e w' => e = .returned (resN (numZ s.data.toList)) ∧ Below w.heap.size w w' := by
  have HR := Bx.mk (read_num s.data.toList)
  by_cases ht : 18 < (Lib.trimPrefix s.data.toList [45]).length
  · have HN : Bx (numZ s.data.toList = none) := Bx.mk (by rw [← HR.out]; unfold readZ; rw [if_pos ht])
    have hti : (18 : Int) < ((Lib.trimPrefix s.data.toList [45]).length : Int) := by omega
    clear HR
    go_enter Tryd.func34, Tryd.ntmps34
    go_wp2_with ((go_at_call 50; refine (Tryd.strings_TrimPrefix _ _ _).mono ?_; rintro e w' ⟨rfl, rfl⟩))
    go_ret2
    exact ⟨ret_none HN.out, Below.refl _ _⟩
  · have htl : Bx ((Lib.trimPrefix s.data.toList [45]).length ≤ 18) := Bx.mk (by omega)
    have hti : ((Lib.trimPrefix s.data.toList [45]).length : Int) ≤ 18 := by omega
    clear ht
    cases hp : Lib.parseIntB 64 s.data.toList with
    | «syntax» =>
      have HN : Bx (numZ s.data.toList = none) := Bx.mk (by rw [← HR.out]; unfold readZ; rw [if_neg (by have := htl.out; omega), hp])
      have HP := Bx.mk hp
      obtain ⟨tp, pv, hvar⟩ := hv.out.syn
      have HV := Bx.mk hvar
      clear hp hvar HR
      go_enter Tryd.func34, Tryd.ntmps34
      go_wp2_with (first | (go_at_call 50; refine (Tryd.strings_TrimPrefix _ _ _).mono ?_; rintro e w' ⟨rfl, rfl⟩) | (go_at_call 51; refine (Tryd.strconv_ParseInt_10_at64_syntax_var _ (by omega) HP.out tp pv _ HV.out).mono ?_; rintro e w2 ⟨N, rfl, hN1, hN2, hB⟩; have HB := Bx.mk hB; clear hN1 hN2 hB))
      go_ret2
      exact ⟨ret_none HN.out, HB.out⟩
    | range =>
      have HN : Bx (numZ s.data.toList = none) := Bx.mk (by rw [← HR.out]; unfold readZ; rw [if_neg (by have := htl.out; omega), hp])
      have HP := Bx.mk hp
      obtain ⟨tp, pv, hvar⟩ := hv.out.rng
      have HV := Bx.mk hvar
      clear hp hvar HR
      go_enter Tryd.func34, Tryd.ntmps34
      go_wp2_with (first | (go_at_call 50; refine (Tryd.strings_TrimPrefix _ _ _).mono ?_; rintro e w' ⟨rfl, rfl⟩) | (go_at_call 51; refine (Tryd.strconv_ParseInt_10_at64_range_var _ (by omega) HP.out tp pv _ HV.out).mono ?_; rintro e w2 ⟨N, rfl, hN1, hN2, hB⟩; have HB := Bx.mk hB; clear hN1 hN2 hB))
      go_ret2
      exact ⟨ret_none HN.out, HB.out⟩
    | ok v =>
      have HP := Bx.mk hp
      have HRG := Bx.mk (parse_range _ _ hp)
      have hmax : s.size ≤ 9223372036854775806 := by omega
      by_cases he : Lib.itoa v = s.data.toList
      · have HN : Bx (numZ s.data.toList = some v) := Bx.mk (by rw [← HR.out]; unfold readZ; rw [if_neg (by have := htl.out; omega), hp]; simp [he])
        have HE : Bx ((⟨(Lib.itoa v).toArray⟩ : ByteArray) = s) := Bx.mk (by rw [he])
        have hte : (Lib.itoa v == s.toList) = true := by rw [ByteArray.toList_eq]; simpa using he
        clear hp HR he
        go_enter Tryd.func34, Tryd.ntmps34
        go_wp2_with (first | (go_at_call 50; refine (Tryd.strings_TrimPrefix _ _ _).mono ?_; rintro e w' ⟨rfl, rfl⟩) | (go_at_call 51; refine (Tryd.strconv_ParseInt_10_at64_ok _ hmax v HP.out _).mono ?_; rintro e w2 ⟨rfl, hB⟩; have HB := Bx.mk (ok_below hB); clear hB) | (go_at_call 27; refine (impl_dec _ _ HRG (Bx.mk (tab_below HB.out hv.out.tab))).mono ?_; rintro e w3 ⟨rfl, hB3⟩; have HB3 := Bx.mk hB3; clear hB3))
        go_ret2
        exact ⟨ret_some HN.out, HB.out.trans (HB3.out.mono HB.out.size)⟩
      · have HN : Bx (numZ s.data.toList = none) := Bx.mk (by rw [← HR.out]; unfold readZ; rw [if_neg (by have := htl.out; omega), hp]; simp [he])
        have HE : Bx ((⟨(Lib.itoa v).toArray⟩ : ByteArray) ≠ s) := Bx.mk (by intro e; apply he; rw [← e])
        have hte : (Lib.itoa v == s.toList) = false := by rw [ByteArray.toList_eq]; simpa using he
        clear hp HR he
        go_enter Tryd.func34, Tryd.ntmps34
        go_wp2_with (first | (go_at_call 50; refine (Tryd.strings_TrimPrefix _ _ _).mono ?_; rintro e w' ⟨rfl, rfl⟩) | (go_at_call 51; refine (Tryd.strconv_ParseInt_10_at64_ok _ hmax v HP.out _).mono ?_; rintro e w2 ⟨rfl, hB⟩; have HB := Bx.mk (ok_below hB); clear hB) | (go_at_call 27; refine (impl_dec _ _ HRG (Bx.mk (tab_below HB.out hv.out.tab))).mono ?_; rintro e w3 ⟨rfl, hB3⟩; have HB3 := Bx.mk hB3; clear hB3))
        go_ret2
        exact ⟨ret_none HN.out, HB.out.trans (HB3.out.mono HB.out.size)⟩
theorem impl_read_t (s : ByteArray) (w : World) (hs : s.size ≤ 1048576) (hv : Bx (Vars w)) :
    Calls Tryd.prog 34 #[.string s] w fun e w' => e = .returned (.tuple #[.int .i64 ((numZ s.data.toList).getD 0), .bool (numZ s.data.toList).isSome]) ∧ Below w.heap.size w w' := impl_read s w hs hv
end Go.Proofs.YtmbillcdlcgjiaaDoor
