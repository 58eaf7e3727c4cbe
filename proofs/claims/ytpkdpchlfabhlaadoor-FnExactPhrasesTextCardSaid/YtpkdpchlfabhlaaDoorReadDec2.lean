/- ReadDecimal, the program's side; Decimal. -/
import Derived.Test.YtpkdpchlfabhlaaDoorReadDec
import Derived.Test.YtpkdpchlfabhlaaDoorDec
import Derived.Test.YtpkdpchlfabhlaaDoorTabs
import Derived.Test.YtpkdpchlfabhlaaDoorShelf
import Derived.Lib.AppendIntMem
import Derived.Lib.AtoiErrMem
namespace Go.Proofs.YtpkdpchlfabhlaaDoor
open Go.ChangeShapes Go.WideShapes Go.ChangeAt Go.RowKit
set_option linter.unusedVariables false
set_option linter.unusedSimpArgs false
set_option maxRecDepth 100000

/-- what the walks want of the library's variables -/
structure Vars (w : World) : Prop where
  tab : Lib.TabIs Tryd.prog w "internal/strconv.uint64pow10" .u64 Lib.pow10Tab
  syn : ∃ u v, w.var? Tryd.prog "strconv.ErrSyntax" = some #[.iface u v]
  rng : ∃ u v, w.var? Tryd.prog "strconv.ErrRange" = some #[.iface u v]
theorem Vars.below {w w' : World} (h : Vars w) (hb : Below w.heap.size w w') : Vars w' :=
  ⟨tab_below hb h.tab, let ⟨u, v, e⟩ := h.syn; ⟨u, v, var_below hb e⟩, let ⟨u, v, e⟩ := h.rng; ⟨u, v, var_below hb e⟩⟩

theorem impl_dec (n : Int) (w : World) (h : Bx (-9223372036854775808 ≤ n ∧ n ≤ 9223372036854775807)) (htab : Bx (Lib.TabIs Tryd.prog w "internal/strconv.uint64pow10" .u64 Lib.pow10Tab)) :
    Calls Tryd.prog 29 #[.int .i64 n] w fun e w' => e = .returned (.string ⟨(Lib.itoa n).toArray⟩) ∧ Below w.heap.size w w' := by
  go_enter Tryd.func29, Tryd.ntmps29
  go_wp2_with ((go_at_call 36; refine (Tryd.strconv_FormatInt_10 _ h.out.1 h.out.2 _ htab.out).mono ?_; rintro e w' ⟨rfl, k, os, rfl⟩))
  go_ret
  exact ⟨rfl, Lib.below_grow _ _ (Nat.le_refl _) _ _⟩

theorem parse_range (l : List UInt8) (v : Int) (h : Lib.parseIntB 64 l = .ok v) : -9223372036854775808 ≤ v ∧ v ≤ 9223372036854775807 := by
  unfold Lib.parseIntB at h
  split at h
  · cases h
  · simp only at h
    split at h
    · cases h
    · cases h
    · split at h
      · cases h
      · split at h
        · cases h
        · rename_i h1 h2
          injection h with h
          subst h
          split <;> omega

theorem str_mk (s : ByteArray) : s = ⟨s.data.toList.toArray⟩ := by cases s; simp

theorem ok_below {w w' : World} {t : TypeId} (h : w' = w ∨ ∃ s, w' = Lib.bytesWorld w t s) : Below w.heap.size w w' := by
  rcases h with rfl | ⟨s, rfl⟩
  · exact Below.refl _ _
  · exact Lib.bytesWorld_below _ _ _
end Go.Proofs.YtpkdpchlfabhlaaDoor
