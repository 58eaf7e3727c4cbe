/- The laws' own copies of items. -/
import Derived.Test.YtmbillcdlcgjiaaHb
import Derived.Test.YtmbillcdlcgjiaaRg3
import Derived.Handy
namespace Go.Proofs.Ytmbillcdlcgjiaa
open Go.ChangeShapes Go.WideShapes Go.ChangeAt Go.RowKit
set_option linter.unusedVariables false
set_option linter.unusedSimpArgs false
set_option maxRecDepth 100000

theorem law_toitem (x : It) (w : World) :
    Calls Try.prog 32 #[itV x] w fun e w' => e = .returned (itV x) ∧ Below w.heap.size w w' := by
  unfold itV
  go_enter Try.func32, Try.ntmps32
  go_wp2
  refine bodyPost_ret (v := .agg #[.string x.nm, .int .i64 x.f, .int .i64 x.u, .int .i64 x.s, .int .i64 x.m, .int .i64 x.p]) (by simp [results, Try.results32, go_sem]) rfl ⟨rfl, ?_⟩
  repeat' (first | (with_reducible exact Below.refl _ _) | (with_reducible assumption) | (with_reducible refine Below.drew ?_) | (with_reducible refine Below.alloc ?_ ?_ _) | (with_reducible refine below_draws ?_ _) | (with_reducible refine Below.setCell ?_ ?_ _) | go_size)
theorem infoItL : (Try.prog.info? 48).map (fun i => (i.zero, i.size, i.bytes)) = some (some (.agg #[.string ⟨#[]⟩, .int .i64 0, .int .i64 0, .int .i64 0, .int .i64 0, .int .i64 0]), 6, 56) := by kernel_rfl
theorem made_six (n : Nat) : (madeCells #[.string ⟨#[]⟩, .int .i64 0, .int .i64 0, .int .i64 0, .int .i64 0, .int .i64 0] (n * 6)).toList = icl (List.replicate n it0) := by
  have key : ∀ j, j < n * 6 → (madeCells #[.string ⟨#[]⟩, .int .i64 0, .int .i64 0, .int .i64 0, .int .i64 0, .int .i64 0] (n * 6)).toList[j]? = (icl (List.replicate n it0))[j]? := by
    intro j hj
    obtain ⟨q, r, rfl, hr⟩ : ∃ q r, j = q * 6 + r ∧ r < 6 := ⟨j / 6, j % 6, by omega, by omega⟩
    have hlt : q < (List.replicate n it0).length := by simp; omega
    obtain ⟨a0, a1, a2, a3, a4, a5⟩ := icl_at (List.replicate n it0) q hlt
    have hi : iat (List.replicate n it0) q = it0 := by rw [iat_get hlt]; simp
    rw [hi] at a0 a1 a2 a3 a4 a5
    have hr6 : r = 0 ∨ r = 1 ∨ r = 2 ∨ r = 3 ∨ r = 4 ∨ r = 5 := by omega
    rcases hr6 with rfl | rfl | rfl | rfl | rfl | rfl
    · rw [Nat.add_zero, a0]
      have e : (q * 6) % 6 = 0 := by omega
      rw [Nat.add_zero] at hj
      simp [madeCells, hj, e, it0]
    · rw [a1]
      have e : (q * 6 + 1) % 6 = 1 := by omega
      simp [madeCells, hj, e, it0]
    · rw [a2]
      have e : (q * 6 + 2) % 6 = 2 := by omega
      simp [madeCells, hj, e, it0]
    · rw [a3]
      have e : (q * 6 + 3) % 6 = 3 := by omega
      simp [madeCells, hj, e, it0]
    · rw [a4]
      have e : (q * 6 + 4) % 6 = 4 := by omega
      simp [madeCells, hj, e, it0]
    · rw [a5]
      have e : (q * 6 + 5) % 6 = 5 := by omega
      simp [madeCells, hj, e, it0]
  apply List.ext_getElem?
  intro j
  by_cases hj : j < n * 6
  · exact key j hj
  · rw [List.getElem?_eq_none (by rw [Array.length_toList, size_madeCells]; omega), List.getElem?_eq_none (by rw [icl_len]; simp; omega)]
theorem zero_irow (w : World) (n : Nat) (hn : n ≤ 1048576) : (Instr.makeSlice 54 (.int .i64 (n : Int)) (.int .i64 (n : Int))).run Try.prog w = .ok (.slice (some ⟨w.heap.size, 0, none⟩) n n) (w.alloc (.cells (madeCells #[.string ⟨#[]⟩, .int .i64 0, .int .i64 0, .int .i64 0, .int .i64 0, .int .i64 0] (n * 6)) 48)) := by
  obtain ⟨i0, hi, hz0, hz1, hz2⟩ := info_parts infoItL
  have := run_make (P := Try.prog) w 54 48 i0 (.agg #[.string ⟨#[]⟩, .int .i64 0, .int .i64 0, .int .i64 0, .int .i64 0, .int .i64 0]) Try.underlying54 hi hz0 .i64 .i64 (n : Int) (n : Int) (by omega) (by omega) (by rw [hz2]; omega) (by omega)
  rw [this, hz1]
  simp [Value.cells]
def ifil (l : List It) (i : Nat) : List It := l.take i ++ List.replicate (l.length - i) it0
theorem ifil_len (l : List It) (i : Nat) (h : i ≤ l.length) : (ifil l i).length = l.length := by simp [ifil]; omega
theorem ifil_zero (l : List It) : ifil l 0 = List.replicate l.length it0 := by simp [ifil]
theorem ifil_all (l : List It) : ifil l l.length = l := by simp [ifil]
theorem ifil_step (l : List It) (i : Nat) (h : i < l.length) : (ifil l i).set i (iat l i) = ifil l (i + 1) := by
  unfold ifil
  rw [show l.length - i = (l.length - (i + 1)) + 1 by omega, List.replicate_succ, List.set_append_right _ _ (by rw [List.length_take]; omega), show i - (l.take i).length = 0 by rw [List.length_take]; omega, List.set_cons_zero, iat_get h, List.take_succ_eq_append_getElem h, List.append_assoc]
  rfl
/-- an item stored into a row of one's own -/
theorem own_item {w : World} {base g : Nat} {l : List It} {c n : Nat} (hn : n = l.length) (h : w.ownsRow base 48 6 (.slice (some ⟨g, 0, none⟩) n c) n (icl l)) (k : Nat) (hk : k < l.length) (x : It) :
    ((((((w.setCell ⟨g, k * 6, none⟩ (.string x.nm)).setCell ⟨g, k * 6 + 1, none⟩ (.int .i64 x.f)).setCell ⟨g, k * 6 + 2, none⟩ (.int .i64 x.u)).setCell ⟨g, k * 6 + 3, none⟩ (.int .i64 x.s)).setCell ⟨g, k * 6 + 4, none⟩ (.int .i64 x.m)).setCell ⟨g, k * 6 + 5, none⟩ (.int .i64 x.p)).ownsRow base 48 6 (.slice (some ⟨g, 0, none⟩) n c) n (icl (l.set k x)) := by
  have s0 := h.stored (k * 6) (.string x.nm)
  have s1 := s0.1.stored (k * 6 + 1) (.int .i64 x.f)
  have s2 := s1.1.stored (k * 6 + 2) (.int .i64 x.u)
  have s3 := s2.1.stored (k * 6 + 3) (.int .i64 x.s)
  have s4 := s3.1.stored (k * 6 + 4) (.int .i64 x.m)
  have s5 := s4.1.stored (k * 6 + 5) (.int .i64 x.p)
  rw [icl_set _ _ _ hk] at s5
  exact s5.1
set_option maxHeartbeats 2000000 in
theorem copy_its (v : Value) (l : List It) (w : World) (h : ItsAt w v l) (hn : l.length ≤ 1048576) :
    Calls Try.prog 36 #[v] w fun e w' => ∃ u, e = .returned u ∧ w'.ownsRow w.heap.size 48 6 u l.length (icl l) ∧ Below w.heap.size w w' := by
  rcases h with ⟨rfl, A, c, rfl⟩ | ⟨b, o, c, rfl, hb, h1⟩
  · have hm0 : ∀ W : World, (Instr.makeSlice 54 (.int .i64 0) (.int .i64 0)).run Try.prog W = .ok (.slice (some ⟨W.heap.size, 0, none⟩) 0 0) (W.alloc (.cells #[] 48)) := fun _ => by kernel_rfl
    have hmw := hm0 w
    clear hm0
    go_enter Try.func36, Try.ntmps36
    go_wp2
    refine wp_loop_rounds 1 ?_
    rw [rounds_succ]
    go_wp2
    go_ret
    exact ⟨_, rfl, World.ownsRow_lit _ _ _ (Nat.le_refl _) (by decide) (by decide), (Below.refl _ _).alloc (Nat.le_refl _) _⟩
  · have hmk0 := zero_irow w l.length (by omega)
    have H1 := Bx.mk h1
    clear h1
    go_enter Try.func36, Try.ntmps36
    go_wp2
    go_loopw [4] (fun i wr => ∃ j : Nat, j ≤ l.length ∧ i = .int .i64 j ∧ Bx (wr.ownsRow w.heap.size 48 6 (.slice (some ⟨w.heap.size, 0, none⟩) l.length l.length) l.length (icl (ifil l j)) ∧ Below w.heap.size w wr)) (fun i _ => l.length - (intOf i).toNat)
    case atStart =>
      refine ⟨0, Nat.zero_le _, rfl, Bx.mk ⟨?_, (Below.refl _ _).alloc (Nat.le_refl _) _⟩⟩
      have := World.ownsRow_lit (base := w.heap.size) (e := 48) (size := 6) w (madeCells #[.string ⟨#[]⟩, .int .i64 0, .int .i64 0, .int .i64 0, .int .i64 0, .int .i64 0] (l.length * 6)) l.length (Nat.le_refl _) (by unfold maxLen; omega) (by rw [size_madeCells])
      rw [made_six, ← ifil_zero] at this
      exact this
    case round =>
      obtain ⟨j, hj, rfl, HB⟩ := hrel
      by_cases hlt : j < l.length
      · have hml := ifil_len l j hj
        obtain ⟨h1, h2, h3, h4, h5, h6⟩ := (H1.out j hlt).below hb HB.out.2
        have HP := Bx.mk (ifil_step l j hlt)
        generalize iat l j = x at h1 h2 h3 h4 h5 h6 HP
        have hq := fun W => law_toitem x W
        unfold itV at hq
        go_wp2_with (fail)
        refine (hq _).mono ?_
        rintro r w1 ⟨rfl, hb1⟩
        have HO : Bx (w1.ownsRow w.heap.size 48 6 (.slice (some ⟨w.heap.size, 0, none⟩) l.length l.length) l.length (icl (ifil l j)) ∧ Below w.heap.size w w1) := Bx.mk ⟨own_below HB.out.1 hb1, HB.out.2.trans (hb1.mono HB.out.2.size)⟩
        clear HB hb1 h1 h2 h3 h4 h5 h6
        obtain ⟨y0, y1, y2, y3, y4, y5⟩ := icl_at (ifil l j) j (by omega)
        have hc0 := (HO.out.1.cellAt (j * 6) (by omega)).trans y0
        have hc1 := (HO.out.1.cellAt (j * 6 + 1) (by omega)).trans y1
        have hc2 := (HO.out.1.cellAt (j * 6 + 2) (by omega)).trans y2
        have hc3 := (HO.out.1.cellAt (j * 6 + 3) (by omega)).trans y3
        have hc4 := (HO.out.1.cellAt (j * 6 + 4) (by omega)).trans y4
        have hc5 := (HO.out.1.cellAt (j * 6 + 5) (by omega)).trans y5
        have hf0 := HO.out.1.frozenAt (j * 6)
        have hf1 := HO.out.1.frozenAt (j * 6 + 1)
        have hf2 := HO.out.1.frozenAt (j * 6 + 2)
        have hf3 := HO.out.1.frozenAt (j * 6 + 3)
        have hf4 := HO.out.1.frozenAt (j * 6 + 4)
        have hf5 := HO.out.1.frozenAt (j * 6 + 5)
        have HS : Bx (((((((w1.setCell ⟨w.heap.size, j * 6, none⟩ (.string x.nm)).setCell ⟨w.heap.size, j * 6 + 1, none⟩ (.int .i64 x.f)).setCell ⟨w.heap.size, j * 6 + 2, none⟩ (.int .i64 x.u)).setCell ⟨w.heap.size, j * 6 + 3, none⟩ (.int .i64 x.s)).setCell ⟨w.heap.size, j * 6 + 4, none⟩ (.int .i64 x.m)).setCell ⟨w.heap.size, j * 6 + 5, none⟩ (.int .i64 x.p)).ownsRow w.heap.size 48 6 (.slice (some ⟨w.heap.size, 0, none⟩) l.length l.length) l.length (icl (ifil l (j + 1))) ∧ Below w.heap.size w ((((((w1.setCell ⟨w.heap.size, j * 6, none⟩ (.string x.nm)).setCell ⟨w.heap.size, j * 6 + 1, none⟩ (.int .i64 x.f)).setCell ⟨w.heap.size, j * 6 + 2, none⟩ (.int .i64 x.u)).setCell ⟨w.heap.size, j * 6 + 3, none⟩ (.int .i64 x.s)).setCell ⟨w.heap.size, j * 6 + 4, none⟩ (.int .i64 x.m)).setCell ⟨w.heap.size, j * 6 + 5, none⟩ (.int .i64 x.p))) := Bx.mk (by
          have hs := own_item hml.symm HO.out.1 j (by omega) x
          rw [HP.out] at hs
          exact ⟨hs, (((((HO.out.2.setCell (Nat.le_refl _) _).setCell (Nat.le_refl _) _).setCell (Nat.le_refl _) _).setCell (Nat.le_refl _) _).setCell (Nat.le_refl _) _).setCell (Nat.le_refl _) _⟩)
        generalize (iat (ifil l j) j) = u at hc0 hc1 hc2 hc3 hc4 hc5
        clear HO hml HP hq y0 y1 y2 y3 y4 y5
        go_wp2_with (fail)
        go_roundw
        case rel => exact ⟨j + 1, by omega, by go_num, HS⟩
        case measure => simp [intOf]; omega
      · obtain rfl : j = l.length := by omega
        have HE := HB.out
        rw [ifil_all] at HE
        have HE := Bx.mk HE
        clear HB
        go_wp2
        go_ret
        exact ⟨_, rfl, HE.out.1, HE.out.2⟩
theorem arg_itsA {H : Type} {enc : TypeId × Value → H} {W : World} {b0 : Nat} {v : Value} {d : DataW H} {p : List MemPlace} (hval : Value.okWide Try.prog W .any b0 51 v)
    (h : DataW.Trod enc Try.prog W 0 (fun _ => true) true 51 v d p) : ∃ l : List It, ItsAt W v l ∧ l.length ≤ 9223372036854775807 ∧ ∀ k, k < l.length → WfI (iat l k) := by
  obtain ⟨a0, len, cap, rfl⟩ := okWide_slice Try.underlying51 hval
  obtain ⟨fuel, hf⟩ := h
  exact arg_its (by simpa [Value.cells] using hf)
end Go.Proofs.Ytmbillcdlcgjiaa
