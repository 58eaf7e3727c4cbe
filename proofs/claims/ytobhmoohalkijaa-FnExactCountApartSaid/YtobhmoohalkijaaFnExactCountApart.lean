/- 'laws.FnExactCountApart' returns true at every input: CountApart on both sides is one function. -/
import Derived.Test.YtobhmoohalkijaaPi
import Derived.Test.YtobhmoohalkijaaPo2
import Derived.Test.YtobhmoohalkijaaAr
import Derived.WalkMore
import Derived.Test.YtobhmoohalkijaaPl
namespace Go.Proofs.Ytobhmoohalkijaa
open Go.ChangeShapes Go.WideShapes Go.ChangeAt Go.RowKit
set_option linter.unusedVariables false
set_option linter.unusedSimpArgs false
set_option maxRecDepth 100000

theorem ints_set (T : List Int) (k : Nat) (v : Int) : (ints T).set k (.int .i64 v) = ints (T.set k v) := by simp [ints, List.map_set]
/-- the first k borders stand in a table -/
def BrdT (p T : List Int) (k : Nat) : Prop := ∀ i, i < k → ∃ x : Nat, T.getD i 0 = (x : Int) ∧ Brd p (i + 1) x
theorem BrdT.step {p T : List Int} {k b : Nat} (h : BrdT p T k) (h8 : T.length = 8) (hk : k < 8) (hb : Brd p (k + 1) b) : Bx (BrdT p (T.set k (b : Int)) (k + 1)) := Bx.mk (fun i hi => by
  by_cases hik : i = k
  · subst hik
    exact ⟨b, by simp [List.getD, h8, hk], hb⟩
  · obtain ⟨x, h1, h2⟩ := h i (by omega)
    exact ⟨x, by rw [← h1]; simp only [List.getD]; rw [List.getElem?_set_ne (fun e => hik e.symm)], h2⟩)
theorem info_brd (T : List Int) (h : T.length = 8) : (Try.prog.info? 68).map (·.size) = some (ints T).toArray.size := by
  have h0 : (Try.prog.info? 68).map (·.size) = some 8 := by kernel_rfl
  rw [h0]; simp [ints, h]
theorem ints_one (T : List Int) : (ints T).toArray.all (·.oneCell') = true := by simp [ints, Value.oneCell']
theorem ints_zero8 : ints (List.replicate 8 0) = [.int .i64 0, .int .i64 0, .int .i64 0, .int .i64 0, .int .i64 0, .int .i64 0, .int .i64 0, .int .i64 0] := rfl
set_option maxHeartbeats 8000000 in
theorem impl_borders (v : Value) (p : List Int) (w : World) (h : IntsAt w v p) (h1 : 1 ≤ p.length) (h8 : p.length ≤ 8) :
    Calls Try.prog 57 #[v] w fun e w' => ∃ T : List Int, e = .returned (.agg (ints T).toArray) ∧ T.length = 8 ∧ BrdT p T p.length ∧ Below w.heap.size w w' := by
  obtain ⟨A, c, rfl⟩ := ints_form h
  have HI := Bx.mk h
  clear h
  go_enter Try.func57, Try.ntmps57
  go_wp2_with (fail)
  go_loopw [4, 5] (fun bv i wr => ∃ (k b : Nat) (T : List Int), (1 ≤ k ∧ k ≤ p.length) ∧ i = .int .i64 k ∧ bv = .int .i64 b ∧ Bx (Brd p k b) ∧ Bx (BrdT p T k) ∧ Bx (T.length = 8) ∧ Bx (ArrAt wr (w.heap.size + 1) (ints T) 68) ∧ Bx (ArrAt wr w.heap.size (ints (List.replicate 8 0)) 68) ∧ Bx (Below w.heap.size w wr)) (fun _ i _ => p.length - (intOf i).toNat)
  case atStart =>
    refine ⟨1, 0, List.replicate 8 0, by omega, by first | rfl | go_num, by first | rfl | go_num, Bx.mk (Brd.one p), Bx.mk (fun i hi => ⟨0, ?_, ?_⟩), Bx.mk rfl, Bx.mk ?_, Bx.mk ?_, Bx.mk (((Below.refl _ _).alloc (Nat.le_refl _) _).alloc (by simp) _)⟩
    · obtain rfl : i = 0 := by omega
      rfl
    · obtain rfl : i = 0 := by omega
      exact Brd.one p
    · exact ArrAt.at _ _ _ _ (by simp)
    · exact (ArrAt.at _ _ _ _ (by simp)).alloc _
  case round =>
    obtain ⟨k, b, T, ⟨hk1, hk⟩, rfl, rfl, HBr, HT, HT8, HA, HR, HB⟩ := hrel
    by_cases hlt : k < p.length
    · obtain ⟨bb, o, cc, hv, lb, hc⟩ := HI.out.form (by omega)
      injection hv with hA _ hC
      subst hA hC
      have hT8 := HT8.out
      have hk8 : k < 8 := by omega
      have d1 : decide ((k : Int) < (p.length : Int)) = true := decide_eq_true (by omega)
      have k1 : (0 : Int) ≤ (k : Int) := by omega
      have k2 : (k : Int) < (p.length : Int) := by omega
      have k3 : (k : Int) < 8 := by omega
      have HC0 := Bx.mk hc
      clear hc
      go_wp2_with (fail)
      go_loopw [4] (fun bv wr => ∃ b : Nat, bv = .int .i64 b ∧ Bx (Cnd p p k k b) ∧ Bx (ArrAt wr (w.heap.size + 1) (ints T) 68) ∧ Bx (ArrAt wr w.heap.size (ints (List.replicate 8 0)) 68) ∧ Bx (Below w.heap.size w wr)) (fun bv _ => (intOf bv).toNat)
      case atStart => exact ⟨b, rfl, Bx.mk HBr.out.cnd, HA, HR, HB⟩
      case round =>
        clear HBr
        clear HA HR HB
        obtain ⟨b, rfl, HC, HA, HR, HB⟩ := hrel
        have hbk := HC.out.lt
        have x1 : wr.cell? ⟨bb, o + b, none⟩ = some (.int .i64 (p.getD b 0)) := (HB.out.cell (p := ⟨bb, o + b, none⟩) lb).trans (HC0.out b (by omega))
        have x2 : wr.cell? ⟨bb, o + k, none⟩ = some (.int .i64 (p.getD k 0)) := (HB.out.cell (p := ⟨bb, o + k, none⟩) lb).trans (HC0.out k hlt)
        have HXY : Bx (p.getD b 0 = p.getD b 0) := Bx.mk rfl
        have b1 : (0 : Int) ≤ (b : Int) := by omega
        have b2 : (b : Int) < (p.length : Int) := by omega
        have a0 : wr.cell? ⟨w.heap.size + 1, k, none⟩ = some (.int .i64 (T.getD k 0)) := by rw [HA.out.cell, ints_at T k (by omega)]
        have af := HA.out.f0 k
        have al := HA.out.lt
        have HXE : Bx (p.getD b 0 = p.getD k 0 → p.getD b 0 = p.getD k 0) := Bx.mk id
        clear HXY
        by_cases hxe : p.getD b 0 = p.getD k 0
        · have HXY : Bx (p.getD b 0 = p.getD k 0) := Bx.mk hxe
          have hxy := hxe
          clear hxe HXE HC0 HI lb
          generalize hx : p.getD b 0 = x at x1 hxy
          generalize hy : p.getD k 0 = y at x2 hxy
          clear hx hy
          generalize T.getD k 0 = tk at a0
          by_cases hb0 : 0 < b
          · have d0 : decide ((b : Int) > 0) = true := decide_eq_true (by omega)
            have d3 : (x != y) = false := by simp [hxy]
            have d4 : (x == y) = true := by simp [hxy]
            have HN : Bx (Brd p (k + 1) (b + 1)) := Bx.mk (HC.out.brd HXY.out)
            have y5 : IntKind.i64.wrap ((b : Int) + 1) = ((b + 1 : Nat) : Int) := by rw [IntWalk.i64_in _ (by omega)]; omega
            clear hxy HXY HC
            go_wp2_with (fail)
            go_quiet (fail)
            go_wp2_with (fail)
            go_quiet (fail)
            go_wp2_with (fail)
            go_roundw
            case rel => exact ⟨k + 1, b + 1, T.set k ((b + 1 : Nat) : Int), by omega, by go_num, by first | rfl | go_num, HN, HT.out.step hT8 hk8 HN.out, Bx.mk (by rw [List.length_set]; exact hT8), Bx.mk (by rw [← ints_set]; exact ArrAt.put (by first | exact HA.out | exact HA.out.draws _ | exact (HA.out.draws _).draws _) _ _), Bx.mk (ArrAt.other (by omega) (by first | exact HR.out | exact HR.out.draws _ | exact (HR.out.draws _).draws _) _), Bx.mk (Below.setCell (by first | exact HB.out | exact below_draws HB.out _ | exact below_draws (below_draws HB.out _) _) (by dsimp only; omega) _)⟩
            case measure => simp [intOf]; omega
          · have d0 : decide ((b : Int) > 0) = false := decide_eq_false (by omega)
            have d3 : (x != y) = false := by simp [hxy]
            have d4 : (x == y) = true := by simp [hxy]
            have HN : Bx (Brd p (k + 1) (b + 1)) := Bx.mk (HC.out.brd HXY.out)
            have y5 : IntKind.i64.wrap ((b : Int) + 1) = ((b + 1 : Nat) : Int) := by rw [IntWalk.i64_in _ (by omega)]; omega
            clear hxy HXY HC
            go_wp2_with (fail)
            go_quiet (fail)
            go_wp2_with (fail)
            go_quiet (fail)
            go_wp2_with (fail)
            go_roundw
            case rel => exact ⟨k + 1, b + 1, T.set k ((b + 1 : Nat) : Int), by omega, by go_num, by first | rfl | go_num, HN, HT.out.step hT8 hk8 HN.out, Bx.mk (by rw [List.length_set]; exact hT8), Bx.mk (by rw [← ints_set]; exact ArrAt.put (by first | exact HA.out | exact HA.out.draws _ | exact (HA.out.draws _).draws _) _ _), Bx.mk (ArrAt.other (by omega) (by first | exact HR.out | exact HR.out.draws _ | exact (HR.out.draws _).draws _) _), Bx.mk (Below.setCell (by first | exact HB.out | exact below_draws HB.out _ | exact below_draws (below_draws HB.out _) _) (by dsimp only; omega) _)⟩
            case measure => simp [intOf]; omega
        · have HXY : Bx (p.getD b 0 ≠ p.getD k 0) := Bx.mk hxe
          have HXE : Bx (p.getD b 0 = p.getD k 0 → p.getD b 0 = p.getD k 0) := Bx.mk id
          by_cases hb0 : 0 < b
          · obtain ⟨x', e1, e2⟩ := HT.out (b - 1) (by omega)
            rw [show b - 1 + 1 = b by omega] at e2
            have HN := Bx.mk (HC.out.down e2 hxe)
            have hxb := e2.lt
            have a1 : wr.cell? ⟨w.heap.size + 1, b - 1, none⟩ = some (.int .i64 (x' : Int)) := by rw [HA.out.cell, ints_at T (b - 1) (by omega), e1]
            have hxy := hxe
            clear hxe HXE HC0 HI lb HC e1 e2 a0
            generalize hx : p.getD b 0 = x at x1 hxy
            generalize hy : p.getD k 0 = y at x2 hxy
            clear hx hy HXY
            have d0 : decide ((b : Int) > 0) = true := decide_eq_true (by omega)
            have d3 : (x != y) = true := by simpa using hxy
            have y5 : IntKind.i64.wrap ((b : Int) - 1) = ((b - 1 : Nat) : Int) := by rw [IntWalk.i64_in _ (by omega)]; omega
            have y6 : (0 : Int) ≤ ((b - 1 : Nat) : Int) := by omega
            have y7 : ((b - 1 : Nat) : Int) < 8 := by omega
            have y8 : ((b - 1 : Nat) : Int).toNat = b - 1 := by omega
            clear hxy
            go_wp2_with (fail)
            go_quiet (fail)
            go_wp2_with (fail)
            go_roundw
            case rel => exact ⟨x', by first | rfl | go_num, HN, Bx.mk (by first | exact HA.out | exact HA.out.draws _), Bx.mk (by first | exact HR.out | exact HR.out.draws _), Bx.mk (by first | exact HB.out | exact below_draws HB.out _)⟩
            case measure => simp [intOf]; omega
          · have hxy := hxe
            clear hxe HC0 HI lb
            generalize hx : p.getD b 0 = x at x1 hxy
            generalize hy : p.getD k 0 = y at x2 hxy
            have HXE : Bx (p.getD b 0 = p.getD k 0 → x = y) := Bx.mk (fun e => by rw [hx, hy] at e; exact e)
            clear hx hy
            generalize T.getD k 0 = tk at a0
            have d0 : decide ((b : Int) > 0) = false := decide_eq_false (by omega)
            have d4 : (x == y) = false := by simpa using hxy
            have HN : Bx (Brd p (k + 1) b) := Bx.mk (by
              have hb0 : b = 0 := by omega
              have h := HC.out
              have hne : p.getD b 0 ≠ p.getD k 0 := fun e => hxy (HXE.out e)
              rw [hb0] at h hne ⊢
              exact h.brd0 hne)
            clear hxy HXY HXE HC
            go_wp2_with (fail)
            go_quiet (fail)
            go_wp2_with (fail)
            go_quiet (fail)
            go_wp2_with (fail)
            go_roundw
            case rel => exact ⟨k + 1, b, T.set k (b : Int), by omega, by go_num, by first | rfl | go_num, HN, HT.out.step hT8 hk8 HN.out, Bx.mk (by rw [List.length_set]; exact hT8), Bx.mk (by rw [← ints_set]; exact ArrAt.put (by first | exact HA.out | exact HA.out.draws _ | exact (HA.out.draws _).draws _) _ _), Bx.mk (ArrAt.other (by omega) (by first | exact HR.out | exact HR.out.draws _ | exact (HR.out.draws _).draws _) _), Bx.mk (Below.setCell (by first | exact HB.out | exact below_draws HB.out _ | exact below_draws (below_draws HB.out _) _) (by dsimp only; omega) _)⟩
            case measure => simp [intOf]; omega
    · obtain rfl : k = p.length := by omega
      have d1 : decide ((p.length : Int) < (p.length : Int)) = false := decide_eq_false (by omega)
      have hT8 := HT8.out
      have hld := HA.out.load 8 3 Try.underlying68 (info_brd T hT8)
      have hst := HR.out.store (ints T).toArray (info_brd T hT8) (by simp [ints, hT8]) (ints_one T)
      have P := setRow_at HR.out (ints T).toArray
      have hB := setRow_below HB.out (Nat.le_refl _) (ints T).toArray
      have HLL := Bx.mk (info_brd T hT8)
      have HTT := Bx.mk HT.out
      clear HA HR HB HT HBr HI
      generalize hL : ints T = L at *
      have HLE := Bx.mk hL
      clear hL
      go_upto_region 11 with (fail)
      refine wp_region_lit ?_
      refine wpR_lod rfl 68 _ rfl (.pointer (some ⟨w.heap.size + 1, 0, none⟩)) _ rfl hld ?_
      refine wpR_sto rfl 68 _ _ rfl (.pointer (some ⟨w.heap.size, 0, none⟩)) _ rfl rfl hst ?_
      refine wpList_nil ?_
      generalize wr.setRow w.heap.size L.toArray = W2 at *
      have hP : ArrAt W2 w.heap.size L 68 := by simpa using P
      clear hld hst P
      go_wp2_with (fail)
      refine bodyPost_ret (v := .agg L.toArray) ?_ rfl ⟨T, by rw [HLE.out], hT8, HTT.out, hB⟩
      exact results_cell_row Try.results57 _ W2 w.heap.size _ L.toArray (0, 0) _ (by simp [go_sem, Act.put]) hP Try.underlying68 rfl HLL.out
end Go.Proofs.Ytobhmoohalkijaa

namespace Go.Proofs.Ytobhmoohalkijaa
open Go.ChangeShapes Go.WideShapes Go.ChangeAt Go.RowKit
set_option linter.unusedVariables false
set_option linter.unusedSimpArgs false
set_option maxRecDepth 100000

theorem list8 {T : List Int} (h : T.length = 8) : ∃ a b c d e f g i, T = [a, b, c, d, e, f, g, i] := by
  match T, h with
  | [a, b, c, d, e, f, g, i], _ => exact ⟨a, b, c, d, e, f, g, i, rfl⟩
theorem idx8 (T : List Int) (h : T.length = 8) (i : Nat) (hi : i < 8) (w : World) : (Instr.index 68 (.agg (ints T).toArray) (.int .i64 (i : Int))).run Try.prog w = .ok (.int .i64 (T.getD i 0)) w := by
  obtain ⟨a, b, c, d, e, f, g, j, rfl⟩ := list8 h
  rcases (show i = 0 ∨ i = 1 ∨ i = 2 ∨ i = 3 ∨ i = 4 ∨ i = 5 ∨ i = 6 ∨ i = 7 by omega) with rfl | rfl | rfl | rfl | rfl | rfl | rfl | rfl
  all_goals kernel_rfl
set_option maxHeartbeats 2000000 in
theorem impl_border (v : Value) (zs : List Int) (w : World) (h : IntsAt w v zs) (h1 : zs.length ≤ 1048576) :
    Calls Try.prog 32 #[v] w fun e w' => e = .returned (.tuple #[.int .i64 (borderE zs).1, .int .i64 (borderE zs).2]) ∧ Below w.heap.size w w' := by
  have q1 := impl_isphrase _ zs w h h1
  have HO : Bx (borderE zs = if phB zs = true then (((brdZ zs : Nat) : Int), (0 : Int)) else (0, 1)) := Bx.mk rfl
  have HQ := Bx.mk (fun h1 h8 => impl_borders v zs w h h1 h8)
  obtain ⟨A, c, rfl⟩ := ints_form h
  clear h
  generalize borderE zs = u at HO ⊢
  obtain ⟨u1, u2⟩ := u
  cases hph : phB zs
  · have HE : Bx ((u1, u2) = ((0 : Int), (1 : Int))) := Bx.mk (by rw [HO.out, hph]; rfl)
    rw [hph] at q1
    clear HO hph
    go_enter Try.func32, Try.ntmps32
    go_wp2_with (fail)
    refine q1.mono ?_
    rintro r w1 ⟨rfl, rfl⟩
    go_wp2_with (fail)
    go_returns
    exact ⟨pairR HE.out, Below.refl _ _⟩
  · have HE : Bx ((u1, u2) = (((brdZ zs : Nat) : Int), (0 : Int))) := Bx.mk (by rw [HO.out, hph]; rfl)
    obtain ⟨_, l2, l3⟩ := ph_yes hph
    have q2 := HQ.out (by omega) l3
    rw [hph] at q1
    clear HO hph HQ
    have y0 : IntKind.i64.wrap ((zs.length : Int) - 1) = ((zs.length - 1 : Nat) : Int) := by rw [IntWalk.i64_in _ (by omega)]; omega
    go_enter Try.func32, Try.ntmps32
    go_wp2_with (fail)
    refine q1.mono ?_
    rintro r w1 ⟨rfl, rfl⟩
    go_wp2_with (fail)
    refine q2.mono ?_
    rintro r w2 ⟨T, rfl, hT8, hT, hb⟩
    obtain ⟨x, e1, e2⟩ := hT (zs.length - 1) (by omega)
    rw [show zs.length - 1 + 1 = zs.length by omega] at e2
    have hidx := fun W => idx8 T hT8 (zs.length - 1) (by omega) W
    rw [e1] at hidx
    have HX : Bx (x = brdZ zs) := Bx.mk (e2.uniq (brdZ_brd (by omega)))
    clear hT e1 e2 q2
    generalize (ints T).toArray = arr at *
    go_wp2_with (fail)
    go_returns
    exact ⟨pairR (HE.out.trans (by rw [HX.out])), hb⟩
theorem make_cap (w : World) (n : Nat) (hn : n ≤ 17592186044416) : (Instr.makeSlice 27 (.int .i64 0) (.int .i64 (n : Int))).run Try.prog w = .ok (.slice (some ⟨w.heap.size, 0, none⟩) 0 n) (w.alloc (.cells (madeCells #[.int .i64 0] n) 2)) := by
  obtain ⟨i0, hi, hz0, hz1, hz2⟩ := info_parts infoI64
  have := run_make (P := Try.prog) w 27 2 i0 (.int .i64 0) Try.underlying27 hi hz0 .i64 .i64 0 (n : Int) (by omega) (by omega) (by rw [hz2]; omega) (by omega)
  rw [this, hz1]
  simp [Value.cells]
theorem own_cap (w : World) (n : Nat) (hn : n ≤ maxLen) : (w.alloc (.cells (madeCells #[.int .i64 0] n) 2)).ownsRow w.heap.size 2 1 (.slice (some ⟨w.heap.size, 0, none⟩) 0 n) 0 [] :=
  ⟨rfl, .inr ⟨w.heap.size, n, _, rfl, Nat.le_refl _, heap_alloc_new w _, Nat.zero_le _, hn, by rw [size_madeCells]; simp, by simp⟩⟩
set_option maxHeartbeats 4000000 in
theorem impl_move (v : Value) (zs : List Int) (d : Int) (w : World) (h : IntsAt w v zs) (h1 : zs.length ≤ 1048576) :
    Calls Try.prog 41 #[v, .int .i64 d] w (LCOut (moveE zs d) w) := by
  obtain ⟨i0, hi, hz0, hz1, hz2⟩ := info_parts infoI64
  have q1 := impl_isphrase _ zs w h h1
  have HI := Bx.mk h
  obtain ⟨A, c, rfl⟩ := ints_form h
  clear h
  cases hph : phB zs
  · have HE := Bx.mk (move_no1 (d := d) hph)
    rw [hph] at q1
    clear hph
    go_enter Try.func41, Try.ntmps41
    go_wp2_with (fail)
    refine q1.mono ?_
    rintro r w1 ⟨rfl, rfl⟩
    go_wp2_with (fail)
    go_returns
    exact lc_nil HE.out (Below.refl _ _)
  · obtain ⟨hpt, l2, l3⟩ := ph_yes hph
    have HPT := Bx.mk (pit_yes hpt).2
    have q1' := q1
    rw [hph] at q1'
    by_cases hd : -36 ≤ d ∧ d ≤ 36
    · obtain ⟨hd1, hd2⟩ := hd
      have d1 : decide (d < -36) = false := decide_eq_false (by omega)
      have d2 : decide (d > 36) = false := decide_eq_false (by omega)
      have HEy := Bx.mk (fun hp => move_yes (zs := zs) hph ⟨hd1, hd2⟩ hp)
      have HEn := Bx.mk (fun hp => move_no3 (zs := zs) hph ⟨hd1, hd2⟩ hp)
      have hmk := make_cap w zs.length (by omega)
      clear hph q1 hpt
      go_enter Try.func41, Try.ntmps41
      go_wp2_with (fail)
      refine q1'.mono ?_
      rintro r w1 ⟨rfl, rfl⟩
      go_wp2_with (fail)
      clear d1 d2 hmk q1'
      go_loopw [6, 25] (fun v i wr => ∃ k : Nat, k ≤ zs.length ∧ i = .int .i64 k ∧ wr.ownsRow w.heap.size 2 1 v (mvK zs d k).length (ints (mvK zs d k)) ∧ Below w.heap.size w wr) (fun _ i _ => zs.length - (intOf i).toNat)
      case atStart => exact ⟨0, Nat.zero_le _, rfl, own_cap w zs.length (by unfold maxLen; omega), (Below.refl _ _).alloc (Nat.le_refl _) _⟩
      case round =>
        obtain ⟨k, hk, rfl, hown, hbw⟩ := hrel
        have hsz := hbw.size
        have hll := mvK_len zs d k
        by_cases hlt : k < zs.length
        · obtain ⟨b, o, cc, hv, lb, hc⟩ := HI.out.form (by omega)
          injection hv with hA _ hC
          subst hA hC
          have x1 : wr.cell? ⟨b, o + k, none⟩ = some (.int .i64 (zs.getD k 0)) := (hbw.cell (p := ⟨b, o + k, none⟩) lb).trans (hc k hlt)
          have HS := Bx.mk (mvK_succ zs d k)
          obtain ⟨r1, r2⟩ := HPT.out k hlt
          have k1 : (0 : Int) ≤ (k : Int) := by omega
          have k2 : (k : Int) < (zs.length : Int) := by omega
          have d1 : decide ((k : Int) < (zs.length : Int)) = true := decide_eq_true k2
          clear hc lb HPT HI
          generalize zs.getD k 0 = x at *
          have y0 : IntKind.i64.wrap (x + d) = x + d := IntWalk.i64_in _ (by omega)
          go_wp2_with ((at_builtin; refine wpList_append_own _ rfl _ _ 27 rfl w.heap.size 2 i0 (.int .i64 0) 1 8 Try.underlying27 hi hz0 hz1 hz2 rfl (by decide) _ _ _ rfl (hown.alloc _) ⟨wr.heap.size, 0, none⟩ 1 1 [.int .i64 (x + d)] rfl rfl (cell_one_new _ _ _) (fun x hx => by simp at hx; subst hx; rfl) (by unfold maxLen; omega) (by omega) (by simp; omega) ?_; intro v' w3 hown' hgrow3 hnil3))
          have hown2 : w3.ownsRow w.heap.size 2 1 v' (mvK zs d (k + 1)).length (ints (mvK zs d (k + 1))) := by
            rw [HS.out, ints_snoc', List.length_append]; exact hown'
          have hb2 : Below w.heap.size w w3 := below_app' hbw hown (Nat.le_refl _) hgrow3
          clear hown' hgrow3 hnil3 hown
          go_roundw
          case rel => exact ⟨k + 1, by omega, by go_num, hown2, hb2⟩
          case measure => simp [intOf]; omega
        · obtain rfl : k = zs.length := by omega
          have d1 : decide ((zs.length : Int) < (zs.length : Int)) = false := decide_eq_false (by omega)
          have hq := impl_pits _ (mvK zs d zs.length) wr (IntsAt.own hown) (by omega)
          have HOW := Bx.mk hown
          obtain ⟨A3, c3, rfl⟩ := own_len hown
          clear hown
          have hmk8 : Bx ((mvK zs d zs.length).length ≤ 8) := Bx.mk (by omega)
          clear hll HPT HI hsz
          generalize mvK zs d zs.length = M at *
          cases hp : pitB M
          · have HE := Bx.mk (HEn.out hp)
            rw [hp] at hq
            clear hp HEy HEn
            go_wp2_with (fail)
            refine hq.mono ?_
            rintro r w1 ⟨rfl, rfl⟩
            go_wp2_with (fail)
            go_returns
            exact lc_nil HE.out hbw
          · have HE := Bx.mk (HEy.out hp)
            rw [hp] at hq
            clear hp HEy HEn
            go_wp2_with (fail)
            refine hq.mono ?_
            rintro r w1 ⟨rfl, rfl⟩
            go_wp2_with (fail)
            go_returns
            exact lc_some HE.out HOW.out hbw
    · have HE := Bx.mk (move_no2 hph hd)
      clear hph q1
      by_cases h36 : d < -36
      · have d1 : decide (d < -36) = true := decide_eq_true h36
        clear hd h36
        go_enter Try.func41, Try.ntmps41
        go_wp2_with (fail)
        refine q1'.mono ?_
        rintro r w1 ⟨rfl, rfl⟩
        go_wp2_with (fail)
        go_returns
        exact lc_nil HE.out (Below.refl _ _)
      · have d1 : decide (d < -36) = false := decide_eq_false h36
        have d2 : decide (d > 36) = true := decide_eq_true (by omega)
        clear hd h36
        go_enter Try.func41, Try.ntmps41
        go_wp2_with (fail)
        refine q1'.mono ?_
        rintro r w1 ⟨rfl, rfl⟩
        go_wp2_with (fail)
        go_returns
        exact lc_nil HE.out (Below.refl _ _)
set_option maxHeartbeats 4000000 in
theorem spec_move (v : Value) (zs : List Int) (d : Int) (w : World) (h : IntsAt w v zs) (h1 : zs.length ≤ 1048576) :
    Calls Try.prog 40 #[v, .int .i64 d] w (LCOut (moveE zs d) w) := by
  obtain ⟨i0, hi, hz0, hz1, hz2⟩ := info_parts infoI64
  have q1 := spec_phrase _ zs w h h1
  have qi := fun W => in_any d (-36) 36 W
  have HI := Bx.mk h
  obtain ⟨A, c, rfl⟩ := ints_form h
  clear h
  cases hph : phB zs
  · have HE := Bx.mk (move_no1 (d := d) hph)
    rw [hph] at q1
    clear hph
    go_enter Try.func40, Try.ntmps40
    go_wp2_with (fail)
    refine q1.mono ?_
    rintro r w1 ⟨rfl, rfl⟩
    go_wp2_with (fail)
    go_returns
    exact lc_nil HE.out (Below.refl _ _)
  · obtain ⟨hpt, l2, l3⟩ := ph_yes hph
    have HPT := Bx.mk (pit_yes hpt).2
    have q1' := q1
    rw [hph] at q1'
    by_cases hd : -36 ≤ d ∧ d ≤ 36
    · rw [inB_mk hd] at qi
      have HEy := Bx.mk (fun hp => move_yes (zs := zs) hph hd hp)
      have HEn := Bx.mk (fun hp => move_no3 (zs := zs) hph hd hp)
      obtain ⟨hd1, hd2⟩ := hd
      clear hph q1 hpt
      go_enter Try.func40, Try.ntmps40
      go_wp2_with (fail)
      refine q1'.mono ?_
      rintro r w1 ⟨rfl, rfl⟩
      go_wp2_with (fail)
      refine (qi _).mono ?_
      rintro r w1 ⟨rfl, rfl⟩
      go_wp2_with (fail)
      clear qi q1'
      go_loopw [6, 7] (fun v i wr => ∃ k : Nat, k ≤ zs.length ∧ i = .int .i64 k ∧ Bx (∀ i, i < k → inB (zs.getD i 0 + d) (-12) 23 = true) ∧ wr.ownsRow w.heap.size 2 1 v (mvK zs d k).length (ints (mvK zs d k)) ∧ Below w.heap.size w wr) (fun _ i _ => zs.length - (intOf i).toNat)
      case atStart => exact ⟨0, Nat.zero_le _, rfl, Bx.mk (fun i hi => absurd hi (Nat.not_lt_zero _)), World.ownsRow_lit _ _ _ (Nat.le_refl _) (by decide) (by decide), (Below.refl _ _).alloc (Nat.le_refl _) _⟩
      case round =>
        obtain ⟨k, hk, rfl, HK, hown, hbw⟩ := hrel
        have hsz := hbw.size
        have hll := mvK_len zs d k
        by_cases hlt : k < zs.length
        · obtain ⟨b, o, cc, hv, lb, hc⟩ := HI.out.form (by omega)
          injection hv with hA _ hC
          subst hA hC
          have x1 : wr.cell? ⟨b, o + k, none⟩ = some (.int .i64 (zs.getD k 0)) := (hbw.cell (p := ⟨b, o + k, none⟩) lb).trans (hc k hlt)
          have HS := Bx.mk (mvK_succ zs d k)
          have qp := fun W => spec_pitch (zs.getD k 0 + d) W
          obtain ⟨r1, r2⟩ := HPT.out k hlt
          have k1 : (0 : Int) ≤ (k : Int) := by omega
          have k2 : (k : Int) < (zs.length : Int) := by omega
          have d1 : decide ((k : Int) < (zs.length : Int)) = true := decide_eq_true k2
          cases hp : inB (zs.getD k 0 + d) (-12) 23
          · have HE := Bx.mk (HEn.out (move_at k hlt hp))
            rw [hp] at qp
            clear hc lb HPT HI hp HK HS hown
            generalize zs.getD k 0 = x at *
            have y0 : IntKind.i64.wrap (x + d) = x + d := IntWalk.i64_in _ (by omega)
            go_wp2_with (fail)
            refine (qp _).mono ?_
            rintro r w1 ⟨rfl, rfl⟩
            go_wp2_with (fail)
            go_returns
            exact lc_nil HE.out hbw
          · have HK2 : Bx (∀ i, i < k + 1 → inB (zs.getD i 0 + d) (-12) 23 = true) := Bx.mk (fun i hi => by
              by_cases hik : i = k
              · subst hik; exact hp
              · exact HK.out i (by omega))
            rw [hp] at qp
            clear hc lb HPT HI hp HK HEy HEn
            generalize hx : zs.getD k 0 = x at x1 qp HS r1 r2
            clear hx
            have y0 : IntKind.i64.wrap (x + d) = x + d := IntWalk.i64_in _ (by omega)
            go_wp2_with (fail)
            refine (qp _).mono ?_
            rintro r w1 ⟨rfl, rfl⟩
            go_wp2_with ((at_builtin; refine wpList_append_own _ rfl _ _ 27 rfl w.heap.size 2 i0 (.int .i64 0) 1 8 Try.underlying27 hi hz0 hz1 hz2 rfl (by decide) _ _ _ rfl (hown.alloc _) ⟨wr.heap.size, 0, none⟩ 1 1 [.int .i64 (x + d)] rfl rfl (cell_one_new _ _ _) (fun x hx => by simp at hx; subst hx; rfl) (by unfold maxLen; omega) (by omega) (by simp; omega) ?_; intro v' w3 hown' hgrow3 hnil3))
            have hown2 : w3.ownsRow w.heap.size 2 1 v' (mvK zs d (k + 1)).length (ints (mvK zs d (k + 1))) := by
              rw [HS.out, ints_snoc', List.length_append]; exact hown'
            have hb2 : Below w.heap.size w w3 := below_app' hbw hown (Nat.le_refl _) hgrow3
            clear hown' hgrow3 hnil3 hown
            go_roundw
            case rel => exact ⟨k + 1, by omega, by go_num, HK2, hown2, hb2⟩
            case measure => simp [intOf]; omega
        · obtain rfl : k = zs.length := by omega
          have d1 : decide ((zs.length : Int) < (zs.length : Int)) = false := decide_eq_false (by omega)
          have HE := Bx.mk (HEy.out (move_all l3 HK.out))
          have HOW := Bx.mk hown
          obtain ⟨A3, c3, rfl⟩ := own_len hown
          clear hown HEy HEn HK HI HPT
          go_wp2_with (fail)
          go_returns
          exact lc_some HE.out HOW.out hbw
    · have HE := Bx.mk (move_no2 hph hd)
      have hn : inB d (-36) 36 = false := by
        apply Bool.eq_false_iff.2
        intro h
        exact hd (inB_yes h)
      rw [hn] at qi
      clear hph q1 hn hd
      go_enter Try.func40, Try.ntmps40
      go_wp2_with (fail)
      refine q1'.mono ?_
      rintro r w1 ⟨rfl, rfl⟩
      go_wp2_with (fail)
      refine (qi _).mono ?_
      rintro r w1 ⟨rfl, rfl⟩
      go_wp2_with (fail)
      go_returns
      exact lc_nil HE.out (Below.refl _ _)
end Go.Proofs.Ytobhmoohalkijaa

namespace Go.Proofs.Ytobhmoohalkijaa
open Go.ChangeShapes Go.WideShapes Go.ChangeAt Go.RowKit
set_option linter.unusedVariables false
set_option linter.unusedSimpArgs false
set_option maxRecDepth 100000

/-- what telling one occurrence keeps -/
def Told (B N : Nat) (W w' : World) : Prop := Below B W w' ∧ W.heap.size ≤ w'.heap.size ∧ w'.heap[N]? = W.heap[N]?
theorem ArrAt.told {B N : Nat} {W w' : World} {vs : List Value} {t : TypeId} (h : ArrAt W N vs t) (ht : Told B N W w') : ArrAt w' N vs t := by
  unfold ArrAt at h ⊢
  rw [ht.2.2, h]
def TellStep (m : FuncId) (a : Addr) (B lo : Nat) (I : Nat → List Nat → World → Prop) : Prop :=
  ∀ (N : Nat) (L : List Nat) (i : Nat) (W : World), lo ≤ N → N < W.heap.size → I N L W → i ≤ 64 → L.length ≤ 64 →
    Calls Try.prog m #[.pointer (some a), .int .i64 (i : Nat)] W fun e w' => e = .returned (.tuple #[]) ∧ I N (L ++ [i]) w' ∧ Told B N W w'
theorem store8 {w : World} {g : Nat} {T : List Int} (h : ArrAt w g (ints (List.replicate 8 0)) 68) (hT8 : T.length = 8) : (Instr.storeAt 68 (.pointer (some ⟨g, 0, none⟩)) (.agg (ints T).toArray)).run Try.prog w = .ok () (w.setRow g (ints T).toArray) :=
  h.store (ints T).toArray (info_brd T hT8) (by simp [ints, hT8]) (ints_one T)
theorem nil_pl (a : Addr) (w : World) : (nilAhead 246 62 (.pointer (some a)) "loop.example/g01033/impl.occursAt").run Try.prog w = .ok (some false) w := by kernel_rfl
theorem meth_pl (a : Addr) (w : World) : (method 246 62 (.pointer (some a)) "loop.example/g01033/impl.occursAt").run Try.prog w = .ok (125, .pointer (some a)) w := by kernel_rfl
set_option maxHeartbeats 8000000 in
theorem tell_pl (I : Nat → List Nat → World → Prop) (w0 : World) (a : Addr) (vt vp : Value) (t p : List Int) (w : World) (ht : IntsAt w0 vt t) (hp : IntsAt w0 vp p) (hb : Below w0.heap.size w0 w) (h2 : 2 ≤ p.length) (h8 : p.length ≤ 8) (h64 : t.length ≤ 64)
    (hI : ∀ N W, Below w.heap.size w W → w.heap.size ≤ N → I N [] W) (hs : TellStep 125 a w0.heap.size w.heap.size I) :
    Calls Try.prog 55 #[vt, vp, .iface 62 (.pointer (some a))] w fun e w' => e = .returned (.tuple #[]) ∧ (∃ N, I N (findK p t t.length) w') ∧ Below w0.heap.size w0 w' := by
  have q1 := impl_borders vp p w (hp.below hb) (by omega) h8
  have HT := Bx.mk ht
  have HP := Bx.mk hp
  have HB := Bx.mk hb
  have HI := Bx.mk hI
  have HS := Bx.mk hs
  obtain ⟨A, c, rfl⟩ := ints_form ht
  obtain ⟨B, d, rfl⟩ := ints_form hp
  have hn := nil_pl a
  have hm := meth_pl a
  clear ht hp hb hI hs
  go_enter Try.func55, Try.ntmps55
  go_wp2_with (fail)
  go_step3
  go_wp2_with (fail)
  refine q1.mono ?_
  rintro r w1 ⟨T, rfl, hT8, hTT, hb1⟩
  obtain ⟨t0, t1, t2, t3, t4, t5, t6, t7, hTe⟩ := list8 hT8
  rw [show (ints T).toArray = #[.int .i64 t0, .int .i64 t1, .int .i64 t2, .int .i64 t3, .int .i64 t4, .int .i64 t5, .int .i64 t6, .int .i64 t7] by rw [hTe]; rfl]
  have HA0 : ArrAt (w1.alloc (.cells #[.int .i64 t0, .int .i64 t1, .int .i64 t2, .int .i64 t3, .int .i64 t4, .int .i64 t5, .int .i64 t6, .int .i64 t7] 68)) w1.heap.size (ints T) 68 := by
    rw [hTe]; exact ArrAt.at w1 w1.heap.size _ _ rfl
  have hbA : Below w.heap.size w (w1.alloc (.cells #[.int .i64 t0, .int .i64 t1, .int .i64 t2, .int .i64 t3, .int .i64 t4, .int .i64 t5, .int .i64 t6, .int .i64 t7] 68)) := hb1.alloc hb1.size _
  have hlo := hb1.size
  have H0 := Bx.mk (HI.out w1.heap.size _ hbA hlo)
  have HB0 := Bx.mk (HB.out.trans (hbA.mono HB.out.size))
  have HBT := Bx.mk hTT
  have HA0 := Bx.mk HA0
  have HLo := Bx.mk hlo
  have HT8 := Bx.mk hT8
  clear hTT hTe hb1 hlo hbA HI HB q1 hT8
  go_upto_region 1 with (fail)
  generalize w1.heap.size = N at *
  generalize w1.alloc (.cells #[.int .i64 t0, .int .i64 t1, .int .i64 t2, .int .i64 t3, .int .i64 t4, .int .i64 t5, .int .i64 t6, .int .i64 t7] 68) = W at *
  clear w1
  go_wp2_with (fail)
  go_step3
  go_wp2_with (fail)
  go_loopw [7, 14] (fun bv i wr => ∃ (k b : Nat), k ≤ t.length ∧ i = .int .i64 k ∧ bv = .int .i64 b ∧ Bx (Std p t k b) ∧ Bx (I N (findK p t k) wr) ∧ Bx (ArrAt wr N (ints T) 68) ∧ Bx (Below w0.heap.size w0 wr)) (fun _ i _ => t.length - (intOf i).toNat)
  case atStart => exact ⟨0, 0, Nat.zero_le _, rfl, rfl, Bx.mk (Std.start (by omega)), Bx.mk (by rw [findK_zero (by omega)]; exact H0.out), HA0, HB0⟩
  case round =>
    clear H0 HA0 HB0
    obtain ⟨k, b, hk, rfl, rfl, HSt, HL, HA, HB⟩ := hrel
    by_cases hlt : k < t.length
    · obtain ⟨bt, ot, ct, hvt, lt, hct⟩ := HT.out.form (by omega)
      obtain ⟨bp, op, cp, hvp, lp, hcp⟩ := HP.out.form (by omega)
      injection hvt with hA1 _ hC1
      injection hvp with hA2 _ hC2
      subst hA1 hC1 hA2 hC2
      have d1 : decide ((k : Int) < (t.length : Int)) = true := decide_eq_true (by omega)
      have k1 : (0 : Int) ≤ (k : Int) := by omega
      have k2 : (k : Int) < (t.length : Int) := by omega
      have x2 : wr.cell? ⟨bt, ot + k, none⟩ = some (.int .i64 (t.getD k 0)) := (HB.out.cell (p := ⟨bt, ot + k, none⟩) lt).trans (hct k hlt)
      have HCP := Bx.mk (fun j (hj : j < p.length) => (HB.out.cell (p := ⟨bp, op + j, none⟩) lp).trans (hcp j hj))
      have HY : Bx (∀ j, p.getD j 0 = t.getD k 0 ↔ p.getD j 0 = t.getD k 0) := Bx.mk (fun j => Iff.rfl)
      have HCn0 := Bx.mk HSt.out.cnd
      have HFn := Bx.mk (fun h => findK_no (p := p) hlt h)
      have HFy := Bx.mk (fun h => findK_yes (p := p) hlt h)
      have HLn : Bx ((findK p t k).length ≤ 64) := Bx.mk (Nat.le_trans (findN_len _ _ _) (by omega))
      clear hct hcp HT HP lt lp HSt
      generalize hy : t.getD k 0 = y at x2
      have HYE := Bx.mk hy
      clear hy HY
      obtain ⟨wo, hwo⟩ : ∃ x, x = wr := ⟨_, rfl⟩
      subst hwo
      go_wp2_with (fail)
      go_loopw [7] (fun bv wi => ∃ b : Nat, bv = .int .i64 b ∧ Bx (Cnd p t p.length k b) ∧ wi = wo) (fun bv _ => (intOf bv).toNat)
      case atStart => exact ⟨b, rfl, HCn0, rfl⟩
      case round =>
        clear HCn0
        obtain ⟨b, rfl, HC, rfl⟩ := hrel
        have hbp := HC.out.lt
        have x1 := HCP.out b hbp
        have b1 : (0 : Int) ≤ (b : Int) := by omega
        have b2 : (b : Int) < (p.length : Int) := by omega
        have al := HA.out.lt
        by_cases hxe : p.getD b 0 = y
        · have HE := Bx.mk (hxe.trans HYE.out.symm)
          rw [hxe] at x1
          have y5 : IntKind.i64.wrap ((b : Int) + 1) = ((b + 1 : Nat) : Int) := by rw [IntWalk.i64_in _ (by omega)]; omega
          have d3 : (y != y) = false := by simp
          clear hxe HYE HCP
          by_cases hf : b + 1 = p.length
          · obtain ⟨x', e1, e2⟩ := HBT.out b hbp
            have e2' := e2
            rw [hf] at e2'
            obtain ⟨s1, s2⟩ := HC.out.full HE.out hf e2'
            have hFK := HFy.out s2
            have hle := s2.le
            have HSt2 := Bx.mk s1
            have hq := HS.out N (findK p t k) (k + 1 - p.length) wr HLo.out al HL.out (by omega) HLn.out
            rw [show ((k + 1 - p.length : Nat) : Int) = (k : Int) + 1 - ((b : Int) + 1) by omega] at hq
            have a1 : wr.cell? ⟨N, b, none⟩ = some (.int .i64 (x' : Int)) := by rw [HA.out.cell, ints_at T b (by have := HT8.out; omega), e1]
            have d4 : (((b + 1 : Nat) : Int) == (p.length : Int)) = true := by rw [hf]; simp
            have y6 : IntKind.i64.wrap ((k : Int) + 1) = ((k + 1 : Nat) : Int) := by rw [IntWalk.i64_in _ (by omega)]; omega
            have y8 : IntKind.i64.wrap (((b + 1 : Nat) : Int) - 1) = (b : Int) := by rw [IntWalk.i64_in _ (by omega)]; omega
            have b8 : (b : Int) < 8 := by omega
            have HFK := Bx.mk hFK
            clear e1 e2 e2' s1 s2 hFK HC HE HFy HFn HBT hle hf
            go_wp2_with (fail)
            refine hq.mono ?_
            rintro r w5 ⟨rfl, hI5, hT5⟩
            have HI5 : Bx (I N (findK p t (k + 1)) w5) := Bx.mk (by rw [HFK.out]; exact hI5)
            have HA5 := Bx.mk (HA.out.told hT5)
            have HB5 := Bx.mk (HB.out.trans hT5.1)
            have a2 : w5.cell? ⟨N, b, none⟩ = some (.int .i64 (x' : Int)) := (World.cell?_of_block (a := ⟨N, b, none⟩) hT5.2.2).trans a1
            have hTs := hT5.2.1
            clear hI5 hT5 hq HL HA HB x1 x2 a1 HFK
            go_wp2_with (fail)
            go_roundw
            case rel => exact ⟨k + 1, x', by omega, by go_num, by first | rfl | go_num, HSt2, HI5, HA5, HB5⟩
            case measure => simp [intOf]; omega
          · obtain ⟨s1, s2⟩ := HC.out.std HE.out (by omega)
            have HSt2 := Bx.mk s1
            have HI5 : Bx (I N (findK p t (k + 1)) wr) := Bx.mk (by rw [HFn.out s2]; exact HL.out)
            have d4 : (((b + 1 : Nat) : Int) == (p.length : Int)) = false := beq_eq_false_iff_ne.2 (by omega)
            clear s1 s2 HC HE HFy HFn HBT hf HL
            go_wp2_with (fail)
            go_roundw
            case rel => exact ⟨k + 1, b + 1, by omega, by go_num, by first | rfl | go_num, HSt2, HI5, HA, HB⟩
            case measure => simp [intOf]; omega
        · have HE := Bx.mk (fun (e : p.getD b 0 = t.getD k 0) => hxe (e.trans HYE.out))
          by_cases hb0 : b = 0
          · subst hb0
            obtain ⟨s1, s2⟩ := HC.out.std0 HE.out
            have HSt2 := Bx.mk s1
            have HI5 : Bx (I N (findK p t (k + 1)) wr) := Bx.mk (by rw [HFn.out s2]; exact HL.out)
            simp only [Nat.add_zero] at x1
            generalize p.getD 0 0 = x at x1 hxe
            have d3 : (x != y) = true := by simpa using hxe
            have d4 : ((0 : Int) == 0) = true := by decide
            clear s1 s2 HC HE HFy HFn HBT HL HCP HYE hxe
            go_wp2_with (fail)
            go_roundw
            case rel => exact ⟨k + 1, 0, by omega, by go_num, rfl, HSt2, HI5, HA, HB⟩
            case measure => simp [intOf]; omega
          · obtain ⟨x', e1, e2⟩ := HBT.out (b - 1) (by omega)
            rw [show b - 1 + 1 = b by omega] at e2
            have HN := Bx.mk (HC.out.down e2 HE.out)
            have hxb := e2.lt
            have a1 : wr.cell? ⟨N, b - 1, none⟩ = some (.int .i64 (x' : Int)) := by rw [HA.out.cell, ints_at T (b - 1) (by have := HT8.out; omega), e1]
            generalize p.getD b 0 = x at x1 hxe
            have d3 : (x != y) = true := by simpa using hxe
            have d4 : ((b : Int) == 0) = false := beq_eq_false_iff_ne.2 (by omega)
            have y5 : IntKind.i64.wrap ((b : Int) - 1) = ((b - 1 : Nat) : Int) := by rw [IntWalk.i64_in _ (by omega)]; omega
            have y6 : (0 : Int) ≤ ((b - 1 : Nat) : Int) := by omega
            have y7 : ((b - 1 : Nat) : Int) < 8 := by omega
            have y8 : ((b - 1 : Nat) : Int).toNat = b - 1 := by omega
            clear e1 e2 HC HE hxe
            go_wp2_with (fail)
            go_roundw
            case rel => exact ⟨x', by first | rfl | go_num, HN, by first | rfl | trivial⟩
            case measure => simp [intOf]; omega
    · obtain rfl : k = t.length := by omega
      have d1 : decide ((t.length : Int) < (t.length : Int)) = false := decide_eq_false (by omega)
      go_wp2_with (fail)
      try rw [Exit.noGoto_ret]
      try rw [Exit.noGoto_normal]
      go_end0
      exact ⟨rfl, ⟨N, HL.out⟩, HB.out⟩
theorem nil_ap (a : Addr) (w : World) : (nilAhead 246 66 (.pointer (some a)) "loop.example/g01033/impl.occursAt").run Try.prog w = .ok (some false) w := by kernel_rfl
theorem meth_ap (a : Addr) (w : World) : (method 246 66 (.pointer (some a)) "loop.example/g01033/impl.occursAt").run Try.prog w = .ok (126, .pointer (some a)) w := by kernel_rfl
set_option maxHeartbeats 8000000 in
theorem tell_ap (I : Nat → List Nat → World → Prop) (w0 : World) (a : Addr) (vt vp : Value) (t p : List Int) (w : World) (ht : IntsAt w0 vt t) (hp : IntsAt w0 vp p) (hb : Below w0.heap.size w0 w) (h2 : 2 ≤ p.length) (h8 : p.length ≤ 8) (h64 : t.length ≤ 64)
    (hI : ∀ N W, Below w.heap.size w W → w.heap.size ≤ N → I N [] W) (hs : TellStep 126 a w0.heap.size w.heap.size I) :
    Calls Try.prog 55 #[vt, vp, .iface 66 (.pointer (some a))] w fun e w' => e = .returned (.tuple #[]) ∧ (∃ N, I N (findK p t t.length) w') ∧ Below w0.heap.size w0 w' := by
  have q1 := impl_borders vp p w (hp.below hb) (by omega) h8
  have HT := Bx.mk ht
  have HP := Bx.mk hp
  have HB := Bx.mk hb
  have HI := Bx.mk hI
  have HS := Bx.mk hs
  obtain ⟨A, c, rfl⟩ := ints_form ht
  obtain ⟨B, d, rfl⟩ := ints_form hp
  have hn := nil_ap a
  have hm := meth_ap a
  clear ht hp hb hI hs
  go_enter Try.func55, Try.ntmps55
  go_wp2_with (fail)
  go_step3
  go_wp2_with (fail)
  refine q1.mono ?_
  rintro r w1 ⟨T, rfl, hT8, hTT, hb1⟩
  obtain ⟨t0, t1, t2, t3, t4, t5, t6, t7, hTe⟩ := list8 hT8
  rw [show (ints T).toArray = #[.int .i64 t0, .int .i64 t1, .int .i64 t2, .int .i64 t3, .int .i64 t4, .int .i64 t5, .int .i64 t6, .int .i64 t7] by rw [hTe]; rfl]
  have HA0 : ArrAt (w1.alloc (.cells #[.int .i64 t0, .int .i64 t1, .int .i64 t2, .int .i64 t3, .int .i64 t4, .int .i64 t5, .int .i64 t6, .int .i64 t7] 68)) w1.heap.size (ints T) 68 := by
    rw [hTe]; exact ArrAt.at w1 w1.heap.size _ _ rfl
  have hbA : Below w.heap.size w (w1.alloc (.cells #[.int .i64 t0, .int .i64 t1, .int .i64 t2, .int .i64 t3, .int .i64 t4, .int .i64 t5, .int .i64 t6, .int .i64 t7] 68)) := hb1.alloc hb1.size _
  have hlo := hb1.size
  have H0 := Bx.mk (HI.out w1.heap.size _ hbA hlo)
  have HB0 := Bx.mk (HB.out.trans (hbA.mono HB.out.size))
  have HBT := Bx.mk hTT
  have HA0 := Bx.mk HA0
  have HLo := Bx.mk hlo
  have HT8 := Bx.mk hT8
  clear hTT hTe hb1 hlo hbA HI HB q1 hT8
  go_upto_region 1 with (fail)
  generalize w1.heap.size = N at *
  generalize w1.alloc (.cells #[.int .i64 t0, .int .i64 t1, .int .i64 t2, .int .i64 t3, .int .i64 t4, .int .i64 t5, .int .i64 t6, .int .i64 t7] 68) = W at *
  clear w1
  go_wp2_with (fail)
  go_step3
  go_wp2_with (fail)
  go_loopw [7, 14] (fun bv i wr => ∃ (k b : Nat), k ≤ t.length ∧ i = .int .i64 k ∧ bv = .int .i64 b ∧ Bx (Std p t k b) ∧ Bx (I N (findK p t k) wr) ∧ Bx (ArrAt wr N (ints T) 68) ∧ Bx (Below w0.heap.size w0 wr)) (fun _ i _ => t.length - (intOf i).toNat)
  case atStart => exact ⟨0, 0, Nat.zero_le _, rfl, rfl, Bx.mk (Std.start (by omega)), Bx.mk (by rw [findK_zero (by omega)]; exact H0.out), HA0, HB0⟩
  case round =>
    clear H0 HA0 HB0
    obtain ⟨k, b, hk, rfl, rfl, HSt, HL, HA, HB⟩ := hrel
    by_cases hlt : k < t.length
    · obtain ⟨bt, ot, ct, hvt, lt, hct⟩ := HT.out.form (by omega)
      obtain ⟨bp, op, cp, hvp, lp, hcp⟩ := HP.out.form (by omega)
      injection hvt with hA1 _ hC1
      injection hvp with hA2 _ hC2
      subst hA1 hC1 hA2 hC2
      have d1 : decide ((k : Int) < (t.length : Int)) = true := decide_eq_true (by omega)
      have k1 : (0 : Int) ≤ (k : Int) := by omega
      have k2 : (k : Int) < (t.length : Int) := by omega
      have x2 : wr.cell? ⟨bt, ot + k, none⟩ = some (.int .i64 (t.getD k 0)) := (HB.out.cell (p := ⟨bt, ot + k, none⟩) lt).trans (hct k hlt)
      have HCP := Bx.mk (fun j (hj : j < p.length) => (HB.out.cell (p := ⟨bp, op + j, none⟩) lp).trans (hcp j hj))
      have HY : Bx (∀ j, p.getD j 0 = t.getD k 0 ↔ p.getD j 0 = t.getD k 0) := Bx.mk (fun j => Iff.rfl)
      have HCn0 := Bx.mk HSt.out.cnd
      have HFn := Bx.mk (fun h => findK_no (p := p) hlt h)
      have HFy := Bx.mk (fun h => findK_yes (p := p) hlt h)
      have HLn : Bx ((findK p t k).length ≤ 64) := Bx.mk (Nat.le_trans (findN_len _ _ _) (by omega))
      clear hct hcp HT HP lt lp HSt
      generalize hy : t.getD k 0 = y at x2
      have HYE := Bx.mk hy
      clear hy HY
      obtain ⟨wo, hwo⟩ : ∃ x, x = wr := ⟨_, rfl⟩
      subst hwo
      go_wp2_with (fail)
      go_loopw [7] (fun bv wi => ∃ b : Nat, bv = .int .i64 b ∧ Bx (Cnd p t p.length k b) ∧ wi = wo) (fun bv _ => (intOf bv).toNat)
      case atStart => exact ⟨b, rfl, HCn0, rfl⟩
      case round =>
        clear HCn0
        obtain ⟨b, rfl, HC, rfl⟩ := hrel
        have hbp := HC.out.lt
        have x1 := HCP.out b hbp
        have b1 : (0 : Int) ≤ (b : Int) := by omega
        have b2 : (b : Int) < (p.length : Int) := by omega
        have al := HA.out.lt
        by_cases hxe : p.getD b 0 = y
        · have HE := Bx.mk (hxe.trans HYE.out.symm)
          rw [hxe] at x1
          have y5 : IntKind.i64.wrap ((b : Int) + 1) = ((b + 1 : Nat) : Int) := by rw [IntWalk.i64_in _ (by omega)]; omega
          have d3 : (y != y) = false := by simp
          clear hxe HYE HCP
          by_cases hf : b + 1 = p.length
          · obtain ⟨x', e1, e2⟩ := HBT.out b hbp
            have e2' := e2
            rw [hf] at e2'
            obtain ⟨s1, s2⟩ := HC.out.full HE.out hf e2'
            have hFK := HFy.out s2
            have hle := s2.le
            have HSt2 := Bx.mk s1
            have hq := HS.out N (findK p t k) (k + 1 - p.length) wr HLo.out al HL.out (by omega) HLn.out
            rw [show ((k + 1 - p.length : Nat) : Int) = (k : Int) + 1 - ((b : Int) + 1) by omega] at hq
            have a1 : wr.cell? ⟨N, b, none⟩ = some (.int .i64 (x' : Int)) := by rw [HA.out.cell, ints_at T b (by have := HT8.out; omega), e1]
            have d4 : (((b + 1 : Nat) : Int) == (p.length : Int)) = true := by rw [hf]; simp
            have y6 : IntKind.i64.wrap ((k : Int) + 1) = ((k + 1 : Nat) : Int) := by rw [IntWalk.i64_in _ (by omega)]; omega
            have y8 : IntKind.i64.wrap (((b + 1 : Nat) : Int) - 1) = (b : Int) := by rw [IntWalk.i64_in _ (by omega)]; omega
            have b8 : (b : Int) < 8 := by omega
            have HFK := Bx.mk hFK
            clear e1 e2 e2' s1 s2 hFK HC HE HFy HFn HBT hle hf
            go_wp2_with (fail)
            refine hq.mono ?_
            rintro r w5 ⟨rfl, hI5, hT5⟩
            have HI5 : Bx (I N (findK p t (k + 1)) w5) := Bx.mk (by rw [HFK.out]; exact hI5)
            have HA5 := Bx.mk (HA.out.told hT5)
            have HB5 := Bx.mk (HB.out.trans hT5.1)
            have a2 : w5.cell? ⟨N, b, none⟩ = some (.int .i64 (x' : Int)) := (World.cell?_of_block (a := ⟨N, b, none⟩) hT5.2.2).trans a1
            have hTs := hT5.2.1
            clear hI5 hT5 hq HL HA HB x1 x2 a1 HFK
            go_wp2_with (fail)
            go_roundw
            case rel => exact ⟨k + 1, x', by omega, by go_num, by first | rfl | go_num, HSt2, HI5, HA5, HB5⟩
            case measure => simp [intOf]; omega
          · obtain ⟨s1, s2⟩ := HC.out.std HE.out (by omega)
            have HSt2 := Bx.mk s1
            have HI5 : Bx (I N (findK p t (k + 1)) wr) := Bx.mk (by rw [HFn.out s2]; exact HL.out)
            have d4 : (((b + 1 : Nat) : Int) == (p.length : Int)) = false := beq_eq_false_iff_ne.2 (by omega)
            clear s1 s2 HC HE HFy HFn HBT hf HL
            go_wp2_with (fail)
            go_roundw
            case rel => exact ⟨k + 1, b + 1, by omega, by go_num, by first | rfl | go_num, HSt2, HI5, HA, HB⟩
            case measure => simp [intOf]; omega
        · have HE := Bx.mk (fun (e : p.getD b 0 = t.getD k 0) => hxe (e.trans HYE.out))
          by_cases hb0 : b = 0
          · subst hb0
            obtain ⟨s1, s2⟩ := HC.out.std0 HE.out
            have HSt2 := Bx.mk s1
            have HI5 : Bx (I N (findK p t (k + 1)) wr) := Bx.mk (by rw [HFn.out s2]; exact HL.out)
            simp only [Nat.add_zero] at x1
            generalize p.getD 0 0 = x at x1 hxe
            have d3 : (x != y) = true := by simpa using hxe
            have d4 : ((0 : Int) == 0) = true := by decide
            clear s1 s2 HC HE HFy HFn HBT HL HCP HYE hxe
            go_wp2_with (fail)
            go_roundw
            case rel => exact ⟨k + 1, 0, by omega, by go_num, rfl, HSt2, HI5, HA, HB⟩
            case measure => simp [intOf]; omega
          · obtain ⟨x', e1, e2⟩ := HBT.out (b - 1) (by omega)
            rw [show b - 1 + 1 = b by omega] at e2
            have HN := Bx.mk (HC.out.down e2 HE.out)
            have hxb := e2.lt
            have a1 : wr.cell? ⟨N, b - 1, none⟩ = some (.int .i64 (x' : Int)) := by rw [HA.out.cell, ints_at T (b - 1) (by have := HT8.out; omega), e1]
            generalize p.getD b 0 = x at x1 hxe
            have d3 : (x != y) = true := by simpa using hxe
            have d4 : ((b : Int) == 0) = false := beq_eq_false_iff_ne.2 (by omega)
            have y5 : IntKind.i64.wrap ((b : Int) - 1) = ((b - 1 : Nat) : Int) := by rw [IntWalk.i64_in _ (by omega)]; omega
            have y6 : (0 : Int) ≤ ((b - 1 : Nat) : Int) := by omega
            have y7 : ((b - 1 : Nat) : Int) < 8 := by omega
            have y8 : ((b - 1 : Nat) : Int).toNat = b - 1 := by omega
            clear e1 e2 HC HE hxe
            go_wp2_with (fail)
            go_roundw
            case rel => exact ⟨x', by first | rfl | go_num, HN, by first | rfl | trivial⟩
            case measure => simp [intOf]; omega
    · obtain rfl : k = t.length := by omega
      have d1 : decide ((t.length : Int) < (t.length : Int)) = false := decide_eq_false (by omega)
      go_wp2_with (fail)
      try rw [Exit.noGoto_ret]
      try rw [Exit.noGoto_normal]
      go_end0
      exact ⟨rfl, ⟨N, HL.out⟩, HB.out⟩

theorem kept_alloc {W : World} {o : Obj} {N : Nat} (h : N < W.heap.size) : (W.alloc o).heap[N]? = W.heap[N]? := (World.grownBy_alloc W o none).block N h (by simp)
theorem BoxN.grownP {g : Nat} {w w' : World} {xs : Array Value} {t : TypeId} {row : Option Nat} (h : BoxN w g xs t) (hg : w.grownBy w' row) (hn : ¬ some g = row) : BoxN w' g xs t := by
  have := hg.block g h.lt hn
  unfold BoxN at h ⊢
  rw [this, h]
def natL (L : List Nat) : List Int := L.map fun (i : Nat) => (i : Int)
theorem natL_snoc (L : List Nat) (i : Nat) : natL (L ++ [i]) = natL L ++ [(i : Int)] := by simp [natL]
theorem natL_len (L : List Nat) : (natL L).length = L.length := by simp [natL]
/-- what 'places' holds -/
def PlI (g : Nat) (N : Nat) (L : List Nat) (W : World) : Prop := g ≤ N ∧ ∃ v, BoxN W g #[v] 60 ∧ W.ownsRow (N + 1) 2 1 v (natL L).length (ints (natL L))
set_option maxHeartbeats 4000000 in
theorem place_at (g B lo : Nat) (hB : B ≤ g) (hg : g < lo) : TellStep 125 ⟨g, 0, none⟩ B lo (PlI g) := by
  intro N L i W hlo hN hI hi64 hL
  obtain ⟨hgN, v, hX, hown⟩ := hI
  clear hgN
  obtain ⟨i0, hi, hz0, hz1, hz2⟩ := info_parts infoI64
  have HX := Bx.mk hX
  have hll := natL_len L
  have h0 := hX.c (k := 0) rfl
  have hf := hX.fr 0
  have hl := hX.lt
  have HOW := Bx.mk hown
  obtain ⟨A, c, rfl⟩ := own_len hown
  have HR : Bx (∀ x, (Value.slice A (natL L).length c).ownBlock = some x → N + 1 ≤ x) := Bx.mk (own_lo HOW.out)
  have HL : Bx ((natL L).length ≤ 64) := Bx.mk (by omega)
  have HS := Bx.mk (natL_snoc L i)
  have HGN : Bx (g < N ∧ B ≤ g) := Bx.mk ⟨by omega, hB⟩
  clear hX hll
  generalize natL L = zs at *
  have HNS := Bx.mk hN
  clear hL hlo hg hB hi64
  go_enter Try.func125, Try.ntmps125
  go_wp2_with ((at_builtin; refine wpList_append_own _ rfl _ _ 60 rfl (N + 1) 2 i0 (.int .i64 0) 1 8 Try.underlying60 hi hz0 hz1 hz2 rfl (by decide) _ _ _ rfl (HOW.out.alloc _) ⟨W.heap.size, 0, none⟩ 1 1 [.int .i64 (i : Nat)] rfl rfl (cell_one_new _ _ _) (fun x hx => by simp at hx; subst hx; rfl) (by have := HL.out; unfold maxLen; omega) (by have := HL.out; omega) (by simp; omega) ?_; intro v' w3 hown' hgrow3 hnil3; have hgrow3 := (show (W.alloc (.cells #[.int .i64 (i : Nat)] 2)).grownBy w3 (Value.slice A zs.length c).ownBlock from hgrow3); obtain ⟨A4, c4, rfl⟩ := own_len hown'; clear hnil3; have P3 := Bx.mk ((HX.out.alloc _).grownP hgrow3 (fun e => by have := HR.out g e.symm; have := HGN.out; omega)); have c3 := P3.out.c (k := 0) rfl; have f3 := P3.out.fr 0; have l3 := P3.out.lt))
  have P4 := P3.out.put 0 (.slice A4 (zs.length + 1) c4)
  have hs3 := hgrow3.size
  have hN3 : w3.heap[N]? = W.heap[N]? := (hgrow3.block N (by simp; have := HNS.out; omega) (fun e => by have := HR.out N e.symm; omega)).trans (kept_alloc HNS.out)
  have hb3 : Below B W w3 := ((Below.refl B W).alloc (by have := HGN.out; have := HNS.out; omega) _).grown hgrow3 (by simp; have := HGN.out; have := HNS.out; omega) (fun x hx => by have := HR.out x hx; have := HGN.out; omega)
  have hg2 := HGN.out
  have hnn := HNS.out
  first | go_end0 | (go_wp2_with (fail); go_end0)
  refine ⟨rfl, ⟨by omega, _, P4, ?_⟩, hb3.setCell (p := ⟨g, 0, none⟩) hg2.2 _, ?_, ?_⟩
  · refine ownset ?_ (by omega) 0 _
    rw [HS.out, ints_snoc', List.length_append]; exact hown'
  · simp at hs3 ⊢; omega
  · rw [Below.heap_setCell _ _ _ _ (by show N ≠ g; omega)]; exact hN3
/-- what 'apartCounter' holds -/
def ApI (g m : Nat) (N : Nat) (L : List Nat) (W : World) : Prop := BoxN W g #[.int .i64 (m : Nat), .int .i64 ((apartF m L).1 : Nat), .int .i64 ((apartF m L).2 : Nat)] 65 ∧ (apartF m L).1 ≤ 72
set_option maxHeartbeats 4000000 in
theorem apart_at (g m B lo : Nat) (hB : B ≤ g) (hg : g < lo) (hm : m ≤ 8) : TellStep 126 ⟨g, 0, none⟩ B lo (ApI g m) := by
  intro N L i W hlo hN hI hi64 hL
  obtain ⟨hX, he⟩ := hI
  have hn := apart_le m L
  have HS := Bx.mk (apart_snoc m L i)
  unfold ApI
  generalize apartF m (L ++ [i]) = s2 at *
  generalize apartF m L = s at *
  obtain ⟨e, n⟩ := s
  dsimp only at *
  have h0 := hX.c (k := 0) rfl
  have h1 := hX.c (k := 1) rfl
  have h2 := hX.c (k := 2) rfl
  have hf1 := hX.fr 1
  have hf2 := hX.fr 2
  have hl := hX.lt
  have HX := Bx.mk hX
  have HG := Bx.mk (And.intro hB (And.intro hg (And.intro hlo hN)))
  clear hX hB hg hlo hN
  by_cases hle : e ≤ i
  · have d1 : decide ((i : Int) ≥ (e : Int)) = true := decide_eq_true (by omega)
    have d2 : decide (e ≤ i) = true := decide_eq_true hle
    have HE : Bx (s2 = (i + m, n + 1)) := Bx.mk (by rw [HS.out]; unfold apart1; rw [if_pos hle])
    have y1 : IntKind.i64.wrap ((i : Int) + (m : Int)) = ((i + m : Nat) : Int) := by rw [IntWalk.i64_in _ (by omega)]; omega
    have y2 : IntKind.i64.wrap ((n : Int) + 1) = ((n + 1 : Nat) : Int) := by rw [IntWalk.i64_in _ (by omega)]; omega
    clear HS hle
    go_enter Try.func126, Try.ntmps126
    go_wp2_with (fail)
    go_end0
    have hG := HG.out
    have hsz : ((W.setCell ⟨g, 1, none⟩ (.int .i64 ((i + m : Nat) : Int))).setCell ⟨g, 2, none⟩ (.int .i64 ((n + 1 : Nat) : Int))).heap.size = W.heap.size := by simp
    refine ⟨rfl, ⟨?_, by rw [HE.out]; dsimp only; omega⟩, ((Below.refl B W).setCell (p := ⟨g, 1, none⟩) hG.1 _).setCell (p := ⟨g, 2, none⟩) hG.1 _, by simp, ?_⟩
    · rw [HE.out]
      have := (HX.out.put 1 (.int .i64 ((i + m : Nat) : Int))).put 2 (.int .i64 ((n + 1 : Nat) : Int))
      simpa using this
    · rw [Below.heap_setCell _ _ _ _ (by show N ≠ g; omega), Below.heap_setCell _ _ _ _ (by show N ≠ g; omega)]
  · have d1 : decide ((i : Int) ≥ (e : Int)) = false := decide_eq_false (by omega)
    have d2 : decide (e ≤ i) = false := decide_eq_false hle
    have HE : Bx (s2 = (e, n)) := Bx.mk (by rw [HS.out]; unfold apart1; rw [if_neg hle])
    clear HS hle
    go_enter Try.func126, Try.ntmps126
    go_wp2_with (fail)
    go_end0
    exact ⟨rfl, ⟨by rw [HE.out]; exact HX.out, by rw [HE.out]; exact he⟩, Below.refl B W, Nat.le_refl _, rfl⟩
end Go.Proofs.Ytobhmoohalkijaa

namespace Go.Proofs.Ytobhmoohalkijaa
open Go.ChangeShapes Go.WideShapes Go.ChangeAt Go.RowKit
set_option linter.unusedVariables false
set_option linter.unusedSimpArgs false
set_option maxRecDepth 100000

theorem finL_K {p t : List Int} (h : 0 < p.length) : finL p t t.length = natL (findK p t t.length) := by
  unfold finL natL
  rw [findN_all h]
set_option maxHeartbeats 4000000 in
theorem impl_findphrase (vt vp : Value) (t p : List Int) (w : World) (ht : IntsAt w vt t) (hp : IntsAt w vp p) (h1 : t.length ≤ 1048576) (h2 : p.length ≤ 1048576) :
    Calls Try.prog 26 #[vt, vp] w (LCOut (findE t p) w) := by
  have q1 := impl_isphrase vp p w hp h2
  have q2 := impl_pits vt t w ht h1
  have HT := Bx.mk ht
  have HP := Bx.mk hp
  have HO : Bx (findE t p = if phB p = true then (if pitB t = true then (finL p t t.length, 0) else ([], 7)) else ([], 1)) := Bx.mk rfl
  obtain ⟨A, c, rfl⟩ := ints_form ht
  obtain ⟨B, d, rfl⟩ := ints_form hp
  clear ht hp
  generalize findE t p = u at HO ⊢
  cases hph : phB p
  · have HE : Bx (u = ([], 1)) := Bx.mk (by rw [HO.out, hph]; rfl)
    rw [hph] at q1
    clear HO hph
    go_enter Try.func26, Try.ntmps26
    go_wp2_with (fail)
    refine q1.mono ?_
    rintro r w1 ⟨rfl, rfl⟩
    go_wp2_with (fail)
    go_returns
    exact lc_nil HE.out (Below.refl _ _)
  · rw [hph] at q1
    cases hpt : pitB t
    · have HE : Bx (u = ([], 7)) := Bx.mk (by rw [HO.out, hph, hpt]; rfl)
      rw [hpt] at q2
      clear HO hph hpt
      go_enter Try.func26, Try.ntmps26
      go_wp2_with (fail)
      refine q1.mono ?_
      rintro r w1 ⟨rfl, rfl⟩
      go_wp2_with (fail)
      refine q2.mono ?_
      rintro r w1 ⟨rfl, rfl⟩
      go_wp2_with (fail)
      go_returns
      exact lc_nil HE.out (Below.refl _ _)
    · obtain ⟨_, l2, l3⟩ := ph_yes hph
      have l1 := (pit_yes hpt).1
      have HE : Bx (u = (natL (findK p t t.length), 0)) := Bx.mk (by rw [HO.out, hph, hpt, ← finL_K (by omega)]; rfl)
      rw [hpt] at q2
      have q3 := tell_pl (PlI w.heap.size) w ⟨w.heap.size, 0, none⟩ _ _ t p (w.alloc (.cells #[.slice none 0 0] 60)) HT.out HP.out ((Below.refl _ _).alloc (Nat.le_refl _) _) l2 l3 l1
        (fun N W hW hN => ⟨by simp at hN; omega, .slice none 0 0, (BoxN.at w w.heap.size #[.slice none 0 0] 60 rfl).below hW, World.ownsRow_nil _ _ _ _⟩)
        (place_at w.heap.size w.heap.size _ (Nat.le_refl _) (by simp))
      clear HO hph hpt
      go_enter Try.func26, Try.ntmps26
      go_wp2_with (fail)
      refine q1.mono ?_
      rintro r w1 ⟨rfl, rfl⟩
      go_wp2_with (fail)
      refine q2.mono ?_
      rintro r w2 ⟨rfl, rfl⟩
      go_wp2_with (fail)
      refine q3.mono ?_
      rintro r w3 ⟨rfl, ⟨N, hN, v, hX, hown⟩, hb⟩
      have h0 := hX.c (k := 0) rfl
      have hl := hX.lt
      have HOW := Bx.mk hown
      obtain ⟨A3, c3, rfl⟩ := own_len hown
      have HD : Bx (w3.ownsRow w.heap.size 2 1 (.slice A3 (natL (findK p t t.length)).length c3) (natL (findK p t t.length)).length (ints (natL (findK p t t.length)))) := Bx.mk (owndown (by omega) HOW.out)
      clear hX hown HOW q3 q1 q2
      go_wp2_with (fail)
      go_returns
      exact lc_some HE.out HD.out hb

set_option maxHeartbeats 4000000 in
theorem impl_countapart (vt vp : Value) (t p : List Int) (w : World) (ht : IntsAt w vt t) (hp : IntsAt w vp p) (h1 : t.length ≤ 1048576) (h2 : p.length ≤ 1048576) :
    Calls Try.prog 30 #[vt, vp] w fun e w' => e = .returned (.tuple #[.int .i64 (apartE t p).1, .int .i64 (apartE t p).2]) ∧ Below w.heap.size w w' := by
  have q1 := impl_isphrase vp p w hp h2
  have q2 := impl_pits vt t w ht h1
  have HT := Bx.mk ht
  have HP := Bx.mk hp
  have HO : Bx (apartE t p = if phB p = true then (if pitB t = true then (((apaZ p t t.length : Nat) : Int), (0 : Int)) else (0, 7)) else (0, 1)) := Bx.mk rfl
  obtain ⟨A, c, rfl⟩ := ints_form ht
  obtain ⟨B, d, rfl⟩ := ints_form hp
  clear ht hp
  generalize apartE t p = u at HO ⊢
  obtain ⟨u1, u2⟩ := u
  cases hph : phB p
  · have HE : Bx ((u1, u2) = ((0 : Int), (1 : Int))) := Bx.mk (by rw [HO.out, hph]; rfl)
    rw [hph] at q1
    clear HO hph
    go_enter Try.func30, Try.ntmps30
    go_wp2_with (fail)
    refine q1.mono ?_
    rintro r w1 ⟨rfl, rfl⟩
    go_wp2_with (fail)
    go_returns
    exact ⟨pairR HE.out, Below.refl _ _⟩
  · rw [hph] at q1
    cases hpt : pitB t
    · have HE : Bx ((u1, u2) = ((0 : Int), (7 : Int))) := Bx.mk (by rw [HO.out, hph, hpt]; rfl)
      rw [hpt] at q2
      clear HO hph hpt
      go_enter Try.func30, Try.ntmps30
      go_wp2_with (fail)
      refine q1.mono ?_
      rintro r w1 ⟨rfl, rfl⟩
      go_wp2_with (fail)
      refine q2.mono ?_
      rintro r w1 ⟨rfl, rfl⟩
      go_wp2_with (fail)
      go_returns
      exact ⟨pairR HE.out, Below.refl _ _⟩
    · obtain ⟨_, l2, l3⟩ := ph_yes hph
      have l1 := (pit_yes hpt).1
      have HE : Bx ((u1, u2) = ((((apartF p.length (findK p t t.length)).2 : Nat) : Int), (0 : Int))) := Bx.mk (by rw [HO.out, hph, hpt]; unfold apaZ; rw [findN_all (by omega)]; rfl)
      rw [hpt] at q2
      have q3 := tell_ap (ApI w.heap.size p.length) w ⟨w.heap.size, 0, none⟩ _ _ t p (w.alloc (.cells #[.int .i64 (p.length : Nat), .int .i64 0, .int .i64 0] 65)) HT.out HP.out ((Below.refl _ _).alloc (Nat.le_refl _) _) l2 l3 l1
        (fun N W hW hN => ⟨(BoxN.at w w.heap.size #[.int .i64 (p.length : Nat), .int .i64 0, .int .i64 0] 65 rfl).below hW, by simp [apartF]⟩)
        (apart_at w.heap.size p.length w.heap.size _ (Nat.le_refl _) (by simp) l3)
      clear HO hph hpt
      go_enter Try.func30, Try.ntmps30
      go_wp2_with (fail)
      refine q1.mono ?_
      rintro r w1 ⟨rfl, rfl⟩
      go_wp2_with (fail)
      refine q2.mono ?_
      rintro r w2 ⟨rfl, rfl⟩
      go_wp2_with (fail)
      refine q3.mono ?_
      rintro r w3 ⟨rfl, ⟨N, hX, _⟩, hb⟩
      have h2 := hX.c (k := 2) rfl
      have hl := hX.lt
      clear hX q3 q1 q2
      go_wp2_with (fail)
      go_returns
      exact ⟨pairR HE.out, hb⟩
end Go.Proofs.Ytobhmoohalkijaa

namespace Go.Proofs.Ytobhmoohalkijaa.fnExactCountApart
open Go.ChangeShapes Go.WideShapes Go.ChangeAt Go.RowKit
set_option linter.unusedVariables false
set_option linter.unusedSimpArgs false
set_option maxRecDepth 100000

set_option maxHeartbeats 4000000 in
theorem walk (v0 : Value) (zs0 : List Int) {w : World} (w0 : IntsAt w v0 zs0 ∧ zs0.length ≤ 9223372036854775807) (v1 : Value) (zs1 : List Int) (w1 : IntsAt w v1 zs1 ∧ zs1.length ≤ 9223372036854775807) :
    Calls Try.prog 6 #[v0, v1] w fun e w' => e = .returned (.bool true) ∧ Below w.heap.size w w' := by
  obtain ⟨hi0, hmax0⟩ := w0
  obtain ⟨A0, c0, rfl⟩ := len_of hi0
  obtain ⟨hi1, hmax1⟩ := w1
  obtain ⟨A1, c1, rfl⟩ := len_of hi1
  by_cases hb0 : 1048576 < zs0.length
  · clear hi0 hi1
    go_enter Try.func6, Try.ntmps6
    go_wp2_with (fail)
    go_ret
    exact ⟨rfl, Below.refl _ _⟩
  · have hz0 : zs0.length ≤ 1048576 := by omega
    by_cases hb1 : 1048576 < zs1.length
    · clear hi0 hi1
      go_enter Try.func6, Try.ntmps6
      go_wp2_with (fail)
      go_ret
      exact ⟨rfl, Below.refl _ _⟩
    · have hz1 : zs1.length ≤ 1048576 := by omega
      have HI0 := Bx.mk hi0
      have HI1 := Bx.mk hi1
      clear hi0 hi1
      have B0 : Bx (Below w.heap.size w w) := Bx.mk (Below.refl _ _)
      have hs : ∀ u0 u1 W, IntsAt W u0 zs0 → IntsAt W u1 zs1 → Calls Try.prog 29 #[u0, u1] W (ValOut (.tuple #[.int .i64 (apartE zs0 zs1).1, .int .i64 (apartE zs0 zs1).2]) W) := fun u0 u1 W h0 h1 => vout (spec_countapart u0 u1 zs0 zs1 W h0 h1 (by omega) (by omega))
      have hi : ∀ u0 u1 W, IntsAt W u0 zs0 → IntsAt W u1 zs1 → Calls Try.prog 30 #[u0, u1] W (ValOut (.tuple #[.int .i64 (apartE zs0 zs1).1, .int .i64 (apartE zs0 zs1).2]) W) := fun u0 u1 W h0 h1 => vout (impl_countapart u0 u1 zs0 zs1 W h0 h1 (by omega) (by omega))
      generalize (apartE zs0 zs1).1 = r1 at hs hi
      generalize (apartE zs0 zs1).2 = r2 at hs hi
      go_enter Try.func6, Try.ntmps6
      go_wp2_with (fail)
      refine (copy_ints _ zs0 w (HI0.out.below B0.out) (by omega)).mono ?_
      rintro e1 q1 ⟨va0, rfl, ho, hb⟩
      have B1 : Bx (Below w.heap.size w q1) := Bx.mk (B0.out.trans (hb.mono B0.out.size))
      have SZ1 : Bx (w.heap.size ≤ q1.heap.size) := Bx.mk hb.size
      have Oa0_1 := Bx.mk ho
      have Ua0 := Bx.mk (own_hi ho)
      clear ho
      clear hb
      go_wp2_with (fail)
      refine (copy_ints _ zs1 q1 (HI1.out.below B1.out) (by omega)).mono ?_
      rintro e2 q2 ⟨va1, rfl, ho, hb⟩
      have B2 : Bx (Below w.heap.size w q2) := Bx.mk (B1.out.trans (hb.mono B1.out.size))
      have SZ2 : Bx (q1.heap.size ≤ q2.heap.size) := Bx.mk hb.size
      have Oa0_2 := Bx.mk (own_below Oa0_1.out hb)
      clear Oa0_1
      have Oa1_2 := Bx.mk ho
      have Ua1 := Bx.mk (own_hi ho)
      clear ho
      clear hb
      go_wp2_with (fail)
      refine (hs _ _ _ (IntsAt.own Oa0_2.out) (IntsAt.own Oa1_2.out)).mono ?_
      rintro e3 q3 ⟨rfl, hb⟩
      have B3 : Bx (Below w.heap.size w q3) := Bx.mk (B2.out.trans (hb.mono B2.out.size))
      have SZ3 : Bx (q2.heap.size ≤ q3.heap.size) := Bx.mk hb.size
      have Oa0_3 := Bx.mk (own_below Oa0_2.out hb)
      have Oa1_3 := Bx.mk (own_below Oa1_2.out hb)
      clear Oa0_2 Oa1_2
      clear hb
      go_wp2_with (fail)
      refine (copy_ints _ zs0 q3 (HI0.out.below B3.out) (by omega)).mono ?_
      rintro e4 q4 ⟨vb0, rfl, ho, hb⟩
      have B4 : Bx (Below w.heap.size w q4) := Bx.mk (B3.out.trans (hb.mono B3.out.size))
      have SZ4 : Bx (q3.heap.size ≤ q4.heap.size) := Bx.mk hb.size
      have Oa0_4 := Bx.mk (own_below Oa0_3.out hb)
      have Oa1_4 := Bx.mk (own_below Oa1_3.out hb)
      clear Oa0_3 Oa1_3
      have Ob0_4 := Bx.mk ho
      have Ub0 := Bx.mk (own_hi ho)
      clear ho
      clear hb
      go_wp2_with (fail)
      refine (copy_ints _ zs1 q4 (HI1.out.below B4.out) (by omega)).mono ?_
      rintro e5 q5 ⟨vb1, rfl, ho, hb⟩
      have B5 : Bx (Below w.heap.size w q5) := Bx.mk (B4.out.trans (hb.mono B4.out.size))
      have SZ5 : Bx (q4.heap.size ≤ q5.heap.size) := Bx.mk hb.size
      have Oa0_5 := Bx.mk (own_below Oa0_4.out hb)
      have Oa1_5 := Bx.mk (own_below Oa1_4.out hb)
      have Ob0_5 := Bx.mk (own_below Ob0_4.out hb)
      clear Oa0_4 Oa1_4 Ob0_4
      have Ob1_5 := Bx.mk ho
      have Ub1 := Bx.mk (own_hi ho)
      clear ho
      clear hb
      go_wp2_with (fail)
      refine (hi _ _ _ (IntsAt.own Ob0_5.out) (IntsAt.own Ob1_5.out)).mono ?_
      rintro e6 q6 ⟨rfl, hb⟩
      have B6 : Bx (Below w.heap.size w q6) := Bx.mk (B5.out.trans (hb.mono B5.out.size))
      have SZ6 : Bx (q5.heap.size ≤ q6.heap.size) := Bx.mk hb.size
      have Oa0_6 := Bx.mk (own_below Oa0_5.out hb)
      have Oa1_6 := Bx.mk (own_below Oa1_5.out hb)
      have Ob0_6 := Bx.mk (own_below Ob0_5.out hb)
      have Ob1_6 := Bx.mk (own_below Ob1_5.out hb)
      clear Oa0_5 Oa1_5 Ob0_5 Ob1_5
      clear hb
      go_wp2_with (fail)
      refine (copy_ints _ zs0 q6 (HI0.out.below B6.out) (by omega)).mono ?_
      rintro e7 q7 ⟨vc0, rfl, ho, hb⟩
      have B7 : Bx (Below w.heap.size w q7) := Bx.mk (B6.out.trans (hb.mono B6.out.size))
      have SZ7 : Bx (q6.heap.size ≤ q7.heap.size) := Bx.mk hb.size
      have Oa0_7 := Bx.mk (own_below Oa0_6.out hb)
      have Oa1_7 := Bx.mk (own_below Oa1_6.out hb)
      have Ob0_7 := Bx.mk (own_below Ob0_6.out hb)
      have Ob1_7 := Bx.mk (own_below Ob1_6.out hb)
      clear Oa0_6 Oa1_6 Ob0_6 Ob1_6
      have Oc0_7 := Bx.mk ho
      have Uc0 := Bx.mk (own_hi ho)
      clear ho
      clear hb
      go_wp2_with (fail)
      refine (eq_ints _ _ zs0 zs0 _ (IntsAt.own Ob0_7.out) (IntsAt.own Oc0_7.out) (by omega) (by omega)).mono ?_
      rintro e8 q8 ⟨rfl, hd⟩
      have hb := below_dr hd
      clear hd
      have B8 : Bx (Below w.heap.size w q8) := Bx.mk (B7.out.trans (hb.mono B7.out.size))
      have SZ8 : Bx (q7.heap.size ≤ q8.heap.size) := Bx.mk hb.size
      have Oa0_8 := Bx.mk (own_below Oa0_7.out hb)
      have Oa1_8 := Bx.mk (own_below Oa1_7.out hb)
      have Ob0_8 := Bx.mk (own_below Ob0_7.out hb)
      have Ob1_8 := Bx.mk (own_below Ob1_7.out hb)
      have Oc0_8 := Bx.mk (own_below Oc0_7.out hb)
      clear Oa0_7 Oa1_7 Ob0_7 Ob1_7 Oc0_7
      clear hb
      go_wp2_with (fail)
      refine (copy_ints _ zs1 q8 (HI1.out.below B8.out) (by omega)).mono ?_
      rintro e9 q9 ⟨vc1, rfl, ho, hb⟩
      have B9 : Bx (Below w.heap.size w q9) := Bx.mk (B8.out.trans (hb.mono B8.out.size))
      have SZ9 : Bx (q8.heap.size ≤ q9.heap.size) := Bx.mk hb.size
      have Oa0_9 := Bx.mk (own_below Oa0_8.out hb)
      have Oa1_9 := Bx.mk (own_below Oa1_8.out hb)
      have Ob0_9 := Bx.mk (own_below Ob0_8.out hb)
      have Ob1_9 := Bx.mk (own_below Ob1_8.out hb)
      have Oc0_9 := Bx.mk (own_below Oc0_8.out hb)
      clear Oa0_8 Oa1_8 Ob0_8 Ob1_8 Oc0_8
      have Oc1_9 := Bx.mk ho
      have Uc1 := Bx.mk (own_hi ho)
      clear ho
      clear hb
      go_wp2_with (fail)
      refine (eq_ints _ _ zs1 zs1 _ (IntsAt.own Ob1_9.out) (IntsAt.own Oc1_9.out) (by omega) (by omega)).mono ?_
      rintro e10 q10 ⟨rfl, hd⟩
      have hb := below_dr hd
      clear hd
      have B10 : Bx (Below w.heap.size w q10) := Bx.mk (B9.out.trans (hb.mono B9.out.size))
      have SZ10 : Bx (q9.heap.size ≤ q10.heap.size) := Bx.mk hb.size
      have Oa0_10 := Bx.mk (own_below Oa0_9.out hb)
      have Oa1_10 := Bx.mk (own_below Oa1_9.out hb)
      have Ob0_10 := Bx.mk (own_below Ob0_9.out hb)
      have Ob1_10 := Bx.mk (own_below Ob1_9.out hb)
      have Oc0_10 := Bx.mk (own_below Oc0_9.out hb)
      have Oc1_10 := Bx.mk (own_below Oc1_9.out hb)
      clear Oa0_9 Oa1_9 Ob0_9 Ob1_9 Oc0_9 Oc1_9
      clear hb
      go_wp2_with (fail)
      go_ret
      exact ⟨rfl, B10.out⟩

theorem own : ownKnob Try.prog.godebug = none := by kernel_rfl
theorem laidOut : laidOutB Try.prog = true := by kernel_rfl

set_option maxRecDepth 100000 in
theorem lifted (os : Os) (started : os.Started) (H : Type) (enc : TypeId × Value → H) :
    ReturnsInHanded {} Try.checked os 6 .any (Rows.fnExactCountApartSpec.pre6 enc Try.prog Try.f6 Rows.fnExactCountApartRow.domain false) (Rows.fnExactCountApartSpec.post enc Try.prog Try.f6 false true false false) := by
  refine returnsInHanded_of_change (C := Try.checked) own started (by kernel_rfl) Try.func6
    (ChangeSpec.witness6 (enc := enc) (C := Try.checked) false ⟨#[], #[.slice none 0 0, .slice none 0 0], []⟩ 8 (by kernel_rfl) (by kernel_rfl) (by kernel_rfl) (by kernel_rfl)) ?_
  intro W base args ds gs before hval0 hW hcnd _
  have hval : ∀ (j : Nat) t v, Try.f6.params[j]? = some t → args[j]? = some v → Value.okWide Try.prog W .any base t v := hval0
  have hW' := hW
  obtain ⟨p, q, hA0, hV, rfl, hfz, hnd⟩ := hW
  have hA : DataW.TrodAll enc Try.prog W 0 (fun _ => true) true Try.f6.params.toList args.toList ds p := hA0
  rw [Try.params6] at hA hval
  obtain ⟨v0, vs0, d0, ds0, p0, q0, hargs, rfl, rfl, h0, r0⟩ := trodAll_cons hA
  obtain ⟨v1, vs1, d1, ds1, p1, q1, rfl, rfl, rfl, h1, r1⟩ := trodAll_cons r0
  obtain ⟨rfl, rfl, rfl⟩ := trodAll_nil r1
  obtain rfl : args = #[v0, v1] := by cases args; simp_all
  obtain ⟨rfl, rfl⟩ := trodVars_none hV
  obtain ⟨zs0, w0⟩ := arg_ints (hval 0 27 v0 rfl rfl) h0 (fun x hx => hW'.lt x (by simp [hx]))
  obtain ⟨zs1, w1⟩ := arg_ints (hval 1 27 v1 rfl rfl) h1 (fun x hx => hW'.lt x (by simp [hx]))
  clear hA0 hval0
  refine (walk v0 zs0 w0 v1 zs1 w1).mono fun e W' ⟨he, hb⟩ => ?_
  subst he
  exact ⟨_, rfl, post_law laidOut (by kernel_rfl) (by kernel_rfl) Try.underlying4 rfl hW' rfl hb⟩

theorem closed : joinedFacts Try.pinned.checked.prog 6 Try.f6 Rows.fnExactCountApartSpec Rows.fnExactCountApartRow = true := by
  unfold joinedFacts
  rw [may, lifts, made]
  kernel_rfl
theorem over : Rows.fnExactCountApartRow.holds Try.pinned (OpenSpec.ofChange Rows.fnExactCountApartSpec) :=
  OpenClaim.holds_of_wide 6 Try.f6 rfl rfl rfl rfl rfl rfl rfl ⟨rfl, rfl, rfl, rfl, rfl⟩ rfl rfl rfl rfl rfl (by kernel_rfl) Try.func6 closed
    (of_decide_eq_true (by kernel_rfl)) (by unfold Func.isWrapper; first | (rw [if_pos (by decide +kernel)]; kernel_rfl) | (rw [if_neg (by decide +kernel)]; exact ⟨rfl, rfl⟩))
    (fun os started H enc _ => lifted os started H enc)

theorem proved : Rows.FnExactCountApartSaid := over
#print axioms proved
end Go.Proofs.Ytobhmoohalkijaa.fnExactCountApart
