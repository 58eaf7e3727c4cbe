/- Phrases, by the program: the table of borders; BorderOf. -/
import Derived.Test.YtobhmoohalkijaaPi
import Derived.Test.YtobhmoohalkijaaPo2
import Derived.Test.YtobhmoohalkijaaAr
namespace Go.Proofs.Ytobhmoohalkijaa
open Go.ChangeShapes Go.WideShapes Go.ChangeAt Go.RowKit
set_option linter.unusedVariables false
set_option linter.unusedSimpArgs false
set_option maxRecDepth 100000

theorem ints_set (T : List Int) (k : Nat) (v : Int) : (ints T).set k (.int .i64 v) = ints (T.set k v) := by simp [ints, List.map_set]
/-- the first k borders stand in a table -/
def BrdT (p T : List Int) (k : Nat) : Prop := ∀ i, i < k → ∃ x : Nat, T.getD i 0 = (x : Int) ∧ Brd p (i + 1) x
theorem BrdT.step {p T : List Int} {k b : Nat} (h : BrdT p T k) (h8 : T.length = 8) (hk : k < 8) (hb : Brd p (k + 1) b) : Bx (BrdT p (T.set k (b : Int)) (k + 1)) := Bx.mk (fun i hi => by
  by_cases hik : i = k
  · subst hik
    exact ⟨b, by simp [List.getD, h8, hk], hb⟩
  · obtain ⟨x, h1, h2⟩ := h i (by omega)
    exact ⟨x, by rw [← h1]; simp only [List.getD]; rw [List.getElem?_set_ne (fun e => hik e.symm)], h2⟩)
theorem info_brd (T : List Int) (h : T.length = 8) : (Try.prog.info? 68).map (·.size) = some (ints T).toArray.size := by
  have h0 : (Try.prog.info? 68).map (·.size) = some 8 := by kernel_rfl
  rw [h0]; simp [ints, h]
theorem ints_one (T : List Int) : (ints T).toArray.all (·.oneCell') = true := by simp [ints, Value.oneCell']
theorem ints_zero8 : ints (List.replicate 8 0) = [.int .i64 0, .int .i64 0, .int .i64 0, .int .i64 0, .int .i64 0, .int .i64 0, .int .i64 0, .int .i64 0] := rfl
set_option maxHeartbeats 8000000 in
theorem impl_borders (v : Value) (p : List Int) (w : World) (h : IntsAt w v p) (h1 : 1 ≤ p.length) (h8 : p.length ≤ 8) :
    Calls Try.prog 57 #[v] w fun e w' => ∃ T : List Int, e = .returned (.agg (ints T).toArray) ∧ T.length = 8 ∧ BrdT p T p.length ∧ Below w.heap.size w w' := by
  obtain ⟨A, c, rfl⟩ := ints_form h
  have HI := Bx.mk h
  clear h
  go_enter Try.func57, Try.ntmps57
  go_wp2_with (fail)
  go_loopw [4, 5] (fun bv i wr => ∃ (k b : Nat) (T : List Int), (1 ≤ k ∧ k ≤ p.length) ∧ i = .int .i64 k ∧ bv = .int .i64 b ∧ Bx (Brd p k b) ∧ Bx (BrdT p T k) ∧ Bx (T.length = 8) ∧ Bx (ArrAt wr (w.heap.size + 1) (ints T) 68) ∧ Bx (ArrAt wr w.heap.size (ints (List.replicate 8 0)) 68) ∧ Bx (Below w.heap.size w wr)) (fun _ i _ => p.length - (intOf i).toNat)
  case atStart =>
    refine ⟨1, 0, List.replicate 8 0, by omega, by first | rfl | go_num, by first | rfl | go_num, Bx.mk (Brd.one p), Bx.mk (fun i hi => ⟨0, ?_, ?_⟩), Bx.mk rfl, Bx.mk ?_, Bx.mk ?_, Bx.mk (((Below.refl _ _).alloc (Nat.le_refl _) _).alloc (by simp) _)⟩
    · obtain rfl : i = 0 := by omega
      rfl
    · obtain rfl : i = 0 := by omega
      exact Brd.one p
    · exact ArrAt.at _ _ _ _ (by simp)
    · exact (ArrAt.at _ _ _ _ (by simp)).alloc _
  case round =>
    obtain ⟨k, b, T, ⟨hk1, hk⟩, rfl, rfl, HBr, HT, HT8, HA, HR, HB⟩ := hrel
    by_cases hlt : k < p.length
    · obtain ⟨bb, o, cc, hv, lb, hc⟩ := HI.out.form (by omega)
      injection hv with hA _ hC
      subst hA hC
      have hT8 := HT8.out
      have hk8 : k < 8 := by omega
      have d1 : decide ((k : Int) < (p.length : Int)) = true := decide_eq_true (by omega)
      have k1 : (0 : Int) ≤ (k : Int) := by omega
      have k2 : (k : Int) < (p.length : Int) := by omega
      have k3 : (k : Int) < 8 := by omega
      have HC0 := Bx.mk hc
      clear hc
      go_wp2_with (fail)
      go_loopw [4] (fun bv wr => ∃ b : Nat, bv = .int .i64 b ∧ Bx (Cnd p p k k b) ∧ Bx (ArrAt wr (w.heap.size + 1) (ints T) 68) ∧ Bx (ArrAt wr w.heap.size (ints (List.replicate 8 0)) 68) ∧ Bx (Below w.heap.size w wr)) (fun bv _ => (intOf bv).toNat)
      case atStart => exact ⟨b, rfl, Bx.mk HBr.out.cnd, HA, HR, HB⟩
      case round =>
        clear HBr
        clear HA HR HB
        obtain ⟨b, rfl, HC, HA, HR, HB⟩ := hrel
        have hbk := HC.out.lt
        have x1 : wr.cell? ⟨bb, o + b, none⟩ = some (.int .i64 (p.getD b 0)) := (HB.out.cell (p := ⟨bb, o + b, none⟩) lb).trans (HC0.out b (by omega))
        have x2 : wr.cell? ⟨bb, o + k, none⟩ = some (.int .i64 (p.getD k 0)) := (HB.out.cell (p := ⟨bb, o + k, none⟩) lb).trans (HC0.out k hlt)
        have HXY : Bx (p.getD b 0 = p.getD b 0) := Bx.mk rfl
        have b1 : (0 : Int) ≤ (b : Int) := by omega
        have b2 : (b : Int) < (p.length : Int) := by omega
        have a0 : wr.cell? ⟨w.heap.size + 1, k, none⟩ = some (.int .i64 (T.getD k 0)) := by rw [HA.out.cell, ints_at T k (by omega)]
        have af := HA.out.f0 k
        have al := HA.out.lt
        have HXE : Bx (p.getD b 0 = p.getD k 0 → p.getD b 0 = p.getD k 0) := Bx.mk id
        clear HXY
        by_cases hxe : p.getD b 0 = p.getD k 0
        · have HXY : Bx (p.getD b 0 = p.getD k 0) := Bx.mk hxe
          have hxy := hxe
          clear hxe HXE HC0 HI lb
          generalize hx : p.getD b 0 = x at x1 hxy
          generalize hy : p.getD k 0 = y at x2 hxy
          clear hx hy
          generalize T.getD k 0 = tk at a0
          by_cases hb0 : 0 < b
          · have d0 : decide ((b : Int) > 0) = true := decide_eq_true (by omega)
            have d3 : (x != y) = false := by simp [hxy]
            have d4 : (x == y) = true := by simp [hxy]
            have HN : Bx (Brd p (k + 1) (b + 1)) := Bx.mk (HC.out.brd HXY.out)
            have y5 : IntKind.i64.wrap ((b : Int) + 1) = ((b + 1 : Nat) : Int) := by rw [IntWalk.i64_in _ (by omega)]; omega
            clear hxy HXY HC
            go_wp2_with (fail)
            go_quiet (fail)
            go_wp2_with (fail)
            go_quiet (fail)
            go_wp2_with (fail)
            go_roundw
            case rel => exact ⟨k + 1, b + 1, T.set k ((b + 1 : Nat) : Int), by omega, by go_num, by first | rfl | go_num, HN, HT.out.step hT8 hk8 HN.out, Bx.mk (by rw [List.length_set]; exact hT8), Bx.mk (by rw [← ints_set]; exact ArrAt.put (by first | exact HA.out | exact HA.out.draws _ | exact (HA.out.draws _).draws _) _ _), Bx.mk (ArrAt.other (by omega) (by first | exact HR.out | exact HR.out.draws _ | exact (HR.out.draws _).draws _) _), Bx.mk (Below.setCell (by first | exact HB.out | exact below_draws HB.out _ | exact below_draws (below_draws HB.out _) _) (by dsimp only; omega) _)⟩
            case measure => simp [intOf]; omega
          · have d0 : decide ((b : Int) > 0) = false := decide_eq_false (by omega)
            have d3 : (x != y) = false := by simp [hxy]
            have d4 : (x == y) = true := by simp [hxy]
            have HN : Bx (Brd p (k + 1) (b + 1)) := Bx.mk (HC.out.brd HXY.out)
            have y5 : IntKind.i64.wrap ((b : Int) + 1) = ((b + 1 : Nat) : Int) := by rw [IntWalk.i64_in _ (by omega)]; omega
            clear hxy HXY HC
            go_wp2_with (fail)
            go_quiet (fail)
            go_wp2_with (fail)
            go_quiet (fail)
            go_wp2_with (fail)
            go_roundw
            case rel => exact ⟨k + 1, b + 1, T.set k ((b + 1 : Nat) : Int), by omega, by go_num, by first | rfl | go_num, HN, HT.out.step hT8 hk8 HN.out, Bx.mk (by rw [List.length_set]; exact hT8), Bx.mk (by rw [← ints_set]; exact ArrAt.put (by first | exact HA.out | exact HA.out.draws _ | exact (HA.out.draws _).draws _) _ _), Bx.mk (ArrAt.other (by omega) (by first | exact HR.out | exact HR.out.draws _ | exact (HR.out.draws _).draws _) _), Bx.mk (Below.setCell (by first | exact HB.out | exact below_draws HB.out _ | exact below_draws (below_draws HB.out _) _) (by dsimp only; omega) _)⟩
            case measure => simp [intOf]; omega
        · have HXY : Bx (p.getD b 0 ≠ p.getD k 0) := Bx.mk hxe
          have HXE : Bx (p.getD b 0 = p.getD k 0 → p.getD b 0 = p.getD k 0) := Bx.mk id
          by_cases hb0 : 0 < b
          · obtain ⟨x', e1, e2⟩ := HT.out (b - 1) (by omega)
            rw [show b - 1 + 1 = b by omega] at e2
            have HN := Bx.mk (HC.out.down e2 hxe)
            have hxb := e2.lt
            have a1 : wr.cell? ⟨w.heap.size + 1, b - 1, none⟩ = some (.int .i64 (x' : Int)) := by rw [HA.out.cell, ints_at T (b - 1) (by omega), e1]
            have hxy := hxe
            clear hxe HXE HC0 HI lb HC e1 e2 a0
            generalize hx : p.getD b 0 = x at x1 hxy
            generalize hy : p.getD k 0 = y at x2 hxy
            clear hx hy HXY
            have d0 : decide ((b : Int) > 0) = true := decide_eq_true (by omega)
            have d3 : (x != y) = true := by simpa using hxy
            have y5 : IntKind.i64.wrap ((b : Int) - 1) = ((b - 1 : Nat) : Int) := by rw [IntWalk.i64_in _ (by omega)]; omega
            have y6 : (0 : Int) ≤ ((b - 1 : Nat) : Int) := by omega
            have y7 : ((b - 1 : Nat) : Int) < 8 := by omega
            have y8 : ((b - 1 : Nat) : Int).toNat = b - 1 := by omega
            clear hxy
            go_wp2_with (fail)
            go_quiet (fail)
            go_wp2_with (fail)
            go_roundw
            case rel => exact ⟨x', by first | rfl | go_num, HN, Bx.mk (by first | exact HA.out | exact HA.out.draws _), Bx.mk (by first | exact HR.out | exact HR.out.draws _), Bx.mk (by first | exact HB.out | exact below_draws HB.out _)⟩
            case measure => simp [intOf]; omega
          · have hxy := hxe
            clear hxe HC0 HI lb
            generalize hx : p.getD b 0 = x at x1 hxy
            generalize hy : p.getD k 0 = y at x2 hxy
            have HXE : Bx (p.getD b 0 = p.getD k 0 → x = y) := Bx.mk (fun e => by rw [hx, hy] at e; exact e)
            clear hx hy
            generalize T.getD k 0 = tk at a0
            have d0 : decide ((b : Int) > 0) = false := decide_eq_false (by omega)
            have d4 : (x == y) = false := by simpa using hxy
            have HN : Bx (Brd p (k + 1) b) := Bx.mk (by
              have hb0 : b = 0 := by omega
              have h := HC.out
              have hne : p.getD b 0 ≠ p.getD k 0 := fun e => hxy (HXE.out e)
              rw [hb0] at h hne ⊢
              exact h.brd0 hne)
            clear hxy HXY HXE HC
            go_wp2_with (fail)
            go_quiet (fail)
            go_wp2_with (fail)
            go_quiet (fail)
            go_wp2_with (fail)
            go_roundw
            case rel => exact ⟨k + 1, b, T.set k (b : Int), by omega, by go_num, by first | rfl | go_num, HN, HT.out.step hT8 hk8 HN.out, Bx.mk (by rw [List.length_set]; exact hT8), Bx.mk (by rw [← ints_set]; exact ArrAt.put (by first | exact HA.out | exact HA.out.draws _ | exact (HA.out.draws _).draws _) _ _), Bx.mk (ArrAt.other (by omega) (by first | exact HR.out | exact HR.out.draws _ | exact (HR.out.draws _).draws _) _), Bx.mk (Below.setCell (by first | exact HB.out | exact below_draws HB.out _ | exact below_draws (below_draws HB.out _) _) (by dsimp only; omega) _)⟩
            case measure => simp [intOf]; omega
    · obtain rfl : k = p.length := by omega
      have d1 : decide ((p.length : Int) < (p.length : Int)) = false := decide_eq_false (by omega)
      have hT8 := HT8.out
      have hld := HA.out.load 8 3 Try.underlying68 (info_brd T hT8)
      have hst := HR.out.store (ints T).toArray (info_brd T hT8) (by simp [ints, hT8]) (ints_one T)
      have P := setRow_at HR.out (ints T).toArray
      have hB := setRow_below HB.out (Nat.le_refl _) (ints T).toArray
      have HLL := Bx.mk (info_brd T hT8)
      have HTT := Bx.mk HT.out
      clear HA HR HB HT HBr HI
      generalize hL : ints T = L at *
      have HLE := Bx.mk hL
      clear hL
      go_upto_region 11 with (fail)
      refine wp_region_lit ?_
      refine wpR_lod rfl 68 _ rfl (.pointer (some ⟨w.heap.size + 1, 0, none⟩)) _ rfl hld ?_
      refine wpR_sto rfl 68 _ _ rfl (.pointer (some ⟨w.heap.size, 0, none⟩)) _ rfl rfl hst ?_
      refine wpList_nil ?_
      generalize wr.setRow w.heap.size L.toArray = W2 at *
      have hP : ArrAt W2 w.heap.size L 68 := by simpa using P
      clear hld hst P
      go_wp2_with (fail)
      refine bodyPost_ret (v := .agg L.toArray) ?_ rfl ⟨T, by rw [HLE.out], hT8, HTT.out, hB⟩
      exact results_cell_row Try.results57 _ W2 w.heap.size _ L.toArray (0, 0) _ (by simp [go_sem, Act.put]) hP Try.underlying68 rfl HLL.out
end Go.Proofs.Ytobhmoohalkijaa
