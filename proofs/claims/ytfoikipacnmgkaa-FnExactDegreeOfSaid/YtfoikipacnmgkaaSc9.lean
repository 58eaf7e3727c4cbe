/- Scales: the same list, the rotation to another, by the model. -/
import Derived.Test.YtfoikipacnmgkaaSc8
namespace Go.Proofs.Ytfoikipacnmgkaa
open Go.ChangeShapes Go.WideShapes Go.ChangeAt Go.RowKit
set_option linter.unusedVariables false
set_option linter.unusedSimpArgs false
set_option maxRecDepth 100000

set_option maxHeartbeats 1000000 in
theorem spec_same (va vb : Value) (xs ys : List Int) (w : World) (ha : IntsAt w va xs) (hb : IntsAt w vb ys) (hx : xs.length ≤ 281474976710656) (hy : ys.length ≤ 281474976710656) :
    Calls Try.prog 88 #[va, vb] w fun e w' => e = .returned (.bool (decide (xs = ys))) ∧ ∃ n, w' = w.drewN n := by
  by_cases hl : xs.length = ys.length
  · rcases ha with ⟨rfl, A, c, rfl⟩ | ⟨b1, o1, c1, rfl, _, h1⟩
    · have hy0 : ys = [] := List.eq_nil_of_length_eq_zero hl.symm
      subst hy0
      obtain ⟨B, c', rfl⟩ : ∃ B c', vb = .slice B 0 c' := by
        rcases hb with ⟨_, B, c', h⟩ | ⟨b, o, c', h, _⟩
        · exact ⟨B, c', h⟩
        · exact ⟨_, c', h⟩
      clear hb hl hx hy
      go_enter Try.func88, Try.ntmps88
      go_wp2
      refine wp_loop_rounds 1 ?_
      rw [rounds_succ]
      go_wp2
      go_ret
      exact ⟨ret_bool (by simp), 0, rfl⟩
    · rcases hb with ⟨rfl, B, c', rfl⟩ | ⟨b2, o2, c2, rfl, _, h2⟩
      · have hx0 : xs = [] := List.eq_nil_of_length_eq_zero hl
        subst hx0
        clear hl hx hy h1
        go_enter Try.func88, Try.ntmps88
        go_wp2
        refine wp_loop_rounds 1 ?_
        rw [rounds_succ]
        go_wp2
        go_ret
        exact ⟨ret_bool (by simp), 0, rfl⟩
      · have H1 := Bx.mk h1
        have H2 := Bx.mk h2
        have HL := Bx.mk hl
        have hle : ((xs.length : Int) != (ys.length : Int)) = false := by simp; omega
        clear h1 h2 hl
        go_enter Try.func88, Try.ntmps88
        go_wp2
        go_loopw [5] (fun i wr => ∃ k n : Nat, k ≤ xs.length ∧ i = .int .i64 k ∧ Bx (xs.take k = ys.take k) ∧ wr = w.drewN n) (fun i _ => xs.length - (intOf i).toNat)
        case atStart => exact ⟨0, 0, Nat.zero_le _, rfl, Bx.mk rfl, rfl⟩
        case round =>
          obtain ⟨k, n, hk, rfl, HK, rfl⟩ := hrel
          by_cases hlt : k < xs.length
          · have hlt2 : k < ys.length := by have := HL.out; omega
            have c1 := H1.out k hlt
            have c2 := H2.out k hlt2
            have HS := Bx.mk (take_eq_succ xs ys k hlt hlt2 HK.out)
            have HT := Bx.mk (take_ne xs ys k hlt hlt2)
            generalize xs.getD k 0 = p at c1 HS HT
            generalize ys.getD k 0 = q at c2 HS HT
            by_cases hpq : p = q
            · subst hpq
              have HS2 := Bx.mk (HS.out rfl)
              clear HS HT
              go_wp2
              go_quiet (fail)
              go_wp2
              go_roundw
              case rel => exact ⟨k + 1, _, by omega, by go_num, HS2, rfl⟩
              case measure => simp [intOf]; omega
            · have hne : (p != q) = true := by simpa using hpq
              have HT2 := Bx.mk (HT.out hpq)
              clear HS HT hpq
              go_wp2
              go_quiet (fail)
              go_wp2
              go_ret
              exact ⟨ret_bool (by simpa using HT2.out), n + nq, by rw [World.drewN_drewN]⟩
          · have HE : Bx (xs = ys) := Bx.mk (by have := HK.out; rwa [List.take_of_length_le (by omega), List.take_of_length_le (by have := HL.out; omega)] at this)
            go_wp2
            go_ret
            exact ⟨ret_bool (by simpa using HE.out), _, rfl⟩
  · have hle : ((xs.length : Int) != (ys.length : Int)) = true := by simp; omega
    have HN : Bx (xs ≠ ys) := Bx.mk (by rintro rfl; exact hl rfl)
    obtain ⟨A, c, rfl⟩ : ∃ A c, va = .slice A xs.length c := by
      rcases ha with ⟨rfl, A, c, h⟩ | ⟨b, o, c, h, _⟩
      · exact ⟨A, c, h⟩
      · exact ⟨_, c, h⟩
    obtain ⟨B, c', rfl⟩ : ∃ B c, vb = .slice B ys.length c := by
      rcases hb with ⟨rfl, A, c, h⟩ | ⟨b, o, c, h, _⟩
      · exact ⟨A, c, h⟩
      · exact ⟨_, c, h⟩
    clear ha hb hl
    go_enter Try.func88, Try.ntmps88
    go_wp2
    go_ret
    exact ⟨ret_bool (by simpa using HN.out), 0, rfl⟩

/-- the rotation that makes the one the other -/
def rotTo (xs zs : List Int) : Int × Int := if scaleB xs = true ∧ scaleB zs = true then (match (List.range xs.length).find? (fun k => decide (rotL xs k xs.length = zs)) with
  | some k => ((k : Int), 0)
  | none => (0, 3)) else (0, 1)
theorem rotTo_hit {xs zs : List Int} (h1 : scaleB xs = true) (h2 : scaleB zs = true) (k : Nat) (hk : k < xs.length) (h : rotL xs k xs.length = zs) (hn : ∀ i, i < k → rotL xs i xs.length ≠ zs) : rotTo xs zs = ((k : Int), 0) := by
  have : (List.range xs.length).find? (fun i => decide (rotL xs i xs.length = zs)) = some k := by
    rw [List.find?_range_eq_some]
    exact ⟨by simpa using h, by simpa using hk, fun j hj => by simpa using hn j hj⟩
  unfold rotTo
  rw [if_pos ⟨h1, h2⟩, this]
theorem rotTo_miss {xs zs : List Int} (h1 : scaleB xs = true) (h2 : scaleB zs = true) (hn : ∀ i, i < xs.length → rotL xs i xs.length ≠ zs) : rotTo xs zs = (0, 3) := by
  have : (List.range xs.length).find? (fun i => decide (rotL xs i xs.length = zs)) = none := by
    rw [List.find?_range_eq_none]
    exact fun j hj => by simpa using hn j hj
  unfold rotTo
  rw [if_pos ⟨h1, h2⟩, this]
/-- two numbers, memory perhaps made -/
def IntsOut (t : Int × Int) (w : World) (e : Ending) (w' : World) : Prop := e = .returned (.tuple #[.int .i64 t.1, .int .i64 t.2]) ∧ Below w.heap.size w w'
theorem io_mk {t : Int × Int} {w w' : World} {x c : Int} (h : t = (x, c)) (hb : Below w.heap.size w w') : IntsOut t w (.returned (.tuple #[.int .i64 x, .int .i64 c])) w' := ⟨by rw [h], hb⟩
set_option maxHeartbeats 2000000 in
theorem spec_rotationto (va vb : Value) (xs zs : List Int) (w : World) (ha : IntsAt w va xs) (hb : IntsAt w vb zs) (hx : xs.length ≤ 281474976710656) (hz : zs.length ≤ 281474976710656) :
    Calls Try.prog 55 #[va, vb] w (IntsOut (rotTo xs zs) w) := by
  have hsa := fun W h => spec_scale va xs W h hx
  have hsb := fun W h => spec_scale vb zs W h hz
  have HA := Bx.mk ha
  have HB := Bx.mk hb
  obtain ⟨A1, c1, rfl⟩ := ha.len
  obtain ⟨A2, c2, rfl⟩ := hb.len
  clear ha hb
  cases h1 : scaleB xs
  · have HE : Bx (rotTo xs zs = (0, 1)) := Bx.mk (by simp [rotTo, h1])
    rw [h1] at hsa
    clear h1
    go_enter Try.func55, Try.ntmps55
    go_wp2_with (fail)
    refine (hsa _ HA.out).mono ?_
    rintro e w' ⟨rfl, n, rfl⟩
    go_wp2_with (fail)
    go_ret2
    exact io_mk HE.out (below_draws (Below.refl _ _) n)
  · cases h2 : scaleB zs
    · have HE : Bx (rotTo xs zs = (0, 1)) := Bx.mk (by simp [rotTo, h2])
      rw [h1] at hsa
      rw [h2] at hsb
      clear h1 h2
      go_enter Try.func55, Try.ntmps55
      go_wp2_with (fail)
      refine (hsa _ HA.out).mono ?_
      rintro e w' ⟨rfl, n, rfl⟩
      go_wp2_with (fail)
      refine (hsb _ (HB.out.draws n)).mono ?_
      rintro e w' ⟨rfl, n2, rfl⟩
      go_wp2_with (fail)
      go_ret2
      exact io_mk HE.out (below_draws (Below.refl _ _) (n + n2))
    · have HH := Bx.mk (fun k hk h hn => rotTo_hit (xs := xs) (zs := zs) h1 h2 k hk h hn)
      have HM := Bx.mk (fun hn => rotTo_miss (xs := xs) (zs := zs) h1 h2 hn)
      obtain ⟨⟨l1, l2⟩, _, _⟩ := scale_yes h1
      have hro := fun k hk W h => spec_rotate (.slice A1 xs.length c1) xs k W h h1 hk
      have hsm := fun v ys W h h' hy => spec_same v (.slice A2 zs.length c2) ys zs W h h' hy hz
      rw [h1] at hsa
      rw [h2] at hsb
      clear h1 h2
      go_enter Try.func55, Try.ntmps55
      go_wp2_with (fail)
      refine (hsa _ HA.out).mono ?_
      rintro e w' ⟨rfl, n, rfl⟩
      go_wp2_with (fail)
      refine (hsb _ (HB.out.draws n)).mono ?_
      rintro e w' ⟨rfl, n2, rfl⟩
      go_wp2_with (fail)
      go_loopw [6] (fun i wr => ∃ k : Nat, k ≤ xs.length ∧ i = .int .i64 k ∧ Below w.heap.size w wr ∧ Bx (∀ i, i < k → rotL xs i xs.length ≠ zs)) (fun i _ => xs.length - (intOf i).toNat)
      case atStart => exact ⟨0, Nat.zero_le _, rfl, below_draws (Below.refl _ _) (n + n2), Bx.mk (fun i hi => by omega)⟩
      case round =>
        obtain ⟨k, hk, rfl, hbw, HK⟩ := hrel
        have hsz := hbw.size
        by_cases hlt : k < xs.length
        · have hr := fun W h => hro k hlt W h
          have HAr := Bx.mk (HA.out.below hbw)
          have HRl := Bx.mk (rotL_len xs k xs.length)
          clear hro hsa hsb
          by_cases he : rotL xs k xs.length = zs
          · have HE := Bx.mk (HH.out k hlt he HK.out)
            have HD : Bx (decide (rotL xs k xs.length = zs) = true) := Bx.mk (decide_eq_true he)
            clear he HK
            generalize rotL xs k xs.length = ys at *
            go_wp2_with (fail)
            refine (hr _ HAr.out).mono ?_
            intro e w4 ho0
            obtain ⟨v, rfl, ho, hb4⟩ := newrow_parts ho0
            have HY := Bx.mk (IntsAt.own ho)
            have hbw4 : Below w.heap.size w w4 := hbw.trans (hb4.mono hsz)
            have HB4 := Bx.mk (HB.out.below hbw4)
            have hs := hsm v ys w4 HY.out HB4.out (by have := HRl.out; omega)
            rw [HD.out] at hs
            clear ho0 ho hb4 hr hsm
            go_wp2_with (fail)
            refine hs.mono ?_
            rintro e w5 ⟨rfl, n5, rfl⟩
            go_wp2_with (fail)
            go_ret2
            exact io_mk HE.out (below_draws hbw4 n5)
          · have HK2 : Bx (∀ i, i < k + 1 → rotL xs i xs.length ≠ zs) := Bx.mk (fun i hi => by
              by_cases hij : i < k
              · exact HK.out i hij
              · obtain rfl : i = k := (by omega); exact he)
            have HD : Bx (decide (rotL xs k xs.length = zs) = false) := Bx.mk (decide_eq_false he)
            clear he HK
            generalize hys : rotL xs k xs.length = ys at hr HRl HD
            clear hys
            go_wp2_with (fail)
            refine (hr _ HAr.out).mono ?_
            intro e w4 ho0
            obtain ⟨v, rfl, ho, hb4⟩ := newrow_parts ho0
            have HY := Bx.mk (IntsAt.own ho)
            have hbw4 : Below w.heap.size w w4 := hbw.trans (hb4.mono hsz)
            have HB4 := Bx.mk (HB.out.below hbw4)
            have hs := hsm v ys w4 HY.out HB4.out (by have := HRl.out; omega)
            rw [HD.out] at hs
            clear ho0 ho hb4 hr hsm
            go_wp2_with (fail)
            refine hs.mono ?_
            rintro e w5 ⟨rfl, n5, rfl⟩
            go_wp2_with (fail)
            go_roundw
            case rel => exact ⟨k + 1, by omega, by go_num, below_draws hbw4 n5, HK2⟩
            case measure => simp [intOf]; omega
        · obtain rfl : k = xs.length := by omega
          have HE := Bx.mk (HM.out HK.out)
          go_wp2_with (fail)
          go_ret2
          exact io_mk HE.out hbw
end Go.Proofs.Ytfoikipacnmgkaa
