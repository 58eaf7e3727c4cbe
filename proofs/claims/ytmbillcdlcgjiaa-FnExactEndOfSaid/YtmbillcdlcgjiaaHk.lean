/- isOrder and WorthOf: the program. -/
import Derived.Test.YtmbillcdlcgjiaaHj3
import Derived.Test.YtmbillcdlcgjiaaHg3
import Derived.Test.YtmbillcdlcgjiaaAr
namespace Go.Proofs.Ytmbillcdlcgjiaa
open Go.ChangeShapes Go.WideShapes Go.ChangeAt Go.RowKit
set_option linter.unusedVariables false
set_option linter.unusedSimpArgs false
set_option maxRecDepth 100000

theorem hmem (zs : List Int) (t : Int) : hasB zs t = true ↔ t ∈ zs := by
  unfold hasB
  rcases idx_cases zs t with ⟨h, hn⟩ | ⟨k, h, hk, he, _⟩
  · rw [h]
    constructor
    · intro h; simp at h
    · intro hm
      obtain ⟨i, hi, e⟩ := List.getElem_of_mem hm
      exact absurd (by simp [hi, e]) (hn i hi)
  · rw [h]
    refine ⟨fun _ => ?_, fun _ => decide_eq_true (by omega)⟩
    rw [← he]
    simp [hk]
theorem has_snoc (zs : List Int) (z t : Int) : hasB (zs ++ [z]) t = (hasB zs t || decide (z = t)) := by
  rw [Bool.eq_iff_iff, Bool.or_eq_true, hmem, hmem, decide_eq_true_eq, List.mem_append, List.mem_singleton]
  constructor
  · rintro (h | h)
    · exact .inl h
    · exact .inr h.symm
  · rintro (h | h)
    · exact .inl h
    · exact .inr h.symm
/-- twelve marks -/
def marksB (f : Nat → Bool) : List Value := (List.range 12).map fun i => .bool (f i)
theorem marksB_at (f : Nat → Bool) (i : Nat) (h : i < 12) : (marksB f)[i]? = some (.bool (f i)) := by simp [marksB, h]
theorem marksB_set (f g : Nat → Bool) (k : Nat) (hg : ∀ i, g i = (f i || decide (k = i))) : (marksB f).set k (.bool true) = marksB g := by
  apply List.ext_getElem?
  intro i
  unfold marksB
  by_cases hn : i < 12
  · by_cases h : k = i
    · subst h; simp [hn, hg]
    · simp [hn, h, hg]
  · rw [List.getElem?_eq_none (by simp; omega), List.getElem?_eq_none (by simp; omega)]
theorem marks_new : marksB (fun _ => false) = [.bool false, .bool false, .bool false, .bool false, .bool false, .bool false, .bool false, .bool false, .bool false, .bool false, .bool false, .bool false] := by rfl
def hasK (zs : List Int) (k i : Nat) : Bool := hasB (zs.take k) (i : Int)
set_option maxHeartbeats 4000000 in
theorem impl_order (n : Nat) (v : Value) (zs : List Int) (w : World) (h : IntsAt w v zs) (hn : n ≤ 12) (hm : zs.length ≤ 1048576) :
    Calls Try.prog 94 #[v, .int .i64 (n : Int)] w fun e w' => e = .returned (.bool (ordB n zs)) ∧ Below w.heap.size w w' := by
  obtain ⟨B, cb, rfl⟩ := h.len
  have HI := Bx.mk h
  clear h
  have A0 := ArrAt.at w w.heap.size (marksB (fun _ => false)) 155 rfl
  have B0 : Below w.heap.size w (w.alloc (.cells (marksB (fun _ => false)).toArray 155)) := (Below.refl _ _).alloc (Nat.le_refl _) _
  rw [marks_new] at A0 B0
  generalize hW : w.alloc (.cells [Value.bool false, .bool false, .bool false, .bool false, .bool false, .bool false, .bool false, .bool false, .bool false, .bool false, .bool false, .bool false].toArray 155) = W0 at A0 B0
  rw [← marks_new] at A0
  have A0 := Bx.mk A0
  have B0 := Bx.mk B0
  go_enter Try.func94, Try.ntmps94
  go_wp2_with (fail)
  try rw [hW]
  try clear hW
  go_loopw [10] (fun i wr => ∃ k : Nat, k ≤ zs.length ∧ i = .int .i64 k ∧ Bx (∀ i, i < k → inB (zs.getD i 0) 0 ((n : Int) - 1) = true ∧ hasB (zs.take i) (zs.getD i 0) = false) ∧ Bx (ArrAt wr w.heap.size (marksB (hasK zs k)) 155) ∧ Bx (Below w.heap.size w wr)) (fun i _ => zs.length - (intOf i).toNat)
  case atStart => exact ⟨0, Nat.zero_le _, rfl, Bx.mk (fun i hi => by omega), A0, B0⟩
  case round =>
    obtain ⟨k, hk, rfl, HK, HA, HB⟩ := hrel
    by_cases hlt : k < zs.length
    · have HIw := HI.out.below HB.out
      obtain ⟨b, o, c', e, hb, hc⟩ := HIw.form (by omega)
      injection e with e1 e2 e3
      subst e1 e3
      have h1 := hc k hlt
      have x1 : (0 : Int) ≤ (k : Int) := by omega
      have x2 : (k : Int) < (zs.length : Int) := by omega
      have dlt : decide ((k : Int) < (zs.length : Int)) = true := decide_eq_true x2
      have HNO := Bx.mk (fun h => ordB_no (n := n) (zs := zs) k hlt h)
      have HY : Bx (inB (zs.getD k 0) 0 ((n : Int) - 1) = true → hasB (zs.take k) (zs.getD k 0) = false → ∀ i, i < k + 1 → inB (zs.getD i 0) 0 ((n : Int) - 1) = true ∧ hasB (zs.take i) (zs.getD i 0) = false) := Bx.mk (fun h2 h3 i hi => by
        by_cases hij : i < k
        · exact HK.out i hij
        · obtain rfl : i = k := (by omega)
          exact ⟨h2, h3⟩)
      have HT : Bx (zs.take (k + 1) = zs.take k ++ [zs.getD k 0]) := Bx.mk (by rw [List.take_succ_eq_append_getElem hlt]; simp [hlt])
      have al := HA.out.lt
      clear hc HK
      generalize hz : zs.getD k 0 = z at *
      clear hz
      by_cases d1 : z < 0
      · have dz : decide (z < 0) = true := decide_eq_true d1
        have HE : Bx (ordB n zs = false) := Bx.mk (HNO.out (.inl (by simp [inB]; omega)))
        clear HNO HY d1 HT HI HIw
        go_wp2_with (fail)
        go_ret
        exact ⟨ret_bool HE.out.symm, HB.out⟩
      · have dz : decide (z < 0) = false := decide_eq_false d1
        by_cases d2 : z ≥ (n : Int)
        · have dn : decide (z ≥ (n : Int)) = true := decide_eq_true d2
          have HE : Bx (ordB n zs = false) := Bx.mk (HNO.out (.inl (by simp [inB]; omega)))
          clear HNO HY d1 d2 HT HI HIw
          go_wp2_with (fail)
          go_ret
          exact ⟨ret_bool HE.out.symm, HB.out⟩
        · have dn : decide (z ≥ (n : Int)) = false := decide_eq_false d2
          obtain ⟨j, rfl⟩ : ∃ j : Nat, z = (j : Int) := ⟨z.toNat, by omega⟩
          have hj : j < 12 := by omega
          have dnn : decide (n ≤ j) = false := decide_eq_false (by omega)
          have dnn2 : decide ((n : Int) ≤ (j : Int)) = false := decide_eq_false (by omega)
          have y1 : (0 : Int) ≤ (j : Int) := by omega
          have y2 : (j : Int) < 12 := by omega
          have hin : inB (j : Int) 0 ((n : Int) - 1) = true := inB_mk (by omega)
          have ca := (HA.out.cell j).trans (marksB_at _ j hj)
          have HH : Bx (hasK zs k j = hasB (zs.take k) (j : Int)) := Bx.mk rfl
          have fa := HA.out.f0 j
          cases f : hasB (zs.take k) (j : Int)
          · have HS := Bx.mk (HY.out hin f)
            rw [HH.out, f] at ca
            have HA2 : Bx (ArrAt (wr.setCell ⟨w.heap.size, j, none⟩ (.bool true)) w.heap.size (marksB (hasK zs (k + 1))) 155) := Bx.mk (by
              have := HA.out.put j (.bool true)
              rw [marksB_set (hasK zs k) (hasK zs (k + 1)) j (fun i => by
                unfold hasK
                rw [HT.out, has_snoc]
                congr 1
                exact decide_eq_decide.2 (by omega))] at this
              exact this)
            have HB2 := Bx.mk (HB.out.setCell (p := ⟨w.heap.size, j, none⟩) (Nat.le_refl _) (.bool true))
            clear HNO HY d1 d2 HT hin f HH HA HIw
            go_wp2_with (fail)
            go_roundw
            case rel => exact ⟨k + 1, by omega, by go_num, HS, HA2, HB2⟩
            case measure => simp [intOf]; omega
          · have HE : Bx (ordB n zs = false) := Bx.mk (HNO.out (.inr f))
            rw [HH.out, f] at ca
            clear HNO HY d1 d2 HT hin f HH HI HA HIw
            go_wp2_with (fail)
            go_ret
            exact ⟨ret_bool HE.out.symm, HB.out⟩
    · obtain rfl : k = zs.length := by omega
      have dlt : decide ((zs.length : Int) < (zs.length : Int)) = false := decide_eq_false (by omega)
      have HE : Bx (ordB n zs = true) := Bx.mk ((ordB_iff n zs).2 HK.out)
      clear HK
      go_wp2_with (fail)
      go_ret
      exact ⟨ret_bool HE.out.symm, HB.out⟩
set_option maxHeartbeats 4000000 in
theorem impl_worthof (va v : Value) (l : List It) (zs : List Int) (w : World) (h0 : ItsAt w va l) (h : IntC w v zs) (hm : SmI l) (hz : zs.length ≤ 1048576) :
    Calls Try.prog 51 #[va, v] w fun e w' => e = .returned (.tuple #[.int .i64 (worthE l zs).1, .int .i64 (worthE l zs).2]) ∧ Below w.heap.size w w' := by
  have q0 := impl_validitems va l w h0 hm
  have HF : Bx (worthE l zs = if okIts l = false then (0, 1) else if ordB l.length zs = false then (0, 7) else (worthS l zs, 0)) := Bx.mk rfl
  have HT := Bx.mk h0
  have HI := Bx.mk h.rd
  obtain ⟨A, c, rfl⟩ := its_len h0
  obtain ⟨B, cb, rfl⟩ := h.rd.len
  clear h h0
  cases f0 : okIts l
  · simp only [f0] at q0
    have HE : Bx (worthE l zs = (0, 1)) := Bx.mk (HF.out.trans (by simp [f0]))
    go_enter Try.func51, Try.ntmps51
    go_wp2_with (fail)
    refine q0.mono ?_
    rintro r w1 ⟨rfl, hb⟩
    have B1 := Bx.mk hb
    clear hb
    go_wp2_with (fail)
    go_ret2
    exact ⟨by rw [HE.out]; rfl, B1.out⟩
  · simp only [f0] at q0
    have q3 := fun W h => impl_order l.length (.slice B zs.length cb) zs W h ((okIts_iff l).1 f0).1 hz
    cases f1 : ordB l.length zs
    · simp only [f1] at q3
      have HE : Bx (worthE l zs = (0, 7)) := Bx.mk (HF.out.trans (by simp [f0, f1]))
      go_enter Try.func51, Try.ntmps51
      go_wp2_with (fail)
      refine q0.mono ?_
      rintro r w1 ⟨rfl, hb⟩
      have B1 := Bx.mk hb
      clear hb
      go_wp2_with (fail)
      refine (q3 _ (HI.out.below B1.out)).mono ?_
      rintro r w2 ⟨rfl, hb⟩
      have B2 := Bx.mk (B1.out.trans (hb.mono B1.out.size))
      clear hb
      go_wp2_with (fail)
      go_ret2
      exact ⟨by rw [HE.out]; rfl, B2.out⟩
    · simp only [f1] at q3
      have HE : Bx (worthE l zs = (worthS l zs, 0)) := Bx.mk (HF.out.trans (by simp [f0, f1]))
      have HO := Bx.mk ((ordB_iff _ _).1 f1)
      have HK := Bx.mk (fun k hk => okI_at f0 k hk)
      clear HF f0 f1
      go_enter Try.func51, Try.ntmps51
      go_wp2_with (fail)
      refine q0.mono ?_
      rintro r w1 ⟨rfl, hb⟩
      have B1 := Bx.mk hb
      clear hb
      go_wp2_with (fail)
      refine (q3 _ (HI.out.below B1.out)).mono ?_
      rintro r w2 ⟨rfl, hb⟩
      have B2 := Bx.mk (B1.out.trans (hb.mono B1.out.size))
      clear hb q0 q3
      go_wp2_with (fail)
      have HI := Bx.mk (HI.out.below B2.out)
      have HT := Bx.mk (HT.out.below B2.out)
      go_loopw [6, 21] (fun tv i wr => ∃ (k : Nat) (t : Int), k ≤ zs.length ∧ i = .int .i64 k ∧ tv = .int .i64 t ∧ (0 ≤ t ∧ t ≤ 1000 * (k : Int)) ∧ Bx (worthS l (zs.take k) = t) ∧ wr = w2) (fun _ i _ => zs.length - (intOf i).toNat)
      case atStart => exact ⟨0, 0, Nat.zero_le _, rfl, rfl, by omega, Bx.mk rfl, rfl⟩
      case round =>
        obtain ⟨k, t, hk, rfl, rfl, ht, HS0, rfl⟩ := hrel
        by_cases hlt : k < zs.length
        · obtain ⟨hz1, hz2⟩ := HO.out k hlt
          have hzb := inB_yes hz1
          obtain ⟨b, o, c', e, hb, hc⟩ := HI.out.form (by omega)
          injection e with e1 e2 e3
          subst e1 e3
          have h1 := hc k hlt
          obtain ⟨n, hn⟩ : ∃ n : Nat, zs.getD k 0 = (n : Int) := ⟨(zs.getD k 0).toNat, by omega⟩
          have hnl : n < l.length := by omega
          obtain ⟨b2, o2, rfl, _, hb2, hx⟩ := its_cells HT.out (by omega)
          have c5 := (hx n hnl).c5
          have hpp := (HK.out n hnl).p
          have HS : Bx (worthS l (zs.take (k + 1)) = t + (iat l n).p) := Bx.mk (by rw [worthS_take l zs k hlt, HS0.out, hn]; rfl)
          have x1 : (0 : Int) ≤ (k : Int) := by omega
          have x2 : (k : Int) < (zs.length : Int) := by omega
          have dlt : decide ((k : Int) < (zs.length : Int)) = true := decide_eq_true x2
          have y1 : (0 : Int) ≤ (n : Int) := by omega
          have y2 : (n : Int) < (l.length : Int) := by omega
          rw [hn] at h1
          clear hc hx HS0 hz1 hz2 hzb
          have hwr : IntKind.i64.wrap (t + (iat l n).p) = t + (iat l n).p := IntWalk.i64_in _ (by omega)
          generalize (iat l n).p = m1 at *
          go_wp2_with (fail)
          try go_quiet (fail)
          try go_wp2_with (fail)
          go_roundw
          case rel => exact ⟨k + 1, t + m1, by omega, by go_num, by first | rfl | simp [hwr], by omega, HS, by first | rfl | trivial⟩
          case measure => simp [intOf]; omega
        · obtain rfl : k = zs.length := by omega
          have dlt : decide ((zs.length : Int) < (zs.length : Int)) = false := decide_eq_false (by omega)
          have HN : Bx (worthS l zs = t) := Bx.mk (by have := HS0.out; rwa [List.take_length] at this)
          clear HS0
          go_wp2_with (fail)
          go_ret2
          exact ⟨by rw [HE.out, HN.out]; rfl, B2.out⟩
end Go.Proofs.Ytmbillcdlcgjiaa
