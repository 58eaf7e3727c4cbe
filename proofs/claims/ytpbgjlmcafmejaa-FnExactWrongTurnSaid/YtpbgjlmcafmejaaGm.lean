/- The laws' marks in arcs and grammars. -/
import Derived.Test.YtpbgjlmcafmejaaGr3
import Derived.Test.YtpbgjlmcafmejaaRm
namespace Go.Proofs.Ytpbgjlmcafmejaa
open Go.ChangeShapes Go.WideShapes Go.ChangeAt Go.RowKit
set_option linter.unusedVariables false
set_option linter.unusedSimpArgs false
set_option maxRecDepth 100000

/-- marks in threes -/
def tmk (n : Nat) (k : Int) : List (Int × Int × Int) := (List.range n).map fun (i : Nat) => (k + 3 * (i : Int), k + 3 * (i : Int) + 1, k + 3 * (i : Int) + 1 + 1)
theorem tmk_len (n : Nat) (k : Int) : (tmk n k).length = n := by simp [tmk]
def tmix (l : List (Int × Int × Int)) (k : Int) (i : Nat) : List (Int × Int × Int) := tmk i k ++ l.drop i
theorem tmix_len (l : List (Int × Int × Int)) (k : Int) (i : Nat) (h : i ≤ l.length) : (tmix l k i).length = l.length := by simp [tmix, tmk_len]; omega
theorem tmix_step (l : List (Int × Int × Int)) (k : Int) (i : Nat) (h : i < l.length) : (tmix l k i).set i (k + 3 * i, k + 3 * i + 1, k + 3 * i + 1 + 1) = tmix l k (i + 1) := by
  have e1 : l.drop i = l[i] :: l.drop (i + 1) := List.drop_eq_getElem_cons h
  have e2 : tmk (i + 1) k = tmk i k ++ [(k + 3 * (i : Int), k + 3 * (i : Int) + 1, k + 3 * (i : Int) + 1 + 1)] := by simp [tmk, List.range_succ]
  unfold tmix
  rw [e1, e2, List.set_append_right _ _ (by simp [tmk_len]), show i - (tmk i k).length = 0 by simp [tmk_len], List.set_cons_zero, List.append_assoc]
  rfl
theorem tmix_zero (l : List (Int × Int × Int)) (k : Int) : tmix l k 0 = l := by simp [tmix, tmk]
theorem tmix_all (l : List (Int × Int × Int)) (k : Int) : tmix l k l.length = tmk l.length k := by simp [tmix]
set_option maxHeartbeats 2000000 in
theorem mark_trs (v : Value) (l : List (Int × Int × Int)) (base : Nat) (k : Int) (w : World) (h : w.ownsRow base 76 3 v l.length (tcl l)) (hn : l.length ≤ 281474976710656) (hk : 0 ≤ k) (hk2 : k ≤ 1000000000) :
    Calls Try.prog 78 #[v, .int .i64 k] w fun e w' => e = .returned (.int .i64 (k + 3 * l.length)) ∧ w'.ownsRow base 76 3 v l.length (tcl (tmk l.length k)) ∧ w.grownBy w' v.ownBlock := by
  rcases Nat.eq_zero_or_pos l.length with h0 | h0
  · obtain rfl := List.eq_nil_of_length_eq_zero h0
    obtain ⟨A, c, rfl⟩ : ∃ A c, v = .slice A 0 c := by
      rcases h.2 with ⟨hv, _⟩ | ⟨g, cap, cur, hv, _⟩
      · exact ⟨none, 0, hv⟩
      · exact ⟨_, cap, hv⟩
    have HO := Bx.mk h
    clear h
    go_enter Try.func78, Try.ntmps78
    go_wp2
    refine wp_loop_rounds 1 ?_
    rw [rounds_succ]
    go_wp2
    go_ret
    exact ⟨ret_int (by simp), by simpa [tmk] using HO.out, World.grownBy.refl w _⟩
  · obtain ⟨g, cap, rfl, hbg, hlt⟩ := h.form h0
    have HO := Bx.mk h
    clear h
    go_enter Try.func78, Try.ntmps78
    go_wp2
    go_loopw [1, 5] (fun q i wr => ∃ j : Nat, j ≤ l.length ∧ i = .int .i64 j ∧ q = .int .i64 (k + 3 * j) ∧ Bx (wr.ownsRow base 76 3 (.slice (some ⟨g, 0, none⟩) l.length cap) l.length (tcl (tmix l k j)) ∧ w.grownBy wr (some g))) (fun _ i _ => l.length - (intOf i).toNat)
    case atStart => exact ⟨0, Nat.zero_le _, rfl, by go_num, Bx.mk ⟨by rw [tmix_zero]; exact HO.out, World.grownBy.refl w _⟩⟩
    case round =>
      obtain ⟨j, hj, rfl, rfl, HB⟩ := hrel
      by_cases hlt : j < l.length
      · have hml := tmix_len l k j hj
        have hc : wr.cell? ⟨g, j * 3, none⟩ = some (.int .i64 (tat (tmix l k j) j).1) := (HB.out.1.cellAt (j * 3) (by omega)).trans (tcl_at0 _ j (by omega))
        have hc1 : wr.cell? ⟨g, j * 3 + 1, none⟩ = some (.int .i64 (tat (tmix l k j) j).2.1) := (HB.out.1.cellAt (j * 3 + 1) (by omega)).trans (tcl_at1 _ j (by omega))
        have hc2 : wr.cell? ⟨g, j * 3 + 2, none⟩ = some (.int .i64 (tat (tmix l k j) j).2.2) := (HB.out.1.cellAt (j * 3 + 2) (by omega)).trans (tcl_at2 _ j (by omega))
        have hf := HB.out.1.frozenAt (j * 3)
        have hf1 := HB.out.1.frozenAt (j * 3 + 1)
        have hf2 := HB.out.1.frozenAt (j * 3 + 2)
        have HS : Bx ((((wr.setCell ⟨g, j * 3, none⟩ (.int .i64 (k + 3 * j))).setCell ⟨g, j * 3 + 1, none⟩ (.int .i64 (k + 3 * j + 1))).setCell ⟨g, j * 3 + 2, none⟩ (.int .i64 (k + 3 * j + 1 + 1))).ownsRow base 76 3 (.slice (some ⟨g, 0, none⟩) l.length cap) l.length (tcl (tmix l k (j + 1))) ∧ w.grownBy (((wr.setCell ⟨g, j * 3, none⟩ (.int .i64 (k + 3 * j))).setCell ⟨g, j * 3 + 1, none⟩ (.int .i64 (k + 3 * j + 1))).setCell ⟨g, j * 3 + 2, none⟩ (.int .i64 (k + 3 * j + 1 + 1))) (some g)) := Bx.mk (by
          have hs := HB.out.1.stored (j * 3) (.int .i64 (k + 3 * j))
          have hs2 := hs.1.stored (j * 3 + 1) (.int .i64 (k + 3 * j + 1))
          have hs3 := hs2.1.stored (j * 3 + 2) (.int .i64 (k + 3 * j + 1 + 1))
          rw [tcl_set _ j (k + 3 * j, k + 3 * j + 1, k + 3 * j + 1 + 1) (by omega), tmix_step l k j hlt] at hs3
          exact ⟨hs3.1, ((HB.out.2.trans hs.2).trans hs2.2).trans hs3.2⟩)
        generalize (tat (tmix l k j) j).1 = u0 at hc
        generalize (tat (tmix l k j) j).2.1 = u1 at hc1
        generalize (tat (tmix l k j) j).2.2 = u2 at hc2
        clear HB hml
        go_wp2
        go_roundw
        case rel => exact ⟨j + 1, by omega, by go_num, by go_num, HS⟩
        case measure => simp [intOf]; omega
      · obtain rfl : j = l.length := by omega
        have HE := HB.out
        rw [tmix_all] at HE
        have HE := Bx.mk HE
        go_wp2
        go_ret
        exact ⟨ret_int (by simp), HE.out.1, HE.out.2⟩
set_option maxHeartbeats 2000000 in
theorem mark_grZ (G : Gr) (f a : Value) (lo hi : Nat) (w : World) (hm : SmG G) (hf : w.ownsRow lo 2 1 f G.f.length (ints G.f)) (ha : w.ownsRow lo 76 3 a G.a.length (tcl G.a))
    (n1 : ∀ g, f.ownBlock = some g → a.ownBlock ≠ some g) (hU : ∀ g, f.ownBlock = some g → g < hi) (hA : ∀ g, a.ownBlock = some g → g < hi) :
    Calls Try.prog 28 #[grV G.n G.s f a, .int .i64 1] w fun e w' => ∃ z : Int, e = .returned (.int .i64 z) ∧ 0 ≤ z ∧ z ≤ 10000000 ∧ Turn lo hi w w' := by
  obtain ⟨Af, af, rfl⟩ := own_len hf
  obtain ⟨Aa, aa, rfl⟩ := own_len ha
  have b1 := hm.f
  have b2 := hm.a
  have q1 := fun W hW => mark_intsB (te := 2) (.slice Af G.f.length af) G.f lo 1 W hW (Nat.le_trans hm.f (by decide)) (by decide) (by decide)
  have q2 := fun W hW => mark_trs (.slice Aa G.a.length aa) G.a lo (1 + (G.f.length : Int)) W hW (Nat.le_trans hm.a (by decide)) (by omega) (by omega)
  have HU := Bx.mk hf
  have HD := Bx.mk ha
  have N := Bx.mk (And.intro n1 (And.intro hU hA))
  clear hf ha n1 hU hA hm
  unfold grV
  go_enter Try.func28, Try.ntmps28
  go_wp2_with (fail)
  have hb0 : Below w.heap.size w (w.alloc (.cells #[.int .i64 G.n, .int .i64 G.s, .slice Af G.f.length af, .slice Aa G.a.length aa] 30)) := (Below.refl _ _).alloc (Nat.le_refl _) _
  have P0 := BoxN.at w w.heap.size #[.int .i64 G.n, .int .i64 G.s, .slice Af G.f.length af, .slice Aa G.a.length aa] 30 rfl
  generalize w.alloc (.cells #[.int .i64 G.n, .int .i64 G.s, .slice Af G.f.length af, .slice Aa G.a.length aa] 30) = W0 at hb0 P0 ⊢
  have T0 : Bx (Turn lo hi w W0) := Bx.mk (Turn.below hb0)
  have HN := Bx.mk (own_hi HU.out)
  have HU := Bx.mk (own_below HU.out hb0)
  have HD := Bx.mk (own_below HD.out hb0)
  have P0 := Bx.mk P0
  clear hb0
  have p0 := P0.out.c (k := 0) rfl
  have p1 := P0.out.c (k := 1) rfl
  have p2 := P0.out.c (k := 2) rfl
  have p3 := P0.out.c (k := 3) rfl
  have pl := P0.out.lt
  refine (q1 _ HU.out).mono ?_
  rintro r w1 ⟨rfl, _, hg⟩
  have T1 := Bx.mk (T0.out.trans (Turn.grown hg (fun x hx => ⟨own_lo HU.out x hx, N.out.2.1 x hx⟩)))
  have HD1 := Bx.mk (HD.out.kept hg (ne_row (fun x hx => N.out.1 x hx)))
  have P1 := Bx.mk (P0.out.grownR hg (fun e => by have := HN.out _ e.symm; omega))
  clear T0 HD P0 p0 p1 p2 p3 pl hg q1 HU
  have p0 := P1.out.c (k := 0) rfl
  have p1 := P1.out.c (k := 1) rfl
  have p2 := P1.out.c (k := 2) rfl
  have p3 := P1.out.c (k := 3) rfl
  have pl := P1.out.lt
  go_wp2_with (fail)
  refine (q2 _ HD1.out).mono ?_
  rintro r w2 ⟨rfl, _, hg⟩
  have T2 := Bx.mk (T1.out.trans (Turn.grown hg (fun x hx => ⟨own_lo HD1.out x hx, N.out.2.2 x hx⟩)))
  clear T1 HD1 P1 p0 p1 p2 p3 pl hg q2
  go_wp2_with (fail)
  go_ret
  exact ⟨_, rfl, by omega, by omega, T2.out⟩
theorem mark_gr (G : Gr) (f a : Value) (lo hi : Nat) (w : World) (hm : SmG G) (hf : w.ownsRow lo 2 1 f G.f.length (ints G.f)) (ha : w.ownsRow lo 76 3 a G.a.length (tcl G.a))
    (n1 : ∀ g, f.ownBlock = some g → a.ownBlock ≠ some g) (hU : ∀ g, f.ownBlock = some g → g < hi) (hA : ∀ g, a.ownBlock = some g → g < hi) :
    Calls Try.prog 28 #[grV G.n G.s f a, .int .i64 1] w fun e w' => ∃ z : Int, e = .returned (.int .i64 z) ∧ 0 ≤ z ∧ Turn lo hi w w' :=
  (mark_grZ G f a lo hi w hm hf ha n1 hU hA).mono fun _ _ ⟨z, h1, h2, _, h4⟩ => ⟨z, h1, h2, h4⟩
end Go.Proofs.Ytpbgjlmcafmejaa
