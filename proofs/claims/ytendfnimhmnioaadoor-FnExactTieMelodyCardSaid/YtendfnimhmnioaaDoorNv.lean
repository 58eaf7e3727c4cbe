/- Melodies with other pitches: the program. -/
import Derived.Test.YtendfnimhmnioaaDoorNt
import Derived.Test.YtendfnimhmnioaaDoorEr6
import Derived.StillTailTactics
namespace Go.Proofs.YtendfnimhmnioaaDoor
open Go.ChangeShapes Go.WideShapes Go.ChangeAt Go.RowKit
set_option linter.unusedVariables false
set_option linter.unusedSimpArgs false
set_option maxRecDepth 100000

/-- what was written of a list, k notes having come: all of them, or there is a reason -/
def WSt (G : Nat → Bool) (T : List (Int × Int)) (a : Addr) (k : Nat) (l : List (Int × Int)) (q : Option Addr) : Prop :=
  (q = none ∧ l = T.take k ∧ ∀ i, i < k → G i = true) ∨ (q = some a ∧ l.length ≤ k ∧ ∃ i, i < k ∧ G i = false)
theorem WSt.start (G : Nat → Bool) (T : List (Int × Int)) (a : Addr) : WSt G T a 0 [] none := .inl ⟨rfl, by simp, fun i hi => absurd hi (Nat.not_lt_zero _)⟩
theorem WSt.len {G : Nat → Bool} {T l : List (Int × Int)} {a : Addr} {k : Nat} {q : Option Addr} (h : WSt G T a k l q) : l.length ≤ k := by
  rcases h with ⟨_, h, _⟩ | ⟨_, h, _⟩
  · rw [h, List.length_take]; omega
  · exact h
theorem WSt.qa {G : Nat → Bool} {T l : List (Int × Int)} {a : Addr} {k : Nat} {q : Option Addr} (h : WSt G T a k l q) : q = none ∨ q = some a := by
  rcases h with ⟨h, _⟩ | ⟨h, _⟩
  · exact .inl h
  · exact .inr h
theorem WSt.good {G : Nat → Bool} {T l : List (Int × Int)} {a : Addr} {k : Nat} {q : Option Addr} (h : WSt G T a k l q) (hk : k < T.length) (hg : G k = true) : WSt G T a (k + 1) (l ++ [pat T k]) q := by
  rcases h with ⟨h1, h2, h3⟩ | ⟨h1, h2, i, hi, h3⟩
  · refine .inl ⟨h1, ?_, fun i hi => ?_⟩
    · rw [h2, List.take_succ_eq_append_getElem hk, pat_get hk]
    · by_cases e : i = k
      · subst e; exact hg
      · exact h3 i (by omega)
  · exact .inr ⟨h1, by simp; omega, i, by omega, h3⟩
theorem WSt.bad {G : Nat → Bool} {T l : List (Int × Int)} {a : Addr} {k : Nat} {q : Option Addr} (h : WSt G T a k l q) (hg : G k = false) : WSt G T a (k + 1) l (some a) := .inr ⟨rfl, by have := h.len; omega, k, by omega, hg⟩
theorem WSt.late {G : Nat → Bool} {T l : List (Int × Int)} {a : Addr} {k : Nat} {q : Option Addr} (h : WSt G T a k l q) (hg : G k = false) (x : Int × Int) : WSt G T a (k + 1) (l ++ [x]) (some a) := .inr ⟨rfl, by have := h.len; simp; omega, k, by omega, hg⟩
theorem WSt.fin {G : Nat → Bool} {T l : List (Int × Int)} {a b : Addr} {q : Option Addr} {r : List (Int × Int) × Int} (h : WSt G T a T.length l q) (h1 : (∀ i, i < T.length → G i = true) → r = (T, 0)) (h2 : (∃ i, i < T.length ∧ G i = false) → r = ([], 6)) : wrE l q a b = r := by
  rcases h with ⟨hq, hl, hg⟩ | ⟨hq, hl, hg⟩
  · subst hq; rw [h1 hg, hl]; simp [wrE]
  · subst hq; rw [h2 hg]; simp [wrE]
theorem donE_good {T : List (Int × Int)} (hl : T.length ≤ 48) (h : ∀ i, i < T.length → okN (pat T i) = true) : donE T = (T, 0) := by
  unfold donE; rw [if_pos (allN_yes h), if_pos hl]
theorem donE_bad {T : List (Int × Int)} (h : ∃ i, i < T.length ∧ okN (pat T i) = false) : donE T = ([], 6) := by
  obtain ⟨i, hi, h⟩ := h
  unfold donE; rw [allN_no i hi h]; rfl
/-- what a function makes of a pitch -/
def piF (f : Int → Int) (p : Int × Int) : Int × Int := (f p.1, p.2)
set_option maxHeartbeats 4000000 in
theorem impl_with (A : Option Addr) (c : Nat) (l : List (Int × Int)) (cl gb : Nat) (n : Int) (f : Int → Int) (a b : Addr) (w : World) (h : PrsAt w (.slice A l.length c) l) (hok : okM l = true) (he : Er w a b) (hgb : gb < w.heap.size) (hbx : w.cell? ⟨gb, 0, none⟩ = some (.int .i64 n))
    (hen : ∀ args W, (callFunc cl args).run Tryd.prog W = .ok (.enter cl args) W) (hcl : Bx (∀ x W, -12 ≤ x ∧ x ≤ 23 → W.cell? ⟨gb, 0, none⟩ = some (.int .i64 n) → gb < W.heap.size → Calls Tryd.prog cl #[.int .i64 x, .pointer (some ⟨gb, 0, none⟩)] W fun e w' => e = .returned (.int .i64 (f x)) ∧ w' = W)) :
    Calls Tryd.prog 38 #[.slice A l.length c, .func (.func cl) #[] #[.pointer (some ⟨gb, 0, none⟩)]] w (NtOut (donE (l.map (piF f))).1 (.int .i64 (donE (l.map (piF f))).2) w) := by
  have hm := (okM_yes hok).1
  have HOK := Bx.mk (fun k hk => okM_at hok k hk)
  have HI := Bx.mk h
  have HE := Bx.mk he
  have HX := Bx.mk hbx
  have HG := Bx.mk hgb
  have hW0 := WrAt.start w
  have hB0 : Below w.heap.size w (w.alloc (.cells #[.slice none 0 0, .nilIface] 55)) := (Below.refl _ _).alloc (Nat.le_refl _) _
  have HW0 := Bx.mk hW0
  have HB0 := Bx.mk hB0
  have hTl : (l.map (piF f)).length = l.length := by simp
  have HTl := Bx.mk hTl
  clear h hok he hbx hgb hW0 hB0 hTl
  go_enter Tryd.func38, Tryd.ntmps38
  go_wp2_with (fail)
  go_loopw [11] (fun i wr => ∃ (k : Nat) (l' : List (Int × Int)) (q : Option Addr), k ≤ l.length ∧ i = .int .i64 (k : Int) ∧ Bx (WSt (fun i => okN (pat (l.map (piF f)) i)) (l.map (piF f)) a k l' q) ∧ Bx (WrAt wr w.heap.size (w.heap.size + 1) l' q ∧ Below w.heap.size w wr)) (fun i _ => l.length - (intOf i).toNat)
  case atStart => exact ⟨0, [], none, Nat.zero_le _, rfl, Bx.mk (WSt.start _ _ _), Bx.mk ⟨HW0.out, HB0.out⟩⟩
  case round =>
    obtain ⟨k, l', q, hk, rfl, HS, HR⟩ := hrel
    by_cases hlt : k < l.length
    · have d1 : decide ((k : Int) < (l.length : Int)) = true := decide_eq_true (by omega)
      obtain ⟨bb, o, rfl, hb, hc⟩ := prs_form (HI.out.below HR.out.2) (by omega)
      obtain ⟨c0, c1⟩ := hc k hlt
      have k1 : (0 : Int) ≤ (k : Int) := by omega
      have k2 : (k : Int) < (l.length : Int) := by omega
      have HP := Bx.mk (pat_map (piF f) l k hlt)
      obtain ⟨⟨b1, b2⟩, b3, b4⟩ := HOK.out k hlt
      have HGO := Bx.mk (HS.out.good (by rw [HTl.out]; exact hlt))
      have HBA := Bx.mk HS.out.bad
      have HQ := Bx.mk HS.out.qa
      have HLN := Bx.mk HS.out.len
      rw [HP.out] at HGO HBA
      try dsimp only at HGO HBA
      clear hc HS HOK HW0 HB0
      generalize pat l k = p at *
      obtain ⟨p1, p2⟩ := p
      dsimp only at c0 c1 b1 b2 b3 b4
      have hAl : Below wr.heap.size wr (wr.alloc (.cells #[.int .i64 p1, .int .i64 p2] 45)) := (Below.refl _ _).alloc (Nat.le_refl _) _
      have W1 := Bx.mk (HR.out.1.below hAl)
      have B1 := Bx.mk (HR.out.2.trans (hAl.mono HR.out.2.size))
      have hN1 := BoxN.at wr wr.heap.size #[.int .i64 p1, .int .i64 p2] 45 rfl
      have hcb := (B1.out.cell (p := ⟨gb, 0, none⟩) HG.out).trans HX.out
      have hgl : gb < (wr.alloc (.cells #[.int .i64 p1, .int .i64 p2] 45)).heap.size := Nat.lt_of_lt_of_le HG.out B1.out.size
      have E1 := Bx.mk (HE.out.below B1.out)
      have N1 := Bx.mk hN1
      obtain ⟨gn, hgn⟩ : ∃ x, x = wr.heap.size := ⟨_, rfl⟩
      rw [← hgn] at N1
      clear hAl hN1
      go_wp2_with (fail)
      rw [← hgn]
      clear c0 c1 hgn HR
      generalize wr.alloc (.cells #[.int .i64 p1, .int .i64 p2] 45) = W at *
      have n0 : W.drew.cell? ⟨gn, 0, none⟩ = some (.int .i64 p1) := N1.out.c (k := 0) rfl
      have n1 : W.drew.cell? ⟨gn, 1, none⟩ = some (.int .i64 p2) := N1.out.c (k := 1) rfl
      have nl : gn < W.drew.heap.size := N1.out.lt
      have hcb2 : W.drew.cell? ⟨gb, 0, none⟩ = some (.int .i64 n) := hcb
      have hgl2 : gb < W.drew.heap.size := hgl
      have W2 := Bx.mk (W1.out.below (Below.refl _ _).drew)
      have B2 := Bx.mk B1.out.drew
      have E2 := Bx.mk (E1.out.below (Below.refl _ _).drew)
      clear hcb hgl N1 W1 B1 E1
      go_still_tail 7, (by kernel_rfl)
      still_call (hcl.out p1 _ ⟨b1, b2⟩ hcb2 hgl2)
      repeat still_step
      refine wpStill_nil ?_
      change wpList _ _ _ _ _ W.drew
      generalize W.drew = V at *
      cases hg : okN (piF f (p1, p2))
      · have hS := Bx.mk (HBA.out hg)
        have hw := write_bad w.heap.size (w.heap.size + 1) l' q a b (f p1) p2 V W2.out E2.out HQ.out hg
        unfold nt at hw
        clear HGO HBA hg
        go_wp2_with (fail)
        refine hw.mono ?_
        rintro e V2 ⟨⟨v2, rfl⟩, hw2, hs2⟩
        have HR2 := Bx.mk (And.intro hw2 (B2.out.trans (hs2.kp w.heap.size (Nat.le_refl _) (Nat.le_succ _)).below))
        clear hw2 hs2 hw n0 n1 nl hcb2 hgl2
        go_wp2_with (fail)
        go_roundw
        case rel => exact ⟨k + 1, _, _, by omega, by go_num, hS, HR2⟩
        case measure => simp [intOf]; omega
      · have hS := Bx.mk (HGO.out hg)
        have hl48 : l'.length < 48 := by have := HLN.out; omega
        have hw := write_ok w.heap.size (w.heap.size + 1) l' q (f p1) p2 V W2.out (by have := W2.out.lt; omega) hg hl48
        unfold nt at hw
        clear HGO HBA hg hl48
        go_wp2_with (fail)
        refine hw.mono ?_
        rintro e V2 ⟨⟨v2, rfl⟩, hw2, hs2⟩
        have HR2 := Bx.mk (And.intro hw2 (B2.out.trans (hs2.kp w.heap.size (Nat.le_refl _) (Nat.le_succ _)).below))
        clear hw2 hs2 hw n0 n1 nl hcb2 hgl2
        go_wp2_with (fail)
        go_roundw
        case rel => exact ⟨k + 1, _, _, by omega, by go_num, hS, HR2⟩
        case measure => simp [intOf]; omega
    · obtain rfl : k = l.length := by omega
      have d1 : decide ((l.length : Int) < (l.length : Int)) = false := decide_eq_false (by omega)
      have hfin := (show WSt (fun i => okN (pat (l.map (piF f)) i)) (l.map (piF f)) a (l.map (piF f)).length l' q by rw [HTl.out]; exact HS.out).fin (b := b) (r := donE (l.map (piF f))) (fun h => donE_good (by rw [HTl.out]; exact hm) h) (fun h => donE_bad h)
      have hwr := impl_written w.heap.size (w.heap.size + 1) l' q a b wr HR.out.1 (HE.out.below HR.out.2) (HS.out.qa.elim .inl (fun h => .inr (.inl h)))
      rw [hfin] at hwr
      clear hfin HS
      go_wp2_with (fail)
      refine hwr.mono ?_
      rintro e V2 ⟨v2, rfl, ho, hb2⟩
      have HO := Bx.mk (own_downP (b1 := w.heap.size) (Nat.le_succ _) ho)
      have HB2 := Bx.mk (HR.out.2.trans (hb2.mono HR.out.2.size))
      obtain ⟨A2, c2, rfl⟩ := own_len HO.out
      clear ho hb2
      go_wp2_with (fail)
      go_ret2
      exact ⟨_, rfl, HO.out, HB2.out⟩
end Go.Proofs.YtendfnimhmnioaaDoor
