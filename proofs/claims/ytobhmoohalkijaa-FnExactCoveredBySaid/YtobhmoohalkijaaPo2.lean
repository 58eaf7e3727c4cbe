/- Phrases, by the model: FindPhrase, CountApart, BorderOf. -/
import Derived.Test.YtobhmoohalkijaaPo
namespace Go.Proofs.Ytobhmoohalkijaa
open Go.ChangeShapes Go.WideShapes Go.ChangeAt Go.RowKit
set_option linter.unusedVariables false
set_option linter.unusedSimpArgs false
set_option maxRecDepth 100000

def finL (p t : List Int) (k : Nat) : List Int := (findN p t k).map fun (i : Nat) => (i : Int)
theorem finL_no {p t : List Int} {k : Nat} (h : occB p t k = false) : finL p t (k + 1) = finL p t k := by
  unfold finL
  rw [findN_one, if_neg (by rw [h]; decide)]
theorem finL_yes {p t : List Int} {k : Nat} (h : occB p t k = true) : finL p t (k + 1) = finL p t k ++ [(k : Int)] := by
  unfold finL
  rw [findN_one, if_pos h]; simp
theorem finL_len (p t : List Int) (k : Nat) : (finL p t k).length ≤ k := by
  unfold finL
  rw [List.length_map]; exact findN_len _ _ _
set_option maxHeartbeats 2000000 in
theorem spec_find (vt vp : Value) (t p : List Int) (w : World) (ht : IntsAt w vt t) (hp : IntsAt w vp p) (h1 : t.length ≤ 1048576) (h2 : p.length ≤ 1048576) :
    Calls Try.prog 53 #[vt, vp] w (NewRow (finL p t t.length) w) := by
  obtain ⟨i0, hi, hz0, hz1, hz2⟩ := info_parts infoI64
  have hq := fun (k : Nat) (hk : k ≤ t.length) W (hW : Below w.heap.size w W) => spec_occurs vt vp t p k W (ht.below hW) (hp.below hW) h1 h2 (by omega)
  obtain ⟨A, c, rfl⟩ := ints_form ht
  obtain ⟨B, d, rfl⟩ := ints_form hp
  clear ht hp
  go_enter Try.func53, Try.ntmps53
  go_wp2_with (fail)
  go_loopw [5, 6] (fun v i wr => ∃ k : Nat, k ≤ t.length ∧ i = .int .i64 k ∧ wr.ownsRow w.heap.size 2 1 v (finL p t k).length (ints (finL p t k)) ∧ Below w.heap.size w wr) (fun _ i _ => t.length - (intOf i).toNat)
  case atStart => exact ⟨0, Nat.zero_le _, rfl, World.ownsRow_lit _ _ _ (Nat.le_refl _) (by decide) (by decide), (Below.refl _ _).alloc (Nat.le_refl _) _⟩
  case round =>
    obtain ⟨k, hk, rfl, hown, hbw⟩ := hrel
    have hsz := hbw.size
    by_cases hlt : k < t.length
    · have k0 : (0 : Int) ≤ (k : Int) := by omega
      have d1 : decide ((k : Int) < (t.length : Int)) = true := decide_eq_true (by omega)
      have HL := Bx.mk (finL_len p t k)
      have hqk := hq k hk wr hbw
      cases ho : occB p t k
      · have HS := Bx.mk (finL_no ho)
        rw [ho] at hqk
        clear ho hq
        go_wp2_with (fail)
        refine hqk.mono ?_
        rintro r w1 ⟨rfl, hd⟩
        have hb1 := below_dr hd
        have hown1 := own_below hown hb1
        have hbw1 := hbw.trans (hb1.mono hsz)
        clear hd hb1 hown hbw hqk
        go_wp2_with (fail)
        go_roundw
        case rel => exact ⟨k + 1, by omega, by go_num, by rw [HS.out]; exact hown1, hbw1⟩
        case measure => simp [intOf]; omega
      · have HS := Bx.mk (finL_yes ho)
        rw [ho] at hqk
        clear ho hq
        go_wp2_with (fail)
        refine hqk.mono ?_
        rintro r w1 ⟨rfl, hd⟩
        have hb1 := below_dr hd
        have hown1 := own_below hown hb1
        have hbw1 := hbw.trans (hb1.mono hsz)
        clear hd hb1 hown hbw hqk hsz
        have hsz := hbw1.size
        go_wp2_with ((at_builtin; refine wpList_append_own _ rfl _ _ 27 rfl w.heap.size 2 i0 (.int .i64 0) 1 8 Try.underlying27 hi hz0 hz1 hz2 rfl (by decide) _ _ _ rfl (hown1.alloc _) ⟨w1.heap.size, 0, none⟩ 1 1 [.int .i64 k] rfl rfl (cell_one_new _ _ _) (fun x hx => by simp at hx; subst hx; rfl) (by have := HL.out; unfold maxLen; omega) (by have := HL.out; omega) (by simp; omega) ?_; intro v' w3 hown' hgrow3 hnil3))
        have hown2 : w3.ownsRow w.heap.size 2 1 v' (finL p t (k + 1)).length (ints (finL p t (k + 1))) := by
          rw [HS.out, ints_snoc', List.length_append]; exact hown'
        have hb2 : Below w.heap.size w w3 := below_app' hbw1 hown1 (Nat.le_refl _) hgrow3
        clear hown' hgrow3 hnil3 hown1
        go_roundw
        case rel => exact ⟨k + 1, by omega, by go_num, hown2, hb2⟩
        case measure => simp [intOf]; omega
    · obtain rfl : k = t.length := by omega
      have d1 : decide ((t.length : Int) < (t.length : Int)) = false := decide_eq_false (by omega)
      go_wp2_with (fail)
      go_ret
      exact ⟨_, rfl, hown, hbw⟩
/-- the code for pitches and a phrase -/
def askP (t p : List Int) : Int := if phB p = true then (if pitB t = true then 0 else 7) else 1
theorem spec_ask6 (vt vp : Value) (t p : List Int) (w : World) (ht : IntsAt w vt t) (hp : IntsAt w vp p) (h1 : t.length ≤ 1048576) (h2 : p.length ≤ 1048576) :
    Calls Try.prog 52 #[vt, vp] w fun e w' => e = .returned (.int .i64 (askP t p)) ∧ w = w' := by
  have q1 := spec_phrase vp p w hp h2
  have q2 := spec_pits vt t w ht h1
  have HO : Bx (askP t p = if phB p = true then (if pitB t = true then 0 else 7) else 1) := Bx.mk rfl
  obtain ⟨A, c, rfl⟩ := ints_form ht
  obtain ⟨B, d, rfl⟩ := ints_form hp
  clear ht hp
  generalize askP t p = z at HO ⊢
  generalize phB p = b0 at q1 HO
  generalize pitB t = b1 at q2 HO
  cases b0
  · have HE : Bx (z = 1) := Bx.mk (by rw [HO.out]; rfl)
    clear HO
    go_enter Try.func52, Try.ntmps52
    go_wp2_with (fail)
    refine q1.mono ?_
    rintro r w1 ⟨rfl, rfl⟩
    go_wp2_with (fail)
    go_ret
    exact ⟨ret_int HE.out.symm, rfl⟩
  · cases b1
    · have HE : Bx (z = 7) := Bx.mk (by rw [HO.out]; rfl)
      clear HO
      go_enter Try.func52, Try.ntmps52
      go_wp2_with (fail)
      refine q1.mono ?_
      rintro r w1 ⟨rfl, rfl⟩
      go_wp2_with (fail)
      refine q2.mono ?_
      rintro r w1 ⟨rfl, rfl⟩
      go_wp2_with (fail)
      go_ret
      exact ⟨ret_int HE.out.symm, rfl⟩
    · have HE : Bx (z = 0) := Bx.mk (by rw [HO.out]; rfl)
      clear HO
      go_enter Try.func52, Try.ntmps52
      go_wp2_with (fail)
      refine q1.mono ?_
      rintro r w1 ⟨rfl, rfl⟩
      go_wp2_with (fail)
      refine q2.mono ?_
      rintro r w1 ⟨rfl, rfl⟩
      go_wp2_with (fail)
      go_ret
      exact ⟨ret_int HE.out.symm, rfl⟩
def findE (t p : List Int) : List Int × Int := if phB p = true then (if pitB t = true then (finL p t t.length, 0) else ([], 7)) else ([], 1)
theorem findE_ask (t p : List Int) : findE t p = if askP t p = 0 then (finL p t t.length, 0) else ([], askP t p) := by
  unfold findE askP
  repeat' split
  all_goals first | rfl | simp_all
theorem findE_len (t p : List Int) : (findE t p).1.length ≤ 64 := by
  unfold findE
  repeat' split
  all_goals simp
  rename_i h
  exact Nat.le_trans (finL_len _ _ _) (pit_yes h).1
theorem spec_findphrase (vt vp : Value) (t p : List Int) (w : World) (ht : IntsAt w vt t) (hp : IntsAt w vp p) (h1 : t.length ≤ 1048576) (h2 : p.length ≤ 1048576) :
    Calls Try.prog 25 #[vt, vp] w (LCOut (findE t p) w) := by
  have q1 := spec_ask6 vt vp t p w ht hp h1 h2
  have q2 := spec_find vt vp t p w ht hp h1 h2
  have HO := Bx.mk (findE_ask t p)
  obtain ⟨A, c, rfl⟩ := ints_form ht
  obtain ⟨B, d, rfl⟩ := ints_form hp
  clear ht hp
  generalize findE t p = u at HO ⊢
  generalize askP t p = z at q1 HO
  by_cases hz : z = 0
  · have HE : Bx (u = (finL p t t.length, 0)) := Bx.mk (HO.out.trans (if_pos hz))
    subst hz
    clear HO
    go_enter Try.func25, Try.ntmps25
    go_wp2_with (fail)
    refine q1.mono ?_
    rintro r w1 ⟨rfl, rfl⟩
    go_wp2_with (fail)
    refine q2.mono ?_
    rintro r w2 ⟨u', rfl, ho, hb⟩
    go_wp2_with (fail)
    go_returns
    exact lc_some HE.out ho hb
  · have HE : Bx (u = ([], z)) := Bx.mk (HO.out.trans (if_neg hz))
    have d1 : (z != 0) = true := by simpa using hz
    clear HO hz
    go_enter Try.func25, Try.ntmps25
    go_wp2_with (fail)
    refine q1.mono ?_
    rintro r w1 ⟨rfl, rfl⟩
    go_wp2_with (fail)
    go_returns
    exact lc_nil HE.out (Below.refl _ _)
theorem apart_le (m : Nat) (L : List Nat) : (apartF m L).2 ≤ L.length := by
  have key : ∀ (L : List Nat) (s : Nat × Nat), (L.foldl (apart1 m) s).2 ≤ s.2 + L.length := by
    intro L
    induction L with
    | nil => intro s; exact Nat.le_refl _
    | cons x r ih =>
      intro s
      have := ih (apart1 m s x)
      simp only [List.foldl_cons, List.length_cons]
      have h2 : (apart1 m s x).2 ≤ s.2 + 1 := by unfold apart1; split <;> simp
      omega
  simpa [apartF] using key L (0, 0)
def apaZ (p t : List Int) (k : Nat) : Nat := (apartF p.length (findN p t k)).2
theorem apaZ_le (p t : List Int) (k : Nat) : apaZ p t k ≤ k := Nat.le_trans (apart_le _ _) (findN_len _ _ _)
def apartE (t p : List Int) : Int × Int := if phB p = true then (if pitB t = true then ((((apaZ p t t.length : Nat) : Int)), (0 : Int)) else (0, 7)) else (0, 1)
theorem apartE_ask (t p : List Int) : apartE t p = if askP t p = 0 then ((((apaZ p t t.length : Nat) : Int)), (0 : Int)) else (0, askP t p) := by
  unfold apartE askP
  repeat' split
  all_goals first | rfl | simp_all
theorem askP_zero {t p : List Int} (h : askP t p = 0) : phB p = true ∧ pitB t = true := by
  unfold askP at h
  split at h
  · split at h
    · exact ⟨by assumption, by assumption⟩
    · omega
  · omega
set_option maxHeartbeats 2000000 in
theorem spec_countapart (vt vp : Value) (t p : List Int) (w : World) (ht : IntsAt w vt t) (hp : IntsAt w vp p) (h1 : t.length ≤ 1048576) (h2 : p.length ≤ 1048576) :
    Calls Try.prog 29 #[vt, vp] w fun e w' => e = .returned (.tuple #[.int .i64 (apartE t p).1, .int .i64 (apartE t p).2]) ∧ Below w.heap.size w w' := by
  have q1 := spec_ask6 vt vp t p w ht hp h1 h2
  have hq := fun (k : Nat) (hk : k ≤ t.length) (n : Nat) => spec_occurs vt vp t p k (w.drewN n) (ht.draws n) (hp.draws n) h1 h2 (by omega)
  have HO := Bx.mk (apartE_ask t p)
  have HZ := Bx.mk (fun h => askP_zero (t := t) (p := p) h)
  obtain ⟨A, c, rfl⟩ := ints_form ht
  obtain ⟨B, d, rfl⟩ := ints_form hp
  clear ht hp
  generalize apartE t p = u at HO ⊢
  generalize askP t p = z at q1 HO HZ
  obtain ⟨u1, u2⟩ := u
  by_cases hz : z = 0
  · have HE : Bx ((u1, u2) = (((apaZ p t t.length : Nat) : Int), (0 : Int))) := Bx.mk (HO.out.trans (if_pos hz))
    obtain ⟨hph, hpt⟩ := HZ.out hz
    have l1 := (pit_yes hpt).1
    obtain ⟨_, l2, l3⟩ := ph_yes hph
    subst hz
    clear HO HZ hph hpt
    go_enter Try.func29, Try.ntmps29
    go_wp2_with (fail)
    refine q1.mono ?_
    rintro r w1 ⟨rfl, rfl⟩
    go_wp2_with (fail)
    go_loopw [7, 8] (fun m i wr => ∃ k : Nat, k ≤ t.length ∧ i = .int .i64 k ∧ m = .int .i64 (apaZ p t k : Nat) ∧ Bx ((apartF p.length (findN p t k)).1 ≤ k) ∧ Bx (∃ n, wr = w.drewN n)) (fun _ i _ => t.length - (intOf i).toNat)
    case atStart => exact ⟨0, Nat.zero_le _, rfl, rfl, Bx.mk (Nat.le_refl _), Bx.mk ⟨0, rfl⟩⟩
    case round =>
      obtain ⟨k, hk, rfl, rfl, HK, HW⟩ := hrel
      by_cases hlt : k < t.length
      · have k0 : (0 : Int) ≤ (k : Int) := by omega
        have d1 : decide ((k : Int) < (t.length : Int)) = true := decide_eq_true (by omega)
        have hle := apaZ_le p t k
        have hqk : Calls Try.prog 56 #[.slice A t.length c, .slice B p.length d, .int .i64 k] wr fun e w' => e = .returned (.bool (occB p t k)) ∧ ∃ n, w' = wr.drewN n := by
          obtain ⟨n, rfl⟩ := HW.out; exact hq k hk n
        cases ho : occB p t k
        · have e1 : findN p t (k + 1) = findN p t k := by rw [findN_one, if_neg (by rw [ho]; decide)]
          have HN : Bx ((apaZ p t (k + 1) = apaZ p t k) ∧ (apartF p.length (findN p t (k + 1))).1 ≤ k + 1) := Bx.mk ⟨by unfold apaZ; rw [e1], by rw [e1]; have := HK.out; omega⟩
          rw [ho] at hqk
          clear ho hq e1 HK
          generalize apaZ p t k = m at *
          go_wp2_with (fail)
          refine hqk.mono ?_
          rintro r w1 ⟨rfl, hd⟩
          have HW1 : Bx (∃ n, w1 = w.drewN n) := Bx.mk (by obtain ⟨n, rfl⟩ := hd; exact drmore HW.out n)
          clear hd hqk HW
          go_wp2_with (fail)
          go_roundw
          case rel => exact ⟨k + 1, by omega, by go_num, by rw [HN.out.1], Bx.mk HN.out.2, HW1⟩
          case measure => simp [intOf]; omega
        · have hfar := ((occ_iff _ _ _).1 ho).1
          have e1 := apart_skip (p := p) (t := t) (k := k) p.length (Nat.le_refl _) HK.out ho (by omega)
          have HN : Bx ((apaZ p t (k + p.length) = apaZ p t k + 1) ∧ (apartF p.length (findN p t (k + p.length))).1 ≤ k + p.length) := Bx.mk ⟨by unfold apaZ; rw [e1], by rw [e1]; exact Nat.le_refl _⟩
          have x1 : IntKind.i64.wrap ((k : Int) + (p.length : Int)) = (k : Int) + (p.length : Int) := IntWalk.i64_in _ (by omega)
          rw [ho] at hqk
          clear ho hq e1 HK
          generalize apaZ p t k = m at *
          go_wp2_with (fail)
          refine hqk.mono ?_
          rintro r w1 ⟨rfl, hd⟩
          have HW1 : Bx (∃ n, w1 = w.drewN n) := Bx.mk (by obtain ⟨n, rfl⟩ := hd; exact drmore HW.out n)
          clear hd hqk HW
          go_wp2_with (fail)
          go_roundw
          case rel => exact ⟨k + p.length, by omega, by go_num, by rw [HN.out.1]; go_num, Bx.mk HN.out.2, HW1⟩
          case measure => simp [intOf]; omega
      · obtain rfl : k = t.length := by omega
        have d1 : decide ((t.length : Int) < (t.length : Int)) = false := decide_eq_false (by omega)
        go_wp2_with (fail)
        go_returns
        exact ⟨pairR HE.out, by obtain ⟨n, rfl⟩ := HW.out; exact below_draws (Below.refl _ _) n⟩
  · have HE : Bx ((u1, u2) = ((0 : Int), z)) := Bx.mk (HO.out.trans (if_neg hz))
    have d1 : (z != 0) = true := by simpa using hz
    clear HO hz HZ hq
    go_enter Try.func29, Try.ntmps29
    go_wp2_with (fail)
    refine q1.mono ?_
    rintro r w1 ⟨rfl, rfl⟩
    go_wp2_with (fail)
    go_returns
    exact ⟨pairR HE.out, Below.refl _ _⟩
/-- the border, searched downwards -/
def brdDown (zs : List Int) : Nat → Nat
  | 0 => 0
  | n + 1 => if occB (zs.take (n + 1)) zs (zs.length - (n + 1)) = true then n + 1 else brdDown zs n
theorem occ_take {zs : List Int} {n : Nat} (h : n ≤ zs.length) : occB (zs.take n) zs (zs.length - n) = true ↔ Suf zs zs zs.length n := by
  have hl : (zs.take n).length = n := by rw [List.length_take]; omega
  have hg : ∀ j, j < n → (zs.take n).getD j 0 = zs.getD j 0 := fun j hj => by simp [List.getD, hj]
  rw [occ_iff, hl]
  constructor
  · rintro ⟨_, hh⟩
    exact ⟨h, fun j hj => by rw [← hg j hj]; exact hh j hj⟩
  · intro hs
    exact ⟨by omega, fun j hj => by rw [hg j hj]; exact hs.at' j hj⟩
theorem brdDown_brd {zs : List Int} (n : Nat) (h : n < zs.length) (hn : ∀ c, n < c → c < zs.length → ¬ Suf zs zs zs.length c) : Brd zs zs.length (brdDown zs n) := by
  induction n with
  | zero => exact brd_of h (Suf.zero _ _ _) hn
  | succ n ih =>
    unfold brdDown
    split
    · rename_i ho
      exact brd_of h ((occ_take (by omega)).1 ho) hn
    · rename_i ho
      refine ih (by omega) (fun c h1 h2 hs => ?_)
      by_cases hc : c = n + 1
      · subst hc
        exact ho ((occ_take (by omega)).2 hs)
      · exact hn c (by omega) h2 hs
def brdZ (zs : List Int) : Nat := brdDown zs (zs.length - 1)
theorem brdZ_brd {zs : List Int} (h : 0 < zs.length) : Brd zs zs.length (brdZ zs) := brdDown_brd _ (by omega) (fun c h1 h2 => by omega)
def borderE (zs : List Int) : Int × Int := if phB zs = true then ((brdZ zs : Nat), 0) else (0, 1)
theorem occ_zero (zs : List Int) : occB (zs.take 0) zs (zs.length - 0) = true := (occ_take (Nat.zero_le _)).2 (Suf.zero _ _ _)
theorem brdDown_hit {zs : List Int} {n : Nat} (h : occB (zs.take n) zs (zs.length - n) = true) : brdDown zs n = n := by
  cases n with
  | zero => rfl
  | succ n => unfold brdDown; rw [if_pos h]
theorem brdDown_miss {zs : List Int} {n : Nat} (h : occB (zs.take n) zs (zs.length - n) = false) : 0 < n ∧ brdDown zs n = brdDown zs (n - 1) := by
  cases n with
  | zero => rw [occ_zero] at h; cases h
  | succ n => exact ⟨by omega, by rw [brdDown, if_neg (by rw [h]; decide)]; rfl⟩
theorem ints_takeAt {w : World} {A : Option Addr} {n c : Nat} {zs : List Int} (h : IntsAt w (.slice A zs.length c) zs) (hn : n ≤ zs.length) : IntsAt w (.slice A n c) (zs.take n) := by
  have hl : (zs.take n).length = n := by rw [List.length_take]; omega
  rcases h with ⟨rfl, _⟩ | ⟨b, o, c', e, hb, hx⟩
  · obtain rfl : n = 0 := by simpa using hn
    exact .inl ⟨rfl, A, c, rfl⟩
  · injection e with e1 _ e3
    subst e1 e3
    exact .inr ⟨b, o, c, by rw [hl], hb, fun k hk => by rw [hl] at hk; rw [hx k (by omega)]; simp [List.getD, hk]⟩
set_option maxHeartbeats 2000000 in
theorem spec_border (A : Option Addr) (c : Nat) (zs : List Int) (w : World) (h : IntsAt w (.slice A zs.length c) zs) (hc : zs.length ≤ c) (h1 : zs.length ≤ 1048576) :
    Calls Try.prog 31 #[.slice A zs.length c] w fun e w' => e = .returned (.tuple #[.int .i64 (borderE zs).1, .int .i64 (borderE zs).2]) ∧ Below w.heap.size w w' := by
  have q1 := spec_phrase _ zs w h h1
  have HO : Bx (borderE zs = if phB zs = true then (((brdZ zs : Nat) : Int), (0 : Int)) else (0, 1)) := Bx.mk rfl
  have HH := Bx.mk h
  clear h
  generalize borderE zs = u at HO ⊢
  obtain ⟨u1, u2⟩ := u
  cases hph : phB zs
  · have HE : Bx ((u1, u2) = ((0 : Int), (1 : Int))) := Bx.mk (by rw [HO.out, hph]; rfl)
    rw [hph] at q1
    clear HO hph
    go_enter Try.func31, Try.ntmps31
    go_wp2_with (fail)
    refine q1.mono ?_
    rintro r w1 ⟨rfl, rfl⟩
    go_wp2_with (fail)
    go_returns
    exact ⟨pairR HE.out, Below.refl _ _⟩
  · have HE : Bx ((u1, u2) = (((brdZ zs : Nat) : Int), (0 : Int))) := Bx.mk (by rw [HO.out, hph]; rfl)
    obtain ⟨_, l2, l3⟩ := ph_yes hph
    rw [hph] at q1
    clear HO hph
    have y0 : IntKind.i64.wrap ((zs.length : Int) - 1) = ((zs.length - 1 : Nat) : Int) := by rw [IntWalk.i64_in _ (by omega)]; omega
    go_enter Try.func31, Try.ntmps31
    go_wp2_with (fail)
    refine q1.mono ?_
    rintro r w1 ⟨rfl, rfl⟩
    go_wp2_with (fail)
    clear y0
    go_loopw [4] (fun i wr => ∃ n : Nat, n < zs.length ∧ i = .int .i64 n ∧ Bx (brdZ zs = brdDown zs n) ∧ Bx (∃ n, wr = w.drewN n)) (fun i _ => (intOf i).toNat)
    case atStart => exact ⟨zs.length - 1, by omega, by first | rfl | go_num, Bx.mk rfl, Bx.mk ⟨0, rfl⟩⟩
    case round =>
      obtain ⟨n, hn, rfl, HK, HW⟩ := hrel
      have k0 : (0 : Int) ≤ (n : Int) := by omega
      have hcap : ¬ ((c : Int) < (n : Int)) := by omega
      have hcap2 : (n : Int) ≤ (c : Int) := by omega
      have y0 : IntKind.i64.wrap ((zs.length : Int) - (n : Int)) = ((zs.length - n : Nat) : Int) := by rw [IntWalk.i64_in _ (by omega)]; omega
      have hq : Calls Try.prog 56 #[.slice A zs.length c, .slice A n c, .int .i64 ((zs.length - n : Nat) : Int)] wr fun e w' => e = .returned (.bool (occB (zs.take n) zs (zs.length - n))) ∧ ∃ m, w' = wr.drewN m := by
        obtain ⟨m, rfl⟩ := HW.out
        exact spec_occurs _ _ zs (zs.take n) (zs.length - n) (w.drewN m) HH.out (ints_takeAt HH.out (by omega)) h1 (by rw [List.length_take]; omega) (by omega)
      cases ho : occB (zs.take n) zs (zs.length - n)
      · obtain ⟨h0, h2⟩ := brdDown_miss ho
        have HN : Bx (brdZ zs = brdDown zs (n - 1)) := Bx.mk (HK.out.trans h2)
        have y1 : IntKind.i64.wrap ((n : Int) - 1) = ((n - 1 : Nat) : Int) := by rw [IntWalk.i64_in _ (by omega)]; omega
        rw [ho] at hq
        clear ho h2 HK
        go_wp2_with (fail)
        refine hq.mono ?_
        rintro r w1 ⟨rfl, hd⟩
        have HW1 : Bx (∃ n, w1 = w.drewN n) := Bx.mk (by obtain ⟨n, rfl⟩ := hd; exact drmore HW.out n)
        clear hd hq HW
        go_wp2_with (fail)
        go_roundw
        case rel => exact ⟨n - 1, by omega, by first | rfl | go_num, HN, HW1⟩
        case measure => simp [intOf]; omega
      · have HN : Bx (brdZ zs = n) := Bx.mk (HK.out.trans (brdDown_hit ho))
        rw [ho] at hq
        clear ho HK
        go_wp2_with (fail)
        refine hq.mono ?_
        rintro r w1 ⟨rfl, hd⟩
        have HW1 : Bx (∃ n, w1 = w.drewN n) := Bx.mk (by obtain ⟨n, rfl⟩ := hd; exact drmore HW.out n)
        clear hd hq HW
        go_wp2_with (fail)
        go_returns
        exact ⟨pairR (HE.out.trans (by rw [HN.out])), by obtain ⟨n, rfl⟩ := HW1.out; exact below_draws (Below.refl _ _) n⟩
end Go.Proofs.Ytobhmoohalkijaa
