/- Phrases, by the model: FindPhrase, CountApart, BorderOf. -/
import Derived.Test.YtpbgjlmcafmejaaPo
import Derived.Test.YtpbgjlmcafmejaaLaw
namespace Go.Proofs.Ytpbgjlmcafmejaa
open Go.ChangeShapes Go.WideShapes Go.ChangeAt Go.RowKit
set_option linter.unusedVariables false
set_option linter.unusedSimpArgs false
set_option maxRecDepth 100000

def finL (p t : List Int) (k : Nat) : List Int := (findN p t k).map fun (i : Nat) => (i : Int)
theorem finL_no {p t : List Int} {k : Nat} (h : occB p t k = false) : finL p t (k + 1) = finL p t k := by
  unfold finL
  rw [findN_one, if_neg (by rw [h]; decide)]
theorem finL_yes {p t : List Int} {k : Nat} (h : occB p t k = true) : finL p t (k + 1) = finL p t k ++ [(k : Int)] := by
  unfold finL
  rw [findN_one, if_pos h]; simp
theorem finL_len (p t : List Int) (k : Nat) : (finL p t k).length ≤ k := by
  unfold finL
  rw [List.length_map]; exact findN_len _ _ _
set_option maxHeartbeats 2000000 in
theorem spec_find (vt vp : Value) (t p : List Int) (w : World) (ht : IntsAt w vt t) (hp : IntsAt w vp p) (h1 : t.length ≤ 1048576) (h2 : p.length ≤ 1048576) :
    Calls Try.prog 101 #[vt, vp] w (NewRow (finL p t t.length) w) := by
  obtain ⟨i0, hi, hz0, hz1, hz2⟩ := info_parts infoI64
  have hq := fun (k : Nat) (hk : k ≤ t.length) W (hW : Below w.heap.size w W) => spec_occurs vt vp t p k W (ht.below hW) (hp.below hW) h1 h2 (by omega)
  obtain ⟨A, c, rfl⟩ := ints_form ht
  obtain ⟨B, d, rfl⟩ := ints_form hp
  clear ht hp
  go_enter Try.func101, Try.ntmps101
  go_wp2_with (fail)
  go_loopw [5, 6] (fun v i wr => ∃ k : Nat, k ≤ t.length ∧ i = .int .i64 k ∧ wr.ownsRow w.heap.size 2 1 v (finL p t k).length (ints (finL p t k)) ∧ Below w.heap.size w wr) (fun _ i _ => t.length - (intOf i).toNat)
  case atStart => exact ⟨0, Nat.zero_le _, rfl, World.ownsRow_lit _ _ _ (Nat.le_refl _) (by decide) (by decide), (Below.refl _ _).alloc (Nat.le_refl _) _⟩
  case round =>
    obtain ⟨k, hk, rfl, hown, hbw⟩ := hrel
    have hsz := hbw.size
    by_cases hlt : k < t.length
    · have k0 : (0 : Int) ≤ (k : Int) := by omega
      have d1 : decide ((k : Int) < (t.length : Int)) = true := decide_eq_true (by omega)
      have HL := Bx.mk (finL_len p t k)
      have hqk := hq k hk wr hbw
      cases ho : occB p t k
      · have HS := Bx.mk (finL_no ho)
        rw [ho] at hqk
        clear ho hq
        go_wp2_with (fail)
        refine hqk.mono ?_
        rintro r w1 ⟨rfl, hd⟩
        have hb1 := below_dr hd
        have hown1 := own_below hown hb1
        have hbw1 := hbw.trans (hb1.mono hsz)
        clear hd hb1 hown hbw hqk
        go_wp2_with (fail)
        go_roundw
        case rel => exact ⟨k + 1, by omega, by go_num, by rw [HS.out]; exact hown1, hbw1⟩
        case measure => simp [intOf]; omega
      · have HS := Bx.mk (finL_yes ho)
        rw [ho] at hqk
        clear ho hq
        go_wp2_with (fail)
        refine hqk.mono ?_
        rintro r w1 ⟨rfl, hd⟩
        have hb1 := below_dr hd
        have hown1 := own_below hown hb1
        have hbw1 := hbw.trans (hb1.mono hsz)
        clear hd hb1 hown hbw hqk hsz
        have hsz := hbw1.size
        go_wp2_with ((at_builtin; refine wpList_append_own _ rfl _ _ 22 rfl w.heap.size 2 i0 (.int .i64 0) 1 8 Try.underlying22 hi hz0 hz1 hz2 rfl (by decide) _ _ _ rfl (hown1.alloc _) ⟨w1.heap.size, 0, none⟩ 1 1 [.int .i64 k] rfl rfl (cell_one_new _ _ _) (fun x hx => by simp at hx; subst hx; rfl) (by have := HL.out; unfold maxLen; omega) (by have := HL.out; omega) (by simp; omega) ?_; intro v' w3 hown' hgrow3 hnil3))
        have hown2 : w3.ownsRow w.heap.size 2 1 v' (finL p t (k + 1)).length (ints (finL p t (k + 1))) := by
          rw [HS.out, ints_snoc', List.length_append]; exact hown'
        have hb2 : Below w.heap.size w w3 := below_app' hbw1 hown1 (Nat.le_refl _) hgrow3
        clear hown' hgrow3 hnil3 hown1
        go_roundw
        case rel => exact ⟨k + 1, by omega, by go_num, hown2, hb2⟩
        case measure => simp [intOf]; omega
    · obtain rfl : k = t.length := by omega
      have d1 : decide ((t.length : Int) < (t.length : Int)) = false := decide_eq_false (by omega)
      go_wp2_with (fail)
      go_ret
      exact ⟨_, rfl, hown, hbw⟩
/-- the code for pitches and a phrase -/
def askP (t p : List Int) : Int := if phB p = true then (if pitB t = true then 0 else 7) else 1
def findE (t p : List Int) : List Int × Int := if phB p = true then (if pitB t = true then (finL p t t.length, 0) else ([], 7)) else ([], 1)
theorem findE_ask (t p : List Int) : findE t p = if askP t p = 0 then (finL p t t.length, 0) else ([], askP t p) := by
  unfold findE askP
  repeat' split
  all_goals first | rfl | simp_all
theorem findE_len (t p : List Int) : (findE t p).1.length ≤ 64 := by
  unfold findE
  repeat' split
  all_goals simp
  rename_i h
  exact Nat.le_trans (finL_len _ _ _) (pit_yes h).1
theorem apart_le (m : Nat) (L : List Nat) : (apartF m L).2 ≤ L.length := by
  have key : ∀ (L : List Nat) (s : Nat × Nat), (L.foldl (apart1 m) s).2 ≤ s.2 + L.length := by
    intro L
    induction L with
    | nil => intro s; exact Nat.le_refl _
    | cons x r ih =>
      intro s
      have := ih (apart1 m s x)
      simp only [List.foldl_cons, List.length_cons]
      have h2 : (apart1 m s x).2 ≤ s.2 + 1 := by unfold apart1; split <;> simp
      omega
  simpa [apartF] using key L (0, 0)
def apaZ (p t : List Int) (k : Nat) : Nat := (apartF p.length (findN p t k)).2
theorem apaZ_le (p t : List Int) (k : Nat) : apaZ p t k ≤ k := Nat.le_trans (apart_le _ _) (findN_len _ _ _)
def apartE (t p : List Int) : Int × Int := if phB p = true then (if pitB t = true then ((((apaZ p t t.length : Nat) : Int)), (0 : Int)) else (0, 7)) else (0, 1)
theorem apartE_ask (t p : List Int) : apartE t p = if askP t p = 0 then ((((apaZ p t t.length : Nat) : Int)), (0 : Int)) else (0, askP t p) := by
  unfold apartE askP
  repeat' split
  all_goals first | rfl | simp_all
theorem askP_zero {t p : List Int} (h : askP t p = 0) : phB p = true ∧ pitB t = true := by
  unfold askP at h
  split at h
  · split at h
    · exact ⟨by assumption, by assumption⟩
    · omega
  · omega
/-- the border, searched downwards -/
def brdDown (zs : List Int) : Nat → Nat
  | 0 => 0
  | n + 1 => if occB (zs.take (n + 1)) zs (zs.length - (n + 1)) = true then n + 1 else brdDown zs n
theorem occ_take {zs : List Int} {n : Nat} (h : n ≤ zs.length) : occB (zs.take n) zs (zs.length - n) = true ↔ Suf zs zs zs.length n := by
  have hl : (zs.take n).length = n := by rw [List.length_take]; omega
  have hg : ∀ j, j < n → (zs.take n).getD j 0 = zs.getD j 0 := fun j hj => by simp [List.getD, hj]
  rw [occ_iff, hl]
  constructor
  · rintro ⟨_, hh⟩
    exact ⟨h, fun j hj => by rw [← hg j hj]; exact hh j hj⟩
  · intro hs
    exact ⟨by omega, fun j hj => by rw [hg j hj]; exact hs.at' j hj⟩
theorem brdDown_brd {zs : List Int} (n : Nat) (h : n < zs.length) (hn : ∀ c, n < c → c < zs.length → ¬ Suf zs zs zs.length c) : Brd zs zs.length (brdDown zs n) := by
  induction n with
  | zero => exact brd_of h (Suf.zero _ _ _) hn
  | succ n ih =>
    unfold brdDown
    split
    · rename_i ho
      exact brd_of h ((occ_take (by omega)).1 ho) hn
    · rename_i ho
      refine ih (by omega) (fun c h1 h2 hs => ?_)
      by_cases hc : c = n + 1
      · subst hc
        exact ho ((occ_take (by omega)).2 hs)
      · exact hn c (by omega) h2 hs
def brdZ (zs : List Int) : Nat := brdDown zs (zs.length - 1)
theorem brdZ_brd {zs : List Int} (h : 0 < zs.length) : Brd zs zs.length (brdZ zs) := brdDown_brd _ (by omega) (fun c h1 h2 => by omega)
def borderE (zs : List Int) : Int × Int := if phB zs = true then ((brdZ zs : Nat), 0) else (0, 1)
theorem occ_zero (zs : List Int) : occB (zs.take 0) zs (zs.length - 0) = true := (occ_take (Nat.zero_le _)).2 (Suf.zero _ _ _)
theorem brdDown_hit {zs : List Int} {n : Nat} (h : occB (zs.take n) zs (zs.length - n) = true) : brdDown zs n = n := by
  cases n with
  | zero => rfl
  | succ n => unfold brdDown; rw [if_pos h]
theorem brdDown_miss {zs : List Int} {n : Nat} (h : occB (zs.take n) zs (zs.length - n) = false) : 0 < n ∧ brdDown zs n = brdDown zs (n - 1) := by
  cases n with
  | zero => rw [occ_zero] at h; cases h
  | succ n => exact ⟨by omega, by rw [brdDown, if_neg (by rw [h]; decide)]; rfl⟩
theorem ints_takeAt {w : World} {A : Option Addr} {n c : Nat} {zs : List Int} (h : IntsAt w (.slice A zs.length c) zs) (hn : n ≤ zs.length) : IntsAt w (.slice A n c) (zs.take n) := by
  have hl : (zs.take n).length = n := by rw [List.length_take]; omega
  rcases h with ⟨rfl, _⟩ | ⟨b, o, c', e, hb, hx⟩
  · obtain rfl : n = 0 := by simpa using hn
    exact .inl ⟨rfl, A, c, rfl⟩
  · injection e with e1 _ e3
    subst e1 e3
    exact .inr ⟨b, o, c, by rw [hl], hb, fun k hk => by rw [hl] at hk; rw [hx k (by omega)]; simp [List.getD, hk]⟩
end Go.Proofs.Ytpbgjlmcafmejaa
