/- Items out of bytes: what the model draws. -/
import Derived.Test.YtidblpamolimpaaHl
import Derived.Test.YtidblpamolimpaaSrc2
import Derived.Deep.RegionWith
namespace Go.Proofs.Ytidblpamolimpaa
open Go.ChangeShapes Go.WideShapes Go.ChangeAt Go.RowKit
set_option linter.unusedVariables false
set_option linter.unusedSimpArgs false
set_option maxRecDepth 100000

theorem gb_cell (w : World) (b o : Nat) (v : Value) : w.grownBy (w.setCell ⟨b, o, none⟩ v) (some b) :=
  ⟨rfl, rfl, rfl, by simp [World.setCell], fun k hk hne => Below.heap_setCell _ _ _ _ (fun e => hne (by rw [e]))⟩
theorem gb_row (w : World) (b : Nat) (c : Array Value) : w.grownBy (w.setRow b c) (some b) :=
  ⟨rfl, rfl, rfl, by simp [World.setRow], fun k hk hne => by
    simp only [World.setRow, Array.getElem?_modify]
    rw [if_neg (fun e => hne (by rw [e]))]⟩
theorem srcD_lt {w : World} {g T : Nat} (h : Src w g T) : g < w.heap.size := by
  obtain ⟨A, n, c, a, sd, hblk, _⟩ := h
  exact (Array.getElem?_eq_some_iff.1 hblk).1
theorem srcD_row {w w' : World} {g T : Nat} {row : Option Nat} (h : Src w g T) (hg : w.grownBy w' row) (hn : ∀ k, row = some k → g < k) : Src w' g T := by
  obtain ⟨A, n, c, a, sd, hblk, h1, h2, h3, hA⟩ := h
  have hlt : g < w.heap.size := (Array.getElem?_eq_some_iff.1 hblk).1
  refine ⟨A, n, c, a, sd, by rw [hg.block g hlt (fun e => by have := hn g e.symm; omega)]; exact hblk, h1, h2, h3, fun h0 => ?_⟩
  obtain ⟨b, o, e, hb, hx⟩ := hA h0
  refine ⟨b, o, e, hb, fun k hk => ?_⟩
  obtain ⟨x, hc, hr⟩ := hx k hk
  exact ⟨x, hg.cell hc (fun e => by have := hn b e.symm; omega), hr⟩
/-- a source, and nothing else of what was there is changed -/
structure St (w0 : World) (g T : Nat) (w : World) : Prop where
  src : Src w g T
  gr : w0.grownBy w (some g)
  gl : g < w0.heap.size
theorem St.start {w : World} {g T : Nat} (h : Src w g T) : St w g T w := ⟨h, World.grownBy.refl w _, srcD_lt h⟩
theorem St.next {w0 w w' : World} {g T T' : Nat} (h : St w0 g T w) (hs : Src w' g T') (hg : w.grownBy w' (some g)) : St w0 g T' w' := ⟨hs, h.gr.trans hg, h.gl⟩
theorem St.alloc {w0 w : World} {g T : Nat} (h : St w0 g T w) (o : Obj) : St w0 g T (w.alloc o) :=
  ⟨srcD_row h.src (World.grownBy_alloc w o none) (fun k e => by cases e), h.gr.trans (World.grownBy_alloc w o _), h.gl⟩
theorem gb_new {w0 w w' : World} {g b : Nat} (h : w0.grownBy w (some g)) (hg : w.grownBy w' (some b)) (hb : w0.heap.size ≤ b) : w0.grownBy w' (some g) :=
  ⟨hg.os.trans h.os, hg.tape.trans h.tape, hg.output.trans h.output, Nat.le_trans h.size hg.size, fun k hk hne => (hg.block k (Nat.lt_of_lt_of_le hk h.size) (fun e => by injection e with e; omega)).trans (h.block k hk hne)⟩
theorem St.set {w0 w : World} {g T b : Nat} (h : St w0 g T w) (hb : w0.heap.size ≤ b) (o : Nat) (v : Value) : St w0 g T (w.setCell ⟨b, o, none⟩ v) :=
  ⟨srcD_row h.src (gb_cell w b o v) (fun k e => by injection e with e; have := h.gl; omega), gb_new h.gr (gb_cell w b o v) hb, h.gl⟩
theorem St.row {w0 w : World} {g T b : Nat} (h : St w0 g T w) (hb : w0.heap.size ≤ b) (c : Array Value) : St w0 g T (w.setRow b c) :=
  ⟨srcD_row h.src (gb_row w b c) (fun k e => by injection e with e; have := h.gl; omega), gb_new h.gr (gb_row w b c) hb, h.gl⟩
theorem St.drew {w0 w : World} {g T : Nat} (h : St w0 g T w) (hd : w.drew.tape = w.tape → True) : Src w.drew g T := h.src
theorem BoxN.pick {w w' : World} {g b : Nat} {xs : Array Value} {t : TypeId} (h : BoxN w b xs t) (hg : w.grownBy w' (some g)) (hb : b ≠ g) : BoxN w' b xs t := h.grownN hg (fun e => hb (by injection e with e; exact e.symm))
/-- an item with small numbers -/
structure Dr (x : It) : Prop where
  n : x.nm.size ≤ 20
  f : -10 ≤ x.f ∧ x.f ≤ 2000
  u : -10 ≤ x.u ∧ x.u ≤ 2000
  s : -10 ≤ x.s ∧ x.s ≤ 2000
  m : -10 ≤ x.m ∧ x.m ≤ 2000
  p : -10 ≤ x.p ∧ x.p ≤ 2000
theorem Dr.wf {x : It} (h : Dr x) : WfI x := by
  obtain ⟨h0, h1, h2, h3, h4, h5⟩ := h
  have key : ∀ z : Int, -10 ≤ z ∧ z ≤ 2000 → (Lit.int .i64 z).wf = true := fun z hz => by
    simp [Lit.wf, IntKind.bits, IntKind.signed, IntKind.min, IntKind.max]; omega
  exact ⟨by unfold maxLen; omega, key _ h1, key _ h2, key _ h3, key _ h4, key _ h5⟩
def ItOut (g T : Nat) (w : World) (e : Ending) (w' : World) : Prop := ∃ x, e = .returned (itV x) ∧ Dr x ∧ Src w' g T ∧ w.grownBy w' (some g)
def NumOut (g T : Nat) (w : World) (e : Ending) (w' : World) : Prop := ∃ x : Int, (-10 ≤ x ∧ x ≤ 2000) ∧ e = .returned (.int .i64 x) ∧ Src w' g T ∧ w.grownBy w' (some g)
theorem am_se (g T : Nat) (w : World) (h : Src w g T) (hT : T ≤ 100000) : Calls Try.prog 32 #[.pointer (some ⟨g, 0, none⟩), .slice (some ⟨w.heap.size, 0, none⟩) 5 5] (w.alloc (.cells #[.int .i64 (-1), .int .i64 (-1), .int .i64 0, .int .i64 1, .int .i64 5] 2)) (AmongOut g T [(-1), (-1), 0, 1, 5] (w.alloc (.cells #[.int .i64 (-1), .int .i64 (-1), .int .i64 0, .int .i64 1, .int .i64 5] 2))) :=
  among_any g T w.heap.size 5 [(-1), (-1), 0, 1, 5] _ (srcD_row h (World.grownBy_alloc w _ none) (fun k e => by cases e)) (by omega) rfl (by omega) ⟨by have := srcD_lt h; omega, by simp⟩ (fun k hk => by
    have P := BoxN.at w w.heap.size #[.int .i64 (-1), .int .i64 (-1), .int .i64 0, .int .i64 1, .int .i64 5] 2 rfl
    match k, hk with
    | 0, _ => exact P.c (k := 0) rfl
    | 1, _ => exact P.c (k := 1) rfl
    | 2, _ => exact P.c (k := 2) rfl
    | 3, _ => exact P.c (k := 3) rfl
    | 4, _ => exact P.c (k := 4) rfl)
theorem am_mi (g T : Nat) (w : World) (h : Src w g T) (hT : T ≤ 100000) : Calls Try.prog 32 #[.pointer (some ⟨g, 0, none⟩), .slice (some ⟨w.heap.size, 0, none⟩) 4 4] (w.alloc (.cells #[.int .i64 (-1), .int .i64 0, .int .i64 1439, .int .i64 1440] 2)) (AmongOut g T [(-1), 0, 1439, 1440] (w.alloc (.cells #[.int .i64 (-1), .int .i64 0, .int .i64 1439, .int .i64 1440] 2))) :=
  among_any g T w.heap.size 4 [(-1), 0, 1439, 1440] _ (srcD_row h (World.grownBy_alloc w _ none) (fun k e => by cases e)) (by omega) rfl (by omega) ⟨by have := srcD_lt h; omega, by simp⟩ (fun k hk => by
    have P := BoxN.at w w.heap.size #[.int .i64 (-1), .int .i64 0, .int .i64 1439, .int .i64 1440] 2 rfl
    match k, hk with
    | 0, _ => exact P.c (k := 0) rfl
    | 1, _ => exact P.c (k := 1) rfl
    | 2, _ => exact P.c (k := 2) rfl
    | 3, _ => exact P.c (k := 3) rfl)
theorem am_ss (g T : Nat) (w : World) (h : Src w g T) (hT : T ≤ 100000) : Calls Try.prog 32 #[.pointer (some ⟨g, 0, none⟩), .slice (some ⟨w.heap.size, 0, none⟩) 8 8] (w.alloc (.cells #[.int .i64 0, .int .i64 1, .int .i64 5, .int .i64 0, .int .i64 1, .int .i64 6, .int .i64 (-1), .int .i64 2] 2)) (AmongOut g T [0, 1, 5, 0, 1, 6, (-1), 2] (w.alloc (.cells #[.int .i64 0, .int .i64 1, .int .i64 5, .int .i64 0, .int .i64 1, .int .i64 6, .int .i64 (-1), .int .i64 2] 2))) :=
  among_any g T w.heap.size 8 [0, 1, 5, 0, 1, 6, (-1), 2] _ (srcD_row h (World.grownBy_alloc w _ none) (fun k e => by cases e)) (by omega) rfl (by omega) ⟨by have := srcD_lt h; omega, by simp⟩ (fun k hk => by
    have P := BoxN.at w w.heap.size #[.int .i64 0, .int .i64 1, .int .i64 5, .int .i64 0, .int .i64 1, .int .i64 6, .int .i64 (-1), .int .i64 2] 2 rfl
    match k, hk with
    | 0, _ => exact P.c (k := 0) rfl
    | 1, _ => exact P.c (k := 1) rfl
    | 2, _ => exact P.c (k := 2) rfl
    | 3, _ => exact P.c (k := 3) rfl
    | 4, _ => exact P.c (k := 4) rfl
    | 5, _ => exact P.c (k := 5) rfl
    | 6, _ => exact P.c (k := 6) rfl
    | 7, _ => exact P.c (k := 7) rfl)
theorem am_f (g T : Nat) (w : World) (h : Src w g T) (hT : T ≤ 100000) : Calls Try.prog 32 #[.pointer (some ⟨g, 0, none⟩), .slice (some ⟨w.heap.size, 0, none⟩) 3 3] (w.alloc (.cells #[.int .i64 (-1), .int .i64 1439, .int .i64 1440] 2)) (AmongOut g T [(-1), 1439, 1440] (w.alloc (.cells #[.int .i64 (-1), .int .i64 1439, .int .i64 1440] 2))) :=
  among_any g T w.heap.size 3 [(-1), 1439, 1440] _ (srcD_row h (World.grownBy_alloc w _ none) (fun k e => by cases e)) (by omega) rfl (by omega) ⟨by have := srcD_lt h; omega, by simp⟩ (fun k hk => by
    have P := BoxN.at w w.heap.size #[.int .i64 (-1), .int .i64 1439, .int .i64 1440] 2 rfl
    match k, hk with
    | 0, _ => exact P.c (k := 0) rfl
    | 1, _ => exact P.c (k := 1) rfl
    | 2, _ => exact P.c (k := 2) rfl)
theorem am_s (g T : Nat) (w : World) (h : Src w g T) (hT : T ≤ 100000) : Calls Try.prog 32 #[.pointer (some ⟨g, 0, none⟩), .slice (some ⟨w.heap.size, 0, none⟩) 3 3] (w.alloc (.cells #[.int .i64 (-2), .int .i64 5, .int .i64 6] 2)) (AmongOut g T [(-2), 5, 6] (w.alloc (.cells #[.int .i64 (-2), .int .i64 5, .int .i64 6] 2))) :=
  among_any g T w.heap.size 3 [(-2), 5, 6] _ (srcD_row h (World.grownBy_alloc w _ none) (fun k e => by cases e)) (by omega) rfl (by omega) ⟨by have := srcD_lt h; omega, by simp⟩ (fun k hk => by
    have P := BoxN.at w w.heap.size #[.int .i64 (-2), .int .i64 5, .int .i64 6] 2 rfl
    match k, hk with
    | 0, _ => exact P.c (k := 0) rfl
    | 1, _ => exact P.c (k := 1) rfl
    | 2, _ => exact P.c (k := 2) rfl)
theorem am_m (g T : Nat) (w : World) (h : Src w g T) (hT : T ≤ 100000) : Calls Try.prog 32 #[.pointer (some ⟨g, 0, none⟩), .slice (some ⟨w.heap.size, 0, none⟩) 4 4] (w.alloc (.cells #[.int .i64 0, .int .i64 1, .int .i64 240, .int .i64 241] 2)) (AmongOut g T [0, 1, 240, 241] (w.alloc (.cells #[.int .i64 0, .int .i64 1, .int .i64 240, .int .i64 241] 2))) :=
  among_any g T w.heap.size 4 [0, 1, 240, 241] _ (srcD_row h (World.grownBy_alloc w _ none) (fun k e => by cases e)) (by omega) rfl (by omega) ⟨by have := srcD_lt h; omega, by simp⟩ (fun k hk => by
    have P := BoxN.at w w.heap.size #[.int .i64 0, .int .i64 1, .int .i64 240, .int .i64 241] 2 rfl
    match k, hk with
    | 0, _ => exact P.c (k := 0) rfl
    | 1, _ => exact P.c (k := 1) rfl
    | 2, _ => exact P.c (k := 2) rfl
    | 3, _ => exact P.c (k := 3) rfl)
theorem am_p (g T : Nat) (w : World) (h : Src w g T) (hT : T ≤ 100000) : Calls Try.prog 32 #[.pointer (some ⟨g, 0, none⟩), .slice (some ⟨w.heap.size, 0, none⟩) 4 4] (w.alloc (.cells #[.int .i64 (-1), .int .i64 0, .int .i64 1000, .int .i64 1001] 2)) (AmongOut g T [(-1), 0, 1000, 1001] (w.alloc (.cells #[.int .i64 (-1), .int .i64 0, .int .i64 1000, .int .i64 1001] 2))) :=
  among_any g T w.heap.size 4 [(-1), 0, 1000, 1001] _ (srcD_row h (World.grownBy_alloc w _ none) (fun k e => by cases e)) (by omega) rfl (by omega) ⟨by have := srcD_lt h; omega, by simp⟩ (fun k hk => by
    have P := BoxN.at w w.heap.size #[.int .i64 (-1), .int .i64 0, .int .i64 1000, .int .i64 1001] 2 rfl
    match k, hk with
    | 0, _ => exact P.c (k := 0) rfl
    | 1, _ => exact P.c (k := 1) rfl
    | 2, _ => exact P.c (k := 2) rfl
    | 3, _ => exact P.c (k := 3) rfl)
theorem am_many (g T : Nat) (w : World) (h : Src w g T) (hT : T ≤ 100000) : Calls Try.prog 32 #[.pointer (some ⟨g, 0, none⟩), .slice (some ⟨w.heap.size, 0, none⟩) 2 2] (w.alloc (.cells #[.int .i64 12, .int .i64 13] 2)) (AmongOut g T [12, 13] (w.alloc (.cells #[.int .i64 12, .int .i64 13] 2))) :=
  among_any g T w.heap.size 2 [12, 13] _ (srcD_row h (World.grownBy_alloc w _ none) (fun k e => by cases e)) (by omega) rfl (by omega) ⟨by have := srcD_lt h; omega, by simp⟩ (fun k hk => by
    have P := BoxN.at w w.heap.size #[.int .i64 12, .int .i64 13] 2 rfl
    match k, hk with
    | 0, _ => exact P.c (k := 0) rfl
    | 1, _ => exact P.c (k := 1) rfl)
theorem draw_min (g T : Nat) (w : World) (h : Src w g T) (hT : T ≤ 10000) : Calls Try.prog 17 #[.pointer (some ⟨g, 0, none⟩)] w (NumOut g (T + 4) w) := by
  have S0 := Bx.mk (St.start h)
  clear h
  go_enter Try.func17, Try.ntmps17
  go_wp2_with (fail)
  refine (one_any g T 9 w S0.out.src (by omega) (by omega) (by omega)).mono ?_
  rintro e w1 ⟨b, rfl, hs, hg⟩
  have S1 := Bx.mk (S0.out.next hs hg)
  clear hs hg S0
  cases b
  · go_wp2_with (fail)
    refine (pick_any g (T + 2) 48 w1 S1.out.src (by omega) (by omega) (by omega)).mono ?_
    rintro e w2 ⟨x, hx, rfl, hs, hg⟩
    have S2 := Bx.mk (S1.out.next hs hg)
    have hw : IntKind.i64.wrap (30 * x) = 30 * x := IntWalk.i64_in _ (by omega)
    clear hs hg S1
    go_wp2_with (fail)
    go_ret
    exact ⟨30 * x, by omega, by first | rfl | simp [hw], S2.out.src, S2.out.gr⟩
  · go_wp2_with (fail)
    refine (am_mi g (T + 2) w1 S1.out.src (by omega)).mono ?_
    rintro e w2 ⟨x, hx, rfl, hs, hg⟩
    have S2 := Bx.mk ((S1.out.alloc (.cells #[.int .i64 (-1), .int .i64 0, .int .i64 1439, .int .i64 1440] 2)).next hs hg)
    clear hs hg S1
    go_wp2_with (fail)
    go_ret
    refine ⟨x, ?_, rfl, S2.out.src, S2.out.gr⟩
    simp at hx
    omega
theorem draw_sea (g T : Nat) (w : World) (h : Src w g T) (hT : T ≤ 10000) : Calls Try.prog 18 #[.pointer (some ⟨g, 0, none⟩)] w (NumOut g (T + 2) w) := by
  have S0 := Bx.mk (St.start h)
  clear h
  go_enter Try.func18, Try.ntmps18
  go_wp2_with (fail)
  refine (am_ss g T w S0.out.src (by omega)).mono ?_
  rintro e w2 ⟨x, hx, rfl, hs, hg⟩
  have S2 := Bx.mk ((S0.out.alloc (.cells #[.int .i64 0, .int .i64 1, .int .i64 5, .int .i64 0, .int .i64 1, .int .i64 6, .int .i64 (-1), .int .i64 2] 2)).next hs hg)
  clear hs hg S0
  go_wp2_with (fail)
  go_ret
  refine ⟨x, ?_, rfl, S2.out.src, S2.out.gr⟩
  simp at hx
  omega
set_option maxHeartbeats 4000000 in
theorem draw_one (g T : Nat) (nm : ByteArray) (w : World) (h : Src w g T) (hT : T ≤ 10000) (hn : nm.size ≤ 20) : Calls Try.prog 16 #[.pointer (some ⟨g, 0, none⟩), .string nm] w (ItOut g (T + 10) w) := by
  have S0 := (St.start h).alloc (.cells #[.string ⟨#[]⟩, .int .i64 0, .int .i64 0, .int .i64 0, .int .i64 0, .int .i64 0] 25)
  have R0 := BoxN.at w w.heap.size #[.string ⟨#[]⟩, .int .i64 0, .int .i64 0, .int .i64 0, .int .i64 0, .int .i64 0] 25 rfl
  have hgl := srcD_lt h
  generalize hW : w.alloc (.cells #[.string ⟨#[]⟩, .int .i64 0, .int .i64 0, .int .i64 0, .int .i64 0, .int .i64 0] 25) = W0 at S0 R0
  have S0 := Bx.mk S0
  have R0 := Bx.mk R0
  have HG := Bx.mk hgl
  clear h
  go_enter Try.func16, Try.ntmps16
  go_wp2_with (fail)
  try rw [hW]
  try clear hW
  refine (pick_any g T 24 W0 S0.out.src (by omega) (by omega) (by omega)).mono ?_
  rintro e w2 ⟨x1, h1, rfl, hs, hg⟩
  have S2 := Bx.mk (S0.out.next hs hg)
  have R2 := Bx.mk (R0.out.pick hg (by omega))
  have hw1 : IntKind.i64.wrap (60 * x1) = 60 * x1 := IntWalk.i64_in _ (by omega)
  clear hs hg S0 R0
  go_wp2_with (fail)
  refine (am_se g (T + 2) w2 S2.out.src (by omega)).mono ?_
  rintro e w4 ⟨x3, h3, rfl, hs, hg⟩
  have S4 := Bx.mk ((S2.out.alloc (.cells #[.int .i64 (-1), .int .i64 (-1), .int .i64 0, .int .i64 1, .int .i64 5] 2)).next hs hg)
  have R4 := Bx.mk ((R2.out.alloc (.cells #[.int .i64 (-1), .int .i64 (-1), .int .i64 0, .int .i64 1, .int .i64 5] 2)).pick hg (by omega))
  have b3 : -1 ≤ x3 ∧ x3 ≤ 5 := by simp at h3; omega
  clear hs hg S2 R2 h3
  go_wp2_with (fail)
  have S5 := S4.out.alloc (.cells #[.string nm, .int .i64 (60 * x1), .int .i64 0, .int .i64 x3, .int .i64 0, .int .i64 0] 25)
  have R5 := R4.out.alloc (.cells #[.string nm, .int .i64 (60 * x1), .int .i64 0, .int .i64 x3, .int .i64 0, .int .i64 0] 25)
  have X5 := BoxN.at w4 w4.heap.size #[.string nm, .int .i64 (60 * x1), .int .i64 0, .int .i64 x3, .int .i64 0, .int .i64 0] 25 rfl
  have hr := R4.out.lt
  generalize w4.alloc (.cells #[.string nm, .int .i64 (60 * x1), .int .i64 0, .int .i64 x3, .int .i64 0, .int .i64 0] 25) = w5 at S5 R5 X5 ⊢
  obtain ⟨b5, hb5⟩ : ∃ b, b = w4.heap.size := ⟨_, rfl⟩
  rw [← hb5] at X5 hr ⊢
  clear hb5 S4 R4
  have S5 := Bx.mk S5
  have R5 := Bx.mk R5
  have X5 := Bx.mk X5
  have hbg : b5 ≠ g := by omega
  have hr5 := Bx.mk hr
  have y1 := X5.out.c (k := 1) rfl
  have yl := X5.out.lt
  have S5s : Src w5.drew g (T + 4) := S5.out.src
  go_region_with ((go_at_call 31; (with_reducible refine (pick_any g (T + 4) 20 _ S5s (by omega) (by omega) (by omega)).mono ?_); rintro e w6 ⟨x2, h2, rfl, hs, hg⟩; replace hg : w5.grownBy w6 (some g) := ⟨hg.os, hg.tape, hg.output, hg.size, hg.block⟩; have S6 := Bx.mk (S5.out.next hs hg); have R6 := Bx.mk (R5.out.pick hg (by omega)); have X6 := Bx.mk (X5.out.pick hg hbg); have z1 := X6.out.c (k := 1) rfl; have z2 := X6.out.c (k := 2) rfl; have zf := X6.out.fr 2; have zl := X6.out.lt; have hw2 : IntKind.i64.wrap (1 + x2) = 1 + x2 := IntWalk.i64_in _ (by omega); have hw3 : IntKind.i64.wrap (60 * (1 + x2)) = 60 * (1 + x2) := IntWalk.i64_in _ (by omega); have hw4 : IntKind.i64.wrap (60 * x1 + 60 * (1 + x2)) = 60 * x1 + 60 * (1 + x2) := IntWalk.i64_in _ (by omega); have hm5 : (60 * x1 + 60 * (1 + x2)).tmod 1440 = (60 * x1 + 60 * (1 + x2)) % 1440 := Int.tmod_eq_emod_of_nonneg (by omega); have hw5 : IntKind.i64.wrap ((60 * x1 + 60 * (1 + x2)) % 1440) = (60 * x1 + 60 * (1 + x2)) % 1440 := IntWalk.i64_in _ (by omega); clear hs hg))
  all_goals
    have S7 := Bx.mk (S6.out.set (b := b5) (by omega) 2 (.int .i64 ((60 * x1 + 60 * (1 + x2)) % 1440)))
    have R7 := Bx.mk (R6.out.other (b := b5) (o := 2) (by omega) (.int .i64 ((60 * x1 + 60 * (1 + x2)) % 1440)))
    have X7 := Bx.mk (X6.out.put 2 (.int .i64 ((60 * x1 + 60 * (1 + x2)) % 1440)))
    have bu : 0 ≤ (60 * x1 + 60 * (1 + x2)) % 1440 ∧ (60 * x1 + 60 * (1 + x2)) % 1440 ≤ 1440 := by omega
    generalize (60 * x1 + 60 * (1 + x2)) % 1440 = u at *
    generalize w6.setCell ⟨b5, 2, none⟩ (.int .i64 u) = w7 at S7 R7 X7 ⊢
    clear S6 R6 X6 z1 z2 zf zl y1 yl S5 R5 X5 hw2 hw3 hw4 hm5 hw5
    go_wp2_with (fail)
    refine (pick_any g (T + 6) 9 w7 S7.out.src (by omega) (by omega) (by omega)).mono ?_
    rintro e w8 ⟨x4, h4, rfl, hs, hg⟩
    have S8 := Bx.mk (S7.out.next hs hg)
    have R8 := Bx.mk (R7.out.pick hg (by omega))
    have X8 := Bx.mk (X7.out.pick hg hbg)
    have hw6 : IntKind.i64.wrap (10 * x4) = 10 * x4 := IntWalk.i64_in _ (by omega)
    have hw7 : IntKind.i64.wrap (20 + 10 * x4) = 20 + 10 * x4 := IntWalk.i64_in _ (by omega)
    have hw8 : IntKind.i64.wrap (10 * x4 + 20) = 10 * x4 + 20 := IntWalk.i64_in _ (by omega)
    have z4 := X8.out.c (k := 4) rfl
    have zf := X8.out.fr 4
    have zl := X8.out.lt
    clear hs hg S7 R7 X7
    go_wp2_with (fail)
    have S9 := Bx.mk (S8.out.set (b := b5) (by omega) 4 (.int .i64 (20 + 10 * x4)))
    have R9 := Bx.mk (R8.out.other (b := b5) (o := 4) (by omega) (.int .i64 (20 + 10 * x4)))
    have X9 := Bx.mk (X8.out.put 4 (.int .i64 (20 + 10 * x4)))
    generalize w8.setCell ⟨b5, 4, none⟩ (.int .i64 (20 + 10 * x4)) = w9 at S9 R9 X9 ⊢
    clear S8 R8 X8 z4 zf zl
    refine (pick_any g (T + 8) 200 w9 S9.out.src (by omega) (by omega) (by omega)).mono ?_
    rintro e w10 ⟨x5, h5, rfl, hs, hg⟩
    have S10 := Bx.mk (S9.out.next hs hg)
    have R10 := Bx.mk (R9.out.pick hg (by omega))
    have X10 := Bx.mk (X9.out.pick hg hbg)
    have z5 := X10.out.c (k := 5) rfl
    have zf := X10.out.fr 5
    have zl := X10.out.lt
    clear hs hg S9 R9 X9
    go_upto_region 5 with (fail)
    have S11 := S10.out.set (b := b5) (by omega) 5 (.int .i64 x5)
    have R11 := R10.out.other (b := b5) (o := 5) (by omega) (.int .i64 x5)
    have X11 := X10.out.put 5 (.int .i64 x5)
    generalize w10.setCell ⟨b5, 5, none⟩ (.int .i64 x5) = w11 at S11 R11 X11 ⊢
    have hld := X11.load (P := Try.prog) _ Try.underlying25 rfl info_item
    have hst := R11.store (P := Try.prog) #[.string nm, .int .i64 (60 * x1), .int .i64 u, .int .i64 x3, .int .i64 (20 + 10 * x4), .int .i64 x5] info_item rfl (by simp [Value.oneCell'])
    have RF := R11.row #[.string nm, .int .i64 (60 * x1), .int .i64 u, .int .i64 x3, .int .i64 (20 + 10 * x4), .int .i64 x5]
    have SF := S11.row (b := w.heap.size) (Nat.le_refl _) #[.string nm, .int .i64 (60 * x1), .int .i64 u, .int .i64 x3, .int .i64 (20 + 10 * x4), .int .i64 x5]
    refine wp_region_lit ?_
    refine wpR_lod rfl 25 _ rfl (.pointer (some ⟨b5, 0, none⟩)) _ rfl hld ?_
    refine wpR_sto rfl 25 _ _ rfl (.pointer (some ⟨w.heap.size, 0, none⟩)) _ rfl rfl hst ?_
    refine wpList_nil ?_
    generalize w11.setRow w.heap.size _ = W2 at *
    clear hst hld
    go_wp2_with (fail)
    refine bodyPost_ret (v := .agg #[.string nm, .int .i64 (60 * x1), .int .i64 u, .int .i64 x3, .int .i64 (20 + 10 * x4), .int .i64 x5]) ?_ rfl ⟨⟨nm, 60 * x1, u, x3, 20 + 10 * x4, x5⟩, rfl, ⟨hn, ⟨by show (-10:Int) ≤ 60 * x1; omega, by show 60 * x1 ≤ (2000:Int); omega⟩, ⟨by show (-10:Int) ≤ u; omega, by show u ≤ (2000:Int); omega⟩, ⟨by show (-10:Int) ≤ x3; omega, by show x3 ≤ (2000:Int); omega⟩, ⟨by show (-10:Int) ≤ 20 + 10 * x4; omega, by show 20 + 10 * x4 ≤ (2000:Int); omega⟩, ⟨by show (-10:Int) ≤ x5; omega, by show x5 ≤ (2000:Int); omega⟩⟩, SF.src, SF.gr⟩
    exact results_cell_row Try.results16 _ W2 w.heap.size _ _ (0, 0) _ (by simp [go_sem, Act.put]) RF Try.underlying25 rfl info_item
end Go.Proofs.Ytidblpamolimpaa
