/- Lists of items out of bytes: what the model draws. -/
import Derived.Test.YtidblpamolimpaaDb
namespace Go.Proofs.Ytidblpamolimpaa
open Go.ChangeShapes Go.WideShapes Go.ChangeAt Go.RowKit
set_option linter.unusedVariables false
set_option linter.unusedSimpArgs false
set_option maxRecDepth 100000

theorem info_itemL : (Try.prog.info? 25).map (fun i => (i.zero, i.size, i.bytes)) = some (some (.agg #[.string ByteArray.empty, .int .i64 0, .int .i64 0, .int .i64 0, .int .i64 0, .int .i64 0]), 6, 56) := by kernel_rfl
theorem cells_new (w : World) (cs : List Value) (t : TypeId) : ∀ j u, cs[j]? = some u → (w.alloc (.cells cs.toArray t)).cell? ((⟨w.heap.size, 0, none⟩ : Addr).add j) = some u := by
  intro j u hj
  have hp : (⟨w.heap.size, 0, none⟩ : Addr).add j = ⟨w.heap.size, j, none⟩ := by unfold Addr.add; split <;> simp_all
  rw [hp, World.cell?_alloc_at _ _ _ _ rfl]
  simpa using hj
theorem icl_snoc (l : List It) (x : It) : icl (l ++ [x]) = icl l ++ [.string x.nm, .int .i64 x.f, .int .i64 x.u, .int .i64 x.s, .int .i64 x.m, .int .i64 x.p] := by simp [icl, itc]
theorem St.grown {w0 w w' : World} {g T : Nat} {row : Option Nat} (h : St w0 g T w) (hg : w.grownBy w' row) (hr : ∀ k, row = some k → w0.heap.size ≤ k) : St w0 g T w' := by
  have hgl := h.gl
  refine ⟨srcD_row h.src hg (fun k e => by have := hr k e; omega), ?_, hgl⟩
  have h0 := h.gr
  refine ⟨hg.os.trans h0.os, hg.tape.trans h0.tape, hg.output.trans h0.output, Nat.le_trans h0.size hg.size, fun k hk hne => (hg.block k (Nat.lt_of_lt_of_le hk h0.size) (fun e => ?_)).trans (h0.block k hk hne)⟩
  have := hr k e.symm
  omega
/-- a list that is being drawn -/
structure LSt (w0 : World) (g T : Nat) (v : Value) (l : List It) (w : World) : Prop where
  st : St w0 g T w
  own : w.ownsRow (w0.heap.size + 1) 25 6 v l.length (icl l)
  dr : ∀ x ∈ l, Dr x
theorem LSt.draw {w0 w w' : World} {g T T' : Nat} {v : Value} {l : List It} (h : LSt w0 g T v l w) (hs : Src w' g T') (hg : w.grownBy w' (some g)) : LSt w0 g T' v l w' :=
  ⟨h.st.next hs hg, h.own.kept hg (.inr fun e => by have := (h.own.lt g e).1; have := h.st.gl; omega), h.dr⟩
theorem LSt.alloc {w0 w : World} {g T : Nat} {v : Value} {l : List It} (h : LSt w0 g T v l w) (o : Obj) : LSt w0 g T v l (w.alloc o) := ⟨h.st.alloc o, h.own.alloc o, h.dr⟩
theorem LSt.more {w0 w : World} {g T T' : Nat} {v : Value} {l : List It} (h : LSt w0 g T v l w) (hT : T ≤ T') : LSt w0 g T' v l w := ⟨⟨h.st.src.more hT, h.st.gr, h.st.gl⟩, h.own, h.dr⟩
theorem LSt.snoc {w0 W w3 : World} {g T : Nat} {v v' : Value} {l : List It} {x : It} {o : Obj} (h : LSt w0 g T v l W) (hg : (W.alloc o).grownBy w3 v.ownBlock)
    (ho : w3.ownsRow (w0.heap.size + 1) 25 6 v' (l.length + 1) (icl l ++ [.string x.nm, .int .i64 x.f, .int .i64 x.u, .int .i64 x.s, .int .i64 x.m, .int .i64 x.p])) (hx : Dr x) : LSt w0 g T v' (l ++ [x]) w3 :=
  ⟨(h.st.alloc o).grown hg (fun k e => by have := (h.own.lt k e).1; omega), by rw [icl_snoc, List.length_append]; exact ho, fun y hy => by
    rcases List.mem_append.1 hy with h1 | h1
    · exact h.dr y h1
    · rw [List.mem_singleton.1 h1]; exact hx⟩
theorem own_lenD {w : World} {base e size n : Nat} {v : Value} {xs : List Value} (h : w.ownsRow base e size v n xs) : ∃ A c, v = .slice A n c := by
  rcases h.2 with ⟨hv, h0⟩ | ⟨g, cap, cur, hv, _⟩
  · exact ⟨none, 0, by rw [hv, h0]⟩
  · exact ⟨_, _, hv⟩
/-- the names of the items -/
def nmL : List ByteArray := [⟨#[98, 104, 97, 105, 114, 97, 118]⟩, ⟨#[100, 101, 115, 104]⟩, ⟨#[107, 97, 102, 105]⟩, ⟨#[115, 111, 104, 110, 105]⟩, ⟨#[121, 97, 109, 97, 110]⟩]
theorem nm_small : ∀ k, k < 5 → (nmL.getD k ⟨#[]⟩).size ≤ 20 := by decide +kernel
structure Nm (b : Nat) (w : World) : Prop where
  lt : b < w.heap.size
  c : ∀ k, k < 5 → w.cell? ⟨b, k, none⟩ = some (.string (nmL.getD k ⟨#[]⟩))
theorem Nm.grown {b : Nat} {w w' : World} {row : Option Nat} (h : Nm b w) (hg : w.grownBy w' row) (hr : ∀ k, row = some k → k ≠ b) : Nm b w' :=
  ⟨Nat.lt_of_lt_of_le h.lt hg.size, fun k hk => (World.cell?_of_block (w := w) (hg.block b h.lt (fun e => hr b e.symm rfl))).trans (h.c k hk)⟩
theorem Nm.alloc {b : Nat} {w : World} (h : Nm b w) (o : Obj) : Nm b (w.alloc o) := h.grown (World.grownBy_alloc w o none) (fun k e => by cases e)
def ListOut (g T : Nat) (w : World) (e : Ending) (w' : World) : Prop := ∃ v l, e = .returned v ∧ l.length ≤ 13 ∧ LSt w g (T + 100) v l w'
theorem byte_n (w : World) (k : Nat) (hk : k ≤ 20) : (convert 22 9 (.slice (some ⟨w.heap.size, 0, none⟩) 1 1)).run Try.prog (w.alloc (.cells #[.int .u8 (97 + (k : Int))] 5)) =
    .ok (.string ⟨[UInt8.ofNat (97 + k)].toArray⟩) (w.alloc (.cells #[.int .u8 (97 + (k : Int))] 5)) := by
  have := run_convert_bytes_arg (P := Try.prog) (w.alloc (.cells #[.int .u8 (97 + (k : Int))] 5)) 22 5 Try.underlying22 Try.underlying5 w.heap.size 0 1 1 [97 + (k : Int)] rfl
    (fun i hi => by obtain rfl : i = 0 := by omega
                    rw [World.cell?_alloc_at _ _ _ _ rfl]; rfl) 9 Try.underlying9
  rw [this]
  simp only [strOfNums, List.map_cons, List.map_nil]
  have e : (97 + (k : Int)).toNat = 97 + k := by omega
  rw [e]
set_option maxHeartbeats 4000000 in
theorem draw_list (g T : Nat) (w : World) (h : Src w g T) (hT : T ≤ 1000) : Calls Try.prog 27 #[.pointer (some ⟨g, 0, none⟩)] w (ListOut g T w) := by
  obtain ⟨i0, hi, hz0, hz1, hz2⟩ := info_parts info_itemL
  have hgl := srcD_lt h
  have P0 := BoxN.at w w.heap.size #[.string ⟨#[98, 104, 97, 105, 114, 97, 118]⟩, .string ⟨#[100, 101, 115, 104]⟩, .string ⟨#[107, 97, 102, 105]⟩, .string ⟨#[115, 111, 104, 110, 105]⟩, .string ⟨#[121, 97, 109, 97, 110]⟩] 9 rfl
  have S0 := (St.start h).alloc (.cells #[.string ⟨#[98, 104, 97, 105, 114, 97, 118]⟩, .string ⟨#[100, 101, 115, 104]⟩, .string ⟨#[107, 97, 102, 105]⟩, .string ⟨#[115, 111, 104, 110, 105]⟩, .string ⟨#[121, 97, 109, 97, 110]⟩] 9)
  have hsz : (w.alloc (.cells #[.string ⟨#[98, 104, 97, 105, 114, 97, 118]⟩, .string ⟨#[100, 101, 115, 104]⟩, .string ⟨#[107, 97, 102, 105]⟩, .string ⟨#[115, 111, 104, 110, 105]⟩, .string ⟨#[121, 97, 109, 97, 110]⟩] 9)).heap.size = w.heap.size + 1 := by simp only [World.alloc, Array.size_push]
  generalize hW : w.alloc (.cells #[.string ⟨#[98, 104, 97, 105, 114, 97, 118]⟩, .string ⟨#[100, 101, 115, 104]⟩, .string ⟨#[107, 97, 102, 105]⟩, .string ⟨#[115, 111, 104, 110, 105]⟩, .string ⟨#[121, 97, 109, 97, 110]⟩] 9) = W0 at P0 S0 hsz
  have N0 : Bx (Nm w.heap.size W0) := Bx.mk ⟨P0.lt, fun k hk => by
    match k, hk with
    | 0, _ => exact P0.c (k := 0) rfl
    | 1, _ => exact P0.c (k := 1) rfl
    | 2, _ => exact P0.c (k := 2) rfl
    | 3, _ => exact P0.c (k := 3) rfl
    | 4, _ => exact P0.c (k := 4) rfl⟩
  have L0 : Bx (LSt w g (T + 12 * 0) (.slice (some ⟨w.heap.size + 1, 0, none⟩) 0 0) [] (W0.alloc (.cells #[] 25))) := Bx.mk ⟨S0.alloc _, by have := World.ownsRow_lit (base := w.heap.size + 1) (e := 25) (size := 6) W0 #[] 0 (by omega) (by decide) (by decide); rw [hsz] at this; exact this, fun x hx => by cases hx⟩
  have N0 := Bx.mk (N0.out.alloc (.cells #[] 25))
  have HWW := Bx.mk hW
  have HG := Bx.mk hgl
  clear h S0 P0 hsz hW
  go_enter Try.func27, Try.ntmps27
  go_wp2_with (fail)
  rw [HWW.out]
  clear HWW
  generalize W0.alloc (.cells #[] 25) = W1 at L0 N0 ⊢
  go_loopw [4, 5] (fun v i wr => ∃ (k : Nat) (l : List It), k ≤ 5 ∧ i = .int .i64 (k : Int) ∧ l.length ≤ k ∧ Bx (LSt w g (T + 12 * k) v l wr) ∧ Bx (Nm w.heap.size wr)) (fun _ i _ => 20 - (intOf i).toNat)
  case atStart => exact ⟨0, [], by omega, rfl, by simp, L0, N0⟩
  case round =>
    obtain ⟨k, l, hk, rfl, hl, HL, HN⟩ := hrel
    clear L0 N0
    by_cases hlt : k < 5
    · have hk0 : (0 : Int) ≤ (k : Int) := by omega
      have hk1 : (k : Int) < 5 := by omega
      go_wp2_with (fail)
      refine (one_any g (T + 12 * k) 3 wr HL.out.st.src (by omega) (by omega) (by omega)).mono ?_
      rintro e w3 ⟨b, rfl, hs, hg⟩
      have HL3 := Bx.mk (HL.out.draw hs hg)
      have HN3 := Bx.mk (HN.out.grown hg (fun k e => by injection e with e; omega))
      clear hs hg HL HN
      cases b
      · have hc := HN3.out.c k hlt
        have hcl := HN3.out.lt
        have hnm := nm_small k hlt
        generalize nmL.getD k ⟨#[]⟩ = nm at hc hnm
        obtain ⟨A, c, rfl⟩ := own_lenD HL3.out.own
        go_wp2_with (fail)
        refine (draw_one g (T + 12 * k + 2) nm w3 HL3.out.st.src (by omega) hnm).mono ?_
        rintro e w4 ⟨x, rfl, hx, hs, hg⟩
        have HX := Bx.mk hx
        have HL4 := Bx.mk (HL3.out.draw hs hg)
        have HN4 := Bx.mk (HN3.out.grown hg (fun k e => by injection e with e; omega))
        have hz4 := HL4.out.st.gr.size
        have hlb : Bx (l.length + 1 ≤ 13) := Bx.mk (by omega)
        have hzz : w.heap.size + 1 ≤ w4.heap.size := by have := HN4.out.lt; omega
        clear hs hg hx HL3 HN3 hc hcl
        unfold itV
        go_wp2_with ((at_builtin; refine wpList_append_own _ rfl _ _ 32 rfl (w.heap.size + 1) 25 i0 _ 6 56 Try.underlying32 hi hz0 hz1 hz2 rfl (by decide) _ _ _ rfl (HL4.out.own.alloc _) ⟨w4.heap.size, 0, none⟩ 1 1 [.string x.nm, .int .i64 x.f, .int .i64 x.u, .int .i64 x.s, .int .i64 x.m, .int .i64 x.p] rfl rfl (cells_new _ _ _) (by simp [Value.oneCell']) (by have := hlb.out; unfold maxLen; omega) (by have := hlb.out; omega) (by simp; omega) ?_; intro v' w6 hown' hgrow3 hnil3))
        have HL6 := Bx.mk (HL4.out.snoc hgrow3 hown' HX.out)
        have HN6 := Bx.mk ((HN4.out.alloc (.cells #[.string x.nm, .int .i64 x.f, .int .i64 x.u, .int .i64 x.s, .int .i64 x.m, .int .i64 x.p] 25)).grown hgrow3 (fun k e => by have := (HL4.out.own.lt k e).1; omega))
        clear hown' hgrow3 hnil3 HL4 HN4
        go_roundw
        case rel => exact ⟨k + 1, l ++ [x], by omega, by go_num, by simp; omega, Bx.mk (HL6.out.more (by omega)), HN6⟩
        case measure => simp [intOf]; omega
      · go_wp2_with (fail)
        go_roundw
        case rel => exact ⟨k + 1, l, by omega, by go_num, by omega, Bx.mk (HL3.out.more (by omega)), HN3⟩
        case measure => simp [intOf]; omega
    · obtain rfl : k = 5 := by omega
      go_wp2_with (fail)
      refine (pick_any g (T + 12 * 5) 20 wr HL.out.st.src (by omega) (by omega) (by omega)).mono ?_
      rintro e w3 ⟨n, hn, rfl, hs, hg⟩
      have HL3 := Bx.mk (HL.out.draw hs hg)
      have hz3 : w.heap.size + 1 ≤ w3.heap.size := by have := hg.size; have := HN.out.lt; omega
      clear hs hg HL HN
      by_cases n0 : n = 0
      · subst n0
        obtain ⟨A, c, rfl⟩ := own_lenD HL3.out.own
        go_wp2_with (fail)
        refine (draw_one g (T + 12 * 5 + 2) ⟨#[122, 122]⟩ w3 HL3.out.st.src (by omega) (by decide)).mono ?_
        rintro e w4 ⟨x, rfl, hx, hs, hg⟩
        have HX := Bx.mk hx
        have HL4 := Bx.mk (HL3.out.draw hs hg)
        have hz4 : w.heap.size + 1 ≤ w4.heap.size := by have := hg.size; omega
        clear hs hg hx HL3
        go_wp2_with (fail)
        refine (draw_bend g (T + 12 * 5 + 2 + 10) x w4 HL4.out.st.src (by omega) HX.out).mono ?_
        rintro e w5 ⟨y, rfl, hy, hs, hg⟩
        have HY := Bx.mk hy
        have HL5 := Bx.mk (HL4.out.draw hs hg)
        have hz5 : w.heap.size + 1 ≤ w5.heap.size := by have := hg.size; omega
        have hlb : Bx (l.length + 1 ≤ 13) := Bx.mk (by omega)
        clear hs hg hy HL4 HX
        unfold itV
        go_wp2_with ((at_builtin; refine wpList_append_own _ rfl _ _ 32 rfl (w.heap.size + 1) 25 i0 _ 6 56 Try.underlying32 hi hz0 hz1 hz2 rfl (by decide) _ _ _ rfl (HL5.out.own.alloc _) ⟨w5.heap.size, 0, none⟩ 1 1 [.string y.nm, .int .i64 y.f, .int .i64 y.u, .int .i64 y.s, .int .i64 y.m, .int .i64 y.p] rfl rfl (cells_new _ _ _) (by simp [Value.oneCell']) (by have := hlb.out; unfold maxLen; omega) (by have := hlb.out; omega) (by simp; omega) ?_; intro v' w6 hown' hgrow3 hnil3))
        have HL6 := Bx.mk (HL5.out.snoc hgrow3 hown' HY.out)
        clear hown' hgrow3 hnil3 HL5
        go_ret
        exact ⟨_, l ++ [y], rfl, by simp; omega, HL6.out.more (by omega)⟩
      · by_cases n1 : n = 1
        · subst n1
          go_wp2_with (fail)
          refine (am_many g (T + 12 * 5 + 2) w3 HL3.out.st.src (by omega)).mono ?_
          rintro e w4 ⟨M, hM, rfl, hs, hg⟩
          have HL4 := Bx.mk ((HL3.out.alloc (.cells #[.int .i64 12, .int .i64 13] 2)).draw hs hg)
          have hz4 : w.heap.size + 1 ≤ w4.heap.size := by have := hg.size; simp at this; omega
          clear hs hg HL3
          obtain ⟨m, rfl, hm1⟩ : ∃ m : Nat, M = m ∧ m ≤ 13 := ⟨M.toNat, by simp at hM; omega, by simp at hM; omega⟩
          clear hM
          have L0 : Bx (LSt w g (T + 100) (.slice (some ⟨w4.heap.size, 0, none⟩) 0 0) [] (w4.alloc (.cells #[] 25))) := Bx.mk ⟨(HL4.out.more (by omega)).st.alloc _, World.ownsRow_lit w4 #[] 0 (by omega) (by decide) (by decide), fun x hx => by cases hx⟩
          clear HL4
          go_wp2_with (fail)
          generalize (Value.slice (some ⟨w4.heap.size, 0, none⟩) 0 0) = v0 at L0 ⊢
          have hz5 : w.heap.size + 1 ≤ (w4.alloc (.cells #[] 25)).heap.size := by simp; omega
          generalize w4.alloc (.cells #[] 25) = W4 at L0 hz5 ⊢
          go_loopw [4, 7] (fun v i wr => ∃ (k : Nat) (l : List It), k ≤ m ∧ i = .int .i64 (k : Int) ∧ l.length = k ∧ Bx (LSt w g (T + 100) v l wr) ∧ w.heap.size + 1 ≤ wr.heap.size) (fun _ i _ => 20 - (intOf i).toNat)
          case atStart => exact ⟨0, [], by omega, rfl, rfl, L0, hz5⟩
          case round =>
            obtain ⟨k, l, hk, rfl, hl, HL, hzr⟩ := hrel
            clear L0
            by_cases hlt : k < m
            · have hk0 : (0 : Int) ≤ (k : Int) := by omega
              have hk1 : (k : Int) < m := by omega
              have hw97 : IntKind.i64.wrap (97 + (k : Int)) = 97 + (k : Int) := IntWalk.i64_in _ (by omega)
              have hw8 : IntKind.u8.wrap (97 + (k : Int)) = 97 + (k : Int) := by unfold IntKind.wrap; simp [IntKind.bits, IntKind.signed]; omega
              obtain ⟨sb, hsb, hbn⟩ : ∃ sb : ByteArray, sb.size = 1 ∧ (convert 22 9 (.slice (some ⟨wr.heap.size, 0, none⟩) 1 1)).run Try.prog (wr.alloc (.cells #[.int .u8 (97 + (k : Int))] 5)) = .ok (.string sb) (wr.alloc (.cells #[.int .u8 (97 + (k : Int))] 5)) := ⟨_, rfl, byte_n wr k (by omega)⟩
              have hns : (⟨#[110]⟩ ++ sb : ByteArray).size ≤ 20 := by rw [ByteArray.size_append, hsb]; decide
              have HX : Bx (Dr ⟨⟨#[110]⟩ ++ sb, 0, 60, -1, 240, k⟩) := Bx.mk ⟨hns, ⟨by show (-10:Int) ≤ 0; omega, by show (0:Int) ≤ 2000; omega⟩, ⟨by show (-10:Int) ≤ 60; omega, by show (60:Int) ≤ 2000; omega⟩, ⟨by show (-10:Int) ≤ -1; omega, by show (-1:Int) ≤ 2000; omega⟩, ⟨by show (-10:Int) ≤ 240; omega, by show (240:Int) ≤ 2000; omega⟩, ⟨by show (-10:Int) ≤ k; omega, by show (k:Int) ≤ 2000; omega⟩⟩
              have hrl : (decide ((9223372036854775807 : Nat) < 1 + sb.size)) = false := by rw [hsb]; decide
              have HL4 := Bx.mk (HL.out.alloc (.cells #[.int .u8 (97 + (k : Int))] 5))
              have hlb : Bx (l.length + 1 ≤ 13) := Bx.mk (by omega)
              have HCN := Bx.mk (cells_new (wr.alloc (.cells #[.int .u8 (97 + (k : Int))] 5)) [.string (⟨#[110]⟩ ++ sb), .int .i64 0, .int .i64 60, .int .i64 (-1), .int .i64 240, .int .i64 (k : Int)] 25)
              rw [show (wr.alloc (.cells #[.int .u8 (97 + (k : Int))] 5)).heap.size = wr.heap.size + 1 by simp only [World.alloc, Array.size_push]] at HCN
              clear hns
              obtain ⟨A, c, rfl⟩ := own_lenD HL.out.own
              go_wp2_with ((at_builtin; refine wpList_append_own _ rfl _ _ 32 rfl (w.heap.size + 1) 25 i0 _ 6 56 Try.underlying32 hi hz0 hz1 hz2 rfl (by decide) _ _ _ rfl (HL4.out.own.alloc _) ⟨wr.heap.size + 1, 0, none⟩ 1 1 [.string (⟨#[110]⟩ ++ sb), .int .i64 0, .int .i64 60, .int .i64 (-1), .int .i64 240, .int .i64 (k : Int)] rfl rfl (HCN.out) (by simp [Value.oneCell']) (by have := hlb.out; unfold maxLen; omega) (by have := hlb.out; omega) (by simp; omega) ?_; intro v' w6 hown' hgrow3 hnil3))
              have HL6 := Bx.mk (HL4.out.snoc (x := ⟨⟨#[110]⟩ ++ sb, 0, 60, -1, 240, k⟩) hgrow3 hown' HX.out)
              have hz6 : w.heap.size + 1 ≤ w6.heap.size := by have := hgrow3.size; simp at this; omega
              clear hown' hgrow3 hnil3 HL4 HL
              go_roundw
              case rel => exact ⟨k + 1, _, by omega, by go_num, by simp [hl], HL6, hz6⟩
              case measure => simp [intOf]; omega
            · obtain rfl : k = m := by omega
              go_wp2_with (fail)
              go_ret
              exact ⟨_, l, rfl, by omega, HL.out⟩
        · go_wp2_with (fail)
          go_ret
          exact ⟨_, l, rfl, by omega, HL3.out.more (by omega)⟩
end Go.Proofs.Ytidblpamolimpaa
