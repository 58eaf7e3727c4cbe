/- PitchAt: the program. -/
import Derived.Test.YtendfnimhmnioaaDoorNs
namespace Go.Proofs.YtendfnimhmnioaaDoor
open Go.ChangeShapes Go.WideShapes Go.ChangeAt Go.RowKit Go.Shelf
set_option linter.unusedVariables false
set_option linter.unusedSimpArgs false
set_option maxRecDepth 100000
attribute [local go_sem] Oper.semAt_some

theorem boxn_keptN {w0 : Nat} {X Y : World} {row : Option Nat} {g : Nat} {xs : Array Value} {t : TypeId} (h : BoxN X g xs t) (hg : X.grownBy Y row) (hr : ∀ r, row = some r → w0 ≤ r ∧ ∃ o : Obj, X.heap[r]? = some o ∧ o.isCells = false) : BoxN Y g xs t := by
  have e := hg.block g h.lt (fun e => by
    obtain ⟨o, ho, hc⟩ := (hr g e.symm).2
    unfold BoxN at h
    rw [h] at ho
    cases ho
    cases hc)
  unfold BoxN at h ⊢
  rw [e, h]
theorem impl_sounding (A : Option Addr) (n c : Nat) (w : World) :
    Calls Tryd.prog 54 #[.slice A n c] w fun e w' => e = .returned (.func (.func 69) #[] #[.pointer (some ⟨w.heap.size, 0, none⟩)]) ∧ w' = w.alloc (.cells #[.slice A n c] 51) := by
  go_enter Tryd.func54, Tryd.ntmps54
  go_wp2
  go_ret
  exact ⟨rfl, rfl⟩
/-- the boxes of PitchAt: the time, the two results -/
structure PaI (g : Nat) (t r1 r2 : Int) (W : World) : Prop where
  t : BoxN W g #[.int .i64 t] 2
  a : BoxN W (g + 1) #[.int .i64 r1] 2
  b : BoxN W (g + 1 + 1) #[.int .i64 r2] 2
theorem PaI.below {g : Nat} {t r1 r2 : Int} {W W' : World} (h : PaI g t r1 r2 W) (hb : Below W.heap.size W W') : PaI g t r1 r2 W' := ⟨h.t.below hb, h.a.below hb, h.b.below hb⟩
theorem PaI.kept {w0 g : Nat} {t r1 r2 : Int} {X Y : World} {row : Option Nat} (h : PaI g t r1 r2 X) (hg : X.grownBy Y row) (hr : ∀ r, row = some r → w0 ≤ r ∧ ∃ o : Obj, X.heap[r]? = some o ∧ o.isCells = false) : PaI g t r1 r2 Y :=
  ⟨boxn_keptN h.t hg hr, boxn_keptN h.a hg hr, boxn_keptN h.b hg hr⟩
theorem PaI.put {g : Nat} {t r1 r2 : Int} {W : World} (h : PaI g t r1 r2 W) (x y : Int) : PaI g t x y ((W.setCell ⟨g + 1, 0, none⟩ (.int .i64 x)).setCell ⟨g + 1 + 1, 0, none⟩ (.int .i64 y)) :=
  ⟨(h.t.other (by omega) _).other (by omega) _, (h.a.put 0 _).other (by omega) _, ((h.b.other (by omega) _).put 0 _)⟩
theorem PaI.start (w : World) (t : Int) : PaI w.heap.size t 0 0 (((w.alloc (.cells #[.int .i64 t] 2)).alloc (.cells #[.int .i64 0] 2)).alloc (.cells #[.int .i64 0] 2)) :=
  ⟨((BoxN.at w w.heap.size #[.int .i64 t] 2 rfl).alloc _).alloc _, (BoxN.at (w.alloc (.cells #[.int .i64 t] 2)) (w.heap.size + 1) #[.int .i64 0] 2 (by simp)).alloc _, BoxN.at ((w.alloc (.cells #[.int .i64 t] 2)).alloc (.cells #[.int .i64 0] 2)) (w.heap.size + 1 + 1) #[.int .i64 0] 2 (by simp)⟩
/-- no note sounds at a time -/
def Late (t : Int) (xs : List (Int × Int × Int)) : Prop := ∀ x ∈ xs, x.1 + x.2.2 ≤ t
/-- the last note is the first one that ends behind a time -/
def Hits (g : Nat) (t : Int) (ys : List (Int × Int × Int)) (W : World) : Prop := ∃ pre x, ys = pre ++ [x] ∧ PaI g t x.2.1 0 W ∧ Late t pre ∧ t < x.1 + x.2.2
theorem sndK_of {l : List (Int × Int)} {ys : List (Int × Int × Int)} {n : Nat} (h : ys <+: sndK l n) : ys.length ≤ n ∧ ys = sndK l ys.length := by
  have hl := h.length_le
  rw [sndK_len] at hl
  refine ⟨hl, ?_⟩
  have h2 := sndK_pre l ys.length n hl
  exact List.IsPrefix.eq_of_length (List.prefix_of_prefix_length_le h h2 (by rw [sndK_len]; exact Nat.le_refl _)) (by rw [sndK_len])
theorem late_dur {l : List (Int × Int)} {t : Int} (h0 : 0 ≤ t) : ∀ k, Late t (sndK l k) → durN l k ≤ t := by
  intro k
  cases k with
  | zero => intro _; simpa [durN] using h0
  | succ k =>
    intro h
    have := h (durN l k, pat l k) (by rw [sndK_succ]; simp)
    simpa [durN] using this
theorem hits_ix {l : List (Int × Int)} {t : Int} {pre : List (Int × Int × Int)} {x : Int × Int × Int} (hok : okM l = true) (h0 : 0 ≤ t) (h : pre ++ [x] <+: sndK l l.length) (hp : Late t pre) (hx : t < x.1 + x.2.2) : pitAtE l t = (x.2.1, 0) := by
  obtain ⟨hl, he⟩ := sndK_of h
  rw [List.length_append, List.length_singleton] at hl he
  rw [sndK_succ] at he
  have h1 := List.append_inj he (by rw [sndK_len])
  obtain ⟨e1, e2⟩ := h1
  rw [List.cons.injEq] at e2
  have e2 := e2.1
  subst e2
  have hd := late_dur h0 pre.length (by rw [← e1]; exact hp)
  dsimp only at hx ⊢
  have hix := ixM_eq hok (show pre.length < l.length by omega) hd (by simpa [durN] using hx)
  have hm := durN_mono hok (pre.length + 1) l.length (by omega) (Nat.le_refl _)
  unfold pitAtE
  rw [if_pos hok, if_pos ⟨h0, by unfold durL; simp only [durN] at hm; omega⟩, hix]
theorem late_all {l : List (Int × Int)} {t : Int} (hok : okM l = true) (h0 : 0 ≤ t) (h : Late t (sndK l l.length)) : pitAtE l t = (0, 2) := by
  have hd := late_dur h0 _ h
  unfold pitAtE
  rw [if_pos hok, if_neg (by unfold durL; omega)]
theorem Late.snoc {t : Int} {xs : List (Int × Int × Int)} {x : Int × Int × Int} (h : Late t xs) (hx : x.1 + x.2.2 ≤ t) : Late t (xs ++ [x]) := by
  intro y hy
  rcases List.mem_append.1 hy with h1 | h1
  · exact h y h1
  · rw [List.mem_singleton] at h1; subst h1; exact hx
end Go.Proofs.YtendfnimhmnioaaDoor
