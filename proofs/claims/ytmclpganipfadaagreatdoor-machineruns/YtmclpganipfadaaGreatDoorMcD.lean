/- Operations one after the other: what they come to; lists of operations in memory; what a round of the loop over states keeps. -/
import Derived.Test.YtmclpganipfadaaGreatDoorMcC
import Derived.Test.YtmclpganipfadaaGreatDoorMcRg
namespace Go.Proofs.YtmclpganipfadaaGreatDoor
open Go.RowKit Go.Shelf Go.Maps
set_option linter.unusedVariables false

structure Sta where
  t : Int
  n : Int
  l : List Int
def Ans.st (p : Ans) : Sta := ⟨p.t, p.n, p.l⟩
def stepA (s : Sta) (o : Opr) : Ans := mO s.t s.n s.l o
/-- What operations come to, one after the other. -/
def answers : Sta → List Opr → List Ans
  | _, [] => []
  | s, o :: r => stepA s o :: answers (stepA s o).st r
/-- The state behind the first k. -/
def stAt : Sta → List Opr → Nat → Sta
  | s, _, 0 => s
  | s, [], _ + 1 => s
  | s, o :: r, k + 1 => stAt (stepA s o).st r k
theorem stAt_zero (s : Sta) (ops : List Opr) : stAt s ops 0 = s := by cases ops <;> rfl
theorem answers_len : ∀ (s : Sta) (ops : List Opr), (answers s ops).length = ops.length
  | _, [] => rfl
  | s, o :: r => by unfold answers; rw [List.length_cons, List.length_cons, answers_len]
theorem answers_at : ∀ (s : Sta) (ops : List Opr) (k : Nat) (o : Opr), ops[k]? = some o → (answers s ops)[k]? = some (stepA (stAt s ops k) o)
  | s, [], k, o, h => by simp at h
  | s, o' :: r, 0, o, h => by simp at h; subst h; rfl
  | s, o' :: r, k + 1, o, h => by
    have := answers_at (stepA s o').st r k o (by simpa using h)
    simpa [answers, stAt] using this
theorem stAt_succ : ∀ (s : Sta) (ops : List Opr) (k : Nat) (o : Opr), ops[k]? = some o → stAt s ops (k + 1) = (stepA (stAt s ops k) o).st
  | s, [], k, o, h => by simp at h
  | s, o' :: r, 0, o, h => by simp at h; subst h; simp [stAt]
  | s, o' :: r, k + 1, o, h => by
    have := stAt_succ (stepA s o').st r k o (by simpa using h)
    simpa [stAt] using this
theorem stAt_len : ∀ (s : Sta) (ops : List Opr) (k : Nat), (stAt s ops k).l.length ≤ s.l.length + 2 * k
  | s, ops, 0 => by simp [stAt]
  | s, [], k + 1 => by simp [stAt]
  | s, o :: r, k + 1 => by
    have h1 := stAt_len (stepA s o).st r k
    have h2 := mO_len s.t s.n s.l o
    show (stAt (stepA s o).st r k).l.length ≤ _
    have h3 : (stepA s o).st.l.length ≤ s.l.length + 2 := h2
    omega
theorem answers_take (s : Sta) (ops : List Opr) (k : Nat) (o : Opr) (h : ops[k]? = some o) : (answers s ops).take (k + 1) = (answers s ops).take k ++ [stepA (stAt s ops k) o] := by
  rw [List.take_add_one, answers_at s ops k o h]; rfl

/-- Operations that lie below n₀. -/
def OprsB (n₀ : Nat) (w : World) (A : Option Addr) (ops : List Opr) : Prop :=
  0 < ops.length → ∃ b off, A = some ⟨b, off, none⟩ ∧ b < n₀ ∧ ∀ j o, ops[j]? = some o →
    w.cell? ⟨b, off + j * 5, none⟩ = some (.int .i64 o.kd) ∧ w.cell? ⟨b, off + j * 5 + 1, none⟩ = some (.int .i64 o.a) ∧ w.cell? ⟨b, off + j * 5 + 2, none⟩ = some (.int .i64 o.b) ∧ w.cell? ⟨b, off + j * 5 + 3, none⟩ = some (.int .i64 o.rk) ∧ w.cell? ⟨b, off + j * 5 + 4, none⟩ = some (.int .i64 o.rn)
abbrev Oprs (w : World) (A : Option Addr) (ops : List Opr) : Prop := OprsB w.heap.size w A ops
theorem OprsB.below {n₀ : Nat} {w w' : World} {A : Option Addr} {ops : List Opr} (h : OprsB n₀ w A ops) (hb : Below n₀ w w') : OprsB n₀ w' A ops := fun hl => by
  obtain ⟨b, off, e, hlt, hc⟩ := h hl
  refine ⟨b, off, e, hlt, fun j o ho => ?_⟩
  obtain ⟨h0, h1, h2, h3, h4⟩ := hc j o ho
  exact ⟨(hb.cell (p := ⟨b, _, none⟩) hlt).trans h0, (hb.cell (p := ⟨b, _, none⟩) hlt).trans h1, (hb.cell (p := ⟨b, _, none⟩) hlt).trans h2, (hb.cell (p := ⟨b, _, none⟩) hlt).trans h3, (hb.cell (p := ⟨b, _, none⟩) hlt).trans h4⟩
theorem OprsB.more {n₀ n₁ : Nat} {w : World} {A : Option Addr} {ops : List Opr} (h : OprsB n₀ w A ops) (hn : n₀ ≤ n₁) : OprsB n₁ w A ops := fun hl => by
  obtain ⟨b, off, e, hlt, hc⟩ := h hl
  exact ⟨b, off, e, by omega, hc⟩

/-- What a round keeps: all cells, but those of the boxes from n₀ to hi and of rows of returns. -/
structure KeptM (n₀ hi : Nat) (W W' : World) : Prop where
  size : W.heap.size ≤ W'.heap.size
  same : ∀ (k : Nat) (o : Obj), W.heap[k]? = some o → o.isCells = true → ¬ (n₀ ≤ k ∧ (k < hi ∨ ∃ cs fr, o = .cells cs 26 fr)) → W'.heap[k]? = some o
theorem KeptM.refl (n₀ hi : Nat) (W : World) : KeptM n₀ hi W W := ⟨Nat.le_refl _, fun _ _ h _ _ => h⟩
theorem KeptM.trans {n₀ hi : Nat} {X Y Z : World} (h : KeptM n₀ hi X Y) (k : KeptM n₀ hi Y Z) : KeptM n₀ hi X Z :=
  ⟨Nat.le_trans h.size k.size, fun i o ho hc hn => k.same i o (h.same i o ho hc hn) hc hn⟩
theorem KeptM.below {n₀ hi : Nat} {X Y Z : World} (h : KeptM n₀ hi X Y) (hb : Below Y.heap.size Y Z) : KeptM n₀ hi X Z :=
  ⟨Nat.le_trans h.size hb.size, fun i o ho hc hn => by
    have := h.same i o ho hc hn
    exact (hb.block i (Array.getElem?_eq_some_iff.1 this).1).trans this⟩
theorem KeptM.alloc (n₀ hi : Nat) (W : World) (o : Obj) : KeptM n₀ hi W (W.alloc o) := (KeptM.refl n₀ hi W).below (alloc1 W o)
theorem KeptM.drew {n₀ hi : Nat} {X Y : World} (h : KeptM n₀ hi X Y) : KeptM n₀ hi X Y.drew := ⟨h.size, h.same⟩
theorem KeptM.put (n₀ hi : Nat) (W : World) (l : Nat) (o o' : Obj) (h : W.heap[l]? = some o) (hc : o.isCells = false) : KeptM n₀ hi W (W.putObj l o') :=
  ⟨by simp, fun k x hk hx _ => (World.putObj_heap_other (fun e => by subst e; rw [hk] at h; cases h; rw [hx] at hc; cases hc)).trans hk⟩
/-- A store into a box of the caller's. -/
theorem KeptM.box {n₀ hi : Nat} {X W : World} (h : KeptM n₀ hi X W) {b : Nat} (off : Nat) (u : Value) (h1 : n₀ ≤ b) (h2 : b < hi) : KeptM n₀ hi X (W.setCell ⟨b, off, none⟩ u) :=
  ⟨by have := h.size; simpa [World.setCell] using this, fun k o ho hc hn => (Below.heap_setCell _ _ _ _ (show k ≠ b from fun e => hn ⟨by omega, .inl (by omega)⟩)).trans (h.same k o ho hc hn)⟩
/-- A store into a block that was made since. -/
theorem KeptM.own {n₀ hi : Nat} {X W : World} (h : KeptM n₀ hi X W) {b : Nat} (off : Nat) (u : Value) (hb : X.heap.size ≤ b) : KeptM n₀ hi X (W.setCell ⟨b, off, none⟩ u) :=
  ⟨by have := h.size; simpa [World.setCell] using this, fun k o ho hc hn => (Below.heap_setCell _ _ _ _ (show k ≠ b from fun e => by have := (Array.getElem?_eq_some_iff.1 ho).1; omega)).trans (h.same k o ho hc hn)⟩
theorem KeptM.holds {n₀ hi : Nat} {W W' : World} (h : KeptM n₀ hi W W') {k : Nat} {t : TypeId} {cs : Array Value} (hk : k < n₀ ∨ hi ≤ k) (ht : t ≠ 26) (hh : Holds W k t cs) : Holds W' k t cs :=
  h.same k _ hh rfl fun hn => by
    rcases hn.2 with hn2 | ⟨cs', fr, e⟩
    · have := hn.1; omega
    · injection e with _ e2; exact ht e2
theorem KeptM.cell {n₀ hi : Nat} {W W' : World} (h : KeptM n₀ hi W W') {p : Addr} {v : Value} (hp : p.block < n₀) (hc : W.cell? p = some v) : W'.cell? p = some v := by
  obtain ⟨o, ho, hi⟩ := cell_cells hc
  exact (World.cell?_of_block ((h.same _ o ho hi (fun hn => by have := hn.1; omega)).trans ho.symm)).trans hc
theorem KeptM.oprs {n₀ hi : Nat} {W W' : World} (h : KeptM n₀ hi W W') {A : Option Addr} {ops : List Opr} (hA : OprsB n₀ W A ops) : OprsB n₀ W' A ops := fun hl => by
  obtain ⟨b, off, e, hlt, hc⟩ := hA hl
  refine ⟨b, off, e, hlt, fun j o ho => ?_⟩
  obtain ⟨h0, h1, h2, h3, h4⟩ := hc j o ho
  exact ⟨h.cell (p := ⟨b, _, none⟩) hlt h0, h.cell (p := ⟨b, _, none⟩) hlt h1, h.cell (p := ⟨b, _, none⟩) hlt h2, h.cell (p := ⟨b, _, none⟩) hlt h3, h.cell (p := ⟨b, _, none⟩) hlt h4⟩

/-- A list of numbers below n₀, or in a block of numbers from hi on. -/
def CurL (n₀ hi : Nat) (w : World) (A : Option Addr) (l : List Int) : Prop :=
  0 < l.length → ∃ b off, A = some ⟨b, off, none⟩ ∧ b < w.heap.size ∧ (b < n₀ ∨ (hi ≤ b ∧ ∃ cs fr, w.heap[b]? = some (.cells cs 3 fr))) ∧ ∀ j, j < l.length → w.cell? ⟨b, off + j, none⟩ = some (.int .i64 (l[j]?.getD 0))
theorem CurL.ints {n₀ hi : Nat} {w : World} {A : Option Addr} {l : List Int} (h : CurL n₀ hi w A l) : Ints w A l := fun hl => by
  obtain ⟨b, off, e, hb, _, hc⟩ := h hl
  exact ⟨b, off, e, hb, hc⟩
theorem CurL.of {n₀ hi : Nat} {w w' : World} {A : Option Addr} {l : List Int} (h : CurL n₀ hi w A l) (hs : w.heap.size ≤ w'.heap.size) (hw : ∀ (b : Nat) (o : Obj), w.heap[b]? = some o → o.isCells = true → (b < n₀ ∨ (hi ≤ b ∧ ∃ cs fr, o = .cells cs 3 fr)) → w'.heap[b]? = some o) : CurL n₀ hi w' A l := fun hl => by
  obtain ⟨b, off, e, hb, hp, hc⟩ := h hl
  obtain ⟨o, ho, hio⟩ := cell_cells (hc 0 hl)
  have ho' : w.heap[b]? = some o := ho
  have h2 : w'.heap[b]? = some o := hw b o ho' hio (by
    rcases hp with hp | ⟨hp, cs, fr, hcs⟩
    · exact .inl hp
    · exact .inr ⟨hp, cs, fr, Option.some.inj (ho'.symm.trans hcs)⟩)
  refine ⟨b, off, e, by omega, ?_, fun j hj => (World.cell?_of_block (h2.trans ho'.symm)).trans (hc j hj)⟩
  rcases hp with hp | ⟨hp, cs, fr, hcs⟩
  · exact .inl hp
  · exact .inr ⟨hp, cs, fr, (h2.trans ho'.symm).trans hcs⟩
theorem CurL.below {n₀ hi : Nat} {w w' : World} {A : Option Addr} {l : List Int} (h : CurL n₀ hi w A l) (hb : Below w.heap.size w w') : CurL n₀ hi w' A l :=
  h.of hb.size fun b o ho _ _ => (hb.block b (Array.getElem?_eq_some_iff.1 ho).1).trans ho
theorem CurL.kept {n₀ hi : Nat} {w w' : World} {A : Option Addr} {l : List Int} (h : CurL n₀ hi w A l) (hk : KeptM n₀ hi w w') : CurL n₀ hi w' A l :=
  h.of hk.size fun b o ho hc hp => hk.same b o ho hc fun hn => by
    rcases hp with hp | ⟨hp, cs, fr, e⟩
    · have := hn.1; omega
    · rcases hn.2 with h2 | ⟨cs', fr', e'⟩
      · omega
      · rw [e] at e'; injection e' with _ e2; exact absurd e2 (by decide)
theorem CurL.set {n₀ hi : Nat} {w : World} {A : Option Addr} {l : List Int} (h : CurL n₀ hi w A l) {B : Nat} {cs : Array Value} (off : Nat) (u : Value) (hB : n₀ ≤ B) (hH : Holds w B 24 cs) : CurL n₀ hi (w.setCell ⟨B, off, none⟩ u) A l :=
  h.of (by simp [World.setCell]) fun b o ho hc hp => (Below.heap_setCell _ _ _ _ (show b ≠ B from fun e => by
    subst e
    rcases hp with hp | ⟨hp, cs, fr, e⟩
    · omega
    · rw [show w.heap[b]? = _ from hH] at ho; rw [e] at ho; simp at ho)).trans ho
theorem curL_row {n₀ hi base : Nat} {w : World} {A : Option Addr} {c : Nat} {l : List Int} (h : w.ownsRow base 3 1 (.slice A l.length c) l.length (intsOf l)) (hh : hi ≤ base) : CurL n₀ hi w A l := fun hl => by
  obtain ⟨b, off, cs, fr, e, hb, hc⟩ := rowT_own rfl h hl
  refine ⟨b, off, e, (Array.getElem?_eq_some_iff.1 hb).1, .inr ⟨?_, cs, fr, hb⟩, hc⟩
  rcases h.2 with ⟨e1, e2⟩ | ⟨g, cap, cur, e1, h2, _⟩
  · omega
  · injection e1 with e1 _ _
    rw [e] at e1
    injection e1 with e1
    injection e1 with e1
    omega
theorem curL_intsB {n₀ hi : Nat} {w : World} {A : Option Addr} {l : List Int} (h : IntsB n₀ w A l) (hn : n₀ ≤ w.heap.size) : CurL n₀ hi w A l := fun hl => by
  obtain ⟨b, off, e, hlt, hc⟩ := h hl
  exact ⟨b, off, e, by omega, .inl hlt, hc⟩
end Go.Proofs.YtmclpganipfadaaGreatDoor
