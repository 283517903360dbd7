/- Operations that may be: each can be applied; what Returns tells, recorded, runs to the end, in one part or in two; operations in a row of the caller's own. -/
import Derived.Test.YtmclpganipfadaaDoorMcM
import Derived.Test.YtmclpganipfadaaDoorMcK
namespace Go.Proofs.YtmclpganipfadaaDoor
open Go.RowKit Go.Maps
set_option linter.unusedVariables false

def endA : Sta → List Opr → Sta
  | s, [] => s
  | s, o :: r => endA (stepA s o).st r
def legalL : Sta → List Opr → Prop
  | _, [] => True
  | s, o :: r => okB (stepA s o) o = true ∧ legalL (stepA s o).st r
theorem run_legal : ∀ (s : Sta) (ops : List Opr), legalL s ops → runA s ops = (endA s ops, ops.length, 0)
  | s, [], _ => rfl
  | s, o :: r, h => by
    unfold runA
    rw [if_pos h.1, run_legal _ r h.2]
    rfl
theorem legal_app : ∀ (s : Sta) (x y : List Opr), legalL s (x ++ y) → legalL s x ∧ legalL (endA s x) y
  | s, [], y, h => ⟨trivial, h⟩
  | s, o :: r, y, h => by
    obtain ⟨h1, h2⟩ := legal_app (stepA s o).st r y h.2
    exact ⟨⟨h.1, h1⟩, h2⟩
theorem end_app : ∀ (s : Sta) (x y : List Opr), endA s (x ++ y) = endA (endA s x) y
  | s, [], y => rfl
  | s, o :: r, y => end_app (stepA s o).st r y
theorem end_len : ∀ (s : Sta) (ops : List Opr), (endA s ops).l.length ≤ s.l.length + 2 * ops.length
  | s, [] => by simp [endA]
  | s, o :: r => by
    have h1 := end_len (stepA s o).st r
    have h3 : (stepA s o).st.l.length ≤ s.l.length + 2 := mO_len s.t s.n s.l o
    show (endA (stepA s o).st r).l.length ≤ _
    simp only [List.length_cons]
    omega
/-- Operations with what they returned. -/
def recZ : List Opr → List (Int × Int) → List Opr
  | o :: r, x :: xs => ⟨o.kd, o.a, o.b, x.1, x.2⟩ :: recZ r xs
  | _, _ => []
theorem rec_len : ∀ (ops : List Opr) (xs : List (Int × Int)), xs.length = ops.length → (recZ ops xs).length = ops.length
  | [], [], _ => rfl
  | [], _ :: _, h => by simp at h
  | o :: r, [], h => by simp at h
  | o :: r, x :: xs, h => by
    show (recZ r xs).length + 1 = r.length + 1
    rw [rec_len r xs (by simpa using h)]
theorem rec_at : ∀ (ops : List Opr) (xs : List (Int × Int)) (j : Nat) (o : Opr) (x : Int × Int), ops[j]? = some o → xs[j]? = some x → (recZ ops xs)[j]? = some ⟨o.kd, o.a, o.b, x.1, x.2⟩
  | [], _, j, o, x, h, _ => by simp at h
  | _ :: _, [], j, o, x, _, h => by simp at h
  | p :: r, y :: ys, 0, o, x, h, h' => by simp at h h'; subst h h'; rfl
  | p :: r, y :: ys, j + 1, o, x, h, h' => by simpa [recZ] using rec_at r ys j o x (by simpa using h) (by simpa using h')
theorem rec_small {ops : List Opr} {xs : List (Int × Int)} (hl : xs.length = ops.length) (h : ∀ o ∈ ops, Small o.a) : ∀ o ∈ recZ ops xs, Small o.a := fun o ho => by
  obtain ⟨j, hj, e⟩ := List.mem_iff_getElem.1 ho
  rw [rec_len ops xs hl] at hj
  have := rec_at ops xs j ops[j] xs[j] (List.getElem?_eq_getElem hj) (List.getElem?_eq_getElem (by omega))
  rw [List.getElem?_eq_getElem (by rw [rec_len ops xs hl]; exact hj), e] at this
  cases this
  exact h ops[j] (List.getElem_mem hj)
theorem may_all : ∀ (s : Sta) (ops : List Opr), (∀ o ∈ ops, May s.t o) → checkE s.t s.n s.l = 0 → firstE (answers s ops) = 0 ∧ legalL s (recZ ops (retsOf (answers s ops)))
  | s, [], _, _ => ⟨rfl, trivial⟩
  | s, o :: r, hm, hc => by
    obtain ⟨he, ht, hk⟩ := may_form (hm o (by simp)) hc
    have he' : (stepA s o).e = 0 := he
    have ih := may_all (stepA s o).st r (fun q hq => by rw [show (stepA s o).st.t = s.t from ht]; exact hm q (by simp [hq])) (by rw [show (stepA s o).st.t = s.t from ht]; exact hk)
    refine ⟨?_, ?_, ?_⟩
    · show (if (stepA s o).e = 0 then firstE (answers (stepA s o).st r) else (stepA s o).e) = 0
      rw [if_pos he', ih.1]
    · show okB (stepA s o) ⟨o.kd, o.a, o.b, (stepA s o).k, (stepA s o).r⟩ = true
      simp [okB, he', sameRet]
    · exact ih.2
theorem may_rets {s : Sta} {ops : List Opr} (hm : ∀ o ∈ ops, May s.t o) (hc : checkE s.t s.n s.l = 0) : retsA s ops = (retsOf (answers s ops), 0) := by
  unfold retsA
  rw [if_pos (may_all s ops hm hc).1]
theorem rets_len (s : Sta) (ops : List Opr) : (retsOf (answers s ops)).length = ops.length := by unfold retsOf; rw [List.length_map, answers_len]

def opC (o : Opr) : List Value := [.int .i64 o.kd, .int .i64 o.a, .int .i64 o.b, .int .i64 o.rk, .int .i64 o.rn]
theorem opCells_cons (o : Opr) (r : List Opr) : opCells (o :: r) = opC o ++ opCells r := rfl
theorem opCells_len (ops : List Opr) : (opCells ops).length = ops.length * 5 := by
  induction ops with
  | nil => rfl
  | cons o r ih =>
    rw [opCells_cons, List.length_append, ih]
    simp [opC]
    omega
theorem opCells_snoc (ops : List Opr) (o : Opr) : opCells (ops ++ [o]) = opCells ops ++ [.int .i64 o.kd, .int .i64 o.a, .int .i64 o.b, .int .i64 o.rk, .int .i64 o.rn] := by simp [opCells]
theorem opCells_set : ∀ (ops : List Opr) (j : Nat) (o : Opr) (rk rn : Int), ops[j]? = some o → ((opCells ops).set (j * 5 + 3) (.int .i64 rk)).set (j * 5 + 4) (.int .i64 rn) = opCells (ops.set j ⟨o.kd, o.a, o.b, rk, rn⟩)
  | [], j, o, rk, rn, h => by simp at h
  | x :: r, 0, o, rk, rn, h => by simp at h; subst h; rfl
  | x :: r, j + 1, o, rk, rn, h => by
    have ih := opCells_set r j o rk rn (by simpa using h)
    rw [List.set_cons_succ, opCells_cons, opCells_cons, ← ih, List.set_append, if_neg (by simp [opC]; omega), List.set_append, if_neg (by simp [opC]; omega)]
    congr 2
    · congr 1
      simp [opC]
      omega
    · simp [opC]
      omega
theorem oprs_own {W : World} {base : Nat} {A : Option Addr} {c : Nat} {ops : List Opr} (h : W.ownsRow base 37 5 (.slice A ops.length c) ops.length (opCells ops)) : Oprs W A ops := fun hl => by
  obtain ⟨g, rfl⟩ : ∃ g, A = some ⟨g, 0, none⟩ := by
    rcases h.2 with ⟨e1, e2⟩ | ⟨g, cap, cur, e1, _⟩
    · have := opCells_len ops
      rw [e2] at this
      simp at this
      omega
    · injection e1 with e1
      exact ⟨g, e1⟩
  refine ⟨g, 0, rfl, (h.lt g rfl).2, fun j o ho => ?_⟩
  have hj : j < ops.length := (List.getElem?_eq_some_iff.1 ho).1
  obtain ⟨h0, h1, h2, h3, h4⟩ := opCells_at ops j o ho
  have hn := opCells_len ops
  rw [Nat.zero_add]
  exact ⟨(h.cellAt _ (by omega)).trans h0, (h.cellAt _ (by omega)).trans h1, (h.cellAt _ (by omega)).trans h2, (h.cellAt _ (by omega)).trans h3, (h.cellAt _ (by omega)).trans h4⟩
theorem oprs_take {n₀ : Nat} {w : World} {A : Option Addr} {ops : List Opr} (h : OprsB n₀ w A ops) (k : Nat) : OprsB n₀ w A (ops.take k) := fun hl => by
  rw [List.length_take] at hl
  obtain ⟨b, off, e, hlt, hc⟩ := h (by omega)
  refine ⟨b, off, e, hlt, fun j o ho => hc j o ?_⟩
  rw [List.getElem?_take] at ho
  split at ho
  · exact ho
  · cases ho
/-- Where what is behind k operations of a slice of capacity c begins. -/
def subO (A : Option Addr) (c k : Nat) : Option Addr := if c = k then A else A.map (·.add (k * 5))
theorem oprs_drop {n₀ : Nat} {w : World} {A : Option Addr} {ops : List Opr} (h : OprsB n₀ w A ops) (c k : Nat) (hc : ops.length ≤ c) : OprsB n₀ w (subO A c k) (ops.drop k) := fun hl => by
  rw [List.length_drop] at hl
  obtain ⟨b, off, rfl, hlt, hcell⟩ := h (by omega)
  refine ⟨b, off + k * 5, by unfold subO; rw [if_neg (by omega)]; simp [Addr.add], hlt, fun j o ho => ?_⟩
  rw [List.getElem?_drop] at ho
  have := hcell (k + j) o ho
  rw [show off + (k + j) * 5 = off + k * 5 + j * 5 by omega] at this
  exact this
end Go.Proofs.YtmclpganipfadaaDoor
