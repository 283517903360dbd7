/- A region that draws its order, walked by a plan that forks where several operations may come up (a call, and the boxes of what it tells, made ahead of it or behind it). Stands on the library's laws (Derived.OrdersHeld). -/
import Derived.Test.YtmclpganipfadaaGreatDoorJbC
namespace Go.Proofs.YtmclpganipfadaaGreatDoor
open Go Go.RowKit Go.Maps
set_option linter.unusedVariables false

/-- In which order a region's operations are taken: 'take': one that yields its value in every world that meets S; else all that may come up, each with what follows it. -/
inductive Plan where
  | done
  | take (k : Nat) (p : Plan)
  | one (k : Nat) (p : Plan)
  | two (k : Nat) (p : Plan) (k' : Nat) (p' : Plan)
  | three (k : Nat) (p : Plan) (k' : Nat) (p' : Plan) (k2 : Nat) (p2 : Plan)

section
variable {P : Program} {ops : Array Oper} {Q : Exit → Act → World → Prop} {md : Region.Mode} {S : World → Prop}

/-- Operation k comes up, and K holds behind it. -/
def Goes (P : Program) (ops : Array Oper) (Q : Exit → Act → World → Prop) (S : World → Prop) (k : Nat) (K : Act → World → Prop) (a : Act) (w : World) : Prop :=
  ∃ o, ops[k]? = some o ∧ Region.wanted o (yielded ops a.tmps) = true ∧ o.wp P a w (fun a' w' => S w' ∧ K a' w') Q

def Forked (P : Program) (ops : Array Oper) (Q : Exit → Act → World → Prop) (S : World → Prop) : Plan → Act → World → Prop
  | .done, a, w => Q .normal a w
  | .take k p, a, w => ∃ o v, ops[k]? = some o ∧ YieldsIf P ops S o v a ∧ Forked P ops Q S p (a.put o.dst v) w
  | .one k p, a, w => Goes P ops Q S k (Forked P ops Q S p) a w
  | .two k p k' p', a, w => Goes P ops Q S k (Forked P ops Q S p) a w ∧ Goes P ops Q S k' (Forked P ops Q S p') a w
  | .three k p k' p' k2 p2, a, w => Goes P ops Q S k (Forked P ops Q S p) a w ∧ Goes P ops Q S k' (Forked P ops Q S p') a w ∧ Goes P ops Q S k2 (Forked P ops Q S p2) a w

def Plan.depth : Plan → Nat
  | .done => 0
  | .take _ p => p.depth + 1
  | .one _ p => p.depth + 1
  | .two _ p _ p' => max p.depth p'.depth + 1
  | .three _ p _ p' _ p2 => max p.depth (max p'.depth p2.depth) + 1

def Plan.fits (md : Region.Mode) (ops : Array Oper) : Plan → Array Bool → Bool
  | .done, got => (Region.ready md ops got).isEmpty
  | .take k p, got => (Region.ready md ops got).contains k && Region.free md ops got k && p.fits md ops (got.setIfInBounds k true)
  | .one k p, got => decide (Region.ready md ops got = [k]) && p.fits md ops (got.setIfInBounds k true)
  | .two k p k' p', got => decide (Region.ready md ops got = [k, k']) && (p.fits md ops (got.setIfInBounds k true) && p'.fits md ops (got.setIfInBounds k' true))
  | .three k p k' p' k2 p2, got => decide (Region.ready md ops got = [k, k', k2]) && (p.fits md ops (got.setIfInBounds k true) && (p'.fits md ops (got.setIfInBounds k' true) && p2.fits md ops (got.setIfInBounds k2 true)))

theorem Goes.op {k : Nat} {K : Act → World → Prop} {a : Act} {w : World} (h : Goes P ops Q S k K a w) : wpOp P ops Q k (fun a' w' => S w' ∧ K a' w') a w := by
  obtain ⟨o, h0, h1, h2⟩ := h
  unfold Go.wpOp
  simp only [h0, h1, if_true]
  exact .inl h2
theorem Goes.mono {k : Nat} {K K' : Act → World → Prop} {a : Act} {w : World} (h : Goes P ops Q S k K a w) (hk : ∀ a w, S w → K a w → K' a w) : Goes P ops Q S k K' a w := by
  obtain ⟨o, h0, h1, h2⟩ := h
  exact ⟨o, h0, h1, Oper.wp_mono (fun a' w' q => ⟨q.1, hk a' w' q.1 q.2⟩) h2⟩

theorem forked_held (hsel : Region.noSelect ops = true) (hQ : ∀ c a d v w, Q (.panic c) (Act.put a d v) w → Q (.panic c) a w) :
    ∀ (p : Plan) (fuel : Nat) (got : Array Bool) (a : Act) (w : World), p.depth ≤ fuel → p.fits md ops got = true → S w → Forked P ops Q S p a w → wpAnyH P md ops Q S fuel got a w
  | .done, fuel, got, a, w, _, hB, _, h => wpAnyH_done (by simpa [Plan.fits] using hB) h fuel
  | .take k p, fuel, got, a, w, hd, hB, hS, ⟨o, v, h0, hy, h⟩ => by
    obtain ⟨f, rfl⟩ : ∃ f, fuel = f + 1 := ⟨fuel - 1, by simp only [Plan.depth] at hd; omega⟩
    simp only [Plan.fits, Bool.and_eq_true] at hB
    simp only [Plan.depth] at hd
    exact wpAnyH_take h0 hsel hB.1.2 hB.1.1 (fun c a w => hQ c a _ _ w) hy hS (forked_held hsel hQ p f _ _ _ (by omega) hB.2 hS h)
  | .one k p, fuel, got, a, w, hd, hB, hS, h => by
    obtain ⟨f, rfl⟩ : ∃ f, fuel = f + 1 := ⟨fuel - 1, by simp only [Plan.depth] at hd; omega⟩
    simp only [Plan.fits, Bool.and_eq_true, decide_eq_true_eq] at hB
    simp only [Plan.depth] at hd
    refine wpAnyH_all hB.1 (by simp) fun i hi => ?_
    obtain rfl : i = k := by simpa using hi
    exact (Goes.mono h fun a w hS h => forked_held hsel hQ p f _ a w (by omega) hB.2 hS h).op
  | .two k p k' p', fuel, got, a, w, hd, hB, hS, ⟨h1, h2⟩ => by
    obtain ⟨f, rfl⟩ : ∃ f, fuel = f + 1 := ⟨fuel - 1, by simp only [Plan.depth] at hd; omega⟩
    simp only [Plan.fits, Bool.and_eq_true, decide_eq_true_eq] at hB
    simp only [Plan.depth] at hd
    refine wpAnyH_all hB.1 (by simp) fun i hi => ?_
    have hi' : i = k ∨ i = k' := by simpa using hi
    rcases hi' with rfl | rfl
    · exact (Goes.mono h1 fun a w hS h => forked_held hsel hQ p f _ a w (by omega) hB.2.1 hS h).op
    · exact (Goes.mono h2 fun a w hS h => forked_held hsel hQ p' f _ a w (by omega) hB.2.2 hS h).op
  | .three k p k' p' k2 p2, fuel, got, a, w, hd, hB, hS, ⟨h1, h2, h3⟩ => by
    obtain ⟨f, rfl⟩ : ∃ f, fuel = f + 1 := ⟨fuel - 1, by simp only [Plan.depth] at hd; omega⟩
    simp only [Plan.fits, Bool.and_eq_true, decide_eq_true_eq] at hB
    simp only [Plan.depth] at hd
    refine wpAnyH_all hB.1 (by simp) fun i hi => ?_
    have hi' : i = k ∨ i = k' ∨ i = k2 := by simpa using hi
    rcases hi' with rfl | rfl | rfl
    · exact (Goes.mono h1 fun a w hS h => forked_held hsel hQ p f _ a w (by omega) hB.2.1 hS h).op
    · exact (Goes.mono h2 fun a w hS h => forked_held hsel hQ p' f _ a w (by omega) hB.2.2.1 hS h).op
    · exact (Goes.mono h3 fun a w hS h => forked_held hsel hQ p2 f _ a w (by omega) hB.2.2.2 hS h).op

theorem wp_region_forked {id : Nat} {a : Act} {w : World} {l : List Oper} (p : Plan) (S : World → Prop) (hm : P.follows .mixedOrders = true) (hB : (Region.noSelect l.toArray && decide (p.depth ≤ l.length) && p.fits .any l.toArray (Array.replicate l.toArray.size false)) = true)
    (hQ : ∀ c a d v w, Q (.panic c) (Act.put a d v) w → Q (.panic c) a w) (hS : S w.drew) (h : Forked P l.toArray Q S p a w.drew) : (Code.region id l.toArray true).wp P Q a w := by
  simp only [Bool.and_eq_true, decide_eq_true_eq] at hB
  exact wp_region_held hm (forked_held (md := .any) hB.1.1 hQ p _ _ a w.drew (by simpa using hB.1.2) hB.2 hS h)

theorem Forked.take {p : Plan} {k : Nat} {o : Oper} {a : Act} {w : World} (v : Value) (h0 : ops[k]? = some o) (h1 : Region.wanted o (yielded ops a.tmps) = true) (h2 : ∀ w, S w → (execOp a.eval o).run P w = .ok (.value v) w)
    (h : Forked P ops Q S p (a.put o.dst v) w) : Forked P ops Q S (.take k p) a w := ⟨o, v, h0, .inl ⟨h1, h2⟩, h⟩

/-- The rest of a region that tells a state, a return and an error into two boxes and a temporary: k the call, then a copy, three parts, two boxes, two stores, the error. -/
def Plan.told (k : Nat) : Plan :=
  let parts := fun q : Plan => .take (k + 1) (.take (k + 2) (.take (k + 3) (.take (k + 4) q)))
  let tail : Plan := .one (k + 7) (.one (k + 8) (.one (k + 9) .done))
  .three k (parts (.two (k + 5) (.one (k + 6) tail) (k + 6) (.one (k + 5) tail))) (k + 5) (.two k (parts (.one (k + 6) tail)) (k + 6) (.one k (parts tail))) (k + 6) (.two k (parts (.one (k + 5) tail)) (k + 5) (.one k (parts tail)))
def Plan.takes : List Nat → Plan → Plan
  | [], p => p
  | k :: ks, p => .take k (Plan.takes ks p)

theorem wanted_none {o : Oper} (h : o.guard = none) (y : Nat → Option Bool) : Region.wanted o y = true := by unfold Region.wanted; rw [h]
theorem Forked.ask {p : Plan} {k : Nat} {o : Oper} {a : Act} {w : World} (v : Value) (h0 : ops[k]? = some o) (h1 : o.guard = none) (h2 : ∀ w, S w → (execOp a.eval o).run P w = .ok (.value v) w)
    (h : Forked P ops Q S p (a.put o.dst v) w) : Forked P ops Q S (.take k p) a w := Forked.take v h0 (wanted_none h1 _) h2 h
theorem Goes.value {k : Nat} {K : Act → World → Prop} {o : Oper} {a : Act} {w w' : World} {v : Value} (h0 : ops[k]? = some o) (hg : o.guard = none) (h : (execOp a.eval o).run P w = .ok (.value v) w') (hS : S w') (hK : K (a.put o.dst v) w') : Goes P ops Q S k K a w :=
  ⟨o, h0, wanted_none hg _, by unfold Oper.wp; rw [h]; exact ⟨hS, hK⟩⟩
theorem Goes.skip {k : Nat} {K : Act → World → Prop} {o : Oper} {a : Act} {w w' : World} (h0 : ops[k]? = some o) (hg : o.guard = none) (hd : o.dst = none) (h : (execOp a.eval o).run P w = .ok .skip w') (hS : S w') (hK : K a w') : Goes P ops Q S k K a w :=
  ⟨o, h0, wanted_none hg _, by unfold Oper.wp; rw [h]; refine ⟨hS, ?_⟩; rw [hd]; exact hK⟩
theorem Goes.enter {k : Nat} {K : Act → World → Prop} {o : Oper} {a : Act} {w : World} {f : FuncId} {args : Array Value} (h0 : ops[k]? = some o) (hg : o.guard = none) (h : (execOp a.eval o).run P w = .ok (.enter f args) w)
    (hc : Calls P f args w fun e w' => ∃ v, e = .returned v ∧ S w' ∧ K (a.put o.dst v) w') : Goes P ops Q S k K a w :=
  ⟨o, h0, wanted_none hg _, by unfold Oper.wp; rw [h]; refine hc.mono ?_; rintro e w' ⟨v, rfl, h1, h2⟩; exact ⟨h1, h2⟩⟩

theorem put_size (a : Act) (d : Option Tmp) (v : Value) : (a.put d v).tmps.size = a.tmps.size := by cases d <;> simp [Act.put]
theorem eval_same {a : Act} {d : Tmp} (v : Value) (h : d < a.tmps.size) : (a.put (some d) v).eval (.tmp d) = v := by simp [Act.eval, Act.put, h]
theorem eval_far {a : Act} {d t : Tmp} (v : Value) (h : d ≠ t) : (a.put (some d) v).eval (.tmp t) = a.eval (.tmp t) := by simp [Act.eval, Act.put, Array.getElem?_setIfInBounds_ne h]
end
end Go.Proofs.YtmclpganipfadaaGreatDoor
