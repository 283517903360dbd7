/- A region that draws its order, walked in the order of the text: 'true': an operation that yields its value in every world that meets S; 'false': one that stands alone when it comes up (a call, an operation that makes memory). Stands on the library's laws of a single operation (Derived.OrdersHeld). -/
import Derived.Test.YtbenfdbjpefegaaDoorOpBase
import Derived.OrdersHeld
import Derived.WalkKit
namespace Go.Proofs.YtbenfdbjpefegaaDoor
open Go
set_option linter.unusedVariables false

section
variable {P : Program} {ops : Array Oper} {Q : Exit → Act → World → Prop} {md : Region.Mode} {S : World → Prop}

def Alone (P : Program) (ops : Array Oper) (Q : Exit → Act → World → Prop) (S : World → Prop) : List Bool → List Oper → Act → World → Prop
  | _, [], a, w => Q .normal a w
  | true :: ms, o :: l, a, w => ∃ v, YieldsIf P ops S o v a ∧ Alone P ops Q S ms l (a.put o.dst v) w
  | false :: ms, o :: l, a, w => Region.wanted o (yielded ops a.tmps) = true ∧ o.wp P a w (fun a' w' => S w' ∧ Alone P ops Q S ms l a' w') Q
  | [], _ :: _, _, _ => False

theorem Alone.take {ms : List Bool} {o : Oper} {l : List Oper} {a : Act} {w : World} (v : Value) (h1 : Region.wanted o (yielded ops a.tmps) = true) (h2 : ∀ w, S w → (execOp a.eval o).run P w = .ok (.value v) w)
    (h : Alone P ops Q S ms l (a.put o.dst v) w) : Alone P ops Q S (true :: ms) (o :: l) a w := ⟨v, .inl ⟨h1, h2⟩, h⟩
theorem Alone.call {ms : List Bool} {o : Oper} {l : List Oper} {a : Act} {w : World} (f : FuncId) (args : Array Value) (h1 : Region.wanted o (yielded ops a.tmps) = true) (h2 : (execOp a.eval o).run P w = .ok (.enter f args) w)
    (h : Calls P f args w fun e w' => ∃ v, e = .returned v ∧ S w' ∧ Alone P ops Q S ms l (a.put o.dst v) w') : Alone P ops Q S (false :: ms) (o :: l) a w := by
  refine ⟨h1, ?_⟩
  simp only [Oper.wp, h2, Oper.upon]
  refine h.mono ?_
  rintro e w' ⟨v, rfl, hS', h'⟩
  exact ⟨hS', h'⟩
theorem Alone.make {ms : List Bool} {o : Oper} {l : List Oper} {a : Act} {w w1 : World} (v : Value) (h1 : Region.wanted o (yielded ops a.tmps) = true) (h2 : (execOp a.eval o).run P w = .ok (.value v) w1) (hS : S w1)
    (h : Alone P ops Q S ms l (a.put o.dst v) w1) : Alone P ops Q S (false :: ms) (o :: l) a w := by
  refine ⟨h1, ?_⟩
  simp only [Oper.wp, h2, Oper.upon]
  exact ⟨hS, h⟩
theorem Alone.other {ms : List Bool} {o : Oper} {l : List Oper} {a : Act} {w : World} (h1 : Region.wanted o (yielded ops a.tmps) = true) (h2 : o.wp P a w (fun a' w' => S w' ∧ Alone P ops Q S ms l a' w') Q) : Alone P ops Q S (false :: ms) (o :: l) a w := ⟨h1, h2⟩
theorem Alone.done {ms : List Bool} {a : Act} {w : World} (h : Q .normal a w) : Alone P ops Q S ms [] a w := by
  cases ms <;> exact h

def aloneB (md : Region.Mode) (ops : Array Oper) : List Bool → Nat → Array Bool → Bool
  | [], _, got => (Region.ready md ops got).isEmpty
  | true :: ms, k, got => (Region.ready md ops got).contains k && Region.free md ops got k && aloneB md ops ms (k + 1) (got.setIfInBounds k true)
  | false :: ms, k, got => decide (Region.ready md ops got = [k]) && aloneB md ops ms (k + 1) (got.setIfInBounds k true)

theorem alone_held (hsel : Region.noSelect ops = true) (hQ : ∀ c a d v w, Q (.panic c) (Act.put a d v) w → Q (.panic c) a w) :
    ∀ (l : List Oper) (ms : List Bool) (k : Nat) (got : Array Bool) (a : Act) (w : World), (∀ j, l[j]? = ops[k + j]?) → ms.length = l.length → aloneB md ops ms k got = true → S w →
      Alone P ops Q S ms l a w → wpAnyH P md ops Q S l.length got a w
  | [], [], _, got, a, w, _, _, hB, _, h => ⟨by simpa [aloneB] using hB, h⟩
  | [], _ :: _, _, _, _, _, _, hl, _, _, _ => by simp at hl
  | _ :: _, [], _, _, _, _, _, hl, _, _, _ => by simp at hl
  | o :: l, true :: ms, k, got, a, w, hl, hm, hB, hS, ⟨v, hy, h⟩ => by
    have h0 : ops[k]? = some o := by simpa using (hl 0).symm
    have hl' : ∀ j, l[j]? = ops[k + 1 + j]? := fun j => by
      have := hl (j + 1)
      rw [show k + 1 + j = k + (j + 1) by omega]; simpa using this
    simp only [aloneB, Bool.and_eq_true] at hB
    exact wpAnyH_take h0 hsel hB.1.2 hB.1.1 (fun c a w => hQ c a _ _ w) hy hS (alone_held hsel hQ l ms (k + 1) _ _ _ hl' (by simpa using hm) hB.2 hS h)
  | o :: l, false :: ms, k, got, a, w, hl, hm, hB, hS, ⟨h1, h⟩ => by
    have h0 : ops[k]? = some o := by simpa using (hl 0).symm
    have hl' : ∀ j, l[j]? = ops[k + 1 + j]? := fun j => by
      have := hl (j + 1)
      rw [show k + 1 + j = k + (j + 1) by omega]; simpa using this
    simp only [aloneB, Bool.and_eq_true, decide_eq_true_eq] at hB
    refine wpAnyH_all hB.1 (by simp) fun i hi => ?_
    obtain rfl : i = k := by simpa using hi
    unfold Go.wpOp
    simp only [h0, h1, if_true]
    exact .inl (Oper.wp_mono (fun a' w' q => ⟨q.1, alone_held hsel hQ l ms (i + 1) _ _ _ hl' (by simpa using hm) hB.2 q.1 q.2⟩) h)

theorem wp_region_alone {id : Nat} {a : Act} {w : World} {l : List Oper} (ms : List Bool) (S : World → Prop) (hm : P.follows .mixedOrders = true) (hB : (Region.noSelect l.toArray && decide (ms.length = l.length) && aloneB .any l.toArray ms 0 (Array.replicate l.toArray.size false)) = true)
    (hQ : ∀ c a d v w, Q (.panic c) (Act.put a d v) w → Q (.panic c) a w) (hS : S w.drew) (h : Alone P l.toArray Q S ms l a w.drew) : (Code.region id l.toArray true).wp P Q a w := by
  simp only [Bool.and_eq_true, decide_eq_true_eq] at hB
  exact wp_region_held hm (alone_held hB.1.1 hQ l ms 0 _ a w.drew (fun j => by simp) hB.1.2 hB.2 hS h)
end
end Go.Proofs.YtbenfdbjpefegaaDoor
