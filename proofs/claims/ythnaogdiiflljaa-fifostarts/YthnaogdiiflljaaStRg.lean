/- A region that draws its order: a head, walked in the order of the text ('true': an operation that yields its value in every world that meets S; 'false': one that stands alone when it comes up), and a forced tail, behind which nothing is asked of S. Stands on TkTwH and on the library's laws (Derived.OrdersHeld, Derived.StillTail). -/
import Derived.Test.YthnaogdiiflljaaOpBase
import Derived.Test.YthnaogdiiflljaaTkTwH
import Derived.WalkKit
namespace Go.Proofs.Ythnaogdiiflljaa
open Go
set_option linter.unusedVariables false

section
variable {P : Program} {ops : Array Oper} {Q : Exit → Act → World → Prop} {md : Region.Mode} {S : World → Prop}

def Heads (P : Program) (ops : Array Oper) (Q : Exit → Act → World → Prop) (S : World → Prop) : List Bool → List Oper → Act → World → Prop
  | [], l, a, w => wpList P ops Q l a w
  | true :: ms, o :: l, a, w => ∃ v, YieldsIf P ops S o v a ∧ Heads P ops Q S ms l (a.put o.dst v) w
  | false :: ms, o :: l, a, w => Region.wanted o (yielded ops a.tmps) = true ∧ o.wp P a w (fun a' w' => S w' ∧ Heads P ops Q S ms l a' w') Q
  | _ :: _, [], _, _ => False

theorem Heads.take {ms : List Bool} {o : Oper} {l : List Oper} {a : Act} {w : World} (v : Value) (h1 : Region.wanted o (yielded ops a.tmps) = true) (h2 : ∀ w, S w → (execOp a.eval o).run P w = .ok (.value v) w)
    (h : Heads P ops Q S ms l (a.put o.dst v) w) : Heads P ops Q S (true :: ms) (o :: l) a w := ⟨v, .inl ⟨h1, h2⟩, h⟩
theorem Heads.call {ms : List Bool} {o : Oper} {l : List Oper} {a : Act} {w : World} (f : FuncId) (args : Array Value) (h1 : Region.wanted o (yielded ops a.tmps) = true) (h2 : (execOp a.eval o).run P w = .ok (.enter f args) w)
    (h : Calls P f args w fun e w' => ∃ v, e = .returned v ∧ S w' ∧ Heads P ops Q S ms l (a.put o.dst v) w') : Heads P ops Q S (false :: ms) (o :: l) a w := by
  refine ⟨h1, ?_⟩
  simp only [Oper.wp, h2, Oper.upon]
  refine h.mono ?_
  rintro e w' ⟨v, rfl, hS', h'⟩
  exact ⟨hS', h'⟩
theorem Heads.make {ms : List Bool} {o : Oper} {l : List Oper} {a : Act} {w w1 : World} (v : Value) (h1 : Region.wanted o (yielded ops a.tmps) = true) (h2 : (execOp a.eval o).run P w = .ok (.value v) w1) (hS : S w1)
    (h : Heads P ops Q S ms l (a.put o.dst v) w1) : Heads P ops Q S (false :: ms) (o :: l) a w := by
  refine ⟨h1, ?_⟩
  simp only [Oper.wp, h2, Oper.upon]
  exact ⟨hS, h⟩
theorem Heads.done {l : List Oper} {a : Act} {w : World} (h : wpList P ops Q l a w) : Heads P ops Q S [] l a w := by
  unfold Heads; exact h

def headsB (md : Region.Mode) (ops : Array Oper) : List Bool → Nat → Array Bool → Bool
  | [], k, got => Region.seqB md ops (ops.size - k) k got
  | true :: ms, k, got => (Region.ready md ops got).contains k && Region.free md ops got k && headsB md ops ms (k + 1) (got.setIfInBounds k true)
  | false :: ms, k, got => decide (Region.ready md ops got = [k]) && headsB md ops ms (k + 1) (got.setIfInBounds k true)

theorem heads_till {n : Nat} (hsel : Region.noSelect ops = true) (hs : Region.sinkB md ops n = true) (hc : Region.chainB md ops n = true) (hn : n < ops.size)
    (hQ : ∀ c a d v w, Q (.panic c) (Act.put a d v) w → Q (.panic c) a w) :
    ∀ (ms : List Bool) (l : List Oper) (k : Nat) (got : Array Bool) (a : Act) (w : World), (∀ j, l[j]? = ops[k + j]?) → k + ms.length = n → l.length = ops.size - k → HeadInv md ops n got →
    headsB md ops ms k got = true → S w → Heads P ops Q S ms l a w → Till P md ops Q S n l.length got a w
  | [], l, k, got, a, w, hl, hk, hlen, inv, hB, hS, h => by
    obtain rfl : k = n := by simpa using hk
    unfold headsB at hB
    rw [← hlen] at hB
    unfold Heads at h
    have h5 := wpAny_of_seq l k _ _ _ hl hB h
    have h6 : ∀ i ∈ Region.ready md ops got, k ≤ i := fun i hi => by have := seqB_ready hB i hi; omega
    generalize l.length = f at *
    cases f with
    | zero => exact ⟨h6, h5⟩
    | succ f => exact .inl ⟨h6, h5⟩
  | m :: _, [], k, got, a, w, _, _, _, _, _, _, h => by
    cases m <;> exact (show False from h).elim
  | true :: ms, o :: l, k, got, a, w, hl, hk, hlen, inv, hB, hS, ⟨v, hy, h⟩ => by
    obtain ⟨h0, hl'⟩ := tail_of hl
    simp only [headsB, Bool.and_eq_true] at hB
    have hr : k ∈ Region.ready md ops got := by simpa using hB.1.1
    have hkn : k < n := by simp at hk; omega
    exact Till.take h0 hsel (fun c a w => hQ c a _ _ w) hs hc hn hkn _ got a w inv hB.1.2 hr hy hS (heads_till hsel hs hc hn hQ ms l (k + 1) _ _ _ hl' (by simp at hk; omega) (by simp at hlen; omega) (inv.set hr hkn) hB.2 hS h)
  | false :: ms, o :: l, k, got, a, w, hl, hk, hlen, inv, hB, hS, ⟨h1, h⟩ => by
    obtain ⟨h0, hl'⟩ := tail_of hl
    simp only [headsB, Bool.and_eq_true, decide_eq_true_eq] at hB
    have hkn : k < n := by simp at hk; omega
    refine .inr ⟨by rw [hB.1]; simp, fun j hj => ?_⟩
    obtain rfl : j = k := by rw [hB.1] at hj; simpa using hj
    unfold Go.wpOp
    simp only [h0, h1, if_true]
    exact .inl (Oper.wp_mono (fun a' w' q => ⟨q.1, heads_till hsel hs hc hn hQ ms l (j + 1) _ _ _ hl' (by simp at hk; omega) (by simp at hlen; omega) (inv.set hj hkn) hB.2 q.1 q.2⟩) h)

/-- What the kernel reckons of the region. -/
def headsAll (md : Region.Mode) (ops : Array Oper) (ms : List Bool) : Bool :=
  Region.noSelect ops && decide (ms.length < ops.size) && Region.sinkB md ops ms.length && Region.chainB md ops ms.length && headsB md ops ms 0 (Array.replicate ops.size false)

theorem wp_region_heads {id : Nat} {a : Act} {w : World} {l : List Oper} (ms : List Bool) (S : World → Prop) (hm : P.follows .mixedOrders = true) (hB : headsAll .any l.toArray ms = true)
    (hQ : ∀ c a d v w, Q (.panic c) (Act.put a d v) w → Q (.panic c) a w) (hS : S w.drew) (h : Heads P l.toArray Q S ms l a w.drew) : (Code.region id l.toArray true).wp P Q a w := by
  simp only [headsAll, Bool.and_eq_true, decide_eq_true_eq] at hB
  refine wp_region_any hm (Till.any (heads_till hB.1.1.1.1 hB.1.1.2 hB.1.2 hB.1.1.1.2 hQ ms l 0 _ a _ (fun j => by simp) (by omega) (by simp) ⟨by simp, ?_, ?_⟩ (by simpa using hB.2) hS h))
  · intro j _ _ h1; rw [getD_replicate_false] at h1; cases h1
  · intro t _ h1; exact getD_in (by simpa using h1) (getD_replicate_false _ _)
end
end Go.Proofs.Ythnaogdiiflljaa
