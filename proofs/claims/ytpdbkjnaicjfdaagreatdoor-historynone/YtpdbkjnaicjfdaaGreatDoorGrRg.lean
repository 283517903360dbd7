/- A region that draws its order: a head in an order that is told (as wp_region_picked), a bag of operations that may come up in any order and leave every slot as it is, told by what is kept while some of them are left, and a rest in an order that is told. Stands on the library's laws (Derived.OrdersHeld). -/
import Derived.Test.YtpdbkjnaicjfdaaGreatDoorGpk
namespace Go.Proofs.YtpdbkjnaicjfdaaGreatDoor
open Go
set_option linter.unusedVariables false

section
variable {P : Program} {ops : Array Oper} {Q : Exit → Act → World → Prop} {md : Region.Mode} {S : World → Prop}

def bagB (md : Region.Mode) (ops : Array Oper) (ms : List (Nat × Bool)) : Nat → List Nat → Array Bool → Bool
  | 0, ks, got => ks.isEmpty && pickedB md ops ms got
  | n + 1, ks, got => decide (Region.ready md ops got = ks) && !ks.isEmpty && ks.all fun k => bagB md ops ms n (ks.erase k) (got.setIfInBounds k true)

theorem bag_held (hsel : Region.noSelect ops = true) (hQ : ∀ c a d v w, Q (.panic c) (Act.put a d v) w → Q (.panic c) a w) (ms : List (Nat × Bool)) (a : Act) (J : List Nat → World → Prop)
    (step : ∀ rem k w, k ∈ rem → J rem w → S w → ∃ o, ops[k]? = some o ∧ Region.wanted o (yielded ops a.tmps) = true ∧ o.wp P a w (fun a' w' => S w' ∧ a' = a ∧ J (rem.erase k) w') Q)
    (fin : ∀ w, J [] w → S w → Picked P ops Q S ms a w) :
    ∀ (n : Nat) (ks : List Nat) (got : Array Bool) (w : World), bagB md ops ms n ks got = true → J ks w → S w → wpAnyH P md ops Q S (n + ms.length) got a w
  | 0, ks, got, w, hB, hJ, hS => by
    simp only [bagB, Bool.and_eq_true, List.isEmpty_iff] at hB
    obtain ⟨rfl, hB⟩ := hB
    rw [Nat.zero_add]
    exact picked_held hsel hQ ms got a w hB hS (fin w hJ hS)
  | n + 1, ks, got, w, hB, hJ, hS => by
    simp only [bagB, Bool.and_eq_true, decide_eq_true_eq, List.all_eq_true] at hB
    obtain ⟨⟨hr, hne⟩, hall⟩ := hB
    rw [show n + 1 + ms.length = n + ms.length + 1 by omega]
    refine wpAnyH_all hr (by intro e; subst e; simp at hne) fun i hi => ?_
    obtain ⟨o, h0, h1, h2⟩ := step ks i w hi hJ hS
    unfold Go.wpOp
    simp only [h0, h1, if_true]
    refine .inl (Oper.wp_mono (fun a' w' q => ?_) h2)
    obtain ⟨q1, rfl, q3⟩ := q
    exact ⟨q1, bag_held hsel hQ ms a' J step fin n _ _ w' (hall i hi) q3 q1⟩

/-- The head, then what is asked of the bag. -/
def PickedC (P : Program) (ops : Array Oper) (Q : Exit → Act → World → Prop) (S : World → Prop) (C : Act → World → Prop) : List (Nat × Bool) → Act → World → Prop
  | [], a, w => C a w
  | (k, true) :: ms, a, w => ∃ o v, ops[k]? = some o ∧ YieldsIf P ops S o v a ∧ PickedC P ops Q S C ms (a.put o.dst v) w
  | (k, false) :: ms, a, w => ∃ o, ops[k]? = some o ∧ Region.wanted o (yielded ops a.tmps) = true ∧ o.wp P a w (fun a' w' => S w' ∧ PickedC P ops Q S C ms a' w') Q
theorem PickedC.take {C : Act → World → Prop} {ms : List (Nat × Bool)} {k : Nat} {o : Oper} {a : Act} {w : World} (v : Value) (h0 : ops[k]? = some o) (h1 : Region.wanted o (yielded ops a.tmps) = true) (h2 : ∀ w, S w → (execOp a.eval o).run P w = .ok (.value v) w)
    (h : PickedC P ops Q S C ms (a.put o.dst v) w) : PickedC P ops Q S C ((k, true) :: ms) a w := ⟨o, v, h0, .inl ⟨h1, h2⟩, h⟩
theorem PickedC.make {C : Act → World → Prop} {ms : List (Nat × Bool)} {k : Nat} {o : Oper} {a : Act} {w w1 : World} (v : Value) (h0 : ops[k]? = some o) (h1 : Region.wanted o (yielded ops a.tmps) = true) (h2 : (execOp a.eval o).run P w = .ok (.value v) w1) (hS : S w1)
    (h : PickedC P ops Q S C ms (a.put o.dst v) w1) : PickedC P ops Q S C ((k, false) :: ms) a w := by
  refine ⟨o, h0, h1, ?_⟩
  simp only [Oper.wp, h2, Oper.upon]
  exact ⟨hS, h⟩

def pickedCB (md : Region.Mode) (ops : Array Oper) (cB : Array Bool → Bool) : List (Nat × Bool) → Array Bool → Bool
  | [], got => cB got
  | (k, true) :: ms, got => (Region.ready md ops got).contains k && Region.free md ops got k && pickedCB md ops cB ms (got.setIfInBounds k true)
  | (k, false) :: ms, got => decide (Region.ready md ops got = [k]) && pickedCB md ops cB ms (got.setIfInBounds k true)

theorem pickedC_held (hsel : Region.noSelect ops = true) (hQ : ∀ c a d v w, Q (.panic c) (Act.put a d v) w → Q (.panic c) a w) (C : Act → World → Prop) (cB : Array Bool → Bool) (n : Nat)
    (hC : ∀ got a w, cB got = true → S w → C a w → wpAnyH P md ops Q S n got a w) :
    ∀ (ms : List (Nat × Bool)) (got : Array Bool) (a : Act) (w : World), pickedCB md ops cB ms got = true → S w → PickedC P ops Q S C ms a w → wpAnyH P md ops Q S (ms.length + n) got a w
  | [], got, a, w, hB, hS, h => by
    rw [List.length_nil, Nat.zero_add]
    exact hC got a w hB hS h
  | (k, true) :: ms, got, a, w, hB, hS, ⟨o, v, h0, hy, h⟩ => by
    simp only [pickedCB, Bool.and_eq_true] at hB
    rw [List.length_cons, show ms.length + 1 + n = ms.length + n + 1 by omega]
    exact wpAnyH_take h0 hsel hB.1.2 hB.1.1 (fun c a w => hQ c a _ _ w) hy hS (pickedC_held hsel hQ C cB n hC ms _ _ _ hB.2 hS h)
  | (k, false) :: ms, got, a, w, hB, hS, ⟨o, h0, h1, h⟩ => by
    simp only [pickedCB, Bool.and_eq_true, decide_eq_true_eq] at hB
    rw [List.length_cons, show ms.length + 1 + n = ms.length + n + 1 by omega]
    refine wpAnyH_all hB.1 (by simp) fun i hi => ?_
    obtain rfl : i = k := by simpa using hi
    unfold Go.wpOp
    simp only [h0, h1, if_true]
    exact .inl (Oper.wp_mono (fun a' w' q => ⟨q.1, pickedC_held hsel hQ C cB n hC ms _ _ _ hB.2 q.1 q.2⟩) h)

/-- What is asked of a bag and what follows it. -/
def InBag (P : Program) (ops : Array Oper) (Q : Exit → Act → World → Prop) (S : World → Prop) (ks : List Nat) (ms : List (Nat × Bool)) (a : Act) (w : World) : Prop :=
  ∃ J : List Nat → World → Prop, J ks w ∧ (∀ rem k w, k ∈ rem → J rem w → S w → ∃ o, ops[k]? = some o ∧ Region.wanted o (yielded ops a.tmps) = true ∧ o.wp P a w (fun a' w' => S w' ∧ a' = a ∧ J (rem.erase k) w') Q) ∧
    (∀ w, J [] w → S w → Picked P ops Q S ms a w)

theorem wp_region_bag {id : Nat} {a : Act} {w : World} {l : List Oper} (ms : List (Nat × Bool)) (ks : List Nat) (ms' : List (Nat × Bool)) (S : World → Prop) (hm : P.follows .mixedOrders = true)
    (hB : (Region.noSelect l.toArray && decide (ms.length + (ks.length + ms'.length) = l.length) && pickedCB .any l.toArray (bagB .any l.toArray ms' ks.length ks) ms (Array.replicate l.toArray.size false)) = true)
    (hQ : ∀ c a d v w, Q (.panic c) (Act.put a d v) w → Q (.panic c) a w) (hS : S w.drew) (h : PickedC P l.toArray Q S (InBag P l.toArray Q S ks ms') ms a w.drew) : (Code.region id l.toArray true).wp P Q a w := by
  simp only [Bool.and_eq_true, decide_eq_true_eq] at hB
  have := pickedC_held (md := .any) hB.1.1 hQ (InBag P l.toArray Q S ks ms') (bagB .any l.toArray ms' ks.length ks) (ks.length + ms'.length)
    (fun got a w hb hS' ⟨J, h1, h2, h3⟩ => bag_held hB.1.1 hQ ms' a J h2 h3 ks.length ks got w hb h1 hS') ms _ a w.drew hB.2 hS h
  rw [hB.1.2] at this
  exact wp_region_held hm this
theorem bag_run {K : Act → World → Prop} {o : Oper} {a : Act} {w w' : World} (h : (execOp a.eval o).run P w = .ok .skip w') (hd : o.dst = none) (hK : K a w') : o.wp P a w K Q := by
  simp only [Oper.wp, h, Oper.upon, hd]
  exact hK
end
end Go.Proofs.YtpdbkjnaicjfdaaGreatDoor
