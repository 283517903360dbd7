/- A drawn region of the form 'f, g := F(x), G(y)' whose two answers go into two new boxes: two calls in their order, two floating allocs, then the stores: walked by an invariant over what is done, not by its twelve orders. -/
import Derived.OrdersHeld
import Derived.WalkKit
import Derived.RegionTactic
namespace Go.Proofs.YtpdbkjnaicjfdaaGreatDoor
open Go
set_option linter.unusedVariables false

section
variable {P : Program} {md : Region.Mode} {ops : Array Oper} {Q : Exit → Act → World → Prop}
def gotM (c1 c5 x6 x7 : Bool) : Array Bool := #[true, c1, true, true, true, c5, x6, x7, false, false]
def nfM (b : Bool) : Nat := if b = true then 0 else 1
def rsM (c1 c5 x6 x7 : Bool) : List Nat := (if c1 then [] else [1]) ++ (if c1 && !c5 then [5] else []) ++ (if x6 then [] else [6]) ++ (if x7 then [] else [7]) ++ (if c1 && c5 && x6 && x7 then [8] else [])
def readyM (md : Region.Mode) (ops : Array Oper) : Bool :=
  [true, false].all fun c1 => [true, false].all fun c5 => [true, false].all fun x6 => [true, false].all fun x7 => (c5 && !c1) || decide (Region.ready md ops (gotM c1 c5 x6 x7) = rsM c1 c5 x6 x7)
theorem readyM_spec (h : readyM md ops = true) (c1 c5 x6 x7 : Bool) (hc : c5 = true → c1 = true) : Region.ready md ops (gotM c1 c5 x6 x7) = rsM c1 c5 x6 x7 := by
  unfold readyM at h
  simp only [List.all_cons, List.all_nil, Bool.and_true, Bool.and_eq_true, Bool.or_eq_true, decide_eq_true_eq] at h
  cases c1 <;> cases c5 <;> cases x6 <;> cases x7 <;> simp_all

theorem wpAny_take_at (t : Tmp) {i : Nat} {oi : Oper} {v : Value} {fuel : Nat} {listed : Array Bool} {a : Act} {w : World} (hi : ops[i]? = some oi) (hd : oi.dst = some t)
    (hs : Region.noSelect ops = true) (hf : Region.free md ops listed i = true) (hr : (Region.ready md ops listed).contains i = true)
    (hQ : ∀ c a w, Q (.panic c) (a.put (some t) v) w → Q (.panic c) a w) (hy : Yields P ops oi v a)
    (h : wpAny P md ops Q fuel (listed.setIfInBounds i true) (a.put (some t) v) w) : wpAny P md ops Q (fuel + 1) listed a w :=
  wpAny_take hi hs hf hr (by rw [hd]; exact hQ) hy (by rw [hd]; exact h)

theorem made_two (Inv : Bool → Bool → Bool → Bool → Act → World → Prop) (hr : readyM md ops = true)
    (h1 : ∀ x6 x7 a u (K : Act → World → Prop), Inv false false x6 x7 a u → (∀ a' u', Inv true false x6 x7 a' u' → K a' u') → wpOp P ops Q 1 K a u)
    (h5 : ∀ x6 x7 a u (K : Act → World → Prop), Inv true false x6 x7 a u → (∀ a' u', Inv true true x6 x7 a' u' → K a' u') → wpOp P ops Q 5 K a u)
    (h6 : ∀ c1 c5 x7 a u (K : Act → World → Prop), Inv c1 c5 false x7 a u → (∀ a' u', Inv c1 c5 true x7 a' u' → K a' u') → wpOp P ops Q 6 K a u)
    (h7 : ∀ c1 c5 x6 a u (K : Act → World → Prop), Inv c1 c5 x6 false a u → (∀ a' u', Inv c1 c5 x6 true a' u' → K a' u') → wpOp P ops Q 7 K a u)
    (hend : ∀ a u, Inv true true true true a u → wpAny P md ops Q 2 (gotM true true true true) a u) :
    ∀ (n : Nat) (c1 c5 x6 x7 : Bool) (a : Act) (u : World), n = nfM c1 + nfM c5 + nfM x6 + nfM x7 → (c5 = true → c1 = true) → Inv c1 c5 x6 x7 a u → wpAny P md ops Q (n + 2) (gotM c1 c5 x6 x7) a u := by
  intro n
  induction n with
  | zero =>
    intro c1 c5 x6 x7 a u hn hc hI
    cases c1 <;> cases c5 <;> cases x6 <;> cases x7 <;> first | exact hend a u hI | (simp [nfM] at hn)
  | succ n ih =>
    intro c1 c5 x6 x7 a u hn hc hI
    have hrs := readyM_spec hr c1 c5 x6 x7 hc
    have s1 : c1 = false → wpOp P ops Q 1 (wpAny P md ops Q (n + 2) ((gotM c1 c5 x6 x7).setIfInBounds 1 true)) a u := fun e => by
      subst e
      have e5 : c5 = false := by cases c5 <;> simp_all
      subst e5
      exact h1 x6 x7 a u _ hI fun a' u' hI' => ih true false x6 x7 a' u' (by simp [nfM] at hn ⊢; omega) (fun e => rfl) hI'
    have s5 : c1 = true → c5 = false → wpOp P ops Q 5 (wpAny P md ops Q (n + 2) ((gotM c1 c5 x6 x7).setIfInBounds 5 true)) a u := fun e e5 => by
      subst e e5
      exact h5 x6 x7 a u _ hI fun a' u' hI' => ih true true x6 x7 a' u' (by simp [nfM] at hn ⊢; omega) (fun e => rfl) hI'
    have s6 : x6 = false → wpOp P ops Q 6 (wpAny P md ops Q (n + 2) ((gotM c1 c5 x6 x7).setIfInBounds 6 true)) a u := fun e => by
      subst e
      exact h6 c1 c5 x7 a u _ hI fun a' u' hI' => ih c1 c5 true x7 a' u' (by simp [nfM] at hn ⊢; omega) hc hI'
    have s7 : x7 = false → wpOp P ops Q 7 (wpAny P md ops Q (n + 2) ((gotM c1 c5 x6 x7).setIfInBounds 7 true)) a u := fun e => by
      subst e
      exact h7 c1 c5 x6 a u _ hI fun a' u' hI' => ih c1 c5 x6 true a' u' (by simp [nfM] at hn ⊢; omega) hc hI'
    refine wpAny_all hrs ?_ ?_
    · cases c1 <;> cases c5 <;> cases x6 <;> cases x7 <;> simp [rsM, nfM] at hn ⊢
    · intro i hi
      cases c1 <;> cases c5 <;> cases x6 <;> cases x7 <;> simp [rsM] at hi <;> first
        | (simp [nfM] at hn; done)
        | (rcases hi with rfl | rfl | rfl <;> first | exact s1 rfl | exact s5 rfl rfl | exact s6 rfl | exact s7 rfl)
        | (rcases hi with rfl | rfl <;> first | exact s1 rfl | exact s5 rfl rfl | exact s6 rfl | exact s7 rfl)
        | (subst hi; first | exact s1 rfl | exact s5 rfl rfl | exact s6 rfl | exact s7 rfl)
end
end Go.Proofs.YtpdbkjnaicjfdaaGreatDoor
