/- A region that draws its order, in the widest fence (a round of a loop over an iterator): what serves a plain walk, and never leaves by a panic, serves there too. Stands on the library's laws of regions, plain and fenced. -/
import Derived.Test.YtpdbkjnaicjfdaaGreatDoorGpk
import Derived.Test.YtpdbkjnaicjfdaaGreatDoorGb
import Derived.OrdersIn
import Derived.Deep.RegionHeld3
import Derived.RangeFuncCalls
namespace Go.Proofs.YtpdbkjnaicjfdaaGreatDoor
open Go Go.RowKit
set_option linter.unusedVariables false

section
variable {lp n : Nat} {P : Program} {md : Region.Mode} {ops : Array Oper} {Q : Exit → Act → World → Prop}

/-- Q, but 'False' at every other end. -/
def Norm (Q : Exit → Act → World → Prop) : Exit → Act → World → Prop
  | .normal, a, w => Q .normal a w
  | _, _, _ => False
theorem Norm.normal {a : Act} {w : World} (h : Q .normal a w) : Norm Q .normal a w := h
theorem rows_wide {row : String} {args : Array Value} {w : World} {R : Value → World → Prop} (h : Rows P row args w R) : RowsIn (Fence.wide.inRound lp) n P row args w R :=
  fun c cs _ => let ⟨v, w', r, s⟩ := h c cs; ⟨v, w', r, stepsIn_wide.2 s⟩
theorem no_out : ¬ LetsOut (Norm Q) := fun ⟨_, _, h⟩ => h
def tameB (o : Oper) : Bool := match o.op with
  | .defer _ => false
  | _ => true
theorem tame_sem {o : Oper} (h : tameB o = true) (r : Option Nat) (ρ : Operand → Value) : o.semAt r ρ = execOp ρ o :=
  Oper.semAt_eq r ρ o fun c e => by unfold tameB at h; rw [e] at h; cases h
theorem wp_wide {o : Oper} {a : Act} {w : World} {K : Act → World → Prop} (ht : tameB o = true) (h : o.wp P a w K (Norm Q)) : o.wpIn (Fence.wide.inRound lp) n P a w K Q := by
  unfold Oper.wp at h
  unfold Oper.wpIn
  refine ⟨fun _ _ => trivial, ?_⟩
  rw [tame_sem ht]
  generalize (execOp a.eval o).run P w = r at *
  cases r with
  | ok x w' =>
    cases x <;> first
      | exact h
      | exact (show False from h).elim
      | exact ⟨fun e => (by cases e), rows_wide h⟩
      | (refine ⟨fun e => (by cases e), CallsIn.inRound lp (callsIn_wide.2 (Calls.mono h ?_))⟩
         intro e w'' h2
         cases e with
         | returned v => exact h2
         | panicked chain => exact (show False from h2).elim
         | outgrown => exact (no_out h2).elim)
  | halt x w' =>
    cases x <;> first | exact (show False from h).elim
theorem any_wide (ht : ops.toList.all tameB = true) : ∀ (fuel : Nat) (got : Array Bool) (a : Act) (w : World), wpAny P md ops (Norm Q) fuel got a w → wpAnyIn (Fence.wide.inRound lp) n P md ops Q fuel got a w
  | 0, got, a, w, h => ⟨h.1, h.2⟩
  | fuel + 1, got, a, w, h => by
    refine ⟨fun h0 => h.1 h0, fun i hi => ?_⟩
    have h2 := h.2 i hi
    unfold Go.wpOp at h2
    unfold Go.wpOpIn
    cases ho : ops[i]? with
    | none => rw [ho] at h2; exact any_wide ht fuel _ a w h2
    | some o =>
      rw [ho] at h2
      dsimp only at h2 ⊢
      by_cases hw : Region.wanted o (yielded ops a.tmps) = true
      · rw [if_pos hw] at h2 ⊢
        rcases h2 with h2 | ⟨_, h2⟩
        · exact wp_wide (List.all_eq_true.1 ht o (List.mem_of_getElem? (i := i) (by simpa using ho))) (Oper.wp_mono (fun a w h => any_wide ht fuel _ a w h) h2)
        · exact (no_out h2).elim
      · rw [if_neg hw] at h2 ⊢
        exact ⟨fun _ _ => trivial, any_wide ht fuel _ _ w h2⟩
theorem wpIn_region_heads {id : Nat} {a : Act} {w : World} {l : List Oper} (ms : List Bool) (S : World → Prop) (hm : P.follows .mixedOrders = true) (hB : headsAll .any l.toArray ms = true) (ht : l.all tameB = true)
    (hS : S w.drew) (h : Heads P l.toArray (Norm Q) S ms l a w.drew) : (Code.region id l.toArray true).wpIn (Fence.wide.inRound lp) n P Q a w := by
  simp only [headsAll, Bool.and_eq_true, decide_eq_true_eq] at hB
  refine wpIn_region_any hm (any_wide (by simpa using ht) _ _ _ _ (Till.any (heads_till hB.1.1.1.1 hB.1.1.2 hB.1.2 hB.1.1.1.2 (fun _ _ _ _ _ h => h) ms l 0 _ a _ (fun j => by simp) (by omega) (by simp) ⟨by simp, ?_, ?_⟩ (by simpa using hB.2) hS h)))
  · intro j _ _ h1; rw [getD_replicate_false] at h1; cases h1
  · intro t _ h1; exact getD_in (by simpa using h1) (getD_replicate_false _ _)
theorem wpIn_region_picked {id : Nat} {a : Act} {w : World} {l : List Oper} (ms : List (Nat × Bool)) (S : World → Prop) (hm : P.follows .mixedOrders = true) (hB : (Region.noSelect l.toArray && decide (ms.length = l.length) && pickedB .any l.toArray ms (Array.replicate l.toArray.size false)) = true) (ht : l.all tameB = true)
    (hS : S w.drew) (h : Picked P l.toArray (Norm Q) S ms a w.drew) : (Code.region id l.toArray true).wpIn (Fence.wide.inRound lp) n P Q a w := by
  simp only [Bool.and_eq_true, decide_eq_true_eq] at hB
  have := picked_held (md := .any) hB.1.1 (fun _ _ _ _ _ h => h) ms _ a w.drew hB.2 hS h
  rw [hB.1.2] at this
  exact wpIn_region_any hm (any_wide (by simpa using ht) _ _ _ _ (wpAny_of_held _ _ _ _ this))
end
end Go.Proofs.YtpdbkjnaicjfdaaGreatDoor
