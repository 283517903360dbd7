/- Texts of earlier stages over this seat, joined: SePk. -/
import Derived.Test.YtpdbkjnaicjfdaaGreatDoorGb
import Derived.OrdersHeld
import Derived.WalkKit
set_option maxRecDepth 100000
namespace Go.Proofs.YtpdbkjnaicjfdaaGreatDoor
open Go
set_option linter.unusedVariables false

section
variable {P : Program} {ops : Array Oper} {Q : Exit → Act → World → Prop} {md : Region.Mode} {S : World → Prop}

def Picked (P : Program) (ops : Array Oper) (Q : Exit → Act → World → Prop) (S : World → Prop) : List (Nat × Bool) → Act → World → Prop
  | [], a, w => Q .normal a w
  | (k, true) :: ms, a, w => ∃ o v, ops[k]? = some o ∧ YieldsIf P ops S o v a ∧ Picked P ops Q S ms (a.put o.dst v) w
  | (k, false) :: ms, a, w => ∃ o, ops[k]? = some o ∧ Region.wanted o (yielded ops a.tmps) = true ∧ o.wp P a w (fun a' w' => S w' ∧ Picked P ops Q S ms a' w') Q

theorem Picked.take {ms : List (Nat × Bool)} {k : Nat} {o : Oper} {a : Act} {w : World} (v : Value) (h0 : ops[k]? = some o) (h1 : Region.wanted o (yielded ops a.tmps) = true) (h2 : ∀ w, S w → (execOp a.eval o).run P w = .ok (.value v) w)
    (h : Picked P ops Q S ms (a.put o.dst v) w) : Picked P ops Q S ((k, true) :: ms) a w := ⟨o, v, h0, .inl ⟨h1, h2⟩, h⟩
theorem Picked.make {ms : List (Nat × Bool)} {k : Nat} {o : Oper} {a : Act} {w w1 : World} (v : Value) (h0 : ops[k]? = some o) (h1 : Region.wanted o (yielded ops a.tmps) = true) (h2 : (execOp a.eval o).run P w = .ok (.value v) w1) (hS : S w1)
    (h : Picked P ops Q S ms (a.put o.dst v) w1) : Picked P ops Q S ((k, false) :: ms) a w := by
  refine ⟨o, h0, h1, ?_⟩
  simp only [Oper.wp, h2, Oper.upon]
  exact ⟨hS, h⟩
theorem Picked.call {ms : List (Nat × Bool)} {k : Nat} {o : Oper} {a : Act} {w : World} (f : FuncId) (args : Array Value) (h0 : ops[k]? = some o) (h1 : Region.wanted o (yielded ops a.tmps) = true) (h2 : (execOp a.eval o).run P w = .ok (.enter f args) w)
    (h : Calls P f args w fun e w' => ∃ v, e = .returned v ∧ S w' ∧ Picked P ops Q S ms (a.put o.dst v) w') : Picked P ops Q S ((k, false) :: ms) a w := by
  refine ⟨o, h0, h1, ?_⟩
  simp only [Oper.wp, h2, Oper.upon]
  refine h.mono ?_
  rintro e w' ⟨v, rfl, hS', h'⟩
  exact ⟨hS', h'⟩

theorem exec_make {a : Act} {o : Oper} {w w' : World} (t : TypeId) (l c : Operand) (vl vc v : Value) (ho : o.op = .makeSlice t l c) (hl : a.eval l = vl) (hc : a.eval c = vc) (hr : (Instr.makeSlice t vl vc).run P w = .ok v w') : (execOp a.eval o).run P w = .ok (.value v) w' := by
  unfold execOp
  simp only [ho, hl, hc, Sem.run_bind, Sem.run_pure, Result.andThen_ok, hr]
theorem exec_app {a : Act} {o : Oper} {w w' : World} (t : TypeId) (s x : Operand) (vs vx v : Value) (ho : o.op = .call { callee := .builtin .append, args := #[s, x], argTypes := #[t, t] }) (hs : a.eval s = vs) (hx : a.eval x = vx) (hr : (Builtin.append_ #[t, t] o.type #[vs, vx]).run P w = .ok v w') : (execOp a.eval o).run P w = .ok (.value v) w' := by
  unfold execOp
  simp only [ho, resolve, invoke, builtin, Sem.run_bind, Sem.run_pure, Result.andThen_ok, List.map_toArray, List.map_cons, List.map_nil, hs, hx, hr]

def pickedB (md : Region.Mode) (ops : Array Oper) : List (Nat × Bool) → Array Bool → Bool
  | [], got => (Region.ready md ops got).isEmpty
  | (k, true) :: ms, got => (Region.ready md ops got).contains k && Region.free md ops got k && pickedB md ops ms (got.setIfInBounds k true)
  | (k, false) :: ms, got => decide (Region.ready md ops got = [k]) && pickedB md ops ms (got.setIfInBounds k true)

theorem picked_held (hsel : Region.noSelect ops = true) (hQ : ∀ c a d v w, Q (.panic c) (Act.put a d v) w → Q (.panic c) a w) :
    ∀ (ms : List (Nat × Bool)) (got : Array Bool) (a : Act) (w : World), pickedB md ops ms got = true → S w → Picked P ops Q S ms a w → wpAnyH P md ops Q S ms.length got a w
  | [], got, a, w, hB, _, h => ⟨by simpa [pickedB] using hB, h⟩
  | (k, true) :: ms, got, a, w, hB, hS, ⟨o, v, h0, hy, h⟩ => by
    simp only [pickedB, Bool.and_eq_true] at hB
    exact wpAnyH_take h0 hsel hB.1.2 hB.1.1 (fun c a w => hQ c a _ _ w) hy hS (picked_held hsel hQ ms _ _ _ hB.2 hS h)
  | (k, false) :: ms, got, a, w, hB, hS, ⟨o, h0, h1, h⟩ => by
    simp only [pickedB, Bool.and_eq_true, decide_eq_true_eq] at hB
    refine wpAnyH_all hB.1 (by simp) fun i hi => ?_
    obtain rfl : i = k := by simpa using hi
    unfold Go.wpOp
    simp only [h0, h1, if_true]
    exact .inl (Oper.wp_mono (fun a' w' q => ⟨q.1, picked_held hsel hQ ms _ _ _ hB.2 q.1 q.2⟩) h)

theorem wp_region_picked {id : Nat} {a : Act} {w : World} {l : List Oper} (ms : List (Nat × Bool)) (S : World → Prop) (hm : P.follows .mixedOrders = true) (hB : (Region.noSelect l.toArray && decide (ms.length = l.length) && pickedB .any l.toArray ms (Array.replicate l.toArray.size false)) = true)
    (hQ : ∀ c a d v w, Q (.panic c) (Act.put a d v) w → Q (.panic c) a w) (hS : S w.drew) (h : Picked P l.toArray Q S ms a w.drew) : (Code.region id l.toArray true).wp P Q a w := by
  simp only [Bool.and_eq_true, decide_eq_true_eq] at hB
  have := picked_held (md := .any) hB.1.1 hQ ms _ a w.drew hB.2 hS h
  rw [hB.1.2] at this
  exact wp_region_held hm this
end
end Go.Proofs.YtpdbkjnaicjfdaaGreatDoor
