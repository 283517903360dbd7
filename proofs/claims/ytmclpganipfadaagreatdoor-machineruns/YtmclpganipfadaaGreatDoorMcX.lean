/- A region that draws its order and only reads, in whatever fence (a round of a loop over an iterator too): the order of the text serves every order. Stands on the library's Derived.Deep.Quiet. -/
import Derived.Test.YtmclpganipfadaaGreatDoorMcG
import Derived.Deep.Quiet
import Derived.OrdersIn
namespace Go.Proofs.YtmclpganipfadaaGreatDoor
open Go Go.RowKit
set_option linter.unusedVariables false

section
variable {F : Fence} {n : Nat} {P : Program} {md : Region.Mode} {ops : Array Oper}

def readsB (o : Oper) : Bool :=
  match o.op with
  | .move _ | .assign _ | .load _ _ | .binOp _ _ _ _ _ | .unOp _ _ _ | .fieldAddr _ _ _ | .indexAddr _ _ _ | .index _ _ _ | .pick _ _ _ | .extract _ _ | .build _ _ => true
  | _ => false
theorem reads_about {o : Oper} (h : readsB o = true) (w : World) (ρ : Operand → Value) : o.about P w ρ = none := by
  unfold readsB at h
  unfold Oper.about
  split at h <;> simp_all
theorem reads_sem {o : Oper} (h : readsB o = true) (r : Option Nat) (ρ : Operand → Value) : o.semAt r ρ = execOp ρ o :=
  Oper.semAt_eq r ρ o fun c e => by unfold readsB at h; rw [e] at h; cases h
theorem run_val {α : Type} (s : Sem α) (g : α → Value) (w : World) : ∀ (f : FuncId) (args : Array Value) (w' : World), (do let x ← s; pure (Next.value (g x)) : Sem Next).run P w ≠ .ok (.enter f args) w' := fun f args w' h => by
  simp only [Sem.run_bind, Sem.run_pure] at h
  cases hs : s.run P w with
  | ok u w2 => rw [hs] at h; simp only [Result.andThen_ok] at h; cases h
  | halt x w2 => rw [hs] at h; cases h
theorem reads_enter {o : Oper} (h : readsB o = true) (ρ : Operand → Value) (w : World) (f : FuncId) (args : Array Value) (w' : World) : (execOp ρ o).run P w ≠ .ok (.enter f args) w' := by
  intro e
  unfold readsB at h
  unfold execOp at e
  split at h
  case h_12 => cases h
  all_goals
    rename_i heq
    simp only [heq] at e
    first
      | (simp only [Sem.run_pure] at e; cases e)
      | exact run_val _ id _ _ _ _ e
      | exact run_val _ (fun b => if b = true then _ else _) _ _ _ _ e

theorem wpOpIn_of_reads {i : Nat} {a : Act} {w : World} {K : Act → Prop} {K' : Act → World → Prop} {Q' : Exit → Act → World → Prop} (hk : ∀ o, ops[i]? = some o → readsB o = true) (h : ∀ a, K a → K' a w) (hh : qOp P ops (fun w' => w' = w) i K a) : wpOpIn F n P ops Q' i K' a w := by
  unfold qOp at hh
  unfold wpOpIn
  split
  · rename_i ho; simp only [ho] at hh; exact h _ hh
  · rename_i o ho
    simp only [ho] at hh
    have hr := hk o ho
    have ha : ∀ f, o.about P w a.eval = some f → F.fn f := fun f e => by rw [reads_about hr] at e; cases e
    split
    · rename_i hw
      simp only [hw, if_true] at hh
      obtain ⟨v, h1, h2⟩ := hh
      have h3 := h1 w rfl
      unfold Oper.quietAt at h3
      refine ⟨ha, ?_⟩
      rw [reads_sem hr]
      have hne := fun f args w' => reads_enter (P := P) hr a.eval w f args w'
      generalize (execOp a.eval o).run P w = r at *
      cases r with
      | ok x w' =>
        cases x <;> simp only [Oper.quietUpon] at h3 <;> simp only [Oper.uponIn]
        case value u => obtain ⟨e1, e2⟩ := h3; rw [e1, e2]; exact h _ h2
        case skip => obtain ⟨e1, e2⟩ := h3; rw [e1, ← e2]; exact h _ h2
        case enter f args => exact absurd rfl (hne f args w')
      | halt x w' => simp only [Oper.quietUpon] at h3
    · rename_i hw
      simp only [hw] at hh
      exact ⟨ha, h _ hh⟩
theorem wpAnyIn_of_reads {Q : Act → Prop} {Q' : Exit → Act → World → Prop} {w : World} (hk : ∀ (i : Nat) o, ops[i]? = some o → readsB o = true) (hQ : ∀ a, Q a → Q' .normal a w) : ∀ (fuel : Nat) (listed : Array Bool) (a : Act),
    wpAnyQ P md ops (fun w' => w' = w) Q fuel listed a → wpAnyIn F n P md ops Q' fuel listed a w
  | 0, _, _, h => ⟨h.1, hQ _ h.2⟩
  | fuel + 1, _, _, h => ⟨fun h0 => hQ _ (h.1 h0), fun i hi => wpOpIn_of_reads (hk i) (fun a' => wpAnyIn_of_reads hk hQ fuel _ a') (h.2 i hi)⟩

theorem wpIn_region_reads {id : Nat} {a : Act} {w : World} {l : List Oper} {Q : Exit → Act → World → Prop} (hm : P.follows .mixedOrders = true) (hB : (Region.lexB .any l.toArray && l.all readsB) = true)
    (h : wpQuiet P l.toArray (fun w' => w' = w.drew) (fun a' => Q .normal a' w.drew) l a) : (Code.region id l.toArray true).wpIn F n P Q a w := by
  simp only [Bool.and_eq_true, Region.lexB] at hB
  refine wpIn_region_any hm (wpAnyIn_of_reads (Q := fun a' => Q .normal a' w.drew) (fun i o ho => ?_) (fun a h => h) _ _ _ ?_)
  · have : o ∈ l := List.mem_of_getElem? (i := i) (by simpa using ho)
    exact List.all_eq_true.1 hB.2 o this
  · have := wpAnyQ_lex (md := .any) hB.1.1 l 0 (Array.replicate l.toArray.size false) a (by simp) (by simpa using hB.1.2) h
    simpa using this
theorem quiet_take {C : World → Prop} {Q : Act → Prop} {o : Oper} {rest : List Oper} {a : Act} (v : Value) (hw : Region.wanted o (yielded ops a.tmps) = true) (h : ∀ w, C w → (execOp a.eval o).run P w = .ok (.value v) w)
    (hn : wpQuiet P ops C Q rest (a.put o.dst v)) : wpQuiet P ops C Q (o :: rest) a := by
  unfold wpQuiet
  rw [if_pos hw]
  exact ⟨v, fun w hC => by unfold Oper.quietAt; rw [h w hC]; exact ⟨rfl, rfl⟩, hn⟩
theorem quiet_pass {C : World → Prop} {Q : Act → Prop} {o : Oper} {rest : List Oper} {a : Act} (hw : Region.wanted o (yielded ops a.tmps) = false) (hn : wpQuiet P ops C Q rest (a.put o.dst undef)) : wpQuiet P ops C Q (o :: rest) a := by
  unfold wpQuiet
  rw [if_neg (by rw [hw]; decide)]
  exact hn

/-! ### A region that reads and writes, in whatever fence: every order walked -/

def plainB (o : Oper) : Bool :=
  readsB o || (match o.op with
  | .store _ _ _ => true
  | _ => false)
theorem plain_about {o : Oper} (h : plainB o = true) (w : World) (ρ : Operand → Value) : o.about P w ρ = none := by
  unfold plainB at h
  rw [Bool.or_eq_true] at h
  rcases h with h | h
  · exact reads_about h w ρ
  · unfold Oper.about
    split at h <;> simp_all
theorem plain_sem {o : Oper} (h : plainB o = true) (r : Option Nat) (ρ : Operand → Value) : o.semAt r ρ = execOp ρ o :=
  Oper.semAt_eq r ρ o fun c e => by unfold plainB readsB at h; rw [e] at h; cases h
/-- Operation k comes up, and K holds behind it. -/
def GoesI (P : Program) (ops : Array Oper) (k : Nat) (K : Act → World → Prop) (a : Act) (w : World) : Prop :=
  ∃ o, ops[k]? = some o ∧ Region.wanted o (yielded ops a.tmps) = true ∧ plainB o = true ∧ ((∃ v, (execOp a.eval o).run P w = .ok (.value v) w ∧ K (a.put o.dst v) w) ∨ ∃ w', (execOp a.eval o).run P w = .ok .skip w' ∧ K (a.put o.dst undef) w')
theorem GoesI.ask {k : Nat} {K : Act → World → Prop} {o : Oper} {a : Act} {w : World} (v : Value) (h0 : ops[k]? = some o) (h1 : Region.wanted o (yielded ops a.tmps) = true) (hp : plainB o = true) (h2 : (execOp a.eval o).run P w = .ok (.value v) w) (hK : K (a.put o.dst v) w) : GoesI P ops k K a w := ⟨o, h0, h1, hp, .inl ⟨v, h2, hK⟩⟩
theorem GoesI.skip {k : Nat} {K : Act → World → Prop} {o : Oper} {a : Act} {w w' : World} (h0 : ops[k]? = some o) (h1 : Region.wanted o (yielded ops a.tmps) = true) (hp : plainB o = true) (hd : o.dst = none) (h2 : (execOp a.eval o).run P w = .ok .skip w') (hK : K a w') : GoesI P ops k K a w := ⟨o, h0, h1, hp, .inr ⟨w', h2, by rw [hd]; exact hK⟩⟩
theorem GoesI.op {Q : Exit → Act → World → Prop} {k : Nat} {K : Act → World → Prop} {a : Act} {w : World} (h : GoesI P ops k K a w) : wpOpIn F n P ops Q k K a w := by
  obtain ⟨o, h0, h1, hp, h⟩ := h
  unfold wpOpIn
  simp only [h0, h1, if_true]
  refine ⟨fun f e => (by rw [plain_about hp] at e; cases e), ?_⟩
  rw [plain_sem hp]
  rcases h with ⟨v, e, hK⟩ | ⟨w', e, hK⟩
  · rw [e]; exact hK
  · rw [e]; exact hK
theorem GoesI.mono {k : Nat} {K K' : Act → World → Prop} {a : Act} {w : World} (h : GoesI P ops k K a w) (hk : ∀ a w, K a w → K' a w) : GoesI P ops k K' a w := by
  obtain ⟨o, h0, h1, hp, h⟩ := h
  exact ⟨o, h0, h1, hp, h.imp (fun ⟨v, e, q⟩ => ⟨v, e, hk _ _ q⟩) (fun ⟨w', e, q⟩ => ⟨w', e, hk _ _ q⟩)⟩
def ForkedI (P : Program) (ops : Array Oper) (Q : Exit → Act → World → Prop) : Plan → Act → World → Prop
  | .done, a, w => Q .normal a w
  | .take k p, a, w => GoesI P ops k (ForkedI P ops Q p) a w
  | .one k p, a, w => GoesI P ops k (ForkedI P ops Q p) a w
  | .two k p k' p', a, w => GoesI P ops k (ForkedI P ops Q p) a w ∧ GoesI P ops k' (ForkedI P ops Q p') a w
  | .three k p k' p' k2 p2, a, w => GoesI P ops k (ForkedI P ops Q p) a w ∧ GoesI P ops k' (ForkedI P ops Q p') a w ∧ GoesI P ops k2 (ForkedI P ops Q p2) a w
theorem forkedI_done {Q : Exit → Act → World → Prop} {a : Act} {w : World} (h : Q .normal a w) : ForkedI P ops Q .done a w := h
def Plan.fitsI (md : Region.Mode) (ops : Array Oper) : Plan → Array Bool → Bool
  | .done, got => (Region.ready md ops got).isEmpty
  | .take k p, got => decide (Region.ready md ops got = [k]) && p.fitsI md ops (got.setIfInBounds k true)
  | .one k p, got => decide (Region.ready md ops got = [k]) && p.fitsI md ops (got.setIfInBounds k true)
  | .two k p k' p', got => decide (Region.ready md ops got = [k, k']) && (p.fitsI md ops (got.setIfInBounds k true) && p'.fitsI md ops (got.setIfInBounds k' true))
  | .three k p k' p' k2 p2, got => decide (Region.ready md ops got = [k, k', k2]) && (p.fitsI md ops (got.setIfInBounds k true) && (p'.fitsI md ops (got.setIfInBounds k' true) && p2.fitsI md ops (got.setIfInBounds k2 true)))
theorem anyIn_done {Q : Exit → Act → World → Prop} {listed : Array Bool} {a : Act} {w : World} (hr : Region.ready md ops listed = []) (h : Q .normal a w) : ∀ fuel, wpAnyIn F n P md ops Q fuel listed a w
  | 0 => ⟨hr, h⟩
  | _ + 1 => ⟨fun _ => h, by rw [hr]; simp⟩
theorem forked_in {Q : Exit → Act → World → Prop} : ∀ (p : Plan) (fuel : Nat) (got : Array Bool) (a : Act) (w : World), p.depth ≤ fuel → p.fitsI md ops got = true → ForkedI P ops Q p a w → wpAnyIn F n P md ops Q fuel got a w
  | .done, fuel, got, a, w, _, hB, h => anyIn_done (by simpa [Plan.fitsI] using hB) h fuel
  | .take k p, fuel, got, a, w, hd, hB, h => by
    obtain ⟨f, rfl⟩ : ∃ f, fuel = f + 1 := ⟨fuel - 1, by simp only [Plan.depth] at hd; omega⟩
    simp only [Plan.fitsI, Bool.and_eq_true, decide_eq_true_eq] at hB
    simp only [Plan.depth] at hd
    refine wpAnyIn_all hB.1 (by simp) fun i hi => ?_
    obtain rfl : i = k := by simpa using hi
    exact (GoesI.mono h fun a w h => forked_in p f _ a w (by omega) hB.2 h).op
  | .one k p, fuel, got, a, w, hd, hB, h => by
    obtain ⟨f, rfl⟩ : ∃ f, fuel = f + 1 := ⟨fuel - 1, by simp only [Plan.depth] at hd; omega⟩
    simp only [Plan.fitsI, Bool.and_eq_true, decide_eq_true_eq] at hB
    simp only [Plan.depth] at hd
    refine wpAnyIn_all hB.1 (by simp) fun i hi => ?_
    obtain rfl : i = k := by simpa using hi
    exact (GoesI.mono h fun a w h => forked_in p f _ a w (by omega) hB.2 h).op
  | .two k p k' p', fuel, got, a, w, hd, hB, ⟨h1, h2⟩ => by
    obtain ⟨f, rfl⟩ : ∃ f, fuel = f + 1 := ⟨fuel - 1, by simp only [Plan.depth] at hd; omega⟩
    simp only [Plan.fitsI, Bool.and_eq_true, decide_eq_true_eq] at hB
    simp only [Plan.depth] at hd
    refine wpAnyIn_all hB.1 (by simp) fun i hi => ?_
    have hi' : i = k ∨ i = k' := by simpa using hi
    rcases hi' with rfl | rfl
    · exact (GoesI.mono h1 fun a w h => forked_in p f _ a w (by omega) hB.2.1 h).op
    · exact (GoesI.mono h2 fun a w h => forked_in p' f _ a w (by omega) hB.2.2 h).op
  | .three k p k' p' k2 p2, fuel, got, a, w, hd, hB, ⟨h1, h2, h3⟩ => by
    obtain ⟨f, rfl⟩ : ∃ f, fuel = f + 1 := ⟨fuel - 1, by simp only [Plan.depth] at hd; omega⟩
    simp only [Plan.fitsI, Bool.and_eq_true, decide_eq_true_eq] at hB
    simp only [Plan.depth] at hd
    refine wpAnyIn_all hB.1 (by simp) fun i hi => ?_
    have hi' : i = k ∨ i = k' ∨ i = k2 := by simpa using hi
    rcases hi' with rfl | rfl | rfl
    · exact (GoesI.mono h1 fun a w h => forked_in p f _ a w (by omega) hB.2.1 h).op
    · exact (GoesI.mono h2 fun a w h => forked_in p' f _ a w (by omega) hB.2.2.1 h).op
    · exact (GoesI.mono h3 fun a w h => forked_in p2 f _ a w (by omega) hB.2.2.2 h).op
theorem wpIn_region_forked {id : Nat} {a : Act} {w : World} {l : List Oper} {Q : Exit → Act → World → Prop} (p : Plan) (hm : P.follows .mixedOrders = true) (hB : (decide (p.depth ≤ l.length) && p.fitsI .any l.toArray (Array.replicate l.toArray.size false)) = true)
    (h : ForkedI P l.toArray Q p a w.drew) : (Code.region id l.toArray true).wpIn F n P Q a w := by
  simp only [Bool.and_eq_true, decide_eq_true_eq] at hB
  exact wpIn_region_any hm (forked_in p _ _ a w.drew (by simpa using hB.1) hB.2 h)
end
end Go.Proofs.YtmclpganipfadaaGreatDoor
