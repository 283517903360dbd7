/- A region that draws its order: reads, then one operation that makes memory, then a tail whose order is forced. The reads are taken in the order of the text; what they read need hold only until the tail begins: the tail may store into a cell that was read. Stands on the library's laws of a single operation (Derived.OrdersHeld) and of a forced tail (Derived.StillTail). -/
import Derived.Test.YthnaogdiiflljaaOpBase
import Derived.StillTail
import Derived.OrdersHeld
namespace Go.Proofs.Ythnaogdiiflljaa
open Go
set_option linter.unusedVariables false

section
variable {P : Program} {ops : Array Oper} {Q : Exit → Act → World → Prop} {md : Region.Mode} {S : World → Prop}

/-- Either the tail alone is left, and it is well whatever comes; or something of the head may come up, and behind each such S holds, and so on. -/
def Till (P : Program) (md : Region.Mode) (ops : Array Oper) (Q : Exit → Act → World → Prop) (S : World → Prop) (n : Nat) : Nat → Array Bool → Act → World → Prop
  | 0, got, a, w => (∀ j ∈ Region.ready md ops got, n ≤ j) ∧ wpAny P md ops Q 0 got a w
  | f + 1, got, a, w => ((∀ j ∈ Region.ready md ops got, n ≤ j) ∧ wpAny P md ops Q (f + 1) got a w) ∨
      (Region.ready md ops got ≠ [] ∧ ∀ j ∈ Region.ready md ops got, wpOp P ops Q j (fun a' w' => S w' ∧ Till P md ops Q S n f (got.setIfInBounds j true) a' w') a w)

theorem Till.any {n : Nat} : ∀ {f : Nat} {got : Array Bool} {a : Act} {w : World}, Till P md ops Q S n f got a w → wpAny P md ops Q f got a w
  | 0, _, _, _, h => h.2
  | _ + 1, _, _, _, .inl h => h.2
  | _ + 1, _, _, _, .inr h => ⟨fun h0 => absurd h0 h.1, fun j hj => wpOp_mono (fun _ _ k => k.2.any) (h.2 j hj)⟩

/-- Behind number i: if the tail alone is left, nothing of the head may come up; else what the right side says. -/
theorem Till.at {n f j : Nat} {got : Array Bool} {a : Act} {w : World} (h : Till P md ops Q S n f got a w) (hj : j ∈ Region.ready md ops got) (hjn : j < n) :
    ∃ g, f = g + 1 ∧ wpOp P ops Q j (fun a' w' => S w' ∧ Till P md ops Q S n g (got.setIfInBounds j true) a' w') a w := by
  match f, h with
  | 0, h => exact absurd (h.1 j hj) (by omega)
  | _ + 1, .inl h => exact absurd (h.1 j hj) (by omega)
  | g + 1, .inr h => exact ⟨g, rfl, h.2 j hj⟩

theorem free_more {got : Array Bool} {i j : Nat} (h : Region.free md ops got i = true) : Region.free md ops (got.setIfInBounds j true) i = true := by
  unfold Region.free at h ⊢
  split
  · rename_i h0; rw [h0] at h; exact h
  · rename_i oi h0
    rw [h0] at h
    refine List.all_eq_true.2 fun k hk => ?_
    have h1 := List.all_eq_true.1 h k hk
    by_cases hjk : j = k
    · subst hjk
      rcases Nat.lt_or_ge j got.size with h2 | h2
      · simp [h2]
      · simp [h2]
    · rw [getD_set_ne true hjk]; exact h1

/-- Number i of the head may be taken first. -/
theorem Till.take {n i : Nat} {o : Oper} {v : Value} (ho : ops[i]? = some o) (hsel : Region.noSelect ops = true) (hQ : ∀ c a w, Q (.panic c) (a.put o.dst v) w → Q (.panic c) a w)
    (hs : Region.sinkB md ops n = true) (hc : Region.chainB md ops n = true) (hn : n < ops.size) (hin : i < n) :
    ∀ (f : Nat) (got : Array Bool) (a : Act) (w : World), HeadInv md ops n got → Region.free md ops got i = true → i ∈ Region.ready md ops got → YieldsIf P ops S o v a → S w →
      Till P md ops Q S n f (got.setIfInBounds i true) (a.put o.dst v) w → Till P md ops Q S n (f + 1) got a w
  | f, got, a, w, inv, hf, hr, hy, hS, H => by
    refine .inr ⟨List.ne_nil_of_mem hr, fun j hj => ?_⟩
    by_cases hji : j = i
    · rw [hji]; exact hy.wpOp ho hS ⟨hS, H⟩
    have hi0 := (mem_ready.1 hr).1
    have hjn : j < n := Nat.lt_of_not_le fun h => tail_waits hs hc hn inv _ i rfl hin hi0 j h hj
    obtain ⟨g, rfl, hstep⟩ := H.at (ready_mono hj hji) hjn
    obtain ⟨hj0, p, hp, hwait⟩ := mem_ready.1 hj
    have hap : o.apart ops p = true := Region.free_spec ho hf j p hp hji hj0 fun e he hb hon => by simpa [hon, getD_both hi0] using hwait e he hb
    refine wpOp_mono (fun a' w' k => ⟨k.2.1, ?_⟩) (wpOp_putIf hp hap (fun cs b => Region.noSelect_spec hsel i o cs b ho) (fun cs b => Region.noSelect_spec hsel j p cs b hp) hQ hy hstep)
    exact Till.take ho hsel hQ hs hc hn hin g _ a' w' (inv.set hj hjn) (free_more hf) (ready_mono hr (Ne.symm hji)) k.1 k.2.1 (by rw [Array.setIfInBounds_comm _ _ hji]; exact k.2.2)

/-- The first c operations yield in every world that meets S; the next is carried out; the others follow in their order. -/
def readsN (P : Program) (ops : Array Oper) (Q : Exit → Act → World → Prop) (S : World → Prop) (w : World) : Nat → List Oper → Act → Prop
  | 0, o :: l, a => ∃ v w1, Region.wanted o (yielded ops a.tmps) = true ∧ (execOp a.eval o).run P w = .ok (.value v) w1 ∧ S w1 ∧ wpList P ops Q l (a.put o.dst v) w1
  | c + 1, o :: l, a => ∃ v, YieldsIf P ops S o v a ∧ readsN P ops Q S w c l (a.put o.dst v)
  | _, [], _ => False

theorem readsN.cons {w : World} {c : Nat} {o : Oper} {l : List Oper} {a : Act} (v : Value) (h1 : Region.wanted o (yielded ops a.tmps) = true) (h2 : ∀ w, S w → (execOp a.eval o).run P w = .ok (.value v) w)
    (h : readsN P ops Q S w c l (a.put o.dst v)) : readsN P ops Q S w (c + 1) (o :: l) a := ⟨v, .inl ⟨h1, h2⟩, h⟩
theorem readsN.done {w : World} {o : Oper} {l : List Oper} {a : Act} (v : Value) (w1 : World) (h1 : Region.wanted o (yielded ops a.tmps) = true) (h2 : (execOp a.eval o).run P w = .ok (.value v) w1) (h3 : S w1)
    (h : wpList P ops Q l (a.put o.dst v) w1) : readsN P ops Q S w 0 (o :: l) a := ⟨v, w1, h1, h2, h3, h⟩

theorem tail_of {o : Oper} {l : List Oper} {k : Nat} (hl : ∀ j, (o :: l)[j]? = ops[k + j]?) : ops[k]? = some o ∧ ∀ j, l[j]? = ops[k + 1 + j]? :=
  ⟨by simpa using (hl 0).symm, fun j => by have := hl (j + 1); rw [show k + 1 + j = k + (j + 1) by omega]; simpa using this⟩

theorem readsN.till {m : Nat} {w : World} (hsel : Region.noSelect ops = true) (hs : Region.sinkB md ops (m + 1) = true) (hc : Region.chainB md ops (m + 1) = true) (hn : m + 1 < ops.size)
    (hQ : ∀ c a d v w, Q (.panic c) (Act.put a d v) w → Q (.panic c) a w) (hS : S w) :
    ∀ (c : Nat) (l : List Oper) (k : Nat) (got : Array Bool) (a : Act), (∀ j, l[j]? = ops[k + j]?) → k + c = m → HeadInv md ops (m + 1) got →
    Region.lexHead md ops (l.length - c) c k got = true → readsN P ops Q S w c l a → Till P md ops Q S (m + 1) l.length got a w
  | c, [], _, _, _, _, _, _, _, h => by cases c <;> exact h.elim
  | 0, o :: l, k, got, a, hl, hk, inv, hB, ⟨v, w1, h1, h2, h3, h4⟩ => by
    obtain ⟨h0, hl'⟩ := tail_of hl
    simp only [List.length_cons, Nat.sub_zero, Region.lexHead, Region.seqB, Bool.and_eq_true, decide_eq_true_eq] at hB
    obtain ⟨hr, hB⟩ := hB
    refine .inr ⟨by rw [hr]; simp, fun j hj => ?_⟩
    obtain rfl : j = k := by rw [hr] at hj; simpa using hj
    have hlast : Till P md ops Q S (m + 1) l.length (got.setIfInBounds j true) (a.put o.dst v) w1 := by
      have h5 := wpAny_of_seq l (j + 1) _ _ _ hl' hB h4
      have h6 : ∀ i ∈ Region.ready md ops (got.setIfInBounds j true), m + 1 ≤ i := fun i hi => by have := seqB_ready hB i hi; omega
      generalize l.length = f at *
      cases f with
      | zero => exact ⟨h6, h5⟩
      | succ f => exact .inl ⟨h6, h5⟩
    unfold Go.wpOp
    simp only [h0, h1, if_true, Oper.wp, h2, Oper.upon]
    exact .inl ⟨h3, hlast⟩
  | c + 1, o :: l, k, got, a, hl, hk, inv, hB, ⟨v, hy, hK⟩ => by
    obtain ⟨h0, hl'⟩ := tail_of hl
    simp only [List.length_cons, Nat.add_sub_add_right, Region.lexHead, Bool.and_eq_true] at hB
    have hr : k ∈ Region.ready md ops got := by simpa using hB.1.1
    exact Till.take h0 hsel (fun c a w => hQ c a _ _ w) hs hc hn (by omega) _ got a w inv hB.1.2 hr hy hS (readsN.till hsel hs hc hn hQ hS c l (k + 1) _ _ hl' (by omega) (inv.set hr (by omega)) hB.2 hK)

/-- What the kernel reckons of the region: m reads, one more, and a forced tail. -/
def tillB (md : Region.Mode) (ops : Array Oper) (m : Nat) : Bool :=
  Region.noSelect ops && decide (m + 1 < ops.size) && Region.sinkB md ops (m + 1) && Region.chainB md ops (m + 1) && Region.lexHead md ops (ops.size - m) m 0 (Array.replicate ops.size false)

theorem wp_region_till {id : Nat} {a : Act} {w : World} {l : List Oper} (m : Nat) (S : World → Prop) (hm : P.follows .mixedOrders = true) (hB : tillB .any l.toArray m = true)
    (hQ : ∀ c a d v w, Q (.panic c) (Act.put a d v) w → Q (.panic c) a w) (hS : S w.drew) (h : readsN P l.toArray Q S w.drew m l a) : (Code.region id l.toArray true).wp P Q a w := by
  simp only [tillB, Bool.and_eq_true, decide_eq_true_eq] at hB
  refine wp_region_any hm (Till.any (readsN.till hB.1.1.1.1 hB.1.1.2 hB.1.2 hB.1.1.1.2 hQ hS m l 0 _ a (fun j => by simp) (by omega) ⟨by simp, ?_, ?_⟩ (by simpa using hB.2) h))
  · intro j _ _ h1; rw [getD_replicate_false] at h1; cases h1
  · intro t _ h1; exact getD_in (by simpa using h1) (getD_replicate_false _ _)
end
end Go.Proofs.Ythnaogdiiflljaa
