/- Texts of earlier stages over this seat, joined: SePlain SeA SeB SeC SeD SeE SeF SeI SeJ SeK SeL. -/
import Derived.Test.YtmclpganipfadaaGreatDoorJbC
set_option maxRecDepth 100000
namespace Go.Proofs.YtmclpganipfadaaGreatDoor
open Go.RowKit
set_option linter.unusedVariables false

def Rise (l : List Int) : Prop := l.Pairwise (· < ·)
theorem rise_nil : Rise [] := List.Pairwise.nil
theorem rise_cons {a : Int} {r : List Int} : Rise (a :: r) ↔ (∀ y ∈ r, a < y) ∧ Rise r := List.pairwise_cons
theorem rise_iff (l : List Int) : riseB 1 l = true ↔ Rise l := by
  unfold riseB riseTo Rise
  rw [List.all_eq_true, List.pairwise_iff_getElem]
  constructor
  · intro h i j hi hj hij
    have step : ∀ k, (hk : k + 1 < l.length) → l[k] < l[k + 1] := by
      intro k hk
      have := h k (List.mem_range.2 (by omega))
      simp only [Nat.mul_one, Bool.or_eq_true, decide_eq_true_eq] at this
      rcases this with h1 | h1
      · omega
      · rwa [List.getElem?_eq_getElem (by omega), List.getElem?_eq_getElem hk] at h1
    obtain ⟨d, rfl⟩ : ∃ d, j = i + 1 + d := ⟨j - i - 1, by omega⟩
    clear hij
    induction d with
    | zero => exact step i hj
    | succ d ih => exact Int.lt_trans (ih (by omega) (by omega)) (step (i + 1 + d) hj)
  · intro h j hj
    have hj := List.mem_range.1 hj
    simp only [Nat.mul_one, Bool.or_eq_true, decide_eq_true_eq]
    by_cases h1 : l.length ≤ j + 1
    · exact .inl h1
    · refine .inr ?_
      rw [List.getElem?_eq_getElem hj, List.getElem?_eq_getElem (by omega)]
      exact h j (j + 1) hj (by omega) (by omega)
theorem rise_ext : ∀ {l m : List Int}, Rise l → Rise m → (∀ y, y ∈ l ↔ y ∈ m) → l = m
  | [], [], _, _, _ => rfl
  | [], b :: s, _, _, h => absurd ((h b).2 (by simp)) (by simp)
  | a :: r, [], _, _, h => absurd ((h a).1 (by simp)) (by simp)
  | a :: r, b :: s, hl, hm, h => by
    obtain ⟨ha, hr⟩ := rise_cons.1 hl
    obtain ⟨hb, hs⟩ := rise_cons.1 hm
    have e : a = b := by
      have h1 := (h a).1 (by simp)
      have h2 := (h b).2 (by simp)
      rcases List.mem_cons.1 h1 with h1 | h1
      · exact h1
      · rcases List.mem_cons.1 h2 with h2 | h2
        · exact h2.symm
        · have := hb a h1; have := ha b h2; omega
    subst e
    rw [rise_ext hr hs]
    intro y
    have := h y
    simp only [List.mem_cons] at this
    constructor
    · intro hy
      rcases this.1 (.inr hy) with e | h3
      · have := ha y hy; omega
      · exact h3
    · intro hy
      rcases this.2 (.inr hy) with e | h3
      · have := hb y hy; omega
      · exact h3

/-- How many are less than x. -/
def low (l : List Int) (x : Int) : Nat := l.countP fun y => decide (y < x)
theorem low_le (l : List Int) (x : Int) : low l x ≤ l.length := List.countP_le_length
theorem low_at {x : Int} : ∀ {l : List Int}, Rise l → ∀ j, j < l.length → (l[j]?.getD 0 < x ↔ j < low l x)
  | [], _, j, hj => by simp at hj
  | a :: r, h, j, hj => by
    obtain ⟨ha, hr⟩ := rise_cons.1 h
    by_cases hx : a < x
    · have e : low (a :: r) x = low r x + 1 := by unfold low; rw [List.countP_cons_of_pos (by simpa using hx)]
      rw [e]
      cases j with
      | zero => simp [hx]
      | succ j =>
        have := low_at (x := x) hr j (by simpa using hj)
        simp only [List.getElem?_cons_succ]
        rw [this]; omega
    · have e0 : low r x = 0 := by
        unfold low
        rw [List.countP_eq_zero]
        intro y hy
        have := ha y hy
        simp; omega
      have e : low (a :: r) x = 0 := by unfold low at *; rw [List.countP_cons_of_neg (by simpa using hx)]; exact e0
      rw [e]
      constructor
      · intro h1
        cases j with
        | zero => simp at h1; omega
        | succ j =>
          have hj' : j < r.length := by simpa using hj
          have := ha _ (List.getElem_mem hj')
          simp only [List.getElem?_cons_succ, List.getElem?_eq_getElem hj', Option.getD_some] at h1
          omega
      · intro h1; omega
def isIn (l : List Int) (x : Int) : Bool := l.contains x
theorem isIn_iff {l : List Int} {x : Int} : isIn l x = true ↔ x ∈ l := by simp [isIn]
theorem isIn_no {l : List Int} {x : Int} : isIn l x = false ↔ x ∉ l := by rw [← isIn_iff]; simp
theorem isIn_eq {l m : List Int} {x y : Int} (h : x ∈ l ↔ y ∈ m) : isIn l x = isIn m y := by
  cases e : isIn m y
  · rw [isIn_no] at e ⊢; exact fun h1 => e (h.1 h1)
  · rw [isIn_iff] at e ⊢; exact h.2 e
theorem isIn_at {l : List Int} (h : Rise l) (x : Int) : isIn l x = (decide (low l x < l.length) && (l[low l x]?.getD 0 == x)) := by
  by_cases hl : low l x < l.length
  · rw [decide_eq_true hl, Bool.true_and]
    cases e : (l[low l x]?.getD 0 == x)
    · rw [isIn_no]
      intro hx
      obtain ⟨j, hj, rfl⟩ := List.mem_iff_getElem.1 hx
      rw [beq_eq_false_iff_ne] at e
      have h1 := low_at (x := l[j]) h j hj
      have h2 := low_at (x := l[j]) h (low l l[j]) hl
      rw [List.getElem?_eq_getElem hj] at h1
      simp only [Option.getD_some, Int.lt_irrefl, false_iff, Nat.not_lt] at h1
      rw [List.getElem?_eq_getElem hl, Option.getD_some] at h2 e
      simp only [Nat.lt_irrefl, iff_false, Int.not_lt] at h2
      have h3 := List.pairwise_iff_getElem.1 h (low l l[j]) j hl hj
      rcases Nat.lt_or_ge (low l l[j]) j with h4 | h4
      · have := h3 h4; omega
      · exact e (by congr 1; omega)
    · rw [isIn_iff]
      rw [beq_iff_eq, List.getElem?_eq_getElem hl] at e
      exact e ▸ List.getElem_mem hl
  · rw [decide_eq_false hl, Bool.false_and, isIn_no]
    intro hx
    obtain ⟨j, hj, rfl⟩ := List.mem_iff_getElem.1 hx
    have := (low_at (x := l[j]) h j hj).2 (by omega)
    rw [List.getElem?_eq_getElem hj] at this
    simp at this
theorem take_low {l : List Int} (h : Rise l) (x : Int) : ∀ y ∈ l.take (low l x), y < x := by
  intro y hy
  obtain ⟨j, hj, rfl⟩ := List.mem_iff_getElem.1 hy
  rw [List.length_take] at hj
  have := (low_at (x := x) h j (by omega)).2 (by omega)
  rw [List.getElem?_eq_getElem (by omega), Option.getD_some] at this
  rw [List.getElem_take]; exact this
theorem drop_low {l : List Int} (h : Rise l) (x : Int) : ∀ y ∈ l.drop (low l x), x ≤ y := by
  intro y hy
  obtain ⟨j, hj, rfl⟩ := List.mem_iff_getElem.1 hy
  rw [List.length_drop] at hj
  have := (low_at (x := x) h (low l x + j) (by omega))
  rw [List.getElem?_eq_getElem (by omega), Option.getD_some] at this
  rw [List.getElem_drop]
  rcases Int.lt_or_le l[low l x + j] x with h1 | h1
  · have := this.1 h1; omega
  · exact h1
theorem mem_parts (l : List Int) (k : Nat) (y : Int) : y ∈ l ↔ y ∈ l.take k ∨ y ∈ l.drop k := by
  rw [← List.mem_append, List.take_append_drop]

def withL (l : List Int) (x : Int) : List Int := if isIn l x = true then l else l.take (low l x) ++ x :: l.drop (low l x)
def outL (l : List Int) (x : Int) : List Int := if isIn l x = true then l.take (low l x) ++ l.drop (low l x + 1) else l
theorem mem_with {l : List Int} {x y : Int} : y ∈ withL l x ↔ y = x ∨ y ∈ l := by
  unfold withL; split
  · next h =>
    have := isIn_iff.1 h
    constructor
    · exact .inr
    · rintro (rfl | h)
      · exact this
      · exact h
  · rw [mem_parts l (low l x) y, List.mem_append, List.mem_cons]
    constructor
    · rintro (h | h | h)
      · exact .inr (.inl h)
      · exact .inl h
      · exact .inr (.inr h)
    · rintro (h | h | h)
      · exact .inr (.inl h)
      · exact .inl h
      · exact .inr (.inr h)
theorem with_rise {l : List Int} (h : Rise l) (x : Int) : Rise (withL l x) := by
  unfold withL; split
  · exact h
  · next hn =>
    have hn : x ∉ l := by rw [← isIn_iff]; exact hn
    have ht := take_low h x
    have hd := drop_low h x
    unfold Rise
    rw [List.pairwise_append, List.pairwise_cons]
    refine ⟨h.sublist (List.take_sublist _ _), ⟨fun y hy => ?_, h.sublist (List.drop_sublist _ _)⟩, fun a ha b hb => ?_⟩
    · have h1 := hd y hy
      have : y ≠ x := fun e => hn (e ▸ List.mem_of_mem_drop hy)
      omega
    · have h1 := ht a ha
      rcases List.mem_cons.1 hb with rfl | hb
      · exact h1
      · have h2 := hd b hb; omega
theorem len_with (l : List Int) (x : Int) : (withL l x).length = l.length + (if isIn l x = true then 0 else 1) := by
  unfold withL; split
  · rfl
  · have := low_le l x
    rw [List.length_append, List.length_take, List.length_cons, List.length_drop]; omega
/-- Where x is, it stands at its place. -/
theorem cut_low {l : List Int} (h : Rise l) {x : Int} (hx : isIn l x = true) : low l x < l.length ∧ l.drop (low l x) = x :: l.drop (low l x + 1) := by
  have e := isIn_at h x
  rw [hx] at e
  have e := e.symm
  rw [Bool.and_eq_true, decide_eq_true_eq, beq_iff_eq] at e
  obtain ⟨h1, h2⟩ := e
  refine ⟨h1, ?_⟩
  rw [List.getElem?_eq_getElem h1, Option.getD_some] at h2
  rw [List.drop_eq_getElem_cons h1, h2]
theorem mem_out {l : List Int} (h : Rise l) {x y : Int} : y ∈ outL l x ↔ y ∈ l ∧ y ≠ x := by
  unfold outL; split
  · next hx =>
    obtain ⟨h1, h2⟩ := cut_low h hx
    have ht := take_low h x
    have hd : Rise (l.drop (low l x)) := h.sublist (List.drop_sublist _ _)
    rw [mem_parts l (low l x) y, h2, List.mem_append, List.mem_cons]
    rw [h2] at hd
    have hd := (rise_cons.1 hd).1
    constructor
    · rintro (h3 | h3)
      · exact ⟨.inl h3, by have := ht y h3; omega⟩
      · exact ⟨.inr (.inr h3), by have := hd y h3; omega⟩
    · rintro ⟨h3 | h3 | h3, h4⟩
      · exact .inl h3
      · exact absurd h3 h4
      · exact .inr h3
  · next hx =>
    have hx : x ∉ l := by rw [← isIn_iff]; exact hx
    exact ⟨fun h1 => ⟨h1, fun e => hx (e ▸ h1)⟩, fun h1 => h1.1⟩
theorem out_rise {l : List Int} (h : Rise l) (x : Int) : Rise (outL l x) := by
  unfold outL; split
  · next hx =>
    obtain ⟨h1, h2⟩ := cut_low h hx
    have : Rise (l.take (low l x) ++ l.drop (low l x)) := by rw [List.take_append_drop]; exact h
    rw [h2] at this
    exact this.sublist (List.Sublist.append (List.Sublist.refl _) (List.sublist_cons_self _ _))
  · exact h
theorem len_out {l : List Int} (h : Rise l) (x : Int) : (outL l x).length + (if isIn l x = true then 1 else 0) = l.length := by
  unfold outL
  cases hx : isIn l x
  · simp
  · have h1 := (cut_low h hx).1
    simp only [if_true]
    rw [List.length_append, List.length_take, List.length_drop]; omega

/-- The document's With, number by number: has x been put, and what there is so far. -/
def rwStep (x : Int) (s : Bool × List Int) (y : Int) : Bool × List Int :=
  (s.1 || decide (x ≤ y), (if (!s.1 && decide (x ≤ y)) = true then s.2 ++ [x] else s.2) ++ (if y = x then [] else [y]))
def rwRun (x : Int) (l : List Int) : Bool × List Int := l.foldl (rwStep x) (false, [])
def rwithL (l : List Int) (x : Int) : List Int := if (rwRun x l).1 = true then (rwRun x l).2 else (rwRun x l).2 ++ [x]
theorem rw_snoc (x : Int) (l : List Int) (k : Nat) (h : k < l.length) : rwRun x (l.take (k + 1)) = rwStep x (rwRun x (l.take k)) (l[k]?.getD 0) := by
  unfold rwRun
  rw [take_snoc l k h, List.foldl_append, List.getElem?_eq_getElem h]; rfl
def outF (l : List Int) (x : Int) : List Int := l.flatMap fun y => if y = x then [] else [y]
theorem outF_snoc (x : Int) (l : List Int) (k : Nat) (h : k < l.length) : outF (l.take (k + 1)) x = outF (l.take k) x ++ (if l[k]?.getD 0 = x then [] else [l[k]?.getD 0]) := by
  unfold outF
  rw [take_snoc l k h, List.flatMap_append, List.getElem?_eq_getElem h]; simp
theorem mem_outF {l : List Int} {x y : Int} : y ∈ outF l x ↔ y ∈ l ∧ y ≠ x := by
  unfold outF
  rw [List.mem_flatMap]
  constructor
  · rintro ⟨a, ha, h⟩
    split at h
    · cases h
    · next hne => obtain rfl := List.mem_singleton.1 h; exact ⟨ha, hne⟩
  · rintro ⟨h, hne⟩
    exact ⟨y, h, by rw [if_neg hne]; simp⟩
theorem outF_cons (a : Int) (r : List Int) (x : Int) : outF (a :: r) x = (if a = x then [] else [a]) ++ outF r x := by unfold outF; rw [List.flatMap_cons]
theorem outF_rise {x : Int} : ∀ {l : List Int}, Rise l → Rise (outF l x)
  | [], _ => rise_nil
  | a :: r, h => by
    obtain ⟨ha, hr⟩ := rise_cons.1 h
    rw [outF_cons]
    split
    · exact outF_rise hr
    · exact rise_cons.2 ⟨fun y hy => ha y (mem_outF.1 hy).1, outF_rise hr⟩
theorem outF_eq {l : List Int} (h : Rise l) (x : Int) : outF l x = outL l x := rise_ext (outF_rise h) (out_rise h x) fun y => by rw [mem_outF, mem_out h]
theorem outF_le (l : List Int) (x : Int) : (outF l x).length ≤ l.length := by
  induction l with
  | nil => simp [outF]
  | cons a r ih => rw [outF_cons, List.length_append, List.length_cons]; split <;> simp <;> omega
def insL (x : Int) : List Int → List Int
  | [] => [x]
  | y :: r => if y < x then y :: insL x r else x :: outF (y :: r) x
theorem rw_true (x : Int) : ∀ (l : List Int) (o : List Int), l.foldl (rwStep x) (true, o) = (true, o ++ outF l x)
  | [], o => by simp [outF]
  | y :: r, o => by
    rw [List.foldl_cons, show rwStep x (true, o) y = (true, o ++ (if y = x then [] else [y])) from rfl, rw_true x r, outF_cons, List.append_assoc]
def rwEnd (x : Int) (s : Bool × List Int) : List Int := if s.1 = true then s.2 else s.2 ++ [x]
theorem rw_ins (x : Int) : ∀ (l : List Int) (o : List Int), rwEnd x (l.foldl (rwStep x) (false, o)) = o ++ insL x l
  | [], o => rfl
  | y :: r, o => by
    rw [List.foldl_cons]
    by_cases h : y < x
    · have e : rwStep x (false, o) y = (false, o ++ [y]) := by
        unfold rwStep
        simp only [Bool.false_or, Bool.not_false, Bool.true_and]
        rw [decide_eq_false (by omega)]
        simp [show ¬ y = x by omega]
      rw [e, rw_ins x r]
      simp [insL, h]
    · have e : rwStep x (false, o) y = (true, o ++ [x] ++ (if y = x then [] else [y])) := by
        unfold rwStep
        simp only [Bool.false_or, Bool.not_false, Bool.true_and]
        rw [decide_eq_true (by omega)]
        simp
      rw [e, rw_true]
      simp [insL, h, rwEnd, outF_cons]
theorem mem_ins {x y : Int} : ∀ {l : List Int}, y ∈ insL x l ↔ y = x ∨ y ∈ l
  | [] => by simp [insL]
  | a :: r => by
    unfold insL; split
    · rw [List.mem_cons, mem_ins (l := r), List.mem_cons]
      constructor
      · rintro (h | h | h)
        · exact .inr (.inl h)
        · exact .inl h
        · exact .inr (.inr h)
      · rintro (h | h | h)
        · exact .inr (.inl h)
        · exact .inl h
        · exact .inr (.inr h)
    · rw [List.mem_cons, mem_outF]
      constructor
      · rintro (h | h)
        · exact .inl h
        · exact .inr h.1
      · rintro (h | h)
        · exact .inl h
        · by_cases e : y = x
          · exact .inl e
          · exact .inr ⟨h, e⟩
theorem ins_rise {x : Int} : ∀ {l : List Int}, Rise l → Rise (insL x l)
  | [], _ => rise_cons.2 ⟨by simp, rise_nil⟩
  | a :: r, h => by
    obtain ⟨ha, hr⟩ := rise_cons.1 h
    unfold insL; split
    · next hx =>
      refine rise_cons.2 ⟨fun y hy => ?_, ins_rise hr⟩
      rcases mem_ins.1 hy with rfl | h1
      · exact hx
      · exact ha y h1
    · next hx =>
      refine rise_cons.2 ⟨fun y hy => ?_, outF_rise h⟩
      obtain ⟨h1, h2⟩ := mem_outF.1 hy
      rcases List.mem_cons.1 h1 with rfl | h1
      · omega
      · have := ha y h1; omega
theorem rwith_eq {l : List Int} (h : Rise l) (x : Int) : rwithL l x = withL l x := by
  have e : rwithL l x = insL x l := by
    have := rw_ins x l []
    rw [List.nil_append] at this
    exact this
  rw [e]
  exact rise_ext (ins_rise h) (with_rise h x) fun y => by rw [mem_ins, mem_with]
theorem rw_len (x : Int) (l : List Int) : ∀ k, k ≤ l.length → (rwRun x (l.take k)).2.length + (if (rwRun x (l.take k)).1 = true then 0 else 1) ≤ k + 1 := by
  intro k
  induction k with
  | zero => intro _; simp [rwRun]
  | succ k ih =>
    intro hk
    have := ih (by omega)
    rw [rw_snoc x l k (by omega)]
    generalize rwRun x (l.take k) = s at *
    obtain ⟨b, o⟩ := s
    unfold rwStep
    generalize l[k]?.getD 0 = y
    clear ih
    cases b <;> by_cases h1 : x ≤ y <;> by_cases h2 : y = x <;> simp only [h1, h2, Int.le_refl, Bool.true_or, Bool.false_or, decide_true, decide_false, Bool.not_false, Bool.not_true, Bool.true_and, Bool.false_and, Bool.false_eq_true, if_true, if_false, List.length_append, List.length_cons, List.length_nil] at this ⊢ <;> omega

/-- All numbers of a list, each once, rising. -/
def risL (l : List Int) : List Int := l.foldl withL []
theorem ris_snoc (l : List Int) (k : Nat) (h : k < l.length) : risL (l.take (k + 1)) = withL (risL (l.take k)) (l[k]?.getD 0) := by
  unfold risL
  rw [take_snoc l k h, List.foldl_append, List.getElem?_eq_getElem h]; rfl
theorem fold_rise : ∀ (l o : List Int), Rise o → Rise (l.foldl withL o) ∧ (∀ y, y ∈ l.foldl withL o ↔ y ∈ o ∨ y ∈ l) ∧ (l.foldl withL o).length ≤ o.length + l.length
  | [], o, h => ⟨h, fun y => by simp, by simp⟩
  | a :: r, o, h => by
    obtain ⟨h1, h2, h3⟩ := fold_rise r (withL o a) (with_rise h a)
    refine ⟨h1, fun y => ?_, ?_⟩
    · rw [List.foldl_cons, h2, mem_with, List.mem_cons]
      constructor
      · rintro ((h | h) | h)
        · exact .inr (.inl h)
        · exact .inl h
        · exact .inr (.inr h)
      · rintro (h | h | h)
        · exact .inl (.inr h)
        · exact .inl (.inl h)
        · exact .inr h
    · rw [List.foldl_cons, List.length_cons]
      have := len_with o a
      split at this <;> omega
theorem ris_rise (l : List Int) : Rise (risL l) := (fold_rise l [] rise_nil).1
theorem mem_ris {l : List Int} {y : Int} : y ∈ risL l ↔ y ∈ l := by
  have := (fold_rise l [] rise_nil).2.1 y
  unfold risL; simpa using this
theorem ris_len (l : List Int) : (risL l).length ≤ l.length := by
  have := (fold_rise l [] rise_nil).2.2
  unfold risL; simpa using this
end Go.Proofs.YtmclpganipfadaaGreatDoor

namespace Go.Proofs.YtmclpganipfadaaGreatDoor
open Go.RowKit Go.Shelf Go.Maps
set_option linter.unusedVariables false

attribute [local go_sem] Oper.semAt_some

/-- Numbers that lie below B. -/
def IntsB (B : Nat) (w : World) (A : Option Addr) (l : List Int) : Prop :=
  0 < l.length → ∃ b off, A = some ⟨b, off, none⟩ ∧ b < B ∧ ∀ j, j < l.length → w.cell? ⟨b, off + j, none⟩ = some (.int .i64 (l[j]?.getD 0))
theorem IntsB.below {B : Nat} {w w' : World} {A : Option Addr} {l : List Int} (h : IntsB B w A l) (hb : Below B w w') : IntsB B w' A l := fun hl => by
  obtain ⟨b, off, e, hlt, hc⟩ := h hl
  exact ⟨b, off, e, hlt, fun j hj => (hb.cell (p := ⟨b, off + j, none⟩) hlt).trans (hc j hj)⟩

/-- All cells but block B's lie as they lay. -/
structure KeptX (B : Nat) (W W' : World) : Prop where
  os : W'.os = W.os
  tape : W'.tape = W.tape
  output : W'.output = W.output
  size : W.heap.size ≤ W'.heap.size
  same : ∀ (k : Nat) (o : Obj), k ≠ B → W.heap[k]? = some o → o.isCells = true → W'.heap[k]? = some o
theorem KeptX.refl (B : Nat) (W : World) : KeptX B W W := ⟨rfl, rfl, rfl, Nat.le_refl _, fun _ _ _ h _ => h⟩
theorem KeptX.trans {B : Nat} {X Y Z : World} (h : KeptX B X Y) (k : KeptX B Y Z) : KeptX B X Z :=
  ⟨k.os.trans h.os, k.tape.trans h.tape, k.output.trans h.output, Nat.le_trans h.size k.size, fun i o hi ho hc => k.same i o hi (h.same i o hi ho hc) hc⟩
theorem KeptX.alloc (B : Nat) (W : World) (o : Obj) : KeptX B W (W.alloc o) :=
  ⟨rfl, rfl, rfl, by simp, fun k o' _ h _ => (Below.heap_alloc W o k (Array.getElem?_eq_some_iff.1 h).1).trans h⟩
theorem KeptX.put (B : Nat) (W : World) (l : Nat) (o o' : Obj) (h : W.heap[l]? = some o) (hc : o.isCells = false) : KeptX B W (W.putObj l o') :=
  ⟨rfl, rfl, rfl, by simp, fun k x _ hk hx => (World.putObj_heap_other (fun e => by subst e; rw [hk] at h; cases h; rw [hx] at hc; cases hc)).trans hk⟩
theorem KeptX.set (B : Nat) (W : World) (off : Nat) (u : Value) : KeptX B W (W.setCell ⟨B, off, none⟩ u) :=
  ⟨rfl, rfl, rfl, by simp [World.setCell], fun k o hk h _ => (Below.heap_setCell _ _ _ _ hk).trans h⟩
theorem KeptX.drew {B : Nat} {W W' : World} (h : KeptX B W W') : KeptX B W W'.drew := ⟨h.os, h.tape, h.output, h.size, h.same⟩
theorem KeptX.own {B H : Nat} {W W' : World} (h : KeptX B W W') (hH : W.heap.size ≤ H) (off : Nat) (u : Value) : KeptX B W (W'.setCell ⟨H, off, none⟩ u) :=
  ⟨h.os, h.tape, h.output, by have := h.size; simpa [World.setCell] using this, fun k o hk ho hc => (Below.heap_setCell _ _ _ _ (by have := (Array.getElem?_eq_some_iff.1 ho).1; show k ≠ H; omega)).trans (h.same k o hk ho hc)⟩
theorem KeptX.cell {B : Nat} {W W' : World} (h : KeptX B W W') {p : Addr} {v : Value} (hp : p.block ≠ B) (hc : W.cell? p = some v) : W'.cell? p = some v := by
  obtain ⟨o, ho, hi⟩ := cell_cells hc
  exact (World.cell?_of_block ((h.same _ o hp ho hi).trans ho.symm)).trans hc
theorem KeptX.holds {B : Nat} {W W' : World} (h : KeptX B W W') {k : Nat} {t : TypeId} {cs : Array Value} (hk : k ≠ B) (hh : Holds W k t cs) : Holds W' k t cs := h.same k _ hk hh rfl
theorem KeptX.ints {B n₀ : Nat} {W W' : World} (h : KeptX B W W') {A : Option Addr} {l : List Int} (hn : n₀ ≤ B) (hA : IntsB n₀ W A l) : IntsB n₀ W' A l := fun hl => by
  obtain ⟨b, off, e, hlt, hc⟩ := hA hl
  exact ⟨b, off, e, hlt, fun j hj => h.cell (p := ⟨b, off + j, none⟩) (by show b ≠ B; omega) (hc j hj)⟩

theorem halves_in (F : Fence) (m : Nat) (h1 : F.fn 104) (hro : F.round = none) (A : Option Addr) (k c : Nat) (x : Int) (w : World) :
    CallsIn F m Tryz.prog 104 #[.slice A k c, .int .i64 x] w fun e w' => e = .returned (.func (.func 106) #[] #[.pointer (some ⟨w.heap.size, 0, none⟩), .pointer (some ⟨w.heap.size + 1, 0, none⟩)]) ∧ w' = (w.alloc (.cells #[.slice A k c] 82)).alloc (.cells #[.int .i64 x] 3) := by
  refine callsIn_of_wp Tryz.func104 rfl h1 ?_ hro
  simp only [Tryz.ntmps104, List.size_toArray, List.length_cons, List.length_nil, Nat.reduceAdd, Nat.reduceSub, Array.replicate_succ, Array.replicate_zero, List.push_toArray, List.append_toArray, List.nil_append, List.cons_append]
  gi_wp2
  go_ret
  exact ⟨rfl, rfl⟩

/-- A half: its first place and its last. -/
abbrev Span := Nat × Nat
/-- The place that the last half begins at. -/
def lastAt (pre : List Span) : Nat := (pre.getLastD (0, 0)).1
theorem lastAt_snoc (pre : List Span) (s : Span) : lastAt (pre ++ [s]) = s.1 := by simp [lastAt]

theorem mid_eq (f k : Nat) (h : f < k) : (f : Int) + ((k : Int) - (f : Int)).tdiv 2 = ((f + (k - f) / 2 : Nat) : Int) := by
  rw [show ((k : Int) - (f : Int)) = ((k - f : Nat) : Int) by omega]
  show (f : Int) + (((k - f) / 2 : Nat) : Int) = _
  omega

/-- How many places a half has behind its first one. -/
def spread (B : Nat) (w : World) : Nat :=
  match w.cell? ⟨B, 0, none⟩, w.cell? ⟨B, 1, none⟩ with
  | some (.int _ f), some (.int _ k) => (k - f).toNat
  | _, _ => 0
theorem spread_eq {B : Nat} {w : World} {t : TypeId} {f k : Nat} (h : Holds w B t #[.int .i64 f, .int .i64 k]) : spread B w = k - f := by
  unfold spread
  rw [h.c (j := 0) rfl, h.c (j := 1) rfl]
  show ((k : Int) - (f : Int)).toNat = k - f
  omega

set_option maxRecDepth 100000 in
set_option maxHeartbeats 1000000 in
theorem halves1_in (m : Nat) (hm : 1 ≤ m) (lp Bl Bx n₀ Bp : Nat) (x : Int) (A : Option Addr) (c : Nat) (l : List Int) (hlen : l.length ≤ 1000) (hr : Rise l) (J : List Span → World → Prop)
    (W : World) (hJ : Afar W.heap.size J) (hp1 : Bp < W.heap.size) (hp2 : n₀ ≤ Bp) (hp3 : Bl ≠ Bp) (hp4 : Bx ≠ Bp)
    (hY : ∀ pre (s : Span) W, J pre W → pre.length < l.length → YieldAt Fence.wide (m - 1) Tryz.prog lp #[.agg #[.int .i64 s.1, .int .i64 s.2]] W fun e W' => e = .returned (.bool true) ∧ J (pre ++ [s]) W' ∧ KeptX Bp W W')
    (hBl : W.cell? ⟨Bl, 0, none⟩ = some (.slice A l.length c)) (hBx : W.cell? ⟨Bx, 0, none⟩ = some (.int .i64 x)) (hA : IntsB n₀ W A l) (h0 : J [] W) :
    CallsIn Fence.wide m Tryz.prog 106 #[.func (.yield lp) #[] #[], .pointer (some ⟨Bl, 0, none⟩), .pointer (some ⟨Bx, 0, none⟩)] W fun e W' => (∃ v, e = .returned v) ∧ ∃ ys : List Span, lastAt ys = low l x ∧ J ys W' := by
  refine callsIn_of_wp Tryz.func106 rfl trivial ?_ rfl
  simp only [Tryz.ntmps106, List.size_toArray, List.length_cons, List.length_nil, Nat.reduceAdd, Nat.reduceSub, Array.replicate_succ, Array.replicate_zero, List.push_toArray, List.append_toArray, List.nil_append, List.cons_append]
  have hBl' := Lib.hid hBl
  have hBx' := Lib.hid hBx
  gi_wp2
  have HH := Holds.new W 128 #[.int .i64 0, .int .i64 l.length]
  have hK0 := KeptX.alloc Bp W (.cells #[.int .i64 0, .int .i64 l.length] 128)
  have hJ0 := hJ.new (.cells #[.int .i64 0, .int .i64 l.length] 128) h0
  gi_loopw [5] (fun s5 wr => ∃ (f k : Nat) (pre : List Span), f ≤ low l x ∧ low l x ≤ k ∧ k ≤ l.length ∧ Holds wr W.heap.size 128 #[.int .i64 f, .int .i64 k] ∧ lastAt pre = f ∧ pre.length + (k - f) ≤ l.length ∧ J pre wr ∧ KeptX Bp W wr) (fun s5 wr => spread W.heap.size wr)
  case atStart => exact ⟨0, l.length, [], Nat.zero_le _, low_le _ _, Nat.le_refl _, HH, rfl, by simp, hJ0, hK0⟩
  case round =>
    obtain ⟨f, k, pre, hf, hk, hkl, hh, hla, hpl, hJr, hKr⟩ := hrel
    have HH := Lib.hid hh
    have HJ := Lib.hid hJr
    have HK := Lib.hid hKr
    have HLA := Lib.hid hla
    have HPL := Lib.hid hpl
    have HF := Lib.hid hf
    have HKK := Lib.hid hk
    have c0 := hh.c (j := 0) rfl
    have c1 := hh.c (j := 1) rfl
    have f0 := hh.frozen 0
    have f1 := hh.frozen 1
    have cl := hKr.cell (p := ⟨Bl, 0, none⟩) hp3 hBl'.out
    have cx := hKr.cell (p := ⟨Bx, 0, none⟩) hp4 hBx'.out
    clear hh hJr hKr hla hpl hf hk
    by_cases hlt : f < k
    · have hA1 := HK.out.ints hp2 hA
      obtain ⟨b, off, rfl, hb, hc⟩ := hA1 (by omega)
      obtain ⟨mi, hmi⟩ : ∃ mi, mi = f + (k - f) / 2 := ⟨_, rfl⟩
      have hm1 : mi < k := by omega
      have hm2 : f ≤ mi := by omega
      have hml : mi < l.length := by omega
      have hq := mid_eq f k hlt
      rw [← hmi] at hq
      have ck := hc mi hml
      have hat := low_at (x := x) hr mi hml
      obtain ⟨y, hy⟩ : ∃ y, l[mi]?.getD 0 = y := ⟨_, rfl⟩
      rw [hy] at ck hat
      have g0 : (0 : Int) ≤ (mi : Int) := by omega
      have g1 : (mi : Int) < (l.length : Int) := by omega
      have g2 : decide ((f : Int) < (k : Int)) = true := decide_eq_true (by omega)
      have HAT := Lib.hid hat
      clear hc hy hmi hat
      by_cases hyx : y < x
      · have hh1 : Holds (wr.setCell ⟨W.heap.size, 0, none⟩ (.int .i64 ((mi : Int) + 1))).drew W.heap.size 128 #[.int .i64 ((mi : Int) + 1), .int .i64 k] := (HH.out.set 0 (.int .i64 ((mi : Int) + 1))).of rfl
        have hJ1 := hJ.drew (hJ.set (b := W.heap.size) 0 (.int .i64 ((mi : Int) + 1)) HJ.out (Nat.le_refl _))
        obtain ⟨fn, tmps, assign, body, hy, hR⟩ := hY pre (mi + 1, k) _ hJ1 (by have := HPL.out; omega)
        have e1 : ((mi + 1 : Nat) : Int) = (mi : Int) + 1 := by omega
        dsimp only at hy
        rw [e1] at hy
        have HH1 := Lib.hid hh1
        have HJ1 := Lib.hid hJ1
        clear hh1 hJ1 e1
        gi_wp2_with fail
        gi_region
        gi_wp2_with fail
        refine hR.mono ?_
        rintro e W3 ⟨rfl, hJ3, hk3⟩
        have hh3 := hk3.holds (by omega) HH1.out
        have hhr := HH.out
        gi_wp2
        go_roundw
        case rel => exact ⟨mi + 1, k, pre ++ [(mi + 1, k)], by have := HAT.out.1 hyx; omega, HKK.out, hkl, hh3, lastAt_snoc _ _, by rw [List.length_append]; have := HPL.out; simp; omega, hJ3, (KeptX.own HK.out (Nat.le_refl _) 0 _).drew.trans hk3⟩
        case measure =>
          have h3 : Holds W3 W.heap.size 128 #[.int .i64 ((mi + 1 : Nat) : Int), .int .i64 k] := hh3
          rw [spread_eq h3, spread_eq HH.out]; omega
      · have hh1 : Holds (wr.setCell ⟨W.heap.size, 1, none⟩ (.int .i64 (mi : Int))).drew W.heap.size 128 #[.int .i64 f, .int .i64 mi] := (HH.out.set 1 (.int .i64 (mi : Int))).of rfl
        have hJ1 := hJ.drew (hJ.set (b := W.heap.size) 1 (.int .i64 (mi : Int)) HJ.out (Nat.le_refl _))
        obtain ⟨fn, tmps, assign, body, hy, hR⟩ := hY pre (f, mi) _ hJ1 (by have := HPL.out; omega)
        dsimp only at hy
        have HH1 := Lib.hid hh1
        have HJ1 := Lib.hid hJ1
        clear hh1 hJ1
        gi_wp2_with fail
        gi_region
        gi_wp2_with fail
        refine hR.mono ?_
        rintro e W3 ⟨rfl, hJ3, hk3⟩
        have hh3 := hk3.holds (by omega) HH1.out
        gi_wp2
        go_roundw
        case rel => exact ⟨f, mi, pre ++ [(f, mi)], HF.out, by have := HAT.out; omega, by omega, hh3, lastAt_snoc _ _, by rw [List.length_append]; have := HPL.out; simp; omega, hJ3, (KeptX.own HK.out (Nat.le_refl _) 1 _).drew.trans hk3⟩
        case measure => rw [spread_eq hh3, spread_eq HH.out]; omega
    · have g2 : decide ((f : Int) < (k : Int)) = false := decide_eq_false (by omega)
      gi_wp2
      go_end0
      exact ⟨⟨_, rfl⟩, pre, by rw [HLA.out]; have := HF.out; have := HKK.out; omega, HJ.out⟩

theorem halves_whole (m : Nat) (hm : 1 ≤ m) (Bl Bx n₀ Bp : Nat) (x : Int) (A : Option Addr) (c : Nat) (l : List Int) (hlen : l.length ≤ 1000) (hr : Rise l) (w : World) (hp1 : Bp < w.heap.size) (hp2 : n₀ ≤ Bp) (hp3 : Bl ≠ Bp) (hp4 : Bx ≠ Bp) (h1 : Bl < w.heap.size) (h2 : Bx < w.heap.size)
    (hBl : w.cell? ⟨Bl, 0, none⟩ = some (.slice A l.length c)) (hBx : w.cell? ⟨Bx, 0, none⟩ = some (.int .i64 x)) (hA : IntsB n₀ w A l) :
    Whole Fence.wide m Tryz.prog 106 #[.pointer (some ⟨Bl, 0, none⟩), .pointer (some ⟨Bx, 0, none⟩)] (fun s : Span => #[.agg #[.int .i64 s.1, .int .i64 s.2]]) (KeptX Bp) (fun ys => lastAt ys = low l x) l.length w := fun lp J W hW hJ hY h0 =>
  halves1_in m hm lp Bl Bx n₀ Bp x A c l hlen hr J W hJ (by have := hW.size; omega) hp2 hp3 hp4 hY ((hW.cell (p := ⟨Bl, 0, none⟩) h1).trans hBl) ((hW.cell (p := ⟨Bx, 0, none⟩) h2).trans hBx) (hA.below (hW.mono (by omega))) h0
end Go.Proofs.YtmclpganipfadaaGreatDoor

namespace Go.Proofs.YtmclpganipfadaaGreatDoor
open Go.RowKit Go.Shelf Go.Maps
set_option linter.unusedVariables false

attribute [local go_sem] Oper.semAt_some

def foundV (l : List Int) (x : Int) : Value := .tuple #[.int .i64 (low l x), .bool (isIn l x)]
theorem afar_box {B P : Nat} (t : TypeId) (f : List Span → Value) (h : P < B) : Afar B (fun pre W => Boxed W P t (f pre)) := fun s X Y row hs hg hr =>
  hs.kept hg (fun e => by have := hr P e.symm; omega)
theorem afar_below {β : Type} {n₀ B : Nat} {w₀ : World} (hn : n₀ ≤ w₀.heap.size) (hB : n₀ ≤ B) : Afar B (fun (_ : β) W => Below n₀ w₀ W) :=
  fun _ _ _ _ hs hg hr => hs.grown hg (Nat.le_trans hn hs.size) (fun k e => Nat.le_trans hB (hr k e))

set_option maxRecDepth 100000 in
set_option maxHeartbeats 2000000 in
theorem find_any (A : Option Addr) (c : Nat) (l : List Int) (x : Int) (w : World) (hA : Ints w A l) (hlen : l.length ≤ 1000) (hr : Rise l) :
    Calls Tryz.prog 94 #[.slice A l.length c, .int .i64 x] w (Says (foundV l x) w) := by
  refine (callsIn_wide (n := 6)).1 ?_
  refine callsIn_of_wp_marks Tryz.func94 rfl trivial ?_ rfl
  simp only [Tryz.ntmps94, List.size_toArray, List.length_cons, List.length_nil, Nat.reduceAdd, Nat.reduceSub, Array.replicate_succ, Array.replicate_zero, List.push_toArray, List.append_toArray, List.nil_append, List.cons_append]
  gi_wp2_with (refine ⟨trivial, ?_⟩; gi_at_call 104; refine (halves_in Fence.wide _ trivial rfl _ _ _ _ _).mono ?_; rintro e w' ⟨rfl, rfl⟩)
  have bP := Boxed.new w 3 (.int .i64 0)
  have bL := Boxed.new (w.alloc (.cells #[.int .i64 0] 3)) 82 (.slice A l.length c)
  have bX := Boxed.new ((w.alloc (.cells #[.int .i64 0] 3)).alloc (.cells #[.slice A l.length c] 82)) 3 (.int .i64 x)
  rw [World.size_alloc] at bL
  rw [World.size_alloc, World.size_alloc] at bX
  have hB0 : Below w.heap.size w (((w.alloc (.cells #[.int .i64 0] 3)).alloc (.cells #[.slice A l.length c] 82)).alloc (.cells #[.int .i64 x] 3)) := (((Below.refl _ w).alloc (Nat.le_refl _) _).alloc (by simp) _).alloc (by simp; omega) _
  have hA0 : IntsB w.heap.size w A l := hA
  refine range_whole rfl (by omega) (gf := 106) (lb := #[.pointer (some ⟨w.heap.size + 1, 0, none⟩), .pointer (some ⟨w.heap.size + 1 + 1, 0, none⟩)]) rfl trivial (enters_of Tryz.func106 (by kernel_rfl) rfl)
    (halves_whole 5 (by omega) (w.heap.size + 1) (w.heap.size + 1 + 1) w.heap.size w.heap.size x A c l hlen hr _ (by simp; omega) (Nat.le_refl _) (by omega) (by omega) (by simp) (by simp) (bL.alloc _).cell bX.cell (hA0.below hB0)) KeptX.trans (fun W l o o' _ h1 h2 => KeptX.put _ W l o o' h1 h2) (fun _ => rfl)
    (fun (pre : List Span) W => Boxed W w.heap.size 3 (.int .i64 (lastAt pre)) ∧ Below w.heap.size w W)
    (fun s X Y row hs hg hrr => ⟨afar_box 3 (fun pre => .int .i64 (lastAt pre)) (by simp; omega) s X Y row hs.1 hg hrr, afar_below (β := Unit) (Nat.le_refl _) (by simp; omega) () X Y row hs.2 hg hrr⟩)
    ⟨(bP.alloc _).alloc _, hB0⟩
    (fun s a' W => ∃ Bh, w.heap.size < Bh ∧ Holds W Bh 128 #[.int .i64 s.1, .int .i64 s.2] ∧ a' = { tmps := #[.slice A l.length c, .int .i64 x, undef, undef, .int .i64 0, .bool false, .pointer (some ⟨w.heap.size, 0, none⟩), .pointer (some ⟨Bh, 0, none⟩), .slice A l.length c, .int .i64 x, .func (.func 106) #[] #[.pointer (some ⟨w.heap.size + 1, 0, none⟩), .pointer (some ⟨w.heap.size + 1 + 1, 0, none⟩)], .agg #[.int .i64 s.1, .int .i64 s.2], undef, undef, undef, undef, undef, undef, undef, undef, undef, undef, undef, undef, undef, undef, undef], defers := [] })
    (fun s a' W l o o' ⟨Bh, h1, h2, h3⟩ ho hc => ⟨Bh, h1, (h2.of (World.putObj_heap_other (fun e => by subst e; rw [show W.heap[_]? = _ from h2] at ho; cases ho; cases hc))), h3⟩) ?assign ?body ?done
  case assign =>
    rintro l pre s W K hsz ⟨hb, hB⟩ hK
    have hsz' : w.heap.size < W.heap.size := by simp at hsz; omega
    gi_wp2
    exact hK _ _ (KeepsOthers.alloc _ _) (KeptX.alloc _ _ _) ⟨hb.alloc _, hB.alloc (by omega) _⟩ ⟨W.heap.size, hsz', Holds.new _ _ _, rfl⟩
  case body =>
    rintro lp pre s a' W ⟨hv, hB⟩ ⟨Bh, h1, h2, rfl⟩ hlt
    have hc := hv.cell
    have hf := hv.frozen
    have c0 := h2.c (j := 0) rfl
    have hv2 := hv.set (.int .i64 s.1)
    gi_wp2
    refine ⟨KeepsOthers.setCell _ _ _, KeptX.set _ _ _ _, ?_, hB.setCell (p := ⟨w.heap.size, 0, none⟩) (Nat.le_refl _) _⟩
    rw [lastAt_snoc]
    exact hv2
  case done =>
    rintro D ys W hD hS ⟨hv, hB⟩ hK
    have hc := hv.cell
    rw [hS] at hc
    have hat := isIn_at hr x
    have hle := low_le l x
    have hI := hA0.below hB
    by_cases hlt : low l x < l.length
    · obtain ⟨b, off, rfl, hb, hcl⟩ := hI (by omega)
      have ck := hcl (low l x) hlt
      rw [decide_eq_true hlt, Bool.true_and] at hat
      generalize hlo : low l x = lo at *
      obtain ⟨y, hy⟩ : ∃ y, l[lo]?.getD 0 = y := ⟨_, rfl⟩
      rw [hy] at ck hat
      have HAT := Lib.hid hat
      have g0 : (0 : Int) ≤ (lo : Int) := by omega
      have g1 : (lo : Int) < (l.length : Int) := by omega
      have g2 : decide ((lo : Int) < (l.length : Int)) = true := decide_eq_true (by omega)
      have HLO := Lib.hid hlo
      clear hcl hy hat hlo hS
      gi_wp2_with fail
      refine wpIn_wide.2 ?_
      go_quiet (fail)
      gi_wp2_with fail
      refine ⟨by simp, .inl ⟨_, _, rfl, run_takeDeferred (show (W.drewN nq).heap[D]? = some (.deferred (some [])) from hK), ?_⟩⟩
      refine ⟨.tuple #[.int .i64 lo, .bool (y == x)], by simp [results, Tryz.f94, go_sem], ?_, ?_⟩
      · unfold foundV; rw [HLO.out, HAT.out]
      · exact (below_drewN hB nq).trans (belowK_b (w := w) (Nat.le_refl _) (W.drewN nq) D _ _ (by simp at hD; omega) hK rfl rfl)
    · rw [decide_eq_false hlt, Bool.false_and] at hat
      generalize hlo : low l x = lo at *
      have HAT := Lib.hid hat
      have g2 : decide ((lo : Int) < (l.length : Int)) = false := decide_eq_false (by omega)
      have HLO := Lib.hid hlo
      clear hat hlo hS
      gi_wp2_with fail
      refine wpIn_wide.2 ?_
      go_quiet (fail)
      gi_wp2_with fail
      refine ⟨by simp, .inl ⟨_, _, rfl, run_takeDeferred (show (W.drewN nq).heap[D]? = some (.deferred (some [])) from hK), ?_⟩⟩
      refine ⟨.tuple #[.int .i64 lo, .bool false], by simp [results, Tryz.f94, go_sem], ?_, ?_⟩
      · unfold foundV; rw [HLO.out, HAT.out]
      · exact (below_drewN hB nq).trans (belowK_b (w := w) (Nat.le_refl _) (W.drewN nq) D _ _ (by simp at hD; omega) hK rfl rfl)
end Go.Proofs.YtmclpganipfadaaGreatDoor

namespace Go.Proofs.YtmclpganipfadaaGreatDoor
open Go.RowKit Go.Maps
set_option linter.unusedVariables false

set_option maxHeartbeats 1000000 in
theorem again_any (A : Option Addr) (c : Nat) (l : List Int) (w : World) (hA : Ints w A l) (hlen : l.length ≤ 1000) :
    Calls Tryz.prog 95 #[.slice A l.length c] w (CopyPost l w) := by
  obtain ⟨i0, hi, hz0, hz1, hz2⟩ := info_parts info_int
  have HA := Lib.hid hA
  clear hA
  go_enter Tryz.func95, Tryz.ntmps95
  go_wp2_with (first
    | (at_make; refine wpList_make_own _ rfl _ _ 82 rfl w.heap.size 3 i0 (.int .i64 0) 1 Tryz.underlying82 hi hz0 hz1 .i64 .i64 _ l.length rfl rfl rfl (info8 hz2 _ hlen) (by unfold maxLen; omega) (Nat.le_refl _) ?_; intro w2 hown2 hg2; have hA2 := HA.out.below ((Below.refl _ w).grown hg2 (Nat.le_refl _) (fun k e => by cases e)); have HB2 := Lib.hid ((Below.refl w.heap.size w).grown hg2 (Nat.le_refl _) (fun k e => by cases e)))
    | (at_builtin; refine wpList_app _ rfl _ _ 82 rfl w.heap.size Tryz.underlying82 _ _ _ rfl hown2 A l.length c l rfl rfl hA2 (by omega) (by omega) hg2.size ?_; intro v3 w3 hown3 hg3 hn3; obtain ⟨g3, c3, rfl⟩ := form4 hown3 hn3))
  go_ret
  rw [Nat.zero_add, List.nil_append] at hown3
  exact ⟨g3, c3, rfl, hown3, HB2.out.trans (grown_below hg3 hown2 hg2.size)⟩

theorem with_in {l : List Int} {x : Int} (h : isIn l x = true) : withL l x = l := by unfold withL; rw [if_pos h]
theorem with_not {l : List Int} {x : Int} (h : isIn l x = false) : withL l x = l.take (low l x) ++ x :: l.drop (low l x) := by unfold withL; rw [if_neg (by rw [h]; decide)]
theorem out_in {l : List Int} {x : Int} (h : isIn l x = true) : outL l x = l.take (low l x) ++ l.drop (low l x + 1) := by unfold outL; rw [if_pos h]
theorem out_not {l : List Int} {x : Int} (h : isIn l x = false) : outL l x = l := by unfold outL; rw [if_neg (by rw [h]; decide)]

theorem with_end {l m : List Int} {x : Int} {p g5 c5 : Nat} {w w5 : World} (hW : m = l.take p ++ x :: l.drop p) (hp : p ≤ l.length) (h : w5.ownsRow w.heap.size 3 1 (.slice (some ⟨g5, 0, none⟩) (p + 1 + (l.length - p)) c5) (p + 1 + (l.length - p)) (intsOf (l.take p) ++ intsOf [x] ++ intsOf (l.drop p))) (hB : Below w.heap.size w w5) :
    CopyPost m w (.returned (.slice (some ⟨g5, 0, none⟩) (p + 1 + (l.length - p)) c5)) w5 := by
  have hlen : m.length = p + 1 + (l.length - p) := by rw [hW, List.length_append, List.length_take, List.length_cons, List.length_drop]; omega
  have e : intsOf (l.take p) ++ intsOf [x] ++ intsOf (l.drop p) = intsOf m := by rw [hW]; simp [intsOf]
  rw [e] at h
  refine ⟨g5, c5, ?_, ?_, hB⟩
  · rw [hlen]
  · rw [hlen]; exact h
theorem out_end {l m : List Int} {p g5 c5 : Nat} {w w5 : World} (hW : m = l.take p ++ l.drop (p + 1)) (hp : p < l.length) (h : w5.ownsRow w.heap.size 3 1 (.slice (some ⟨g5, 0, none⟩) (p + (l.length - (p + 1))) c5) (p + (l.length - (p + 1))) (intsOf (l.take p) ++ intsOf (l.drop (p + 1)))) (hB : Below w.heap.size w w5) :
    CopyPost m w (.returned (.slice (some ⟨g5, 0, none⟩) (p + (l.length - (p + 1))) c5)) w5 := by
  have hlen : m.length = p + (l.length - (p + 1)) := by rw [hW, List.length_append, List.length_take, List.length_drop]; omega
  have e : intsOf (l.take p) ++ intsOf (l.drop (p + 1)) = intsOf m := by rw [hW]; simp [intsOf]
  rw [e] at h
  refine ⟨g5, c5, ?_, ?_, hB⟩
  · rw [hlen]
  · rw [hlen]; exact h

set_option maxHeartbeats 1000000 in
theorem with_any (A : Option Addr) (c : Nat) (l : List Int) (x : Int) (w : World) (hA : Ints w A l) (hlen : l.length ≤ 900) (hc : l.length ≤ c) (hr : Rise l) :
    Calls Tryz.prog 92 #[.slice A l.length c, .int .i64 x] w (CopyPost (withL l x) w) := by
  have HF := find_any A c l x w hA (by omega) hr
  unfold foundV at HF
  obtain ⟨i0, hi, hz0, hz1, hz2⟩ := info_parts info_int
  cases hin : isIn l x with
  | true =>
    rw [hin] at HF
    have HW := Lib.hid (with_in hin)
    have HA := Lib.hid hA
    have HAG := fun W (h : Below w.heap.size w W) => again_any A c l W (HA.out.below h) (by omega)
    clear hin hA
    go_enter Tryz.func92, Tryz.ntmps92
    go_wp2_with fail
    refine HF.mono ?_
    rintro e w1 ⟨rfl, hB1⟩
    go_wp2_with fail
    refine (HAG w1 hB1).mono ?_
    rintro e w2 ⟨g, cap, rfl, ho, hB2⟩
    go_wp2
    go_ret
    rw [HW.out]
    exact ⟨g, cap, rfl, row_more ho hB1.size, nxt hB1 hB2 hB1.size⟩
  | false =>
    rw [hin] at HF
    have HW := Lib.hid (with_not hin)
    have hp := low_le l x
    have HA := Lib.hid hA
    generalize low l x = p at *
    have g0 : (0 : Int) ≤ (p : Int) := by omega
    have g1 : (p : Int) ≤ (c : Int) := by omega
    have g2 : (p : Int) ≤ (l.length : Int) := by omega
    have g3 : (l.length : Int) ≤ (c : Int) := by omega
    clear hin hA
    go_enter Tryz.func92, Tryz.ntmps92
    go_wp2_with fail
    refine HF.mono ?_
    rintro e w1 ⟨rfl, hB1⟩
    have hA1 := Lib.hid (HA.out.below hB1)
    have hAd := Lib.hid (hA1.out.below (Below.refl _ w1).drew)
    go_wp2_with fail
    refine wp_region_noPanic ?_
    refine wp_region_picked [(0, true), (1, true), (2, true), (4, true), (5, true), (6, true), (3, false), (7, false), (8, true)] (fun _ => True) (by kernel_rfl) (by kernel_rfl) (fun _ _ _ _ _ h => h) trivial ?_
    iterate 6
      refine Picked.take ?_ (by rfl) (by rfl) ?_ ?_
      rotate_left
      · intro w' hw'
        go_simp
        try with_reducible rfl
      simp only [Act.put, List.getElem_toArray, List.getElem_cons_zero, List.getElem_cons_succ, List.setIfInBounds_toArray, List.set_cons_zero, List.set_cons_succ]
    rw [show IntKind.i64.wrap ((l.length : Int) + 1) = ((l.length + 1 : Nat) : Int) by rw [IntWalk.i64_left]; unfold wrap64; omega]
    obtain ⟨w2, hr2, ho2, hg2⟩ := run_make_own (P := Tryz.prog) w1.drew w.heap.size 82 3 i0 (.int .i64 0) 1 Tryz.underlying82 hi hz0 hz1 .i64 .i64 (l.length + 1) (info8 hz2 _ (by omega)) (by unfold maxLen; omega) hB1.size
    refine Picked.make (w1 := w2) (.slice (some ⟨w1.heap.size, 0, none⟩) 0 (l.length + 1)) (by rfl) (by rfl) (exec_make _ _ _ _ _ _ rfl rfl rfl hr2) trivial ?_
    simp only [Act.put, List.getElem_toArray, List.getElem_cons_zero, List.getElem_cons_succ, List.setIfInBounds_toArray, List.set_cons_zero, List.set_cons_succ]
    have hB2 : Below w1.heap.size w1 w2 := ((Below.refl _ w1).drew).grown hg2 (Nat.le_refl _) (fun k e => by cases e)
    have hA2 := Lib.hid (hA1.out.below hB2)
    have hBw2 := nxt hB1 hB2 hB1.size
    obtain ⟨v3, w3, hr3, ho3, hg3, hn3⟩ := app_run w2 w.heap.size 82 82 Tryz.underlying82 _ 0 [] ho2 A p c (l.take p) (by rw [List.length_take]; omega) (ints_take hA2.out p) (by omega) (by omega) hBw2.size
    obtain ⟨g3', c3, rfl⟩ := form4 ho3 hn3
    have hB3 := grown_below hg3 ho2 hBw2.size
    refine Picked.make (w1 := w3) (.slice (some ⟨g3', 0, none⟩) (0 + p) c3) (by rfl) (by rfl) (exec_app _ _ _ _ _ _ rfl rfl rfl hr3) trivial ?_
    simp only [Act.put, List.getElem_toArray, List.getElem_cons_zero, List.getElem_cons_succ, List.setIfInBounds_toArray, List.set_cons_zero, List.set_cons_succ]
    refine Picked.take (.slice (some ⟨g3', 0, none⟩) (0 + p) c3) (by rfl) (by rfl) (fun w' _ => by go_simp) ?_
    simp only [Act.put, List.getElem_toArray, List.getElem_cons_zero, List.getElem_cons_succ, List.setIfInBounds_toArray, List.set_cons_zero, List.set_cons_succ]
    refine NoPanic.normal ?_
    rw [Nat.zero_add, List.nil_append] at ho3
    rw [Nat.zero_add]
    have hBw3 := hBw2.trans hB3
    have hA3 := Lib.hid (HA.out.below hBw3)
    have HO3 := Lib.hid ho3
    clear ho3 hr3 hr2 ho2 hg3 hg2 hn3
    have hs3 : w.heap.size ≤ (w3.alloc (.cells #[.int .i64 x] 3)).heap.size := by have := hBw3.size; simp; omega
    have HAD := Lib.hid (ints_drop HA.out c p hc)
    unfold subA at HAD
    by_cases hcp : c = p
    · rw [if_pos hcp] at HAD
      go_wp2_with (first
        | (at_builtin; have hk := hown4; refine wpList_app _ rfl _ _ 82 rfl w.heap.size Tryz.underlying82 _ _ _ rfl hown4 A (l.length - p) 0 (l.drop p) rfl (by rw [List.length_drop]) hA4 (by omega) (by omega) hB4.size ?_; intro v5 w5 hown5 hg5 hn5; obtain ⟨g5, c5, rfl⟩ := form4 hown5 hn5; have hB5 := grown_below hg5 hown4 hB4.size)
        | (at_builtin; refine wpList_app _ rfl _ _ 82 rfl w.heap.size Tryz.underlying82 _ _ _ rfl (row_below HO3.out (alloc1 w3 (.cells #[.int .i64 x] 3))) (some ⟨w3.heap.size, 0, none⟩) 1 1 [x] rfl rfl (ints_lit w3 [x] 3 _ rfl) (by omega) (by omega) hs3 ?_; intro v4 w4 hown4 hg4 hn4; obtain ⟨g4, c4, rfl⟩ := form4 hown4 hn4; have hB4 : Below w.heap.size w w4 := (hBw3.trans ((alloc1 w3 _).mono hBw3.size)).trans (grown_below hg4 (row_below HO3.out (alloc1 w3 (.cells #[.int .i64 x] 3))) hs3); have hA4 : Ints w4 A (l.drop p) := (HAD.out).below hB4; clear hn4 hg4))
      go_ret
      exact with_end HW.out hp hown5 (hB4.trans hB5)
    · rw [if_neg hcp] at HAD
      go_wp2_with (first
        | (at_builtin; have hk := hown4; refine wpList_app _ rfl _ _ 82 rfl w.heap.size Tryz.underlying82 _ _ _ rfl hown4 (A.map (·.add p)) (l.length - p) (c - p) (l.drop p) rfl (by rw [List.length_drop]) hA4 (by omega) (by omega) hB4.size ?_; intro v5 w5 hown5 hg5 hn5; obtain ⟨g5, c5, rfl⟩ := form4 hown5 hn5; have hB5 := grown_below hg5 hown4 hB4.size)
        | (at_builtin; refine wpList_app _ rfl _ _ 82 rfl w.heap.size Tryz.underlying82 _ _ _ rfl (row_below HO3.out (alloc1 w3 (.cells #[.int .i64 x] 3))) (some ⟨w3.heap.size, 0, none⟩) 1 1 [x] rfl rfl (ints_lit w3 [x] 3 _ rfl) (by omega) (by omega) hs3 ?_; intro v4 w4 hown4 hg4 hn4; obtain ⟨g4, c4, rfl⟩ := form4 hown4 hn4; have hB4 : Below w.heap.size w w4 := (hBw3.trans ((alloc1 w3 _).mono hBw3.size)).trans (grown_below hg4 (row_below HO3.out (alloc1 w3 (.cells #[.int .i64 x] 3))) hs3); have hA4 : Ints w4 (A.map (·.add p)) (l.drop p) := (HAD.out).below hB4; clear hn4 hg4))
      go_ret
      exact with_end HW.out hp hown5 (hB4.trans hB5)
end Go.Proofs.YtmclpganipfadaaGreatDoor

namespace Go.Proofs.YtmclpganipfadaaGreatDoor
open Go.RowKit Go.Maps
set_option linter.unusedVariables false

set_option maxHeartbeats 1000000 in
theorem without_any (A : Option Addr) (c : Nat) (l : List Int) (x : Int) (w : World) (hA : Ints w A l) (hlen : l.length ≤ 900) (hc : l.length ≤ c) (hr : Rise l) :
    Calls Tryz.prog 93 #[.slice A l.length c, .int .i64 x] w (CopyPost (outL l x) w) := by
  have HF := find_any A c l x w hA (by omega) hr
  unfold foundV at HF
  obtain ⟨i0, hi, hz0, hz1, hz2⟩ := info_parts info_int
  cases hin : isIn l x with
  | false =>
    rw [hin] at HF
    have HW := Lib.hid (out_not hin)
    have HA := Lib.hid hA
    have HAG := fun W (h : Below w.heap.size w W) => again_any A c l W (HA.out.below h) (by omega)
    clear hin hA
    go_enter Tryz.func93, Tryz.ntmps93
    go_wp2_with fail
    refine HF.mono ?_
    rintro e w1 ⟨rfl, hB1⟩
    go_wp2_with fail
    refine (HAG w1 hB1).mono ?_
    rintro e w2 ⟨g, cap, rfl, ho, hB2⟩
    go_wp2
    go_ret
    rw [HW.out]
    exact ⟨g, cap, rfl, row_more ho hB1.size, nxt hB1 hB2 hB1.size⟩
  | true =>
    rw [hin] at HF
    have HW := Lib.hid (out_in hin)
    have hp := (cut_low hr hin).1
    have HA := Lib.hid hA
    generalize low l x = p at *
    have g0 : (0 : Int) ≤ (p : Int) := by omega
    have g1 : (p : Int) ≤ (c : Int) := by omega
    have g2 : (p : Int) + 1 ≤ (l.length : Int) := by omega
    have g3 : (l.length : Int) ≤ (c : Int) := by omega
    clear hin hA
    go_enter Tryz.func93, Tryz.ntmps93
    go_wp2_with fail
    refine HF.mono ?_
    rintro e w1 ⟨rfl, hB1⟩
    have hA1 := Lib.hid (HA.out.below hB1)
    go_wp2_with fail
    refine wp_region_noPanic ?_
    refine wp_region_picked [(0, true), (1, true), (2, true), (4, true), (5, true), (6, true), (3, false), (7, false), (8, true)] (fun _ => True) (by kernel_rfl) (by kernel_rfl) (fun _ _ _ _ _ h => h) trivial ?_
    iterate 6
      refine Picked.take ?_ (by rfl) (by rfl) ?_ ?_
      rotate_left
      · intro w' hw'
        go_simp
        try with_reducible rfl
      simp only [Act.put, List.getElem_toArray, List.getElem_cons_zero, List.getElem_cons_succ, List.setIfInBounds_toArray, List.set_cons_zero, List.set_cons_succ]
    rw [show IntKind.i64.wrap ((l.length : Int) - 1) = ((l.length - 1 : Nat) : Int) by rw [IntWalk.i64_left]; unfold wrap64; omega]
    obtain ⟨w2, hr2, ho2, hg2⟩ := run_make_own (P := Tryz.prog) w1.drew w.heap.size 82 3 i0 (.int .i64 0) 1 Tryz.underlying82 hi hz0 hz1 .i64 .i64 (l.length - 1) (info8 hz2 _ (by omega)) (by unfold maxLen; omega) hB1.size
    refine Picked.make (w1 := w2) (.slice (some ⟨w1.heap.size, 0, none⟩) 0 (l.length - 1)) (by rfl) (by rfl) (exec_make _ _ _ _ _ _ rfl rfl rfl hr2) trivial ?_
    simp only [Act.put, List.getElem_toArray, List.getElem_cons_zero, List.getElem_cons_succ, List.setIfInBounds_toArray, List.set_cons_zero, List.set_cons_succ]
    have hB2 : Below w1.heap.size w1 w2 := ((Below.refl _ w1).drew).grown hg2 (Nat.le_refl _) (fun k e => by cases e)
    have hA2 := Lib.hid (hA1.out.below hB2)
    have hBw2 := nxt hB1 hB2 hB1.size
    obtain ⟨v3, w3, hr3, ho3, hg3, hn3⟩ := app_run w2 w.heap.size 82 82 Tryz.underlying82 _ 0 [] ho2 A p c (l.take p) (by rw [List.length_take]; omega) (ints_take hA2.out p) (by omega) (by omega) hBw2.size
    obtain ⟨g3', c3, rfl⟩ := form4 ho3 hn3
    have hB3 := grown_below hg3 ho2 hBw2.size
    refine Picked.make (w1 := w3) (.slice (some ⟨g3', 0, none⟩) (0 + p) c3) (by rfl) (by rfl) (exec_app _ _ _ _ _ _ rfl rfl rfl hr3) trivial ?_
    simp only [Act.put, List.getElem_toArray, List.getElem_cons_zero, List.getElem_cons_succ, List.setIfInBounds_toArray, List.set_cons_zero, List.set_cons_succ]
    refine Picked.take (.slice (some ⟨g3', 0, none⟩) (0 + p) c3) (by rfl) (by rfl) (fun w' _ => by go_simp) ?_
    simp only [Act.put, List.getElem_toArray, List.getElem_cons_zero, List.getElem_cons_succ, List.setIfInBounds_toArray, List.set_cons_zero, List.set_cons_succ]
    refine NoPanic.normal ?_
    rw [Nat.zero_add, List.nil_append] at ho3
    rw [Nat.zero_add]
    have hBw3 := hBw2.trans hB3
    have HO3 := Lib.hid ho3
    clear ho3 hr3 hr2 ho2 hg3 hg2 hn3
    obtain ⟨q, hq⟩ : ∃ q, q = p + 1 := ⟨_, rfl⟩
    have HQ := Lib.hid hq
    have hqi : (p : Int) + 1 = (q : Int) := by omega
    have g4 : (0 : Int) ≤ (q : Int) := by omega
    have g5 : (q : Int) ≤ (l.length : Int) := by omega
    have g6 : (q : Int) ≤ (c : Int) := by omega
    have hql : q ≤ l.length := by omega
    have HAD := Lib.hid (ints_drop (HA.out.below hBw3) c q hc)
    unfold subA at HAD
    rw [hq.symm] at HW
    clear hq g2
    by_cases hcp : c = q
    · rw [if_pos hcp] at HAD
      go_wp2_with (first
        | (at_builtin; refine wpList_app _ rfl _ _ 82 rfl w.heap.size Tryz.underlying82 _ _ _ rfl HO3.out A (l.length - q) 0 (l.drop q) rfl (by rw [List.length_drop]) HAD.out (by omega) (by omega) hBw3.size ?_; intro v5 w5 hown5 hg5 hn5; obtain ⟨g5', c5, rfl⟩ := form4 hown5 hn5; have hB5 := grown_below hg5 HO3.out hBw3.size))
      go_ret
      have HQ' := HQ.out
      subst HQ'
      exact out_end HW.out hp hown5 (hBw3.trans hB5)
    · rw [if_neg hcp] at HAD
      go_wp2_with (first
        | (at_builtin; refine wpList_app _ rfl _ _ 82 rfl w.heap.size Tryz.underlying82 _ _ _ rfl HO3.out (A.map (·.add q)) (l.length - q) (c - q) (l.drop q) rfl (by rw [List.length_drop]) HAD.out (by omega) (by omega) hBw3.size ?_; intro v5 w5 hown5 hg5 hn5; obtain ⟨g5', c5, rfl⟩ := form4 hown5 hn5; have hB5 := grown_below hg5 HO3.out hBw3.size))
      go_ret
      have HQ' := HQ.out
      subst HQ'
      exact out_end HW.out hp hown5 (hBw3.trans hB5)

/-- What an operation tells: a list of its own, and a number. -/
def DoPost (m : List Int) (r : Int) (w : World) (e : Ending) (w' : World) : Prop :=
  ∃ g cap, e = .returned (.tuple #[.slice (some ⟨g, 0, none⟩) m.length cap, .int .i64 r]) ∧ w'.ownsRow w.heap.size 3 1 (.slice (some ⟨g, 0, none⟩) m.length cap) m.length (intsOf m) ∧ Below w.heap.size w w'
def one (b : Bool) : Int := if b = true then 1 else 0
theorem len_with_int (l : List Int) (x : Int) : ((withL l x).length : Int) - (l.length : Int) = one (!isIn l x) := by
  have := len_with l x
  unfold one
  cases h : isIn l x <;> rw [h] at this <;> simp at this ⊢ <;> omega
theorem len_out_int {l : List Int} (h : Rise l) (x : Int) : (l.length : Int) - ((outL l x).length : Int) = one (isIn l x) := by
  have := len_out h x
  unfold one
  cases h : isIn l x <;> rw [h] at this <;> simp at this ⊢ <;> omega
theorem with_le (l : List Int) (x : Int) : (withL l x).length ≤ l.length + 1 := by have := len_with l x; split at this <;> omega
theorem out_le {l : List Int} (h : Rise l) (x : Int) : (outL l x).length ≤ l.length := by have := len_out h x; split at this <;> omega

theorem insert_any (A : Option Addr) (c : Nat) (l : List Int) (x : Int) (w : World) (hA : Ints w A l) (hlen : l.length ≤ 900) (hc : l.length ≤ c) (hr : Rise l) :
    Calls Tryz.prog 70 #[.slice A l.length c, .int .i64 x] w (DoPost (withL l x) (one (!isIn l x)) w) := by
  have H := with_any A c l x w hA hlen hc hr
  unfold CopyPost at H
  have hle := with_le l x
  have HE := Lib.hid (len_with_int l x)
  generalize withL l x = m at *
  clear hA
  go_enter Tryz.func70, Tryz.ntmps70
  go_wp2_with fail
  refine H.mono ?_
  rintro e w1 ⟨g, cap, rfl, ho, hB1⟩
  go_wp2
  refine bodyPost_ret (v := .tuple #[.slice (some ⟨g, 0, none⟩) m.length cap, .int .i64 ((m.length : Int) - (l.length : Int))]) (by simp [results, Tryz.f70, go_sem]) rfl ?_
  rw [HE.out]
  exact ⟨g, cap, rfl, ho, hB1⟩
theorem remove_any (A : Option Addr) (c : Nat) (l : List Int) (x : Int) (w : World) (hA : Ints w A l) (hlen : l.length ≤ 900) (hc : l.length ≤ c) (hr : Rise l) :
    Calls Tryz.prog 71 #[.slice A l.length c, .int .i64 x] w (DoPost (outL l x) (one (isIn l x)) w) := by
  have H := without_any A c l x w hA hlen hc hr
  unfold CopyPost at H
  have hle := out_le hr x
  have HE := Lib.hid (len_out_int hr x)
  generalize outL l x = m at *
  clear hA
  go_enter Tryz.func71, Tryz.ntmps71
  go_wp2_with fail
  refine H.mono ?_
  rintro e w1 ⟨g, cap, rfl, ho, hB1⟩
  go_wp2
  refine bodyPost_ret (v := .tuple #[.slice (some ⟨g, 0, none⟩) m.length cap, .int .i64 ((l.length : Int) - (m.length : Int))]) (by simp [results, Tryz.f71, go_sem]) rfl ?_
  rw [HE.out]
  exact ⟨g, cap, rfl, ho, hB1⟩
theorem has_any (A : Option Addr) (c : Nat) (l : List Int) (x : Int) (w : World) (hA : Ints w A l) (hlen : l.length ≤ 900) (hr : Rise l) :
    Calls Tryz.prog 72 #[.slice A l.length c, .int .i64 x] w (DoPost l (one (isIn l x)) w) := by
  have HF := find_any A c l x w hA (by omega) hr
  unfold foundV at HF
  have HA := Lib.hid hA
  have HAG := fun W (h : Below w.heap.size w W) => again_any A c l W (HA.out.below h) (by omega)
  clear hA
  cases hin : isIn l x
  all_goals rw [hin] at HF
  · go_enter Tryz.func72, Tryz.ntmps72
    go_wp2_with fail
    refine HF.mono ?_
    rintro e w1 ⟨rfl, hB1⟩
    go_wp2_with fail
    refine (HAG w1 hB1).mono ?_
    rintro e w2 ⟨g, cap, rfl, ho, hB2⟩
    go_wp2
    refine bodyPost_ret (v := .tuple #[.slice (some ⟨g, 0, none⟩) l.length cap, .int .i64 0]) (by simp [results, Tryz.f72, go_sem]) rfl ?_
    exact ⟨g, cap, rfl, row_more ho hB1.size, nxt hB1 hB2 hB1.size⟩
  · go_enter Tryz.func72, Tryz.ntmps72
    go_wp2_with fail
    refine HF.mono ?_
    rintro e w1 ⟨rfl, hB1⟩
    go_wp2_with fail
    refine (HAG w1 hB1).mono ?_
    rintro e w2 ⟨g, cap, rfl, ho, hB2⟩
    go_wp2
    refine bodyPost_ret (v := .tuple #[.slice (some ⟨g, 0, none⟩) l.length cap, .int .i64 1]) (by simp [results, Tryz.f72, go_sem]) rfl ?_
    exact ⟨g, cap, rfl, row_more ho hB1.size, nxt hB1 hB2 hB1.size⟩
theorem se_size_any (A : Option Addr) (c : Nat) (l : List Int) (x : Int) (w : World) (hA : Ints w A l) (hlen : l.length ≤ 900) :
    Calls Tryz.prog 73 #[.slice A l.length c, .int .i64 x] w (DoPost l l.length w) := by
  have H := again_any A c l w hA (by omega)
  unfold CopyPost at H
  clear hA
  go_enter Tryz.func73, Tryz.ntmps73
  go_wp2_with fail
  refine H.mono ?_
  rintro e w1 ⟨g, cap, rfl, ho, hB1⟩
  go_wp2
  refine bodyPost_ret (v := .tuple #[.slice (some ⟨g, 0, none⟩) l.length cap, .int .i64 l.length]) (by simp [results, Tryz.f73, go_sem]) rfl ?_
  exact ⟨g, cap, rfl, ho, hB1⟩
def kindsV : Value := .agg #[.nilFunc, .nilFunc, .nilFunc, .func (.func 70) #[] #[], .func (.func 71) #[] #[], .func (.func 72) #[] #[], .func (.func 73) #[] #[]]
theorem kinds_any (w : World) : Calls Tryz.prog 55 #[] w (Says kindsV w) := by
  go_enter Tryz.func55, Tryz.ntmps55
  go_wp2
  refine bodyPost_ret (v := kindsV) (by simp [results, Tryz.f55, go_sem, kindsV]) rfl ?_
  exact ⟨rfl, alloc1 w _⟩
end Go.Proofs.YtmclpganipfadaaGreatDoor

namespace Go.Proofs.YtmclpganipfadaaGreatDoor
open Go.RowKit Go.Maps
set_option linter.unusedVariables false

theorem sapply_state (t n : Int) (A : Option Addr) (c : Nat) (l : List Int) (kd a b : Int) (w : World) (h : t ≠ 2) :
    Calls Tryz.prog 35 #[stV t n A l.length c, .int .i64 kd, .int .i64 a, .int .i64 b] w (SetPost 0 [] 0 0 12 w) := by
  have ht : (t != 2) = true := by rw [bne_iff_ne]; exact h
  clear h
  unfold stV
  go_enter Tryz.func35, Tryz.ntmps35
  go_wp2
  refine bodyPost_ret (v := ansV 0 0 0 0 12) (by simp [results, Tryz.f35, go_sem, ansV, stV, retV]) rfl ?_
  exact set_none _ _ _ (boxed3_below w _ _ _ _ _)
set_option maxHeartbeats 1000000 in
theorem sapply_form (n : Int) (A : Option Addr) (c : Nat) (l : List Int) (kd a b : Int) (w : World) (hA : Ints w A l) (hlen : l.length ≤ 1000) (h : ¬ (n = 0 ∧ Rise l)) :
    Calls Tryz.prog 35 #[stV 2 n A l.length c, .int .i64 kd, .int .i64 a, .int .i64 b] w (SetPost 0 [] 0 0 12 w) := by
  have hB0 := boxed3_below w 2 n A l.length c
  have H := check_any 2 n A c l _ (hA.below hB0) hlen
  have hc : checkE 2 n l = 5 := by
    have : fitsB 2 n l ≠ true := fun e => h (by
      simp only [fitsB] at e
      simp at e
      exact ⟨e.1, (rise_iff l).1 e.2⟩)
    simp [checkE, this]
  rw [hc] at H
  clear h
  have HZ := Lib.hid (boxed3_then w 2 n A l.length c)
  have HR := Lib.hid (boxed3_ret w 2 n A l.length c)
  have hsz := boxed3_size w 2 n A l.length c
  clear hc hA
  unfold stV at *
  go_enter Tryz.func35, Tryz.ntmps35
  go_wp2_with fail
  refine H.mono ?_
  rintro e w1 ⟨rfl, hB1⟩
  generalize boxed3 w 2 n A l.length c = W0 at *
  have HZ1 := Lib.hid (HZ.out.below hB1 (by omega))
  have HR1 := Lib.hid (HR.out.below hB1 (by omega))
  have z0 := HZ1.out.c (j := 0) rfl
  have z1 := HZ1.out.c (j := 1) rfl
  have z2 := HZ1.out.c (j := 2) rfl
  have r0 := HR1.out.c (j := 0) rfl
  have r1 := HR1.out.c (j := 1) rfl
  have y0 := HZ1.out.frozen 0
  have y1 := HZ1.out.frozen 1
  have y2 := HZ1.out.frozen 2
  have x0 := HR1.out.frozen 0
  have x1 := HR1.out.frozen 1
  have hBw := nxt hB0 hB1 (by omega)
  clear hsz
  go_wp2
  obtain ⟨HZ2, HR2, hB2⟩ := filled_holds (m := w.heap.size) HZ1.out HR1.out (by omega) 0 0 (.slice none 0 0) 0 0
  have k0 := HZ2.c (j := 0) rfl
  have k1 := HZ2.c (j := 1) rfl
  have k2 := HZ2.c (j := 2) rfl
  have q0 := HR2.c (j := 0) rfl
  have q1 := HR2.c (j := 1) rfl
  change bodyPost _ _ _ _ _ (filled w1 (w.heap.size + 1) 0 0 (.slice none 0 0) 0 0)
  generalize filled w1 (w.heap.size + 1) 0 0 (.slice none 0 0) 0 0 = W2 at *
  refine bodyPost_ret (v := ansV 0 0 0 0 12) (by simp [results, Tryz.f35, go_sem, ansV, stV, retV, k0, k1, k2, q0, q1]) rfl ?_
  exact set_none _ _ _ (nxt hBw hB2 (Nat.le_refl _))
set_option maxHeartbeats 1000000 in
theorem sapply_word (A : Option Addr) (c : Nat) (l : List Int) (kd a b : Int) (w : World) (hA : Ints w A l) (hlen : l.length ≤ 1000) (hr : Rise l) (h : kd < 3) :
    Calls Tryz.prog 35 #[stV 2 0 A l.length c, .int .i64 kd, .int .i64 a, .int .i64 b] w (SetPost 0 [] 0 0 6 w) := by
  have hB0 := boxed3_below w 2 0 A l.length c
  have H := check_any 2 0 A c l _ (hA.below hB0) hlen
  have hc : checkE 2 0 l = 0 := by
    simp [checkE, fitsB, (rise_iff l).2 hr]
  rw [hc] at H
  have d1 : decide (kd < 3) = true := decide_eq_true h
  have HZ := Lib.hid (boxed3_then w 2 0 A l.length c)
  have HR := Lib.hid (boxed3_ret w 2 0 A l.length c)
  have hsz := boxed3_size w 2 0 A l.length c
  clear hc hA
  unfold stV at *
  go_enter Tryz.func35, Tryz.ntmps35
  go_wp2_with fail
  refine H.mono ?_
  rintro e w1 ⟨rfl, hB1⟩
  generalize boxed3 w 2 0 A l.length c = W0 at *
  have HZ1 := Lib.hid (HZ.out.below hB1 (by omega))
  have HR1 := Lib.hid (HR.out.below hB1 (by omega))
  have z0 := HZ1.out.c (j := 0) rfl
  have z1 := HZ1.out.c (j := 1) rfl
  have z2 := HZ1.out.c (j := 2) rfl
  have r0 := HR1.out.c (j := 0) rfl
  have r1 := HR1.out.c (j := 1) rfl
  have y0 := HZ1.out.frozen 0
  have y1 := HZ1.out.frozen 1
  have y2 := HZ1.out.frozen 2
  have x0 := HR1.out.frozen 0
  have x1 := HR1.out.frozen 1
  have hBw := nxt hB0 hB1 (by omega)
  clear hsz
  go_wp2
  obtain ⟨HZ2, HR2, hB2⟩ := filled_holds (m := w.heap.size) HZ1.out HR1.out (by omega) 0 0 (.slice none 0 0) 0 0
  have k0 := HZ2.c (j := 0) rfl
  have k1 := HZ2.c (j := 1) rfl
  have k2 := HZ2.c (j := 2) rfl
  have q0 := HR2.c (j := 0) rfl
  have q1 := HR2.c (j := 1) rfl
  change bodyPost _ _ _ _ _ (filled w1 (w.heap.size + 1) 0 0 (.slice none 0 0) 0 0)
  generalize filled w1 (w.heap.size + 1) 0 0 (.slice none 0 0) 0 0 = W2 at *
  refine bodyPost_ret (v := ansV 0 0 0 0 6) (by simp [results, Tryz.f35, go_sem, ansV, stV, retV, k0, k1, k2, q0, q1]) rfl ?_
  exact set_none _ _ _ (nxt hBw hB2 (Nat.le_refl _))
set_option maxHeartbeats 1000000 in
theorem sapply_word2 (A : Option Addr) (c : Nat) (l : List Int) (kd a b : Int) (w : World) (hA : Ints w A l) (hlen : l.length ≤ 1000) (hr : Rise l) (h : 6 < kd) :
    Calls Tryz.prog 35 #[stV 2 0 A l.length c, .int .i64 kd, .int .i64 a, .int .i64 b] w (SetPost 0 [] 0 0 6 w) := by
  have hB0 := boxed3_below w 2 0 A l.length c
  have H := check_any 2 0 A c l _ (hA.below hB0) hlen
  have hc : checkE 2 0 l = 0 := by
    simp [checkE, fitsB, (rise_iff l).2 hr]
  rw [hc] at H
  have d1 : decide (kd < 3) = false := decide_eq_false (by omega)
  have d2 : decide (6 < kd) = true := decide_eq_true h
  have HZ := Lib.hid (boxed3_then w 2 0 A l.length c)
  have HR := Lib.hid (boxed3_ret w 2 0 A l.length c)
  have hsz := boxed3_size w 2 0 A l.length c
  clear hc hA
  unfold stV at *
  go_enter Tryz.func35, Tryz.ntmps35
  go_wp2_with fail
  refine H.mono ?_
  rintro e w1 ⟨rfl, hB1⟩
  generalize boxed3 w 2 0 A l.length c = W0 at *
  have HZ1 := Lib.hid (HZ.out.below hB1 (by omega))
  have HR1 := Lib.hid (HR.out.below hB1 (by omega))
  have z0 := HZ1.out.c (j := 0) rfl
  have z1 := HZ1.out.c (j := 1) rfl
  have z2 := HZ1.out.c (j := 2) rfl
  have r0 := HR1.out.c (j := 0) rfl
  have r1 := HR1.out.c (j := 1) rfl
  have y0 := HZ1.out.frozen 0
  have y1 := HZ1.out.frozen 1
  have y2 := HZ1.out.frozen 2
  have x0 := HR1.out.frozen 0
  have x1 := HR1.out.frozen 1
  have hBw := nxt hB0 hB1 (by omega)
  clear hsz
  go_wp2
  obtain ⟨HZ2, HR2, hB2⟩ := filled_holds (m := w.heap.size) HZ1.out HR1.out (by omega) 0 0 (.slice none 0 0) 0 0
  have k0 := HZ2.c (j := 0) rfl
  have k1 := HZ2.c (j := 1) rfl
  have k2 := HZ2.c (j := 2) rfl
  have q0 := HR2.c (j := 0) rfl
  have q1 := HR2.c (j := 1) rfl
  change bodyPost _ _ _ _ _ (filled w1 (w.heap.size + 1) 0 0 (.slice none 0 0) 0 0)
  generalize filled w1 (w.heap.size + 1) 0 0 (.slice none 0 0) 0 0 = W2 at *
  refine bodyPost_ret (v := ansV 0 0 0 0 6) (by simp [results, Tryz.f35, go_sem, ansV, stV, retV, k0, k1, k2, q0, q1]) rfl ?_
  exact set_none _ _ _ (nxt hBw hB2 (Nat.le_refl _))
set_option maxHeartbeats 1000000 in
theorem sapply_arg (A : Option Addr) (c : Nat) (l : List Int) (kd a b : Int) (w : World) (hA : Ints w A l) (hlen : l.length ≤ 1000) (hr : Rise l) (h1 : 3 ≤ kd) (h2 : kd ≤ 6) (h : b ≠ 0) :
    Calls Tryz.prog 35 #[stV 2 0 A l.length c, .int .i64 kd, .int .i64 a, .int .i64 b] w (SetPost 0 [] 0 0 2 w) := by
  have hB0 := boxed3_below w 2 0 A l.length c
  have H := check_any 2 0 A c l _ (hA.below hB0) hlen
  have hc : checkE 2 0 l = 0 := by
    simp [checkE, fitsB, (rise_iff l).2 hr]
  rw [hc] at H
  have d1 : decide (kd < 3) = false := decide_eq_false (by omega)
  have d2 : decide (6 < kd) = false := decide_eq_false (by omega)
  have d3 : (b != 0) = true := by rw [bne_iff_ne]; exact h
  have HZ := Lib.hid (boxed3_then w 2 0 A l.length c)
  have HR := Lib.hid (boxed3_ret w 2 0 A l.length c)
  have hsz := boxed3_size w 2 0 A l.length c
  clear hc hA
  unfold stV at *
  go_enter Tryz.func35, Tryz.ntmps35
  go_wp2_with fail
  refine H.mono ?_
  rintro e w1 ⟨rfl, hB1⟩
  generalize boxed3 w 2 0 A l.length c = W0 at *
  have HZ1 := Lib.hid (HZ.out.below hB1 (by omega))
  have HR1 := Lib.hid (HR.out.below hB1 (by omega))
  have z0 := HZ1.out.c (j := 0) rfl
  have z1 := HZ1.out.c (j := 1) rfl
  have z2 := HZ1.out.c (j := 2) rfl
  have r0 := HR1.out.c (j := 0) rfl
  have r1 := HR1.out.c (j := 1) rfl
  have y0 := HZ1.out.frozen 0
  have y1 := HZ1.out.frozen 1
  have y2 := HZ1.out.frozen 2
  have x0 := HR1.out.frozen 0
  have x1 := HR1.out.frozen 1
  have hBw := nxt hB0 hB1 (by omega)
  clear hsz
  go_wp2
  obtain ⟨HZ2, HR2, hB2⟩ := filled_holds (m := w.heap.size) HZ1.out HR1.out (by omega) 0 0 (.slice none 0 0) 0 0
  have k0 := HZ2.c (j := 0) rfl
  have k1 := HZ2.c (j := 1) rfl
  have k2 := HZ2.c (j := 2) rfl
  have q0 := HR2.c (j := 0) rfl
  have q1 := HR2.c (j := 1) rfl
  change bodyPost _ _ _ _ _ (filled w1 (w.heap.size + 1) 0 0 (.slice none 0 0) 0 0)
  generalize filled w1 (w.heap.size + 1) 0 0 (.slice none 0 0) 0 0 = W2 at *
  refine bodyPost_ret (v := ansV 0 0 0 0 2) (by simp [results, Tryz.f35, go_sem, ansV, stV, retV, k0, k1, k2, q0, q1]) rfl ?_
  exact set_none _ _ _ (nxt hBw hB2 (Nat.le_refl _))
set_option maxHeartbeats 1000000 in
theorem sapply_arg2 (A : Option Addr) (c : Nat) (l : List Int) (a : Int) (w : World) (hA : Ints w A l) (hlen : l.length ≤ 1000) (hr : Rise l) (h : a ≠ 0) :
    Calls Tryz.prog 35 #[stV 2 0 A l.length c, .int .i64 6, .int .i64 a, .int .i64 0] w (SetPost 0 [] 0 0 2 w) := by
  have hB0 := boxed3_below w 2 0 A l.length c
  have H := check_any 2 0 A c l _ (hA.below hB0) hlen
  have hc : checkE 2 0 l = 0 := by
    simp [checkE, fitsB, (rise_iff l).2 hr]
  rw [hc] at H
  have d3 : (a != 0) = true := by rw [bne_iff_ne]; exact h
  have HZ := Lib.hid (boxed3_then w 2 0 A l.length c)
  have HR := Lib.hid (boxed3_ret w 2 0 A l.length c)
  have hsz := boxed3_size w 2 0 A l.length c
  clear hc hA
  unfold stV at *
  go_enter Tryz.func35, Tryz.ntmps35
  go_wp2_with fail
  refine H.mono ?_
  rintro e w1 ⟨rfl, hB1⟩
  generalize boxed3 w 2 0 A l.length c = W0 at *
  have HZ1 := Lib.hid (HZ.out.below hB1 (by omega))
  have HR1 := Lib.hid (HR.out.below hB1 (by omega))
  have z0 := HZ1.out.c (j := 0) rfl
  have z1 := HZ1.out.c (j := 1) rfl
  have z2 := HZ1.out.c (j := 2) rfl
  have r0 := HR1.out.c (j := 0) rfl
  have r1 := HR1.out.c (j := 1) rfl
  have y0 := HZ1.out.frozen 0
  have y1 := HZ1.out.frozen 1
  have y2 := HZ1.out.frozen 2
  have x0 := HR1.out.frozen 0
  have x1 := HR1.out.frozen 1
  have hBw := nxt hB0 hB1 (by omega)
  clear hsz
  go_wp2
  obtain ⟨HZ2, HR2, hB2⟩ := filled_holds (m := w.heap.size) HZ1.out HR1.out (by omega) 0 0 (.slice none 0 0) 0 0
  have k0 := HZ2.c (j := 0) rfl
  have k1 := HZ2.c (j := 1) rfl
  have k2 := HZ2.c (j := 2) rfl
  have q0 := HR2.c (j := 0) rfl
  have q1 := HR2.c (j := 1) rfl
  change bodyPost _ _ _ _ _ (filled w1 (w.heap.size + 1) 0 0 (.slice none 0 0) 0 0)
  generalize filled w1 (w.heap.size + 1) 0 0 (.slice none 0 0) 0 0 = W2 at *
  refine bodyPost_ret (v := ansV 0 0 0 0 2) (by simp [results, Tryz.f35, go_sem, ansV, stV, retV, k0, k1, k2, q0, q1]) rfl ?_
  exact set_none _ _ _ (nxt hBw hB2 (Nat.le_refl _))
end Go.Proofs.YtmclpganipfadaaGreatDoor

namespace Go.Proofs.YtmclpganipfadaaGreatDoor
open Go.RowKit Go.Maps
set_option linter.unusedVariables false

set_option maxHeartbeats 1000000 in
theorem sapply_with (A : Option Addr) (c : Nat) (l : List Int) (kd a : Int) (w : World) (g : Nat) (m : List Int) (r : Int) (hA : Ints w A l) (hlen : l.length ≤ 900) (hr : Rise l)
    (h1 : decide (kd < 3) = false) (h2 : decide (6 < kd) = false) (h3 : (kd == 6) = false ∨ (kd == 6) = true ∧ (a != 0) = false)
    (hix : ∀ W : World, (Instr.index 80 kindsV (.int .i64 kd)).run Tryz.prog W = .ok (.func (.func g) #[] #[]) W)
    (eg : ∀ args w, (callFunc g args).run Tryz.prog w = .ok (.enter g args) w)
    (H : ∀ W, Below w.heap.size w W → Calls Tryz.prog g #[.slice A l.length c, .int .i64 a] W (DoPost m r W)) :
    Calls Tryz.prog 35 #[stV 2 0 A l.length c, .int .i64 kd, .int .i64 a, .int .i64 0] w (SetPost 2 m 2 r 0 w) := by
  have hB0 := boxed3_below w 2 0 A l.length c
  have HC := check_any 2 0 A c l _ (hA.below hB0) (by omega)
  have hc : checkE 2 0 l = 0 := by simp [checkE, fitsB, (rise_iff l).2 hr]
  rw [hc] at HC
  obtain ⟨va, hva⟩ : ∃ va, kindsV = va := ⟨_, rfl⟩
  rw [hva] at hix
  have HK : ∀ W : World, Calls Tryz.prog 55 #[] W (Says va W) := fun W => hva ▸ kinds_any W
  have HW := Lib.hid (boxed3_state w 2 0 A l.length c)
  have HZ := Lib.hid (boxed3_then w 2 0 A l.length c)
  have HR := Lib.hid (boxed3_ret w 2 0 A l.length c)
  have hsz := boxed3_size w 2 0 A l.length c
  clear hc hA hva
  unfold stV DoPost at *
  rcases h3 with h3 | ⟨h3, h4⟩
  · go_enter Tryz.func35, Tryz.ntmps35
    go_wp2_with fail
    refine HC.mono ?_
    rintro e w1 ⟨rfl, hB1⟩
    generalize boxed3 w 2 0 A l.length c = W0 at *
    have HW1 := Lib.hid (HW.out.below hB1 (by omega))
    have HZ1 := Lib.hid (HZ.out.below hB1 (by omega))
    have HR1 := Lib.hid (HR.out.below hB1 (by omega))
    have hBw := nxt hB0 hB1 (by omega)
    have hlt1 := HR1.out.lt
    clear hsz hB0 hB1
    go_wp2_with fail
    refine (HK _).mono ?_
    rintro e w2 ⟨rfl, hB2⟩
    have HW2 := Lib.hid (HW1.out.below hB2 (by omega))
    have HZ2 := Lib.hid (HZ1.out.below hB2 (by omega))
    have HR2 := Lib.hid (HR1.out.below hB2 (by omega))
    have hBw2 := nxt hBw hB2 hBw.size
    have hlt2 := HR2.out.lt
    have s2 := HW2.out.c (j := 2) rfl
    go_wp2_with fail
    refine (H w2 hBw2).mono ?_
    rintro e w3 ⟨g3, c3, rfl, ho3, hB3⟩
    have HZ3 := Lib.hid (HZ2.out.below hB3 (by omega))
    have HR3 := Lib.hid (HR2.out.below hB3 (by omega))
    have hBw3 := nxt hBw2 hB3 hBw2.size
    have z0 := HZ3.out.c (j := 0) rfl
    have z1 := HZ3.out.c (j := 1) rfl
    have z2 := HZ3.out.c (j := 2) rfl
    have r0 := HR3.out.c (j := 0) rfl
    have r1 := HR3.out.c (j := 1) rfl
    have y0 := HZ3.out.frozen 0
    have y1 := HZ3.out.frozen 1
    have y2 := HZ3.out.frozen 2
    have x0 := HR3.out.frozen 0
    have x1 := HR3.out.frozen 1
    go_wp2
    obtain ⟨HZ4, HR4, hB4⟩ := filled_holds (m := w.heap.size) HZ3.out HR3.out (by omega) 2 0 (.slice (some ⟨g3, 0, none⟩) m.length c3) 2 r
    have ho4 := row_mid (W' := filled w3 (w.heap.size + 1) 2 0 (.slice (some ⟨g3, 0, none⟩) m.length c3) 2 r) ho3 (fun B hB _ => filled_far _ _ _ _ _ _ _ B (by omega))
    have k0 := HZ4.c (j := 0) rfl
    have k1 := HZ4.c (j := 1) rfl
    have k2 := HZ4.c (j := 2) rfl
    have q0 := HR4.c (j := 0) rfl
    have q1 := HR4.c (j := 1) rfl
    change bodyPost _ _ _ _ _ (filled w3 (w.heap.size + 1) 2 0 (.slice (some ⟨g3, 0, none⟩) m.length c3) 2 r)
    generalize filled w3 (w.heap.size + 1) 2 0 (.slice (some ⟨g3, 0, none⟩) m.length c3) 2 r = W4 at *
    refine bodyPost_ret (v := .tuple #[stV 2 0 (some ⟨g3, 0, none⟩) m.length c3, retV 2 r, .int .i64 0]) (by simp [results, Tryz.f35, go_sem, stV, retV, k0, k1, k2, q0, q1]) rfl ?_
    exact ⟨_, c3, rfl, row_more ho4 hBw2.size, nxt hBw3 hB4 (Nat.le_refl _)⟩
  · go_enter Tryz.func35, Tryz.ntmps35
    go_wp2_with fail
    refine HC.mono ?_
    rintro e w1 ⟨rfl, hB1⟩
    generalize boxed3 w 2 0 A l.length c = W0 at *
    have HW1 := Lib.hid (HW.out.below hB1 (by omega))
    have HZ1 := Lib.hid (HZ.out.below hB1 (by omega))
    have HR1 := Lib.hid (HR.out.below hB1 (by omega))
    have hBw := nxt hB0 hB1 (by omega)
    have hlt1 := HR1.out.lt
    clear hsz hB0 hB1
    go_wp2_with fail
    refine (HK _).mono ?_
    rintro e w2 ⟨rfl, hB2⟩
    have HW2 := Lib.hid (HW1.out.below hB2 (by omega))
    have HZ2 := Lib.hid (HZ1.out.below hB2 (by omega))
    have HR2 := Lib.hid (HR1.out.below hB2 (by omega))
    have hBw2 := nxt hBw hB2 hBw.size
    have hlt2 := HR2.out.lt
    have s2 := HW2.out.c (j := 2) rfl
    go_wp2_with fail
    refine (H w2 hBw2).mono ?_
    rintro e w3 ⟨g3, c3, rfl, ho3, hB3⟩
    have HZ3 := Lib.hid (HZ2.out.below hB3 (by omega))
    have HR3 := Lib.hid (HR2.out.below hB3 (by omega))
    have hBw3 := nxt hBw2 hB3 hBw2.size
    have z0 := HZ3.out.c (j := 0) rfl
    have z1 := HZ3.out.c (j := 1) rfl
    have z2 := HZ3.out.c (j := 2) rfl
    have r0 := HR3.out.c (j := 0) rfl
    have r1 := HR3.out.c (j := 1) rfl
    have y0 := HZ3.out.frozen 0
    have y1 := HZ3.out.frozen 1
    have y2 := HZ3.out.frozen 2
    have x0 := HR3.out.frozen 0
    have x1 := HR3.out.frozen 1
    go_wp2
    obtain ⟨HZ4, HR4, hB4⟩ := filled_holds (m := w.heap.size) HZ3.out HR3.out (by omega) 2 0 (.slice (some ⟨g3, 0, none⟩) m.length c3) 2 r
    have ho4 := row_mid (W' := filled w3 (w.heap.size + 1) 2 0 (.slice (some ⟨g3, 0, none⟩) m.length c3) 2 r) ho3 (fun B hB _ => filled_far _ _ _ _ _ _ _ B (by omega))
    have k0 := HZ4.c (j := 0) rfl
    have k1 := HZ4.c (j := 1) rfl
    have k2 := HZ4.c (j := 2) rfl
    have q0 := HR4.c (j := 0) rfl
    have q1 := HR4.c (j := 1) rfl
    change bodyPost _ _ _ _ _ (filled w3 (w.heap.size + 1) 2 0 (.slice (some ⟨g3, 0, none⟩) m.length c3) 2 r)
    generalize filled w3 (w.heap.size + 1) 2 0 (.slice (some ⟨g3, 0, none⟩) m.length c3) 2 r = W4 at *
    refine bodyPost_ret (v := .tuple #[stV 2 0 (some ⟨g3, 0, none⟩) m.length c3, retV 2 r, .int .i64 0]) (by simp [results, Tryz.f35, go_sem, stV, retV, k0, k1, k2, q0, q1]) rfl ?_
    exact ⟨_, c3, rfl, row_more ho4 hBw2.size, nxt hBw3 hB4 (Nat.le_refl _)⟩

theorem sapply_insert (A : Option Addr) (c : Nat) (l : List Int) (x : Int) (w : World) (hA : Ints w A l) (hlen : l.length ≤ 900) (hc : l.length ≤ c) (hr : Rise l) :
    Calls Tryz.prog 35 #[stV 2 0 A l.length c, .int .i64 3, .int .i64 x, .int .i64 0] w (SetPost 2 (withL l x) 2 (one (!isIn l x)) 0 w) :=
  sapply_with A c l 3 x w 70 _ _ hA hlen hr rfl rfl (.inl rfl) (fun W => by kernel_rfl) (Go.Proofs.enters_of Tryz.func70 (by kernel_rfl) rfl) (fun W hB => insert_any A c l x W (hA.below hB) hlen hc hr)
theorem sapply_remove (A : Option Addr) (c : Nat) (l : List Int) (x : Int) (w : World) (hA : Ints w A l) (hlen : l.length ≤ 900) (hc : l.length ≤ c) (hr : Rise l) :
    Calls Tryz.prog 35 #[stV 2 0 A l.length c, .int .i64 4, .int .i64 x, .int .i64 0] w (SetPost 2 (outL l x) 2 (one (isIn l x)) 0 w) :=
  sapply_with A c l 4 x w 71 _ _ hA hlen hr rfl rfl (.inl rfl) (fun W => by kernel_rfl) (Go.Proofs.enters_of Tryz.func71 (by kernel_rfl) rfl) (fun W hB => remove_any A c l x W (hA.below hB) hlen hc hr)
theorem sapply_has (A : Option Addr) (c : Nat) (l : List Int) (x : Int) (w : World) (hA : Ints w A l) (hlen : l.length ≤ 900) (hr : Rise l) :
    Calls Tryz.prog 35 #[stV 2 0 A l.length c, .int .i64 5, .int .i64 x, .int .i64 0] w (SetPost 2 l 2 (one (isIn l x)) 0 w) :=
  sapply_with A c l 5 x w 72 _ _ hA hlen hr rfl rfl (.inl rfl) (fun W => by kernel_rfl) (Go.Proofs.enters_of Tryz.func72 (by kernel_rfl) rfl) (fun W hB => has_any A c l x W (hA.below hB) hlen hr)
theorem sapply_size (A : Option Addr) (c : Nat) (l : List Int) (w : World) (hA : Ints w A l) (hlen : l.length ≤ 900) (hr : Rise l) :
    Calls Tryz.prog 35 #[stV 2 0 A l.length c, .int .i64 6, .int .i64 0, .int .i64 0] w (SetPost 2 l 2 l.length 0 w) :=
  sapply_with A c l 6 0 w 73 _ _ hA hlen hr rfl rfl (.inr ⟨rfl, rfl⟩) (fun W => by kernel_rfl) (Go.Proofs.enters_of Tryz.func73 (by kernel_rfl) rfl) (fun W hB => se_size_any A c l 0 W (hA.below hB) hlen)
end Go.Proofs.YtmclpganipfadaaGreatDoor

namespace Go.Proofs.YtmclpganipfadaaGreatDoor
open Go.RowKit Go.Maps
set_option linter.unusedVariables false

theorem low_take (l : List Int) (x : Int) (k : Nat) (h : k < l.length) : low (l.take (k + 1)) x = low (l.take k) x + (if l[k]?.getD 0 < x then 1 else 0) := by
  unfold low
  rw [take_snoc l k h, List.countP_append, List.getElem?_eq_getElem h]
  simp [List.countP_cons]
theorem isIn_take (l : List Int) (x : Int) (k : Nat) (h : k < l.length) : isIn (l.take (k + 1)) x = (isIn (l.take k) x || (l[k]?.getD 0 == x)) := by
  unfold isIn
  rw [take_snoc l k h, List.getElem?_eq_getElem h]
  simp only [List.contains_eq_any_beq, List.any_append, List.any_cons, List.any_nil, Bool.or_false, Option.getD_some]
  congr 1
  exact Bool.beq_comm
theorem low_take_le (l : List Int) (x : Int) (k : Nat) : low (l.take k) x ≤ k := Nat.le_trans (low_le _ _) (by rw [List.length_take]; omega)

set_option maxHeartbeats 1000000 in
theorem rfind_any (A : Option Addr) (c : Nat) (l : List Int) (x : Int) (w : World) (hA : Ints w A l) (hlen : l.length ≤ 1000) :
    Calls Tryz.prog 41 #[.slice A l.length c, .int .i64 x] w (Says (foundV l x) w) := by
  have HA := Lib.hid hA
  clear hA
  go_enter Tryz.func41, Tryz.ntmps41
  go_wp2
  go_loopw [6, 7, 8] (fun s6 s7 i wr => ∃ (k n : Nat) (b : Bool), k ≤ l.length ∧ i = .int .i64 k ∧ s6 = .int .i64 n ∧ n = low (l.take k) x ∧ s7 = .bool b ∧ b = isIn (l.take k) x ∧ wr = w) (fun s6 s7 i wr => l.length - (intOf i).toNat)
  case atStart => exact ⟨0, 0, false, Nat.zero_le _, rfl, rfl, rfl, rfl, rfl, rfl⟩
  case round =>
    obtain ⟨k, n, b, hk, rfl, rfl, hn, rfl, hb, rfl⟩ := hrel
    have hnk : n ≤ k := by rw [hn]; exact low_take_le _ _ _
    have HN := Lib.hid hn
    have HB := Lib.hid hb
    clear hn hb
    by_cases hlt : k < l.length
    · obtain ⟨bl, off, rfl, hbl, hc⟩ := HA.out (by omega)
      have hck := hc k hlt
      have hk0 : (0 : Int) ≤ (k : Int) := by omega
      have hk1 : (k : Int) < (l.length : Int) := by omega
      have q2 : decide (k < l.length) = true := decide_eq_true hlt
      have hlow := low_take l x k hlt
      have hisin := isIn_take l x k hlt
      obtain ⟨y, hy⟩ : ∃ y, l[k]?.getD 0 = y := ⟨_, rfl⟩
      rw [hy] at hck hlow hisin
      rw [← HN.out] at hlow
      rw [← HB.out] at hisin
      have HL := Lib.hid hlow
      have HI := Lib.hid hisin
      clear hc hy hlow hisin
      cases b with
      | true =>
        by_cases hyx : y < x
        · go_wp2
          go_roundw
          case rel => exact ⟨k + 1, n + 1, true, by omega, by go_num, by go_num, by rw [HL.out, if_pos hyx], rfl, HI.out.symm, trivial⟩
          case measure => simp [intOf]; omega
        · go_wp2
          go_roundw
          case rel => exact ⟨k + 1, n, true, by omega, by go_num, rfl, by rw [HL.out, if_neg hyx]; rfl, rfl, HI.out.symm, trivial⟩
          case measure => simp [intOf]; omega
      | false =>
        by_cases hyx : y < x
        · go_wp2
          go_roundw
          case rel => exact ⟨k + 1, n + 1, (y == x), by omega, by go_num, by go_num, by rw [HL.out, if_pos hyx], rfl, HI.out.symm, trivial⟩
          case measure => simp [intOf]; omega
        · go_wp2
          go_roundw
          case rel => exact ⟨k + 1, n, (y == x), by omega, by go_num, rfl, by rw [HL.out, if_neg hyx]; rfl, rfl, HI.out.symm, trivial⟩
          case measure => simp [intOf]; omega
    · have q2 : decide (k < l.length) = false := decide_eq_false hlt
      have hn := HN.out
      have hb := HB.out
      rw [List.take_of_length_le (by omega)] at hn hb
      have HN2 := Lib.hid hn
      have HB2 := Lib.hid hb
      clear hn hb
      go_wp2
      refine bodyPost_ret (v := .tuple #[.int .i64 n, .bool b]) (by simp [results, Tryz.f41, go_sem]) rfl ?_
      refine ⟨?_, Below.refl _ _⟩
      unfold foundV
      rw [← HN2.out, ← HB2.out]

set_option maxHeartbeats 1000000 in
theorem rwithout_any (A : Option Addr) (c : Nat) (l : List Int) (x : Int) (w : World) (hA : Ints w A l) (hlen : l.length ≤ 1000) :
    Calls Tryz.prog 44 #[.slice A l.length c, .int .i64 x] w (RowPost (outF l x) w) := by
  have HA := Lib.hid hA
  clear hA
  go_enter Tryz.func44, Tryz.ntmps44
  go_wp2
  go_loopw [5, 6] (fun s5 i wr => ∃ (k n : Nat), k ≤ l.length ∧ i = .int .i64 k ∧ wr.ownsRow w.heap.size 3 1 s5 n (intsOf (outF (l.take k) x)) ∧ n ≤ 1000 ∧ Below w.heap.size w wr) (fun s5 i wr => l.length - (intOf i).toNat)
  case atStart => exact ⟨0, 0, Nat.zero_le _, rfl, World.ownsRow_nil _ _ _ _, by omega, Below.refl _ _⟩
  case round =>
    obtain ⟨k, n, hk, rfl, ho, hn, hB⟩ := hrel
    have HO := Lib.hid ho
    have HBW := Lib.hid hB
    have hsz := hB.size
    have hA1 := HA.out.below hB
    clear ho hB
    by_cases hlt : k < l.length
    · obtain ⟨bl, off, rfl, hbl, hc⟩ := hA1 (by omega)
      have hck := hc k hlt
      have hk0 : (0 : Int) ≤ (k : Int) := by omega
      have hk1 : (k : Int) < (l.length : Int) := by omega
      have q2 : decide (k < l.length) = true := decide_eq_true hlt
      have hof := outF_snoc x l k hlt
      obtain ⟨y, hy⟩ : ∃ y, l[k]?.getD 0 = y := ⟨_, rfl⟩
      rw [hy] at hck hof
      have HF := Lib.hid hof
      have HS := Lib.hid (show w.heap.size ≤ (wr.alloc (.cells #[.int .i64 y] 3)).heap.size by simp; omega)
      have hbd : (outF (l.take (k + 1)) x).length ≤ 1000 := Nat.le_trans (outF_le _ _) (by rw [List.length_take]; omega)
      clear hc hy hof hA1
      by_cases hyx : y = x
      · have d1 : (y != x) = false := by rw [hyx]; simp
        have HYX := Lib.hid hyx
        clear hyx
        go_wp2
        go_roundw
        case rel => exact ⟨k + 1, n, by omega, by go_num, by rw [HF.out, if_pos HYX.out, List.append_nil]; exact HO.out, hn, HBW.out⟩
        case measure => simp [intOf]; omega
      · have d1 : (y != x) = true := by rw [bne_iff_ne]; exact hyx
        go_wp2_with (first
          | (at_builtin; refine wpList_app _ rfl _ _ 22 rfl w.heap.size Tryz.underlying22 _ _ _ rfl (row_below HO.out (alloc1 wr (.cells #[.int .i64 y] 3))) (some ⟨wr.heap.size, 0, none⟩) 1 1 [y] rfl rfl (ints_lit wr [y] 3 _ rfl) (by omega) (by omega) HS.out ?_; intro v3 w3 hown3 hg3 hn3; have hput := row_put HO.out HBW.out hown3 hg3; clear hown3 hg3 hn3))
        go_roundw
        case rel =>
          have hput' := hput.1
          rw [show outF (l.take k) x ++ [y] = outF (l.take (k + 1)) x by rw [HF.out, if_neg hyx]] at hput'
          exact ⟨k + 1, n + 1, by omega, by go_num, hput', by rw [row_n hput']; exact hbd, hput.2⟩
        case measure => simp [intOf]; omega
    · have q2 : decide (k < l.length) = false := decide_eq_false hlt
      go_wp2
      go_ret
      have := HO.out
      rw [List.take_of_length_le (by omega)] at this
      exact row_ends this HBW.out
end Go.Proofs.YtmclpganipfadaaGreatDoor

namespace Go.Proofs.YtmclpganipfadaaGreatDoor
open Go.RowKit Go.Maps
set_option linter.unusedVariables false

theorem rw_bd (x : Int) (l : List Int) (k : Nat) (h : k ≤ l.length) : (rwRun x (l.take k)).2.length ≤ k + 1 := by
  have := rw_len x l k h
  split at this <;> omega

set_option maxHeartbeats 2000000 in
theorem rwith_any (A : Option Addr) (c : Nat) (l : List Int) (x : Int) (w : World) (hA : Ints w A l) (hlen : l.length ≤ 1000) :
    Calls Tryz.prog 42 #[.slice A l.length c, .int .i64 x] w (RowPost (rwithL l x) w) := by
  have HA := Lib.hid hA
  clear hA
  go_enter Tryz.func42, Tryz.ntmps42
  go_wp2
  go_loopw [5, 6, 7] (fun s5 s6 i wr => ∃ (k n : Nat) (b : Bool) (o : List Int), k ≤ l.length ∧ i = .int .i64 k ∧ s6 = .bool b ∧ rwRun x (l.take k) = (b, o) ∧ wr.ownsRow w.heap.size 3 1 s5 n (intsOf o) ∧ n ≤ 1001 ∧ Below w.heap.size w wr) (fun s5 s6 i wr => l.length - (intOf i).toNat)
  case atStart => exact ⟨0, 0, false, [], Nat.zero_le _, rfl, rfl, rfl, World.ownsRow_nil _ _ _ _, by omega, Below.refl _ _⟩
  case round =>
    obtain ⟨k, n, b, o, hk, rfl, rfl, hrun, ho, hn, hB⟩ := hrel
    have HO := Lib.hid ho
    have HBW := Lib.hid hB
    have HRUN := Lib.hid hrun
    have hsz := hB.size
    have HSx := Lib.hid (room3 hB (.cells #[.int .i64 x] 3))
    clear ho hrun
    by_cases hlt : k < l.length
    · obtain ⟨bl, off, rfl, hbl, hc0⟩ := HA.out (by omega)
      have hc : ∀ W, Below w.heap.size w W → W.cell? ⟨bl, off + k, none⟩ = some (.int .i64 (l[k]?.getD 0)) := fun W h => (h.cell (p := ⟨bl, off + k, none⟩) hbl).trans (hc0 k hlt)
      have hck := hc wr hB
      have hk0 : (0 : Int) ≤ (k : Int) := by omega
      have hk1 : (k : Int) < (l.length : Int) := by omega
      have q2 : decide (k < l.length) = true := decide_eq_true hlt
      have hst := rw_snoc x l k hlt
      have hbd := rw_bd x l (k + 1) (by omega)
      obtain ⟨y, hy⟩ : ∃ y, l[k]?.getD 0 = y := ⟨_, rfl⟩
      rw [hy] at hck hst hc
      rw [HRUN.out] at hst
      have HST := Lib.hid hst
      have HBD := Lib.hid hbd
      have HSy := Lib.hid (room3 hB (.cells #[.int .i64 y] 3))
      have HCK := Lib.hid hc
      clear hc hc0 hy hst hbd hB
      cases b with
      | true =>
        by_cases hyx : y = x
        · have d1 : (y != x) = false := by rw [hyx]; simp
          have HYX := Lib.hid hyx
          clear hyx
          go_wp2
          go_roundw
          case rel => exact ⟨k + 1, n, true, o, by omega, by go_num, rfl, by rw [HST.out]; simp [rwStep, HYX.out], HO.out, hn, HBW.out⟩
          case measure => simp [intOf]; omega
        · have d1 : (y != x) = true := by rw [bne_iff_ne]; exact hyx
          go_wp2_with (first
            | (at_builtin; refine wpList_app _ rfl _ _ 22 rfl w.heap.size Tryz.underlying22 _ _ _ rfl (row_below HO.out (alloc1 wr (.cells #[.int .i64 y] 3))) (some ⟨wr.heap.size, 0, none⟩) 1 1 [y] rfl rfl (ints_lit wr [y] 3 _ rfl) (by omega) (by omega) HSy.out ?_; intro v3 w3 hown3 hg3 hn3; have hput3 := row_put HO.out HBW.out hown3 hg3; clear hown3 hg3 hn3))
          go_roundw
          case rel =>
            have hst : rwRun x (l.take (k + 1)) = (true, o ++ [y]) := by rw [HST.out]; simp [rwStep, hyx]
            have hb2 := HBD.out
            rw [hst] at hb2
            exact ⟨k + 1, n + 1, true, o ++ [y], by omega, by go_num, rfl, hst, hput3.1, by rw [row_n hput3.1]; dsimp only at hb2; omega, hput3.2⟩
          case measure => simp [intOf]; omega
      | false =>
        by_cases hxy : x ≤ y
        · have d2 : decide (x ≤ y) = true := decide_eq_true hxy
          by_cases hyx : y = x
          · have d1 : (y != x) = false := by rw [hyx]; simp
            have HYX := Lib.hid hyx
            clear hyx
            go_wp2_with (first
              | (at_builtin; refine wpList_app _ rfl _ _ 22 rfl w.heap.size Tryz.underlying22 _ _ _ rfl (row_below HO.out (alloc1 wr (.cells #[.int .i64 x] 3))) (some ⟨wr.heap.size, 0, none⟩) 1 1 [x] rfl rfl (ints_lit wr [x] 3 _ rfl) (by omega) (by omega) HSx.out ?_; intro v3 w3 hown3 hg3 hn3; have hput3 := row_put HO.out HBW.out hown3 hg3; clear hown3 hg3 hn3; have hck3 := HCK.out w3 hput3.2))
            go_roundw
            case rel =>
              have hst : rwRun x (l.take (k + 1)) = (true, o ++ [x]) := by rw [HST.out]; simp [rwStep, HYX.out]
              have hb2 := HBD.out
              rw [hst] at hb2
              exact ⟨k + 1, n + 1, true, o ++ [x], by omega, by go_num, rfl, hst, hput3.1, by rw [row_n hput3.1]; dsimp only at hb2; omega, hput3.2⟩
            case measure => simp [intOf]; omega
          · have d1 : (y != x) = true := by rw [bne_iff_ne]; exact hyx
            go_wp2_with (first
              | (at_builtin; have hk := hput3; refine wpList_app _ rfl _ _ 22 rfl w.heap.size Tryz.underlying22 _ _ _ rfl (row_below hput3.1 (alloc1 w3 (.cells #[.int .i64 y] 3))) (some ⟨w3.heap.size, 0, none⟩) 1 1 [y] rfl rfl (ints_lit w3 [y] 3 _ rfl) (by omega) (by omega) (room3 hput3.2 _) ?_; intro v4 w4 hown4 hg4 hn4; have hput4 := row_put hput3.1 hput3.2 hown4 hg4; clear hown4 hg4 hn4)
              | (at_builtin; refine wpList_app _ rfl _ _ 22 rfl w.heap.size Tryz.underlying22 _ _ _ rfl (row_below HO.out (alloc1 wr (.cells #[.int .i64 x] 3))) (some ⟨wr.heap.size, 0, none⟩) 1 1 [x] rfl rfl (ints_lit wr [x] 3 _ rfl) (by omega) (by omega) HSx.out ?_; intro v3 w3 hown3 hg3 hn3; have hput3 := row_put HO.out HBW.out hown3 hg3; clear hown3 hg3 hn3; have hck3 := HCK.out w3 hput3.2))
            go_roundw
            case rel =>
              have hst : rwRun x (l.take (k + 1)) = (true, o ++ [x] ++ [y]) := by rw [HST.out]; simp [rwStep, hyx, hxy]
              have hb2 := HBD.out
              rw [hst] at hb2
              exact ⟨k + 1, n + 1 + 1, true, o ++ [x] ++ [y], by omega, by go_num, rfl, hst, hput4.1, by rw [row_n hput4.1]; dsimp only at hb2; omega, hput4.2⟩
            case measure => simp [intOf]; omega
        · have d2 : decide (x ≤ y) = false := decide_eq_false hxy
          have hyx : ¬ y = x := by omega
          have d1 : (y != x) = true := by rw [bne_iff_ne]; exact hyx
          go_wp2_with (first
            | (at_builtin; refine wpList_app _ rfl _ _ 22 rfl w.heap.size Tryz.underlying22 _ _ _ rfl (row_below HO.out (alloc1 wr (.cells #[.int .i64 y] 3))) (some ⟨wr.heap.size, 0, none⟩) 1 1 [y] rfl rfl (ints_lit wr [y] 3 _ rfl) (by omega) (by omega) HSy.out ?_; intro v3 w3 hown3 hg3 hn3; have hput3 := row_put HO.out HBW.out hown3 hg3; clear hown3 hg3 hn3))
          go_roundw
          case rel =>
            have hst : rwRun x (l.take (k + 1)) = (false, o ++ [y]) := by rw [HST.out]; simp [rwStep, hyx, hxy]
            have hb2 := HBD.out
            rw [hst] at hb2
            exact ⟨k + 1, n + 1, false, o ++ [y], by omega, by go_num, rfl, hst, hput3.1, by rw [row_n hput3.1]; dsimp only at hb2; omega, hput3.2⟩
          case measure => simp [intOf]; omega
    · have q2 : decide (k < l.length) = false := decide_eq_false hlt
      have hrun := HRUN.out
      rw [List.take_of_length_le (by omega)] at hrun
      have HR2 := Lib.hid hrun
      clear hrun
      cases b with
      | true =>
        have HE : Hid (rwithL l x = o) := by show rwithL l x = o; unfold rwithL; rw [HR2.out]; rfl
        go_wp2
        go_ret
        rw [HE.out]
        exact row_ends HO.out HBW.out
      | false =>
        have HE : Hid (rwithL l x = o ++ [x]) := by show rwithL l x = o ++ [x]; unfold rwithL; rw [HR2.out]; rfl
        go_wp2_with (first
          | (at_builtin; refine wpList_app _ rfl _ _ 22 rfl w.heap.size Tryz.underlying22 _ _ _ rfl (row_below HO.out (alloc1 wr (.cells #[.int .i64 x] 3))) (some ⟨wr.heap.size, 0, none⟩) 1 1 [x] rfl rfl (ints_lit wr [x] 3 _ rfl) (by omega) (by omega) HSx.out ?_; intro v3 w3 hown3 hg3 hn3; have hput3 := row_put HO.out HBW.out hown3 hg3; clear hown3 hg3 hn3))
        go_ret
        rw [HE.out]
        exact row_ends hput3.1 hput3.2

end Go.Proofs.YtmclpganipfadaaGreatDoor

namespace Go.Proofs.YtmclpganipfadaaGreatDoor
open Go.RowKit Go.Maps
set_option linter.unusedVariables false

theorem rsapply_state (t n : Int) (A : Option Addr) (c : Nat) (l : List Int) (kd a b : Int) (w : World) (h : t ≠ 2) :
    Calls Tryz.prog 26 #[stV t n A l.length c, .int .i64 kd, .int .i64 a, .int .i64 b] w (SetPost 0 [] 0 0 12 w) := by
  have ht : (t != 2) = true := by rw [bne_iff_ne]; exact h
  clear h
  unfold stV
  go_enter Tryz.func26, Tryz.ntmps26
  go_wp2
  refine bodyPost_ret (v := ansV 0 0 0 0 12) (by simp [results, Tryz.f26, go_sem, ansV, stV, retV]) rfl ?_
  exact set_none _ _ _ (boxed3_below w _ _ _ _ _)
set_option maxHeartbeats 1000000 in
theorem rsapply_form (n : Int) (A : Option Addr) (c : Nat) (l : List Int) (kd a b : Int) (w : World) (hA : Ints w A l) (hlen : l.length ≤ 1000) (h : ¬ (n = 0 ∧ Rise l)) :
    Calls Tryz.prog 26 #[stV 2 n A l.length c, .int .i64 kd, .int .i64 a, .int .i64 b] w (SetPost 0 [] 0 0 12 w) := by
  have hB0 := boxed3_below w 2 n A l.length c
  have H := rcheck_any 2 n A c l _ (hA.below hB0) hlen
  have hc : checkE 2 n l = 5 := by
    have : fitsB 2 n l ≠ true := fun e => h (by
      simp only [fitsB] at e
      simp at e
      exact ⟨e.1, (rise_iff l).1 e.2⟩)
    simp [checkE, this]
  rw [hc] at H
  clear h
  have HZ := Lib.hid (boxed3_then w 2 n A l.length c)
  have HR := Lib.hid (boxed3_ret w 2 n A l.length c)
  have hsz := boxed3_size w 2 n A l.length c
  clear hc hA
  unfold stV at *
  go_enter Tryz.func26, Tryz.ntmps26
  go_wp2_with fail
  refine H.mono ?_
  rintro e w1 ⟨rfl, hB1⟩
  generalize boxed3 w 2 n A l.length c = W0 at *
  have HZ1 := Lib.hid (HZ.out.below hB1 (by omega))
  have HR1 := Lib.hid (HR.out.below hB1 (by omega))
  have z0 := HZ1.out.c (j := 0) rfl
  have z1 := HZ1.out.c (j := 1) rfl
  have z2 := HZ1.out.c (j := 2) rfl
  have r0 := HR1.out.c (j := 0) rfl
  have r1 := HR1.out.c (j := 1) rfl
  have y0 := HZ1.out.frozen 0
  have y1 := HZ1.out.frozen 1
  have y2 := HZ1.out.frozen 2
  have x0 := HR1.out.frozen 0
  have x1 := HR1.out.frozen 1
  have hBw := nxt hB0 hB1 (by omega)
  clear hsz
  go_wp2
  obtain ⟨HZ2, HR2, hB2⟩ := filled_holds (m := w.heap.size) HZ1.out HR1.out (by omega) 0 0 (.slice none 0 0) 0 0
  have k0 := HZ2.c (j := 0) rfl
  have k1 := HZ2.c (j := 1) rfl
  have k2 := HZ2.c (j := 2) rfl
  have q0 := HR2.c (j := 0) rfl
  have q1 := HR2.c (j := 1) rfl
  change bodyPost _ _ _ _ _ (filled w1 (w.heap.size + 1) 0 0 (.slice none 0 0) 0 0)
  generalize filled w1 (w.heap.size + 1) 0 0 (.slice none 0 0) 0 0 = W2 at *
  refine bodyPost_ret (v := ansV 0 0 0 0 12) (by simp [results, Tryz.f26, go_sem, ansV, stV, retV, k0, k1, k2, q0, q1]) rfl ?_
  exact set_none _ _ _ (nxt hBw hB2 (Nat.le_refl _))
set_option maxHeartbeats 1000000 in
theorem rsapply_word (A : Option Addr) (c : Nat) (l : List Int) (kd a b : Int) (w : World) (hA : Ints w A l) (hlen : l.length ≤ 1000) (hr : Rise l) (h : kd < 3) :
    Calls Tryz.prog 26 #[stV 2 0 A l.length c, .int .i64 kd, .int .i64 a, .int .i64 b] w (SetPost 0 [] 0 0 6 w) := by
  have hB0 := boxed3_below w 2 0 A l.length c
  have H := rcheck_any 2 0 A c l _ (hA.below hB0) hlen
  have hc : checkE 2 0 l = 0 := by
    simp [checkE, fitsB, (rise_iff l).2 hr]
  rw [hc] at H
  have d1 : decide (kd < 3) = true := decide_eq_true h
  have HZ := Lib.hid (boxed3_then w 2 0 A l.length c)
  have HR := Lib.hid (boxed3_ret w 2 0 A l.length c)
  have hsz := boxed3_size w 2 0 A l.length c
  clear hc hA
  unfold stV at *
  go_enter Tryz.func26, Tryz.ntmps26
  go_wp2_with fail
  refine H.mono ?_
  rintro e w1 ⟨rfl, hB1⟩
  generalize boxed3 w 2 0 A l.length c = W0 at *
  have HZ1 := Lib.hid (HZ.out.below hB1 (by omega))
  have HR1 := Lib.hid (HR.out.below hB1 (by omega))
  have z0 := HZ1.out.c (j := 0) rfl
  have z1 := HZ1.out.c (j := 1) rfl
  have z2 := HZ1.out.c (j := 2) rfl
  have r0 := HR1.out.c (j := 0) rfl
  have r1 := HR1.out.c (j := 1) rfl
  have y0 := HZ1.out.frozen 0
  have y1 := HZ1.out.frozen 1
  have y2 := HZ1.out.frozen 2
  have x0 := HR1.out.frozen 0
  have x1 := HR1.out.frozen 1
  have hBw := nxt hB0 hB1 (by omega)
  clear hsz
  go_wp2
  obtain ⟨HZ2, HR2, hB2⟩ := filled_holds (m := w.heap.size) HZ1.out HR1.out (by omega) 0 0 (.slice none 0 0) 0 0
  have k0 := HZ2.c (j := 0) rfl
  have k1 := HZ2.c (j := 1) rfl
  have k2 := HZ2.c (j := 2) rfl
  have q0 := HR2.c (j := 0) rfl
  have q1 := HR2.c (j := 1) rfl
  change bodyPost _ _ _ _ _ (filled w1 (w.heap.size + 1) 0 0 (.slice none 0 0) 0 0)
  generalize filled w1 (w.heap.size + 1) 0 0 (.slice none 0 0) 0 0 = W2 at *
  refine bodyPost_ret (v := ansV 0 0 0 0 6) (by simp [results, Tryz.f26, go_sem, ansV, stV, retV, k0, k1, k2, q0, q1]) rfl ?_
  exact set_none _ _ _ (nxt hBw hB2 (Nat.le_refl _))
set_option maxHeartbeats 1000000 in
theorem rsapply_word2 (A : Option Addr) (c : Nat) (l : List Int) (kd a b : Int) (w : World) (hA : Ints w A l) (hlen : l.length ≤ 1000) (hr : Rise l) (h : 6 < kd) :
    Calls Tryz.prog 26 #[stV 2 0 A l.length c, .int .i64 kd, .int .i64 a, .int .i64 b] w (SetPost 0 [] 0 0 6 w) := by
  have hB0 := boxed3_below w 2 0 A l.length c
  have H := rcheck_any 2 0 A c l _ (hA.below hB0) hlen
  have hc : checkE 2 0 l = 0 := by
    simp [checkE, fitsB, (rise_iff l).2 hr]
  rw [hc] at H
  have d1 : decide (kd < 3) = false := decide_eq_false (by omega)
  have d2 : decide (6 < kd) = true := decide_eq_true h
  have HZ := Lib.hid (boxed3_then w 2 0 A l.length c)
  have HR := Lib.hid (boxed3_ret w 2 0 A l.length c)
  have hsz := boxed3_size w 2 0 A l.length c
  clear hc hA
  unfold stV at *
  go_enter Tryz.func26, Tryz.ntmps26
  go_wp2_with fail
  refine H.mono ?_
  rintro e w1 ⟨rfl, hB1⟩
  generalize boxed3 w 2 0 A l.length c = W0 at *
  have HZ1 := Lib.hid (HZ.out.below hB1 (by omega))
  have HR1 := Lib.hid (HR.out.below hB1 (by omega))
  have z0 := HZ1.out.c (j := 0) rfl
  have z1 := HZ1.out.c (j := 1) rfl
  have z2 := HZ1.out.c (j := 2) rfl
  have r0 := HR1.out.c (j := 0) rfl
  have r1 := HR1.out.c (j := 1) rfl
  have y0 := HZ1.out.frozen 0
  have y1 := HZ1.out.frozen 1
  have y2 := HZ1.out.frozen 2
  have x0 := HR1.out.frozen 0
  have x1 := HR1.out.frozen 1
  have hBw := nxt hB0 hB1 (by omega)
  clear hsz
  go_wp2
  obtain ⟨HZ2, HR2, hB2⟩ := filled_holds (m := w.heap.size) HZ1.out HR1.out (by omega) 0 0 (.slice none 0 0) 0 0
  have k0 := HZ2.c (j := 0) rfl
  have k1 := HZ2.c (j := 1) rfl
  have k2 := HZ2.c (j := 2) rfl
  have q0 := HR2.c (j := 0) rfl
  have q1 := HR2.c (j := 1) rfl
  change bodyPost _ _ _ _ _ (filled w1 (w.heap.size + 1) 0 0 (.slice none 0 0) 0 0)
  generalize filled w1 (w.heap.size + 1) 0 0 (.slice none 0 0) 0 0 = W2 at *
  refine bodyPost_ret (v := ansV 0 0 0 0 6) (by simp [results, Tryz.f26, go_sem, ansV, stV, retV, k0, k1, k2, q0, q1]) rfl ?_
  exact set_none _ _ _ (nxt hBw hB2 (Nat.le_refl _))
set_option maxHeartbeats 1000000 in
theorem rsapply_arg (A : Option Addr) (c : Nat) (l : List Int) (kd a b : Int) (w : World) (hA : Ints w A l) (hlen : l.length ≤ 1000) (hr : Rise l) (h1 : 3 ≤ kd) (h2 : kd ≤ 6) (h : b ≠ 0) :
    Calls Tryz.prog 26 #[stV 2 0 A l.length c, .int .i64 kd, .int .i64 a, .int .i64 b] w (SetPost 0 [] 0 0 2 w) := by
  have hB0 := boxed3_below w 2 0 A l.length c
  have H := rcheck_any 2 0 A c l _ (hA.below hB0) hlen
  have hc : checkE 2 0 l = 0 := by
    simp [checkE, fitsB, (rise_iff l).2 hr]
  rw [hc] at H
  have d1 : decide (kd < 3) = false := decide_eq_false (by omega)
  have d2 : decide (6 < kd) = false := decide_eq_false (by omega)
  have d3 : (b != 0) = true := by rw [bne_iff_ne]; exact h
  have HZ := Lib.hid (boxed3_then w 2 0 A l.length c)
  have HR := Lib.hid (boxed3_ret w 2 0 A l.length c)
  have hsz := boxed3_size w 2 0 A l.length c
  clear hc hA
  unfold stV at *
  go_enter Tryz.func26, Tryz.ntmps26
  go_wp2_with fail
  refine H.mono ?_
  rintro e w1 ⟨rfl, hB1⟩
  generalize boxed3 w 2 0 A l.length c = W0 at *
  have HZ1 := Lib.hid (HZ.out.below hB1 (by omega))
  have HR1 := Lib.hid (HR.out.below hB1 (by omega))
  have z0 := HZ1.out.c (j := 0) rfl
  have z1 := HZ1.out.c (j := 1) rfl
  have z2 := HZ1.out.c (j := 2) rfl
  have r0 := HR1.out.c (j := 0) rfl
  have r1 := HR1.out.c (j := 1) rfl
  have y0 := HZ1.out.frozen 0
  have y1 := HZ1.out.frozen 1
  have y2 := HZ1.out.frozen 2
  have x0 := HR1.out.frozen 0
  have x1 := HR1.out.frozen 1
  have hBw := nxt hB0 hB1 (by omega)
  clear hsz
  go_wp2
  obtain ⟨HZ2, HR2, hB2⟩ := filled_holds (m := w.heap.size) HZ1.out HR1.out (by omega) 0 0 (.slice none 0 0) 0 0
  have k0 := HZ2.c (j := 0) rfl
  have k1 := HZ2.c (j := 1) rfl
  have k2 := HZ2.c (j := 2) rfl
  have q0 := HR2.c (j := 0) rfl
  have q1 := HR2.c (j := 1) rfl
  change bodyPost _ _ _ _ _ (filled w1 (w.heap.size + 1) 0 0 (.slice none 0 0) 0 0)
  generalize filled w1 (w.heap.size + 1) 0 0 (.slice none 0 0) 0 0 = W2 at *
  refine bodyPost_ret (v := ansV 0 0 0 0 2) (by simp [results, Tryz.f26, go_sem, ansV, stV, retV, k0, k1, k2, q0, q1]) rfl ?_
  exact set_none _ _ _ (nxt hBw hB2 (Nat.le_refl _))
set_option maxHeartbeats 1000000 in
theorem rsapply_arg2 (A : Option Addr) (c : Nat) (l : List Int) (a : Int) (w : World) (hA : Ints w A l) (hlen : l.length ≤ 1000) (hr : Rise l) (h : a ≠ 0) :
    Calls Tryz.prog 26 #[stV 2 0 A l.length c, .int .i64 6, .int .i64 a, .int .i64 0] w (SetPost 0 [] 0 0 2 w) := by
  have hB0 := boxed3_below w 2 0 A l.length c
  have H := rcheck_any 2 0 A c l _ (hA.below hB0) hlen
  have hc : checkE 2 0 l = 0 := by
    simp [checkE, fitsB, (rise_iff l).2 hr]
  rw [hc] at H
  have d3 : (a != 0) = true := by rw [bne_iff_ne]; exact h
  have HZ := Lib.hid (boxed3_then w 2 0 A l.length c)
  have HR := Lib.hid (boxed3_ret w 2 0 A l.length c)
  have hsz := boxed3_size w 2 0 A l.length c
  clear hc hA
  unfold stV at *
  go_enter Tryz.func26, Tryz.ntmps26
  go_wp2_with fail
  refine H.mono ?_
  rintro e w1 ⟨rfl, hB1⟩
  generalize boxed3 w 2 0 A l.length c = W0 at *
  have HZ1 := Lib.hid (HZ.out.below hB1 (by omega))
  have HR1 := Lib.hid (HR.out.below hB1 (by omega))
  have z0 := HZ1.out.c (j := 0) rfl
  have z1 := HZ1.out.c (j := 1) rfl
  have z2 := HZ1.out.c (j := 2) rfl
  have r0 := HR1.out.c (j := 0) rfl
  have r1 := HR1.out.c (j := 1) rfl
  have y0 := HZ1.out.frozen 0
  have y1 := HZ1.out.frozen 1
  have y2 := HZ1.out.frozen 2
  have x0 := HR1.out.frozen 0
  have x1 := HR1.out.frozen 1
  have hBw := nxt hB0 hB1 (by omega)
  clear hsz
  go_wp2
  obtain ⟨HZ2, HR2, hB2⟩ := filled_holds (m := w.heap.size) HZ1.out HR1.out (by omega) 0 0 (.slice none 0 0) 0 0
  have k0 := HZ2.c (j := 0) rfl
  have k1 := HZ2.c (j := 1) rfl
  have k2 := HZ2.c (j := 2) rfl
  have q0 := HR2.c (j := 0) rfl
  have q1 := HR2.c (j := 1) rfl
  change bodyPost _ _ _ _ _ (filled w1 (w.heap.size + 1) 0 0 (.slice none 0 0) 0 0)
  generalize filled w1 (w.heap.size + 1) 0 0 (.slice none 0 0) 0 0 = W2 at *
  refine bodyPost_ret (v := ansV 0 0 0 0 2) (by simp [results, Tryz.f26, go_sem, ansV, stV, retV, k0, k1, k2, q0, q1]) rfl ?_
  exact set_none _ _ _ (nxt hBw hB2 (Nat.le_refl _))

theorem number_any (b : Bool) (w : World) : Calls Tryz.prog 43 #[.bool b] w (Says (retV 2 (one b)) w) := by
  cases b
  · go_enter Tryz.func43, Tryz.ntmps43
    go_wp2
    refine bodyPost_ret (v := retV 2 0) (by simp [results, Tryz.f43, go_sem, retV]) rfl ?_
    exact ⟨rfl, alloc1 w _⟩
  · go_enter Tryz.func43, Tryz.ntmps43
    go_wp2
    refine bodyPost_ret (v := retV 2 1) (by simp [results, Tryz.f43, go_sem, retV]) rfl ?_
    exact ⟨rfl, alloc1 w _⟩
end Go.Proofs.YtmclpganipfadaaGreatDoor

namespace Go.Proofs.YtmclpganipfadaaGreatDoor
open Go.RowKit Go.Maps
set_option linter.unusedVariables false

set_option maxHeartbeats 2000000 in
theorem rsapply_insert (A : Option Addr) (c : Nat) (l : List Int) (x : Int) (w : World) (hA : Ints w A l) (hlen : l.length ≤ 900) (hr : Rise l) :
    Calls Tryz.prog 26 #[stV 2 0 A l.length c, .int .i64 3, .int .i64 x, .int .i64 0] w (SetPost 2 (withL l x) 2 (one (!isIn l x)) 0 w) := by
  have hB0 := boxed3_below w 2 0 A l.length c
  have HC := rcheck_any 2 0 A c l _ (hA.below hB0) (by omega)
  have hc : checkE 2 0 l = 0 := by simp [checkE, fitsB, (rise_iff l).2 hr]
  rw [hc] at HC
  have HFI := fun W (h : Below w.heap.size w W) => rfind_any A c l x W (hA.below h) (by omega)
  have HA := Lib.hid hA
  have HW := Lib.hid (boxed3_state w 2 0 A l.length c)
  have HZ := Lib.hid (boxed3_then w 2 0 A l.length c)
  have HR := Lib.hid (boxed3_ret w 2 0 A l.length c)
  have hsz := boxed3_size w 2 0 A l.length c
  clear hc hA
  unfold stV at *
  unfold foundV at HFI
  go_enter Tryz.func26, Tryz.ntmps26
  go_wp2_with fail
  refine HC.mono ?_
  rintro e w1 ⟨rfl, hB1⟩
  generalize boxed3 w 2 0 A l.length c = W0 at *
  have HW1 := Lib.hid (HW.out.below hB1 (by omega))
  have HZ1 := Lib.hid (HZ.out.below hB1 (by omega))
  have HR1 := Lib.hid (HR.out.below hB1 (by omega))
  have hBw := nxt hB0 hB1 (by omega)
  have hlt1 := HR1.out.lt
  have s2 := HW1.out.c (j := 2) rfl
  clear hsz hB0 hB1
  go_wp2_with fail
  refine (HFI w1 hBw).mono ?_
  rintro e w2 ⟨rfl, hB2⟩
  have HW2 := Lib.hid (HW1.out.below hB2 (by omega))
  have HZ2 := Lib.hid (HZ1.out.below hB2 (by omega))
  have HR2 := Lib.hid (HR1.out.below hB2 (by omega))
  have hBw2 := nxt hBw hB2 hBw.size
  have hlt2 := HR2.out.lt
  have t2 := HW2.out.c (j := 2) rfl
  have hrow := World.ownsRow_lit (base := w2.heap.size) (e := 3) (size := 1) w2 #[] 0 (Nat.le_refl _) (Nat.zero_le _) rfl
  have HROW := Lib.hid hrow
  have HA2 := Lib.hid ((HA.out.below hBw2).below (alloc1 w2 (.cells #[] 3)))
  have hs2a : w2.heap.size ≤ (w2.alloc (.cells #[] 3)).heap.size := by simp
  have c2x : (w2.alloc (.cells #[] 3)).cell? ⟨w.heap.size, 2, none⟩ = some (.slice A l.length c) := (HW2.out.alloc _).c (j := 2) rfl
  generalize low l x = lo at *
  generalize hbe : isIn l x = be at *
  have HBE := Lib.hid hbe
  clear hbe hrow s2
  go_wp2_with (first
    | (at_builtin; refine wpList_app _ rfl _ _ 22 rfl w2.heap.size Tryz.underlying22 _ _ _ rfl HROW.out A l.length c l rfl rfl HA2.out (by omega) (by omega) hs2a ?_; intro v3 w3 hown3 hg3 hn3; obtain ⟨g3, c3, rfl⟩ := form4 hown3 hn3; rw [Nat.zero_add, List.nil_append] at hown3; have hB3 : Below w2.heap.size w2 w3 := (alloc1 w2 _).trans (grown_below hg3 HROW.out hs2a); have HO3 := Lib.hid hown3; have u2 : (w3.alloc (.cells #[.int .i64 2, .int .i64 0, .slice (some ⟨g3, 0, none⟩) l.length c3] 24)).cell? ⟨w.heap.size, 2, none⟩ = some (.slice A l.length c) := ((HW2.out.below hB3 (by omega)).alloc _).c (j := 2) rfl; clear hg3 hn3 c2x t2 hown3))
  have hs3 := hB3.size
  have hBw3 := nxt hBw2 hB3 hBw2.size
  have hB4 := nxt hBw3 (alloc1 w3 (.cells #[.int .i64 2, .int .i64 0, .slice (some ⟨g3, 0, none⟩) l.length c3] 24)) hBw3.size
  have HZ4 := Lib.hid ((HZ2.out.below hB3 (by omega)).alloc (.cells #[.int .i64 2, .int .i64 0, .slice (some ⟨g3, 0, none⟩) l.length c3] 24))
  have HR4 := Lib.hid ((HR2.out.below hB3 (by omega)).alloc (.cells #[.int .i64 2, .int .i64 0, .slice (some ⟨g3, 0, none⟩) l.length c3] 24))
  have HW4 := Lib.hid ((HW2.out.below hB3 (by omega)).alloc (.cells #[.int .i64 2, .int .i64 0, .slice (some ⟨g3, 0, none⟩) l.length c3] 24))
  have HO4 := Lib.hid (Holds.new w3 24 #[.int .i64 2, .int .i64 0, .slice (some ⟨g3, 0, none⟩) l.length c3])
  have HV4 := Lib.hid (row_below HO3.out (alloc1 w3 (.cells #[.int .i64 2, .int .i64 0, .slice (some ⟨g3, 0, none⟩) l.length c3] 24)))
  have hs4 : w3.heap.size < (w3.alloc (.cells #[.int .i64 2, .int .i64 0, .slice (some ⟨g3, 0, none⟩) l.length c3] 24)).heap.size := by simp
  generalize w3.alloc (.cells #[.int .i64 2, .int .i64 0, .slice (some ⟨g3, 0, none⟩) l.length c3] 24) = W4 at *
  have HWI := rwith_any A c l x W4 (HA.out.below hB4) (by omega)
  rw [rwith_eq hr] at HWI
  unfold RowPost at HWI
  refine HWI.mono ?_
  rintro e w5 ⟨B5, d5, rfl, ho5, hB5⟩
  have HO5 := Lib.hid (HO4.out.below hB5 hs4)
  have HZ5 := Lib.hid (HZ4.out.below hB5 HZ4.out.lt)
  have HR5 := Lib.hid (HR4.out.below hB5 HR4.out.lt)
  have hBw5 := nxt hB4 hB5 hB4.size
  have o2 := HO5.out.c (j := 2) rfl
  have p2 := HO5.out.frozen 2
  clear u2
  go_wp2_with fail
  have HO6 := Lib.hid (HO5.out.set 2 (.slice B5 (withL l x).length d5))
  have hO6 := (Only.of (B := w3.heap.size) (Below.refl w5.heap.size w5) (Nat.le_refl _)).set 2 (.slice B5 (withL l x).length d5)
  have HZ6 := Lib.hid (HZ5.out.of (hO6.block _ HZ5.out.lt (by omega)))
  have HR6 := Lib.hid (HR5.out.of (hO6.block _ HR5.out.lt (by omega)))
  have HV6 := Lib.hid (row_mid (W' := w5.setCell ⟨w3.heap.size, 2, none⟩ (.slice B5 (withL l x).length d5)) ho5 (fun B hB hl => hO6.block B hl (by omega)))
  have hBw6 := nxt hBw5 (hO6.below (lo := w.heap.size) (by omega) hBw5.size) (Nat.le_refl _)
  have hs6 := hO6.size
  have hs5 := hB5.size
  clear o2 p2 hO6 ho5
  generalize w5.setCell ⟨w3.heap.size, 2, none⟩ (.slice B5 (withL l x).length d5) = W6 at *
  have hlo6 : w.heap.size + 1 + 1 < W4.heap.size := HR4.out.lt
  have y0 : W6.drew.cell? ⟨w3.heap.size, 0, none⟩ = some (.int .i64 2) := HO6.out.c (j := 0) rfl
  have y1 : W6.drew.cell? ⟨w3.heap.size, 1, none⟩ = some (.int .i64 0) := HO6.out.c (j := 1) rfl
  have y2 : W6.drew.cell? ⟨w3.heap.size, 2, none⟩ = some (.slice B5 (withL l x).length d5) := HO6.out.c (j := 2) rfl
  have hBo : w3.heap.size < W6.heap.size := HO6.out.lt
  refine wp_region_noPanic ?_
  refine wp_region_heads [true, true, true, false] (fun w' => w'.cell? ⟨w3.heap.size, 0, none⟩ = some (.int .i64 2) ∧ w'.cell? ⟨w3.heap.size, 1, none⟩ = some (.int .i64 0) ∧ w'.cell? ⟨w3.heap.size, 2, none⟩ = some (.slice B5 (withL l x).length d5)) (by kernel_rfl) (by kernel_rfl) (fun _ _ _ _ _ h => h) ⟨y0, y1, y2⟩ ?_
  iterate 3
    refine Heads.take ?_ (by rfl) ?_ ?_
    rotate_left
    · intro w' hw'
      obtain ⟨q0, q1, q2⟩ := hw'
      go_simp
      try with_reducible rfl
    simp only [Act.put, List.setIfInBounds_toArray, List.set_cons_zero, List.set_cons_succ]
  refine Heads.call 43 #[.bool (!be)] (by rfl) (by go_simp) ?_
  refine (number_any _ _).mono ?_
  rintro e w7 ⟨rfl, hB7⟩
  have hB7' : Below W6.heap.size W6 w7 := ((Below.refl _ W6).drew).trans hB7
  refine ⟨_, rfl, ⟨(hB7.cell (p := ⟨w3.heap.size, 0, none⟩) hBo).trans y0, (hB7.cell (p := ⟨w3.heap.size, 1, none⟩) hBo).trans y1, (hB7.cell (p := ⟨w3.heap.size, 2, none⟩) hBo).trans y2⟩, ?_⟩
  simp only [Act.put, List.setIfInBounds_toArray, List.set_cons_zero, List.set_cons_succ]
  refine Heads.done ?_
  have HZ7 := Lib.hid (HZ6.out.below hB7' HZ6.out.lt)
  have HR7 := Lib.hid (HR6.out.below hB7' HR6.out.lt)
  have HV7 := Lib.hid (row_below HV6.out hB7')
  have hBw7 := nxt hBw6 hB7' hBw6.size
  have z0 := HZ7.out.c (j := 0) rfl
  have z1 := HZ7.out.c (j := 1) rfl
  have z2 := HZ7.out.c (j := 2) rfl
  have r0 := HR7.out.c (j := 0) rfl
  have r1 := HR7.out.c (j := 1) rfl
  have a0 := HZ7.out.frozen 0
  have a1 := HZ7.out.frozen 1
  have a2 := HZ7.out.frozen 2
  have b0 := HR7.out.frozen 0
  have b1 := HR7.out.frozen 1
  clear y0 y1 y2
  unfold retV
  obtain ⟨rr, hrr⟩ : ∃ rr, one (!be) = rr := ⟨_, rfl⟩
  rw [hrr]
  have HRR := Lib.hid hrr
  clear hrr
  go_wp2_with fail
  refine NoPanic.normal ?_
  obtain ⟨HZ8, HR8, hB8⟩ := filled_holds (m := w.heap.size) HZ7.out HR7.out (by omega) 2 0 (.slice B5 (withL l x).length d5) 2 rr
  have HV8 := row_mid (W' := filled w7 (w.heap.size + 1) 2 0 (.slice B5 (withL l x).length d5) 2 rr) HV7.out (fun B hB _ => filled_far _ _ _ _ _ _ _ B (by omega))
  have k0 := HZ8.c (j := 0) rfl
  have k1 := HZ8.c (j := 1) rfl
  have k2 := HZ8.c (j := 2) rfl
  have q0 := HR8.c (j := 0) rfl
  have q1 := HR8.c (j := 1) rfl
  change Exit.then _ _ _ _ (filled w7 (w.heap.size + 1) 2 0 (.slice B5 (withL l x).length d5) 2 rr)
  generalize filled w7 (w.heap.size + 1) 2 0 (.slice B5 (withL l x).length d5) 2 rr = W8 at *
  go_wp2
  refine bodyPost_ret (v := .tuple #[stV 2 0 B5 (withL l x).length d5, retV 2 rr, .int .i64 0]) (by simp [results, Tryz.f26, go_sem, stV, retV, k0, k1, k2, q0, q1]) rfl ?_
  rw [HRR.out]
  exact ⟨B5, d5, rfl, row_more HV8 (by omega), nxt hBw7 hB8 (Nat.le_refl _)⟩
set_option maxHeartbeats 2000000 in
theorem rsapply_remove (A : Option Addr) (c : Nat) (l : List Int) (x : Int) (w : World) (hA : Ints w A l) (hlen : l.length ≤ 900) (hr : Rise l) :
    Calls Tryz.prog 26 #[stV 2 0 A l.length c, .int .i64 4, .int .i64 x, .int .i64 0] w (SetPost 2 (outL l x) 2 (one (isIn l x)) 0 w) := by
  have hB0 := boxed3_below w 2 0 A l.length c
  have HC := rcheck_any 2 0 A c l _ (hA.below hB0) (by omega)
  have hc : checkE 2 0 l = 0 := by simp [checkE, fitsB, (rise_iff l).2 hr]
  rw [hc] at HC
  have HFI := fun W (h : Below w.heap.size w W) => rfind_any A c l x W (hA.below h) (by omega)
  have HA := Lib.hid hA
  have HW := Lib.hid (boxed3_state w 2 0 A l.length c)
  have HZ := Lib.hid (boxed3_then w 2 0 A l.length c)
  have HR := Lib.hid (boxed3_ret w 2 0 A l.length c)
  have hsz := boxed3_size w 2 0 A l.length c
  clear hc hA
  unfold stV at *
  unfold foundV at HFI
  go_enter Tryz.func26, Tryz.ntmps26
  go_wp2_with fail
  refine HC.mono ?_
  rintro e w1 ⟨rfl, hB1⟩
  generalize boxed3 w 2 0 A l.length c = W0 at *
  have HW1 := Lib.hid (HW.out.below hB1 (by omega))
  have HZ1 := Lib.hid (HZ.out.below hB1 (by omega))
  have HR1 := Lib.hid (HR.out.below hB1 (by omega))
  have hBw := nxt hB0 hB1 (by omega)
  have hlt1 := HR1.out.lt
  have s2 := HW1.out.c (j := 2) rfl
  clear hsz hB0 hB1
  go_wp2_with fail
  refine (HFI w1 hBw).mono ?_
  rintro e w2 ⟨rfl, hB2⟩
  have HW2 := Lib.hid (HW1.out.below hB2 (by omega))
  have HZ2 := Lib.hid (HZ1.out.below hB2 (by omega))
  have HR2 := Lib.hid (HR1.out.below hB2 (by omega))
  have hBw2 := nxt hBw hB2 hBw.size
  have hlt2 := HR2.out.lt
  have t2 := HW2.out.c (j := 2) rfl
  have hrow := World.ownsRow_lit (base := w2.heap.size) (e := 3) (size := 1) w2 #[] 0 (Nat.le_refl _) (Nat.zero_le _) rfl
  have HROW := Lib.hid hrow
  have HA2 := Lib.hid ((HA.out.below hBw2).below (alloc1 w2 (.cells #[] 3)))
  have hs2a : w2.heap.size ≤ (w2.alloc (.cells #[] 3)).heap.size := by simp
  have c2x : (w2.alloc (.cells #[] 3)).cell? ⟨w.heap.size, 2, none⟩ = some (.slice A l.length c) := (HW2.out.alloc _).c (j := 2) rfl
  generalize low l x = lo at *
  generalize hbe : isIn l x = be at *
  have HBE := Lib.hid hbe
  clear hbe hrow s2
  go_wp2_with (first
    | (at_builtin; refine wpList_app _ rfl _ _ 22 rfl w2.heap.size Tryz.underlying22 _ _ _ rfl HROW.out A l.length c l rfl rfl HA2.out (by omega) (by omega) hs2a ?_; intro v3 w3 hown3 hg3 hn3; obtain ⟨g3, c3, rfl⟩ := form4 hown3 hn3; rw [Nat.zero_add, List.nil_append] at hown3; have hB3 : Below w2.heap.size w2 w3 := (alloc1 w2 _).trans (grown_below hg3 HROW.out hs2a); have HO3 := Lib.hid hown3; have u2 : (w3.alloc (.cells #[.int .i64 2, .int .i64 0, .slice (some ⟨g3, 0, none⟩) l.length c3] 24)).cell? ⟨w.heap.size, 2, none⟩ = some (.slice A l.length c) := ((HW2.out.below hB3 (by omega)).alloc _).c (j := 2) rfl; clear hg3 hn3 c2x t2 hown3))
  have hs3 := hB3.size
  have hBw3 := nxt hBw2 hB3 hBw2.size
  have hB4 := nxt hBw3 (alloc1 w3 (.cells #[.int .i64 2, .int .i64 0, .slice (some ⟨g3, 0, none⟩) l.length c3] 24)) hBw3.size
  have HZ4 := Lib.hid ((HZ2.out.below hB3 (by omega)).alloc (.cells #[.int .i64 2, .int .i64 0, .slice (some ⟨g3, 0, none⟩) l.length c3] 24))
  have HR4 := Lib.hid ((HR2.out.below hB3 (by omega)).alloc (.cells #[.int .i64 2, .int .i64 0, .slice (some ⟨g3, 0, none⟩) l.length c3] 24))
  have HW4 := Lib.hid ((HW2.out.below hB3 (by omega)).alloc (.cells #[.int .i64 2, .int .i64 0, .slice (some ⟨g3, 0, none⟩) l.length c3] 24))
  have HO4 := Lib.hid (Holds.new w3 24 #[.int .i64 2, .int .i64 0, .slice (some ⟨g3, 0, none⟩) l.length c3])
  have HV4 := Lib.hid (row_below HO3.out (alloc1 w3 (.cells #[.int .i64 2, .int .i64 0, .slice (some ⟨g3, 0, none⟩) l.length c3] 24)))
  have hs4 : w3.heap.size < (w3.alloc (.cells #[.int .i64 2, .int .i64 0, .slice (some ⟨g3, 0, none⟩) l.length c3] 24)).heap.size := by simp
  generalize w3.alloc (.cells #[.int .i64 2, .int .i64 0, .slice (some ⟨g3, 0, none⟩) l.length c3] 24) = W4 at *
  have HWI := rwithout_any A c l x W4 (HA.out.below hB4) (by omega)
  rw [outF_eq hr] at HWI
  unfold RowPost at HWI
  refine HWI.mono ?_
  rintro e w5 ⟨B5, d5, rfl, ho5, hB5⟩
  have HO5 := Lib.hid (HO4.out.below hB5 hs4)
  have HZ5 := Lib.hid (HZ4.out.below hB5 HZ4.out.lt)
  have HR5 := Lib.hid (HR4.out.below hB5 HR4.out.lt)
  have hBw5 := nxt hB4 hB5 hB4.size
  have o2 := HO5.out.c (j := 2) rfl
  have p2 := HO5.out.frozen 2
  clear u2
  go_wp2_with fail
  have HO6 := Lib.hid (HO5.out.set 2 (.slice B5 (outL l x).length d5))
  have hO6 := (Only.of (B := w3.heap.size) (Below.refl w5.heap.size w5) (Nat.le_refl _)).set 2 (.slice B5 (outL l x).length d5)
  have HZ6 := Lib.hid (HZ5.out.of (hO6.block _ HZ5.out.lt (by omega)))
  have HR6 := Lib.hid (HR5.out.of (hO6.block _ HR5.out.lt (by omega)))
  have HV6 := Lib.hid (row_mid (W' := w5.setCell ⟨w3.heap.size, 2, none⟩ (.slice B5 (outL l x).length d5)) ho5 (fun B hB hl => hO6.block B hl (by omega)))
  have hBw6 := nxt hBw5 (hO6.below (lo := w.heap.size) (by omega) hBw5.size) (Nat.le_refl _)
  have hs6 := hO6.size
  have hs5 := hB5.size
  clear o2 p2 hO6 ho5
  generalize w5.setCell ⟨w3.heap.size, 2, none⟩ (.slice B5 (outL l x).length d5) = W6 at *
  have hlo6 : w.heap.size + 1 + 1 < W4.heap.size := HR4.out.lt
  have y0 : W6.drew.cell? ⟨w3.heap.size, 0, none⟩ = some (.int .i64 2) := HO6.out.c (j := 0) rfl
  have y1 : W6.drew.cell? ⟨w3.heap.size, 1, none⟩ = some (.int .i64 0) := HO6.out.c (j := 1) rfl
  have y2 : W6.drew.cell? ⟨w3.heap.size, 2, none⟩ = some (.slice B5 (outL l x).length d5) := HO6.out.c (j := 2) rfl
  have hBo : w3.heap.size < W6.heap.size := HO6.out.lt
  refine wp_region_noPanic ?_
  refine wp_region_heads [true, true, false] (fun w' => w'.cell? ⟨w3.heap.size, 0, none⟩ = some (.int .i64 2) ∧ w'.cell? ⟨w3.heap.size, 1, none⟩ = some (.int .i64 0) ∧ w'.cell? ⟨w3.heap.size, 2, none⟩ = some (.slice B5 (outL l x).length d5)) (by kernel_rfl) (by kernel_rfl) (fun _ _ _ _ _ h => h) ⟨y0, y1, y2⟩ ?_
  iterate 2
    refine Heads.take ?_ (by rfl) ?_ ?_
    rotate_left
    · intro w' hw'
      obtain ⟨q0, q1, q2⟩ := hw'
      go_simp
      try with_reducible rfl
    simp only [Act.put, List.setIfInBounds_toArray, List.set_cons_zero, List.set_cons_succ]
  refine Heads.call 43 #[.bool be] (by rfl) (by go_simp) ?_
  refine (number_any _ _).mono ?_
  rintro e w7 ⟨rfl, hB7⟩
  have hB7' : Below W6.heap.size W6 w7 := ((Below.refl _ W6).drew).trans hB7
  refine ⟨_, rfl, ⟨(hB7.cell (p := ⟨w3.heap.size, 0, none⟩) hBo).trans y0, (hB7.cell (p := ⟨w3.heap.size, 1, none⟩) hBo).trans y1, (hB7.cell (p := ⟨w3.heap.size, 2, none⟩) hBo).trans y2⟩, ?_⟩
  simp only [Act.put, List.setIfInBounds_toArray, List.set_cons_zero, List.set_cons_succ]
  refine Heads.done ?_
  have HZ7 := Lib.hid (HZ6.out.below hB7' HZ6.out.lt)
  have HR7 := Lib.hid (HR6.out.below hB7' HR6.out.lt)
  have HV7 := Lib.hid (row_below HV6.out hB7')
  have hBw7 := nxt hBw6 hB7' hBw6.size
  have z0 := HZ7.out.c (j := 0) rfl
  have z1 := HZ7.out.c (j := 1) rfl
  have z2 := HZ7.out.c (j := 2) rfl
  have r0 := HR7.out.c (j := 0) rfl
  have r1 := HR7.out.c (j := 1) rfl
  have a0 := HZ7.out.frozen 0
  have a1 := HZ7.out.frozen 1
  have a2 := HZ7.out.frozen 2
  have b0 := HR7.out.frozen 0
  have b1 := HR7.out.frozen 1
  clear y0 y1 y2
  unfold retV
  obtain ⟨rr, hrr⟩ : ∃ rr, one be = rr := ⟨_, rfl⟩
  rw [hrr]
  have HRR := Lib.hid hrr
  clear hrr
  go_wp2_with fail
  refine NoPanic.normal ?_
  obtain ⟨HZ8, HR8, hB8⟩ := filled_holds (m := w.heap.size) HZ7.out HR7.out (by omega) 2 0 (.slice B5 (outL l x).length d5) 2 rr
  have HV8 := row_mid (W' := filled w7 (w.heap.size + 1) 2 0 (.slice B5 (outL l x).length d5) 2 rr) HV7.out (fun B hB _ => filled_far _ _ _ _ _ _ _ B (by omega))
  have k0 := HZ8.c (j := 0) rfl
  have k1 := HZ8.c (j := 1) rfl
  have k2 := HZ8.c (j := 2) rfl
  have q0 := HR8.c (j := 0) rfl
  have q1 := HR8.c (j := 1) rfl
  change Exit.then _ _ _ _ (filled w7 (w.heap.size + 1) 2 0 (.slice B5 (outL l x).length d5) 2 rr)
  generalize filled w7 (w.heap.size + 1) 2 0 (.slice B5 (outL l x).length d5) 2 rr = W8 at *
  go_wp2
  refine bodyPost_ret (v := .tuple #[stV 2 0 B5 (outL l x).length d5, retV 2 rr, .int .i64 0]) (by simp [results, Tryz.f26, go_sem, stV, retV, k0, k1, k2, q0, q1]) rfl ?_
  rw [HRR.out]
  exact ⟨B5, d5, rfl, row_more HV8 (by omega), nxt hBw7 hB8 (Nat.le_refl _)⟩
set_option maxHeartbeats 2000000 in
theorem rsapply_has (A : Option Addr) (c : Nat) (l : List Int) (x : Int) (w : World) (hA : Ints w A l) (hlen : l.length ≤ 900) (hr : Rise l) :
    Calls Tryz.prog 26 #[stV 2 0 A l.length c, .int .i64 5, .int .i64 x, .int .i64 0] w (SetPost 2 l 2 (one (isIn l x)) 0 w) := by
  have hB0 := boxed3_below w 2 0 A l.length c
  have HC := rcheck_any 2 0 A c l _ (hA.below hB0) (by omega)
  have hc : checkE 2 0 l = 0 := by simp [checkE, fitsB, (rise_iff l).2 hr]
  rw [hc] at HC
  have HFI := fun W (h : Below w.heap.size w W) => rfind_any A c l x W (hA.below h) (by omega)
  have HA := Lib.hid hA
  have HW := Lib.hid (boxed3_state w 2 0 A l.length c)
  have HZ := Lib.hid (boxed3_then w 2 0 A l.length c)
  have HR := Lib.hid (boxed3_ret w 2 0 A l.length c)
  have hsz := boxed3_size w 2 0 A l.length c
  clear hc hA
  unfold stV at *
  unfold foundV at HFI
  go_enter Tryz.func26, Tryz.ntmps26
  go_wp2_with fail
  refine HC.mono ?_
  rintro e w1 ⟨rfl, hB1⟩
  generalize boxed3 w 2 0 A l.length c = W0 at *
  have HW1 := Lib.hid (HW.out.below hB1 (by omega))
  have HZ1 := Lib.hid (HZ.out.below hB1 (by omega))
  have HR1 := Lib.hid (HR.out.below hB1 (by omega))
  have hBw := nxt hB0 hB1 (by omega)
  have hlt1 := HR1.out.lt
  have s2 := HW1.out.c (j := 2) rfl
  clear hsz hB0 hB1
  go_wp2_with fail
  refine (HFI w1 hBw).mono ?_
  rintro e w2 ⟨rfl, hB2⟩
  have HW2 := Lib.hid (HW1.out.below hB2 (by omega))
  have HZ2 := Lib.hid (HZ1.out.below hB2 (by omega))
  have HR2 := Lib.hid (HR1.out.below hB2 (by omega))
  have hBw2 := nxt hBw hB2 hBw.size
  have hlt2 := HR2.out.lt
  have t2 := HW2.out.c (j := 2) rfl
  have hrow := World.ownsRow_lit (base := w2.heap.size) (e := 3) (size := 1) w2 #[] 0 (Nat.le_refl _) (Nat.zero_le _) rfl
  have HROW := Lib.hid hrow
  have HA2 := Lib.hid ((HA.out.below hBw2).below (alloc1 w2 (.cells #[] 3)))
  have hs2a : w2.heap.size ≤ (w2.alloc (.cells #[] 3)).heap.size := by simp
  have c2x : (w2.alloc (.cells #[] 3)).cell? ⟨w.heap.size, 2, none⟩ = some (.slice A l.length c) := (HW2.out.alloc _).c (j := 2) rfl
  generalize low l x = lo at *
  generalize hbe : isIn l x = be at *
  have HBE := Lib.hid hbe
  clear hbe hrow s2
  go_wp2_with (first
    | (at_builtin; refine wpList_app _ rfl _ _ 22 rfl w2.heap.size Tryz.underlying22 _ _ _ rfl HROW.out A l.length c l rfl rfl HA2.out (by omega) (by omega) hs2a ?_; intro v3 w3 hown3 hg3 hn3; obtain ⟨g3, c3, rfl⟩ := form4 hown3 hn3; rw [Nat.zero_add, List.nil_append] at hown3; have hB3 : Below w2.heap.size w2 w3 := (alloc1 w2 _).trans (grown_below hg3 HROW.out hs2a); have HO3 := Lib.hid hown3; have u2 : (w3.alloc (.cells #[.int .i64 2, .int .i64 0, .slice (some ⟨g3, 0, none⟩) l.length c3] 24)).cell? ⟨w.heap.size, 2, none⟩ = some (.slice A l.length c) := ((HW2.out.below hB3 (by omega)).alloc _).c (j := 2) rfl; clear hg3 hn3 c2x t2 hown3))
  have hs3 := hB3.size
  have hBw3 := nxt hBw2 hB3 hBw2.size
  have hB4 := nxt hBw3 (alloc1 w3 (.cells #[.int .i64 2, .int .i64 0, .slice (some ⟨g3, 0, none⟩) l.length c3] 24)) hBw3.size
  have HZ4 := Lib.hid ((HZ2.out.below hB3 (by omega)).alloc (.cells #[.int .i64 2, .int .i64 0, .slice (some ⟨g3, 0, none⟩) l.length c3] 24))
  have HR4 := Lib.hid ((HR2.out.below hB3 (by omega)).alloc (.cells #[.int .i64 2, .int .i64 0, .slice (some ⟨g3, 0, none⟩) l.length c3] 24))
  have HW4 := Lib.hid ((HW2.out.below hB3 (by omega)).alloc (.cells #[.int .i64 2, .int .i64 0, .slice (some ⟨g3, 0, none⟩) l.length c3] 24))
  have HO4 := Lib.hid (Holds.new w3 24 #[.int .i64 2, .int .i64 0, .slice (some ⟨g3, 0, none⟩) l.length c3])
  have HV4 := Lib.hid (row_below HO3.out (alloc1 w3 (.cells #[.int .i64 2, .int .i64 0, .slice (some ⟨g3, 0, none⟩) l.length c3] 24)))
  have hs4 : w3.heap.size < (w3.alloc (.cells #[.int .i64 2, .int .i64 0, .slice (some ⟨g3, 0, none⟩) l.length c3] 24)).heap.size := by simp
  clear u2
  generalize w3.alloc (.cells #[.int .i64 2, .int .i64 0, .slice (some ⟨g3, 0, none⟩) l.length c3] 24) = W4 at *
  have y0 : W4.drew.cell? ⟨w3.heap.size, 0, none⟩ = some (.int .i64 2) := HO4.out.c (j := 0) rfl
  have y1 : W4.drew.cell? ⟨w3.heap.size, 1, none⟩ = some (.int .i64 0) := HO4.out.c (j := 1) rfl
  have y2 : W4.drew.cell? ⟨w3.heap.size, 2, none⟩ = some (.slice (some ⟨g3, 0, none⟩) l.length c3) := HO4.out.c (j := 2) rfl
  have hBo : w3.heap.size < W4.heap.size := HO4.out.lt
  refine wp_region_noPanic ?_
  refine wp_region_heads [true, true, false] (fun w' => w'.cell? ⟨w3.heap.size, 0, none⟩ = some (.int .i64 2) ∧ w'.cell? ⟨w3.heap.size, 1, none⟩ = some (.int .i64 0) ∧ w'.cell? ⟨w3.heap.size, 2, none⟩ = some (.slice (some ⟨g3, 0, none⟩) l.length c3)) (by kernel_rfl) (by kernel_rfl) (fun _ _ _ _ _ h => h) ⟨y0, y1, y2⟩ ?_
  iterate 2
    refine Heads.take ?_ (by rfl) ?_ ?_
    rotate_left
    · intro w' hw'
      obtain ⟨q0, q1, q2⟩ := hw'
      go_simp
      try with_reducible rfl
    simp only [Act.put, List.setIfInBounds_toArray, List.set_cons_zero, List.set_cons_succ]
  refine Heads.call 43 #[.bool be] (by rfl) (by go_simp) ?_
  refine (number_any _ _).mono ?_
  rintro e w7 ⟨rfl, hB7⟩
  have hB7' : Below W4.heap.size W4 w7 := ((Below.refl _ W4).drew).trans hB7
  refine ⟨_, rfl, ⟨(hB7.cell (p := ⟨w3.heap.size, 0, none⟩) hBo).trans y0, (hB7.cell (p := ⟨w3.heap.size, 1, none⟩) hBo).trans y1, (hB7.cell (p := ⟨w3.heap.size, 2, none⟩) hBo).trans y2⟩, ?_⟩
  simp only [Act.put, List.setIfInBounds_toArray, List.set_cons_zero, List.set_cons_succ]
  refine Heads.done ?_
  have HZ7 := Lib.hid (HZ4.out.below hB7' HZ4.out.lt)
  have HR7 := Lib.hid (HR4.out.below hB7' HR4.out.lt)
  have HV7 := Lib.hid (row_below HV4.out hB7')
  have hBw7 := nxt hB4 hB7' hB4.size
  have z0 := HZ7.out.c (j := 0) rfl
  have z1 := HZ7.out.c (j := 1) rfl
  have z2 := HZ7.out.c (j := 2) rfl
  have r0 := HR7.out.c (j := 0) rfl
  have r1 := HR7.out.c (j := 1) rfl
  have a0 := HZ7.out.frozen 0
  have a1 := HZ7.out.frozen 1
  have a2 := HZ7.out.frozen 2
  have b0 := HR7.out.frozen 0
  have b1 := HR7.out.frozen 1
  clear y0 y1 y2
  unfold retV
  obtain ⟨rr, hrr⟩ : ∃ rr, one be = rr := ⟨_, rfl⟩
  rw [hrr]
  have HRR := Lib.hid hrr
  clear hrr
  go_wp2_with fail
  refine NoPanic.normal ?_
  obtain ⟨HZ8, HR8, hB8⟩ := filled_holds (m := w.heap.size) HZ7.out HR7.out (by omega) 2 0 (.slice (some ⟨g3, 0, none⟩) l.length c3) 2 rr
  have HV8 := row_mid (W' := filled w7 (w.heap.size + 1) 2 0 (.slice (some ⟨g3, 0, none⟩) l.length c3) 2 rr) HV7.out (fun B hB _ => filled_far _ _ _ _ _ _ _ B (by omega))
  have k0 := HZ8.c (j := 0) rfl
  have k1 := HZ8.c (j := 1) rfl
  have k2 := HZ8.c (j := 2) rfl
  have q0 := HR8.c (j := 0) rfl
  have q1 := HR8.c (j := 1) rfl
  change Exit.then _ _ _ _ (filled w7 (w.heap.size + 1) 2 0 (.slice (some ⟨g3, 0, none⟩) l.length c3) 2 rr)
  generalize filled w7 (w.heap.size + 1) 2 0 (.slice (some ⟨g3, 0, none⟩) l.length c3) 2 rr = W8 at *
  go_wp2
  refine bodyPost_ret (v := .tuple #[stV 2 0 (some ⟨g3, 0, none⟩) l.length c3, retV 2 rr, .int .i64 0]) (by simp [results, Tryz.f26, go_sem, stV, retV, k0, k1, k2, q0, q1]) rfl ?_
  rw [HRR.out]
  exact ⟨(some ⟨g3, 0, none⟩), c3, rfl, row_more HV8 (by omega), nxt hBw7 hB8 (Nat.le_refl _)⟩
set_option maxHeartbeats 2000000 in
theorem rsapply_size (A : Option Addr) (c : Nat) (l : List Int) (w : World) (hA : Ints w A l) (hlen : l.length ≤ 900) (hr : Rise l) :
    Calls Tryz.prog 26 #[stV 2 0 A l.length c, .int .i64 6, .int .i64 0, .int .i64 0] w (SetPost 2 l 2 l.length 0 w) := by
  have hB0 := boxed3_below w 2 0 A l.length c
  have HC := rcheck_any 2 0 A c l _ (hA.below hB0) (by omega)
  have hc : checkE 2 0 l = 0 := by simp [checkE, fitsB, (rise_iff l).2 hr]
  rw [hc] at HC
  have HFI := fun W (h : Below w.heap.size w W) => rfind_any A c l 0 W (hA.below h) (by omega)
  have HA := Lib.hid hA
  have HW := Lib.hid (boxed3_state w 2 0 A l.length c)
  have HZ := Lib.hid (boxed3_then w 2 0 A l.length c)
  have HR := Lib.hid (boxed3_ret w 2 0 A l.length c)
  have hsz := boxed3_size w 2 0 A l.length c
  clear hc hA
  unfold stV at *
  unfold foundV at HFI
  go_enter Tryz.func26, Tryz.ntmps26
  go_wp2_with fail
  refine HC.mono ?_
  rintro e w1 ⟨rfl, hB1⟩
  generalize boxed3 w 2 0 A l.length c = W0 at *
  have HW1 := Lib.hid (HW.out.below hB1 (by omega))
  have HZ1 := Lib.hid (HZ.out.below hB1 (by omega))
  have HR1 := Lib.hid (HR.out.below hB1 (by omega))
  have hBw := nxt hB0 hB1 (by omega)
  have hlt1 := HR1.out.lt
  have s2 := HW1.out.c (j := 2) rfl
  clear hsz hB0 hB1
  go_wp2_with fail
  refine (HFI w1 hBw).mono ?_
  rintro e w2 ⟨rfl, hB2⟩
  have HW2 := Lib.hid (HW1.out.below hB2 (by omega))
  have HZ2 := Lib.hid (HZ1.out.below hB2 (by omega))
  have HR2 := Lib.hid (HR1.out.below hB2 (by omega))
  have hBw2 := nxt hBw hB2 hBw.size
  have hlt2 := HR2.out.lt
  have t2 := HW2.out.c (j := 2) rfl
  have hrow := World.ownsRow_lit (base := w2.heap.size) (e := 3) (size := 1) w2 #[] 0 (Nat.le_refl _) (Nat.zero_le _) rfl
  have HROW := Lib.hid hrow
  have HA2 := Lib.hid ((HA.out.below hBw2).below (alloc1 w2 (.cells #[] 3)))
  have hs2a : w2.heap.size ≤ (w2.alloc (.cells #[] 3)).heap.size := by simp
  have c2x : (w2.alloc (.cells #[] 3)).cell? ⟨w.heap.size, 2, none⟩ = some (.slice A l.length c) := (HW2.out.alloc _).c (j := 2) rfl
  generalize low l 0 = lo at *
  generalize hbe : isIn l 0 = be at *
  have HBE := Lib.hid hbe
  clear hbe hrow s2
  go_wp2_with (first
    | (at_builtin; refine wpList_app _ rfl _ _ 22 rfl w2.heap.size Tryz.underlying22 _ _ _ rfl HROW.out A l.length c l rfl rfl HA2.out (by omega) (by omega) hs2a ?_; intro v3 w3 hown3 hg3 hn3; obtain ⟨g3, c3, rfl⟩ := form4 hown3 hn3; rw [Nat.zero_add, List.nil_append] at hown3; have hB3 : Below w2.heap.size w2 w3 := (alloc1 w2 _).trans (grown_below hg3 HROW.out hs2a); have HO3 := Lib.hid hown3; have u2 : (w3.alloc (.cells #[.int .i64 2, .int .i64 0, .slice (some ⟨g3, 0, none⟩) l.length c3] 24)).cell? ⟨w.heap.size, 2, none⟩ = some (.slice A l.length c) := ((HW2.out.below hB3 (by omega)).alloc _).c (j := 2) rfl; clear hg3 hn3 c2x t2 hown3))
  have hs3 := hB3.size
  have hBw3 := nxt hBw2 hB3 hBw2.size
  have hB4 := nxt hBw3 (alloc1 w3 (.cells #[.int .i64 2, .int .i64 0, .slice (some ⟨g3, 0, none⟩) l.length c3] 24)) hBw3.size
  have HZ4 := Lib.hid ((HZ2.out.below hB3 (by omega)).alloc (.cells #[.int .i64 2, .int .i64 0, .slice (some ⟨g3, 0, none⟩) l.length c3] 24))
  have HR4 := Lib.hid ((HR2.out.below hB3 (by omega)).alloc (.cells #[.int .i64 2, .int .i64 0, .slice (some ⟨g3, 0, none⟩) l.length c3] 24))
  have HW4 := Lib.hid ((HW2.out.below hB3 (by omega)).alloc (.cells #[.int .i64 2, .int .i64 0, .slice (some ⟨g3, 0, none⟩) l.length c3] 24))
  have HO4 := Lib.hid (Holds.new w3 24 #[.int .i64 2, .int .i64 0, .slice (some ⟨g3, 0, none⟩) l.length c3])
  have HV4 := Lib.hid (row_below HO3.out (alloc1 w3 (.cells #[.int .i64 2, .int .i64 0, .slice (some ⟨g3, 0, none⟩) l.length c3] 24)))
  have hs4 : w3.heap.size < (w3.alloc (.cells #[.int .i64 2, .int .i64 0, .slice (some ⟨g3, 0, none⟩) l.length c3] 24)).heap.size := by simp
  clear u2
  generalize w3.alloc (.cells #[.int .i64 2, .int .i64 0, .slice (some ⟨g3, 0, none⟩) l.length c3] 24) = W4 at *
  have yw := HW4.out.c (j := 2) rfl
  have y0 := HO4.out.c (j := 0) rfl
  have y1 := HO4.out.c (j := 1) rfl
  have y2 := HO4.out.c (j := 2) rfl
  have z0 := HZ4.out.c (j := 0) rfl
  have z1 := HZ4.out.c (j := 1) rfl
  have z2 := HZ4.out.c (j := 2) rfl
  have r0 := HR4.out.c (j := 0) rfl
  have r1 := HR4.out.c (j := 1) rfl
  have a0 := HZ4.out.frozen 0
  have a1 := HZ4.out.frozen 1
  have a2 := HZ4.out.frozen 2
  have b0 := HR4.out.frozen 0
  have b1 := HR4.out.frozen 1
  have n1 : w.heap.size ≠ w.heap.size + 1 := by omega
  have n2 : w.heap.size ≠ w.heap.size + 1 + 1 := by omega
  go_cut [10] from 86 to 90 (fun s10 wx => s10 = .int .i64 0 ∧ wx = filled W4.drew (w.heap.size + 1) 2 0 (.slice (some ⟨g3, 0, none⟩) l.length c3) 2 l.length)
  case first =>
    go_region
    all_goals (go_wp2_with fail; go_meet; exact ⟨rfl, rfl⟩)
  case rest =>
    obtain ⟨rfl, rfl⟩ := hcut
    obtain ⟨HZ8, HR8, hB8⟩ := filled_holds (m := w.heap.size) (HZ4.out.of (W' := W4.drew) rfl) (HR4.out.of (W' := W4.drew) rfl) (by omega) 2 0 (.slice (some ⟨g3, 0, none⟩) l.length c3) 2 l.length
    have HV8 := row_mid (W' := filled W4.drew (w.heap.size + 1) 2 0 (.slice (some ⟨g3, 0, none⟩) l.length c3) 2 l.length) (row_below HV4.out (Below.refl _ W4).drew) (fun B hB _ => filled_far _ _ _ _ _ _ _ B (by omega))
    generalize filled W4.drew (w.heap.size + 1) 2 0 (.slice (some ⟨g3, 0, none⟩) l.length c3) 2 l.length = W8 at *
    have k0 := HZ8.c (j := 0) rfl
    have k1 := HZ8.c (j := 1) rfl
    have k2 := HZ8.c (j := 2) rfl
    have q0 := HR8.c (j := 0) rfl
    have q1 := HR8.c (j := 1) rfl
    go_wp2
    refine bodyPost_ret (v := .tuple #[stV 2 0 (some ⟨g3, 0, none⟩) l.length c3, retV 2 l.length, .int .i64 0]) (by simp [results, Tryz.f26, go_sem, stV, retV, k0, k1, k2, q0, q1]) rfl ?_
    exact ⟨_, c3, rfl, row_more HV8 (by omega), nxt hB4.drew hB8 (Nat.le_refl _)⟩
end Go.Proofs.YtmclpganipfadaaGreatDoor
