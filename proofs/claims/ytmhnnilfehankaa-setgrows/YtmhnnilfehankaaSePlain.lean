/- Pure: numbers that rise; how many are less than one; a set with a number and without it, the program's way and the document's. -/
import Derived.Test.YtmhnnilfehankaaStPlain
namespace Go.Proofs.Ytmhnnilfehankaa
open Go.RowKit
set_option linter.unusedVariables false

def Rise (l : List Int) : Prop := l.Pairwise (· < ·)
theorem rise_nil : Rise [] := List.Pairwise.nil
theorem rise_cons {a : Int} {r : List Int} : Rise (a :: r) ↔ (∀ y ∈ r, a < y) ∧ Rise r := List.pairwise_cons
theorem rise_iff (l : List Int) : riseB 1 l = true ↔ Rise l := by
  unfold riseB riseTo Rise
  rw [List.all_eq_true, List.pairwise_iff_getElem]
  constructor
  · intro h i j hi hj hij
    have step : ∀ k, (hk : k + 1 < l.length) → l[k] < l[k + 1] := by
      intro k hk
      have := h k (List.mem_range.2 (by omega))
      simp only [Nat.mul_one, Bool.or_eq_true, decide_eq_true_eq] at this
      rcases this with h1 | h1
      · omega
      · rwa [List.getElem?_eq_getElem (by omega), List.getElem?_eq_getElem hk] at h1
    obtain ⟨d, rfl⟩ : ∃ d, j = i + 1 + d := ⟨j - i - 1, by omega⟩
    clear hij
    induction d with
    | zero => exact step i hj
    | succ d ih => exact Int.lt_trans (ih (by omega) (by omega)) (step (i + 1 + d) hj)
  · intro h j hj
    have hj := List.mem_range.1 hj
    simp only [Nat.mul_one, Bool.or_eq_true, decide_eq_true_eq]
    by_cases h1 : l.length ≤ j + 1
    · exact .inl h1
    · refine .inr ?_
      rw [List.getElem?_eq_getElem hj, List.getElem?_eq_getElem (by omega)]
      exact h j (j + 1) hj (by omega) (by omega)
theorem rise_ext : ∀ {l m : List Int}, Rise l → Rise m → (∀ y, y ∈ l ↔ y ∈ m) → l = m
  | [], [], _, _, _ => rfl
  | [], b :: s, _, _, h => absurd ((h b).2 (by simp)) (by simp)
  | a :: r, [], _, _, h => absurd ((h a).1 (by simp)) (by simp)
  | a :: r, b :: s, hl, hm, h => by
    obtain ⟨ha, hr⟩ := rise_cons.1 hl
    obtain ⟨hb, hs⟩ := rise_cons.1 hm
    have e : a = b := by
      have h1 := (h a).1 (by simp)
      have h2 := (h b).2 (by simp)
      rcases List.mem_cons.1 h1 with h1 | h1
      · exact h1
      · rcases List.mem_cons.1 h2 with h2 | h2
        · exact h2.symm
        · have := hb a h1; have := ha b h2; omega
    subst e
    rw [rise_ext hr hs]
    intro y
    have := h y
    simp only [List.mem_cons] at this
    constructor
    · intro hy
      rcases this.1 (.inr hy) with e | h3
      · have := ha y hy; omega
      · exact h3
    · intro hy
      rcases this.2 (.inr hy) with e | h3
      · have := hb y hy; omega
      · exact h3

/-- How many are less than x. -/
def low (l : List Int) (x : Int) : Nat := l.countP fun y => decide (y < x)
theorem low_le (l : List Int) (x : Int) : low l x ≤ l.length := List.countP_le_length
theorem low_at {x : Int} : ∀ {l : List Int}, Rise l → ∀ j, j < l.length → (l[j]?.getD 0 < x ↔ j < low l x)
  | [], _, j, hj => by simp at hj
  | a :: r, h, j, hj => by
    obtain ⟨ha, hr⟩ := rise_cons.1 h
    by_cases hx : a < x
    · have e : low (a :: r) x = low r x + 1 := by unfold low; rw [List.countP_cons_of_pos (by simpa using hx)]
      rw [e]
      cases j with
      | zero => simp [hx]
      | succ j =>
        have := low_at (x := x) hr j (by simpa using hj)
        simp only [List.getElem?_cons_succ]
        rw [this]; omega
    · have e0 : low r x = 0 := by
        unfold low
        rw [List.countP_eq_zero]
        intro y hy
        have := ha y hy
        simp; omega
      have e : low (a :: r) x = 0 := by unfold low at *; rw [List.countP_cons_of_neg (by simpa using hx)]; exact e0
      rw [e]
      constructor
      · intro h1
        cases j with
        | zero => simp at h1; omega
        | succ j =>
          have hj' : j < r.length := by simpa using hj
          have := ha _ (List.getElem_mem hj')
          simp only [List.getElem?_cons_succ, List.getElem?_eq_getElem hj', Option.getD_some] at h1
          omega
      · intro h1; omega
def isIn (l : List Int) (x : Int) : Bool := l.contains x
theorem isIn_iff {l : List Int} {x : Int} : isIn l x = true ↔ x ∈ l := by simp [isIn]
theorem isIn_no {l : List Int} {x : Int} : isIn l x = false ↔ x ∉ l := by rw [← isIn_iff]; simp
theorem isIn_eq {l m : List Int} {x y : Int} (h : x ∈ l ↔ y ∈ m) : isIn l x = isIn m y := by
  cases e : isIn m y
  · rw [isIn_no] at e ⊢; exact fun h1 => e (h.1 h1)
  · rw [isIn_iff] at e ⊢; exact h.2 e
theorem isIn_at {l : List Int} (h : Rise l) (x : Int) : isIn l x = (decide (low l x < l.length) && (l[low l x]?.getD 0 == x)) := by
  by_cases hl : low l x < l.length
  · rw [decide_eq_true hl, Bool.true_and]
    cases e : (l[low l x]?.getD 0 == x)
    · rw [isIn_no]
      intro hx
      obtain ⟨j, hj, rfl⟩ := List.mem_iff_getElem.1 hx
      rw [beq_eq_false_iff_ne] at e
      have h1 := low_at (x := l[j]) h j hj
      have h2 := low_at (x := l[j]) h (low l l[j]) hl
      rw [List.getElem?_eq_getElem hj] at h1
      simp only [Option.getD_some, Int.lt_irrefl, false_iff, Nat.not_lt] at h1
      rw [List.getElem?_eq_getElem hl, Option.getD_some] at h2 e
      simp only [Nat.lt_irrefl, iff_false, Int.not_lt] at h2
      have h3 := List.pairwise_iff_getElem.1 h (low l l[j]) j hl hj
      rcases Nat.lt_or_ge (low l l[j]) j with h4 | h4
      · have := h3 h4; omega
      · exact e (by congr 1; omega)
    · rw [isIn_iff]
      rw [beq_iff_eq, List.getElem?_eq_getElem hl] at e
      exact e ▸ List.getElem_mem hl
  · rw [decide_eq_false hl, Bool.false_and, isIn_no]
    intro hx
    obtain ⟨j, hj, rfl⟩ := List.mem_iff_getElem.1 hx
    have := (low_at (x := l[j]) h j hj).2 (by omega)
    rw [List.getElem?_eq_getElem hj] at this
    simp at this
theorem take_low {l : List Int} (h : Rise l) (x : Int) : ∀ y ∈ l.take (low l x), y < x := by
  intro y hy
  obtain ⟨j, hj, rfl⟩ := List.mem_iff_getElem.1 hy
  rw [List.length_take] at hj
  have := (low_at (x := x) h j (by omega)).2 (by omega)
  rw [List.getElem?_eq_getElem (by omega), Option.getD_some] at this
  rw [List.getElem_take]; exact this
theorem drop_low {l : List Int} (h : Rise l) (x : Int) : ∀ y ∈ l.drop (low l x), x ≤ y := by
  intro y hy
  obtain ⟨j, hj, rfl⟩ := List.mem_iff_getElem.1 hy
  rw [List.length_drop] at hj
  have := (low_at (x := x) h (low l x + j) (by omega))
  rw [List.getElem?_eq_getElem (by omega), Option.getD_some] at this
  rw [List.getElem_drop]
  rcases Int.lt_or_le l[low l x + j] x with h1 | h1
  · have := this.1 h1; omega
  · exact h1
theorem mem_parts (l : List Int) (k : Nat) (y : Int) : y ∈ l ↔ y ∈ l.take k ∨ y ∈ l.drop k := by
  rw [← List.mem_append, List.take_append_drop]

def withL (l : List Int) (x : Int) : List Int := if isIn l x = true then l else l.take (low l x) ++ x :: l.drop (low l x)
def outL (l : List Int) (x : Int) : List Int := if isIn l x = true then l.take (low l x) ++ l.drop (low l x + 1) else l
theorem mem_with {l : List Int} {x y : Int} : y ∈ withL l x ↔ y = x ∨ y ∈ l := by
  unfold withL; split
  · next h =>
    have := isIn_iff.1 h
    constructor
    · exact .inr
    · rintro (rfl | h)
      · exact this
      · exact h
  · rw [mem_parts l (low l x) y, List.mem_append, List.mem_cons]
    constructor
    · rintro (h | h | h)
      · exact .inr (.inl h)
      · exact .inl h
      · exact .inr (.inr h)
    · rintro (h | h | h)
      · exact .inr (.inl h)
      · exact .inl h
      · exact .inr (.inr h)
theorem with_rise {l : List Int} (h : Rise l) (x : Int) : Rise (withL l x) := by
  unfold withL; split
  · exact h
  · next hn =>
    have hn : x ∉ l := by rw [← isIn_iff]; exact hn
    have ht := take_low h x
    have hd := drop_low h x
    unfold Rise
    rw [List.pairwise_append, List.pairwise_cons]
    refine ⟨h.sublist (List.take_sublist _ _), ⟨fun y hy => ?_, h.sublist (List.drop_sublist _ _)⟩, fun a ha b hb => ?_⟩
    · have h1 := hd y hy
      have : y ≠ x := fun e => hn (e ▸ List.mem_of_mem_drop hy)
      omega
    · have h1 := ht a ha
      rcases List.mem_cons.1 hb with rfl | hb
      · exact h1
      · have h2 := hd b hb; omega
theorem len_with (l : List Int) (x : Int) : (withL l x).length = l.length + (if isIn l x = true then 0 else 1) := by
  unfold withL; split
  · rfl
  · have := low_le l x
    rw [List.length_append, List.length_take, List.length_cons, List.length_drop]; omega
/-- Where x is, it stands at its place. -/
theorem cut_low {l : List Int} (h : Rise l) {x : Int} (hx : isIn l x = true) : low l x < l.length ∧ l.drop (low l x) = x :: l.drop (low l x + 1) := by
  have e := isIn_at h x
  rw [hx] at e
  have e := e.symm
  rw [Bool.and_eq_true, decide_eq_true_eq, beq_iff_eq] at e
  obtain ⟨h1, h2⟩ := e
  refine ⟨h1, ?_⟩
  rw [List.getElem?_eq_getElem h1, Option.getD_some] at h2
  rw [List.drop_eq_getElem_cons h1, h2]
theorem mem_out {l : List Int} (h : Rise l) {x y : Int} : y ∈ outL l x ↔ y ∈ l ∧ y ≠ x := by
  unfold outL; split
  · next hx =>
    obtain ⟨h1, h2⟩ := cut_low h hx
    have ht := take_low h x
    have hd : Rise (l.drop (low l x)) := h.sublist (List.drop_sublist _ _)
    rw [mem_parts l (low l x) y, h2, List.mem_append, List.mem_cons]
    rw [h2] at hd
    have hd := (rise_cons.1 hd).1
    constructor
    · rintro (h3 | h3)
      · exact ⟨.inl h3, by have := ht y h3; omega⟩
      · exact ⟨.inr (.inr h3), by have := hd y h3; omega⟩
    · rintro ⟨h3 | h3 | h3, h4⟩
      · exact .inl h3
      · exact absurd h3 h4
      · exact .inr h3
  · next hx =>
    have hx : x ∉ l := by rw [← isIn_iff]; exact hx
    exact ⟨fun h1 => ⟨h1, fun e => hx (e ▸ h1)⟩, fun h1 => h1.1⟩
theorem out_rise {l : List Int} (h : Rise l) (x : Int) : Rise (outL l x) := by
  unfold outL; split
  · next hx =>
    obtain ⟨h1, h2⟩ := cut_low h hx
    have : Rise (l.take (low l x) ++ l.drop (low l x)) := by rw [List.take_append_drop]; exact h
    rw [h2] at this
    exact this.sublist (List.Sublist.append (List.Sublist.refl _) (List.sublist_cons_self _ _))
  · exact h
theorem len_out {l : List Int} (h : Rise l) (x : Int) : (outL l x).length + (if isIn l x = true then 1 else 0) = l.length := by
  unfold outL
  cases hx : isIn l x
  · simp
  · have h1 := (cut_low h hx).1
    simp only [if_true]
    rw [List.length_append, List.length_take, List.length_drop]; omega

/-- The document's With, number by number: has x been put, and what there is so far. -/
def rwStep (x : Int) (s : Bool × List Int) (y : Int) : Bool × List Int :=
  (s.1 || decide (x ≤ y), (if (!s.1 && decide (x ≤ y)) = true then s.2 ++ [x] else s.2) ++ (if y = x then [] else [y]))
def rwRun (x : Int) (l : List Int) : Bool × List Int := l.foldl (rwStep x) (false, [])
def rwithL (l : List Int) (x : Int) : List Int := if (rwRun x l).1 = true then (rwRun x l).2 else (rwRun x l).2 ++ [x]
theorem rw_snoc (x : Int) (l : List Int) (k : Nat) (h : k < l.length) : rwRun x (l.take (k + 1)) = rwStep x (rwRun x (l.take k)) (l[k]?.getD 0) := by
  unfold rwRun
  rw [take_snoc l k h, List.foldl_append, List.getElem?_eq_getElem h]; rfl
def outF (l : List Int) (x : Int) : List Int := l.flatMap fun y => if y = x then [] else [y]
theorem outF_snoc (x : Int) (l : List Int) (k : Nat) (h : k < l.length) : outF (l.take (k + 1)) x = outF (l.take k) x ++ (if l[k]?.getD 0 = x then [] else [l[k]?.getD 0]) := by
  unfold outF
  rw [take_snoc l k h, List.flatMap_append, List.getElem?_eq_getElem h]; simp
theorem mem_outF {l : List Int} {x y : Int} : y ∈ outF l x ↔ y ∈ l ∧ y ≠ x := by
  unfold outF
  rw [List.mem_flatMap]
  constructor
  · rintro ⟨a, ha, h⟩
    split at h
    · cases h
    · next hne => obtain rfl := List.mem_singleton.1 h; exact ⟨ha, hne⟩
  · rintro ⟨h, hne⟩
    exact ⟨y, h, by rw [if_neg hne]; simp⟩
theorem outF_cons (a : Int) (r : List Int) (x : Int) : outF (a :: r) x = (if a = x then [] else [a]) ++ outF r x := by unfold outF; rw [List.flatMap_cons]
theorem outF_rise {x : Int} : ∀ {l : List Int}, Rise l → Rise (outF l x)
  | [], _ => rise_nil
  | a :: r, h => by
    obtain ⟨ha, hr⟩ := rise_cons.1 h
    rw [outF_cons]
    split
    · exact outF_rise hr
    · exact rise_cons.2 ⟨fun y hy => ha y (mem_outF.1 hy).1, outF_rise hr⟩
theorem outF_eq {l : List Int} (h : Rise l) (x : Int) : outF l x = outL l x := rise_ext (outF_rise h) (out_rise h x) fun y => by rw [mem_outF, mem_out h]
theorem outF_le (l : List Int) (x : Int) : (outF l x).length ≤ l.length := by
  induction l with
  | nil => simp [outF]
  | cons a r ih => rw [outF_cons, List.length_append, List.length_cons]; split <;> simp <;> omega
def insL (x : Int) : List Int → List Int
  | [] => [x]
  | y :: r => if y < x then y :: insL x r else x :: outF (y :: r) x
theorem rw_true (x : Int) : ∀ (l : List Int) (o : List Int), l.foldl (rwStep x) (true, o) = (true, o ++ outF l x)
  | [], o => by simp [outF]
  | y :: r, o => by
    rw [List.foldl_cons, show rwStep x (true, o) y = (true, o ++ (if y = x then [] else [y])) from rfl, rw_true x r, outF_cons, List.append_assoc]
def rwEnd (x : Int) (s : Bool × List Int) : List Int := if s.1 = true then s.2 else s.2 ++ [x]
theorem rw_ins (x : Int) : ∀ (l : List Int) (o : List Int), rwEnd x (l.foldl (rwStep x) (false, o)) = o ++ insL x l
  | [], o => rfl
  | y :: r, o => by
    rw [List.foldl_cons]
    by_cases h : y < x
    · have e : rwStep x (false, o) y = (false, o ++ [y]) := by
        unfold rwStep
        simp only [Bool.false_or, Bool.not_false, Bool.true_and]
        rw [decide_eq_false (by omega)]
        simp [show ¬ y = x by omega]
      rw [e, rw_ins x r]
      simp [insL, h]
    · have e : rwStep x (false, o) y = (true, o ++ [x] ++ (if y = x then [] else [y])) := by
        unfold rwStep
        simp only [Bool.false_or, Bool.not_false, Bool.true_and]
        rw [decide_eq_true (by omega)]
        simp
      rw [e, rw_true]
      simp [insL, h, rwEnd, outF_cons]
theorem mem_ins {x y : Int} : ∀ {l : List Int}, y ∈ insL x l ↔ y = x ∨ y ∈ l
  | [] => by simp [insL]
  | a :: r => by
    unfold insL; split
    · rw [List.mem_cons, mem_ins (l := r), List.mem_cons]
      constructor
      · rintro (h | h | h)
        · exact .inr (.inl h)
        · exact .inl h
        · exact .inr (.inr h)
      · rintro (h | h | h)
        · exact .inr (.inl h)
        · exact .inl h
        · exact .inr (.inr h)
    · rw [List.mem_cons, mem_outF]
      constructor
      · rintro (h | h)
        · exact .inl h
        · exact .inr h.1
      · rintro (h | h)
        · exact .inl h
        · by_cases e : y = x
          · exact .inl e
          · exact .inr ⟨h, e⟩
theorem ins_rise {x : Int} : ∀ {l : List Int}, Rise l → Rise (insL x l)
  | [], _ => rise_cons.2 ⟨by simp, rise_nil⟩
  | a :: r, h => by
    obtain ⟨ha, hr⟩ := rise_cons.1 h
    unfold insL; split
    · next hx =>
      refine rise_cons.2 ⟨fun y hy => ?_, ins_rise hr⟩
      rcases mem_ins.1 hy with rfl | h1
      · exact hx
      · exact ha y h1
    · next hx =>
      refine rise_cons.2 ⟨fun y hy => ?_, outF_rise h⟩
      obtain ⟨h1, h2⟩ := mem_outF.1 hy
      rcases List.mem_cons.1 h1 with rfl | h1
      · omega
      · have := ha y h1; omega
theorem rwith_eq {l : List Int} (h : Rise l) (x : Int) : rwithL l x = withL l x := by
  have e : rwithL l x = insL x l := by
    have := rw_ins x l []
    rw [List.nil_append] at this
    exact this
  rw [e]
  exact rise_ext (ins_rise h) (with_rise h x) fun y => by rw [mem_ins, mem_with]
theorem rw_len (x : Int) (l : List Int) : ∀ k, k ≤ l.length → (rwRun x (l.take k)).2.length + (if (rwRun x (l.take k)).1 = true then 0 else 1) ≤ k + 1 := by
  intro k
  induction k with
  | zero => intro _; simp [rwRun]
  | succ k ih =>
    intro hk
    have := ih (by omega)
    rw [rw_snoc x l k (by omega)]
    generalize rwRun x (l.take k) = s at *
    obtain ⟨b, o⟩ := s
    unfold rwStep
    generalize l[k]?.getD 0 = y
    clear ih
    cases b <;> by_cases h1 : x ≤ y <;> by_cases h2 : y = x <;> simp only [h1, h2, Int.le_refl, Bool.true_or, Bool.false_or, decide_true, decide_false, Bool.not_false, Bool.not_true, Bool.true_and, Bool.false_and, Bool.false_eq_true, if_true, if_false, List.length_append, List.length_cons, List.length_nil] at this ⊢ <;> omega

/-- All numbers of a list, each once, rising. -/
def risL (l : List Int) : List Int := l.foldl withL []
theorem ris_snoc (l : List Int) (k : Nat) (h : k < l.length) : risL (l.take (k + 1)) = withL (risL (l.take k)) (l[k]?.getD 0) := by
  unfold risL
  rw [take_snoc l k h, List.foldl_append, List.getElem?_eq_getElem h]; rfl
theorem fold_rise : ∀ (l o : List Int), Rise o → Rise (l.foldl withL o) ∧ (∀ y, y ∈ l.foldl withL o ↔ y ∈ o ∨ y ∈ l) ∧ (l.foldl withL o).length ≤ o.length + l.length
  | [], o, h => ⟨h, fun y => by simp, by simp⟩
  | a :: r, o, h => by
    obtain ⟨h1, h2, h3⟩ := fold_rise r (withL o a) (with_rise h a)
    refine ⟨h1, fun y => ?_, ?_⟩
    · rw [List.foldl_cons, h2, mem_with, List.mem_cons]
      constructor
      · rintro ((h | h) | h)
        · exact .inr (.inl h)
        · exact .inl h
        · exact .inr (.inr h)
      · rintro (h | h | h)
        · exact .inl (.inr h)
        · exact .inl (.inl h)
        · exact .inr h
    · rw [List.foldl_cons, List.length_cons]
      have := len_with o a
      split at this <;> omega
theorem ris_rise (l : List Int) : Rise (risL l) := (fold_rise l [] rise_nil).1
theorem mem_ris {l : List Int} {y : Int} : y ∈ risL l ↔ y ∈ l := by
  have := (fold_rise l [] rise_nil).2.1 y
  unfold risL; simpa using this
theorem ris_len (l : List Int) : (risL l).length ≤ l.length := by
  have := (fold_rise l [] rise_nil).2.2
  unfold risL; simpa using this
end Go.Proofs.Ytmhnnilfehankaa
