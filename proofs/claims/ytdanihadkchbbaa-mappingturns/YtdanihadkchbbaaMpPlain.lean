/- Pure: maps as lists of keys and values: a key's value, a map with it and without it, and the document's. -/
import Derived.Test.YtdanihadkchbbaaStPlain
namespace Go.Proofs.Ytdanihadkchbbaa
open Go.RowKit
set_option linter.unusedVariables false

/-- Keys, each with its value. -/
def duos : List Int → List (Int × Int)
  | k :: u :: r => (k, u) :: duos r
  | _ => []
/-- Where a key stands, or would stand. -/
def kat : List Int → Int → Nat
  | k :: _ :: r, x => if k < x then kat r x + 2 else 0
  | _, _ => 0
def kget : List Int → Int → Option Int
  | k :: u :: r, x => if k < x then kget r x else if k = x then some u else none
  | _, _ => none
def setM : List Int → Int → Int → List Int
  | k :: u :: r, x, v => if k < x then k :: u :: setM r x v else if k = x then x :: v :: r else x :: v :: k :: u :: r
  | l, x, v => x :: v :: l
def dropM : List Int → Int → List Int
  | k :: u :: r, x => if k < x then k :: u :: dropM r x else if k = x then r else k :: u :: r
  | l, _ => l
def khas (l : List Int) (x : Int) : Bool := (kget l x).isSome
def kval (l : List Int) (x : Int) : Int := (kget l x).getD 0
/-- Where what is behind a key and its value begins. -/
def kend (l : List Int) (x : Int) : Nat := kat l x + if khas l x = true then 2 else 0

/-- Two by two. -/
theorem two_ind {p : List Int → Prop} (h0 : p []) (h1 : ∀ a, p [a]) (h2 : ∀ k u r, p r → p (k :: u :: r)) : ∀ l, p l
  | [] => h0
  | [a] => h1 a
  | k :: u :: r => h2 k u r (two_ind h0 h1 h2 r)

theorem duos_len (l : List Int) : (duos l).length = l.length / 2 := by
  induction l using two_ind with
  | h0 => rfl
  | h1 a => simp [duos]
  | h2 k u r ih => simp only [duos, List.length_cons, ih]; omega
theorem duos_get (l : List Int) : ∀ k, k < (duos l).length → (duos l)[k]? = some (l[2 * k]?.getD 0, l[2 * k + 1]?.getD 0) := by
  induction l using two_ind with
  | h0 => intro k h; simp [duos] at h
  | h1 a => intro k h; simp [duos] at h
  | h2 k u r ih =>
    intro j h
    cases j with
    | zero => rfl
    | succ j =>
      have := ih j (by simpa [duos] using h)
      simp only [duos, List.getElem?_cons_succ, this]
      rw [show 2 * (j + 1) = 2 * j + 1 + 1 by omega]
      simp only [List.getElem?_cons_succ]

theorem kat_le (l : List Int) (x : Int) : kend l x ≤ l.length := by
  induction l using two_ind with
  | h0 => simp [kend, kat, khas, kget]
  | h1 a => simp [kend, kat, khas, kget]
  | h2 k u r ih =>
    unfold kend khas at *
    simp only [kat, kget, List.length_cons]
    by_cases h : k < x
    · simp only [h, if_true]; omega
    · simp only [h, if_false]; split <;> simp
theorem set_parts (l : List Int) (x v : Int) : setM l x v = l.take (kat l x) ++ ([x, v] ++ l.drop (kend l x)) := by
  induction l using two_ind with
  | h0 => simp [kend, kat, khas, kget, setM]
  | h1 a => simp [kend, kat, khas, kget, setM]
  | h2 k u r ih =>
    unfold kend khas at *
    simp only [kat, kget, setM]
    by_cases h : k < x
    · simp only [h, if_true, ih]
      rw [show (kat r x + 2 + if (kget r x).isSome = true then 2 else 0) = (kat r x + if (kget r x).isSome = true then 2 else 0) + 1 + 1 by omega]
      simp
    · simp only [h, if_false]
      by_cases e : k = x
      · subst e; simp
      · simp [e]
theorem drop_parts (l : List Int) (x : Int) : dropM l x = l.take (kat l x) ++ l.drop (kend l x) := by
  induction l using two_ind with
  | h0 => simp [kend, kat, khas, kget, dropM]
  | h1 a => simp [kend, kat, khas, kget, dropM]
  | h2 k u r ih =>
    unfold kend khas at *
    simp only [kat, kget, dropM]
    by_cases h : k < x
    · simp only [h, if_true, ih]
      rw [show (kat r x + 2 + if (kget r x).isSome = true then 2 else 0) = (kat r x + if (kget r x).isSome = true then 2 else 0) + 1 + 1 by omega]
      simp
    · simp only [h, if_false]
      by_cases e : k = x
      · subst e; simp
      · simp [e]

theorem cut_none (l : List Int) (x : Int) (h : ∀ p ∈ duos l, p.1 < x) : kat l x = 2 * (duos l).length ∧ kget l x = none := by
  induction l using two_ind with
  | h0 => exact ⟨rfl, rfl⟩
  | h1 a => exact ⟨rfl, rfl⟩
  | h2 k u r ih =>
    have hk : k < x := h (k, u) (by simp [duos])
    obtain ⟨h1, h2⟩ := ih (fun p hp => h p (by simp [duos, hp]))
    simp only [kat, kget, hk, if_true, h1, h2, duos, List.length_cons, and_true]
    omega
theorem cut_some (l : List Int) (x k u : Int) : ∀ q : List (Int × Int), (q ++ [(k, u)]) <+: duos l → (∀ p ∈ q, p.1 < x) → ¬ k < x → kat l x = 2 * q.length ∧ kget l x = (if k = x then some u else none) ∧ 2 * q.length + 1 < l.length := by
  induction l using two_ind with
  | h0 => intro q h; simp [duos] at h
  | h1 a => intro q h; simp [duos] at h
  | h2 k' u' r ih =>
    intro q h hq hk
    cases q with
    | nil =>
      simp only [duos, List.nil_append, List.cons_prefix_cons] at h
      obtain ⟨h, _⟩ := h
      injection h with h1 h2
      subst h1; subst h2
      simp [kat, kget, hk]
    | cons p q =>
      simp only [duos, List.cons_append, List.cons_prefix_cons] at h
      obtain ⟨rfl, h⟩ := h
      have hk' : k' < x := hq (k', u') (by simp)
      obtain ⟨h1, h2, h3⟩ := ih q h (fun p hp => hq p (by simp [hp])) hk
      simp only [kat, kget, hk', if_true, h1, h2, List.length_cons, true_and]
      omega

/-- A map's list. -/
def krise : List Int → Prop
  | k :: _ :: r => (∀ p ∈ duos r, k < p.1) ∧ krise r
  | [] => True
  | [_] => False

theorem rise_two (k u : Int) (r : List Int) : riseB 2 (k :: u :: r) = true ↔ (∀ y, r.head? = some y → k < y) ∧ riseB 2 r = true := by
  unfold riseB riseTo
  simp only [List.all_eq_true, List.mem_range, Bool.or_eq_true, decide_eq_true_eq, List.length_cons]
  constructor
  · intro h
    refine ⟨fun y hy => ?_, fun j hj => ?_⟩
    · have := h 0 (by omega)
      cases r with
      | nil => cases hy
      | cons z r => cases hy; simpa using this
    · have := h (j + 1) (by omega)
      rw [show (j + 1) * 2 = j * 2 + 1 + 1 by omega, show (j + 1 + 1) * 2 = (j * 2 + 2) + 1 + 1 by omega] at this
      simp only [List.getElem?_cons_succ] at this
      rw [show (j + 1) * 2 = j * 2 + 2 by omega]
      rcases this with h | h
      · left; omega
      · right; exact h
  · rintro ⟨h1, h2⟩ j hj
    cases j with
    | zero =>
      cases r with
      | nil => left; simp
      | cons z r => right; simpa using h1 z rfl
    | succ j =>
      rw [show (j + 1) * 2 = j * 2 + 1 + 1 by omega, show (j + 1 + 1) * 2 = (j * 2 + 2) + 1 + 1 by omega]
      simp only [List.getElem?_cons_succ]
      by_cases hj' : j < r.length
      · have := h2 j hj'
        rw [show (j + 1) * 2 = j * 2 + 2 by omega] at this
        rcases this with h | h
        · left; omega
        · right; exact h
      · left; omega
theorem krise_iff (l : List Int) : l.length % 2 = 0 ∧ riseB 2 l = true ↔ krise l := by
  induction l using two_ind with
  | h0 => simp [krise, riseB, riseTo]
  | h1 a => simp [krise]
  | h2 k u r ih =>
    simp only [krise, rise_two, List.length_cons]
    constructor
    · rintro ⟨h1, h2, h3⟩
      have hr := ih.1 ⟨by omega, h3⟩
      refine ⟨?_, hr⟩
      match r, h2, hr with
      | [], _, _ => simp [duos]
      | [_], _, hr => exact hr.elim
      | y :: z :: r, h2, hr =>
        have hy := h2 y rfl
        intro p hp
        simp only [duos, List.mem_cons] at hp
        rcases hp with rfl | hp
        · exact hy
        · have := hr.1 p hp; omega
    · rintro ⟨h1, h2⟩
      obtain ⟨h3, h4⟩ := ih.2 h2
      refine ⟨by omega, fun y hy => ?_, h4⟩
      match r, h1, hy, h2 with
      | [], _, hy, _ => cases hy
      | [_], _, _, h2 => exact h2.elim
      | y2 :: z :: r, h1, hy, _ =>
        have e : y2 = y := by simpa using hy
        subst e
        exact h1 (y2, z) (by simp [duos])

theorem kget_none (r : List Int) (y : Int) (h : ∀ p ∈ duos r, y < p.1) : kget r y = none := by
  match r with
  | [] => rfl
  | [_] => rfl
  | k :: u :: r =>
    have : y < k := h (k, u) (by simp [duos])
    simp only [kget]
    rw [if_neg (by omega), if_neg (by omega)]
theorem mem_set (l : List Int) (x v : Int) : ∀ p ∈ duos (setM l x v), p = (x, v) ∨ p ∈ duos l := by
  induction l using two_ind with
  | h0 => simp [setM, duos]
  | h1 a => simp [setM, duos]
  | h2 k u r ih =>
    intro p hp
    simp only [setM] at hp
    split at hp
    · simp only [duos, List.mem_cons] at hp ⊢
      rcases hp with rfl | hp
      · exact .inr (.inl rfl)
      · rcases ih p hp with h | h
        · exact .inl h
        · exact .inr (.inr h)
    · split at hp
      · simp only [duos, List.mem_cons] at hp ⊢
        rcases hp with rfl | hp
        · exact .inl rfl
        · exact .inr (.inr hp)
      · simp only [duos, List.mem_cons] at hp ⊢
        exact hp
theorem mem_drop (l : List Int) (x : Int) : ∀ p ∈ duos (dropM l x), p ∈ duos l := by
  induction l using two_ind with
  | h0 => simp [dropM, duos]
  | h1 a => simp [dropM, duos]
  | h2 k u r ih =>
    intro p hp
    simp only [dropM] at hp
    split at hp
    · simp only [duos, List.mem_cons] at hp ⊢
      rcases hp with rfl | hp
      · exact .inl rfl
      · exact .inr (ih p hp)
    · split at hp
      · simp only [duos, List.mem_cons]; exact .inr hp
      · exact hp
theorem krise_set {l : List Int} (h : krise l) (x v : Int) : krise (setM l x v) := by
  induction l using two_ind with
  | h0 => simp [setM, krise, duos]
  | h1 a => exact h.elim
  | h2 k u r ih =>
    obtain ⟨h1, h2⟩ := h
    simp only [setM]
    split
    · refine ⟨fun p hp => ?_, ih h2⟩
      rcases mem_set _ _ _ p hp with rfl | hp
      · assumption
      · exact h1 p hp
    · split
      · next e => subst e; exact ⟨h1, h2⟩
      · refine ⟨fun p hp => ?_, h1, h2⟩
        simp only [duos, List.mem_cons] at hp
        rcases hp with rfl | hp
        · show x < k; omega
        · have := h1 p hp; omega
theorem krise_drop {l : List Int} (h : krise l) (x : Int) : krise (dropM l x) := by
  induction l using two_ind with
  | h0 => exact h
  | h1 a => exact h.elim
  | h2 k u r ih =>
    obtain ⟨h1, h2⟩ := h
    simp only [dropM]
    split
    · exact ⟨fun p hp => h1 p (mem_drop _ _ p hp), ih h2⟩
    · split
      · exact h2
      · exact ⟨h1, h2⟩
theorem get_set {l : List Int} (h : krise l) (x v y : Int) : kget (setM l x v) y = if y = x then some v else kget l y := by
  induction l using two_ind with
  | h0 =>
    simp only [setM, kget]
    by_cases e : y = x
    · subst e; simp
    · rw [if_neg e]; split
      · rfl
      · rw [if_neg (Ne.symm e)]
  | h1 a => exact h.elim
  | h2 k u r ih =>
    obtain ⟨h1, h2⟩ := h
    have ih := ih h2
    simp only [setM]
    split
    · next hk =>
      simp only [kget, ih]
      by_cases e : y = x
      · subst e; simp [hk]
      · simp [e]
    · next hk =>
      split
      · next e =>
        subst e
        simp only [kget]
        by_cases e : y = k
        · subst e; simp
        · simp only [e, if_false]
          by_cases hy : k < y
          · simp [hy]
          · simp [hy, Ne.symm e]
      · next e =>
        simp only [kget]
        by_cases e2 : y = x
        · subst e2; simp
        · simp only [e2, if_false]
          by_cases hy : x < y
          · simp [hy]
          · rw [if_neg hy, if_neg (Ne.symm e2), if_neg (by omega), if_neg (by omega)]
theorem get_drop {l : List Int} (h : krise l) (x y : Int) : kget (dropM l x) y = if y = x then none else kget l y := by
  induction l using two_ind with
  | h0 => simp [dropM, kget]
  | h1 a => exact h.elim
  | h2 k u r ih =>
    obtain ⟨h1, h2⟩ := h
    have ih := ih h2
    simp only [dropM]
    split
    · next hk =>
      simp only [kget, ih]
      by_cases e : y = x
      · subst e; simp [hk]
      · simp [e]
    · next hk =>
      split
      · next e =>
        subst e
        by_cases e : y = k
        · subst e; simp [kget_none r y (fun p hp => h1 p hp)]
        · simp only [e, if_false, kget]
          by_cases hy : k < y
          · simp [hy]
          · rw [if_neg hy, if_neg (Ne.symm e)]
            exact kget_none r y (fun p hp => by have := h1 p hp; omega)
      · next e =>
        simp only [kget]
        by_cases e2 : y = x
        · subst e2; rw [if_pos rfl, if_neg hk, if_neg e]
        · simp [e2]
theorem map_ext : ∀ {l m : List Int}, krise l → krise m → (∀ y, kget l y = kget m y) → l = m
  | [], [], _, _, _ => rfl
  | [_], _, h, _, _ => h.elim
  | _, [_], _, h, _ => h.elim
  | [], k :: u :: r, _, _, h => by have := h k; simp [kget] at this
  | k :: u :: r, [], _, _, h => by have := h k; simp [kget] at this
  | k :: u :: r, k' :: u' :: r', hl, hm, h => by
    have hk : k = k' := by
      have a := h k
      have b := h k'
      simp only [kget, Int.lt_irrefl, if_true, if_false] at a b
      rcases Int.lt_trichotomy k k' with hlt | e | hlt
      · rw [if_neg (by omega), if_neg (by omega)] at a; cases a
      · exact e
      · rw [if_neg (by omega), if_neg (by omega)] at b; cases b
    subst hk
    have hu : u = u' := by
      have a := h k
      simp only [kget, Int.lt_irrefl, if_true, if_false] at a
      injection a
    subst hu
    have hr : r = r' := map_ext hl.2 hm.2 fun y => by
      by_cases hy : k < y
      · have a := h y
        simp only [kget, hy, if_true] at a
        exact a
      · rw [kget_none r y (fun p hp => by have := hl.1 p hp; omega), kget_none r' y (fun p hp => by have := hm.1 p hp; omega)]
    rw [hr]

theorem set_len (l : List Int) (x v : Int) : (setM l x v).length = l.length + if khas l x = true then 0 else 2 := by
  have := kat_le l x
  rw [set_parts]
  unfold kend at *
  simp only [List.length_append, List.length_take, List.length_drop, List.length_cons, List.length_nil]
  split at this <;> simp [*] <;> omega
theorem set_len_le (l : List Int) (x v : Int) : (setM l x v).length ≤ l.length + 2 := by rw [set_len]; split <;> omega
theorem drop_len_le (l : List Int) (x : Int) : (dropM l x).length ≤ l.length := by
  have := kat_le l x
  rw [drop_parts]
  unfold kend at *
  simp only [List.length_append, List.length_take, List.length_drop]
  split at this <;> omega

/-- What follows. -/
theorem set_again {l : List Int} (h : krise l) (x v : Int) : setM (setM l x v) x v = setM l x v :=
  map_ext (krise_set (krise_set h x v) x v) (krise_set h x v) fun y => by rw [get_set (krise_set h x v), get_set h]; split <;> rfl
theorem drop_again {l : List Int} (h : krise l) (x : Int) : dropM (dropM l x) x = dropM l x :=
  map_ext (krise_drop (krise_drop h x) x) (krise_drop h x) fun y => by rw [get_drop (krise_drop h x), get_drop h]; split <;> rfl
theorem set_back {l : List Int} (h : krise l) (x v u : Int) (hu : kget l x = some u) : setM (setM l x v) x u = l :=
  map_ext (krise_set (krise_set h x v) x u) h fun y => by
    rw [get_set (krise_set h x v), get_set h]
    split
    · next e => subst e; exact hu.symm
    · rfl
theorem drop_back {l : List Int} (h : krise l) (x v : Int) (hu : kget l x = none) : dropM (setM l x v) x = l :=
  map_ext (krise_drop (krise_set h x v) x) h fun y => by
    rw [get_drop (krise_set h x v), get_set h]
    split
    · next e => subst e; exact hu.symm
    · rfl
theorem set_turn {l : List Int} (h : krise l) (x v y u : Int) (hne : y ≠ x) : setM (setM l x v) y u = setM (setM l y u) x v :=
  map_ext (krise_set (krise_set h x v) y u) (krise_set (krise_set h y u) x v) fun z => by
    rw [get_set (krise_set h x v), get_set h, get_set (krise_set h y u), get_set h]
    by_cases e : z = y
    · subst e; simp [hne]
    · by_cases e2 : z = x
      · subst e2; simp [e]
      · simp [e, e2]

/-- The document's. -/
def rget : List Int → Int → Option Int
  | k :: u :: r, x => if k = x then some u else rget r x
  | _, _ => none
def rdrop : List Int → Int → List Int
  | k :: u :: r, x => if k = x then rdrop r x else k :: u :: rdrop r x
  | _, _ => []
def rins : List Int → Int → Int → List Int
  | k :: u :: r, x, v => if k < x then k :: u :: rins r x v else x :: v :: k :: u :: r
  | l, x, v => x :: v :: l
theorem rget_no (r : List Int) (y : Int) (h : ∀ p ∈ duos r, y < p.1) : rget r y = none := by
  induction r using two_ind with
  | h0 => rfl
  | h1 a => rfl
  | h2 k u r ih =>
    have : y < k := h (k, u) (by simp [duos])
    simp only [rget]
    rw [if_neg (by omega)]
    exact ih (fun p hp => h p (by simp [duos, hp]))
theorem rget_eq {l : List Int} (h : krise l) (x : Int) : rget l x = kget l x := by
  induction l using two_ind with
  | h0 => rfl
  | h1 a => rfl
  | h2 k u r ih =>
    obtain ⟨h1, h2⟩ := h
    simp only [rget, kget, ih h2]
    by_cases e : k = x
    · subst e; simp
    · by_cases hk : k < x
      · simp [e, hk]
      · simp only [e, hk, if_false]
        exact kget_none r x (fun p hp => by have := h1 p hp; omega)
theorem rdrop_all {r : List Int} (h : krise r) (y : Int) (hy : ∀ p ∈ duos r, y < p.1) : rdrop r y = r := by
  induction r using two_ind with
  | h0 => rfl
  | h1 a => exact h.elim
  | h2 k u r ih =>
    have : y < k := hy (k, u) (by simp [duos])
    simp only [rdrop]
    rw [if_neg (by omega), ih h.2 (fun p hp => hy p (by simp [duos, hp]))]
theorem rdrop_eq {l : List Int} (h : krise l) (x : Int) : rdrop l x = dropM l x := by
  induction l using two_ind with
  | h0 => rfl
  | h1 a => exact h.elim
  | h2 k u r ih =>
    obtain ⟨h1, h2⟩ := h
    simp only [rdrop, dropM, ih h2]
    by_cases e : k = x
    · subst e; simp [← ih h2, rdrop_all h2 k h1]
    · by_cases hk : k < x
      · simp [e, hk]
      · simp only [e, hk, if_false]
        rw [← ih h2, rdrop_all h2 x (fun p hp => by have := h1 p hp; omega)]
theorem rins_eq {l : List Int} (h : krise l) (x v : Int) : rins (dropM l x) x v = setM l x v := by
  induction l using two_ind with
  | h0 => rfl
  | h1 a => exact h.elim
  | h2 k u r ih =>
    obtain ⟨h1, h2⟩ := h
    simp only [dropM, setM]
    by_cases hk : k < x
    · simp [hk, rins, ih h2]
    · by_cases e : k = x
      · subst e
        simp only [hk, if_false, if_true]
        match r, h1, h2 with
        | [], _, _ => rfl
        | [_], _, h2 => exact h2.elim
        | y :: z :: r, h1, _ =>
          have : k < y := h1 (y, z) (by simp [duos])
          simp only [rins]
          rw [if_neg (by omega)]
      · simp [hk, e, rins]
theorem drop_two (l : List Int) (i : Nat) (h : i + 1 < l.length) : l.drop i = l[i]?.getD 0 :: l[i + 1]?.getD 0 :: l.drop (i + 2) := by
  rw [List.getElem?_eq_getElem (by omega), List.getElem?_eq_getElem h, Option.getD_some, Option.getD_some, List.drop_eq_getElem_cons (by omega), List.drop_eq_getElem_cons (by omega)]
theorem drop_short (l : List Int) (i : Nat) (h : ¬ i + 1 < l.length) : l.drop i = [] ∨ ∃ a, l.drop i = [a] := by
  have hl : (l.drop i).length ≤ 1 := by rw [List.length_drop]; omega
  match hd : l.drop i with
  | [] => exact .inl rfl
  | [a] => exact .inr ⟨a, rfl⟩
  | a :: b :: r => rw [hd] at hl; simp at hl
end Go.Proofs.Ytdanihadkchbbaa
