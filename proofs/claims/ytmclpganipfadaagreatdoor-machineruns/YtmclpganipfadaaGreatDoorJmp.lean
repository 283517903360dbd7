/- Texts of earlier stages over this seat, joined: MpPlain MpA MpB MpC MpD MpE MpF MpG MpH MpI MpJ MpK. -/
import Derived.Test.YtmclpganipfadaaGreatDoorJbC
import Derived.RangeFuncNested
import Derived.RangeFuncBound
import Derived.RangeFuncCalls
import Derived.RangeFuncLeaves
import Derived.RangeFuncBox
import Derived.Shelf.Abstract
import Derived.Shelf.RegionOpen
import Derived.OwnWalkIn
import Derived.TacticsInMore
import Derived.LoopNIn
import Derived.LoopIn
import Derived.Lib.AppendZeros
set_option maxRecDepth 100000
namespace Go.Proofs.YtmclpganipfadaaGreatDoor
open Go.RowKit
set_option linter.unusedVariables false

/-- Keys, each with its value. -/
def duos : List Int → List (Int × Int)
  | k :: u :: r => (k, u) :: duos r
  | _ => []
/-- Where a key stands, or would stand. -/
def kat : List Int → Int → Nat
  | k :: _ :: r, x => if k < x then kat r x + 2 else 0
  | _, _ => 0
def kget : List Int → Int → Option Int
  | k :: u :: r, x => if k < x then kget r x else if k = x then some u else none
  | _, _ => none
def setM : List Int → Int → Int → List Int
  | k :: u :: r, x, v => if k < x then k :: u :: setM r x v else if k = x then x :: v :: r else x :: v :: k :: u :: r
  | l, x, v => x :: v :: l
def dropM : List Int → Int → List Int
  | k :: u :: r, x => if k < x then k :: u :: dropM r x else if k = x then r else k :: u :: r
  | l, _ => l
def khas (l : List Int) (x : Int) : Bool := (kget l x).isSome
def kval (l : List Int) (x : Int) : Int := (kget l x).getD 0
/-- Where what is behind a key and its value begins. -/
def kend (l : List Int) (x : Int) : Nat := kat l x + if khas l x = true then 2 else 0

/-- Two by two. -/
theorem two_ind {p : List Int → Prop} (h0 : p []) (h1 : ∀ a, p [a]) (h2 : ∀ k u r, p r → p (k :: u :: r)) : ∀ l, p l
  | [] => h0
  | [a] => h1 a
  | k :: u :: r => h2 k u r (two_ind h0 h1 h2 r)

theorem duos_len (l : List Int) : (duos l).length = l.length / 2 := by
  induction l using two_ind with
  | h0 => rfl
  | h1 a => simp [duos]
  | h2 k u r ih => simp only [duos, List.length_cons, ih]; omega
theorem duos_get (l : List Int) : ∀ k, k < (duos l).length → (duos l)[k]? = some (l[2 * k]?.getD 0, l[2 * k + 1]?.getD 0) := by
  induction l using two_ind with
  | h0 => intro k h; simp [duos] at h
  | h1 a => intro k h; simp [duos] at h
  | h2 k u r ih =>
    intro j h
    cases j with
    | zero => rfl
    | succ j =>
      have := ih j (by simpa [duos] using h)
      simp only [duos, List.getElem?_cons_succ, this]
      rw [show 2 * (j + 1) = 2 * j + 1 + 1 by omega]
      simp only [List.getElem?_cons_succ]

theorem kat_le (l : List Int) (x : Int) : kend l x ≤ l.length := by
  induction l using two_ind with
  | h0 => simp [kend, kat, khas, kget]
  | h1 a => simp [kend, kat, khas, kget]
  | h2 k u r ih =>
    unfold kend khas at *
    simp only [kat, kget, List.length_cons]
    by_cases h : k < x
    · simp only [h, if_true]; omega
    · simp only [h, if_false]; split <;> simp
theorem set_parts (l : List Int) (x v : Int) : setM l x v = l.take (kat l x) ++ ([x, v] ++ l.drop (kend l x)) := by
  induction l using two_ind with
  | h0 => simp [kend, kat, khas, kget, setM]
  | h1 a => simp [kend, kat, khas, kget, setM]
  | h2 k u r ih =>
    unfold kend khas at *
    simp only [kat, kget, setM]
    by_cases h : k < x
    · simp only [h, if_true, ih]
      rw [show (kat r x + 2 + if (kget r x).isSome = true then 2 else 0) = (kat r x + if (kget r x).isSome = true then 2 else 0) + 1 + 1 by omega]
      simp
    · simp only [h, if_false]
      by_cases e : k = x
      · subst e; simp
      · simp [e]
theorem drop_parts (l : List Int) (x : Int) : dropM l x = l.take (kat l x) ++ l.drop (kend l x) := by
  induction l using two_ind with
  | h0 => simp [kend, kat, khas, kget, dropM]
  | h1 a => simp [kend, kat, khas, kget, dropM]
  | h2 k u r ih =>
    unfold kend khas at *
    simp only [kat, kget, dropM]
    by_cases h : k < x
    · simp only [h, if_true, ih]
      rw [show (kat r x + 2 + if (kget r x).isSome = true then 2 else 0) = (kat r x + if (kget r x).isSome = true then 2 else 0) + 1 + 1 by omega]
      simp
    · simp only [h, if_false]
      by_cases e : k = x
      · subst e; simp
      · simp [e]

theorem cut_none (l : List Int) (x : Int) (h : ∀ p ∈ duos l, p.1 < x) : kat l x = 2 * (duos l).length ∧ kget l x = none := by
  induction l using two_ind with
  | h0 => exact ⟨rfl, rfl⟩
  | h1 a => exact ⟨rfl, rfl⟩
  | h2 k u r ih =>
    have hk : k < x := h (k, u) (by simp [duos])
    obtain ⟨h1, h2⟩ := ih (fun p hp => h p (by simp [duos, hp]))
    simp only [kat, kget, hk, if_true, h1, h2, duos, List.length_cons, and_true]
    omega
theorem cut_some (l : List Int) (x k u : Int) : ∀ q : List (Int × Int), (q ++ [(k, u)]) <+: duos l → (∀ p ∈ q, p.1 < x) → ¬ k < x → kat l x = 2 * q.length ∧ kget l x = (if k = x then some u else none) ∧ 2 * q.length + 1 < l.length := by
  induction l using two_ind with
  | h0 => intro q h; simp [duos] at h
  | h1 a => intro q h; simp [duos] at h
  | h2 k' u' r ih =>
    intro q h hq hk
    cases q with
    | nil =>
      simp only [duos, List.nil_append, List.cons_prefix_cons] at h
      obtain ⟨h, _⟩ := h
      injection h with h1 h2
      subst h1; subst h2
      simp [kat, kget, hk]
    | cons p q =>
      simp only [duos, List.cons_append, List.cons_prefix_cons] at h
      obtain ⟨rfl, h⟩ := h
      have hk' : k' < x := hq (k', u') (by simp)
      obtain ⟨h1, h2, h3⟩ := ih q h (fun p hp => hq p (by simp [hp])) hk
      simp only [kat, kget, hk', if_true, h1, h2, List.length_cons, true_and]
      omega

/-- A map's list. -/
def krise : List Int → Prop
  | k :: _ :: r => (∀ p ∈ duos r, k < p.1) ∧ krise r
  | [] => True
  | [_] => False

theorem rise_two (k u : Int) (r : List Int) : riseB 2 (k :: u :: r) = true ↔ (∀ y, r.head? = some y → k < y) ∧ riseB 2 r = true := by
  unfold riseB riseTo
  simp only [List.all_eq_true, List.mem_range, Bool.or_eq_true, decide_eq_true_eq, List.length_cons]
  constructor
  · intro h
    refine ⟨fun y hy => ?_, fun j hj => ?_⟩
    · have := h 0 (by omega)
      cases r with
      | nil => cases hy
      | cons z r => cases hy; simpa using this
    · have := h (j + 1) (by omega)
      rw [show (j + 1) * 2 = j * 2 + 1 + 1 by omega, show (j + 1 + 1) * 2 = (j * 2 + 2) + 1 + 1 by omega] at this
      simp only [List.getElem?_cons_succ] at this
      rw [show (j + 1) * 2 = j * 2 + 2 by omega]
      rcases this with h | h
      · left; omega
      · right; exact h
  · rintro ⟨h1, h2⟩ j hj
    cases j with
    | zero =>
      cases r with
      | nil => left; simp
      | cons z r => right; simpa using h1 z rfl
    | succ j =>
      rw [show (j + 1) * 2 = j * 2 + 1 + 1 by omega, show (j + 1 + 1) * 2 = (j * 2 + 2) + 1 + 1 by omega]
      simp only [List.getElem?_cons_succ]
      by_cases hj' : j < r.length
      · have := h2 j hj'
        rw [show (j + 1) * 2 = j * 2 + 2 by omega] at this
        rcases this with h | h
        · left; omega
        · right; exact h
      · left; omega
theorem krise_iff (l : List Int) : l.length % 2 = 0 ∧ riseB 2 l = true ↔ krise l := by
  induction l using two_ind with
  | h0 => simp [krise, riseB, riseTo]
  | h1 a => simp [krise]
  | h2 k u r ih =>
    simp only [krise, rise_two, List.length_cons]
    constructor
    · rintro ⟨h1, h2, h3⟩
      have hr := ih.1 ⟨by omega, h3⟩
      refine ⟨?_, hr⟩
      match r, h2, hr with
      | [], _, _ => simp [duos]
      | [_], _, hr => exact hr.elim
      | y :: z :: r, h2, hr =>
        have hy := h2 y rfl
        intro p hp
        simp only [duos, List.mem_cons] at hp
        rcases hp with rfl | hp
        · exact hy
        · have := hr.1 p hp; omega
    · rintro ⟨h1, h2⟩
      obtain ⟨h3, h4⟩ := ih.2 h2
      refine ⟨by omega, fun y hy => ?_, h4⟩
      match r, h1, hy, h2 with
      | [], _, hy, _ => cases hy
      | [_], _, _, h2 => exact h2.elim
      | y2 :: z :: r, h1, hy, _ =>
        have e : y2 = y := by simpa using hy
        subst e
        exact h1 (y2, z) (by simp [duos])

theorem kget_none (r : List Int) (y : Int) (h : ∀ p ∈ duos r, y < p.1) : kget r y = none := by
  match r with
  | [] => rfl
  | [_] => rfl
  | k :: u :: r =>
    have : y < k := h (k, u) (by simp [duos])
    simp only [kget]
    rw [if_neg (by omega), if_neg (by omega)]
theorem mem_set (l : List Int) (x v : Int) : ∀ p ∈ duos (setM l x v), p = (x, v) ∨ p ∈ duos l := by
  induction l using two_ind with
  | h0 => simp [setM, duos]
  | h1 a => simp [setM, duos]
  | h2 k u r ih =>
    intro p hp
    simp only [setM] at hp
    split at hp
    · simp only [duos, List.mem_cons] at hp ⊢
      rcases hp with rfl | hp
      · exact .inr (.inl rfl)
      · rcases ih p hp with h | h
        · exact .inl h
        · exact .inr (.inr h)
    · split at hp
      · simp only [duos, List.mem_cons] at hp ⊢
        rcases hp with rfl | hp
        · exact .inl rfl
        · exact .inr (.inr hp)
      · simp only [duos, List.mem_cons] at hp ⊢
        exact hp
theorem mem_drop (l : List Int) (x : Int) : ∀ p ∈ duos (dropM l x), p ∈ duos l := by
  induction l using two_ind with
  | h0 => simp [dropM, duos]
  | h1 a => simp [dropM, duos]
  | h2 k u r ih =>
    intro p hp
    simp only [dropM] at hp
    split at hp
    · simp only [duos, List.mem_cons] at hp ⊢
      rcases hp with rfl | hp
      · exact .inl rfl
      · exact .inr (ih p hp)
    · split at hp
      · simp only [duos, List.mem_cons]; exact .inr hp
      · exact hp
theorem krise_set {l : List Int} (h : krise l) (x v : Int) : krise (setM l x v) := by
  induction l using two_ind with
  | h0 => simp [setM, krise, duos]
  | h1 a => exact h.elim
  | h2 k u r ih =>
    obtain ⟨h1, h2⟩ := h
    simp only [setM]
    split
    · refine ⟨fun p hp => ?_, ih h2⟩
      rcases mem_set _ _ _ p hp with rfl | hp
      · assumption
      · exact h1 p hp
    · split
      · next e => subst e; exact ⟨h1, h2⟩
      · refine ⟨fun p hp => ?_, h1, h2⟩
        simp only [duos, List.mem_cons] at hp
        rcases hp with rfl | hp
        · show x < k; omega
        · have := h1 p hp; omega
theorem krise_drop {l : List Int} (h : krise l) (x : Int) : krise (dropM l x) := by
  induction l using two_ind with
  | h0 => exact h
  | h1 a => exact h.elim
  | h2 k u r ih =>
    obtain ⟨h1, h2⟩ := h
    simp only [dropM]
    split
    · exact ⟨fun p hp => h1 p (mem_drop _ _ p hp), ih h2⟩
    · split
      · exact h2
      · exact ⟨h1, h2⟩
theorem get_set {l : List Int} (h : krise l) (x v y : Int) : kget (setM l x v) y = if y = x then some v else kget l y := by
  induction l using two_ind with
  | h0 =>
    simp only [setM, kget]
    by_cases e : y = x
    · subst e; simp
    · rw [if_neg e]; split
      · rfl
      · rw [if_neg (Ne.symm e)]
  | h1 a => exact h.elim
  | h2 k u r ih =>
    obtain ⟨h1, h2⟩ := h
    have ih := ih h2
    simp only [setM]
    split
    · next hk =>
      simp only [kget, ih]
      by_cases e : y = x
      · subst e; simp [hk]
      · simp [e]
    · next hk =>
      split
      · next e =>
        subst e
        simp only [kget]
        by_cases e : y = k
        · subst e; simp
        · simp only [e, if_false]
          by_cases hy : k < y
          · simp [hy]
          · simp [hy, Ne.symm e]
      · next e =>
        simp only [kget]
        by_cases e2 : y = x
        · subst e2; simp
        · simp only [e2, if_false]
          by_cases hy : x < y
          · simp [hy]
          · rw [if_neg hy, if_neg (Ne.symm e2), if_neg (by omega), if_neg (by omega)]
theorem get_drop {l : List Int} (h : krise l) (x y : Int) : kget (dropM l x) y = if y = x then none else kget l y := by
  induction l using two_ind with
  | h0 => simp [dropM, kget]
  | h1 a => exact h.elim
  | h2 k u r ih =>
    obtain ⟨h1, h2⟩ := h
    have ih := ih h2
    simp only [dropM]
    split
    · next hk =>
      simp only [kget, ih]
      by_cases e : y = x
      · subst e; simp [hk]
      · simp [e]
    · next hk =>
      split
      · next e =>
        subst e
        by_cases e : y = k
        · subst e; simp [kget_none r y (fun p hp => h1 p hp)]
        · simp only [e, if_false, kget]
          by_cases hy : k < y
          · simp [hy]
          · rw [if_neg hy, if_neg (Ne.symm e)]
            exact kget_none r y (fun p hp => by have := h1 p hp; omega)
      · next e =>
        simp only [kget]
        by_cases e2 : y = x
        · subst e2; rw [if_pos rfl, if_neg hk, if_neg e]
        · simp [e2]
theorem map_ext : ∀ {l m : List Int}, krise l → krise m → (∀ y, kget l y = kget m y) → l = m
  | [], [], _, _, _ => rfl
  | [_], _, h, _, _ => h.elim
  | _, [_], _, h, _ => h.elim
  | [], k :: u :: r, _, _, h => by have := h k; simp [kget] at this
  | k :: u :: r, [], _, _, h => by have := h k; simp [kget] at this
  | k :: u :: r, k' :: u' :: r', hl, hm, h => by
    have hk : k = k' := by
      have a := h k
      have b := h k'
      simp only [kget, Int.lt_irrefl, if_true, if_false] at a b
      rcases Int.lt_trichotomy k k' with hlt | e | hlt
      · rw [if_neg (by omega), if_neg (by omega)] at a; cases a
      · exact e
      · rw [if_neg (by omega), if_neg (by omega)] at b; cases b
    subst hk
    have hu : u = u' := by
      have a := h k
      simp only [kget, Int.lt_irrefl, if_true, if_false] at a
      injection a
    subst hu
    have hr : r = r' := map_ext hl.2 hm.2 fun y => by
      by_cases hy : k < y
      · have a := h y
        simp only [kget, hy, if_true] at a
        exact a
      · rw [kget_none r y (fun p hp => by have := hl.1 p hp; omega), kget_none r' y (fun p hp => by have := hm.1 p hp; omega)]
    rw [hr]

theorem set_len (l : List Int) (x v : Int) : (setM l x v).length = l.length + if khas l x = true then 0 else 2 := by
  have := kat_le l x
  rw [set_parts]
  unfold kend at *
  simp only [List.length_append, List.length_take, List.length_drop, List.length_cons, List.length_nil]
  split at this <;> simp [*] <;> omega
theorem set_len_le (l : List Int) (x v : Int) : (setM l x v).length ≤ l.length + 2 := by rw [set_len]; split <;> omega
theorem drop_len_le (l : List Int) (x : Int) : (dropM l x).length ≤ l.length := by
  have := kat_le l x
  rw [drop_parts]
  unfold kend at *
  simp only [List.length_append, List.length_take, List.length_drop]
  split at this <;> omega

/-- What follows. -/
theorem set_again {l : List Int} (h : krise l) (x v : Int) : setM (setM l x v) x v = setM l x v :=
  map_ext (krise_set (krise_set h x v) x v) (krise_set h x v) fun y => by rw [get_set (krise_set h x v), get_set h]; split <;> rfl
theorem drop_again {l : List Int} (h : krise l) (x : Int) : dropM (dropM l x) x = dropM l x :=
  map_ext (krise_drop (krise_drop h x) x) (krise_drop h x) fun y => by rw [get_drop (krise_drop h x), get_drop h]; split <;> rfl
theorem set_back {l : List Int} (h : krise l) (x v u : Int) (hu : kget l x = some u) : setM (setM l x v) x u = l :=
  map_ext (krise_set (krise_set h x v) x u) h fun y => by
    rw [get_set (krise_set h x v), get_set h]
    split
    · next e => subst e; exact hu.symm
    · rfl
theorem drop_back {l : List Int} (h : krise l) (x v : Int) (hu : kget l x = none) : dropM (setM l x v) x = l :=
  map_ext (krise_drop (krise_set h x v) x) h fun y => by
    rw [get_drop (krise_set h x v), get_set h]
    split
    · next e => subst e; exact hu.symm
    · rfl
theorem set_turn {l : List Int} (h : krise l) (x v y u : Int) (hne : y ≠ x) : setM (setM l x v) y u = setM (setM l y u) x v :=
  map_ext (krise_set (krise_set h x v) y u) (krise_set (krise_set h y u) x v) fun z => by
    rw [get_set (krise_set h x v), get_set h, get_set (krise_set h y u), get_set h]
    by_cases e : z = y
    · subst e; simp [hne]
    · by_cases e2 : z = x
      · subst e2; simp [e]
      · simp [e, e2]

/-- The document's. -/
def rget : List Int → Int → Option Int
  | k :: u :: r, x => if k = x then some u else rget r x
  | _, _ => none
def rdrop : List Int → Int → List Int
  | k :: u :: r, x => if k = x then rdrop r x else k :: u :: rdrop r x
  | _, _ => []
def rins : List Int → Int → Int → List Int
  | k :: u :: r, x, v => if k < x then k :: u :: rins r x v else x :: v :: k :: u :: r
  | l, x, v => x :: v :: l
theorem rget_no (r : List Int) (y : Int) (h : ∀ p ∈ duos r, y < p.1) : rget r y = none := by
  induction r using two_ind with
  | h0 => rfl
  | h1 a => rfl
  | h2 k u r ih =>
    have : y < k := h (k, u) (by simp [duos])
    simp only [rget]
    rw [if_neg (by omega)]
    exact ih (fun p hp => h p (by simp [duos, hp]))
theorem rget_eq {l : List Int} (h : krise l) (x : Int) : rget l x = kget l x := by
  induction l using two_ind with
  | h0 => rfl
  | h1 a => rfl
  | h2 k u r ih =>
    obtain ⟨h1, h2⟩ := h
    simp only [rget, kget, ih h2]
    by_cases e : k = x
    · subst e; simp
    · by_cases hk : k < x
      · simp [e, hk]
      · simp only [e, hk, if_false]
        exact kget_none r x (fun p hp => by have := h1 p hp; omega)
theorem rdrop_all {r : List Int} (h : krise r) (y : Int) (hy : ∀ p ∈ duos r, y < p.1) : rdrop r y = r := by
  induction r using two_ind with
  | h0 => rfl
  | h1 a => exact h.elim
  | h2 k u r ih =>
    have : y < k := hy (k, u) (by simp [duos])
    simp only [rdrop]
    rw [if_neg (by omega), ih h.2 (fun p hp => hy p (by simp [duos, hp]))]
theorem rdrop_eq {l : List Int} (h : krise l) (x : Int) : rdrop l x = dropM l x := by
  induction l using two_ind with
  | h0 => rfl
  | h1 a => exact h.elim
  | h2 k u r ih =>
    obtain ⟨h1, h2⟩ := h
    simp only [rdrop, dropM, ih h2]
    by_cases e : k = x
    · subst e; simp [← ih h2, rdrop_all h2 k h1]
    · by_cases hk : k < x
      · simp [e, hk]
      · simp only [e, hk, if_false]
        rw [← ih h2, rdrop_all h2 x (fun p hp => by have := h1 p hp; omega)]
theorem rins_eq {l : List Int} (h : krise l) (x v : Int) : rins (dropM l x) x v = setM l x v := by
  induction l using two_ind with
  | h0 => rfl
  | h1 a => exact h.elim
  | h2 k u r ih =>
    obtain ⟨h1, h2⟩ := h
    simp only [dropM, setM]
    by_cases hk : k < x
    · simp [hk, rins, ih h2]
    · by_cases e : k = x
      · subst e
        simp only [hk, if_false, if_true]
        match r, h1, h2 with
        | [], _, _ => rfl
        | [_], _, h2 => exact h2.elim
        | y :: z :: r, h1, _ =>
          have : k < y := h1 (y, z) (by simp [duos])
          simp only [rins]
          rw [if_neg (by omega)]
      · simp [hk, e, rins]
theorem drop_two (l : List Int) (i : Nat) (h : i + 1 < l.length) : l.drop i = l[i]?.getD 0 :: l[i + 1]?.getD 0 :: l.drop (i + 2) := by
  rw [List.getElem?_eq_getElem (by omega), List.getElem?_eq_getElem h, Option.getD_some, Option.getD_some, List.drop_eq_getElem_cons (by omega), List.drop_eq_getElem_cons (by omega)]
theorem drop_short (l : List Int) (i : Nat) (h : ¬ i + 1 < l.length) : l.drop i = [] ∨ ∃ a, l.drop i = [a] := by
  have hl : (l.drop i).length ≤ 1 := by rw [List.length_drop]; omega
  match hd : l.drop i with
  | [] => exact .inl rfl
  | [a] => exact .inr ⟨a, rfl⟩
  | a :: b :: r => rw [hd] at hl; simp at hl
end Go.Proofs.YtmclpganipfadaaGreatDoor

namespace Go.Proofs.YtmclpganipfadaaGreatDoor
open Go.RowKit Go.Shelf Go.Maps
set_option linter.unusedVariables false
set_option linter.unusedSimpArgs false

attribute [local go_sem] Oper.semAt_some

/-- Numbers that lie below B. -/
def mp_IntsB (B : Nat) (w : World) (A : Option Addr) (l : List Int) : Prop :=
  0 < l.length → ∃ b off, A = some ⟨b, off, none⟩ ∧ b < B ∧ ∀ j, j < l.length → w.cell? ⟨b, off + j, none⟩ = some (.int .i64 (l[j]?.getD 0))
theorem mp_IntsB.below {B : Nat} {w w' : World} {A : Option Addr} {l : List Int} (h : mp_IntsB B w A l) (hb : Below B w w') : mp_IntsB B w' A l := fun hl => by
  obtain ⟨b, off, e, hlt, hc⟩ := h hl
  exact ⟨b, off, e, hlt, fun j hj => (hb.cell (p := ⟨b, off + j, none⟩) hlt).trans (hc j hj)⟩

/-- What lies below n₀ lies as it lay, and so does block B. -/
structure KeptO (n₀ B : Nat) (W W' : World) : Prop where
  below : Below n₀ W W'
  box : W'.heap[B]? = W.heap[B]?
theorem KeptO.refl (n₀ B : Nat) (W : World) : KeptO n₀ B W W := ⟨Below.refl _ _, rfl⟩
theorem KeptO.trans {n₀ B : Nat} {a b c : World} (h : KeptO n₀ B a b) (k : KeptO n₀ B b c) : KeptO n₀ B a c := ⟨h.below.trans k.below, k.box.trans h.box⟩
theorem KeptO.put {n₀ B : Nat} {w : World} (h0 : n₀ ≤ w.heap.size) (h1 : B < w.heap.size) (W : World) (l : Nat) (o o' : Obj) (hl : w.heap.size ≤ l) (h : W.heap[l]? = some o) (hc : o.isCells = false) (hw : o.isWalk = false) : KeptO n₀ B W (W.putObj l o') :=
  ⟨belowK_b (w := w) h0 W l o o' hl h hc hw, World.putObj_heap_other (by omega)⟩
theorem KeptO.set (n₀ B : Nat) (W : World) (p : Addr) (v : Value) (h0 : n₀ ≤ p.block) (h1 : B ≠ p.block) : KeptO n₀ B W (W.setCell p v) :=
  ⟨(Below.refl _ W).setCell h0 v, Below.heap_setCell _ _ _ _ h1⟩
theorem KeptO.drew {n₀ B : Nat} {W W' : World} (h : KeptO n₀ B W W') : KeptO n₀ B W W'.drew := ⟨h.below.drew, h.box⟩
theorem cell_of_heap {W W' : World} {B : Nat} {o : Nat} {v : Value} (h : W'.heap[B]? = W.heap[B]?) (hc : W.cell? ⟨B, o, none⟩ = some v) : W'.cell? ⟨B, o, none⟩ = some v :=
  (World.cell?_of_block (a := ⟨B, o, none⟩) h).trans hc

section
variable {F : Fence} {n : Nat} {P : Program} {md : Region.Mode} {ops : Array Oper} {Q : Exit → Act → World → Prop}
theorem any_suff {T G : Prop} (h : T) (k : T → G) : G := k h
theorem op_reads {i : Nat} {o : Oper} {v : Value} {K : Act → World → Prop} {a : Act} {w : World} (hro : F.round = none) (hi : ops[i]? = some o) (hw : Region.wanted o (yielded ops a.tmps) = true) (hb : o.about P w a.eval = none)
    (hx : (execOp a.eval o).run P w = .ok (.value v) w) (h : K (a.put o.dst v) w) : wpOpIn F n P ops Q i K a w := by
  unfold wpOpIn
  simp only [hi, hw, if_true, Oper.wpIn, hro, Oper.semAt_none, hx, Oper.uponIn]
  exact ⟨fun f hf => (by rw [hb] at hf; cases hf), h⟩
/-- One operation alone may come up, and it reads. -/
theorem any_one {i : Nat} {o : Oper} {v : Value} {fuel : Nat} {listed : Array Bool} {a : Act} {w : World} (hro : F.round = none) (hr : Region.ready md ops listed = [i]) (hi : ops[i]? = some o) (hw : Region.wanted o (yielded ops a.tmps) = true) (hb : o.about P w a.eval = none)
    (hx : (execOp a.eval o).run P w = .ok (.value v) w) (h : wpAnyIn F n P md ops Q fuel (listed.setIfInBounds i true) (a.put o.dst v) w) : wpAnyIn F n P md ops Q (fuel + 1) listed a w :=
  wpAnyIn_all hr (by simp) fun k hk => by
    obtain rfl : k = i := by simpa using hk
    exact op_reads hro hi hw hb hx h
/-- Either of two operations may come up, and both read. -/
theorem any_two {i j : Nat} {o p : Oper} {v u : Value} {fuel : Nat} {listed : Array Bool} {a : Act} {w : World} (hro : F.round = none) (hr : Region.ready md ops listed = [i, j]) (hi : ops[i]? = some o) (hw : Region.wanted o (yielded ops a.tmps) = true) (hb : o.about P w a.eval = none)
    (hx : (execOp a.eval o).run P w = .ok (.value v) w) (hj : ops[j]? = some p) (hw2 : Region.wanted p (yielded ops a.tmps) = true) (hb2 : p.about P w a.eval = none) (hx2 : (execOp a.eval p).run P w = .ok (.value u) w)
    (h : wpAnyIn F n P md ops Q fuel (listed.setIfInBounds i true) (a.put o.dst v) w) (h2 : wpAnyIn F n P md ops Q fuel (listed.setIfInBounds j true) (a.put p.dst u) w) : wpAnyIn F n P md ops Q (fuel + 1) listed a w :=
  wpAnyIn_all hr (by simp) fun k hk => by
    simp only [List.mem_cons, List.not_mem_nil, or_false] at hk
    rcases hk with rfl | rfl
    · exact op_reads hro hi hw hb hx h
    · exact op_reads hro hj hw2 hb2 hx2 h2
end

theorem entries_in (F : Fence) (m : Nat) (h1 : F.fn 107) (hro : F.round = none) (A : Option Addr) (k c : Nat) (w : World) :
    CallsIn F m Tryz.prog 107 #[.slice A k c] w fun e w' => e = .returned (.func (.func 108) #[] #[.pointer (some ⟨w.heap.size, 0, none⟩)]) ∧ w' = w.alloc (.cells #[.slice A k c] 22) := by
  refine callsIn_of_wp Tryz.func107 rfl h1 ?_ hro
  simp only [Tryz.ntmps107, List.size_toArray, List.length_cons, List.length_nil, Nat.reduceAdd, Nat.reduceSub, Array.replicate_succ, Array.replicate_zero, List.push_toArray, List.append_toArray, List.nil_append, List.cons_append]
  gi_wp2
  go_ret
  exact ⟨rfl, rfl⟩

set_option maxRecDepth 100000 in
set_option maxHeartbeats 1000000 in
theorem entries1_in (m : Nat) (hm : 1 ≤ m) (lp Bl n₀ : Nat) (A : Option Addr) (c : Nat) (l : List Int) (hlen : l.length ≤ 1000) (J Jx : List (Int × Int) → World → Prop)
    (hJd : ∀ pre W, J pre W → J pre W.drew)
    (hY : ∀ pre (x : Int × Int) W, J pre W → pre.length < (duos l).length → YieldAt Fence.wide (m - 1) Tryz.prog lp #[.int .i64 x.1, .int .i64 x.2] W fun e W' =>
      (e = .returned (.bool true) ∧ J (pre ++ [x]) W' ∧ KeptO n₀ Bl W W') ∨ (e = .returned (.bool false) ∧ Jx (pre ++ [x]) W'))
    (W : World) (hBl : W.cell? ⟨Bl, 0, none⟩ = some (.slice A l.length c)) (hA : mp_IntsB n₀ W A l) (h0 : J [] W) :
    CallsIn Fence.wide m Tryz.prog 108 #[.func (.yield lp) #[] #[], .pointer (some ⟨Bl, 0, none⟩)] W fun e W' => (∃ v, e = .returned v) ∧
      ((∃ ys, ys = duos l ∧ J ys W') ∨ (∃ pre, pre <+: duos l ∧ Jx pre W')) := by
  refine callsIn_of_wp Tryz.func108 rfl trivial ?_ rfl
  simp only [Tryz.ntmps108, List.size_toArray, List.length_cons, List.length_nil, Nat.reduceAdd, Nat.reduceSub, Array.replicate_succ, Array.replicate_zero, List.push_toArray, List.append_toArray, List.nil_append, List.cons_append]
  have HBl := Lib.hid hBl
  have hdl := duos_len l
  gi_wp2
  gi_loopw [3] (fun s3 wr => ∃ (k n : Nat), n = 2 * k ∧ k ≤ (duos l).length ∧ s3 = .int .i64 n ∧ J ((duos l).take k) wr ∧ KeptO n₀ Bl W wr) (fun s3 wr => l.length - (intOf s3).toNat)
  case atStart => exact ⟨0, 0, rfl, Nat.zero_le _, rfl, h0, KeptO.refl _ _ _⟩
  case round =>
    obtain ⟨k, n, hn, hk, rfl, hJ, hK⟩ := hrel
    have HJ := Lib.hid hJ
    have HK := Lib.hid hK
    have HA := Lib.hid (hA.below hK.below)
    have cl := cell_of_heap hK.box HBl.out
    clear hJ hK
    by_cases hlt : n + 1 < l.length
    · obtain ⟨b, off, rfl, hb, hc⟩ := HA.out (by omega)
      have ck := hc n (by omega)
      have cv := hc (n + 1) hlt
      have hg := duos_get l k (by omega)
      rw [← hn] at hg
      obtain ⟨x, hx⟩ : ∃ x, l[n]?.getD 0 = x := ⟨_, rfl⟩
      obtain ⟨y, hy⟩ : ∃ y, l[n + 1]?.getD 0 = y := ⟨_, rfl⟩
      rw [hx, hy] at hg
      rw [hx] at ck
      rw [hy] at cv
      have hst : (duos l).take (k + 1) = (duos l).take k ++ [(x, y)] := by rw [List.take_add_one, hg]; rfl
      have g0 : (0 : Int) ≤ (n : Int) := by omega
      have g1 : (n : Int) < (l.length : Int) := by omega
      have g2 : decide ((n : Int) + 1 < (l.length : Int)) = true := decide_eq_true (by omega)
      have g3 : (0 : Int) ≤ (n : Int) + 1 := by omega
      have g4 : (n : Int) + 1 < (l.length : Int) := by omega
      obtain ⟨n1, hn1⟩ : ∃ n1, n1 = n + 1 := ⟨_, rfl⟩
      rw [← hn1] at cv
      have g5 : IntKind.i64.wrap ((n : Int) + 1) = (n1 : Int) := by rw [IntWalk.i64_left]; unfold wrap64; omega
      have g6 : (0 : Int) ≤ (n1 : Int) := by omega
      have g7 : (n1 : Int) < (l.length : Int) := by omega
      have g8 : decide ((n1 : Int) < (l.length : Int)) = true := decide_eq_true (by omega)
      have mixed : Tryz.prog.follows .mixedOrders = true := by kernel_rfl
      obtain ⟨fn, tmps, assign, body, hy2, hR⟩ := hY ((duos l).take k) (x, y) wr.drew (hJd _ _ HJ.out) (by rw [List.length_take]; omega)
      rw [← hst] at hR
      dsimp only at hy2
      have HST := Lib.hid hst
      have HN := Lib.hid hn
      have HN1 := Lib.hid hn1
      clear hst hg hx hy hc hn hn1
      gi_wp2_with fail
      refine wpIn_region_any mixed ?_
      show wpAnyIn Fence.wide m Tryz.prog .any _ _ 12 #[false, false, false, false, false, false, false, false, false, false, false, false] _ wr.drew
      refine any_suff (T := ?T) ?leaf (fun key => ?tree)
      case tree =>
        -- TREE
        refine wpAnyIn_take (i := 0) (v := ?qv1) rfl rfl (by kernel_rfl) (by kernel_rfl) (by kernel_rfl) (fun _ _ _ h => h) ⟨Or.inl ⟨by rfl, ?qx1⟩, fun _ => rfl⟩ ?qn1
        case qx1 => intro w'; go_simp; try with_reducible rfl
        simp only [Act.put, List.getElem_toArray, List.getElem_cons_zero, List.getElem_cons_succ, List.setIfInBounds_toArray, List.set_cons_zero, List.set_cons_succ]
        refine wpAnyIn_take (i := 2) (v := ?qv2) rfl rfl (by kernel_rfl) (by kernel_rfl) (by kernel_rfl) (fun _ _ _ h => h) ⟨Or.inl ⟨by rfl, ?qx2⟩, fun _ => rfl⟩ ?qn2
        case qx2 => intro w'; go_simp; try with_reducible rfl
        simp only [Act.put, List.getElem_toArray, List.getElem_cons_zero, List.getElem_cons_succ, List.setIfInBounds_toArray, List.set_cons_zero, List.set_cons_succ]
        refine wpAnyIn_take (i := 6) (v := ?qv3) rfl rfl (by kernel_rfl) (by kernel_rfl) (by kernel_rfl) (fun _ _ _ h => h) ⟨Or.inl ⟨by rfl, ?qx3⟩, fun _ => rfl⟩ ?qn3
        case qx3 => intro w'; go_simp; try with_reducible rfl
        simp only [Act.put, List.getElem_toArray, List.getElem_cons_zero, List.getElem_cons_succ, List.setIfInBounds_toArray, List.set_cons_zero, List.set_cons_succ]
        refine wpAnyIn_take (i := 7) (v := ?qv4) rfl rfl (by kernel_rfl) (by kernel_rfl) (by kernel_rfl) (fun _ _ _ h => h) ⟨Or.inl ⟨by rfl, ?qx4⟩, fun _ => rfl⟩ ?qn4
        case qx4 => intro w'; go_simp; try with_reducible rfl
        simp only [Act.put, List.getElem_toArray, List.getElem_cons_zero, List.getElem_cons_succ, List.setIfInBounds_toArray, List.set_cons_zero, List.set_cons_succ]
        refine any_two (i := 1) (j := 5) (v := ?qv5) (u := ?qu5) rfl (by kernel_rfl) rfl (by rfl) rfl ?qx5 rfl (by rfl) rfl ?qy5 ?qn5 ?qm5
        case qx5 => go_simp; try with_reducible rfl
        case qy5 => go_simp; try with_reducible rfl
        case qn5 =>
          simp only [Act.put, List.getElem_toArray, List.getElem_cons_zero, List.getElem_cons_succ, List.setIfInBounds_toArray, List.set_cons_zero, List.set_cons_succ]
          refine wpAnyIn_take (i := 3) (v := ?qv6) rfl rfl (by kernel_rfl) (by kernel_rfl) (by kernel_rfl) (fun _ _ _ h => h) ⟨Or.inl ⟨by rfl, ?qx6⟩, fun _ => rfl⟩ ?qn6
          case qx6 => intro w'; go_simp; try with_reducible rfl
          simp only [Act.put, List.getElem_toArray, List.getElem_cons_zero, List.getElem_cons_succ, List.setIfInBounds_toArray, List.set_cons_zero, List.set_cons_succ]
          refine any_two (i := 4) (j := 5) (v := ?qv7) (u := ?qu7) rfl (by kernel_rfl) rfl (by rfl) rfl ?qx7 rfl (by rfl) rfl ?qy7 ?qn7 ?qm7
          case qx7 => go_simp; try with_reducible rfl
          case qy7 => go_simp; try with_reducible rfl
          case qn7 =>
            simp only [Act.put, List.getElem_toArray, List.getElem_cons_zero, List.getElem_cons_succ, List.setIfInBounds_toArray, List.set_cons_zero, List.set_cons_succ]
            refine any_one (i := 5) (v := ?qv8) rfl (by kernel_rfl) rfl (by rfl) rfl ?qx8 ?qn8
            case qx8 => go_simp; try with_reducible rfl
            simp only [Act.put, List.getElem_toArray, List.getElem_cons_zero, List.getElem_cons_succ, List.setIfInBounds_toArray, List.set_cons_zero, List.set_cons_succ]
            refine wpAnyIn_take (i := 8) (v := ?qv9) rfl rfl (by kernel_rfl) (by kernel_rfl) (by kernel_rfl) (fun _ _ _ h => h) ⟨Or.inl ⟨by rfl, ?qx9⟩, fun _ => rfl⟩ ?qn9
            case qx9 => intro w'; go_simp; try with_reducible rfl
            simp only [Act.put, List.getElem_toArray, List.getElem_cons_zero, List.getElem_cons_succ, List.setIfInBounds_toArray, List.set_cons_zero, List.set_cons_succ]
            refine any_one (i := 9) (v := ?qv10) rfl (by kernel_rfl) rfl (by rfl) rfl ?qx10 ?qn10
            case qx10 => go_simp; try with_reducible rfl
            simp only [Act.put, List.getElem_toArray, List.getElem_cons_zero, List.getElem_cons_succ, List.setIfInBounds_toArray, List.set_cons_zero, List.set_cons_succ]
            exact key
          case qm7 =>
            simp only [Act.put, List.getElem_toArray, List.getElem_cons_zero, List.getElem_cons_succ, List.setIfInBounds_toArray, List.set_cons_zero, List.set_cons_succ]
            refine wpAnyIn_take (i := 8) (v := ?qv12) rfl rfl (by kernel_rfl) (by kernel_rfl) (by kernel_rfl) (fun _ _ _ h => h) ⟨Or.inl ⟨by rfl, ?qx12⟩, fun _ => rfl⟩ ?qn12
            case qx12 => intro w'; go_simp; try with_reducible rfl
            simp only [Act.put, List.getElem_toArray, List.getElem_cons_zero, List.getElem_cons_succ, List.setIfInBounds_toArray, List.set_cons_zero, List.set_cons_succ]
            refine any_two (i := 4) (j := 9) (v := ?qv13) (u := ?qu13) rfl (by kernel_rfl) rfl (by rfl) rfl ?qx13 rfl (by rfl) rfl ?qy13 ?qn13 ?qm13
            case qx13 => go_simp; try with_reducible rfl
            case qy13 => go_simp; try with_reducible rfl
            case qn13 =>
              simp only [Act.put, List.getElem_toArray, List.getElem_cons_zero, List.getElem_cons_succ, List.setIfInBounds_toArray, List.set_cons_zero, List.set_cons_succ]
              refine any_one (i := 9) (v := ?qv14) rfl (by kernel_rfl) rfl (by rfl) rfl ?qx14 ?qn14
              case qx14 => go_simp; try with_reducible rfl
              simp only [Act.put, List.getElem_toArray, List.getElem_cons_zero, List.getElem_cons_succ, List.setIfInBounds_toArray, List.set_cons_zero, List.set_cons_succ]
              exact key
            case qm13 =>
              simp only [Act.put, List.getElem_toArray, List.getElem_cons_zero, List.getElem_cons_succ, List.setIfInBounds_toArray, List.set_cons_zero, List.set_cons_succ]
              refine any_one (i := 4) (v := ?qv16) rfl (by kernel_rfl) rfl (by rfl) rfl ?qx16 ?qn16
              case qx16 => go_simp; try with_reducible rfl
              simp only [Act.put, List.getElem_toArray, List.getElem_cons_zero, List.getElem_cons_succ, List.setIfInBounds_toArray, List.set_cons_zero, List.set_cons_succ]
              exact key
        case qm5 =>
          simp only [Act.put, List.getElem_toArray, List.getElem_cons_zero, List.getElem_cons_succ, List.setIfInBounds_toArray, List.set_cons_zero, List.set_cons_succ]
          refine wpAnyIn_take (i := 8) (v := ?qv18) rfl rfl (by kernel_rfl) (by kernel_rfl) (by kernel_rfl) (fun _ _ _ h => h) ⟨Or.inl ⟨by rfl, ?qx18⟩, fun _ => rfl⟩ ?qn18
          case qx18 => intro w'; go_simp; try with_reducible rfl
          simp only [Act.put, List.getElem_toArray, List.getElem_cons_zero, List.getElem_cons_succ, List.setIfInBounds_toArray, List.set_cons_zero, List.set_cons_succ]
          refine any_two (i := 1) (j := 9) (v := ?qv19) (u := ?qu19) rfl (by kernel_rfl) rfl (by rfl) rfl ?qx19 rfl (by rfl) rfl ?qy19 ?qn19 ?qm19
          case qx19 => go_simp; try with_reducible rfl
          case qy19 => go_simp; try with_reducible rfl
          case qn19 =>
            simp only [Act.put, List.getElem_toArray, List.getElem_cons_zero, List.getElem_cons_succ, List.setIfInBounds_toArray, List.set_cons_zero, List.set_cons_succ]
            refine wpAnyIn_take (i := 3) (v := ?qv20) rfl rfl (by kernel_rfl) (by kernel_rfl) (by kernel_rfl) (fun _ _ _ h => h) ⟨Or.inl ⟨by rfl, ?qx20⟩, fun _ => rfl⟩ ?qn20
            case qx20 => intro w'; go_simp; try with_reducible rfl
            simp only [Act.put, List.getElem_toArray, List.getElem_cons_zero, List.getElem_cons_succ, List.setIfInBounds_toArray, List.set_cons_zero, List.set_cons_succ]
            refine any_two (i := 4) (j := 9) (v := ?qv21) (u := ?qu21) rfl (by kernel_rfl) rfl (by rfl) rfl ?qx21 rfl (by rfl) rfl ?qy21 ?qn21 ?qm21
            case qx21 => go_simp; try with_reducible rfl
            case qy21 => go_simp; try with_reducible rfl
            case qn21 =>
              simp only [Act.put, List.getElem_toArray, List.getElem_cons_zero, List.getElem_cons_succ, List.setIfInBounds_toArray, List.set_cons_zero, List.set_cons_succ]
              refine any_one (i := 9) (v := ?qv22) rfl (by kernel_rfl) rfl (by rfl) rfl ?qx22 ?qn22
              case qx22 => go_simp; try with_reducible rfl
              simp only [Act.put, List.getElem_toArray, List.getElem_cons_zero, List.getElem_cons_succ, List.setIfInBounds_toArray, List.set_cons_zero, List.set_cons_succ]
              exact key
            case qm21 =>
              simp only [Act.put, List.getElem_toArray, List.getElem_cons_zero, List.getElem_cons_succ, List.setIfInBounds_toArray, List.set_cons_zero, List.set_cons_succ]
              refine any_one (i := 4) (v := ?qv24) rfl (by kernel_rfl) rfl (by rfl) rfl ?qx24 ?qn24
              case qx24 => go_simp; try with_reducible rfl
              simp only [Act.put, List.getElem_toArray, List.getElem_cons_zero, List.getElem_cons_succ, List.setIfInBounds_toArray, List.set_cons_zero, List.set_cons_succ]
              exact key
          case qm19 =>
            simp only [Act.put, List.getElem_toArray, List.getElem_cons_zero, List.getElem_cons_succ, List.setIfInBounds_toArray, List.set_cons_zero, List.set_cons_succ]
            refine any_one (i := 1) (v := ?qv26) rfl (by kernel_rfl) rfl (by rfl) rfl ?qx26 ?qn26
            case qx26 => go_simp; try with_reducible rfl
            simp only [Act.put, List.getElem_toArray, List.getElem_cons_zero, List.getElem_cons_succ, List.setIfInBounds_toArray, List.set_cons_zero, List.set_cons_succ]
            refine wpAnyIn_take (i := 3) (v := ?qv27) rfl rfl (by kernel_rfl) (by kernel_rfl) (by kernel_rfl) (fun _ _ _ h => h) ⟨Or.inl ⟨by rfl, ?qx27⟩, fun _ => rfl⟩ ?qn27
            case qx27 => intro w'; go_simp; try with_reducible rfl
            simp only [Act.put, List.getElem_toArray, List.getElem_cons_zero, List.getElem_cons_succ, List.setIfInBounds_toArray, List.set_cons_zero, List.set_cons_succ]
            refine any_one (i := 4) (v := ?qv28) rfl (by kernel_rfl) rfl (by rfl) rfl ?qx28 ?qn28
            case qx28 => go_simp; try with_reducible rfl
            simp only [Act.put, List.getElem_toArray, List.getElem_cons_zero, List.getElem_cons_succ, List.setIfInBounds_toArray, List.set_cons_zero, List.set_cons_succ]
            exact key
        -- END
      case leaf =>
        refine wpAnyIn_ready (rs := [10]) (by kernel_rfl) (by simp) (AllReadyIn.cons rfl (fun K hK => ?_) AllReadyIn.nil)
        go_simp
        refine hR.mono ?_
        rintro e W3 (⟨rfl, hJ3, hk3⟩ | ⟨rfl, hJx3⟩)
        · refine hK _ _ ?_
          clear hK K
          refine wpAnyIn_take (i := 11) (v := ?_) rfl rfl (by kernel_rfl) (by kernel_rfl) (by kernel_rfl) (fun _ _ _ h => h) ⟨Or.inl ⟨by rfl, fun w' => by go_simp; try with_reducible rfl⟩, fun _ => rfl⟩ ?_
          refine wpAnyIn_done (by kernel_rfl) ?_ _
          simp only [Act.put, List.getElem_toArray, List.getElem_cons_zero, List.getElem_cons_succ, List.setIfInBounds_toArray, List.set_cons_zero, List.set_cons_succ]
          gi_wp2
          go_roundw
          case rel => exact ⟨k + 1, n + 2, by have := HN.out; omega, by have := HN.out; omega, by go_num, hJ3, HK.out.trans ((KeptO.refl _ _ _).drew.trans hk3)⟩
          case measure => simp [intOf]; omega
        · refine hK _ _ ?_
          clear hK K
          refine wpAnyIn_take (i := 11) (v := ?_) rfl rfl (by kernel_rfl) (by kernel_rfl) (by kernel_rfl) (fun _ _ _ h => h) ⟨Or.inl ⟨by rfl, fun w' => by go_simp; try with_reducible rfl⟩, fun _ => rfl⟩ ?_
          refine wpAnyIn_done (by kernel_rfl) ?_ _
          simp only [Act.put, List.getElem_toArray, List.getElem_cons_zero, List.getElem_cons_succ, List.setIfInBounds_toArray, List.set_cons_zero, List.set_cons_succ]
          gi_wp2
          refine bodyPost_ret (results_none rfl _ _ _) rfl ?_
          exact ⟨⟨_, rfl⟩, .inr ⟨_, List.take_prefix _ _, hJx3⟩⟩
    · have g2 : decide ((n : Int) + 1 < (l.length : Int)) = false := decide_eq_false (by omega)
      gi_wp2
      go_end0
      refine ⟨⟨_, rfl⟩, .inl ⟨_, rfl, ?_⟩⟩
      have := HJ.out
      rwa [List.take_of_length_le (by omega)] at this

theorem entries_stops (m : Nat) (hm : 1 ≤ m) (Bl n₀ : Nat) (A : Option Addr) (c : Nat) (l : List Int) (hlen : l.length ≤ 1000) (w : World) (hBl : Bl < w.heap.size) (hn₀ : n₀ ≤ w.heap.size)
    (hcl : w.cell? ⟨Bl, 0, none⟩ = some (.slice A l.length c)) (hA : mp_IntsB n₀ w A l) :
    SeqStopsK Fence.wide m Tryz.prog 108 #[.pointer (some ⟨Bl, 0, none⟩)] (fun x : Int × Int => #[Value.int .i64 x.1, Value.int .i64 x.2]) (KeptO n₀ Bl) (fun ys => ys = duos l) (fun pre => pre <+: duos l) (duos l).length w := fun lp J Jx W hW hJ _ hY h0 =>
  entries1_in m hm lp Bl n₀ A c l hlen J Jx (fun pre W h => hJ pre W _ none h ⟨rfl, rfl, rfl, Nat.le_refl _, fun _ _ _ => rfl⟩ (fun r e => by cases e)) hY W ((hW.cell (p := ⟨Bl, 0, none⟩) hBl).trans hcl) (hA.below (hW.mono hn₀)) h0
end Go.Proofs.YtmclpganipfadaaGreatDoor

namespace Go.Proofs.YtmclpganipfadaaGreatDoor
open Go.RowKit Go.Maps
set_option linter.unusedVariables false
set_option linter.unusedSimpArgs false

def GrowPost (w : World) (e : Ending) (w' : World) : Prop := ∃ v, e = .returned v ∧ w'.ownsRow w.heap.size 3 1 v 0 [] ∧ Below w.heap.size w w'

set_option maxHeartbeats 1000000 in
theorem grow_any (n : Nat) (w : World) (hn : n ≤ 100000) : Calls Tryz.prog 50 #[.slice none 0 0, .int .i64 n] w (GrowPost w) := by
  obtain ⟨i0, hi, hz0, hz1, hz2⟩ := info_parts info_int
  have h1 : decide ((n : Int) < 0) = false := decide_eq_false (by omega)
  by_cases h0 : n = 0
  · subst h0
    go_enter Tryz.func50, Tryz.ntmps50
    go_wp2
    go_ret
    exact ⟨_, rfl, World.ownsRow_nil _ _ _ _, Below.refl _ _⟩
  · have h2 : decide ((n : Int) > 0) = true := decide_eq_true (by omega)
    have h3 : decide (0 < (n : Int)) = true := decide_eq_true (by omega)
    have hr := fun ty => Lib.run_append_nil_zeros (P := Tryz.prog) w 22 3 ty 3 i0 (.int .i64 0) .i64 .i64 Tryz.underlying22 Tryz.underlying3 hi hz0 n (by omega) (by rw [hz1]; omega) (by omega) (by rw [hz2]; omega)
    have hG := grownCap_ge w n 0 3
    have hM := grownCap_le_maxLen w n 0 3 (by unfold maxLen; omega)
    obtain ⟨G, hGe⟩ : ∃ G, G = grownCap w n 0 3 := ⟨_, rfl⟩
    rw [← hGe] at hr hG hM
    have hM2 : G ≤ 9223372036854775807 := by unfold maxLen at hM; omega
    have g1 : (0 : Int) ≤ (G : Int) := by omega
    obtain ⟨cs, hcs⟩ : ∃ cs, cs = Builtin.zeroCells (Value.int .i64 0).cells n ++ Builtin.zeroCells (Value.int .i64 0).cells (G - n) := ⟨_, rfl⟩
    rw [← hcs] at hr
    have hsz : cs.size = G * 1 := by rw [hcs, Array.size_append, size_zeroCells, size_zeroCells]; show n * 1 + (G - n) * 1 = G * 1; omega
    have HS := Lib.hid hsz
    have HM := Lib.hid hM
    clear hGe hcs hsz hM
    go_enter Tryz.func50, Tryz.ntmps50
    go_wp2_with (at_builtin; refine Lib.wpList_append_run _ rfl _ _ _ _ rfl _ _ rfl rfl _ _ (hr _) ?_)
    go_ret
    refine ⟨_, rfl, ?_, ?_⟩
    · exact World.ownsRow_made w.drew cs G (Nat.le_refl _) HM.out HS.out
    · exact (Below.refl _ w).drew.alloc (Nat.le_refl _) _

/-- One of the slices that are put together. -/
structure Part where
  A : Option Addr
  c : Nat
  l : List Int
def sumP (ps : List Part) : Nat := (ps.map (·.l.length)).sum
def catP (ps : List Part) : List Int := ps.flatMap (·.l)
theorem cat_len (ps : List Part) : (catP ps).length = sumP ps := by
  induction ps with
  | nil => rfl
  | cons p r ih => simp only [catP, sumP, List.flatMap_cons, List.length_append, List.map_cons, List.sum_cons] at ih ⊢; rw [ih]
theorem sum_snoc (ps : List Part) (k : Nat) (p : Part) (h : ps[k]? = some p) : sumP (ps.take (k + 1)) = sumP (ps.take k) + p.l.length := by
  unfold sumP; rw [List.take_add_one, h]; simp
theorem cat_snoc (ps : List Part) (k : Nat) (p : Part) (h : ps[k]? = some p) : catP (ps.take (k + 1)) = catP (ps.take k) ++ p.l := by
  unfold catP; rw [List.take_add_one, h]; simp
theorem sum_take (ps : List Part) (k : Nat) : sumP (ps.take k) ≤ sumP ps := by
  conv => rhs; rw [← List.take_append_drop k ps]
  unfold sumP; rw [List.map_append, List.sum_append]; omega
theorem intsOf_app (a b : List Int) : intsOf (a ++ b) = intsOf a ++ intsOf b := by simp [intsOf]

set_option maxRecDepth 100000 in
set_option maxHeartbeats 1000000 in
theorem concat_any (b c : Nat) (ps : List Part) (w : World) (hb : b < w.heap.size) (hlen : ps.length ≤ 1000) (hsum : sumP ps ≤ 10000)
    (hcell : ∀ j p, ps[j]? = some p → w.cell? ⟨b, j, none⟩ = some (.slice p.A p.l.length p.c)) (hI : ∀ p ∈ ps, Ints w p.A p.l) :
    Calls Tryz.prog 32 #[.slice (some ⟨b, 0, none⟩) ps.length c] w (RowPost (catP ps) w) := by
  have HC := Lib.hid hcell
  have HI := Lib.hid hI
  clear hcell hI
  go_enter Tryz.func32, Tryz.ntmps32
  go_wp2
  go_loopw [3, 5, 11] (fun s3 s5 s11 wr => ∃ k m : Nat, k ≤ ps.length ∧ m = sumP (ps.take k) ∧ s3 = .int .i64 m ∧ s11 = .int .i64 k ∧ w = wr) (fun s3 s5 s11 wr => ps.length - (intOf s11).toNat)
  case atStart => exact ⟨0, 0, Nat.zero_le _, rfl, rfl, rfl, rfl⟩
  case round =>
    obtain ⟨k, m, hk, hm, rfl, rfl, rfl⟩ := hrel
    have HM := Lib.hid hm
    have hmb : m ≤ 10000 := by have := sum_take ps k; omega
    clear hm
    by_cases hlt : k < ps.length
    · obtain ⟨p, hp⟩ : ∃ p, ps[k]? = some p := ⟨_, List.getElem?_eq_getElem hlt⟩
      have hcell := HC.out k p hp
      have hst := sum_snoc ps k p hp
      have hmb2 := sum_take ps (k + 1)
      rw [← HM.out] at hst
      have HST := Lib.hid hst
      have hbd : m + p.l.length ≤ 10000 := by omega
      have g0 : (0 : Int) ≤ (k : Int) := by omega
      have g1 : (k : Int) < (ps.length : Int) := by omega
      have g2 : decide ((m : Int) + (p.l.length : Int) < 0) = false := decide_eq_false (by omega)
      clear hst hmb2 hp
      go_wp2
      go_roundw
      case rel => exact ⟨k + 1, m + p.l.length, by omega, HST.out.symm, by go_num, by go_num, by first | exact rfl | trivial⟩
      case measure => simp [intOf]; omega
    · obtain rfl : k = ps.length := by omega
      have HM2 : Hid (m = sumP ps) := Lib.hid (by rw [HM.out, List.take_length])
      clear HM
      go_wp2_with fail
      refine (grow_any m _ (by omega)).mono ?_
      rintro e w1 ⟨v1, rfl, ho1, hB1⟩
      have HO1 := Lib.hid ho1
      have HB1 := Lib.hid hB1
      clear ho1
      go_wp2
      go_loopw [6, 8, 27] (fun s6 s8 s27 wr => ∃ k m : Nat, k ≤ ps.length ∧ m = sumP (ps.take k) ∧ s27 = .int .i64 k ∧ wr.ownsRow w.heap.size 3 1 s6 m (intsOf (catP (ps.take k))) ∧ Below w.heap.size w wr) (fun s6 s8 s27 wr => ps.length - (intOf s27).toNat)
      case atStart => exact ⟨0, 0, Nat.zero_le _, rfl, rfl, HO1.out, HB1.out⟩
      case round =>
        obtain ⟨k, m, hk, hm, rfl, ho, hB⟩ := hrel
        have HM := Lib.hid hm
        have hmb : m ≤ 10000 := by have := sum_take ps k; omega
        have HO := Lib.hid ho
        have HB := Lib.hid hB
        have hsz := hB.size
        clear hm ho hB
        by_cases hlt : k < ps.length
        · obtain ⟨p, hp⟩ : ∃ p, ps[k]? = some p := ⟨_, List.getElem?_eq_getElem hlt⟩
          have hcell := (HB.out.cell (p := ⟨b, k, none⟩) hb).trans (HC.out k p hp)
          have hst := sum_snoc ps k p hp
          have hmb2 := sum_take ps (k + 1)
          rw [← HM.out] at hst
          have HST := Lib.hid hst
          have hbd : m + p.l.length ≤ 10000 := by omega
          have HCT := Lib.hid (cat_snoc ps k p hp)
          have HA := Lib.hid ((HI.out p (List.mem_of_getElem? hp)).below HB.out)
          have g0 : (0 : Int) ≤ (k : Int) := by omega
          have g1 : (k : Int) < (ps.length : Int) := by omega
          clear hst hmb2 hp
          go_wp2_with (at_builtin; refine wpList_app _ rfl _ _ 22 rfl w.heap.size Tryz.underlying22 _ _ _ rfl HO.out p.A p.l.length p.c p.l rfl rfl HA.out (by omega) (by omega) hsz ?_; intro v3 w3 hown3 hg3 hn3)
          go_roundw
          case rel => exact ⟨k + 1, m + p.l.length, by omega, HST.out.symm, by go_num, by rw [HCT.out, intsOf_app]; exact hown3, HB.out.grown hg3 hsz (fun r e => (HO.out.lt r e).1)⟩
          case measure => simp [intOf]; omega
        · obtain rfl : k = ps.length := by omega
          go_wp2
          go_ret
          have := HO.out
          rw [List.take_length] at this
          exact row_ends this HB.out
end Go.Proofs.YtmclpganipfadaaGreatDoor

namespace Go.Proofs.YtmclpganipfadaaGreatDoor
open Go.RowKit Go.Shelf Go.Maps
set_option linter.unusedVariables false
set_option linter.unusedSimpArgs false

attribute [local go_sem] Oper.semAt_some

def partsV (A1 : Option Addr) (n1 c1 : Nat) (A2 : Option Addr) (n2 c2 : Nat) (v : Int) (b : Bool) : Value := .agg #[.slice A1 n1 c1, .slice A2 n2 c2, .int .i64 v, .bool b]
def CutPost (l : List Int) (x : Int) (w : World) (e : Ending) (w' : World) : Prop :=
  ∃ A1 c1 A2 c2, e = .returned (partsV A1 (l.take (kat l x)).length c1 A2 (l.drop (kend l x)).length c2 (kval l x) (khas l x)) ∧ Ints w A1 (l.take (kat l x)) ∧ Ints w A2 (l.drop (kend l x)) ∧ Below w.heap.size w w'

theorem holds_kept {X Y : World} {B : Nat} {t : TypeId} {cs : Array Value} {row : Option Nat} (h : Holds X B t cs) (hg : X.grownBy Y row) (hr : ∀ r, row = some r → ∃ o : Obj, X.heap[r]? = some o ∧ o.isCells = false) : Holds Y B t cs :=
  h.kept hg fun e => by
    obtain ⟨o, ho, hc⟩ := hr B e.symm
    rw [show X.heap[B]? = _ from h] at ho; cases ho; cases hc

/-- The four boxes that a key is looked for with. -/
structure CutBox (s : Nat) (w : World) (x a v : Int) (b : Bool) (W : World) : Prop where
  key : Holds W s 3 #[.int .i64 x]
  res : Holds W (s + 1) 130 #[.slice none 0 0, .slice none 0 0, .int .i64 0, .bool false]
  p : Holds W (s + 1 + 1) 130 #[.slice none 0 0, .slice none 0 0, .int .i64 v, .bool b]
  pos : Holds W (s + 1 + 1 + 1) 3 #[.int .i64 a]
  below : Below s w W
theorem CutBox.kept {s B : Nat} {w : World} {x a v : Int} {b : Bool} {X Y : World} {row : Option Nat} (hs : s ≤ w.heap.size) (hB : s ≤ B) (h : CutBox s w x a v b X) (hg : X.grownBy Y row) (hr : ∀ r, row = some r → B ≤ r ∧ ∃ o : Obj, X.heap[r]? = some o ∧ o.isCells = false) : CutBox s w x a v b Y :=
  ⟨holds_kept h.key hg (fun r e => (hr r e).2), holds_kept h.res hg (fun r e => (hr r e).2), holds_kept h.p hg (fun r e => (hr r e).2), holds_kept h.pos hg (fun r e => (hr r e).2), h.below.grown hg (Nat.le_trans hs h.below.size) (fun r e => Nat.le_trans hB (hr r e).1)⟩

theorem CutBox.setPos {s : Nat} {w : World} {x a v : Int} {b : Bool} {W : World} (h : CutBox s w x a v b W) (a' : Int) : CutBox s w x a' v b (W.setCell ⟨s + 1 + 1 + 1, 0, none⟩ (.int .i64 a')) :=
  ⟨set_other h.key _ _ (by omega), set_other h.res _ _ (by omega), set_other h.p _ _ (by omega), h.pos.set 0 _, h.below.setCell (p := ⟨s + 1 + 1 + 1, 0, none⟩) (show s ≤ s + 1 + 1 + 1 by omega) _⟩
theorem CutBox.setP {s : Nat} {w : World} {x a v : Int} {b : Bool} {W : World} (h : CutBox s w x a v b W) (v' : Int) (b' : Bool) : CutBox s w x a v' b' ((W.setCell ⟨s + 1 + 1, 2, none⟩ (.int .i64 v')).setCell ⟨s + 1 + 1, 3, none⟩ (.bool b')) :=
  ⟨set_other (set_other h.key _ _ (by omega)) _ _ (by omega), set_other (set_other h.res _ _ (by omega)) _ _ (by omega), (h.p.set 2 _).set 3 _, set_other (set_other h.pos _ _ (by omega)) _ _ (by omega), (h.below.setCell (p := ⟨s + 1 + 1, 2, none⟩) (show s ≤ s + 1 + 1 by omega) _).setCell (p := ⟨s + 1 + 1, 3, none⟩) (show s ≤ s + 1 + 1 by omega) _⟩

/-- Behind the loop: what is ahead and what is behind stand in p. -/
structure CutMid (s : Nat) (w : World) (u1 u2 : Value) (v : Int) (b : Bool) (W : World) : Prop where
  res : Holds W (s + 1) 130 #[.slice none 0 0, .slice none 0 0, .int .i64 0, .bool false]
  p : Holds W (s + 1 + 1) 130 #[u1, u2, .int .i64 v, .bool b]
  below : Below s w W
theorem cut_mid {s : Nat} {w : World} {x a v : Int} {b : Bool} {W : World} (h : CutBox s w x a v b W) (u1 u2 : Value) :
    CutMid s w u1 u2 v b ((W.setCell ⟨s + 1 + 1, 0, none⟩ u1).setCell ⟨s + 1 + 1, 1, none⟩ u2).drew ∧ KeepsOthers W ((W.setCell ⟨s + 1 + 1, 0, none⟩ u1).setCell ⟨s + 1 + 1, 1, none⟩ u2).drew :=
  ⟨⟨set_other (set_other h.res _ _ (by omega)) _ _ (by omega), (h.p.set 0 u1).set 1 u2, ((h.below.setCell (p := ⟨s + 1 + 1, 0, none⟩) (show s ≤ s + 1 + 1 by omega) _).setCell (p := ⟨s + 1 + 1, 1, none⟩) (show s ≤ s + 1 + 1 by omega) _).drew⟩,
    ((KeepsOthers.setCell _ _ _).trans (KeepsOthers.setCell _ _ _)).trans (KeepsOthers.drew _)⟩
theorem CutMid.put {s : Nat} {w : World} {u1 u2 : Value} {v : Int} {b : Bool} {W : World} (h : CutMid s w u1 u2 v b W) (u3 : Value) : CutMid s w u1 u3 v b (W.setCell ⟨s + 1 + 1, 1, none⟩ u3) ∧ KeepsOthers W (W.setCell ⟨s + 1 + 1, 1, none⟩ u3) :=
  ⟨⟨set_other h.res _ _ (by omega), h.p.set 1 u3, h.below.setCell (p := ⟨s + 1 + 1, 1, none⟩) (show s ≤ s + 1 + 1 by omega) _⟩, KeepsOthers.setCell _ _ _⟩
def fin4 (W : World) (s : Nat) (u1 u2 : Value) (v : Int) (b : Bool) : World := (((W.setCell ⟨s + 1, 0, none⟩ u1).setCell ⟨s + 1, 1, none⟩ u2).setCell ⟨s + 1, 2, none⟩ (.int .i64 v)).setCell ⟨s + 1, 3, none⟩ (.bool b)
theorem cut_fin {s : Nat} {w : World} {u1 u2 : Value} {v : Int} {b : Bool} {W : World} (h : CutMid s w u1 u2 v b W) :
    Holds (fin4 W s u1 u2 v b) (s + 1) 130 #[u1, u2, .int .i64 v, .bool b] ∧ Below s w (fin4 W s u1 u2 v b) ∧ KeepsOthers W (fin4 W s u1 u2 v b) :=
  ⟨(((h.res.set 0 u1).set 1 u2).set 2 (.int .i64 v)).set 3 (.bool b), (((h.below.setCell (p := ⟨s + 1, 0, none⟩) (show s ≤ s + 1 by omega) _).setCell (p := ⟨s + 1, 1, none⟩) (show s ≤ s + 1 by omega) _).setCell (p := ⟨s + 1, 2, none⟩) (show s ≤ s + 1 by omega) _).setCell (p := ⟨s + 1, 3, none⟩) (show s ≤ s + 1 by omega) _,
    (((KeepsOthers.setCell _ _ _).trans (KeepsOthers.setCell _ _ _)).trans (KeepsOthers.setCell _ _ _)).trans (KeepsOthers.setCell _ _ _)⟩
theorem cut_end {s D : Nat} {w W : World} {u1 u2 u3 u4 : Value} {tm : Array Value} {R : Ending → World → Prop} (hp : tm[4]?.getD undef = .pointer (some ⟨s + 1, 0, none⟩)) (h : Holds W (s + 1) 130 #[u1, u2, u3, u4]) (hB : Below s w W) (hs : s = w.heap.size) (hD : s + 5 ≤ D) (hK : W.heap[D]? = some (.deferred (some [])))
    (hR : ∀ W', Below s w W' → R (.returned (.agg #[u1, u2, u3, u4])) W') :
    bodyPostM Fence.wide 6 Tryz.prog Tryz.f105 R .ret { tmps := tm, defers := [{ target := .collected D, args := #[] }] } W := by
  subst hs
  have hBe := hB.trans (belowK_b (w := w) (Nat.le_refl _) W D _ (.deferred none) (by omega) hK rfl rfl)
  have hP2 : Holds (W.putObj D (.deferred none)) (w.heap.size + 1) 130 #[u1, u2, u3, u4] := h.of (World.putObj_heap_other (by omega))
  have p0 := hP2.c (j := 0) rfl
  have p1 := hP2.c (j := 1) rfl
  have p2 := hP2.c (j := 2) rfl
  have p3 := hP2.c (j := 3) rfl
  refine ⟨by simp, .inl ⟨_, _, rfl, run_takeDeferred hK, ?_⟩⟩
  refine ⟨.agg #[u1, u2, u3, u4], ?_, hR _ hBe⟩
  simp [results, Tryz.f105, go_sem, hp, p0, p1, p2, p3]

theorem cut_says {l : List Int} {x : Int} {p q : Nat} {v : Int} {b : Bool} {w W' : World} {A1 A2 : Option Addr} {n2 c1 c2 : Nat} (h1 : p = kat l x) (h2 : v = kval l x) (h3 : b = khas l x) (h4 : kend l x = q) (hp : p ≤ l.length) (hn : n2 = l.length - q)
    (hA1 : Ints w A1 (l.take p)) (hA2 : Ints w A2 (l.drop q)) (hB : Below w.heap.size w W') : CutPost l x w (.returned (.agg #[.slice A1 p c1, .slice A2 n2 c2, .int .i64 v, .bool b])) W' := by
  subst h1 h2 h3 h4 hn
  refine ⟨A1, c1, A2, c2, ?_, hA1, hA2, hB⟩
  unfold partsV
  rw [List.length_take, List.length_drop, Nat.min_eq_left hp]

/-- All keys so far are less. -/
def CutI (s : Nat) (w : World) (x : Int) (pre : List (Int × Int)) (W : World) : Prop := CutBox s w x ((2 * pre.length : Nat) : Int) 0 false W ∧ ∀ q ∈ pre, q.1 < x
/-- The last one is not. -/
def CutX (s : Nat) (w : World) (x : Int) (pre : List (Int × Int)) (W : World) : Prop :=
  ∃ q k u v, pre = q ++ [(k, u)] ∧ (∀ p ∈ q, p.1 < x) ∧ ¬ k < x ∧ v = (if k = x then u else 0) ∧ CutBox s w x ((2 * q.length : Nat) : Int) v (k == x) W

set_option maxRecDepth 100000 in
set_option maxHeartbeats 2000000 in
theorem cut_any (A : Option Addr) (c : Nat) (l : List Int) (x : Int) (w : World) (hA : Ints w A l) (hlen : l.length ≤ 1000) (hc : l.length ≤ c) :
    Calls Tryz.prog 105 #[.slice A l.length c, .int .i64 x] w (CutPost l x w) := by
  refine (callsIn_wide (n := 6)).1 ?_
  refine callsIn_of_wp_marks Tryz.func105 rfl trivial ?_ rfl
  simp only [Tryz.ntmps105, List.size_toArray, List.length_cons, List.length_nil, Nat.reduceAdd, Nat.reduceSub, Array.replicate_succ, Array.replicate_zero, List.push_toArray, List.append_toArray, List.nil_append, List.cons_append]
  gi_wp2_with (refine ⟨trivial, ?_⟩; gi_at_call 107; refine (entries_in Fence.wide _ trivial rfl _ _ _ _).mono ?_; rintro e w' ⟨rfl, rfl⟩)
  rename_i K hKt
  obtain ⟨W0, hW0⟩ : ∃ W0, ((((w.alloc (.cells #[.int .i64 x] 3)).alloc (.cells #[.slice none 0 0, .slice none 0 0, .int .i64 0, .bool false] 130)).alloc (.cells #[.slice none 0 0, .slice none 0 0, .int .i64 0, .bool false] 130)).alloc (.cells #[.int .i64 0] 3)).alloc (.cells #[.slice A l.length c] 22) = W0 := ⟨_, rfl⟩
  have hsz : W0.heap.size = w.heap.size + 5 := by rw [← hW0]; simp
  have hB0 : Below w.heap.size w W0 := by
    rw [← hW0]; exact (((((Below.refl _ w).alloc (Nat.le_refl _) _).alloc (by simp) _).alloc (by simp; omega) _).alloc (by simp; omega) _).alloc (by simp; omega) _
  have hC0 : CutBox w.heap.size w x 0 0 false W0 := by
    refine ⟨?_, ?_, ?_, ?_, hB0⟩
    · rw [← hW0]; exact ((((Holds.new w _ _).alloc _).alloc _).alloc _).alloc _
    · rw [← hW0]; exact (((new_second w _ _ _).alloc _).alloc _).alloc _
    · rw [← hW0]; have := ((Holds.new ((w.alloc (.cells #[.int .i64 x] 3)).alloc (.cells #[.slice none 0 0, .slice none 0 0, .int .i64 0, .bool false] 130)) 130 #[.slice none 0 0, .slice none 0 0, .int .i64 0, .bool false]).alloc (.cells #[.int .i64 0] 3)).alloc (.cells #[.slice A l.length c] 22); rwa [World.size_alloc, World.size_alloc] at this
    · rw [← hW0]; have := (Holds.new (((w.alloc (.cells #[.int .i64 x] 3)).alloc (.cells #[.slice none 0 0, .slice none 0 0, .int .i64 0, .bool false] 130)).alloc (.cells #[.slice none 0 0, .slice none 0 0, .int .i64 0, .bool false] 130)) 3 #[.int .i64 0]).alloc (.cells #[.slice A l.length c] 22); rwa [World.size_alloc, World.size_alloc, World.size_alloc] at this
  have hL0 : Holds W0 (w.heap.size + 1 + 1 + 1 + 1) 22 #[.slice A l.length c] := by
    rw [← hW0]; have := Holds.new ((((w.alloc (.cells #[.int .i64 x] 3)).alloc (.cells #[.slice none 0 0, .slice none 0 0, .int .i64 0, .bool false] 130)).alloc (.cells #[.slice none 0 0, .slice none 0 0, .int .i64 0, .bool false] 130)).alloc (.cells #[.int .i64 0] 3)) 22 #[.slice A l.length c]; rwa [World.size_alloc, World.size_alloc, World.size_alloc, World.size_alloc] at this
  rw [hW0]
  clear hW0
  have hA0 : mp_IntsB w.heap.size w A l := hA
  obtain ⟨p, hpe⟩ : ∃ p, p = kat l x := ⟨_, rfl⟩
  obtain ⟨v, hve⟩ : ∃ v, v = kval l x := ⟨_, rfl⟩
  obtain ⟨b, hbe⟩ : ∃ b, b = khas l x := ⟨_, rfl⟩
  have tail : ∀ (D : Nat) (W : World), w.heap.size + 5 ≤ D → CutBox w.heap.size w x (p : Int) v b W → W.heap[D]? = some (.deferred (some [])) →
      K { tmps := #[.slice A l.length c, .int .i64 x, undef, .pointer (some ⟨w.heap.size, 0, none⟩), .pointer (some ⟨w.heap.size + 1, 0, none⟩), .pointer (some ⟨w.heap.size + 1 + 1, 0, none⟩), .pointer (some ⟨w.heap.size + 1 + 1 + 1, 0, none⟩), undef, undef, .agg #[.slice none 0 0, .slice none 0 0, .int .i64 0, .bool false], .slice A l.length c, .func (.func 108) #[] #[.pointer (some ⟨w.heap.size + 1 + 1 + 1 + 1, 0, none⟩)], undef, undef, undef, undef, undef, undef, undef, undef, undef, undef, undef, undef, undef, undef, undef, undef, undef, undef, undef, undef, undef, undef, undef, undef, undef, undef, undef, undef], defers := [{ target := .collected D, args := #[] }] } W := by
    intro D W hD hv hK
    have hke := kat_le l x
    have hend : kend l x = p + if b = true then 2 else 0 := by unfold kend; rw [← hpe, ← hbe]
    rw [hend] at hke
    have c0 := hv.pos.c (j := 0) rfl
    have p0 := hv.p.c (j := 0) rfl
    have p1 := hv.p.c (j := 1) rfl
    have p2 := hv.p.c (j := 2) rfl
    have p3 := hv.p.c (j := 3) rfl
    have f0 := hv.p.frozen 0
    have f1 := hv.p.frozen 1
    have f2 := hv.p.frozen 2
    have f3 := hv.p.frozen 3
    have q0 := hv.res.c (j := 0) rfl
    have q1 := hv.res.c (j := 1) rfl
    have q2 := hv.res.c (j := 2) rfl
    have q3 := hv.res.c (j := 3) rfl
    have z0 := hv.res.frozen 0
    have z1 := hv.res.frozen 1
    have z2 := hv.res.frozen 2
    have z3 := hv.res.frozen 3
    have HV := Lib.hid hv
    have HPE := Lib.hid hpe
    have HVE := Lib.hid hve
    have HBE := Lib.hid hbe
    have HEND := Lib.hid hend
    have HK := Lib.hid hK
    refine hKt _ _ ?_
    clear hKt hv hpe hve hbe hend hK
    have g0 : (0 : Int) ≤ (p : Int) := by omega
    have g3 : (l.length : Int) ≤ (c : Int) := by omega
    have hke2 : p ≤ l.length := by omega
    have g1 : (p : Int) ≤ (c : Int) := by omega
    have g2 : (p : Int) ≤ (l.length : Int) := by omega
    have hw2 : W.drew.cell? ⟨w.heap.size + 1 + 1 + 1, 0, none⟩ = some (.int .i64 p) := c0
    gi_wp2_with fail
    refine wpIn_wide.2 ?_
    refine wp_region_noPanic ?_
    refine wp_region_picked [(0, true), (1, true), (2, true), (3, true), (4, true), (5, true), (6, true), (7, false), (8, true), (9, false)] (fun W' => W'.cell? ⟨w.heap.size + 1 + 1 + 1, 0, none⟩ = some (.int .i64 p)) (by kernel_rfl) (by kernel_rfl) (fun _ _ _ _ _ h => h) hw2 ?_
    iterate 5
      refine Picked.take ?_ (by rfl) (by rfl) ?_ ?_
      rotate_left
      · intro w' hw'
        go_simp
        try with_reducible rfl
      simp only [Act.put, List.getElem_toArray, List.getElem_cons_zero, List.getElem_cons_succ, List.setIfInBounds_toArray, List.set_cons_zero, List.set_cons_succ]
    refine Picked.take (.slice (subA A c p) (l.length - p) (c - p)) (by rfl) (by rfl) ?_ ?_
    · intro w' hw'
      by_cases hcp : c = p
      · have e1 : subA A c p = A := by unfold subA; rw [if_pos hcp]
        have e2 : c - p = 0 := by omega
        rw [e1, e2]
        go_simp
      · have e1 : subA A c p = A.map (·.add p) := by unfold subA; rw [if_neg hcp]
        rw [e1]
        go_simp
    simp only [Act.put, List.getElem_toArray, List.getElem_cons_zero, List.getElem_cons_succ, List.setIfInBounds_toArray, List.set_cons_zero, List.set_cons_succ]
    refine Picked.take ?_ (by rfl) (by rfl) ?_ ?_
    rotate_left
    · intro w' hw'
      go_simp
      try with_reducible rfl
    simp only [Act.put, List.getElem_toArray, List.getElem_cons_zero, List.getElem_cons_succ, List.setIfInBounds_toArray, List.set_cons_zero, List.set_cons_succ]
    refine ⟨_, by rfl, by rfl, ?_⟩
    go_simp
    refine Picked.take ?_ (by rfl) (by rfl) ?_ ?_
    rotate_left
    · intro w' hw'
      go_simp
      try with_reducible rfl
    simp only [Act.put, List.getElem_toArray, List.getElem_cons_zero, List.getElem_cons_succ, List.setIfInBounds_toArray, List.set_cons_zero, List.set_cons_succ]
    refine ⟨_, by rfl, by rfl, ?_⟩
    go_simp
    refine NoPanic.normal ?_
    obtain ⟨u2, hu2⟩ : ∃ u2, subA A c p = u2 := ⟨_, rfl⟩
    have hD' : Ints w (subA A c p) (l.drop p) := ints_drop hA c p hc
    rw [hu2] at hD' ⊢
    obtain ⟨hm, hko⟩ := cut_mid HV.out (.slice A p c) (.slice u2 (l.length - p) (c - p))
    have HD1 := Lib.hid (hko.same D _ HK.out rfl)
    have HD' := Lib.hid hD'
    clear hD' hu2 c0 p0 p1 p2 p3 f0 f1 f2 f3 q0 q1 q2 q3 z0 z1 z2 z3 hw2
    generalize ((W.setCell ⟨w.heap.size + 1 + 1, 0, none⟩ (.slice A p c)).setCell ⟨w.heap.size + 1 + 1, 1, none⟩ (.slice u2 (l.length - p) (c - p))).drew = W1 at *
    have p0 := hm.p.c (j := 0) rfl
    have p1 := hm.p.c (j := 1) rfl
    have p2 := hm.p.c (j := 2) rfl
    have p3 := hm.p.c (j := 3) rfl
    have f1 := hm.p.frozen 1
    have q0 := hm.res.c (j := 0) rfl
    have q1 := hm.res.c (j := 1) rfl
    have q2 := hm.res.c (j := 2) rfl
    have q3 := hm.res.c (j := 3) rfl
    have z0 := hm.res.frozen 0
    have z1 := hm.res.frozen 1
    have z2 := hm.res.frozen 2
    have z3 := hm.res.frozen 3
    have HM := Lib.hid hm
    clear hm hko
    cases b with
    | false =>
      gi_wp2
      obtain ⟨h1, h2, h3⟩ := cut_fin HM.out
      refine cut_end rfl h1 h2 rfl hD (h3.same D _ HD1.out rfl) (fun W' hB' => ?_)
      exact cut_says HPE.out HVE.out HBE.out (by rw [HEND.out]; rfl) hke2 (by omega) (ints_take hA p) HD'.out hB'
    | true =>
      have hke3 : p + 2 ≤ l.length := by simpa using hke
      have g4 : (2 : Int) ≤ ((l.length - p : Nat) : Int) := by omega
      have g5 : ((l.length - p : Nat) : Int) ≤ ((c - p : Nat) : Int) := by omega
      have g6 : (2 : Int) ≤ ((c - p : Nat) : Int) := by omega
      obtain ⟨b2, o2, rfl, -, -⟩ := HD'.out (by rw [List.length_drop]; omega)
      have hD2 := ints_drop HD'.out (c - p) 2 (by rw [List.length_drop]; omega)
      rw [List.drop_drop] at hD2
      unfold subA at hD2
      have HD2 := Lib.hid hD2
      clear hD2
      by_cases hcp2 : c - p = 2
      · rw [if_pos hcp2] at HD2
        gi_wp2
        obtain ⟨hm2, hko2⟩ := HM.out.put (.slice (some ⟨b2, o2, none⟩) (l.length - p - 2) 0)
        obtain ⟨h1, h2, h3⟩ := cut_fin hm2
        refine cut_end rfl h1 h2 rfl hD (h3.same D _ (hko2.same D _ HD1.out rfl) rfl) (fun W' hB' => ?_)
        exact cut_says HPE.out HVE.out HBE.out (by rw [HEND.out]; rfl) hke2 (by omega) (ints_take hA p) HD2.out hB'
      · rw [if_neg hcp2] at HD2
        gi_wp2
        obtain ⟨hm2, hko2⟩ := HM.out.put (.slice (some ⟨b2, o2 + 2, none⟩) (l.length - p - 2) (c - p - 2))
        obtain ⟨h1, h2, h3⟩ := cut_fin hm2
        refine cut_end rfl h1 h2 rfl hD (h3.same D _ (hko2.same D _ HD1.out rfl) rfl) (fun W' hB' => ?_)
        exact cut_says HPE.out HVE.out HBE.out (by rw [HEND.out]; rfl) hke2 (by omega) (ints_take hA p) HD2.out hB'
  refine wpIn_rangeFunc_ownG rfl (by omega) (gf := 108) (lb := #[.pointer (some ⟨w.heap.size + 1 + 1 + 1 + 1, 0, none⟩)]) rfl trivial (enters_of Tryz.func108 (by kernel_rfl) rfl)
    (entries_stops 5 (by omega) (w.heap.size + 1 + 1 + 1 + 1) w.heap.size A c l hlen W0 (by omega) (by omega) (hL0.c (j := 0) rfl) (hA0.below hB0)) KeptO.trans (KeptO.put (by omega) (by omega)) (Below.refl _ _) (fun _ => rfl)
    (fun pre W => CutI w.heap.size w x pre W)
    (fun cd pre W => cd = .exit 0 ∧ CutX w.heap.size w x pre W)
    (fun pre X Y row hs hg hr => ⟨hs.1.kept (Nat.le_refl _) (by omega) hg hr, hs.2⟩)
    (fun cd pre X Y row hs hg hr => ⟨hs.1, by obtain ⟨q, k, u, v, h1, h2, h3, h4, h5⟩ := hs.2; exact ⟨q, k, u, v, h1, h2, h3, h4, h5.kept (Nat.le_refl _) (by omega) hg hr⟩⟩)
    ⟨hC0, fun q hq => by cases hq⟩
    (fun y => { tmps := #[.slice A l.length c, .int .i64 x, undef, .pointer (some ⟨w.heap.size, 0, none⟩), .pointer (some ⟨w.heap.size + 1, 0, none⟩), .pointer (some ⟨w.heap.size + 1 + 1, 0, none⟩), .pointer (some ⟨w.heap.size + 1 + 1 + 1, 0, none⟩), .int .i64 y.1, .int .i64 y.2, .agg #[.slice none 0 0, .slice none 0 0, .int .i64 0, .bool false], .slice A l.length c, .func (.func 108) #[] #[.pointer (some ⟨w.heap.size + 1 + 1 + 1 + 1, 0, none⟩)], .int .i64 y.1, .int .i64 y.2, undef, undef, undef, undef, undef, undef, undef, undef, undef, undef, undef, undef, undef, undef, undef, undef, undef, undef, undef, undef, undef, undef, undef, undef, undef, undef], defers := [] }) ?assign ?body ?done ?stop
  case assign =>
    intro l y W K hK
    gi_wp2
    exact hK
  case body =>
    rintro lp pre ⟨k, u⟩ W ⟨hv, hB⟩ hlt
    have hdl := duos_len l
    have hn : ((2 * pre.length : Nat) : Int) ≤ 1000 := by omega
    have HB := Lib.hid hB
    have HV := Lib.hid hv
    have c0 := hv.key.c (j := 0) rfl
    have p2 := hv.p.c (j := 2) rfl
    have p3 := hv.p.c (j := 3) rfl
    have f2 := hv.p.frozen 2
    have f3 := hv.p.frozen 3
    have a0 := hv.pos.c (j := 0) rfl
    have fa := hv.pos.frozen 0
    clear hB hv
    generalize hnn : 2 * pre.length = n at *
    have HN := Lib.hid hnn
    clear hnn
    by_cases hkx : k < x
    · have g1 : (k == x) = false := by simp; omega
      have g2 : decide (x ≤ k) = false := decide_eq_false (by omega)
      have g3 : decide (k ≥ x) = false := decide_eq_false (by omega)
      gi_wp2
      refine ⟨(KeepsOthers.setCell _ _ _).from _, KeptO.set _ _ _ _ _ (by simp; omega) (by simp), ?_, ?_⟩
      · have := HV.out.setPos ((n : Int) + 2)
        rw [List.length_append, List.length_cons, List.length_nil, show ((2 * (pre.length + (0 + 1)) : Nat) : Int) = (n : Int) + 2 by have := HN.out; omega]
        exact this
      · intro q hq
        rcases List.mem_append.1 hq with hq | hq
        · exact HB.out q hq
        · obtain rfl : q = (k, u) := by simpa using hq
          exact hkx
    · by_cases e : k = x
      · subst e
        have g1 : (k == k) = true := by simp
        have g2 : decide (k ≤ k) = true := decide_eq_true (by omega)
        have g3 : decide (k ≥ k) = true := decide_eq_true (by omega)
        gi_wp2
        refine ⟨((KeepsOthers.setCell _ _ _).trans (KeepsOthers.setCell _ _ _)).from _, rfl, pre, k, u, u, rfl, HB.out, by omega, by rw [if_pos rfl], ?_⟩
        have := HV.out.setP u true
        rw [HN.out, g1]
        exact this
      · have g1 : (k == x) = false := by simp; omega
        have g2 : decide (x ≤ k) = true := decide_eq_true (by omega)
        have g3 : decide (k ≥ x) = true := decide_eq_true (by omega)
        gi_wp2
        refine ⟨(KeepsOthers.refl _).from _, rfl, pre, k, u, 0, rfl, HB.out, by omega, by rw [if_neg e], ?_⟩
        have := HV.out
        rw [HN.out, g1]
        exact this
  case done =>
    rintro D ys W hD rfl ⟨hv, hB⟩ hK
    obtain ⟨h1, h2⟩ := cut_none l x hB
    rw [← h1, ← hpe] at hv
    obtain rfl : v = 0 := by rw [hve]; unfold kval; rw [h2]; rfl
    obtain rfl : b = false := by rw [hbe]; unfold khas; rw [h2]; rfl
    exact tail D W (by omega) hv hK
  case stop =>
    rintro D cd pre W hD hS ⟨rfl, q, k, u, v', rfl, h1, h2, h3, hX⟩ hK
    obtain ⟨k1, k2, k3⟩ := cut_some l x k u q hS h1 h2
    rw [← k1, ← hpe] at hX
    obtain rfl : v = v' := by rw [hve]; unfold kval; rw [k2, h3]; split <;> rfl
    obtain rfl : b = (k == x) := by
      rw [hbe]; unfold khas; rw [k2]
      by_cases e : k = x
      · simp [e]
      · simp [e]
    have := tail D W (by omega) hX hK
    refine wpIn_exit ?_
    exact this
end Go.Proofs.YtmclpganipfadaaGreatDoor

namespace Go.Proofs.YtmclpganipfadaaGreatDoor
open Go.RowKit Go.Maps
set_option linter.unusedVariables false
set_option linter.unusedSimpArgs false

theorem RowPost.lift {m : List Int} {w w3 w' : World} {e : Ending} (h : RowPost m w3 e w') (hB : Below w.heap.size w w3) : RowPost m w e w' := by
  obtain ⟨A, c, rfl, ho, hB'⟩ := h
  exact ⟨A, c, rfl, row_more ho hB.size, nxt hB hB' hB.size⟩

def findV (l : List Int) (x : Int) : Value := .tuple #[.int .i64 (kval l x), .bool (khas l x)]
set_option maxHeartbeats 1000000 in
theorem mfind_any (A : Option Addr) (c : Nat) (l : List Int) (x : Int) (w : World) (hA : Ints w A l) (hlen : l.length ≤ 1000) (hc : l.length ≤ c) :
    Calls Tryz.prog 100 #[.slice A l.length c, .int .i64 x] w (Says (findV l x) w) := by
  have HC := cut_any A c l x w hA hlen hc
  unfold CutPost partsV at HC
  unfold findV
  generalize kval l x = v at *
  generalize khas l x = b at *
  generalize hn1 : (l.take (kat l x)).length = n1 at *
  generalize hn2 : (l.drop (kend l x)).length = n2 at *
  clear hn1 hn2
  go_enter Tryz.func100, Tryz.ntmps100
  go_wp2_with fail
  refine HC.mono ?_
  rintro e w1 ⟨A1, c1, A2, c2, rfl, -, -, hB⟩
  have hb := hB.alloc (o := .cells #[.slice A1 n1 c1, .slice A2 n2 c2, .int .i64 v, .bool b] 130) hB.size
  go_wp2_with fail
  go_quiet (fail)
  go_wp2
  refine bodyPost_ret (v := .tuple #[.int .i64 v, .bool b]) (by simp [results, Tryz.f100, go_sem]) rfl ?_
  exact ⟨rfl, below_drewN hb nq⟩

theorem parts_lit (w : World) (t : TypeId) (ps : List Part) (cs : Array Value) (h : cs = (ps.map fun p => Value.slice p.A p.l.length p.c).toArray) : ∀ j p, ps[j]? = some p → (w.alloc (.cells cs t)).cell? ⟨w.heap.size, j, none⟩ = some (.slice p.A p.l.length p.c) := by
  intro j p hj
  subst h
  rw [World.cell?_alloc_new]
  simp [hj]

theorem cat3 (l : List Int) (x v : Int) (A1 B A2 : Option Addr) (c1 c c2 : Nat) : catP [⟨A1, c1, l.take (kat l x)⟩, ⟨B, c, [x, v]⟩, ⟨A2, c2, l.drop (kend l x)⟩] = setM l x v := by
  rw [set_parts]; simp [catP]
theorem cat2 (l : List Int) (x : Int) (A1 A2 : Option Addr) (c1 c2 : Nat) : catP [⟨A1, c1, l.take (kat l x)⟩, ⟨A2, c2, l.drop (kend l x)⟩] = dropM l x := by
  rw [drop_parts]; simp [catP]

set_option maxHeartbeats 1000000 in
theorem mset_any (A : Option Addr) (c : Nat) (l : List Int) (x v : Int) (w : World) (hA : Ints w A l) (hlen : l.length ≤ 1000) (hc : l.length ≤ c) :
    Calls Tryz.prog 96 #[.slice A l.length c, .int .i64 x, .int .i64 v] w (RowPost (setM l x v) w) := by
  have HC := cut_any A c l x w hA hlen hc
  unfold CutPost partsV at HC
  have HS := Lib.hid (cat3 l x v)
  have hl := set_len_le l x v
  have hm1b : (l.take (kat l x)).length ≤ 1000 := by rw [List.length_take]; omega
  have hm2b : (l.drop (kend l x)).length ≤ 1000 := by rw [List.length_drop]; omega
  generalize hm1 : l.take (kat l x) = m1 at *
  generalize hm2 : l.drop (kend l x) = m2 at *
  generalize kval l x = u at *
  generalize khas l x = b at *
  clear hm1 hm2
  go_enter Tryz.func96, Tryz.ntmps96
  go_wp2_with fail
  refine HC.mono ?_
  rintro e w1 ⟨A1, c1, A2, c2, rfl, h1, h2, hB⟩
  have hB2 : Below w.heap.size w (((w1.alloc (.cells #[.slice A1 m1.length c1, .slice A2 m2.length c2, .int .i64 u, .bool b] 130)).alloc (.cells #[.int .i64 x, .int .i64 v] 3)).alloc (.cells #[.slice A1 m1.length c1, .slice (some ⟨w1.heap.size + 1, 0, none⟩) 2 2, .slice A2 m2.length c2] 22)) := gro_alloc (gro_alloc (gro_alloc hB _) _) _
  have hl2 := ints_lit (w1.alloc (.cells #[.slice A1 m1.length c1, .slice A2 m2.length c2, .int .i64 u, .bool b] 130)) [x, v] 3 _ rfl
  have HI1 := Lib.hid (h1.below hB2)
  have HI2 := Lib.hid (h2.below hB2)
  have HI3 := Lib.hid (hl2.below ((Below.refl _ _).alloc (Nat.le_refl _) (.cells #[.slice A1 m1.length c1, .slice (some ⟨w1.heap.size + 1, 0, none⟩) 2 2, .slice A2 m2.length c2] 22)))
  have HP := Lib.hid (parts_lit ((w1.alloc (.cells #[.slice A1 m1.length c1, .slice A2 m2.length c2, .int .i64 u, .bool b] 130)).alloc (.cells #[.int .i64 x, .int .i64 v] 3)) 22 [⟨A1, c1, m1⟩, ⟨some ⟨w1.heap.size + 1, 0, none⟩, 2, [x, v]⟩, ⟨A2, c2, m2⟩] _ rfl)
  rw [World.size_alloc, World.size_alloc] at HP
  rw [World.size_alloc] at HI3
  clear h1 h2 hl2
  go_wp2_with fail
  refine (concat_any (w1.heap.size + 1 + 1) 3 [⟨A1, c1, m1⟩, ⟨some ⟨w1.heap.size + 1, 0, none⟩, 2, [x, v]⟩, ⟨A2, c2, m2⟩] _ (by simp) (by simp) (by simp [sumP]; omega) HP.out (fun p hp => ?_)).mono ?_
  · simp only [List.mem_cons, List.not_mem_nil, or_false] at hp
    rcases hp with rfl | rfl | rfl
    · exact HI1.out
    · exact HI3.out
    · exact HI2.out
  · rw [HS.out]
    rintro e w2 ⟨g, cap, rfl, ho, hB3⟩
    go_wp2
    go_ret
    exact RowPost.lift ⟨g, cap, rfl, ho, hB3⟩ hB2

set_option maxHeartbeats 1000000 in
theorem mdrop_any (A : Option Addr) (c : Nat) (l : List Int) (x : Int) (w : World) (hA : Ints w A l) (hlen : l.length ≤ 1000) (hc : l.length ≤ c) :
    Calls Tryz.prog 99 #[.slice A l.length c, .int .i64 x] w (RowPost (dropM l x) w) := by
  have HC := cut_any A c l x w hA hlen hc
  unfold CutPost partsV at HC
  have HS := Lib.hid (cat2 l x)
  have hl := drop_len_le l x
  have hm1b : (l.take (kat l x)).length ≤ 1000 := by rw [List.length_take]; omega
  have hm2b : (l.drop (kend l x)).length ≤ 1000 := by rw [List.length_drop]; omega
  generalize hm1 : l.take (kat l x) = m1 at *
  generalize hm2 : l.drop (kend l x) = m2 at *
  generalize kval l x = u at *
  generalize khas l x = b at *
  clear hm1 hm2
  go_enter Tryz.func99, Tryz.ntmps99
  go_wp2_with fail
  refine HC.mono ?_
  rintro e w1 ⟨A1, c1, A2, c2, rfl, h1, h2, hB⟩
  have hB2 : Below w.heap.size w ((w1.alloc (.cells #[.slice A1 m1.length c1, .slice A2 m2.length c2, .int .i64 u, .bool b] 130)).alloc (.cells #[.slice A1 m1.length c1, .slice A2 m2.length c2] 22)) := gro_alloc (gro_alloc hB _) _
  have HI1 := Lib.hid (h1.below hB2)
  have HI2 := Lib.hid (h2.below hB2)
  have HP := Lib.hid (parts_lit (w1.alloc (.cells #[.slice A1 m1.length c1, .slice A2 m2.length c2, .int .i64 u, .bool b] 130)) 22 [⟨A1, c1, m1⟩, ⟨A2, c2, m2⟩] _ rfl)
  rw [World.size_alloc] at HP
  clear h1 h2
  go_wp2_with fail
  refine (concat_any (w1.heap.size + 1) 2 [⟨A1, c1, m1⟩, ⟨A2, c2, m2⟩] _ (by simp) (by simp) (by simp [sumP]; omega) HP.out (fun p hp => ?_)).mono ?_
  · simp only [List.mem_cons, List.not_mem_nil, or_false] at hp
    rcases hp with rfl | rfl
    · exact HI1.out
    · exact HI2.out
  · rw [HS.out]
    rintro e w2 ⟨g, cap, rfl, ho, hB3⟩
    go_wp2
    go_ret
    exact RowPost.lift ⟨g, cap, rfl, ho, hB3⟩ hB2

set_option maxHeartbeats 1000000 in
theorem mget_any (A : Option Addr) (c : Nat) (l : List Int) (x v : Int) (w : World) (hA : Ints w A l) (hlen : l.length ≤ 1000) :
    Calls Tryz.prog 97 #[.slice A l.length c, .int .i64 x, .int .i64 v] w (RowPost l w) := by
  have hB2 : Below w.heap.size w (w.alloc (.cells #[.slice A l.length c] 22)) := alloc1 w _
  have HI1 := Lib.hid (hA.below hB2)
  have HP := Lib.hid (parts_lit w 22 [⟨A, c, l⟩] _ rfl)
  have HS : Hid (catP [⟨A, c, l⟩] = l) := Lib.hid (by simp [catP])
  clear hA
  go_enter Tryz.func97, Tryz.ntmps97
  go_wp2_with fail
  refine (concat_any w.heap.size 1 [⟨A, c, l⟩] _ (by simp) (by simp) (by simp [sumP]; omega) HP.out (fun p hp => ?_)).mono ?_
  · simp only [List.mem_cons, List.not_mem_nil, or_false] at hp
    subst hp
    exact HI1.out
  · rw [HS.out]
    rintro e w2 ⟨g, cap, rfl, ho, hB3⟩
    go_wp2
    go_ret
    exact RowPost.lift ⟨g, cap, rfl, ho, hB3⟩ hB2

set_option maxHeartbeats 1000000 in
theorem mdel_any (A : Option Addr) (c : Nat) (l : List Int) (x v : Int) (w : World) (hA : Ints w A l) (hlen : l.length ≤ 1000) (hc : l.length ≤ c) :
    Calls Tryz.prog 98 #[.slice A l.length c, .int .i64 x, .int .i64 v] w (RowPost (dropM l x) w) := by
  have HD := mdrop_any A c l x w hA hlen hc
  unfold RowPost at *
  go_enter Tryz.func98, Tryz.ntmps98
  go_wp2_with fail
  refine HD.mono ?_
  rintro e w2 ⟨g, cap, rfl, ho, hB3⟩
  go_wp2
  go_ret
  exact ⟨g, cap, rfl, ho, hB3⟩

/-- What a key had, as it is returned: its kind and its number. -/
def hadK (l : List Int) (x : Int) : Int := if khas l x = true then 2 else 1
theorem had_yes {l : List Int} {x : Int} (h : khas l x = true) : hadK l x = 2 := by unfold hadK; rw [if_pos h]
theorem had_no {l : List Int} {x : Int} (h : khas l x = false) : hadK l x = 1 ∧ kval l x = 0 := by
  refine ⟨by unfold hadK; rw [if_neg (by rw [h]; decide)], ?_⟩
  unfold khas at h; unfold kval
  cases hk : kget l x with
  | none => rfl
  | some u => rw [hk] at h; cases h

set_option maxHeartbeats 1000000 in
theorem had_any (A : Option Addr) (c : Nat) (l : List Int) (x : Int) (w : World) (hA : Ints w A l) (hlen : l.length ≤ 1000) (hc : l.length ≤ c) :
    Calls Tryz.prog 76 #[.slice A l.length c, .int .i64 x] w (Says (retV (hadK l x) (kval l x)) w) := by
  have HF := mfind_any A c l x _ (hA.below (alloc1 w (.cells #[.int .i64 0, .int .i64 0] 26))) hlen hc
  unfold findV at HF
  unfold retV
  have HR := Lib.hid (Holds.new w 26 #[.int .i64 0, .int .i64 0])
  have hB0 := alloc1 w (.cells #[.int .i64 0, .int .i64 0] 26)
  have hsz : w.heap.size < (w.alloc (.cells #[.int .i64 0, .int .i64 0] 26)).heap.size := by simp
  cases hb : khas l x with
  | true =>
    rw [hb] at HF
    have HK := Lib.hid (had_yes hb)
    generalize hadK l x = hk at *
    generalize kval l x = v at *
    clear hb hA
    go_enter Tryz.func76, Tryz.ntmps76
    go_wp2_with fail
    refine HF.mono ?_
    rintro e w1 ⟨rfl, hB1⟩
    have HR1 := HR.out.below hB1 hsz
    have r0 := HR1.c (j := 0) rfl
    have r1 := HR1.c (j := 1) rfl
    have f0 := HR1.frozen 0
    have f1 := HR1.frozen 1
    have hBw := nxt hB0 hB1 (by omega)
    have HR2 := Lib.hid ((HR1.set 0 (.int .i64 2)).set 1 (.int .i64 v))
    have hB2 := (hBw.setCell (p := ⟨w.heap.size, 0, none⟩) (Nat.le_refl _) (.int .i64 2)).setCell (p := ⟨w.heap.size, 1, none⟩) (Nat.le_refl _) (.int .i64 v)
    go_wp2
    have k0 := HR2.out.c (j := 0) rfl
    have k1 := HR2.out.c (j := 1) rfl
    rw [HK.out]
    generalize (w1.setCell ⟨w.heap.size, 0, none⟩ (.int .i64 2)).setCell ⟨w.heap.size, 1, none⟩ (.int .i64 v) = W2 at *
    refine bodyPost_ret (v := .agg #[.int .i64 2, .int .i64 v]) (by simp [results, Tryz.f76, go_sem, k0, k1]) rfl ?_
    exact ⟨rfl, hB2⟩
  | false =>
    rw [hb] at HF
    obtain ⟨hk1, hk2⟩ := had_no hb
    have HK := Lib.hid hk1
    rw [hk2] at HF ⊢
    generalize hadK l x = hk at *
    clear hb hA hk1 hk2
    go_enter Tryz.func76, Tryz.ntmps76
    go_wp2_with fail
    refine HF.mono ?_
    rintro e w1 ⟨rfl, hB1⟩
    have HR1 := HR.out.below hB1 hsz
    have r0 := HR1.c (j := 0) rfl
    have r1 := HR1.c (j := 1) rfl
    have f0 := HR1.frozen 0
    have f1 := HR1.frozen 1
    have hBw := nxt hB0 hB1 (by omega)
    have HR2 := Lib.hid ((HR1.set 0 (.int .i64 1)).set 1 (.int .i64 0))
    have hB2 := (hBw.setCell (p := ⟨w.heap.size, 0, none⟩) (Nat.le_refl _) (.int .i64 1)).setCell (p := ⟨w.heap.size, 1, none⟩) (Nat.le_refl _) (.int .i64 0)
    go_wp2
    have k0 := HR2.out.c (j := 0) rfl
    have k1 := HR2.out.c (j := 1) rfl
    rw [HK.out]
    generalize (w1.setCell ⟨w.heap.size, 0, none⟩ (.int .i64 1)).setCell ⟨w.heap.size, 1, none⟩ (.int .i64 0) = W2 at *
    refine bodyPost_ret (v := .agg #[.int .i64 1, .int .i64 0]) (by simp [results, Tryz.f76, go_sem, k0, k1]) rfl ?_
    exact ⟨rfl, hB2⟩

def mp_kindsV : Value := .agg #[.nilFunc, .nilFunc, .nilFunc, .nilFunc, .nilFunc, .nilFunc, .nilFunc, .func (.func 96) #[] #[], .func (.func 97) #[] #[], .func (.func 98) #[] #[]]
set_option maxHeartbeats 1000000 in
theorem mp_kinds_any (w : World) : Calls Tryz.prog 75 #[] w (Says mp_kindsV w) := by
  go_enter Tryz.func75, Tryz.ntmps75
  go_wp2
  refine bodyPost_ret (v := mp_kindsV) (by simp [results, Tryz.f75, go_sem, mp_kindsV]) rfl ?_
  exact ⟨rfl, alloc1 w _⟩
end Go.Proofs.YtmclpganipfadaaGreatDoor

namespace Go.Proofs.YtmclpganipfadaaGreatDoor
open Go.RowKit Go.Maps
set_option linter.unusedVariables false

theorem fits_map (n : Int) (l : List Int) : fitsB 3 n l = true ↔ n = 0 ∧ krise l := by
  rw [← krise_iff]
  unfold fitsB
  simp [and_assoc]
theorem check_map {l : List Int} (h : krise l) : checkE 3 0 l = 0 := by
  unfold checkE; rw [if_neg (by omega), if_pos ((fits_map 0 l).2 ⟨rfl, h⟩)]
theorem check_no_map {n : Int} {l : List Int} (h : ¬ (n = 0 ∧ krise l)) : checkE 3 n l = 5 := by
  unfold checkE; rw [if_neg (by omega), if_neg (fun e => h ((fits_map n l).1 e))]

theorem mapply_state (t n : Int) (A : Option Addr) (c : Nat) (l : List Int) (kd a b : Int) (w : World) (h : t ≠ 3) :
    Calls Tryz.prog 36 #[stV t n A l.length c, .int .i64 kd, .int .i64 a, .int .i64 b] w (SetPost 0 [] 0 0 12 w) := by
  have ht : (t != 3) = true := by rw [bne_iff_ne]; exact h
  clear h
  unfold stV
  go_enter Tryz.func36, Tryz.ntmps36
  go_wp2
  refine bodyPost_ret (v := ansV 0 0 0 0 12) (by simp [results, Tryz.f36, go_sem, ansV, stV, retV]) rfl ?_
  exact set_none _ _ _ (boxed3_below w _ _ _ _ _)
set_option maxHeartbeats 1000000 in
theorem mapply_form (n : Int) (A : Option Addr) (c : Nat) (l : List Int) (kd a b : Int) (w : World) (hA : Ints w A l) (hlen : l.length ≤ 1000) (h : ¬ (n = 0 ∧ krise l)) :
    Calls Tryz.prog 36 #[stV 3 n A l.length c, .int .i64 kd, .int .i64 a, .int .i64 b] w (SetPost 0 [] 0 0 12 w) := by
  have hB0 := boxed3_below w 3 n A l.length c
  have H := check_any 3 n A c l _ (hA.below hB0) hlen
  have hc : checkE 3 n l = 5 := by
    exact check_no_map h
  rw [hc] at H
  clear h
  have HZ := Lib.hid (boxed3_then w 3 n A l.length c)
  have HR := Lib.hid (boxed3_ret w 3 n A l.length c)
  have hsz := boxed3_size w 3 n A l.length c
  clear hc hA
  unfold stV at *
  go_enter Tryz.func36, Tryz.ntmps36
  go_wp2_with fail
  refine H.mono ?_
  rintro e w1 ⟨rfl, hB1⟩
  generalize boxed3 w 3 n A l.length c = W0 at *
  have HZ1 := Lib.hid (HZ.out.below hB1 (by omega))
  have HR1 := Lib.hid (HR.out.below hB1 (by omega))
  have z0 := HZ1.out.c (j := 0) rfl
  have z1 := HZ1.out.c (j := 1) rfl
  have z2 := HZ1.out.c (j := 2) rfl
  have r0 := HR1.out.c (j := 0) rfl
  have r1 := HR1.out.c (j := 1) rfl
  have y0 := HZ1.out.frozen 0
  have y1 := HZ1.out.frozen 1
  have y2 := HZ1.out.frozen 2
  have x0 := HR1.out.frozen 0
  have x1 := HR1.out.frozen 1
  have hBw := nxt hB0 hB1 (by omega)
  clear hsz
  go_wp2
  obtain ⟨HZ2, HR2, hB2⟩ := filled_holds (m := w.heap.size) HZ1.out HR1.out (by omega) 0 0 (.slice none 0 0) 0 0
  have k0 := HZ2.c (j := 0) rfl
  have k1 := HZ2.c (j := 1) rfl
  have k2 := HZ2.c (j := 2) rfl
  have q0 := HR2.c (j := 0) rfl
  have q1 := HR2.c (j := 1) rfl
  change bodyPost _ _ _ _ _ (filled w1 (w.heap.size + 1) 0 0 (.slice none 0 0) 0 0)
  generalize filled w1 (w.heap.size + 1) 0 0 (.slice none 0 0) 0 0 = W2 at *
  refine bodyPost_ret (v := ansV 0 0 0 0 12) (by simp [results, Tryz.f36, go_sem, ansV, stV, retV, k0, k1, k2, q0, q1]) rfl ?_
  exact set_none _ _ _ (nxt hBw hB2 (Nat.le_refl _))
set_option maxHeartbeats 1000000 in
theorem mapply_word (A : Option Addr) (c : Nat) (l : List Int) (kd a b : Int) (w : World) (hA : Ints w A l) (hlen : l.length ≤ 1000) (hr : krise l) (h : kd < 7) :
    Calls Tryz.prog 36 #[stV 3 0 A l.length c, .int .i64 kd, .int .i64 a, .int .i64 b] w (SetPost 0 [] 0 0 6 w) := by
  have hB0 := boxed3_below w 3 0 A l.length c
  have H := check_any 3 0 A c l _ (hA.below hB0) hlen
  have hc : checkE 3 0 l = 0 := by
    exact check_map hr
  rw [hc] at H
  have d1 : decide (kd < 7) = true := decide_eq_true h
  have HZ := Lib.hid (boxed3_then w 3 0 A l.length c)
  have HR := Lib.hid (boxed3_ret w 3 0 A l.length c)
  have hsz := boxed3_size w 3 0 A l.length c
  clear hc hA
  unfold stV at *
  go_enter Tryz.func36, Tryz.ntmps36
  go_wp2_with fail
  refine H.mono ?_
  rintro e w1 ⟨rfl, hB1⟩
  generalize boxed3 w 3 0 A l.length c = W0 at *
  have HZ1 := Lib.hid (HZ.out.below hB1 (by omega))
  have HR1 := Lib.hid (HR.out.below hB1 (by omega))
  have z0 := HZ1.out.c (j := 0) rfl
  have z1 := HZ1.out.c (j := 1) rfl
  have z2 := HZ1.out.c (j := 2) rfl
  have r0 := HR1.out.c (j := 0) rfl
  have r1 := HR1.out.c (j := 1) rfl
  have y0 := HZ1.out.frozen 0
  have y1 := HZ1.out.frozen 1
  have y2 := HZ1.out.frozen 2
  have x0 := HR1.out.frozen 0
  have x1 := HR1.out.frozen 1
  have hBw := nxt hB0 hB1 (by omega)
  clear hsz
  go_wp2
  obtain ⟨HZ2, HR2, hB2⟩ := filled_holds (m := w.heap.size) HZ1.out HR1.out (by omega) 0 0 (.slice none 0 0) 0 0
  have k0 := HZ2.c (j := 0) rfl
  have k1 := HZ2.c (j := 1) rfl
  have k2 := HZ2.c (j := 2) rfl
  have q0 := HR2.c (j := 0) rfl
  have q1 := HR2.c (j := 1) rfl
  change bodyPost _ _ _ _ _ (filled w1 (w.heap.size + 1) 0 0 (.slice none 0 0) 0 0)
  generalize filled w1 (w.heap.size + 1) 0 0 (.slice none 0 0) 0 0 = W2 at *
  refine bodyPost_ret (v := ansV 0 0 0 0 6) (by simp [results, Tryz.f36, go_sem, ansV, stV, retV, k0, k1, k2, q0, q1]) rfl ?_
  exact set_none _ _ _ (nxt hBw hB2 (Nat.le_refl _))
set_option maxHeartbeats 1000000 in
theorem mapply_word2 (A : Option Addr) (c : Nat) (l : List Int) (kd a b : Int) (w : World) (hA : Ints w A l) (hlen : l.length ≤ 1000) (hr : krise l) (h : 9 < kd) :
    Calls Tryz.prog 36 #[stV 3 0 A l.length c, .int .i64 kd, .int .i64 a, .int .i64 b] w (SetPost 0 [] 0 0 6 w) := by
  have hB0 := boxed3_below w 3 0 A l.length c
  have H := check_any 3 0 A c l _ (hA.below hB0) hlen
  have hc : checkE 3 0 l = 0 := by
    exact check_map hr
  rw [hc] at H
  have d1 : decide (kd < 7) = false := decide_eq_false (by omega)
  have d2 : decide (9 < kd) = true := decide_eq_true h
  have d3 : decide (kd > 9) = true := decide_eq_true h
  have HZ := Lib.hid (boxed3_then w 3 0 A l.length c)
  have HR := Lib.hid (boxed3_ret w 3 0 A l.length c)
  have hsz := boxed3_size w 3 0 A l.length c
  clear hc hA
  unfold stV at *
  go_enter Tryz.func36, Tryz.ntmps36
  go_wp2_with fail
  refine H.mono ?_
  rintro e w1 ⟨rfl, hB1⟩
  generalize boxed3 w 3 0 A l.length c = W0 at *
  have HZ1 := Lib.hid (HZ.out.below hB1 (by omega))
  have HR1 := Lib.hid (HR.out.below hB1 (by omega))
  have z0 := HZ1.out.c (j := 0) rfl
  have z1 := HZ1.out.c (j := 1) rfl
  have z2 := HZ1.out.c (j := 2) rfl
  have r0 := HR1.out.c (j := 0) rfl
  have r1 := HR1.out.c (j := 1) rfl
  have y0 := HZ1.out.frozen 0
  have y1 := HZ1.out.frozen 1
  have y2 := HZ1.out.frozen 2
  have x0 := HR1.out.frozen 0
  have x1 := HR1.out.frozen 1
  have hBw := nxt hB0 hB1 (by omega)
  clear hsz
  go_wp2
  obtain ⟨HZ2, HR2, hB2⟩ := filled_holds (m := w.heap.size) HZ1.out HR1.out (by omega) 0 0 (.slice none 0 0) 0 0
  have k0 := HZ2.c (j := 0) rfl
  have k1 := HZ2.c (j := 1) rfl
  have k2 := HZ2.c (j := 2) rfl
  have q0 := HR2.c (j := 0) rfl
  have q1 := HR2.c (j := 1) rfl
  change bodyPost _ _ _ _ _ (filled w1 (w.heap.size + 1) 0 0 (.slice none 0 0) 0 0)
  generalize filled w1 (w.heap.size + 1) 0 0 (.slice none 0 0) 0 0 = W2 at *
  refine bodyPost_ret (v := ansV 0 0 0 0 6) (by simp [results, Tryz.f36, go_sem, ansV, stV, retV, k0, k1, k2, q0, q1]) rfl ?_
  exact set_none _ _ _ (nxt hBw hB2 (Nat.le_refl _))
set_option maxHeartbeats 1000000 in
theorem mapply_arg (A : Option Addr) (c : Nat) (l : List Int) (kd a b : Int) (w : World) (hA : Ints w A l) (hlen : l.length ≤ 1000) (hr : krise l) (h1 : 8 ≤ kd) (h2 : kd ≤ 9) (h : b ≠ 0) :
    Calls Tryz.prog 36 #[stV 3 0 A l.length c, .int .i64 kd, .int .i64 a, .int .i64 b] w (SetPost 0 [] 0 0 2 w) := by
  have hB0 := boxed3_below w 3 0 A l.length c
  have H := check_any 3 0 A c l _ (hA.below hB0) hlen
  have hc : checkE 3 0 l = 0 := by
    exact check_map hr
  rw [hc] at H
  have d1 : decide (kd < 7) = false := decide_eq_false (by omega)
  have d2 : decide (9 < kd) = false := decide_eq_false (by omega)
  have d4 : (kd != 7) = true := by rw [bne_iff_ne]; omega
  have d3 : (b != 0) = true := by rw [bne_iff_ne]; exact h
  have HZ := Lib.hid (boxed3_then w 3 0 A l.length c)
  have HR := Lib.hid (boxed3_ret w 3 0 A l.length c)
  have hsz := boxed3_size w 3 0 A l.length c
  clear hc hA
  unfold stV at *
  go_enter Tryz.func36, Tryz.ntmps36
  go_wp2_with fail
  refine H.mono ?_
  rintro e w1 ⟨rfl, hB1⟩
  generalize boxed3 w 3 0 A l.length c = W0 at *
  have HZ1 := Lib.hid (HZ.out.below hB1 (by omega))
  have HR1 := Lib.hid (HR.out.below hB1 (by omega))
  have z0 := HZ1.out.c (j := 0) rfl
  have z1 := HZ1.out.c (j := 1) rfl
  have z2 := HZ1.out.c (j := 2) rfl
  have r0 := HR1.out.c (j := 0) rfl
  have r1 := HR1.out.c (j := 1) rfl
  have y0 := HZ1.out.frozen 0
  have y1 := HZ1.out.frozen 1
  have y2 := HZ1.out.frozen 2
  have x0 := HR1.out.frozen 0
  have x1 := HR1.out.frozen 1
  have hBw := nxt hB0 hB1 (by omega)
  clear hsz
  go_wp2
  obtain ⟨HZ2, HR2, hB2⟩ := filled_holds (m := w.heap.size) HZ1.out HR1.out (by omega) 0 0 (.slice none 0 0) 0 0
  have k0 := HZ2.c (j := 0) rfl
  have k1 := HZ2.c (j := 1) rfl
  have k2 := HZ2.c (j := 2) rfl
  have q0 := HR2.c (j := 0) rfl
  have q1 := HR2.c (j := 1) rfl
  change bodyPost _ _ _ _ _ (filled w1 (w.heap.size + 1) 0 0 (.slice none 0 0) 0 0)
  generalize filled w1 (w.heap.size + 1) 0 0 (.slice none 0 0) 0 0 = W2 at *
  refine bodyPost_ret (v := ansV 0 0 0 0 2) (by simp [results, Tryz.f36, go_sem, ansV, stV, retV, k0, k1, k2, q0, q1]) rfl ?_
  exact set_none _ _ _ (nxt hBw hB2 (Nat.le_refl _))
end Go.Proofs.YtmclpganipfadaaGreatDoor

namespace Go.Proofs.YtmclpganipfadaaGreatDoor
open Go.RowKit Go.Maps
set_option linter.unusedVariables false
set_option linter.unusedSimpArgs false

def OnPost (m : List Int) (k r : Int) (w : World) (e : Ending) (w' : World) : Prop :=
  ∃ A c, e = .returned (.tuple #[stV 3 0 A m.length c, retV k r]) ∧ w'.ownsRow w.heap.size 3 1 (.slice A m.length c) m.length (intsOf m) ∧ Below w.heap.size w w'

theorem on_any (t n : Int) (A : Option Addr) (k c : Nat) (w : World) : Calls Tryz.prog 56 #[stV t n A k c] w fun e w' => e = .returned (.func (.func 74) #[] #[.pointer (some ⟨w.heap.size, 0, none⟩)]) ∧ w' = w.alloc (.cells #[.int .i64 t, .int .i64 n, .slice A k c] 24) := by
  unfold stV
  go_enter Tryz.func56, Tryz.ntmps56
  go_wp2
  go_ret
  exact ⟨rfl, rfl⟩

set_option maxHeartbeats 2000000 in
theorem on1_with (Bs : Nat) (A : Option Addr) (c : Nat) (l : List Int) (kd a b : Int) (w : World) (g : Nat) (m : List Int) (hBs : Holds w Bs 24 #[.int .i64 3, .int .i64 0, .slice A l.length c]) (hA : Ints w A l) (hlen : l.length ≤ 900) (hc : l.length ≤ c)
    (hix : ∀ W : World, (Instr.index 106 mp_kindsV (.int .i64 kd)).run Tryz.prog W = .ok (.func (.func g) #[] #[]) W)
    (eg : ∀ args w, (callFunc g args).run Tryz.prog w = .ok (.enter g args) w)
    (H : ∀ W, Below w.heap.size w W → Calls Tryz.prog g #[.slice A l.length c, .int .i64 a, .int .i64 b] W (RowPost m W)) :
    Calls Tryz.prog 74 #[.int .i64 kd, .int .i64 a, .int .i64 b, .pointer (some ⟨Bs, 0, none⟩)] w (OnPost m (hadK l a) (kval l a) w) := by
  obtain ⟨va, hva⟩ : ∃ va, mp_kindsV = va := ⟨_, rfl⟩
  rw [hva] at hix
  have HK : ∀ W : World, Calls Tryz.prog 75 #[] W (Says va W) := fun W => hva ▸ mp_kinds_any W
  have HAD : ∀ W, Below w.heap.size w W → Calls Tryz.prog 76 #[.slice A l.length c, .int .i64 a] W (Says (retV (hadK l a) (kval l a)) W) := fun W hB => had_any A c l a W (hA.below hB) (by omega) hc
  have HBs := Lib.hid hBs
  have hlt := hBs.lt
  have hB0 : Below w.heap.size w ((w.alloc (.cells #[.int .i64 0, .int .i64 0, .slice none 0 0] 24)).alloc (.cells #[.int .i64 0, .int .i64 0] 26)) := (alloc1 w _).alloc (by simp) _
  have HZ := Lib.hid ((Holds.new w 24 #[.int .i64 0, .int .i64 0, .slice none 0 0]).alloc (.cells #[.int .i64 0, .int .i64 0] 26))
  have HR := Lib.hid (new_second w (.cells #[.int .i64 0, .int .i64 0, .slice none 0 0] 24) 26 #[.int .i64 0, .int .i64 0])
  have hsz : ((w.alloc (.cells #[.int .i64 0, .int .i64 0, .slice none 0 0] 24)).alloc (.cells #[.int .i64 0, .int .i64 0] 26)).heap.size = w.heap.size + 2 := by simp
  clear hA hva hBs
  generalize hadK l a = hk at *
  generalize kval l a = hv at *
  unfold RowPost at H
  unfold retV at HAD
  go_enter Tryz.func74, Tryz.ntmps74
  go_wp2_with fail
  refine (HK _).mono ?_
  rintro e w1 ⟨rfl, hB1⟩
  have HZ1 := Lib.hid (HZ.out.below hB1 (by omega))
  have HR1 := Lib.hid (HR.out.below hB1 (by omega))
  have hBw := nxt hB0 hB1 (by omega)
  have HBs1 := Lib.hid (HBs.out.below hBw hlt)
  have hlt1 := HR1.out.lt
  clear hsz hB0 hB1 HZ HR
  go_wp2_with fail
  refine wp_region_noPanic ?_
  have hw2 : Holds w1.drew Bs 24 #[.int .i64 3, .int .i64 0, .slice A l.length c] := HBs1.out
  refine wp_region_picked [(0, true), (1, true), (2, true), (3, true), (4, true), (5, true), (6, true), (9, true), (10, true), (11, true), (7, false), (8, true), (12, false), (13, false), (14, false)] (fun W' => Holds W' Bs 24 #[.int .i64 3, .int .i64 0, .slice A l.length c]) (by kernel_rfl) (by kernel_rfl) (fun _ _ _ _ _ h => h) hw2 ?_
  iterate 10
    refine Picked.take ?_ (by rfl) (by rfl) ?_ ?_
    rotate_left
    · intro w' hw'
      have c0 := hw'.c (j := 0) rfl
      have c2 := hw'.c (j := 2) rfl
      go_simp
      try with_reducible rfl
    simp only [Act.put, List.getElem_toArray, List.getElem_cons_zero, List.getElem_cons_succ, List.setIfInBounds_toArray, List.set_cons_zero, List.set_cons_succ]
  refine Picked.call g #[.slice A l.length c, .int .i64 a, .int .i64 b] (by rfl) (by rfl) (by go_simp) ?_
  refine (H w1.drew hBw.drew).mono ?_
  rintro e w2 ⟨A3, c3, rfl, ho2, hB2⟩
  have hB2' : Below w1.heap.size w1 w2 := (Below.refl w1.heap.size w1).drew.trans hB2
  have HBs2 := HBs1.out.below hB2' (by omega)
  refine ⟨_, rfl, HBs2, ?_⟩
  simp only [Act.put, List.getElem_toArray, List.getElem_cons_zero, List.getElem_cons_succ, List.setIfInBounds_toArray, List.set_cons_zero, List.set_cons_succ]
  refine Picked.take ?_ (by rfl) (by rfl) ?_ ?_
  rotate_left
  · intro w' hw'
    go_simp
    try with_reducible rfl
  simp only [Act.put, List.getElem_toArray, List.getElem_cons_zero, List.getElem_cons_succ, List.setIfInBounds_toArray, List.set_cons_zero, List.set_cons_succ]
  have hBw2 := nxt hBw hB2' hBw.size
  have hs2 := hB2'.size
  refine Picked.call 76 #[.slice A l.length c, .int .i64 a] (by rfl) (by rfl) (by go_simp) ?_
  refine (HAD w2 hBw2).mono ?_
  rintro e w3 ⟨rfl, hB3⟩
  have hBw3 := nxt hBw2 hB3 hBw2.size
  have HBs3 := HBs2.below hB3 (by omega)
  refine ⟨_, rfl, HBs3, ?_⟩
  simp only [Act.put, List.getElem_toArray, List.getElem_cons_zero, List.getElem_cons_succ, List.setIfInBounds_toArray, List.set_cons_zero, List.set_cons_succ]
  have HZ3 := (HZ1.out.below hB2' (by omega)).below hB3 (by omega)
  have HR3 := (HR1.out.below hB2' (by omega)).below hB3 (by omega)
  have ho3 := row_below ho2 hB3
  have z0 := HZ3.c (j := 0) rfl
  have z1 := HZ3.c (j := 1) rfl
  have z2 := HZ3.c (j := 2) rfl
  have r0 := HR3.c (j := 0) rfl
  have r1 := HR3.c (j := 1) rfl
  have y0 := HZ3.frozen 0
  have y1 := HZ3.frozen 1
  have y2 := HZ3.frozen 2
  have x0 := HR3.frozen 0
  have x1 := HR3.frozen 1
  refine ⟨_, by rfl, by rfl, ?_⟩
  go_simp
  refine ⟨set_other (set_other (set_other HBs3 _ _ (by omega)) _ _ (by omega)) _ _ (by omega), ?_⟩
  refine ⟨_, by rfl, by rfl, ?_⟩
  go_simp
  refine ⟨set_other (set_other (set_other (set_other (set_other HBs3 _ _ (by omega)) _ _ (by omega)) _ _ (by omega)) _ _ (by omega)) _ _ (by omega), NoPanic.normal ?_⟩
  obtain ⟨HZ4, HR4, hB4⟩ := filled_holds (m := w.heap.size) HZ3 HR3 (by omega) 3 0 (.slice A3 m.length c3) hk hv
  have ho4 := row_mid (W' := filled w3 w.heap.size 3 0 (.slice A3 m.length c3) hk hv) ho3 (fun B hB _ => filled_far _ _ _ _ _ _ _ B (by have : w1.heap.size ≤ B := hB; omega))
  change Exit.then _ _ _ _ (filled w3 w.heap.size 3 0 (.slice A3 m.length c3) hk hv)
  have k0 := HZ4.c (j := 0) rfl
  have k1 := HZ4.c (j := 1) rfl
  have k2 := HZ4.c (j := 2) rfl
  have q0 := HR4.c (j := 0) rfl
  have q1 := HR4.c (j := 1) rfl
  generalize filled w3 w.heap.size 3 0 (.slice A3 m.length c3) hk hv = W4 at *
  go_wp2
  refine bodyPost_ret (v := .tuple #[stV 3 0 A3 m.length c3, retV hk hv]) (by simp [results, Tryz.f74, go_sem, stV, retV, k0, k1, k2, q0, q1]) rfl ?_
  exact ⟨A3, c3, rfl, row_more ho4 hBw.size, nxt hBw3 hB4 (Nat.le_refl _)⟩

theorem on1_put (Bs : Nat) (A : Option Addr) (c : Nat) (l : List Int) (a b : Int) (w : World) (hBs : Holds w Bs 24 #[.int .i64 3, .int .i64 0, .slice A l.length c]) (hA : Ints w A l) (hlen : l.length ≤ 900) (hc : l.length ≤ c) :
    Calls Tryz.prog 74 #[.int .i64 7, .int .i64 a, .int .i64 b, .pointer (some ⟨Bs, 0, none⟩)] w (OnPost (setM l a b) (hadK l a) (kval l a) w) :=
  on1_with Bs A c l 7 a b w 96 _ hBs hA hlen hc (fun W => by kernel_rfl) (Go.Proofs.enters_of Tryz.func96 (by kernel_rfl) rfl) (fun W hB => mset_any A c l a b W (hA.below hB) (by omega) hc)
theorem on1_get (Bs : Nat) (A : Option Addr) (c : Nat) (l : List Int) (a b : Int) (w : World) (hBs : Holds w Bs 24 #[.int .i64 3, .int .i64 0, .slice A l.length c]) (hA : Ints w A l) (hlen : l.length ≤ 900) (hc : l.length ≤ c) :
    Calls Tryz.prog 74 #[.int .i64 8, .int .i64 a, .int .i64 b, .pointer (some ⟨Bs, 0, none⟩)] w (OnPost l (hadK l a) (kval l a) w) :=
  on1_with Bs A c l 8 a b w 97 _ hBs hA hlen hc (fun W => by kernel_rfl) (Go.Proofs.enters_of Tryz.func97 (by kernel_rfl) rfl) (fun W hB => mget_any A c l a b W (hA.below hB) (by omega))
theorem on1_del (Bs : Nat) (A : Option Addr) (c : Nat) (l : List Int) (a b : Int) (w : World) (hBs : Holds w Bs 24 #[.int .i64 3, .int .i64 0, .slice A l.length c]) (hA : Ints w A l) (hlen : l.length ≤ 900) (hc : l.length ≤ c) :
    Calls Tryz.prog 74 #[.int .i64 9, .int .i64 a, .int .i64 b, .pointer (some ⟨Bs, 0, none⟩)] w (OnPost (dropM l a) (hadK l a) (kval l a) w) :=
  on1_with Bs A c l 9 a b w 98 _ hBs hA hlen hc (fun W => by kernel_rfl) (Go.Proofs.enters_of Tryz.func98 (by kernel_rfl) rfl) (fun W hB => mdel_any A c l a b W (hA.below hB) (by omega) hc)

theorem holds_drew {W : World} {B : Nat} {t : TypeId} {cs : Array Value} (h : Holds W B t cs) : Holds W.drew B t cs := h
theorem set3_drew {W : World} {B b : Nat} {t : TypeId} {cs : Array Value} {u0 u1 u2 : Value} (h : Holds W B t cs) (hne : B ≠ b) : Holds (((W.setCell ⟨b, 0, none⟩ u0).setCell ⟨b, 1, none⟩ u1).setCell ⟨b, 2, none⟩ u2).drew B t cs :=
  holds_drew (set_other (set_other (set_other h _ _ hne) _ _ hne) _ _ hne)
theorem set5_drew {W : World} {B b d : Nat} {t : TypeId} {cs : Array Value} {u0 u1 u2 u3 u4 : Value} (h : Holds W B t cs) (hne : B ≠ b) (hnd : B ≠ d) : Holds (((((W.setCell ⟨b, 0, none⟩ u0).setCell ⟨b, 1, none⟩ u1).setCell ⟨b, 2, none⟩ u2).setCell ⟨d, 0, none⟩ u3).setCell ⟨d, 1, none⟩ u4).drew B t cs :=
  holds_drew (set_other (set_other (set_other (set_other (set_other h _ _ hne) _ _ hne) _ _ hne) _ _ hnd) _ _ hnd)

set_option maxHeartbeats 2000000 in
theorem mapply_with (A : Option Addr) (c : Nat) (l : List Int) (kd a b : Int) (w : World) (m : List Int) (hA : Ints w A l) (hlen : l.length ≤ 900) (hr : krise l)
    (h1 : decide (kd < 7) = false) (h2 : decide (9 < kd) = false) (h3 : (kd != 7) = false ∨ (kd != 7) = true ∧ (b != 0) = false)
    (H : ∀ W Bs, Below w.heap.size w W → Holds W Bs 24 #[.int .i64 3, .int .i64 0, .slice A l.length c] → Calls Tryz.prog 74 #[.int .i64 kd, .int .i64 a, .int .i64 b, .pointer (some ⟨Bs, 0, none⟩)] W (OnPost m (hadK l a) (kval l a) W)) :
    Calls Tryz.prog 36 #[stV 3 0 A l.length c, .int .i64 kd, .int .i64 a, .int .i64 b] w (SetPost 3 m (hadK l a) (kval l a) 0 w) := by
  have hB0 := boxed3_below w 3 0 A l.length c
  have HC := check_any 3 0 A c l _ (hA.below hB0) (by omega)
  rw [check_map hr] at HC
  have HW := Lib.hid (boxed3_state w 3 0 A l.length c)
  have HZ := Lib.hid (boxed3_then w 3 0 A l.length c)
  have HR := Lib.hid (boxed3_ret w 3 0 A l.length c)
  have hsz := boxed3_size w 3 0 A l.length c
  have HON := fun W => on_any 3 0 A l.length c W
  clear hA
  unfold OnPost at *
  unfold stV retV at *
  generalize hadK l a = hk at *
  generalize kval l a = hv at *
  have eo := Go.Proofs.enters_of Tryz.func74 (by kernel_rfl) rfl
  rcases h3 with h3 | ⟨h3, h4⟩
  · go_enter Tryz.func36, Tryz.ntmps36
    go_wp2_with fail
    refine HC.mono ?_
    rintro e w1 ⟨rfl, hB1⟩
    generalize boxed3 w 3 0 A l.length c = W0 at *
    have HW1 := Lib.hid (HW.out.below hB1 (by omega))
    have HZ1 := Lib.hid (HZ.out.below hB1 (by omega))
    have HR1 := Lib.hid (HR.out.below hB1 (by omega))
    have hBw := nxt hB0 hB1 (by omega)
    have hlt1 := HR1.out.lt
    have s0 := HW1.out.c (j := 0) rfl
    have s1 := HW1.out.c (j := 1) rfl
    have s2 := HW1.out.c (j := 2) rfl
    clear hsz hB0 hB1
    go_wp2_with fail
    refine (HON w1).mono ?_
    rintro e w2 ⟨rfl, rfl⟩
    have HB := H _ w1.heap.size (hBw.alloc hBw.size _) (Holds.new w1 24 #[.int .i64 3, .int .i64 0, .slice A l.length c])
    go_wp2_with fail
    refine HB.mono ?_
    rintro e w3 ⟨A3, c3, rfl, ho3, hB3⟩
    rw [World.size_alloc] at ho3
    have hB3' : Below w1.heap.size w1 w3 := nxt (alloc1 w1 _) hB3 (by simp)
    have HZ3 := HZ1.out.below hB3' (by omega)
    have HR3 := HR1.out.below hB3' (by omega)
    have hBw3 := nxt hBw hB3' hBw.size
    have hs3 := hB3'.size
    have hN1 := (Holds.new w3 24 #[.int .i64 3, .int .i64 0, .slice A3 m.length c3]).alloc (.cells #[.int .i64 hk, .int .i64 hv] 26)
    have hN2 := new_second w3 (.cells #[.int .i64 3, .int .i64 0, .slice A3 m.length c3] 24) 26 #[.int .i64 hk, .int .i64 hv]
    have hB4 := gro_alloc (gro_alloc (Below.refl w3.heap.size w3) (.cells #[.int .i64 3, .int .i64 0, .slice A3 m.length c3] 24)) (.cells #[.int .i64 hk, .int .i64 hv] 26)
    have HZ4 := HZ3.below hB4 (by omega)
    have HR4 := HR3.below hB4 (by omega)
    have ho4 := row_below ho3 hB4
    have hBw4 := nxt hBw3 hB4 hBw3.size
    go_wp2_with fail
    refine wp_region_noPanic ?_
    generalize (w3.alloc (.cells #[.int .i64 3, .int .i64 0, .slice A3 m.length c3] 24)).alloc (.cells #[.int .i64 hk, .int .i64 hv] 26) = W5 at *
    have z0 := HZ4.c (j := 0) rfl
    have z1 := HZ4.c (j := 1) rfl
    have z2 := HZ4.c (j := 2) rfl
    have r0 := HR4.c (j := 0) rfl
    have r1 := HR4.c (j := 1) rfl
    have y0 := HZ4.frozen 0
    have y1 := HZ4.frozen 1
    have y2 := HZ4.frozen 2
    have x0 := HR4.frozen 0
    have x1 := HR4.frozen 1
    refine wp_region_picked [(0, true), (1, true), (2, false), (3, false), (4, true)] (fun W' => Holds W' w3.heap.size 24 #[.int .i64 3, .int .i64 0, .slice A3 m.length c3] ∧ Holds W' (w3.heap.size + 1) 26 #[.int .i64 hk, .int .i64 hv]) (by kernel_rfl) (by kernel_rfl) (fun _ _ _ _ _ h => h) ⟨hN1, hN2⟩ ?_
    iterate 2
      refine Picked.take ?_ (by rfl) (by rfl) ?_ ?_
      rotate_left
      · rintro w' ⟨hw1, hw2⟩
        have c0 := hw1.c (j := 0) rfl
        have c1 := hw1.c (j := 1) rfl
        have c2 := hw1.c (j := 2) rfl
        have d0 := hw2.c (j := 0) rfl
        have d1 := hw2.c (j := 1) rfl
        go_simp
        try with_reducible rfl
      simp only [Act.put, List.getElem_toArray, List.getElem_cons_zero, List.getElem_cons_succ, List.setIfInBounds_toArray, List.set_cons_zero, List.set_cons_succ]
    refine ⟨_, by rfl, by rfl, ?_⟩
    go_simp
    refine ⟨⟨set3_drew hN1 (by omega), set3_drew hN2 (by omega)⟩, ?_⟩
    refine ⟨_, by rfl, by rfl, ?_⟩
    go_simp
    refine ⟨⟨set5_drew hN1 (by omega) (by omega), set5_drew hN2 (by omega) (by omega)⟩, ?_⟩
    refine Picked.take (.int .i64 0) (by rfl) (by rfl) (fun w' _ => by go_simp) ?_
    simp only [Act.put, List.getElem_toArray, List.getElem_cons_zero, List.getElem_cons_succ, List.setIfInBounds_toArray, List.set_cons_zero, List.set_cons_succ]
    refine NoPanic.normal ?_
    obtain ⟨HZ6, HR6, hB6⟩ := filled_holds (m := w.heap.size) HZ4 HR4 (by omega) 3 0 (.slice A3 m.length c3) hk hv
    have ho6 := row_mid (W' := filled W5 (w.heap.size + 1) 3 0 (.slice A3 m.length c3) hk hv) ho4 (fun B hB _ => filled_far _ _ _ _ _ _ _ B (by omega))
    change Exit.then _ _ _ _ (filled W5 (w.heap.size + 1) 3 0 (.slice A3 m.length c3) hk hv).drew
    have k0 := HZ6.c (j := 0) rfl
    have k1 := HZ6.c (j := 1) rfl
    have k2 := HZ6.c (j := 2) rfl
    have q0 := HR6.c (j := 0) rfl
    have q1 := HR6.c (j := 1) rfl
    generalize filled W5 (w.heap.size + 1) 3 0 (.slice A3 m.length c3) hk hv = W6 at *
    go_wp2
    refine bodyPost_ret (v := .tuple #[stV 3 0 A3 m.length c3, retV hk hv, .int .i64 0]) (by simp [results, Tryz.f36, go_sem, stV, retV, k0, k1, k2, q0, q1]) rfl ?_
    exact ⟨A3, c3, rfl, row_more (row_mid (W' := W6.drew) ho6 (fun _ _ _ => rfl)) (by omega), (nxt hBw4 hB6 (Nat.le_refl _)).drew⟩
  · go_enter Tryz.func36, Tryz.ntmps36
    go_wp2_with fail
    refine HC.mono ?_
    rintro e w1 ⟨rfl, hB1⟩
    generalize boxed3 w 3 0 A l.length c = W0 at *
    have HW1 := Lib.hid (HW.out.below hB1 (by omega))
    have HZ1 := Lib.hid (HZ.out.below hB1 (by omega))
    have HR1 := Lib.hid (HR.out.below hB1 (by omega))
    have hBw := nxt hB0 hB1 (by omega)
    have hlt1 := HR1.out.lt
    have s0 := HW1.out.c (j := 0) rfl
    have s1 := HW1.out.c (j := 1) rfl
    have s2 := HW1.out.c (j := 2) rfl
    clear hsz hB0 hB1
    go_wp2_with fail
    refine (HON w1).mono ?_
    rintro e w2 ⟨rfl, rfl⟩
    have HB := H _ w1.heap.size (hBw.alloc hBw.size _) (Holds.new w1 24 #[.int .i64 3, .int .i64 0, .slice A l.length c])
    go_wp2_with fail
    refine HB.mono ?_
    rintro e w3 ⟨A3, c3, rfl, ho3, hB3⟩
    rw [World.size_alloc] at ho3
    have hB3' : Below w1.heap.size w1 w3 := nxt (alloc1 w1 _) hB3 (by simp)
    have HZ3 := HZ1.out.below hB3' (by omega)
    have HR3 := HR1.out.below hB3' (by omega)
    have hBw3 := nxt hBw hB3' hBw.size
    have hs3 := hB3'.size
    have hN1 := (Holds.new w3 24 #[.int .i64 3, .int .i64 0, .slice A3 m.length c3]).alloc (.cells #[.int .i64 hk, .int .i64 hv] 26)
    have hN2 := new_second w3 (.cells #[.int .i64 3, .int .i64 0, .slice A3 m.length c3] 24) 26 #[.int .i64 hk, .int .i64 hv]
    have hB4 := gro_alloc (gro_alloc (Below.refl w3.heap.size w3) (.cells #[.int .i64 3, .int .i64 0, .slice A3 m.length c3] 24)) (.cells #[.int .i64 hk, .int .i64 hv] 26)
    have HZ4 := HZ3.below hB4 (by omega)
    have HR4 := HR3.below hB4 (by omega)
    have ho4 := row_below ho3 hB4
    have hBw4 := nxt hBw3 hB4 hBw3.size
    go_wp2_with fail
    refine wp_region_noPanic ?_
    generalize (w3.alloc (.cells #[.int .i64 3, .int .i64 0, .slice A3 m.length c3] 24)).alloc (.cells #[.int .i64 hk, .int .i64 hv] 26) = W5 at *
    have z0 := HZ4.c (j := 0) rfl
    have z1 := HZ4.c (j := 1) rfl
    have z2 := HZ4.c (j := 2) rfl
    have r0 := HR4.c (j := 0) rfl
    have r1 := HR4.c (j := 1) rfl
    have y0 := HZ4.frozen 0
    have y1 := HZ4.frozen 1
    have y2 := HZ4.frozen 2
    have x0 := HR4.frozen 0
    have x1 := HR4.frozen 1
    refine wp_region_picked [(0, true), (1, true), (2, false), (3, false), (4, true)] (fun W' => Holds W' w3.heap.size 24 #[.int .i64 3, .int .i64 0, .slice A3 m.length c3] ∧ Holds W' (w3.heap.size + 1) 26 #[.int .i64 hk, .int .i64 hv]) (by kernel_rfl) (by kernel_rfl) (fun _ _ _ _ _ h => h) ⟨hN1, hN2⟩ ?_
    iterate 2
      refine Picked.take ?_ (by rfl) (by rfl) ?_ ?_
      rotate_left
      · rintro w' ⟨hw1, hw2⟩
        have c0 := hw1.c (j := 0) rfl
        have c1 := hw1.c (j := 1) rfl
        have c2 := hw1.c (j := 2) rfl
        have d0 := hw2.c (j := 0) rfl
        have d1 := hw2.c (j := 1) rfl
        go_simp
        try with_reducible rfl
      simp only [Act.put, List.getElem_toArray, List.getElem_cons_zero, List.getElem_cons_succ, List.setIfInBounds_toArray, List.set_cons_zero, List.set_cons_succ]
    refine ⟨_, by rfl, by rfl, ?_⟩
    go_simp
    refine ⟨⟨set3_drew hN1 (by omega), set3_drew hN2 (by omega)⟩, ?_⟩
    refine ⟨_, by rfl, by rfl, ?_⟩
    go_simp
    refine ⟨⟨set5_drew hN1 (by omega) (by omega), set5_drew hN2 (by omega) (by omega)⟩, ?_⟩
    refine Picked.take (.int .i64 0) (by rfl) (by rfl) (fun w' _ => by go_simp) ?_
    simp only [Act.put, List.getElem_toArray, List.getElem_cons_zero, List.getElem_cons_succ, List.setIfInBounds_toArray, List.set_cons_zero, List.set_cons_succ]
    refine NoPanic.normal ?_
    obtain ⟨HZ6, HR6, hB6⟩ := filled_holds (m := w.heap.size) HZ4 HR4 (by omega) 3 0 (.slice A3 m.length c3) hk hv
    have ho6 := row_mid (W' := filled W5 (w.heap.size + 1) 3 0 (.slice A3 m.length c3) hk hv) ho4 (fun B hB _ => filled_far _ _ _ _ _ _ _ B (by omega))
    change Exit.then _ _ _ _ (filled W5 (w.heap.size + 1) 3 0 (.slice A3 m.length c3) hk hv).drew
    have k0 := HZ6.c (j := 0) rfl
    have k1 := HZ6.c (j := 1) rfl
    have k2 := HZ6.c (j := 2) rfl
    have q0 := HR6.c (j := 0) rfl
    have q1 := HR6.c (j := 1) rfl
    generalize filled W5 (w.heap.size + 1) 3 0 (.slice A3 m.length c3) hk hv = W6 at *
    go_wp2
    refine bodyPost_ret (v := .tuple #[stV 3 0 A3 m.length c3, retV hk hv, .int .i64 0]) (by simp [results, Tryz.f36, go_sem, stV, retV, k0, k1, k2, q0, q1]) rfl ?_
    exact ⟨A3, c3, rfl, row_more (row_mid (W' := W6.drew) ho6 (fun _ _ _ => rfl)) (by omega), (nxt hBw4 hB6 (Nat.le_refl _)).drew⟩

theorem mapply_put (A : Option Addr) (c : Nat) (l : List Int) (a b : Int) (w : World) (hA : Ints w A l) (hlen : l.length ≤ 900) (hc : l.length ≤ c) (hr : krise l) :
    Calls Tryz.prog 36 #[stV 3 0 A l.length c, .int .i64 7, .int .i64 a, .int .i64 b] w (SetPost 3 (setM l a b) (hadK l a) (kval l a) 0 w) :=
  mapply_with A c l 7 a b w _ hA hlen hr rfl rfl (.inl rfl) (fun W Bs hB hBs => on1_put Bs A c l a b W hBs (hA.below hB) hlen hc)
theorem mapply_get (A : Option Addr) (c : Nat) (l : List Int) (a : Int) (w : World) (hA : Ints w A l) (hlen : l.length ≤ 900) (hc : l.length ≤ c) (hr : krise l) :
    Calls Tryz.prog 36 #[stV 3 0 A l.length c, .int .i64 8, .int .i64 a, .int .i64 0] w (SetPost 3 l (hadK l a) (kval l a) 0 w) :=
  mapply_with A c l 8 a 0 w _ hA hlen hr rfl rfl (.inr ⟨rfl, rfl⟩) (fun W Bs hB hBs => on1_get Bs A c l a 0 W hBs (hA.below hB) hlen hc)
theorem mapply_del (A : Option Addr) (c : Nat) (l : List Int) (a : Int) (w : World) (hA : Ints w A l) (hlen : l.length ≤ 900) (hc : l.length ≤ c) (hr : krise l) :
    Calls Tryz.prog 36 #[stV 3 0 A l.length c, .int .i64 9, .int .i64 a, .int .i64 0] w (SetPost 3 (dropM l a) (hadK l a) (kval l a) 0 w) :=
  mapply_with A c l 9 a 0 w _ hA hlen hr rfl rfl (.inr ⟨rfl, rfl⟩) (fun W Bs hB hBs => on1_del Bs A c l a 0 W hBs (hA.below hB) hlen hc)
end Go.Proofs.YtmclpganipfadaaGreatDoor

namespace Go.Proofs.YtmclpganipfadaaGreatDoor
open Go.RowKit Go.Maps
set_option linter.unusedVariables false
set_option linter.unusedSimpArgs false

end Go.Proofs.YtmclpganipfadaaGreatDoor

namespace Go.Proofs.YtmclpganipfadaaGreatDoor
open Go.RowKit Go.Maps
set_option linter.unusedVariables false
set_option linter.unusedSimpArgs false

theorem find_lit (l : List Int) (k : Nat) (x v : Int) (b : Bool) (hk : l.length = k) (h1 : l.length ≤ 1000) (hv : kval l x = v) (hb : khas l x = b) (A : Option Addr) (W : World) (hA : Ints W A l) :
    Calls Tryz.prog 100 #[.slice A k k, .int .i64 x] W (Says (.tuple #[.int .i64 v, .bool b]) W) := by
  subst hk hv hb
  exact mfind_any A _ l x W hA h1 (Nat.le_refl _)
theorem set_lit (l m : List Int) (k : Nat) (x v : Int) (h1 : l.length = k) (h2 : l.length ≤ 900) (hm : setM l x v = m) (A : Option Addr) (W : World) (hA : Ints W A l) :
    Calls Tryz.prog 96 #[.slice A k k, .int .i64 x, .int .i64 v] W (RowPost m W) := by
  subst h1 hm
  exact mset_any A _ l x v W hA (by omega) (Nat.le_refl _)
theorem drop_lit (l m : List Int) (k : Nat) (x : Int) (h1 : l.length = k) (h2 : l.length ≤ 900) (hm : dropM l x = m) (A : Option Addr) (W : World) (hA : Ints W A l) :
    Calls Tryz.prog 99 #[.slice A k k, .int .i64 x] W (RowPost m W) := by
  subst h1 hm
  exact mdrop_any A _ l x W hA (by omega) (Nat.le_refl _)
theorem same_lit (l : List Int) (k : Nat) (h1 : l.length = k) (h2 : l.length ≤ 1000) (A B : Option Addr) (c d : Nat) (W : World) (hA : Ints W A l) (hB : Ints W B l) :
    Calls Tryz.prog 30 #[.slice A k c, .slice B k d] W (Yes W) := by
  subst h1
  have := sameints_any A B c d l l W hA hB h2
  rwa [show (l == l) = true by simp] at this
theorem row_out {l : List Int} {k : Nat} (h1 : l.length = k) {w w' : World} {e : Ending} (h : RowPost l w e w') : ∃ A cap, e = .returned (.slice A k cap) ∧ Ints w' A l ∧ Below w.heap.size w w' := by
  subst h1
  obtain ⟨A, cap, h1, h2, h3⟩ := h
  exact ⟨A, cap, h1, own_ints rfl h2, h3⟩

end Go.Proofs.YtmclpganipfadaaGreatDoor

namespace Go.Proofs.YtmclpganipfadaaGreatDoor
open Go.RowKit Go.Maps
set_option linter.unusedVariables false
set_option linter.unusedSimpArgs false

def rfV (l : List Int) (x : Int) : Value := .tuple #[.int .i64 ((rget l x).getD 0), .bool (rget l x).isSome]

set_option maxHeartbeats 1000000 in
theorem mrfind_any (A : Option Addr) (c : Nat) (l : List Int) (x : Int) (w : World) (hA : Ints w A l) (hlen : l.length ≤ 1000) :
    Calls Tryz.prog 65 #[.slice A l.length c, .int .i64 x] w fun e w' => e = .returned (rfV l x) ∧ w' = w := by
  have HA := Lib.hid hA
  clear hA
  go_enter Tryz.func65, Tryz.ntmps65
  go_wp2
  go_loopw [6] (fun s6 wr => ∃ n : Nat, n ≤ l.length ∧ s6 = .int .i64 n ∧ rget l x = rget (l.drop n) x ∧ w = wr) (fun s6 wr => l.length - (intOf s6).toNat)
  case atStart => exact ⟨0, Nat.zero_le _, rfl, rfl, rfl⟩
  case round =>
    obtain ⟨n, hn, rfl, hr, rfl⟩ := hrel
    have HR := Lib.hid hr
    clear hr
    by_cases hlt : n + 1 < l.length
    · obtain ⟨b, off, rfl, hb, hc⟩ := HA.out (by omega)
      have ck := hc n (by omega)
      have cv := hc (n + 1) hlt
      have hd := drop_two l n hlt
      obtain ⟨k, hk⟩ : ∃ k, l[n]?.getD 0 = k := ⟨_, rfl⟩
      obtain ⟨u, hu⟩ : ∃ u, l[n + 1]?.getD 0 = u := ⟨_, rfl⟩
      rw [hk, hu] at hd
      rw [hk] at ck
      rw [hu] at cv
      have HD := Lib.hid hd
      have g0 : (0 : Int) ≤ (n : Int) := by omega
      have g1 : (n : Int) < (l.length : Int) := by omega
      have g2 : decide ((n : Int) + 1 < (l.length : Int)) = true := decide_eq_true (by omega)
      have g3 : (0 : Int) ≤ (n : Int) + 1 := by omega
      have g4 : (n : Int) + 1 < (l.length : Int) := by omega
      clear hc hk hu hd
      by_cases e : k = x
      · have g5 : (k == x) = true := by simp [e]
        have g6 : (x == x) = true := by simp
        have HV : Hid (rfV l x = .tuple #[.int .i64 u, .bool true]) := Lib.hid (by unfold rfV; rw [HR.out, HD.out]; simp [rget, e])
        clear HD HR e
        go_wp2
        rw [HV.out]
        refine bodyPost_ret (v := .tuple #[.int .i64 u, .bool true]) (by simp [results, Tryz.f65, go_sem]) rfl ?_
        exact ⟨rfl, rfl⟩
      · have g5 : (k == x) = false := by simp [e]
        have HR2 : Hid (rget l x = rget (l.drop (n + 2)) x) := Lib.hid (by rw [HR.out, HD.out]; simp [rget, e])
        clear HD HR e
        go_wp2
        go_roundw
        case rel => exact ⟨n + 2, by omega, by go_num, HR2.out, by first | exact rfl | trivial⟩
        case measure => simp [intOf]; omega
    · have g2 : decide ((n : Int) + 1 < (l.length : Int)) = false := decide_eq_false (by omega)
      have HV : Hid (rfV l x = .tuple #[.int .i64 0, .bool false]) := Lib.hid (by
        unfold rfV; rw [HR.out]
        rcases drop_short l n hlt with h | ⟨a, h⟩ <;> rw [h] <;> rfl)
      go_wp2
      rw [HV.out]
      refine bodyPost_ret (v := .tuple #[.int .i64 0, .bool false]) (by simp [results, Tryz.f65, go_sem]) rfl ?_
      exact ⟨rfl, rfl⟩
-- DROP

set_option maxRecDepth 100000 in
set_option maxHeartbeats 2000000 in
theorem mrdrop_any (A : Option Addr) (c : Nat) (l : List Int) (x : Int) (w : World) (hA : Ints w A l) (hlen : l.length ≤ 1000) :
    Calls Tryz.prog 46 #[.slice A l.length c, .int .i64 x] w (RowPost (rdrop l x) w) := by
  have HA := Lib.hid hA
  clear hA
  go_enter Tryz.func46, Tryz.ntmps46
  go_wp2
  go_loopw [5, 6] (fun s5 s6 wr => ∃ (n m : Nat) (o : List Int), n ≤ l.length ∧ s6 = .int .i64 n ∧ m ≤ n ∧ rdrop l x = o ++ rdrop (l.drop n) x ∧ wr.ownsRow w.heap.size 3 1 s5 m (intsOf o) ∧ Below w.heap.size w wr) (fun s5 s6 wr => l.length - (intOf s6).toNat)
  case atStart => exact ⟨0, 0, [], Nat.zero_le _, rfl, Nat.le_refl _, rfl, World.ownsRow_nil _ _ _ _, Below.refl _ _⟩
  case round =>
    obtain ⟨n, m, o, hn, rfl, hmn, hr, ho, hB⟩ := hrel
    have HR := Lib.hid hr
    have HO := Lib.hid ho
    have HB := Lib.hid hB
    have hAr := HA.out.below hB
    clear hr ho hB
    by_cases hlt : n + 1 < l.length
    · have hA0 := HA.out
      obtain ⟨b, off, rfl, hb, hc⟩ := hA0 (by omega)
      obtain ⟨k, hk⟩ : ∃ k, l[n]?.getD 0 = k := ⟨_, rfl⟩
      obtain ⟨u, hu⟩ : ∃ u, l[n + 1]?.getD 0 = u := ⟨_, rfl⟩
      obtain ⟨n1, hn1⟩ : ∃ n1, n1 = n + 1 := ⟨_, rfl⟩
      have hd := drop_two l n hlt
      rw [hk, hu] at hd
      have HD := Lib.hid hd
      have ck0 := hc n (by omega)
      have cv0 := hc (n + 1) hlt
      rw [hk] at ck0
      rw [hu, ← hn1] at cv0
      have g0 : (0 : Int) ≤ (n : Int) := by omega
      have g1 : (n : Int) < (l.length : Int) := by omega
      have g2 : decide ((n : Int) + 1 < (l.length : Int)) = true := decide_eq_true (by omega)
      have g5 : IntKind.i64.wrap ((n : Int) + 1) = (n1 : Int) := by rw [IntWalk.i64_left]; unfold wrap64; omega
      have g6 : (0 : Int) ≤ (n1 : Int) := by omega
      have g7 : (n1 : Int) < (l.length : Int) := by omega
      have g8 : decide ((n1 : Int) < (l.length : Int)) = true := decide_eq_true (by omega)
      clear hk hu hd hc hn1
      have HCN : Hid (∀ W, Below w.heap.size w W → W.cell? ⟨b, off + n, none⟩ = some (.int .i64 k)) := Lib.hid fun W h => (h.cell (p := ⟨b, off + n, none⟩) hb).trans ck0
      have HCV : Hid (∀ W, Below w.heap.size w W → W.cell? ⟨b, off + n1, none⟩ = some (.int .i64 u)) := Lib.hid fun W h => (h.cell (p := ⟨b, off + n1, none⟩) hb).trans cv0
      have ck := HCN.out wr HB.out
      clear ck0 cv0 hAr hA0
      by_cases e : k = x
      · have g9 : (k != x) = false := by simp [e]
        have HR2 : Hid (rdrop l x = o ++ rdrop (l.drop (n + 2)) x) := Lib.hid (by rw [HR.out, HD.out]; simp [rdrop, e])
        clear HD HR e
        go_wp2
        go_roundw
        case rel => exact ⟨n + 2, m, o, by omega, by go_num, by omega, HR2.out, HO.out, HB.out⟩
        case measure => simp [intOf]; omega
      · have g9 : (k != x) = true := by simp [e]
        have HR2 : Hid (rdrop l x = (o ++ [k, u]) ++ rdrop (l.drop (n + 2)) x) := Lib.hid (by rw [HR.out, HD.out]; simp [rdrop, e])
        clear HD HR e
        go_wp2_with fail
        refine wp_region_noPanic ?_
        refine wp_region_picked [(0, true), (1, true), (2, true), (3, true), (4, true), (5, true), (6, true), (7, true), (8, true), (9, true), (10, false), (11, false), (12, true)] (fun W' => Below w.heap.size w W') (by kernel_rfl) (by kernel_rfl) (fun _ _ _ _ _ h => h) HB.out.drew ?_
        iterate 10
          refine Picked.take ?_ (by rfl) (by rfl) ?_ ?_
          rotate_left
          · intro w' hw'
            have ck := HCN.out w' hw'
            have cv := HCV.out w' hw'
            go_simp
            try with_reducible rfl
          simp only [Act.put, List.getElem_toArray, List.getElem_cons_zero, List.getElem_cons_succ, List.setIfInBounds_toArray, List.set_cons_zero, List.set_cons_succ]
        refine ⟨_, by rfl, by rfl, ?_⟩
        go_simp
        have hB2 : Below w.heap.size w (wr.alloc (.cells #[.int .i64 k, .int .i64 u] 3)).drew := (gro_alloc HB.out _).drew
        refine ⟨hB2, ?_⟩
        obtain ⟨v3, w3, hr3, ho3, hg3, hn3⟩ := app_run (wr.alloc (.cells #[.int .i64 k, .int .i64 u] 3)).drew w.heap.size 22 22 Tryz.underlying22 _ m (intsOf o) (row_mid (row_below HO.out (alloc1 wr (.cells #[.int .i64 k, .int .i64 u] 3))) (fun _ _ _ => rfl)) (some ⟨wr.heap.size, 0, none⟩) 2 2 [k, u] rfl ((ints_lit wr [k, u] 3 _ rfl).below ((Below.refl _ _).drew)) (by omega) (by omega) hB2.size
        have hB3 : Below w.heap.size w w3 := hB2.grown hg3 hB2.size (fun r e => (HO.out.lt r e).1)
        refine Picked.make (w1 := w3) v3 (by rfl) (by rfl) (exec_app _ _ _ _ _ _ rfl rfl rfl hr3) hB3 ?_
        simp only [Act.put, List.getElem_toArray, List.getElem_cons_zero, List.getElem_cons_succ, List.setIfInBounds_toArray, List.set_cons_zero, List.set_cons_succ]
        refine Picked.take v3 (by rfl) (by rfl) (fun w' _ => by go_simp) ?_
        simp only [Act.put, List.getElem_toArray, List.getElem_cons_zero, List.getElem_cons_succ, List.setIfInBounds_toArray, List.set_cons_zero, List.set_cons_succ]
        refine NoPanic.normal ?_
        have HO3 := Lib.hid ho3
        have HB3 := Lib.hid hB3
        clear hr3 ho3 hg3 hn3 hB2 hB3
        go_wp2
        go_roundw
        case rel => exact ⟨n + 2, m + 2, o ++ [k, u], by omega, by go_num, by omega, HR2.out, by rw [intsOf_app]; exact HO3.out, HB3.out⟩
        case measure => simp [intOf]; omega
    · have g2 : decide ((n : Int) + 1 < (l.length : Int)) = false := decide_eq_false (by omega)
      have HE : Hid (rdrop l x = o) := Lib.hid (by
        rw [HR.out]
        rcases drop_short l n hlt with h | ⟨a, h⟩ <;> rw [h] <;> simp [rdrop])
      go_wp2
      go_ret
      rw [HE.out]
      exact row_ends HO.out HB.out

set_option maxRecDepth 100000 in
set_option maxHeartbeats 4000000 in
theorem mrset_any (A : Option Addr) (c : Nat) (l : List Int) (x v : Int) (w : World) (hA : Ints w A l) (hlen : l.length ≤ 900) (hdl : (rdrop l x).length ≤ 900) :
    Calls Tryz.prog 45 #[.slice A l.length c, .int .i64 x, .int .i64 v] w (RowPost (rins (rdrop l x) x v) w) := by
  have HDR := mrdrop_any A c l x w hA (by omega)
  unfold RowPost at HDR
  generalize rdrop l x = s at *
  clear hA
  go_enter Tryz.func45, Tryz.ntmps45
  go_wp2_with fail
  refine HDR.mono ?_
  rintro e w1 ⟨D, cD, rfl, hoD, hB1⟩
  have HAD := Lib.hid (own_ints rfl hoD)
  have hfit := row_fit hoD
  have HB1 := Lib.hid hB1
  have hs1 := hB1.size
  clear hoD hB1
  go_wp2
  go_loopw [8, 9] (fun s8 s9 wr => ∃ (n m : Nat) (o : List Int), n ≤ s.length ∧ s9 = .int .i64 n ∧ m ≤ n ∧ rins s x v = o ++ rins (s.drop n) x v ∧ wr.ownsRow w1.heap.size 3 1 s8 m (intsOf o) ∧ Below w1.heap.size w1 wr) (fun s8 s9 wr => s.length - (intOf s9).toNat)
  case atStart => exact ⟨0, 0, [], Nat.zero_le _, rfl, Nat.le_refl _, rfl, World.ownsRow_nil _ _ _ _, Below.refl _ _⟩
  case round =>
    obtain ⟨n, m, o, hn, rfl, hmn, hr, ho, hB⟩ := hrel
    have HR := Lib.hid hr
    have HO := Lib.hid ho
    have HB := Lib.hid hB
    have hsr := hB.size
    clear hr ho hB
    by_cases hlt : n + 1 < s.length
    · have hA0 := HAD.out
      obtain ⟨b, off, rfl, hb, hc⟩ := hA0 (by omega)
      obtain ⟨k, hk⟩ : ∃ k, s[n]?.getD 0 = k := ⟨_, rfl⟩
      obtain ⟨u, hu⟩ : ∃ u, s[n + 1]?.getD 0 = u := ⟨_, rfl⟩
      obtain ⟨n1, hn1⟩ : ∃ n1, n1 = n + 1 := ⟨_, rfl⟩
      have hd := drop_two s n hlt
      rw [hk, hu] at hd
      have HD := Lib.hid hd
      have ck0 := hc n (by omega)
      have cv0 := hc (n + 1) hlt
      rw [hk] at ck0
      rw [hu, ← hn1] at cv0
      have g0 : (0 : Int) ≤ (n : Int) := by omega
      have g1 : (n : Int) < (s.length : Int) := by omega
      have g2 : decide ((n : Int) + 1 < (s.length : Int)) = true := decide_eq_true (by omega)
      have g5 : IntKind.i64.wrap ((n : Int) + 1) = (n1 : Int) := by rw [IntWalk.i64_left]; unfold wrap64; omega
      have g6 : (0 : Int) ≤ (n1 : Int) := by omega
      have g7 : (n1 : Int) < (s.length : Int) := by omega
      have g8 : decide ((n1 : Int) < (s.length : Int)) = true := decide_eq_true (by omega)
      clear hk hu hd hc hn1
      have HCN : Hid (∀ W, Below w1.heap.size w1 W → W.cell? ⟨b, off + n, none⟩ = some (.int .i64 k)) := Lib.hid fun W h => (h.cell (p := ⟨b, off + n, none⟩) hb).trans ck0
      have HCV : Hid (∀ W, Below w1.heap.size w1 W → W.cell? ⟨b, off + n1, none⟩ = some (.int .i64 u)) := Lib.hid fun W h => (h.cell (p := ⟨b, off + n1, none⟩) hb).trans cv0
      have ck := HCN.out wr HB.out
      clear ck0 cv0 hA0
      by_cases e : k < x
      · have g9 : decide (k < x) = true := decide_eq_true e
        have HR2 : Hid (rins s x v = (o ++ [k, u]) ++ rins (s.drop (n + 2)) x v) := Lib.hid (by rw [HR.out, HD.out]; simp [rins, e])
        clear HD HR e
        go_wp2_with fail
        refine wp_region_noPanic ?_
        refine wp_region_picked [(0, true), (1, true), (2, true), (3, true), (4, true), (5, true), (6, true), (7, true), (8, true), (9, true), (10, false), (11, false), (12, true)] (fun W' => Below w1.heap.size w1 W') (by kernel_rfl) (by kernel_rfl) (fun _ _ _ _ _ h => h) HB.out.drew ?_
        iterate 10
          refine Picked.take ?_ (by rfl) (by rfl) ?_ ?_
          rotate_left
          · intro w' hw'
            have ck := HCN.out w' hw'
            have cv := HCV.out w' hw'
            go_simp
            try with_reducible rfl
          simp only [Act.put, List.getElem_toArray, List.getElem_cons_zero, List.getElem_cons_succ, List.setIfInBounds_toArray, List.set_cons_zero, List.set_cons_succ]
        refine ⟨_, by rfl, by rfl, ?_⟩
        go_simp
        have hB2 : Below w1.heap.size w1 (wr.alloc (.cells #[.int .i64 k, .int .i64 u] 3)).drew := (gro_alloc HB.out _).drew
        refine ⟨hB2, ?_⟩
        obtain ⟨v3, w3, hr3, ho3, hg3, hn3⟩ := app_run (wr.alloc (.cells #[.int .i64 k, .int .i64 u] 3)).drew w1.heap.size 22 22 Tryz.underlying22 _ m (intsOf o) (row_mid (row_below HO.out (alloc1 wr (.cells #[.int .i64 k, .int .i64 u] 3))) (fun _ _ _ => rfl)) (some ⟨wr.heap.size, 0, none⟩) 2 2 [k, u] rfl ((ints_lit wr [k, u] 3 _ rfl).below ((Below.refl _ _).drew)) (by omega) (by omega) hB2.size
        have hB3 : Below w1.heap.size w1 w3 := hB2.grown hg3 hB2.size (fun r e => (HO.out.lt r e).1)
        refine Picked.make (w1 := w3) v3 (by rfl) (by rfl) (exec_app _ _ _ _ _ _ rfl rfl rfl hr3) hB3 ?_
        simp only [Act.put, List.getElem_toArray, List.getElem_cons_zero, List.getElem_cons_succ, List.setIfInBounds_toArray, List.set_cons_zero, List.set_cons_succ]
        refine Picked.take v3 (by rfl) (by rfl) (fun w' _ => by go_simp) ?_
        simp only [Act.put, List.getElem_toArray, List.getElem_cons_zero, List.getElem_cons_succ, List.setIfInBounds_toArray, List.set_cons_zero, List.set_cons_succ]
        refine NoPanic.normal ?_
        have HO3 := Lib.hid ho3
        have HB3 := Lib.hid hB3
        clear hr3 ho3 hg3 hn3 hB2 hB3
        go_wp2
        go_roundw
        case rel => exact ⟨n + 2, m + 2, o ++ [k, u], by omega, by go_num, by omega, HR2.out, by rw [intsOf_app]; exact HO3.out, HB3.out⟩
        case measure => simp [intOf]; omega
      · have g9 : decide (k < x) = false := decide_eq_false e
        have HE : Hid (rins s x v = o ++ ([x, v] ++ s.drop n)) := Lib.hid (by rw [HR.out, HD.out]; simp [rins, e])
        clear HD HR
        have q0 : (0 : Int) ≤ (n : Int) := by omega
        have q1 : (n : Int) ≤ (s.length : Int) := by omega
        have q2 : (s.length : Int) ≤ (cD : Int) := by omega
        go_wp2_with fail
        refine wp_region_noPanic ?_
        refine wp_region_picked [(0, true), (1, true), (2, true), (5, true), (6, true), (7, true), (3, false), (4, false), (8, false), (9, true)] (fun W' => True) (by kernel_rfl) (by kernel_rfl) (fun _ _ _ _ _ h => h) trivial ?_
        iterate 5
          refine Picked.take ?_ (by rfl) (by rfl) ?_ ?_
          rotate_left
          · intro w' hw'
            go_simp
            try with_reducible rfl
          simp only [Act.put, List.getElem_toArray, List.getElem_cons_zero, List.getElem_cons_succ, List.setIfInBounds_toArray, List.set_cons_zero, List.set_cons_succ]
        refine Picked.take (.slice (subA (some ⟨b, off, none⟩) cD n) (s.length - n) (cD - n)) (by rfl) (by rfl) ?_ ?_
        · intro w' hw'
          by_cases hcp : cD = n
          · have e1 : subA (some ⟨b, off, none⟩) cD n = (some ⟨b, off, none⟩) := by unfold subA; rw [if_pos hcp]
            have e2 : cD - n = 0 := by omega
            rw [e1, e2]
            go_simp
          · have e1 : subA (some ⟨b, off, none⟩) cD n = Option.map (fun y : Addr => y.add n) (some ⟨b, off, none⟩) := by unfold subA; rw [if_neg hcp]
            rw [e1]
            go_simp
        simp only [Act.put, List.getElem_toArray, List.getElem_cons_zero, List.getElem_cons_succ, List.setIfInBounds_toArray, List.set_cons_zero, List.set_cons_succ]
        refine ⟨_, by rfl, by rfl, ?_⟩
        go_simp
        have hB2 : Below w1.heap.size w1 (wr.alloc (.cells #[.int .i64 x, .int .i64 v] 3)).drew := (gro_alloc HB.out _).drew
        obtain ⟨v3, w3, hr3, ho3, hg3, hn3⟩ := app_run (wr.alloc (.cells #[.int .i64 x, .int .i64 v] 3)).drew w1.heap.size 22 22 Tryz.underlying22 _ m (intsOf o) (row_mid (row_below HO.out (alloc1 wr (.cells #[.int .i64 x, .int .i64 v] 3))) (fun _ _ _ => rfl)) (some ⟨wr.heap.size, 0, none⟩) 2 2 [x, v] rfl ((ints_lit wr [x, v] 3 _ rfl).below ((Below.refl _ _).drew)) (by omega) (by omega) hB2.size
        have hB3 : Below w1.heap.size w1 w3 := hB2.grown hg3 hB2.size (fun r e => (HO.out.lt r e).1)
        refine Picked.make (w1 := w3) v3 (by rfl) (by rfl) (exec_app _ _ _ _ _ _ rfl rfl rfl hr3) trivial ?_
        simp only [Act.put, List.getElem_toArray, List.getElem_cons_zero, List.getElem_cons_succ, List.setIfInBounds_toArray, List.set_cons_zero, List.set_cons_succ]
        obtain ⟨v4, w4, hr4, ho4, hg4, hn4⟩ := app_run w3 w1.heap.size 22 22 Tryz.underlying22 v3 (m + 2) _ ho3 (subA (some ⟨b, off, none⟩) cD n) (s.length - n) (cD - n) (s.drop n) (by rw [List.length_drop]) ((ints_drop HAD.out cD n hfit).below hB3) (by omega) (by omega) hB3.size
        have hB4 : Below w1.heap.size w1 w4 := hB3.grown hg4 hB3.size (fun r e => (ho3.lt r e).1)
        refine Picked.make (w1 := w4) v4 (by rfl) (by rfl) (exec_app _ _ _ _ _ _ rfl rfl rfl hr4) trivial ?_
        simp only [Act.put, List.getElem_toArray, List.getElem_cons_zero, List.getElem_cons_succ, List.setIfInBounds_toArray, List.set_cons_zero, List.set_cons_succ]
        refine Picked.take v4 (by rfl) (by rfl) (fun w' _ => by go_simp) ?_
        simp only [Act.put, List.getElem_toArray, List.getElem_cons_zero, List.getElem_cons_succ, List.setIfInBounds_toArray, List.set_cons_zero, List.set_cons_succ]
        refine NoPanic.normal ?_
        have HO4 := Lib.hid (show w4.ownsRow w1.heap.size 3 1 v4 (m + 2 + (s.length - n)) (intsOf (rins s x v)) by rw [HE.out, intsOf_app, intsOf_app, ← List.append_assoc]; exact ho4)
        have HB4 := Lib.hid hB4
        clear hr3 hg3 hn3 ho3 hr4 hg4 hn4 ho4 hB4 hB3 hB2
        go_wp2
        go_ret
        exact row_ends (row_more HO4.out hs1) (nxt HB1.out HB4.out hs1)
    · have g2 : decide ((n : Int) + 1 < (s.length : Int)) = false := decide_eq_false (by omega)
      have HE : Hid (rins s x v = o ++ ([x, v] ++ s.drop n)) := Lib.hid (by
        rw [HR.out]
        rcases drop_short s n hlt with h | ⟨a, h⟩ <;> rw [h] <;> simp [rins])
      clear HR
      have q0 : (0 : Int) ≤ (n : Int) := by omega
      have q1 : (n : Int) ≤ (s.length : Int) := by omega
      have q2 : (s.length : Int) ≤ (cD : Int) := by omega
      go_wp2_with fail
      refine wp_region_noPanic ?_
      refine wp_region_picked [(0, true), (1, true), (2, true), (5, true), (6, true), (7, true), (3, false), (4, false), (8, false), (9, true)] (fun W' => True) (by kernel_rfl) (by kernel_rfl) (fun _ _ _ _ _ h => h) trivial ?_
      iterate 5
        refine Picked.take ?_ (by rfl) (by rfl) ?_ ?_
        rotate_left
        · intro w' hw'
          go_simp
          try with_reducible rfl
        simp only [Act.put, List.getElem_toArray, List.getElem_cons_zero, List.getElem_cons_succ, List.setIfInBounds_toArray, List.set_cons_zero, List.set_cons_succ]
      refine Picked.take (.slice (subA D cD n) (s.length - n) (cD - n)) (by rfl) (by rfl) ?_ ?_
      · intro w' hw'
        by_cases hcp : cD = n
        · have e1 : subA D cD n = D := by unfold subA; rw [if_pos hcp]
          have e2 : cD - n = 0 := by omega
          rw [e1, e2]
          go_simp
        · have e1 : subA D cD n = Option.map (fun y : Addr => y.add n) D := by unfold subA; rw [if_neg hcp]
          rw [e1]
          go_simp
      simp only [Act.put, List.getElem_toArray, List.getElem_cons_zero, List.getElem_cons_succ, List.setIfInBounds_toArray, List.set_cons_zero, List.set_cons_succ]
      refine ⟨_, by rfl, by rfl, ?_⟩
      go_simp
      have hB2 : Below w1.heap.size w1 (wr.alloc (.cells #[.int .i64 x, .int .i64 v] 3)).drew := (gro_alloc HB.out _).drew
      obtain ⟨v3, w3, hr3, ho3, hg3, hn3⟩ := app_run (wr.alloc (.cells #[.int .i64 x, .int .i64 v] 3)).drew w1.heap.size 22 22 Tryz.underlying22 _ m (intsOf o) (row_mid (row_below HO.out (alloc1 wr (.cells #[.int .i64 x, .int .i64 v] 3))) (fun _ _ _ => rfl)) (some ⟨wr.heap.size, 0, none⟩) 2 2 [x, v] rfl ((ints_lit wr [x, v] 3 _ rfl).below ((Below.refl _ _).drew)) (by omega) (by omega) hB2.size
      have hB3 : Below w1.heap.size w1 w3 := hB2.grown hg3 hB2.size (fun r e => (HO.out.lt r e).1)
      refine Picked.make (w1 := w3) v3 (by rfl) (by rfl) (exec_app _ _ _ _ _ _ rfl rfl rfl hr3) trivial ?_
      simp only [Act.put, List.getElem_toArray, List.getElem_cons_zero, List.getElem_cons_succ, List.setIfInBounds_toArray, List.set_cons_zero, List.set_cons_succ]
      obtain ⟨v4, w4, hr4, ho4, hg4, hn4⟩ := app_run w3 w1.heap.size 22 22 Tryz.underlying22 v3 (m + 2) _ ho3 (subA D cD n) (s.length - n) (cD - n) (s.drop n) (by rw [List.length_drop]) ((ints_drop HAD.out cD n hfit).below hB3) (by omega) (by omega) hB3.size
      have hB4 : Below w1.heap.size w1 w4 := hB3.grown hg4 hB3.size (fun r e => (ho3.lt r e).1)
      refine Picked.make (w1 := w4) v4 (by rfl) (by rfl) (exec_app _ _ _ _ _ _ rfl rfl rfl hr4) trivial ?_
      simp only [Act.put, List.getElem_toArray, List.getElem_cons_zero, List.getElem_cons_succ, List.setIfInBounds_toArray, List.set_cons_zero, List.set_cons_succ]
      refine Picked.take v4 (by rfl) (by rfl) (fun w' _ => by go_simp) ?_
      simp only [Act.put, List.getElem_toArray, List.getElem_cons_zero, List.getElem_cons_succ, List.setIfInBounds_toArray, List.set_cons_zero, List.set_cons_succ]
      refine NoPanic.normal ?_
      have HO4 := Lib.hid (show w4.ownsRow w1.heap.size 3 1 v4 (m + 2 + (s.length - n)) (intsOf (rins s x v)) by rw [HE.out, intsOf_app, intsOf_app, ← List.append_assoc]; exact ho4)
      have HB4 := Lib.hid hB4
      clear hr3 hg3 hn3 ho3 hr4 hg4 hn4 ho4 hB4 hB3 hB2
      go_wp2
      go_ret
      exact row_ends (row_more HO4.out hs1) (nxt HB1.out HB4.out hs1)
end Go.Proofs.YtmclpganipfadaaGreatDoor

namespace Go.Proofs.YtmclpganipfadaaGreatDoor
open Go.RowKit Go.Maps
set_option linter.unusedVariables false
set_option linter.unusedSimpArgs false

theorem overints_own (A : Option Addr) (c n lo : Nat) (xs : List Value) (w : World) (h : w.ownsRow lo 3 1 (.slice A n c) n xs) (hn : n ≤ 1001) :
    Calls Tryz.prog 31 #[.slice A n c] w fun e w' => e = .returned (.tuple #[]) ∧ w.grownBy w' (Value.ownBlock (.slice A n c)) := by
  rcases h.2 with ⟨e1, e2⟩ | ⟨g, cap', cur, e1, hg, _⟩
  · injection e1 with e3 e4 e5
    subst e3 e4 e5
    have := overints_any none 0 0 w.heap.size [] w (World.ownsRow_nil _ _ _ _) (by omega) (Nat.le_refl _)
    refine this.mono ?_
    rintro e w' ⟨rfl, hB⟩
    exact ⟨rfl, ⟨hB.os, hB.tape, hB.output, hB.size, fun k hk _ => hB.block k hk⟩⟩
  · injection e1 with e3 e4 e5
    subst e3 e5
    exact overrow_any g c n lo xs w h hn

theorem rf_eq {l : List Int} (h : krise l) (x : Int) : rfV l x = findV l x := by
  unfold rfV findV kval khas; rw [rget_eq h]
theorem rset_eq {l : List Int} (h : krise l) (x v : Int) : rins (rdrop l x) x v = setM l x v := by rw [rdrop_eq h, rins_eq h]

end Go.Proofs.YtmclpganipfadaaGreatDoor

namespace Go.Proofs.YtmclpganipfadaaGreatDoor
open Go.RowKit Go.Maps
set_option linter.unusedVariables false
set_option linter.unusedSimpArgs false

set_option maxHeartbeats 1000000 in
theorem rhad_any (A : Option Addr) (c : Nat) (l : List Int) (x : Int) (w : World) (hA : Ints w A l) (hlen : l.length ≤ 1000) (hr : krise l) :
    Calls Tryz.prog 47 #[.slice A l.length c, .int .i64 x] w (Says (retV (hadK l x) (kval l x)) w) := by
  have HF := mrfind_any A c l x _ (hA.below (alloc1 w (.cells #[.int .i64 0, .int .i64 0] 26))) hlen
  rw [rf_eq hr] at HF
  unfold findV at HF
  unfold retV
  have HR := Lib.hid (Holds.new w 26 #[.int .i64 0, .int .i64 0])
  have hB0 := alloc1 w (.cells #[.int .i64 0, .int .i64 0] 26)
  cases hb : khas l x with
  | true =>
    rw [hb] at HF
    have HK := Lib.hid (had_yes hb)
    generalize hadK l x = hk at *
    generalize kval l x = v at *
    clear hb hA hr
    go_enter Tryz.func47, Tryz.ntmps47
    go_wp2_with fail
    refine HF.mono ?_
    rintro e w1 ⟨rfl, rfl⟩
    have r0 := HR.out.c (j := 0) rfl
    have r1 := HR.out.c (j := 1) rfl
    have f0 := HR.out.frozen 0
    have f1 := HR.out.frozen 1
    have HR2 := Lib.hid ((HR.out.set 0 (.int .i64 2)).set 1 (.int .i64 v))
    have hB2 := (hB0.setCell (p := ⟨w.heap.size, 0, none⟩) (Nat.le_refl _) (.int .i64 2)).setCell (p := ⟨w.heap.size, 1, none⟩) (Nat.le_refl _) (.int .i64 v)
    generalize w.alloc (.cells #[.int .i64 0, .int .i64 0] 26) = W1 at *
    go_wp2
    have k0 := HR2.out.c (j := 0) rfl
    have k1 := HR2.out.c (j := 1) rfl
    rw [HK.out]
    generalize (W1.setCell ⟨w.heap.size, 0, none⟩ (.int .i64 2)).setCell ⟨w.heap.size, 1, none⟩ (.int .i64 v) = W2 at *
    refine bodyPost_ret (v := .agg #[.int .i64 2, .int .i64 v]) (by simp [results, Tryz.f47, go_sem, k0, k1]) rfl ?_
    exact ⟨rfl, hB2⟩
  | false =>
    rw [hb] at HF
    obtain ⟨hk1, hk2⟩ := had_no hb
    have HK := Lib.hid hk1
    rw [hk2] at HF ⊢
    generalize hadK l x = hk at *
    clear hb hA hk1 hk2 hr
    go_enter Tryz.func47, Tryz.ntmps47
    go_wp2_with fail
    refine HF.mono ?_
    rintro e w1 ⟨rfl, rfl⟩
    have r0 := HR.out.c (j := 0) rfl
    have r1 := HR.out.c (j := 1) rfl
    have f0 := HR.out.frozen 0
    have f1 := HR.out.frozen 1
    have HR2 := Lib.hid ((HR.out.set 0 (.int .i64 1)).set 1 (.int .i64 0))
    have hB2 := (hB0.setCell (p := ⟨w.heap.size, 0, none⟩) (Nat.le_refl _) (.int .i64 1)).setCell (p := ⟨w.heap.size, 1, none⟩) (Nat.le_refl _) (.int .i64 0)
    generalize w.alloc (.cells #[.int .i64 0, .int .i64 0] 26) = W1 at *
    go_wp2
    have k0 := HR2.out.c (j := 0) rfl
    have k1 := HR2.out.c (j := 1) rfl
    rw [HK.out]
    generalize (W1.setCell ⟨w.heap.size, 0, none⟩ (.int .i64 1)).setCell ⟨w.heap.size, 1, none⟩ (.int .i64 0) = W2 at *
    refine bodyPost_ret (v := .agg #[.int .i64 1, .int .i64 0]) (by simp [results, Tryz.f47, go_sem, k0, k1]) rfl ?_
    exact ⟨rfl, hB2⟩

theorem rmapply_state (t n : Int) (A : Option Addr) (c : Nat) (l : List Int) (kd a b : Int) (w : World) (h : t ≠ 3) :
    Calls Tryz.prog 27 #[stV t n A l.length c, .int .i64 kd, .int .i64 a, .int .i64 b] w (SetPost 0 [] 0 0 12 w) := by
  have ht : (t != 3) = true := by rw [bne_iff_ne]; exact h
  clear h
  unfold stV
  go_enter Tryz.func27, Tryz.ntmps27
  go_wp2
  refine bodyPost_ret (v := ansV 0 0 0 0 12) (by simp [results, Tryz.f27, go_sem, ansV, stV, retV]) rfl ?_
  exact set_none _ _ _ (boxed3_below w _ _ _ _ _)
set_option maxHeartbeats 1000000 in
theorem rmapply_form (n : Int) (A : Option Addr) (c : Nat) (l : List Int) (kd a b : Int) (w : World) (hA : Ints w A l) (hlen : l.length ≤ 1000) (h : ¬ (n = 0 ∧ krise l)) :
    Calls Tryz.prog 27 #[stV 3 n A l.length c, .int .i64 kd, .int .i64 a, .int .i64 b] w (SetPost 0 [] 0 0 12 w) := by
  have hB0 := boxed3_below w 3 n A l.length c
  have H := rcheck_any 3 n A c l _ (hA.below hB0) hlen
  have hc : checkE 3 n l = 5 := by
    exact check_no_map h
  rw [hc] at H
  clear h
  have HZ := Lib.hid (boxed3_then w 3 n A l.length c)
  have HR := Lib.hid (boxed3_ret w 3 n A l.length c)
  have hsz := boxed3_size w 3 n A l.length c
  clear hc hA
  unfold stV at *
  go_enter Tryz.func27, Tryz.ntmps27
  go_wp2_with fail
  refine H.mono ?_
  rintro e w1 ⟨rfl, hB1⟩
  generalize boxed3 w 3 n A l.length c = W0 at *
  have HZ1 := Lib.hid (HZ.out.below hB1 (by omega))
  have HR1 := Lib.hid (HR.out.below hB1 (by omega))
  have z0 := HZ1.out.c (j := 0) rfl
  have z1 := HZ1.out.c (j := 1) rfl
  have z2 := HZ1.out.c (j := 2) rfl
  have r0 := HR1.out.c (j := 0) rfl
  have r1 := HR1.out.c (j := 1) rfl
  have y0 := HZ1.out.frozen 0
  have y1 := HZ1.out.frozen 1
  have y2 := HZ1.out.frozen 2
  have x0 := HR1.out.frozen 0
  have x1 := HR1.out.frozen 1
  have hBw := nxt hB0 hB1 (by omega)
  clear hsz
  go_wp2
  obtain ⟨HZ2, HR2, hB2⟩ := filled_holds (m := w.heap.size) HZ1.out HR1.out (by omega) 0 0 (.slice none 0 0) 0 0
  have k0 := HZ2.c (j := 0) rfl
  have k1 := HZ2.c (j := 1) rfl
  have k2 := HZ2.c (j := 2) rfl
  have q0 := HR2.c (j := 0) rfl
  have q1 := HR2.c (j := 1) rfl
  change bodyPost _ _ _ _ _ (filled w1 (w.heap.size + 1) 0 0 (.slice none 0 0) 0 0)
  generalize filled w1 (w.heap.size + 1) 0 0 (.slice none 0 0) 0 0 = W2 at *
  refine bodyPost_ret (v := ansV 0 0 0 0 12) (by simp [results, Tryz.f27, go_sem, ansV, stV, retV, k0, k1, k2, q0, q1]) rfl ?_
  exact set_none _ _ _ (nxt hBw hB2 (Nat.le_refl _))
set_option maxHeartbeats 1000000 in
theorem rmapply_word (A : Option Addr) (c : Nat) (l : List Int) (kd a b : Int) (w : World) (hA : Ints w A l) (hlen : l.length ≤ 1000) (hr : krise l) (h : kd < 7) :
    Calls Tryz.prog 27 #[stV 3 0 A l.length c, .int .i64 kd, .int .i64 a, .int .i64 b] w (SetPost 0 [] 0 0 6 w) := by
  have hB0 := boxed3_below w 3 0 A l.length c
  have H := rcheck_any 3 0 A c l _ (hA.below hB0) hlen
  have hc : checkE 3 0 l = 0 := by
    exact check_map hr
  rw [hc] at H
  have d1 : decide (kd < 7) = true := decide_eq_true h
  have HZ := Lib.hid (boxed3_then w 3 0 A l.length c)
  have HR := Lib.hid (boxed3_ret w 3 0 A l.length c)
  have hsz := boxed3_size w 3 0 A l.length c
  clear hc hA
  unfold stV at *
  go_enter Tryz.func27, Tryz.ntmps27
  go_wp2_with fail
  refine H.mono ?_
  rintro e w1 ⟨rfl, hB1⟩
  generalize boxed3 w 3 0 A l.length c = W0 at *
  have HZ1 := Lib.hid (HZ.out.below hB1 (by omega))
  have HR1 := Lib.hid (HR.out.below hB1 (by omega))
  have z0 := HZ1.out.c (j := 0) rfl
  have z1 := HZ1.out.c (j := 1) rfl
  have z2 := HZ1.out.c (j := 2) rfl
  have r0 := HR1.out.c (j := 0) rfl
  have r1 := HR1.out.c (j := 1) rfl
  have y0 := HZ1.out.frozen 0
  have y1 := HZ1.out.frozen 1
  have y2 := HZ1.out.frozen 2
  have x0 := HR1.out.frozen 0
  have x1 := HR1.out.frozen 1
  have hBw := nxt hB0 hB1 (by omega)
  clear hsz
  go_wp2
  obtain ⟨HZ2, HR2, hB2⟩ := filled_holds (m := w.heap.size) HZ1.out HR1.out (by omega) 0 0 (.slice none 0 0) 0 0
  have k0 := HZ2.c (j := 0) rfl
  have k1 := HZ2.c (j := 1) rfl
  have k2 := HZ2.c (j := 2) rfl
  have q0 := HR2.c (j := 0) rfl
  have q1 := HR2.c (j := 1) rfl
  change bodyPost _ _ _ _ _ (filled w1 (w.heap.size + 1) 0 0 (.slice none 0 0) 0 0)
  generalize filled w1 (w.heap.size + 1) 0 0 (.slice none 0 0) 0 0 = W2 at *
  refine bodyPost_ret (v := ansV 0 0 0 0 6) (by simp [results, Tryz.f27, go_sem, ansV, stV, retV, k0, k1, k2, q0, q1]) rfl ?_
  exact set_none _ _ _ (nxt hBw hB2 (Nat.le_refl _))
set_option maxHeartbeats 1000000 in
theorem rmapply_word2 (A : Option Addr) (c : Nat) (l : List Int) (kd a b : Int) (w : World) (hA : Ints w A l) (hlen : l.length ≤ 1000) (hr : krise l) (h : 9 < kd) :
    Calls Tryz.prog 27 #[stV 3 0 A l.length c, .int .i64 kd, .int .i64 a, .int .i64 b] w (SetPost 0 [] 0 0 6 w) := by
  have hB0 := boxed3_below w 3 0 A l.length c
  have H := rcheck_any 3 0 A c l _ (hA.below hB0) hlen
  have hc : checkE 3 0 l = 0 := by
    exact check_map hr
  rw [hc] at H
  have d1 : decide (kd < 7) = false := decide_eq_false (by omega)
  have d2 : decide (9 < kd) = true := decide_eq_true h
  have d3 : decide (kd > 9) = true := decide_eq_true h
  have HZ := Lib.hid (boxed3_then w 3 0 A l.length c)
  have HR := Lib.hid (boxed3_ret w 3 0 A l.length c)
  have hsz := boxed3_size w 3 0 A l.length c
  clear hc hA
  unfold stV at *
  go_enter Tryz.func27, Tryz.ntmps27
  go_wp2_with fail
  refine H.mono ?_
  rintro e w1 ⟨rfl, hB1⟩
  generalize boxed3 w 3 0 A l.length c = W0 at *
  have HZ1 := Lib.hid (HZ.out.below hB1 (by omega))
  have HR1 := Lib.hid (HR.out.below hB1 (by omega))
  have z0 := HZ1.out.c (j := 0) rfl
  have z1 := HZ1.out.c (j := 1) rfl
  have z2 := HZ1.out.c (j := 2) rfl
  have r0 := HR1.out.c (j := 0) rfl
  have r1 := HR1.out.c (j := 1) rfl
  have y0 := HZ1.out.frozen 0
  have y1 := HZ1.out.frozen 1
  have y2 := HZ1.out.frozen 2
  have x0 := HR1.out.frozen 0
  have x1 := HR1.out.frozen 1
  have hBw := nxt hB0 hB1 (by omega)
  clear hsz
  go_wp2
  obtain ⟨HZ2, HR2, hB2⟩ := filled_holds (m := w.heap.size) HZ1.out HR1.out (by omega) 0 0 (.slice none 0 0) 0 0
  have k0 := HZ2.c (j := 0) rfl
  have k1 := HZ2.c (j := 1) rfl
  have k2 := HZ2.c (j := 2) rfl
  have q0 := HR2.c (j := 0) rfl
  have q1 := HR2.c (j := 1) rfl
  change bodyPost _ _ _ _ _ (filled w1 (w.heap.size + 1) 0 0 (.slice none 0 0) 0 0)
  generalize filled w1 (w.heap.size + 1) 0 0 (.slice none 0 0) 0 0 = W2 at *
  refine bodyPost_ret (v := ansV 0 0 0 0 6) (by simp [results, Tryz.f27, go_sem, ansV, stV, retV, k0, k1, k2, q0, q1]) rfl ?_
  exact set_none _ _ _ (nxt hBw hB2 (Nat.le_refl _))
set_option maxHeartbeats 1000000 in
theorem rmapply_arg (A : Option Addr) (c : Nat) (l : List Int) (kd a b : Int) (w : World) (hA : Ints w A l) (hlen : l.length ≤ 1000) (hr : krise l) (h1 : 8 ≤ kd) (h2 : kd ≤ 9) (h : b ≠ 0) :
    Calls Tryz.prog 27 #[stV 3 0 A l.length c, .int .i64 kd, .int .i64 a, .int .i64 b] w (SetPost 0 [] 0 0 2 w) := by
  have hB0 := boxed3_below w 3 0 A l.length c
  have H := rcheck_any 3 0 A c l _ (hA.below hB0) hlen
  have hc : checkE 3 0 l = 0 := by
    exact check_map hr
  rw [hc] at H
  have d1 : decide (kd < 7) = false := decide_eq_false (by omega)
  have d2 : decide (9 < kd) = false := decide_eq_false (by omega)
  have d4 : (kd != 7) = true := by rw [bne_iff_ne]; omega
  have d3 : (b != 0) = true := by rw [bne_iff_ne]; exact h
  have HZ := Lib.hid (boxed3_then w 3 0 A l.length c)
  have HR := Lib.hid (boxed3_ret w 3 0 A l.length c)
  have hsz := boxed3_size w 3 0 A l.length c
  clear hc hA
  unfold stV at *
  go_enter Tryz.func27, Tryz.ntmps27
  go_wp2_with fail
  refine H.mono ?_
  rintro e w1 ⟨rfl, hB1⟩
  generalize boxed3 w 3 0 A l.length c = W0 at *
  have HZ1 := Lib.hid (HZ.out.below hB1 (by omega))
  have HR1 := Lib.hid (HR.out.below hB1 (by omega))
  have z0 := HZ1.out.c (j := 0) rfl
  have z1 := HZ1.out.c (j := 1) rfl
  have z2 := HZ1.out.c (j := 2) rfl
  have r0 := HR1.out.c (j := 0) rfl
  have r1 := HR1.out.c (j := 1) rfl
  have y0 := HZ1.out.frozen 0
  have y1 := HZ1.out.frozen 1
  have y2 := HZ1.out.frozen 2
  have x0 := HR1.out.frozen 0
  have x1 := HR1.out.frozen 1
  have hBw := nxt hB0 hB1 (by omega)
  clear hsz
  go_wp2
  obtain ⟨HZ2, HR2, hB2⟩ := filled_holds (m := w.heap.size) HZ1.out HR1.out (by omega) 0 0 (.slice none 0 0) 0 0
  have k0 := HZ2.c (j := 0) rfl
  have k1 := HZ2.c (j := 1) rfl
  have k2 := HZ2.c (j := 2) rfl
  have q0 := HR2.c (j := 0) rfl
  have q1 := HR2.c (j := 1) rfl
  change bodyPost _ _ _ _ _ (filled w1 (w.heap.size + 1) 0 0 (.slice none 0 0) 0 0)
  generalize filled w1 (w.heap.size + 1) 0 0 (.slice none 0 0) 0 0 = W2 at *
  refine bodyPost_ret (v := ansV 0 0 0 0 2) (by simp [results, Tryz.f27, go_sem, ansV, stV, retV, k0, k1, k2, q0, q1]) rfl ?_
  exact set_none _ _ _ (nxt hBw hB2 (Nat.le_refl _))
theorem set3_plain {W : World} {B b : Nat} {t : TypeId} {cs : Array Value} {u0 u1 u2 : Value} (h : Holds W B t cs) (hne : B ≠ b) : Holds (((W.setCell ⟨b, 0, none⟩ u0).setCell ⟨b, 1, none⟩ u1).setCell ⟨b, 2, none⟩ u2) B t cs :=
  set_other (set_other (set_other h _ _ hne) _ _ hne) _ _ hne
theorem set5_plain {W : World} {B b d : Nat} {t : TypeId} {cs : Array Value} {u0 u1 u2 u3 u4 : Value} (h : Holds W B t cs) (hne : B ≠ b) (hnd : B ≠ d) : Holds (((((W.setCell ⟨b, 0, none⟩ u0).setCell ⟨b, 1, none⟩ u1).setCell ⟨b, 2, none⟩ u2).setCell ⟨d, 0, none⟩ u3).setCell ⟨d, 1, none⟩ u4) B t cs :=
  set_other (set_other (set_other (set_other (set_other h _ _ hne) _ _ hne) _ _ hne) _ _ hnd) _ _ hnd

set_option maxHeartbeats 2000000 in
theorem rmapply_put (A : Option Addr) (c : Nat) (l : List Int) (x v : Int) (w : World) (hA : Ints w A l) (hlen : l.length ≤ 800) (hr : krise l) :
    Calls Tryz.prog 27 #[stV 3 0 A l.length c, .int .i64 7, .int .i64 x, .int .i64 v] w (SetPost 3 (setM l x v) (hadK l x) (kval l x) 0 w) := by
  have hB0 := boxed3_below w 3 0 A l.length c
  have HC := rcheck_any 3 0 A c l _ (hA.below hB0) (by omega)
  rw [check_map hr] at HC
  have HAD := fun W (h : Below w.heap.size w W) => rhad_any A c l x W (hA.below h) (by omega) hr
  have HMK := fun W (h : Below w.heap.size w W) => mrset_any A c l x v W (hA.below h) (by omega) (by rw [rdrop_eq hr]; have := drop_len_le l x; omega)
  rw [rset_eq hr] at HMK
  unfold RowPost at HMK
  have HA := Lib.hid hA
  have HW := Lib.hid (boxed3_state w 3 0 A l.length c)
  have HZ := Lib.hid (boxed3_then w 3 0 A l.length c)
  have HR := Lib.hid (boxed3_ret w 3 0 A l.length c)
  have hsz := boxed3_size w 3 0 A l.length c
  clear hA hr
  unfold stV retV at *
  generalize hadK l x = hk at *
  generalize kval l x = hv at *
  go_enter Tryz.func27, Tryz.ntmps27
  go_wp2_with fail
  refine HC.mono ?_
  rintro e w1 ⟨rfl, hB1⟩
  generalize boxed3 w 3 0 A l.length c = W0 at *
  have HW1 := Lib.hid (HW.out.below hB1 (by omega))
  have HZ1 := Lib.hid (HZ.out.below hB1 (by omega))
  have HR1 := Lib.hid (HR.out.below hB1 (by omega))
  have hBw := nxt hB0 hB1 (by omega)
  have hlt1 := HR1.out.lt
  have s2 := HW1.out.c (j := 2) rfl
  have HROW := Lib.hid (World.ownsRow_lit (base := w1.heap.size) (e := 3) (size := 1) w1 #[] 0 (Nat.le_refl _) (Nat.zero_le _) rfl)
  have HA2 := Lib.hid ((HA.out.below hBw).below (alloc1 w1 (.cells #[] 3)))
  have hs2a : w1.heap.size ≤ (w1.alloc (.cells #[] 3)).heap.size := by simp
  have c2x : (w1.alloc (.cells #[] 3)).cell? ⟨w.heap.size, 2, none⟩ = some (.slice A l.length c) := (HW1.out.alloc _).c (j := 2) rfl
  clear hsz hB0 hB1
  go_wp2_with (at_builtin; refine wpList_app _ rfl _ _ 22 rfl w1.heap.size Tryz.underlying22 _ _ _ rfl HROW.out A l.length c l rfl rfl HA2.out (by omega) (by omega) hs2a ?_; intro v3 w3 hown3 hg3 hn3; obtain ⟨g3, c3, rfl⟩ := form4 hown3 hn3; rw [Nat.zero_add, List.nil_append] at hown3; have hB3 : Below w1.heap.size w1 w3 := (alloc1 w1 _).trans (grown_below hg3 HROW.out hs2a); have HO3 := Lib.hid hown3; have u2 : (w3.alloc (.cells #[.int .i64 3, .int .i64 0, .slice (some ⟨g3, 0, none⟩) l.length c3] 24)).cell? ⟨w.heap.size, 2, none⟩ = some (.slice A l.length c) := ((HW1.out.below hB3 (by omega)).alloc _).c (j := 2) rfl; clear hg3 hn3 c2x s2 hown3)
  have hs3 := hB3.size
  have hBw3 := nxt hBw hB3 hBw.size
  have hB4 := nxt hBw3 (alloc1 w3 (.cells #[.int .i64 3, .int .i64 0, .slice (some ⟨g3, 0, none⟩) l.length c3] 24)) hBw3.size
  have HZ4 := Lib.hid ((HZ1.out.below hB3 (by omega)).alloc (.cells #[.int .i64 3, .int .i64 0, .slice (some ⟨g3, 0, none⟩) l.length c3] 24))
  have HR4 := Lib.hid ((HR1.out.below hB3 (by omega)).alloc (.cells #[.int .i64 3, .int .i64 0, .slice (some ⟨g3, 0, none⟩) l.length c3] 24))
  have HW4 := Lib.hid ((HW1.out.below hB3 (by omega)).alloc (.cells #[.int .i64 3, .int .i64 0, .slice (some ⟨g3, 0, none⟩) l.length c3] 24))
  have HO4 := Lib.hid (Holds.new w3 24 #[.int .i64 3, .int .i64 0, .slice (some ⟨g3, 0, none⟩) l.length c3])
  have HV4 := Lib.hid (row_below HO3.out (alloc1 w3 (.cells #[.int .i64 3, .int .i64 0, .slice (some ⟨g3, 0, none⟩) l.length c3] 24)))
  have hs4 : w3.heap.size < (w3.alloc (.cells #[.int .i64 3, .int .i64 0, .slice (some ⟨g3, 0, none⟩) l.length c3] 24)).heap.size := by simp
  clear HROW HA2
  generalize w3.alloc (.cells #[.int .i64 3, .int .i64 0, .slice (some ⟨g3, 0, none⟩) l.length c3] 24) = W4 at *
  refine (HMK W4 hB4).mono ?_
  rintro e w5 ⟨B5, d5, rfl, ho5, hB5⟩
  have HO5 := Lib.hid (HO4.out.below hB5 hs4)
  have HZ5 := Lib.hid (HZ4.out.below hB5 HZ4.out.lt)
  have HR5 := Lib.hid (HR4.out.below hB5 HR4.out.lt)
  have HW5 := Lib.hid (HW4.out.below hB5 HW4.out.lt)
  have hBw5 := nxt hB4 hB5 hB4.size
  have o2 := HO5.out.c (j := 2) rfl
  have p2 := HO5.out.frozen 2
  clear u2
  go_wp2_with fail
  have HO6 := Lib.hid (HO5.out.set 2 (.slice B5 (setM l x v).length d5))
  have hO6 := (Only.of (B := w3.heap.size) (Below.refl w5.heap.size w5) (Nat.le_refl _)).set 2 (.slice B5 (setM l x v).length d5)
  have HZ6 := Lib.hid (HZ5.out.of (hO6.block _ HZ5.out.lt (by omega)))
  have HR6 := Lib.hid (HR5.out.of (hO6.block _ HR5.out.lt (by omega)))
  have HW6 := Lib.hid (HW5.out.of (hO6.block _ HW5.out.lt (by omega)))
  have HV6 := Lib.hid (row_mid (W' := w5.setCell ⟨w3.heap.size, 2, none⟩ (.slice B5 (setM l x v).length d5)) ho5 (fun B hB hl => hO6.block B hl (by omega)))
  have hBw6 := nxt hBw5 (hO6.below (lo := w.heap.size) (by omega) hBw5.size) (Nat.le_refl _)
  have hs6 := hO6.size
  have hs5 := hB5.size
  clear o2 p2 hO6 ho5
  generalize w5.setCell ⟨w3.heap.size, 2, none⟩ (.slice B5 (setM l x v).length d5) = W6 at *
  have hlo6 : w.heap.size + 1 + 1 < W4.heap.size := HR4.out.lt
  refine wp_region_noPanic ?_
  have hBo : w3.heap.size < W6.heap.size := HO6.out.lt
  refine wp_region_picked [(0, true), (1, true), (2, true), (3, true), (4, false), (5, false), (6, false), (7, true)] (fun W' => Holds W' w3.heap.size 24 #[.int .i64 3, .int .i64 0, .slice B5 (setM l x v).length d5] ∧ Holds W' w.heap.size 24 #[.int .i64 3, .int .i64 0, .slice A l.length c]) (by kernel_rfl) (by kernel_rfl) (fun _ _ _ _ _ h => h) ⟨HO6.out, HW6.out⟩ ?_
  iterate 4
    refine Picked.take ?_ (by rfl) (by rfl) ?_ ?_
    rotate_left
    · rintro w' ⟨h1, h2⟩
      have q0 := h1.c (j := 0) rfl
      have q1 := h1.c (j := 1) rfl
      have q2 := h1.c (j := 2) rfl
      have d2 := h2.c (j := 2) rfl
      go_simp
      try with_reducible rfl
    simp only [Act.put, List.getElem_toArray, List.getElem_cons_zero, List.getElem_cons_succ, List.setIfInBounds_toArray, List.set_cons_zero, List.set_cons_succ]
  refine Picked.call 47 #[.slice A l.length c, .int .i64 x] (by rfl) (by rfl) (by go_simp) ?_
  refine (HAD W6.drew hBw6.drew).mono ?_
  rintro e w7 ⟨rfl, hB7⟩
  have hB7' : Below W6.heap.size W6 w7 := ((Below.refl _ W6).drew).trans hB7
  have HO7 := HO6.out.below hB7' HO6.out.lt
  have HW7 := HW6.out.below hB7' HW6.out.lt
  refine ⟨_, rfl, ⟨HO7, HW7⟩, ?_⟩
  simp only [Act.put, List.getElem_toArray, List.getElem_cons_zero, List.getElem_cons_succ, List.setIfInBounds_toArray, List.set_cons_zero, List.set_cons_succ]
  have HZ7 := Lib.hid (HZ6.out.below hB7' HZ6.out.lt)
  have HR7 := Lib.hid (HR6.out.below hB7' HR6.out.lt)
  have HV7 := Lib.hid (row_below HV6.out hB7')
  have hBw7 := nxt hBw6 hB7' hBw6.size
  have z0 := HZ7.out.c (j := 0) rfl
  have z1 := HZ7.out.c (j := 1) rfl
  have z2 := HZ7.out.c (j := 2) rfl
  have r0 := HR7.out.c (j := 0) rfl
  have r1 := HR7.out.c (j := 1) rfl
  have a0 := HZ7.out.frozen 0
  have a1 := HZ7.out.frozen 1
  have a2 := HZ7.out.frozen 2
  have b0 := HR7.out.frozen 0
  have b1 := HR7.out.frozen 1
  refine ⟨_, by rfl, by rfl, ?_⟩
  go_simp
  refine ⟨⟨set3_plain HO7 (by omega), set3_plain HW7 (by omega)⟩, ?_⟩
  refine ⟨_, by rfl, by rfl, ?_⟩
  go_simp
  refine ⟨⟨set5_plain HO7 (by omega) (by omega), set5_plain HW7 (by omega) (by omega)⟩, ?_⟩
  refine Picked.take (.int .i64 0) (by rfl) (by rfl) (fun w' _ => by go_simp) ?_
  simp only [Act.put, List.getElem_toArray, List.getElem_cons_zero, List.getElem_cons_succ, List.setIfInBounds_toArray, List.set_cons_zero, List.set_cons_succ]
  refine NoPanic.normal ?_
  obtain ⟨HZ8, HR8, hB8⟩ := filled_holds (m := w.heap.size) HZ7.out HR7.out (by omega) 3 0 (.slice B5 (setM l x v).length d5) hk hv
  have HV8 := row_mid (W' := filled w7 (w.heap.size + 1) 3 0 (.slice B5 (setM l x v).length d5) hk hv) HV7.out (fun B hB _ => filled_far _ _ _ _ _ _ _ B (by omega))
  have k0 := HZ8.c (j := 0) rfl
  have k1 := HZ8.c (j := 1) rfl
  have k2 := HZ8.c (j := 2) rfl
  have q0 := HR8.c (j := 0) rfl
  have q1 := HR8.c (j := 1) rfl
  change Exit.then _ _ _ _ (filled w7 (w.heap.size + 1) 3 0 (.slice B5 (setM l x v).length d5) hk hv)
  generalize filled w7 (w.heap.size + 1) 3 0 (.slice B5 (setM l x v).length d5) hk hv = W8 at *
  go_wp2
  refine bodyPost_ret (v := .tuple #[stV 3 0 B5 (setM l x v).length d5, retV hk hv, .int .i64 0]) (by simp [results, Tryz.f27, go_sem, stV, retV, k0, k1, k2, q0, q1]) rfl ?_
  exact ⟨B5, d5, rfl, row_more HV8 (by omega), nxt hBw7 hB8 (Nat.le_refl _)⟩
set_option maxHeartbeats 2000000 in
theorem rmapply_del (A : Option Addr) (c : Nat) (l : List Int) (x : Int) (w : World) (hA : Ints w A l) (hlen : l.length ≤ 800) (hr : krise l) :
    Calls Tryz.prog 27 #[stV 3 0 A l.length c, .int .i64 9, .int .i64 x, .int .i64 0] w (SetPost 3 (dropM l x) (hadK l x) (kval l x) 0 w) := by
  have hB0 := boxed3_below w 3 0 A l.length c
  have HC := rcheck_any 3 0 A c l _ (hA.below hB0) (by omega)
  rw [check_map hr] at HC
  have HAD := fun W (h : Below w.heap.size w W) => rhad_any A c l x W (hA.below h) (by omega) hr
  have HMK := fun W (h : Below w.heap.size w W) => mrdrop_any A c l x W (hA.below h) (by omega)
  rw [rdrop_eq hr] at HMK
  unfold RowPost at HMK
  have HA := Lib.hid hA
  have HW := Lib.hid (boxed3_state w 3 0 A l.length c)
  have HZ := Lib.hid (boxed3_then w 3 0 A l.length c)
  have HR := Lib.hid (boxed3_ret w 3 0 A l.length c)
  have hsz := boxed3_size w 3 0 A l.length c
  clear hA hr
  unfold stV retV at *
  generalize hadK l x = hk at *
  generalize kval l x = hv at *
  go_enter Tryz.func27, Tryz.ntmps27
  go_wp2_with fail
  refine HC.mono ?_
  rintro e w1 ⟨rfl, hB1⟩
  generalize boxed3 w 3 0 A l.length c = W0 at *
  have HW1 := Lib.hid (HW.out.below hB1 (by omega))
  have HZ1 := Lib.hid (HZ.out.below hB1 (by omega))
  have HR1 := Lib.hid (HR.out.below hB1 (by omega))
  have hBw := nxt hB0 hB1 (by omega)
  have hlt1 := HR1.out.lt
  have s2 := HW1.out.c (j := 2) rfl
  have HROW := Lib.hid (World.ownsRow_lit (base := w1.heap.size) (e := 3) (size := 1) w1 #[] 0 (Nat.le_refl _) (Nat.zero_le _) rfl)
  have HA2 := Lib.hid ((HA.out.below hBw).below (alloc1 w1 (.cells #[] 3)))
  have hs2a : w1.heap.size ≤ (w1.alloc (.cells #[] 3)).heap.size := by simp
  have c2x : (w1.alloc (.cells #[] 3)).cell? ⟨w.heap.size, 2, none⟩ = some (.slice A l.length c) := (HW1.out.alloc _).c (j := 2) rfl
  clear hsz hB0 hB1
  go_wp2_with (at_builtin; refine wpList_app _ rfl _ _ 22 rfl w1.heap.size Tryz.underlying22 _ _ _ rfl HROW.out A l.length c l rfl rfl HA2.out (by omega) (by omega) hs2a ?_; intro v3 w3 hown3 hg3 hn3; obtain ⟨g3, c3, rfl⟩ := form4 hown3 hn3; rw [Nat.zero_add, List.nil_append] at hown3; have hB3 : Below w1.heap.size w1 w3 := (alloc1 w1 _).trans (grown_below hg3 HROW.out hs2a); have HO3 := Lib.hid hown3; have u2 : (w3.alloc (.cells #[.int .i64 3, .int .i64 0, .slice (some ⟨g3, 0, none⟩) l.length c3] 24)).cell? ⟨w.heap.size, 2, none⟩ = some (.slice A l.length c) := ((HW1.out.below hB3 (by omega)).alloc _).c (j := 2) rfl; clear hg3 hn3 c2x s2 hown3)
  have hs3 := hB3.size
  have hBw3 := nxt hBw hB3 hBw.size
  have hB4 := nxt hBw3 (alloc1 w3 (.cells #[.int .i64 3, .int .i64 0, .slice (some ⟨g3, 0, none⟩) l.length c3] 24)) hBw3.size
  have HZ4 := Lib.hid ((HZ1.out.below hB3 (by omega)).alloc (.cells #[.int .i64 3, .int .i64 0, .slice (some ⟨g3, 0, none⟩) l.length c3] 24))
  have HR4 := Lib.hid ((HR1.out.below hB3 (by omega)).alloc (.cells #[.int .i64 3, .int .i64 0, .slice (some ⟨g3, 0, none⟩) l.length c3] 24))
  have HW4 := Lib.hid ((HW1.out.below hB3 (by omega)).alloc (.cells #[.int .i64 3, .int .i64 0, .slice (some ⟨g3, 0, none⟩) l.length c3] 24))
  have HO4 := Lib.hid (Holds.new w3 24 #[.int .i64 3, .int .i64 0, .slice (some ⟨g3, 0, none⟩) l.length c3])
  have HV4 := Lib.hid (row_below HO3.out (alloc1 w3 (.cells #[.int .i64 3, .int .i64 0, .slice (some ⟨g3, 0, none⟩) l.length c3] 24)))
  have hs4 : w3.heap.size < (w3.alloc (.cells #[.int .i64 3, .int .i64 0, .slice (some ⟨g3, 0, none⟩) l.length c3] 24)).heap.size := by simp
  clear HROW HA2
  generalize w3.alloc (.cells #[.int .i64 3, .int .i64 0, .slice (some ⟨g3, 0, none⟩) l.length c3] 24) = W4 at *
  refine (HMK W4 hB4).mono ?_
  rintro e w5 ⟨B5, d5, rfl, ho5, hB5⟩
  have HO5 := Lib.hid (HO4.out.below hB5 hs4)
  have HZ5 := Lib.hid (HZ4.out.below hB5 HZ4.out.lt)
  have HR5 := Lib.hid (HR4.out.below hB5 HR4.out.lt)
  have HW5 := Lib.hid (HW4.out.below hB5 HW4.out.lt)
  have hBw5 := nxt hB4 hB5 hB4.size
  have o2 := HO5.out.c (j := 2) rfl
  have p2 := HO5.out.frozen 2
  clear u2
  go_wp2_with fail
  have HO6 := Lib.hid (HO5.out.set 2 (.slice B5 (dropM l x).length d5))
  have hO6 := (Only.of (B := w3.heap.size) (Below.refl w5.heap.size w5) (Nat.le_refl _)).set 2 (.slice B5 (dropM l x).length d5)
  have HZ6 := Lib.hid (HZ5.out.of (hO6.block _ HZ5.out.lt (by omega)))
  have HR6 := Lib.hid (HR5.out.of (hO6.block _ HR5.out.lt (by omega)))
  have HW6 := Lib.hid (HW5.out.of (hO6.block _ HW5.out.lt (by omega)))
  have HV6 := Lib.hid (row_mid (W' := w5.setCell ⟨w3.heap.size, 2, none⟩ (.slice B5 (dropM l x).length d5)) ho5 (fun B hB hl => hO6.block B hl (by omega)))
  have hBw6 := nxt hBw5 (hO6.below (lo := w.heap.size) (by omega) hBw5.size) (Nat.le_refl _)
  have hs6 := hO6.size
  have hs5 := hB5.size
  clear o2 p2 hO6 ho5
  generalize w5.setCell ⟨w3.heap.size, 2, none⟩ (.slice B5 (dropM l x).length d5) = W6 at *
  have hlo6 : w.heap.size + 1 + 1 < W4.heap.size := HR4.out.lt
  refine wp_region_noPanic ?_
  have hBo : w3.heap.size < W6.heap.size := HO6.out.lt
  refine wp_region_picked [(0, true), (1, true), (2, true), (3, true), (4, false), (5, false), (6, false), (7, true)] (fun W' => Holds W' w3.heap.size 24 #[.int .i64 3, .int .i64 0, .slice B5 (dropM l x).length d5] ∧ Holds W' w.heap.size 24 #[.int .i64 3, .int .i64 0, .slice A l.length c]) (by kernel_rfl) (by kernel_rfl) (fun _ _ _ _ _ h => h) ⟨HO6.out, HW6.out⟩ ?_
  iterate 4
    refine Picked.take ?_ (by rfl) (by rfl) ?_ ?_
    rotate_left
    · rintro w' ⟨h1, h2⟩
      have q0 := h1.c (j := 0) rfl
      have q1 := h1.c (j := 1) rfl
      have q2 := h1.c (j := 2) rfl
      have d2 := h2.c (j := 2) rfl
      go_simp
      try with_reducible rfl
    simp only [Act.put, List.getElem_toArray, List.getElem_cons_zero, List.getElem_cons_succ, List.setIfInBounds_toArray, List.set_cons_zero, List.set_cons_succ]
  refine Picked.call 47 #[.slice A l.length c, .int .i64 x] (by rfl) (by rfl) (by go_simp) ?_
  refine (HAD W6.drew hBw6.drew).mono ?_
  rintro e w7 ⟨rfl, hB7⟩
  have hB7' : Below W6.heap.size W6 w7 := ((Below.refl _ W6).drew).trans hB7
  have HO7 := HO6.out.below hB7' HO6.out.lt
  have HW7 := HW6.out.below hB7' HW6.out.lt
  refine ⟨_, rfl, ⟨HO7, HW7⟩, ?_⟩
  simp only [Act.put, List.getElem_toArray, List.getElem_cons_zero, List.getElem_cons_succ, List.setIfInBounds_toArray, List.set_cons_zero, List.set_cons_succ]
  have HZ7 := Lib.hid (HZ6.out.below hB7' HZ6.out.lt)
  have HR7 := Lib.hid (HR6.out.below hB7' HR6.out.lt)
  have HV7 := Lib.hid (row_below HV6.out hB7')
  have hBw7 := nxt hBw6 hB7' hBw6.size
  have z0 := HZ7.out.c (j := 0) rfl
  have z1 := HZ7.out.c (j := 1) rfl
  have z2 := HZ7.out.c (j := 2) rfl
  have r0 := HR7.out.c (j := 0) rfl
  have r1 := HR7.out.c (j := 1) rfl
  have a0 := HZ7.out.frozen 0
  have a1 := HZ7.out.frozen 1
  have a2 := HZ7.out.frozen 2
  have b0 := HR7.out.frozen 0
  have b1 := HR7.out.frozen 1
  refine ⟨_, by rfl, by rfl, ?_⟩
  go_simp
  refine ⟨⟨set3_plain HO7 (by omega), set3_plain HW7 (by omega)⟩, ?_⟩
  refine ⟨_, by rfl, by rfl, ?_⟩
  go_simp
  refine ⟨⟨set5_plain HO7 (by omega) (by omega), set5_plain HW7 (by omega) (by omega)⟩, ?_⟩
  refine Picked.take (.int .i64 0) (by rfl) (by rfl) (fun w' _ => by go_simp) ?_
  simp only [Act.put, List.getElem_toArray, List.getElem_cons_zero, List.getElem_cons_succ, List.setIfInBounds_toArray, List.set_cons_zero, List.set_cons_succ]
  refine NoPanic.normal ?_
  obtain ⟨HZ8, HR8, hB8⟩ := filled_holds (m := w.heap.size) HZ7.out HR7.out (by omega) 3 0 (.slice B5 (dropM l x).length d5) hk hv
  have HV8 := row_mid (W' := filled w7 (w.heap.size + 1) 3 0 (.slice B5 (dropM l x).length d5) hk hv) HV7.out (fun B hB _ => filled_far _ _ _ _ _ _ _ B (by omega))
  have k0 := HZ8.c (j := 0) rfl
  have k1 := HZ8.c (j := 1) rfl
  have k2 := HZ8.c (j := 2) rfl
  have q0 := HR8.c (j := 0) rfl
  have q1 := HR8.c (j := 1) rfl
  change Exit.then _ _ _ _ (filled w7 (w.heap.size + 1) 3 0 (.slice B5 (dropM l x).length d5) hk hv)
  generalize filled w7 (w.heap.size + 1) 3 0 (.slice B5 (dropM l x).length d5) hk hv = W8 at *
  go_wp2
  refine bodyPost_ret (v := .tuple #[stV 3 0 B5 (dropM l x).length d5, retV hk hv, .int .i64 0]) (by simp [results, Tryz.f27, go_sem, stV, retV, k0, k1, k2, q0, q1]) rfl ?_
  exact ⟨B5, d5, rfl, row_more HV8 (by omega), nxt hBw7 hB8 (Nat.le_refl _)⟩
set_option maxHeartbeats 2000000 in
theorem rmapply_get (A : Option Addr) (c : Nat) (l : List Int) (x : Int) (w : World) (hA : Ints w A l) (hlen : l.length ≤ 800) (hr : krise l) :
    Calls Tryz.prog 27 #[stV 3 0 A l.length c, .int .i64 8, .int .i64 x, .int .i64 0] w (SetPost 3 l (hadK l x) (kval l x) 0 w) := by
  have hB0 := boxed3_below w 3 0 A l.length c
  have HC := rcheck_any 3 0 A c l _ (hA.below hB0) (by omega)
  rw [check_map hr] at HC
  have HAD := fun W (h : Below w.heap.size w W) => rhad_any A c l x W (hA.below h) (by omega) hr
  have HA := Lib.hid hA
  have HW := Lib.hid (boxed3_state w 3 0 A l.length c)
  have HZ := Lib.hid (boxed3_then w 3 0 A l.length c)
  have HR := Lib.hid (boxed3_ret w 3 0 A l.length c)
  have hsz := boxed3_size w 3 0 A l.length c
  clear hA hr
  unfold stV retV at *
  generalize hadK l x = hk at *
  generalize kval l x = hv at *
  go_enter Tryz.func27, Tryz.ntmps27
  go_wp2_with fail
  refine HC.mono ?_
  rintro e w1 ⟨rfl, hB1⟩
  generalize boxed3 w 3 0 A l.length c = W0 at *
  have HW1 := Lib.hid (HW.out.below hB1 (by omega))
  have HZ1 := Lib.hid (HZ.out.below hB1 (by omega))
  have HR1 := Lib.hid (HR.out.below hB1 (by omega))
  have hBw := nxt hB0 hB1 (by omega)
  have hlt1 := HR1.out.lt
  have s2 := HW1.out.c (j := 2) rfl
  have HROW := Lib.hid (World.ownsRow_lit (base := w1.heap.size) (e := 3) (size := 1) w1 #[] 0 (Nat.le_refl _) (Nat.zero_le _) rfl)
  have HA2 := Lib.hid ((HA.out.below hBw).below (alloc1 w1 (.cells #[] 3)))
  have hs2a : w1.heap.size ≤ (w1.alloc (.cells #[] 3)).heap.size := by simp
  have c2x : (w1.alloc (.cells #[] 3)).cell? ⟨w.heap.size, 2, none⟩ = some (.slice A l.length c) := (HW1.out.alloc _).c (j := 2) rfl
  clear hsz hB0 hB1
  go_wp2_with (at_builtin; refine wpList_app _ rfl _ _ 22 rfl w1.heap.size Tryz.underlying22 _ _ _ rfl HROW.out A l.length c l rfl rfl HA2.out (by omega) (by omega) hs2a ?_; intro v3 w3 hown3 hg3 hn3; obtain ⟨g3, c3, rfl⟩ := form4 hown3 hn3; rw [Nat.zero_add, List.nil_append] at hown3; have hB3 : Below w1.heap.size w1 w3 := (alloc1 w1 _).trans (grown_below hg3 HROW.out hs2a); have HO3 := Lib.hid hown3; have u2 : (w3.alloc (.cells #[.int .i64 3, .int .i64 0, .slice (some ⟨g3, 0, none⟩) l.length c3] 24)).cell? ⟨w.heap.size, 2, none⟩ = some (.slice A l.length c) := ((HW1.out.below hB3 (by omega)).alloc _).c (j := 2) rfl; clear hg3 hn3 c2x s2 hown3)
  have hs3 := hB3.size
  have hBw3 := nxt hBw hB3 hBw.size
  have hB4 := nxt hBw3 (alloc1 w3 (.cells #[.int .i64 3, .int .i64 0, .slice (some ⟨g3, 0, none⟩) l.length c3] 24)) hBw3.size
  have HZ4 := Lib.hid ((HZ1.out.below hB3 (by omega)).alloc (.cells #[.int .i64 3, .int .i64 0, .slice (some ⟨g3, 0, none⟩) l.length c3] 24))
  have HR4 := Lib.hid ((HR1.out.below hB3 (by omega)).alloc (.cells #[.int .i64 3, .int .i64 0, .slice (some ⟨g3, 0, none⟩) l.length c3] 24))
  have HW4 := Lib.hid ((HW1.out.below hB3 (by omega)).alloc (.cells #[.int .i64 3, .int .i64 0, .slice (some ⟨g3, 0, none⟩) l.length c3] 24))
  have HO4 := Lib.hid (Holds.new w3 24 #[.int .i64 3, .int .i64 0, .slice (some ⟨g3, 0, none⟩) l.length c3])
  have HV4 := Lib.hid (row_below HO3.out (alloc1 w3 (.cells #[.int .i64 3, .int .i64 0, .slice (some ⟨g3, 0, none⟩) l.length c3] 24)))
  have hs4 : w3.heap.size < (w3.alloc (.cells #[.int .i64 3, .int .i64 0, .slice (some ⟨g3, 0, none⟩) l.length c3] 24)).heap.size := by simp
  clear HROW HA2
  generalize w3.alloc (.cells #[.int .i64 3, .int .i64 0, .slice (some ⟨g3, 0, none⟩) l.length c3] 24) = W4 at *
  clear u2
  refine wp_region_noPanic ?_
  have hBo : w3.heap.size < W4.heap.size := HO4.out.lt
  refine wp_region_picked [(0, true), (1, true), (2, true), (3, true), (4, false), (5, false), (6, false), (7, true)] (fun W' => Holds W' w3.heap.size 24 #[.int .i64 3, .int .i64 0, .slice (some ⟨g3, 0, none⟩) l.length c3] ∧ Holds W' w.heap.size 24 #[.int .i64 3, .int .i64 0, .slice A l.length c]) (by kernel_rfl) (by kernel_rfl) (fun _ _ _ _ _ h => h) ⟨HO4.out, HW4.out⟩ ?_
  iterate 4
    refine Picked.take ?_ (by rfl) (by rfl) ?_ ?_
    rotate_left
    · rintro w' ⟨h1, h2⟩
      have q0 := h1.c (j := 0) rfl
      have q1 := h1.c (j := 1) rfl
      have q2 := h1.c (j := 2) rfl
      have d2 := h2.c (j := 2) rfl
      go_simp
      try with_reducible rfl
    simp only [Act.put, List.getElem_toArray, List.getElem_cons_zero, List.getElem_cons_succ, List.setIfInBounds_toArray, List.set_cons_zero, List.set_cons_succ]
  refine Picked.call 47 #[.slice A l.length c, .int .i64 x] (by rfl) (by rfl) (by go_simp) ?_
  refine (HAD W4.drew hB4.drew).mono ?_
  rintro e w7 ⟨rfl, hB7⟩
  have hB7' : Below W4.heap.size W4 w7 := ((Below.refl _ W4).drew).trans hB7
  have HO7 := HO4.out.below hB7' HO4.out.lt
  have HW7 := HW4.out.below hB7' HW4.out.lt
  refine ⟨_, rfl, ⟨HO7, HW7⟩, ?_⟩
  simp only [Act.put, List.getElem_toArray, List.getElem_cons_zero, List.getElem_cons_succ, List.setIfInBounds_toArray, List.set_cons_zero, List.set_cons_succ]
  have HZ7 := Lib.hid (HZ4.out.below hB7' HZ4.out.lt)
  have HR7 := Lib.hid (HR4.out.below hB7' HR4.out.lt)
  have HV7 := Lib.hid (row_below HV4.out hB7')
  have hBw7 := nxt hB4 hB7' hB4.size
  have z0 := HZ7.out.c (j := 0) rfl
  have z1 := HZ7.out.c (j := 1) rfl
  have z2 := HZ7.out.c (j := 2) rfl
  have r0 := HR7.out.c (j := 0) rfl
  have r1 := HR7.out.c (j := 1) rfl
  have a0 := HZ7.out.frozen 0
  have a1 := HZ7.out.frozen 1
  have a2 := HZ7.out.frozen 2
  have b0 := HR7.out.frozen 0
  have b1 := HR7.out.frozen 1
  refine ⟨_, by rfl, by rfl, ?_⟩
  go_simp
  refine ⟨⟨set3_plain HO7 (by omega), set3_plain HW7 (by omega)⟩, ?_⟩
  refine ⟨_, by rfl, by rfl, ?_⟩
  go_simp
  refine ⟨⟨set5_plain HO7 (by omega) (by omega), set5_plain HW7 (by omega) (by omega)⟩, ?_⟩
  refine Picked.take (.int .i64 0) (by rfl) (by rfl) (fun w' _ => by go_simp) ?_
  simp only [Act.put, List.getElem_toArray, List.getElem_cons_zero, List.getElem_cons_succ, List.setIfInBounds_toArray, List.set_cons_zero, List.set_cons_succ]
  refine NoPanic.normal ?_
  obtain ⟨HZ8, HR8, hB8⟩ := filled_holds (m := w.heap.size) HZ7.out HR7.out (by omega) 3 0 (.slice (some ⟨g3, 0, none⟩) l.length c3) hk hv
  have HV8 := row_mid (W' := filled w7 (w.heap.size + 1) 3 0 (.slice (some ⟨g3, 0, none⟩) l.length c3) hk hv) HV7.out (fun B hB _ => filled_far _ _ _ _ _ _ _ B (by omega))
  have k0 := HZ8.c (j := 0) rfl
  have k1 := HZ8.c (j := 1) rfl
  have k2 := HZ8.c (j := 2) rfl
  have q0 := HR8.c (j := 0) rfl
  have q1 := HR8.c (j := 1) rfl
  change Exit.then _ _ _ _ (filled w7 (w.heap.size + 1) 3 0 (.slice (some ⟨g3, 0, none⟩) l.length c3) hk hv)
  generalize filled w7 (w.heap.size + 1) 3 0 (.slice (some ⟨g3, 0, none⟩) l.length c3) hk hv = W8 at *
  go_wp2
  refine bodyPost_ret (v := .tuple #[stV 3 0 (some ⟨g3, 0, none⟩) l.length c3, retV hk hv, .int .i64 0]) (by simp [results, Tryz.f27, go_sem, stV, retV, k0, k1, k2, q0, q1]) rfl ?_
  exact ⟨some ⟨g3, 0, none⟩, c3, rfl, row_more HV8 (by omega), nxt hBw7 hB8 (Nat.le_refl _)⟩
end Go.Proofs.YtmclpganipfadaaGreatDoor
