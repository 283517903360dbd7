/- Plain lists of the layer token: nothing of the program. -/
import Derived.Test.YtmpglmepmdpjoaaOpBase
import Derived.RowKit
import Derived.IntWalk
import Derived.Below
namespace Go.Proofs.Ytmpglmepmdpjoaa
open Go.RowKit

/-- A list cut at a separator: each part with its place. -/
def cuts (sep : Int) : Nat → List Int → List (Nat × List Int)
  | o, [] => [(o, [])]
  | o, x :: r => if x = sep then (o, []) :: cuts sep (o + 1) r else
    match cuts sep (o + 1) r with
    | [] => []
    | (_, p) :: t => (o, x :: p) :: t

theorem cuts_head (sep : Int) : ∀ (l : List Int) (o : Nat), ∃ p t, cuts sep o l = (o, p) :: t
  | [], o => ⟨[], [], rfl⟩
  | x :: r, o => by
    unfold cuts
    split
    · exact ⟨_, _, rfl⟩
    · obtain ⟨p, t, h⟩ := cuts_head sep r (o + 1)
      rw [h]; exact ⟨_, _, rfl⟩

theorem cuts_cons_ne {sep x : Int} (h : x ≠ sep) (o : Nat) (r p : List Int) (t : List (Nat × List Int)) (e : cuts sep (o + 1) r = (o + 1, p) :: t) : cuts sep o (x :: r) = (o, x :: p) :: t := by
  rw [cuts, if_neg h, e]

theorem cuts_sep {sep : Int} : ∀ (p r : List Int) (o : Nat), sep ∉ p → cuts sep o (p ++ sep :: r) = (o, p) :: cuts sep (o + p.length + 1) r
  | [], r, o, _ => by simp [cuts]
  | x :: p, r, o, h => by
    have hx : x ≠ sep := fun e => h (by simp [e])
    have hp : sep ∉ p := fun e => h (by simp [e])
    rw [List.cons_append, cuts_cons_ne hx o _ p _ (cuts_sep p r (o + 1) hp)]
    rw [List.length_cons, show o + 1 + p.length + 1 = o + (p.length + 1) + 1 by omega]

theorem cuts_none {sep : Int} : ∀ (p : List Int) (o : Nat), sep ∉ p → cuts sep o p = [(o, p)]
  | [], o, _ => rfl
  | x :: p, o, h => by
    have hx : x ≠ sep := fun e => h (by simp [e])
    have hp : sep ∉ p := fun e => h (by simp [e])
    exact cuts_cons_ne hx o _ p _ (cuts_none p (o + 1) hp)

/-- Two texts, a separator between. -/
theorem cuts_app (sep : Int) : ∀ (a b : List Int) (o : Nat), cuts sep o (a ++ sep :: b) = cuts sep o a ++ cuts sep (o + a.length + 1) b
  | [], b, o => by simp [cuts]
  | x :: a, b, o => by
    have ih := cuts_app sep a b (o + 1)
    rw [show o + 1 + a.length + 1 = o + (a.length + 1) + 1 by omega] at ih
    rw [List.cons_append, List.length_cons]
    by_cases hx : x = sep
    · rw [cuts, if_pos hx, ih, cuts, if_pos hx, List.cons_append]
    · obtain ⟨p, t, hp⟩ := cuts_head sep a (o + 1)
      rw [hp, List.cons_append] at ih
      rw [cuts_cons_ne hx o _ p _ ih, cuts_cons_ne hx o _ p t hp, List.cons_append]

def shift (n : Nat) (x : Nat × List Int) : Nat × List Int := (x.1 + n, x.2)

theorem cuts_shift (sep : Int) (n : Nat) : ∀ (l : List Int) (o : Nat), cuts sep (o + n) l = (cuts sep o l).map (shift n)
  | [], o => rfl
  | x :: r, o => by
    have ih := cuts_shift sep n r (o + 1)
    rw [show o + 1 + n = o + n + 1 by omega] at ih
    by_cases hx : x = sep
    · rw [cuts, if_pos hx, cuts, if_pos hx, ih]; rfl
    · obtain ⟨p, t, hp⟩ := cuts_head sep r (o + 1)
      rw [hp, List.map_cons] at ih
      rw [cuts_cons_ne hx (o + n) r p (t.map (shift n)) (by rw [ih]; rw [show o + n + 1 = o + 1 + n by omega]; rfl), cuts_cons_ne hx o r p t hp]; rfl

theorem cuts_no_sep (sep : Int) : ∀ (l : List Int) (o : Nat) (x : Nat × List Int), x ∈ cuts sep o l → sep ∉ x.2
  | [], o, x, h => by simp [cuts] at h; subst h; simp
  | y :: r, o, x, h => by
    have ih := cuts_no_sep sep r (o + 1)
    by_cases hy : y = sep
    · rw [cuts, if_pos hy] at h
      rcases List.mem_cons.1 h with rfl | h
      · simp
      · exact ih x h
    · obtain ⟨p, t, hp⟩ := cuts_head sep r (o + 1)
      rw [hp] at ih
      rw [cuts_cons_ne hy o r p t hp] at h
      rcases List.mem_cons.1 h with rfl | h
      · have := ih _ List.mem_cons_self
        simp only [List.mem_cons, not_or]; exact ⟨fun e => hy e.symm, this⟩
      · exact ih x (List.mem_cons_of_mem _ h)

/-- Each part lies in the text, where it says. -/
theorem cuts_in (sep : Int) : ∀ (l : List Int) (o : Nat) (x : Nat × List Int), x ∈ cuts sep o l → ∃ a b, l = a ++ (x.2 ++ b) ∧ x.1 = o + a.length
  | [], o, x, h => by simp [cuts] at h; subst h; exact ⟨[], [], rfl, rfl⟩
  | y :: r, o, x, h => by
    have ih := cuts_in sep r (o + 1)
    by_cases hy : y = sep
    · rw [cuts, if_pos hy] at h
      rcases List.mem_cons.1 h with rfl | h
      · exact ⟨[], y :: r, rfl, rfl⟩
      · obtain ⟨a, b, e1, e2⟩ := ih x h
        exact ⟨y :: a, b, by rw [e1]; rfl, by rw [e2, List.length_cons]; omega⟩
    · obtain ⟨p, t, hp⟩ := cuts_head sep r (o + 1)
      rw [hp] at ih
      rw [cuts_cons_ne hy o r p t hp] at h
      rcases List.mem_cons.1 h with rfl | h
      · obtain ⟨a, b, e1, e2⟩ := ih _ List.mem_cons_self
        have : a = [] := List.eq_nil_of_length_eq_zero (by simp only at e2; omega)
        subst this
        exact ⟨[], b, by rw [e1]; rfl, rfl⟩
      · obtain ⟨a, b, e1, e2⟩ := ih x (List.mem_cons_of_mem _ h)
        exact ⟨y :: a, b, by rw [e1]; rfl, by rw [e2, List.length_cons]; omega⟩

theorem cuts_le {sep : Int} {l : List Int} {o : Nat} {x : Nat × List Int} (h : x ∈ cuts sep o l) : o ≤ x.1 ∧ x.1 + x.2.length ≤ o + l.length := by
  obtain ⟨a, b, e1, e2⟩ := cuts_in sep l o x h
  rw [e1]; simp; omega

theorem cuts_len (sep : Int) : ∀ (l : List Int) (o : Nat), (cuts sep o l).length ≤ l.length + 1
  | [], o => by simp [cuts]
  | y :: r, o => by
    have ih := cuts_len sep r (o + 1)
    by_cases hy : y = sep
    · rw [cuts, if_pos hy]; simp; omega
    · obtain ⟨p, t, hp⟩ := cuts_head sep r (o + 1)
      rw [hp] at ih
      rw [cuts_cons_ne hy o r p t hp]; simp at ih ⊢; omega

/-! ### Words, lines -/

/-- No byte of a word. -/
def bad (x : Int) : Bool := decide (x < 33) || decide (126 < x)

/-- The first byte of what should be a word that is none of a word's. -/
def fw (p : List Int) : Option Nat := if p = [] then some 0 else p.findIdx? bad

/-- firstWrong's number. -/
def fwI (p : List Int) : Int := match fw p with | none => -1 | some k => k

theorem fw_some {p : List Int} {k : Nat} (hk : k < p.length) (hb : bad p[k] = true) (h : ∀ j (hj : j < p.length), j < k → bad p[j] = false) : fw p = some k := by
  unfold fw
  rw [if_neg (fun e => by rw [e] at hk; simp at hk)]
  rw [List.findIdx?_eq_some_iff_getElem]
  exact ⟨hk, hb, fun j hj => by rw [h j (by omega) hj]; simp⟩

theorem fw_none {p : List Int} (hp : p ≠ []) (h : ∀ x ∈ p, bad x = false) : fw p = none := by
  unfold fw
  rw [if_neg hp]
  exact List.findIdx?_eq_none_iff.2 h

theorem fw_none_inv {p : List Int} (h : fw p = none) : p ≠ [] ∧ ∀ x ∈ p, bad x = false := by
  unfold fw at h
  split at h
  · cases h
  · rename_i hp
    exact ⟨hp, List.findIdx?_eq_none_iff.1 h⟩

theorem fw_nil : fw [] = some 0 := by simp [fw]

theorem fw_lt {p : List Int} {k : Nat} (h : fw p = some k) : k ≤ p.length := by
  unfold fw at h
  split at h
  · cases h; omega
  · rw [List.findIdx?_eq_some_iff_getElem] at h
    obtain ⟨h, _⟩ := h; omega

theorem fwI_none {p : List Int} (h : fw p = none) : fwI p = -1 := by simp [fwI, h]
theorem fwI_some {p : List Int} {k : Nat} (h : fw p = some k) : fwI p = k := by simp [fwI, h]

/-- Is a line passed over? -/
def over (p : List Int) : Bool := match p with | [] => true | x :: _ => x == 35

def wordF (x : Nat × List Int) : Option (Nat × Nat) := (fw x.2).map fun k => (5, x.1 + k)
def lineF (x : Nat × List Int) : Option (Nat × Nat) :=
  if 65536 < x.2.length then some (4, x.1) else if over x.2 then none else (cuts 32 x.1 x.2).findSome? wordF
def lineL (x : Nat × List Int) : Option (Nat × List (Nat × List Int)) :=
  if over x.2 then none else some (x.1, cuts 32 x.1 x.2)

theorem lineF_long {x : Nat × List Int} (h : 65536 < x.2.length) : lineF x = some (4, x.1) := by unfold lineF; rw [if_pos h]
theorem lineF_over {x : Nat × List Int} (h : ¬ 65536 < x.2.length) (ho : over x.2 = true) : lineF x = none := by unfold lineF; rw [if_neg h, if_pos ho]
theorem lineF_words {x : Nat × List Int} (h : ¬ 65536 < x.2.length) (ho : over x.2 = false) : lineF x = (cuts 32 x.1 x.2).findSome? wordF := by
  unfold lineF; rw [if_neg h, if_neg (by rw [ho]; decide)]
theorem lineL_over {x : Nat × List Int} (ho : over x.2 = true) : lineL x = none := by unfold lineL; rw [if_pos ho]
theorem lineL_words {x : Nat × List Int} (ho : over x.2 = false) : lineL x = some (x.1, cuts 32 x.1 x.2) := by unfold lineL; rw [if_neg (by rw [ho]; decide)]

theorem find_snoc {α β : Type} {f : α → Option β} {xs : List α} {y : α} (h : xs.findSome? f = none) : (xs ++ [y]).findSome? f = f y := by
  rw [List.findSome?_append, h]; simp [List.findSome?]; cases f y <;> rfl
theorem find_prefix {α β : Type} {f : α → Option β} {xs ys : List α} {z : β} (h : xs <+: ys) (hx : xs.findSome? f = some z) : ys.findSome? f = some z := by
  obtain ⟨t, rfl⟩ := h
  rw [List.findSome?_append, hx]; rfl
theorem keep_snoc {α β : Type} (f : α → Option β) (xs : List α) (y : α) : (xs ++ [y]).filterMap f = xs.filterMap f ++ (f y).toList := by
  rw [List.filterMap_append]; simp [List.filterMap]; cases f y <;> rfl
theorem cuts_at (sep : Int) (o : Nat) (l : List Int) : cuts sep o l = (cuts sep 0 l).map (shift o) := by
  have := cuts_shift sep o l 0
  rwa [Nat.zero_add] at this
theorem wordF_some {x : Nat × List Int} {k : Nat} (h : fw x.2 = some k) : wordF x = some (5, x.1 + k) := by unfold wordF; rw [h]; rfl
theorem wordF_none {x : Nat × List Int} (h : fw x.2 = none) : wordF x = none := by unfold wordF; rw [h]; rfl
theorem wordF_none_inv {x : Nat × List Int} (h : wordF x = none) : fw x.2 = none := by
  unfold wordF at h; cases e : fw x.2 with
  | none => rfl
  | some k => rw [e] at h; cases h

theorem wordF_five {x : Nat × List Int} {f : Nat × Nat} (h : wordF x = some f) : f.1 = 5 := by
  unfold wordF at h
  cases e : fw x.2 with
  | none => rw [e] at h; cases h
  | some k => rw [e] at h; cases h; rfl
theorem find_one {α β : Type} {f : α → Option β} {xs : List α} {z : β} (h : xs.findSome? f = some z) : ∃ x ∈ xs, f x = some z := by
  obtain ⟨a, x, b, rfl, hx, _⟩ := List.findSome?_eq_some_iff.1 h
  exact ⟨x, by simp, hx⟩
theorem lineF_not {x : Nat × List Int} {f : Nat × Nat} (h : lineF x = some f) : f.1 = 4 ∨ f.1 = 5 := by
  unfold lineF at h
  split at h
  · cases h; exact .inl rfl
  · split at h
    · cases h
    · obtain ⟨y, _, hy⟩ := find_one h
      exact .inr (wordF_five hy)

/-- The fault of a text, and its lines. -/
def textF (l : List Int) : Option (Nat × Nat) := if 67108864 < l.length then some (4, 67108864) else (cuts 10 0 l).findSome? lineF
def textL (l : List Int) : List (Nat × List (Nat × List Int)) := if textF l = none then (cuts 10 0 l).filterMap lineL else []
def textE (l : List Int) : Int := match textF l with | none => 0 | some x => (x.1 : Int)
def textP (l : List Int) : Int := match textF l with | none => 0 | some x => (x.2 : Int)
end Go.Proofs.Ytmpglmepmdpjoaa
