/- Plain lists: two texts. -/
import Derived.Test.YtmmehfpkcheaiaaTkStA
namespace Go.Proofs.Ytmmehfpkcheaiaa
open Go.RowKit
set_option linter.unusedVariables false

def shiftL (n : Nat) (x : Nat × List (Nat × List Int)) : Nat × List (Nat × List Int) := (x.1 + n, x.2.map (shift n))

theorem cuts_by (sep : Int) (o n : Nat) (l : List Int) : cuts sep (o + n) l = (cuts sep o l).map (shift n) := cuts_shift sep n l o

theorem wordF_shift (n : Nat) (x : Nat × List Int) : wordF (shift n x) = (wordF x).map fun f => (f.1, f.2 + n) := by
  unfold wordF shift
  cases fw x.2 with
  | none => rfl
  | some k => simp; omega

theorem find_shift {α β γ : Type} (g : α → α) (h : β → β) (f : α → Option β) (hf : ∀ x, f (g x) = (f x).map h) : ∀ l : List α, (l.map g).findSome? f = (l.findSome? f).map h
  | [] => rfl
  | x :: r => by
    rw [List.map_cons, List.findSome?_cons, List.findSome?_cons, hf x, find_shift (γ := γ) g h f hf r]
    cases f x <;> rfl

theorem lineF_shift (n : Nat) (x : Nat × List Int) : lineF (shift n x) = (lineF x).map fun f => (f.1, f.2 + n) := by
  unfold lineF
  show (if 65536 < x.2.length then some (4, x.1 + n) else if over x.2 = true then none else (cuts 32 (x.1 + n) x.2).findSome? wordF) = _
  by_cases h : 65536 < x.2.length
  · rw [if_pos h, if_pos h]; rfl
  · rw [if_neg h, if_neg h]
    by_cases ho : over x.2 = true
    · rw [if_pos ho, if_pos ho]; rfl
    · rw [if_neg ho, if_neg ho, cuts_by]
      exact find_shift (γ := Unit) (shift n) _ wordF (wordF_shift n) _

theorem lineL_shift (n : Nat) (x : Nat × List Int) : lineL (shift n x) = (lineL x).map (shiftL n) := by
  unfold lineL
  show (if over x.2 = true then none else some (x.1 + n, cuts 32 (x.1 + n) x.2)) = _
  by_cases ho : over x.2 = true
  · rw [if_pos ho, if_pos ho]; rfl
  · rw [if_neg ho, if_neg ho, cuts_by]; rfl

theorem keep_shift {α β : Type} (g : α → α) (h : β → β) (f : α → Option β) (hf : ∀ x, f (g x) = (f x).map h) : ∀ l : List α, (l.map g).filterMap f = (l.filterMap f).map h
  | [] => rfl
  | x :: r => by
    rw [List.map_cons, List.filterMap_cons, List.filterMap_cons, hf x, keep_shift g h f hf r]
    cases f x <;> rfl

theorem two_cuts (a b : List Int) : cuts 10 0 ((a ++ [10]) ++ b) = cuts 10 0 a ++ (cuts 10 0 b).map (shift (a.length + 1)) ∧ cuts 10 0 (a ++ [10]) = cuts 10 0 a ++ [(a.length + 1, [])] := by
  refine ⟨?_, ?_⟩
  · have h := cuts_app 10 a b 0
    rw [Nat.zero_add] at h
    have e : (a ++ [10]) ++ b = a ++ 10 :: b := by simp
    rw [e, h]
    congr 1
    have h2 := cuts_by 10 0 (a.length + 1) b
    rwa [Nat.zero_add] at h2
  · have h := cuts_app 10 a [] 0
    rw [Nat.zero_add] at h
    exact h

theorem find_app {α β : Type} {f : α → Option β} {xs ys : List α} {z : β} (h : xs.findSome? f = some z) : (xs ++ ys).findSome? f = some z := by
  rw [List.findSome?_append, h]; rfl

theorem text_short {l : List Int} (h : l.length ≤ 67108864) : textF l = (cuts 10 0 l).findSome? lineF := by unfold textF; rw [if_neg (by omega)]

theorem two_first {a b : List Int} {f : Nat × Nat} (hl : ((a ++ [10]) ++ b).length ≤ 67108864) (hf : textF (a ++ [10]) = some f) : textF ((a ++ [10]) ++ b) = some f := by
  have hl1 : (a ++ [10]).length ≤ 67108864 := by simp at hl ⊢; omega
  rw [text_short hl1, (two_cuts a b).2] at hf
  have h0 : (cuts 10 0 a).findSome? lineF = some f := by
    rw [List.findSome?_append] at hf
    cases e : (cuts 10 0 a).findSome? lineF with
    | some g => rw [e] at hf; exact hf
    | none => rw [e] at hf; simp [lineF, over] at hf
  rw [text_short hl, (two_cuts a b).1]
  exact find_app h0

theorem two_none {a : List Int} (hl : (a ++ [10]).length ≤ 67108864) (hf : textF (a ++ [10]) = none) : (cuts 10 0 a).findSome? lineF = none ∧ textL (a ++ [10]) = (cuts 10 0 a).filterMap lineL := by
  have hf0 := hf
  rw [text_short hl, (two_cuts a []).2, List.findSome?_append] at hf
  have h0 : (cuts 10 0 a).findSome? lineF = none := by
    cases e : (cuts 10 0 a).findSome? lineF with
    | some g => rw [e] at hf; cases hf
    | none => rfl
  refine ⟨h0, ?_⟩
  rw [textL, if_pos hf0, (two_cuts a []).2, List.filterMap_append]
  simp [lineL, over]

theorem two_second {a b : List Int} {g : Nat × Nat} (hl : ((a ++ [10]) ++ b).length ≤ 67108864) (hf : textF (a ++ [10]) = none) (hg : textF b = some g) : textF ((a ++ [10]) ++ b) = some (g.1, g.2 + (a.length + 1)) := by
  have hl1 : (a ++ [10]).length ≤ 67108864 := by simp at hl ⊢; omega
  have hl2 : b.length ≤ 67108864 := by simp at hl; omega
  rw [text_short hl2] at hg
  rw [text_short hl, (two_cuts a b).1, find_app_none (two_none hl1 hf).1, find_shift (γ := Unit) (shift (a.length + 1)) _ lineF (lineF_shift _), hg]; rfl

theorem two_both {a b : List Int} (hl : ((a ++ [10]) ++ b).length ≤ 67108864) (hf : textF (a ++ [10]) = none) (hg : textF b = none) :
    textF ((a ++ [10]) ++ b) = none ∧ textL ((a ++ [10]) ++ b) = textL (a ++ [10]) ++ (textL b).map (shiftL (a.length + 1)) := by
  have hl1 : (a ++ [10]).length ≤ 67108864 := by simp at hl ⊢; omega
  have hl2 : b.length ≤ 67108864 := by simp at hl; omega
  obtain ⟨h1, h2⟩ := two_none hl1 hf
  have hg0 := hg
  rw [text_short hl2] at hg
  have h3 : textF ((a ++ [10]) ++ b) = none := by
    rw [text_short hl, (two_cuts a b).1, find_app_none h1, find_shift (γ := Unit) (shift (a.length + 1)) _ lineF (lineF_shift _), hg]; rfl
  refine ⟨h3, ?_⟩
  rw [textL, if_pos h3, (two_cuts a b).1, List.filterMap_append, h2, keep_shift (shift (a.length + 1)) (shiftL (a.length + 1)) lineL (lineL_shift _)]
  rw [textL, if_pos hg0]

theorem text_places {bs : List Int} {x : Nat × List (Nat × List Int)} (hx : x ∈ textL bs) : x.1 ≤ bs.length ∧ ∀ y ∈ x.2, y.1 ≤ bs.length := by
  unfold textL at hx
  split at hx
  · obtain ⟨y, hy, he⟩ := List.mem_filterMap.1 hx
    have h1 := cuts_le hy
    unfold lineL at he
    split at he
    · cases he
    · cases he
      refine ⟨by simp only; omega, fun q hq => ?_⟩
      have h2 := cuts_le hq
      omega
  · cases hx
end Go.Proofs.Ytmmehfpkcheaiaa
