/- Texts of earlier stages over this seat, joined: TkStA TkTwA TkTwB. -/
import Derived.Test.YtpdbkjnaicjfdaaGreatDoorGt
set_option maxRecDepth 100000
namespace Go.Proofs.YtpdbkjnaicjfdaaGreatDoor
open Go.RowKit
set_option linter.unusedVariables false

/-- Each part lies in the text, a separator ahead of it and behind it. -/
theorem cuts_in2 (sep : Int) : ∀ (l : List Int) (o : Nat) (x : Nat × List Int), x ∈ cuts sep o l → ∃ a b, l = a ++ (x.2 ++ b) ∧ x.1 = o + a.length ∧ (b = [] ∨ ∃ b', b = sep :: b') ∧ (a = [] ∨ ∃ a', a = a' ++ [sep])
  | [], o, x, h => by simp [cuts] at h; subst h; exact ⟨[], [], rfl, rfl, .inl rfl, .inl rfl⟩
  | y :: r, o, x, h => by
    have ih := cuts_in2 sep r (o + 1)
    have step : ∀ (a : List Int), (a = [] ∨ ∃ a', a = a' ++ [sep]) → (a = [] → y = sep) → (y :: a = [] ∨ ∃ a', y :: a = a' ++ [sep]) := by
      intro a ha hy
      rcases ha with rfl | ⟨a', rfl⟩
      · exact .inr ⟨[], by rw [hy rfl]; rfl⟩
      · exact .inr ⟨y :: a', rfl⟩
    by_cases hy : y = sep
    · rw [cuts, if_pos hy] at h
      rcases List.mem_cons.1 h with rfl | h
      · exact ⟨[], y :: r, rfl, rfl, .inr ⟨r, by rw [hy]⟩, .inl rfl⟩
      · obtain ⟨a, b, e1, e2, e3, e4⟩ := ih x h
        exact ⟨y :: a, b, by rw [e1]; rfl, by rw [e2, List.length_cons]; omega, e3, step a e4 (fun _ => hy)⟩
    · obtain ⟨p, t, hp⟩ := cuts_head sep r (o + 1)
      rw [hp] at ih
      rw [cuts_cons_ne hy o r p t hp] at h
      rcases List.mem_cons.1 h with rfl | h
      · obtain ⟨a, b, e1, e2, e3, e4⟩ := ih _ List.mem_cons_self
        have : a = [] := List.eq_nil_of_length_eq_zero (by simp only at e2; omega)
        subst this
        exact ⟨[], b, by rw [e1]; rfl, rfl, e3, .inl rfl⟩
      · obtain ⟨a, b, e1, e2, e3, e4⟩ := ih x (List.mem_cons_of_mem _ h)
        refine ⟨y :: a, b, by rw [e1]; rfl, by rw [e2, List.length_cons]; omega, e3, step a e4 ?_⟩
        intro ha
        subst ha
        exfalso
        have h1 : x.1 = o + 1 := by simpa using e2
        have hlt : ∀ z ∈ t, o + 1 < z.1 := by
          intro z hz
          have hpw : (cuts sep (o + 1) r).Pairwise (fun a b => a.1 + a.2.length < b.1) := by
            clear ih h hp e1 e2 e3 e4 h1 step hz
            generalize o + 1 = q
            induction r generalizing q with
            | nil => simp [cuts]
            | cons u r ihr =>
              by_cases hu : u = sep
              · rw [cuts, if_pos hu]
                refine List.pairwise_cons.2 ⟨fun z hz => ?_, ihr (q + 1)⟩
                have := (cuts_le hz).1; simp; omega
              · obtain ⟨p', t', hp'⟩ := cuts_head sep r (q + 1)
                have h2 := ihr (q + 1)
                rw [hp'] at h2
                rw [cuts_cons_ne hu q r p' t' hp']
                have h3 := List.pairwise_cons.1 h2
                refine List.pairwise_cons.2 ⟨fun z hz => ?_, h3.2⟩
                have := h3.1 z hz; simp at this ⊢; omega
          rw [hp] at hpw
          have := (List.pairwise_cons.1 hpw).1 z hz
          simp at this; omega
        have := hlt x h
        omega

theorem cuts_apart (sep : Int) : ∀ (r : List Int) (q : Nat), (cuts sep q r).Pairwise (fun a b => a.1 + a.2.length < b.1)
  | [], q => by simp [cuts]
  | u :: r, q => by
    by_cases hu : u = sep
    · rw [cuts, if_pos hu]
      refine List.pairwise_cons.2 ⟨fun z hz => ?_, cuts_apart sep r (q + 1)⟩
      have := (cuts_le hz).1; simp; omega
    · obtain ⟨p', t', hp'⟩ := cuts_head sep r (q + 1)
      have h2 := cuts_apart sep r (q + 1)
      rw [hp'] at h2
      rw [cuts_cons_ne hu q r p' t' hp']
      have h3 := List.pairwise_cons.1 h2
      refine List.pairwise_cons.2 ⟨fun z hz => ?_, h3.2⟩
      have := h3.1 z hz; simp at this ⊢; omega

def ends (ws : List (Nat × List Int)) : Nat := (ws.map fun x => x.2.length + 1).sum
theorem ends_cons (x : Nat × List Int) (r : List (Nat × List Int)) : ends (x :: r) = x.2.length + 1 + ends r := by simp [ends]
theorem ends_nil : ends [] = 0 := rfl

theorem cuts_ends (sep : Int) : ∀ (l : List Int) (o : Nat), ends (cuts sep o l) = l.length + 1
  | [], o => rfl
  | y :: r, o => by
    have ih := cuts_ends sep r (o + 1)
    by_cases hy : y = sep
    · rw [cuts, if_pos hy, ends_cons, ih]; simp; omega
    · obtain ⟨p, t, hp⟩ := cuts_head sep r (o + 1)
      rw [hp, ends_cons] at ih
      rw [cuts_cons_ne hy o r p t hp, ends_cons]; simp at ih ⊢; omega

theorem cuts_place (sep : Int) : ∀ (l : List Int) (o k : Nat) (hk : k < (cuts sep o l).length), ((cuts sep o l)[k]).1 = o + ends ((cuts sep o l).take k)
  | [], o, k, hk => by
    simp [cuts] at hk; subst hk; rfl
  | y :: r, o, k, hk => by
    by_cases hy : y = sep
    · have e : cuts sep o (y :: r) = (o, []) :: cuts sep (o + 1) r := by rw [cuts, if_pos hy]
      simp only [e] at hk ⊢
      cases k with
      | zero => simp [ends]
      | succ k =>
        have ih := cuts_place sep r (o + 1) k (by simpa using hk)
        rw [List.getElem_cons_succ, ih, List.take_succ_cons, ends_cons]; simp; omega
    · obtain ⟨p, t, hp⟩ := cuts_head sep r (o + 1)
      have e := cuts_cons_ne hy o r p t hp
      have ih := fun k => cuts_place sep r (o + 1) k
      simp only [hp] at ih
      simp only [e] at hk ⊢
      cases k with
      | zero => simp [ends]
      | succ k =>
        have h2 := ih (k + 1) (by simpa using hk)
        rw [List.getElem_cons_succ, List.take_succ_cons, ends_cons] at h2
        rw [List.getElem_cons_succ, h2, List.take_succ_cons, ends_cons]; simp; omega

theorem seg_mid {bs u q v : List Int} (h : bs = u ++ (q ++ v)) : seg bs u.length (u.length + q.length) = q := by
  unfold seg
  rw [h, ← List.append_assoc, List.take_left' (by simp), List.drop_left' rfl]

theorem at0_mid {bs u v : List Int} {x : Int} (h : bs = u ++ x :: v) : at0 bs u.length = x := by
  unfold at0; rw [h, List.getElem?_append_right (by omega)]; simp

/-- What is known of a line of a text. -/
structure LineOk (bs : List Int) (x : Nat × List (Nat × List Int)) : Prop where
  some : 0 < x.2.length
  stop : x.1 + ends x.2 ≤ bs.length + 1
  ahead : 0 < x.1 → at0 bs (x.1 - 1) = 10
  behind : x.1 + ends x.2 - 1 < bs.length → at0 bs (x.1 + ends x.2 - 1) = 10
  place : ∀ k (hk : k < x.2.length), x.2[k].1 = x.1 + ends (x.2.take k)
  word : ∀ k (hk : k < x.2.length), x.2[k].2 ≠ [] ∧ x.2[k].1 + x.2[k].2.length ≤ bs.length ∧ seg bs x.2[k].1 (x.2[k].1 + x.2[k].2.length) = x.2[k].2

theorem line_ok {bs : List Int} (hF : textF bs = none) (x : Nat × List (Nat × List Int)) (hx : x ∈ textL bs) : LineOk bs x := by
  have hfind : (cuts 10 0 bs).findSome? lineF = none := by
    unfold textF at hF; split at hF
    · cases hF
    · exact hF
  rw [textL, if_pos hF] at hx
  obtain ⟨y, hy, he⟩ := List.mem_filterMap.1 hx
  have hyF := List.findSome?_eq_none_iff.1 hfind y hy
  have hov : over y.2 = false := by
    cases e : over y.2 with
    | false => rfl
    | true => rw [lineL_over e] at he; cases he
  rw [lineL_words hov] at he
  cases he
  obtain ⟨a, b, e1, e2, e3, e4⟩ := cuts_in2 10 bs 0 y hy
  rw [Nat.zero_add] at e2
  have hlen : bs.length = a.length + (y.2.length + b.length) := by rw [e1]; simp
  have hends := cuts_ends 32 y.2 y.1
  have hl65 : ¬ 65536 < y.2.length := fun h => by rw [lineF_long h] at hyF; cases hyF
  rw [lineF_words hl65 hov] at hyF
  have hwf := List.findSome?_eq_none_iff.1 hyF
  obtain ⟨p0, t0, hc0⟩ := cuts_head 32 y.2 y.1
  refine ⟨?_, ?_, ?_, ?_, fun k hk => cuts_place 32 y.2 y.1 k hk, fun k hk => ?_⟩
  · show 0 < (cuts 32 y.1 y.2).length
    rw [hc0]; simp
  · show y.1 + ends (cuts 32 y.1 y.2) ≤ _
    rw [hends]; omega
  · intro h0
    show at0 bs (y.1 - 1) = 10
    rcases e4 with rfl | ⟨a', rfl⟩
    · simp at e2; simp only at h0; omega
    · rw [List.append_assoc] at e1
      rw [e2, List.length_append]
      exact at0_mid (v := y.2 ++ b) (by rw [e1]; rfl)
  · intro h1
    show at0 bs (y.1 + ends (cuts 32 y.1 y.2) - 1) = 10
    have h1' : y.1 + ends (cuts 32 y.1 y.2) - 1 < bs.length := h1
    rw [hends] at h1' ⊢
    rcases e3 with rfl | ⟨b', rfl⟩
    · simp at hlen; omega
    · have : y.1 + (y.2.length + 1) - 1 = (a ++ y.2).length := by rw [List.length_append, e2]; omega
      rw [this]
      exact at0_mid (v := b') (by rw [e1]; simp)
  · have hm : (cuts 32 y.1 y.2)[k]'hk ∈ cuts 32 y.1 y.2 := List.getElem_mem hk
    have hw := wordF_none_inv (hwf _ hm)
    obtain ⟨a2, b2, f1, f2⟩ := cuts_in 32 y.2 y.1 _ hm
    show ((cuts 32 y.1 y.2)[k]'hk).2 ≠ [] ∧ _
    generalize (cuts 32 y.1 y.2)[k]'hk = q at *
    have f3 : bs = (a ++ a2) ++ (q.2 ++ (b2 ++ b)) := by rw [e1, f1]; simp
    have f4 : q.1 = (a ++ a2).length := by rw [List.length_append, f2, e2]
    refine ⟨(fw_none_inv hw).1, ?_, ?_⟩
    · have := congrArg List.length f3; simp at this; rw [f4]; simp; omega
    · rw [f4]; exact seg_mid f3

theorem lines_apart {bs : List Int} : (textL bs).Pairwise (fun x y => x.1 + ends x.2 ≤ y.1) := by
  unfold textL
  split
  · refine (List.pairwise_filterMap.2 ((cuts_apart 10 bs 0).imp ?_))
    intro a b hab x hx y hy
    have h1 : x.1 = a.1 ∧ x.2 = cuts 32 a.1 a.2 := by
      unfold lineL at hx; split at hx
      · cases hx
      · cases hx; exact ⟨rfl, rfl⟩
    have h2 : y.1 = b.1 := by
      unfold lineL at hy; split at hy
      · cases hy
      · cases hy; rfl
    rw [h1.1, h1.2, h2, cuts_ends]
    omega
  · exact List.Pairwise.nil

theorem fault_le {bs : List Int} {f : Nat × Nat} (hm : bs.length ≤ 67108864) (h : textF bs = some f) : f.2 ≤ bs.length ∧ (f.1 = 4 ∨ f.1 = 5) := by
  unfold textF at h
  rw [if_neg (by omega)] at h
  obtain ⟨y, hy, he⟩ := find_one h
  refine ⟨?_, lineF_not he⟩
  have hyl := (cuts_le hy).2
  unfold lineF at he
  split at he
  · cases he; simp only; omega
  · split at he
    · cases he
    · obtain ⟨q, hq, hqe⟩ := find_one he
      have hql := (cuts_le hq).2
      unfold wordF at hqe
      cases e : fw q.2 with
      | none => rw [e] at hqe; cases hqe
      | some k =>
        rw [e] at hqe
        cases hqe
        have := fw_lt e
        simp only; omega

theorem ends_snoc (a : List (Nat × List Int)) (x : Nat × List Int) : ends (a ++ [x]) = ends a + (x.2.length + 1) := by simp [ends]
theorem ends_take (ws : List (Nat × List Int)) (k : Nat) (hk : k < ws.length) : ends (ws.take (k + 1)) = ends (ws.take k) + (ws[k].2.length + 1) := by
  rw [List.take_succ_eq_append_getElem hk, ends_snoc]
end Go.Proofs.YtpdbkjnaicjfdaaGreatDoor

namespace Go.Proofs.YtpdbkjnaicjfdaaGreatDoor
open Go.RowKit
set_option linter.unusedVariables false

def shiftL (n : Nat) (x : Nat × List (Nat × List Int)) : Nat × List (Nat × List Int) := (x.1 + n, x.2.map (shift n))

theorem cuts_by (sep : Int) (o n : Nat) (l : List Int) : cuts sep (o + n) l = (cuts sep o l).map (shift n) := cuts_shift sep n l o

theorem wordF_shift (n : Nat) (x : Nat × List Int) : wordF (shift n x) = (wordF x).map fun f => (f.1, f.2 + n) := by
  unfold wordF shift
  cases fw x.2 with
  | none => rfl
  | some k => simp; omega

theorem find_shift {α β γ : Type} (g : α → α) (h : β → β) (f : α → Option β) (hf : ∀ x, f (g x) = (f x).map h) : ∀ l : List α, (l.map g).findSome? f = (l.findSome? f).map h
  | [] => rfl
  | x :: r => by
    rw [List.map_cons, List.findSome?_cons, List.findSome?_cons, hf x, find_shift (γ := γ) g h f hf r]
    cases f x <;> rfl

theorem lineF_shift (n : Nat) (x : Nat × List Int) : lineF (shift n x) = (lineF x).map fun f => (f.1, f.2 + n) := by
  unfold lineF
  show (if 65536 < x.2.length then some (4, x.1 + n) else if over x.2 = true then none else (cuts 32 (x.1 + n) x.2).findSome? wordF) = _
  by_cases h : 65536 < x.2.length
  · rw [if_pos h, if_pos h]; rfl
  · rw [if_neg h, if_neg h]
    by_cases ho : over x.2 = true
    · rw [if_pos ho, if_pos ho]; rfl
    · rw [if_neg ho, if_neg ho, cuts_by]
      exact find_shift (γ := Unit) (shift n) _ wordF (wordF_shift n) _

theorem lineL_shift (n : Nat) (x : Nat × List Int) : lineL (shift n x) = (lineL x).map (shiftL n) := by
  unfold lineL
  show (if over x.2 = true then none else some (x.1 + n, cuts 32 (x.1 + n) x.2)) = _
  by_cases ho : over x.2 = true
  · rw [if_pos ho, if_pos ho]; rfl
  · rw [if_neg ho, if_neg ho, cuts_by]; rfl

theorem keep_shift {α β : Type} (g : α → α) (h : β → β) (f : α → Option β) (hf : ∀ x, f (g x) = (f x).map h) : ∀ l : List α, (l.map g).filterMap f = (l.filterMap f).map h
  | [] => rfl
  | x :: r => by
    rw [List.map_cons, List.filterMap_cons, List.filterMap_cons, hf x, keep_shift g h f hf r]
    cases f x <;> rfl

theorem two_cuts (a b : List Int) : cuts 10 0 ((a ++ [10]) ++ b) = cuts 10 0 a ++ (cuts 10 0 b).map (shift (a.length + 1)) ∧ cuts 10 0 (a ++ [10]) = cuts 10 0 a ++ [(a.length + 1, [])] := by
  refine ⟨?_, ?_⟩
  · have h := cuts_app 10 a b 0
    rw [Nat.zero_add] at h
    have e : (a ++ [10]) ++ b = a ++ 10 :: b := by simp
    rw [e, h]
    congr 1
    have h2 := cuts_by 10 0 (a.length + 1) b
    rwa [Nat.zero_add] at h2
  · have h := cuts_app 10 a [] 0
    rw [Nat.zero_add] at h
    exact h

theorem find_app {α β : Type} {f : α → Option β} {xs ys : List α} {z : β} (h : xs.findSome? f = some z) : (xs ++ ys).findSome? f = some z := by
  rw [List.findSome?_append, h]; rfl

theorem text_short {l : List Int} (h : l.length ≤ 67108864) : textF l = (cuts 10 0 l).findSome? lineF := by unfold textF; rw [if_neg (by omega)]

theorem two_first {a b : List Int} {f : Nat × Nat} (hl : ((a ++ [10]) ++ b).length ≤ 67108864) (hf : textF (a ++ [10]) = some f) : textF ((a ++ [10]) ++ b) = some f := by
  have hl1 : (a ++ [10]).length ≤ 67108864 := by simp at hl ⊢; omega
  rw [text_short hl1, (two_cuts a b).2] at hf
  have h0 : (cuts 10 0 a).findSome? lineF = some f := by
    rw [List.findSome?_append] at hf
    cases e : (cuts 10 0 a).findSome? lineF with
    | some g => rw [e] at hf; exact hf
    | none => rw [e] at hf; simp [lineF, over] at hf
  rw [text_short hl, (two_cuts a b).1]
  exact find_app h0

theorem two_none {a : List Int} (hl : (a ++ [10]).length ≤ 67108864) (hf : textF (a ++ [10]) = none) : (cuts 10 0 a).findSome? lineF = none ∧ textL (a ++ [10]) = (cuts 10 0 a).filterMap lineL := by
  have hf0 := hf
  rw [text_short hl, (two_cuts a []).2, List.findSome?_append] at hf
  have h0 : (cuts 10 0 a).findSome? lineF = none := by
    cases e : (cuts 10 0 a).findSome? lineF with
    | some g => rw [e] at hf; cases hf
    | none => rfl
  refine ⟨h0, ?_⟩
  rw [textL, if_pos hf0, (two_cuts a []).2, List.filterMap_append]
  simp [lineL, over]

theorem two_second {a b : List Int} {g : Nat × Nat} (hl : ((a ++ [10]) ++ b).length ≤ 67108864) (hf : textF (a ++ [10]) = none) (hg : textF b = some g) : textF ((a ++ [10]) ++ b) = some (g.1, g.2 + (a.length + 1)) := by
  have hl1 : (a ++ [10]).length ≤ 67108864 := by simp at hl ⊢; omega
  have hl2 : b.length ≤ 67108864 := by simp at hl; omega
  rw [text_short hl2] at hg
  rw [text_short hl, (two_cuts a b).1, find_app_none (two_none hl1 hf).1, find_shift (γ := Unit) (shift (a.length + 1)) _ lineF (lineF_shift _), hg]; rfl

theorem two_both {a b : List Int} (hl : ((a ++ [10]) ++ b).length ≤ 67108864) (hf : textF (a ++ [10]) = none) (hg : textF b = none) :
    textF ((a ++ [10]) ++ b) = none ∧ textL ((a ++ [10]) ++ b) = textL (a ++ [10]) ++ (textL b).map (shiftL (a.length + 1)) := by
  have hl1 : (a ++ [10]).length ≤ 67108864 := by simp at hl ⊢; omega
  have hl2 : b.length ≤ 67108864 := by simp at hl; omega
  obtain ⟨h1, h2⟩ := two_none hl1 hf
  have hg0 := hg
  rw [text_short hl2] at hg
  have h3 : textF ((a ++ [10]) ++ b) = none := by
    rw [text_short hl, (two_cuts a b).1, find_app_none h1, find_shift (γ := Unit) (shift (a.length + 1)) _ lineF (lineF_shift _), hg]; rfl
  refine ⟨h3, ?_⟩
  rw [textL, if_pos h3, (two_cuts a b).1, List.filterMap_append, h2, keep_shift (shift (a.length + 1)) (shiftL (a.length + 1)) lineL (lineL_shift _)]
  rw [textL, if_pos hg0]

theorem text_places {bs : List Int} {x : Nat × List (Nat × List Int)} (hx : x ∈ textL bs) : x.1 ≤ bs.length ∧ ∀ y ∈ x.2, y.1 ≤ bs.length := by
  unfold textL at hx
  split at hx
  · obtain ⟨y, hy, he⟩ := List.mem_filterMap.1 hx
    have h1 := cuts_le hy
    unfold lineL at he
    split at he
    · cases he
    · cases he
      refine ⟨by simp only; omega, fun q hq => ?_⟩
      have h2 := cuts_le hq
      omega
  · cases hx
end Go.Proofs.YtpdbkjnaicjfdaaGreatDoor

namespace Go.Proofs.YtpdbkjnaicjfdaaGreatDoor
open Go.RowKit
set_option linter.unusedVariables false

def tw_CopyPost (bs : List Int) (w : World) (e : Ending) (w' : World) : Prop :=
  ∃ g cap, e = .returned (.slice (some ⟨g, 0, none⟩) bs.length cap) ∧ w'.ownsRow w.heap.size 5 1 (.slice (some ⟨g, 0, none⟩) bs.length cap) bs.length (bytesOf bs) ∧ Below w.heap.size w w'

set_option maxHeartbeats 1000000 in
theorem tw_copy_any (A : Option Addr) (c : Nat) (bs : List Int) (w : World) (hA : Bytes w A bs) (hm : bs.length ≤ 1000000000) (hnil : A = none → c = 0) :
    Calls Tryz.prog 36 #[.slice A bs.length c] w (tw_CopyPost bs w) := by
  obtain ⟨i0, hi, hz0, hz1, hz2⟩ := info_parts info_u8
  have hrow := World.ownsRow_lit (base := w.heap.size) (e := 5) (size := 1) w #[] 0 (Nat.le_refl _) (Nat.zero_le _) rfl
  cases A with
  | none =>
    obtain rfl := bytes_none hA
    obtain rfl : c = 0 := hnil rfl
    go_enter Tryz.func36, Tryz.ntmps36
    go_wp2
    go_ret
    exact ⟨w.heap.size, 0, rfl, hrow, (Below.refl _ _).alloc (Nat.le_refl _) _⟩
  | some ad =>
    have HS := Lib.hid (bytes_src hA)
    have HRow := Lib.hid hrow
    clear hA hrow hnil
    go_enter Tryz.func36, Tryz.ntmps36
    go_wp2_with (at_builtin; refine wpList_append_own_at _ rfl _ _ 78 rfl w.heap.size 5 i0 (.int .u8 0) 1 1 Tryz.underlying78 hi hz0 hz1 hz2 rfl (by decide) _ _ _ rfl HRow.out ad bs.length c (bytesOf bs) rfl (by simp [bytesOf]) HS.out (by intro u hu; simp [bytesOf] at hu; obtain ⟨x, _, rfl⟩ := hu; rfl) (by simp only [maxLen]; omega) (by omega) (by simp) ?_; intro v0 w0 hown0 hg0 hnil0 hat0; rw [Nat.zero_add] at hown0; obtain ⟨g0, cap0, rfl⟩ := form3 hown0 hnil0)
    go_ret
    exact ⟨g0, cap0, rfl, by simpa using hown0, ((Below.refl _ w).alloc (Nat.le_refl _) _).grown hg0 (by simp) (fun k e => by cases e; exact Nat.le_refl _)⟩

theorem bytes_own {W : World} {base g n cap : Nat} {l : List Int} (h : W.ownsRow base 5 1 (.slice (some ⟨g, 0, none⟩) n cap) n (bytesOf l)) : Bytes W (some ⟨g, 0, none⟩) l := by
  have hl : l.length = n := by have := h.1; simpa [bytesOf] using this
  have h1 := bytes_row h 0 n (by omega)
  rw [List.drop_zero, List.take_of_length_le (by omega)] at h1
  exact h1

theorem row_mid {W W' : World} {base : Nat} {e : TypeId} {size : Nat} {v : Value} {n : Nat} {xs : List Value} (h : W.ownsRow base e size v n xs) (hM : ∀ B, base ≤ B → B < W.heap.size → W'.heap[B]? = W.heap[B]?) : W'.ownsRow base e size v n xs := by
  refine ⟨h.1, ?_⟩
  rcases h.2 with h' | ⟨g, cap, cur, h1, h2, h3, h4⟩
  · exact .inl h'
  · exact .inr ⟨g, cap, cur, h1, h2, (hM g h2 (Array.getElem?_eq_some_iff.1 h3).1).trans h3, h4⟩

theorem OwnLines.mid {W W' : World} {base : Nat} {v : Value} {ls : List Ln} (h : OwnLines W base v ls) (hM : ∀ B, base ≤ B → B < W.heap.size → W'.heap[B]? = W.heap[B]?) : OwnLines W' base v ls := by
  obtain ⟨zs, h1, h2, h3⟩ := h
  exact ⟨zs, h1, row_mid h2 hM, fun z hz => row_mid (h3 z hz) hM⟩

/-- 'append(x, y...)' onto a row of its own, y whatever slice. -/
theorem wpList_append_src {P : Program} (w : World) {ops : Array Oper} {rest : List Oper} {o : Oper} {a : Act} {Q : Exit → Act → World → Prop} (hgd : o.guard = none) (s x : Operand) (t : TypeId)
    (ho : o.op = .call { callee := .builtin .append, args := #[s, x], argTypes := #[t, t] })
    (base : Nat) (e : TypeId) (i : TypeInfo) (z : Value) (size bytes : Nat) (ht : P.underlying t = some (.slice e)) (hi : P.info? e = some i) (hz : i.zero = some z)
    (hsize : i.size = size) (hby : i.bytes = bytes) (hzs : z.cells.size = size) (hsz : 0 < size)
    (v : Value) (n : Nat) (xs : List Value) (hs : a.eval s = v) (hown : w.ownsRow base e size v n xs)
    (A : Option Addr) (m c : Nat) (news : List Value) (hx : a.eval x = .slice A m c) (hl : news.length = m * size) (hsrc : ∀ ad, A = some ad → ∀ j u, news[j]? = some u → w.cell? (ad.add j) = some u) (hnil : A = none → m = 0 ∧ c = 0) (h1 : ∀ u ∈ news, u.oneCell' = true)
    (h63 : n + m ≤ maxLen) (hbytes : (n + m) * bytes ≤ 140737488355328) (hbase : base ≤ w.heap.size)
    (h : ∀ v' w', w'.ownsRow base e size v' (n + m) (xs ++ news) → w.grownBy w' v.ownBlock → (v' = .slice none 0 0 → v = .slice none 0 0) → wpList P ops Q rest (a.put o.dst v') w') : wpList P ops Q (o :: rest) a w := by
  cases A with
  | none =>
    obtain ⟨rfl, rfl⟩ := hnil rfl
    obtain rfl : news = [] := List.eq_nil_of_length_eq_zero (by simpa using hl)
    refine wpList_plain hgd fun _ hK => ?_
    have hr := run_append_owned_none (P := P) w base t o.type e i size ht hi v n xs hown
    unfold Oper.wp execOp
    simp only [ho, resolve, invoke, builtin, Sem.run_bind, Sem.run_pure, Result.andThen_ok, List.map_toArray, List.map_cons, List.map_nil, hs, hx, hr]
    exact hK _ _ (h v w (by simpa using hown) (World.grownBy.refl _ _) id)
  | some ad =>
    exact wpList_append_own w hgd s x t ho base e i z size bytes ht hi hz hsize hby hzs hsz v n xs hs hown ad m c news hx hl (hsrc ad rfl) h1 h63 hbytes hbase fun v' w' h2 h3 h4 => h v' w' h2 h3 (fun e => (h4.1 e).1)

theorem form4 {w : World} {base g n cap m : Nat} {e : TypeId} {v : Value} {xs : List Value} (h : w.ownsRow base e 1 v m xs) (hn : v = .slice none 0 0 → Value.slice (some ⟨g, 0, none⟩) n cap = .slice none 0 0) : ∃ g' cap', v = .slice (some ⟨g', 0, none⟩) m cap' := by
  rcases h.2 with ⟨e', _⟩ | ⟨g', cap', cur, e', _⟩
  · have := hn e'
    cases this
  · exact ⟨g', cap', e'⟩

theorem bytes_src2 {B : Nat} {w : World} {A : Option Addr} {bs : List Int} (hA : BytesB B w A bs) : ∀ ad, A = some ad → ∀ j u, (bytesOf bs)[j]? = some u → w.cell? (ad.add j) = some u := by
  intro ad e0 j u hu
  have hj : j < bs.length := by
    rcases Nat.lt_or_ge j bs.length with h | h
    · exact h
    · rw [List.getElem?_eq_none (by simp [bytesOf]; omega)] at hu; cases hu
  obtain ⟨b, off, e, hb, hc⟩ := hA (by omega)
  rw [e] at e0
  injection e0 with e0
  subst e0
  rw [add_flat, hc j hj]
  simp [bytesOf, List.getElem?_eq_getElem hj] at hu ⊢
  exact hu
end Go.Proofs.YtpdbkjnaicjfdaaGreatDoor
