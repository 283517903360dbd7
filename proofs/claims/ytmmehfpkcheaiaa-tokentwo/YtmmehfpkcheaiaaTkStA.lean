/- Plain lists: where lines and words stand. -/
import Derived.Test.YtmmehfpkcheaiaaTkS
namespace Go.Proofs.Ytmmehfpkcheaiaa
open Go.RowKit
set_option linter.unusedVariables false

/-- Each part lies in the text, a separator ahead of it and behind it. -/
theorem cuts_in2 (sep : Int) : ∀ (l : List Int) (o : Nat) (x : Nat × List Int), x ∈ cuts sep o l → ∃ a b, l = a ++ (x.2 ++ b) ∧ x.1 = o + a.length ∧ (b = [] ∨ ∃ b', b = sep :: b') ∧ (a = [] ∨ ∃ a', a = a' ++ [sep])
  | [], o, x, h => by simp [cuts] at h; subst h; exact ⟨[], [], rfl, rfl, .inl rfl, .inl rfl⟩
  | y :: r, o, x, h => by
    have ih := cuts_in2 sep r (o + 1)
    have step : ∀ (a : List Int), (a = [] ∨ ∃ a', a = a' ++ [sep]) → (a = [] → y = sep) → (y :: a = [] ∨ ∃ a', y :: a = a' ++ [sep]) := by
      intro a ha hy
      rcases ha with rfl | ⟨a', rfl⟩
      · exact .inr ⟨[], by rw [hy rfl]; rfl⟩
      · exact .inr ⟨y :: a', rfl⟩
    by_cases hy : y = sep
    · rw [cuts, if_pos hy] at h
      rcases List.mem_cons.1 h with rfl | h
      · exact ⟨[], y :: r, rfl, rfl, .inr ⟨r, by rw [hy]⟩, .inl rfl⟩
      · obtain ⟨a, b, e1, e2, e3, e4⟩ := ih x h
        exact ⟨y :: a, b, by rw [e1]; rfl, by rw [e2, List.length_cons]; omega, e3, step a e4 (fun _ => hy)⟩
    · obtain ⟨p, t, hp⟩ := cuts_head sep r (o + 1)
      rw [hp] at ih
      rw [cuts_cons_ne hy o r p t hp] at h
      rcases List.mem_cons.1 h with rfl | h
      · obtain ⟨a, b, e1, e2, e3, e4⟩ := ih _ List.mem_cons_self
        have : a = [] := List.eq_nil_of_length_eq_zero (by simp only at e2; omega)
        subst this
        exact ⟨[], b, by rw [e1]; rfl, rfl, e3, .inl rfl⟩
      · obtain ⟨a, b, e1, e2, e3, e4⟩ := ih x (List.mem_cons_of_mem _ h)
        refine ⟨y :: a, b, by rw [e1]; rfl, by rw [e2, List.length_cons]; omega, e3, step a e4 ?_⟩
        intro ha
        subst ha
        exfalso
        have h1 : x.1 = o + 1 := by simpa using e2
        have hlt : ∀ z ∈ t, o + 1 < z.1 := by
          intro z hz
          have hpw : (cuts sep (o + 1) r).Pairwise (fun a b => a.1 + a.2.length < b.1) := by
            clear ih h hp e1 e2 e3 e4 h1 step hz
            generalize o + 1 = q
            induction r generalizing q with
            | nil => simp [cuts]
            | cons u r ihr =>
              by_cases hu : u = sep
              · rw [cuts, if_pos hu]
                refine List.pairwise_cons.2 ⟨fun z hz => ?_, ihr (q + 1)⟩
                have := (cuts_le hz).1; simp; omega
              · obtain ⟨p', t', hp'⟩ := cuts_head sep r (q + 1)
                have h2 := ihr (q + 1)
                rw [hp'] at h2
                rw [cuts_cons_ne hu q r p' t' hp']
                have h3 := List.pairwise_cons.1 h2
                refine List.pairwise_cons.2 ⟨fun z hz => ?_, h3.2⟩
                have := h3.1 z hz; simp at this ⊢; omega
          rw [hp] at hpw
          have := (List.pairwise_cons.1 hpw).1 z hz
          simp at this; omega
        have := hlt x h
        omega

theorem cuts_apart (sep : Int) : ∀ (r : List Int) (q : Nat), (cuts sep q r).Pairwise (fun a b => a.1 + a.2.length < b.1)
  | [], q => by simp [cuts]
  | u :: r, q => by
    by_cases hu : u = sep
    · rw [cuts, if_pos hu]
      refine List.pairwise_cons.2 ⟨fun z hz => ?_, cuts_apart sep r (q + 1)⟩
      have := (cuts_le hz).1; simp; omega
    · obtain ⟨p', t', hp'⟩ := cuts_head sep r (q + 1)
      have h2 := cuts_apart sep r (q + 1)
      rw [hp'] at h2
      rw [cuts_cons_ne hu q r p' t' hp']
      have h3 := List.pairwise_cons.1 h2
      refine List.pairwise_cons.2 ⟨fun z hz => ?_, h3.2⟩
      have := h3.1 z hz; simp at this ⊢; omega

def ends (ws : List (Nat × List Int)) : Nat := (ws.map fun x => x.2.length + 1).sum
theorem ends_cons (x : Nat × List Int) (r : List (Nat × List Int)) : ends (x :: r) = x.2.length + 1 + ends r := by simp [ends]
theorem ends_nil : ends [] = 0 := rfl

theorem cuts_ends (sep : Int) : ∀ (l : List Int) (o : Nat), ends (cuts sep o l) = l.length + 1
  | [], o => rfl
  | y :: r, o => by
    have ih := cuts_ends sep r (o + 1)
    by_cases hy : y = sep
    · rw [cuts, if_pos hy, ends_cons, ih]; simp; omega
    · obtain ⟨p, t, hp⟩ := cuts_head sep r (o + 1)
      rw [hp, ends_cons] at ih
      rw [cuts_cons_ne hy o r p t hp, ends_cons]; simp at ih ⊢; omega

theorem cuts_place (sep : Int) : ∀ (l : List Int) (o k : Nat) (hk : k < (cuts sep o l).length), ((cuts sep o l)[k]).1 = o + ends ((cuts sep o l).take k)
  | [], o, k, hk => by
    simp [cuts] at hk; subst hk; rfl
  | y :: r, o, k, hk => by
    by_cases hy : y = sep
    · have e : cuts sep o (y :: r) = (o, []) :: cuts sep (o + 1) r := by rw [cuts, if_pos hy]
      simp only [e] at hk ⊢
      cases k with
      | zero => simp [ends]
      | succ k =>
        have ih := cuts_place sep r (o + 1) k (by simpa using hk)
        rw [List.getElem_cons_succ, ih, List.take_succ_cons, ends_cons]; simp; omega
    · obtain ⟨p, t, hp⟩ := cuts_head sep r (o + 1)
      have e := cuts_cons_ne hy o r p t hp
      have ih := fun k => cuts_place sep r (o + 1) k
      simp only [hp] at ih
      simp only [e] at hk ⊢
      cases k with
      | zero => simp [ends]
      | succ k =>
        have h2 := ih (k + 1) (by simpa using hk)
        rw [List.getElem_cons_succ, List.take_succ_cons, ends_cons] at h2
        rw [List.getElem_cons_succ, h2, List.take_succ_cons, ends_cons]; simp; omega

theorem seg_mid {bs u q v : List Int} (h : bs = u ++ (q ++ v)) : seg bs u.length (u.length + q.length) = q := by
  unfold seg
  rw [h, ← List.append_assoc, List.take_left' (by simp), List.drop_left' rfl]

theorem at0_mid {bs u v : List Int} {x : Int} (h : bs = u ++ x :: v) : at0 bs u.length = x := by
  unfold at0; rw [h, List.getElem?_append_right (by omega)]; simp

/-- What is known of a line of a text. -/
structure LineOk (bs : List Int) (x : Nat × List (Nat × List Int)) : Prop where
  some : 0 < x.2.length
  stop : x.1 + ends x.2 ≤ bs.length + 1
  ahead : 0 < x.1 → at0 bs (x.1 - 1) = 10
  behind : x.1 + ends x.2 - 1 < bs.length → at0 bs (x.1 + ends x.2 - 1) = 10
  place : ∀ k (hk : k < x.2.length), x.2[k].1 = x.1 + ends (x.2.take k)
  word : ∀ k (hk : k < x.2.length), x.2[k].2 ≠ [] ∧ x.2[k].1 + x.2[k].2.length ≤ bs.length ∧ seg bs x.2[k].1 (x.2[k].1 + x.2[k].2.length) = x.2[k].2

theorem line_ok {bs : List Int} (hF : textF bs = none) (x : Nat × List (Nat × List Int)) (hx : x ∈ textL bs) : LineOk bs x := by
  have hfind : (cuts 10 0 bs).findSome? lineF = none := by
    unfold textF at hF; split at hF
    · cases hF
    · exact hF
  rw [textL, if_pos hF] at hx
  obtain ⟨y, hy, he⟩ := List.mem_filterMap.1 hx
  have hyF := List.findSome?_eq_none_iff.1 hfind y hy
  have hov : over y.2 = false := by
    cases e : over y.2 with
    | false => rfl
    | true => rw [lineL_over e] at he; cases he
  rw [lineL_words hov] at he
  cases he
  obtain ⟨a, b, e1, e2, e3, e4⟩ := cuts_in2 10 bs 0 y hy
  rw [Nat.zero_add] at e2
  have hlen : bs.length = a.length + (y.2.length + b.length) := by rw [e1]; simp
  have hends := cuts_ends 32 y.2 y.1
  have hl65 : ¬ 65536 < y.2.length := fun h => by rw [lineF_long h] at hyF; cases hyF
  rw [lineF_words hl65 hov] at hyF
  have hwf := List.findSome?_eq_none_iff.1 hyF
  obtain ⟨p0, t0, hc0⟩ := cuts_head 32 y.2 y.1
  refine ⟨?_, ?_, ?_, ?_, fun k hk => cuts_place 32 y.2 y.1 k hk, fun k hk => ?_⟩
  · show 0 < (cuts 32 y.1 y.2).length
    rw [hc0]; simp
  · show y.1 + ends (cuts 32 y.1 y.2) ≤ _
    rw [hends]; omega
  · intro h0
    show at0 bs (y.1 - 1) = 10
    rcases e4 with rfl | ⟨a', rfl⟩
    · simp at e2; simp only at h0; omega
    · rw [List.append_assoc] at e1
      rw [e2, List.length_append]
      exact at0_mid (v := y.2 ++ b) (by rw [e1]; rfl)
  · intro h1
    show at0 bs (y.1 + ends (cuts 32 y.1 y.2) - 1) = 10
    have h1' : y.1 + ends (cuts 32 y.1 y.2) - 1 < bs.length := h1
    rw [hends] at h1' ⊢
    rcases e3 with rfl | ⟨b', rfl⟩
    · simp at hlen; omega
    · have : y.1 + (y.2.length + 1) - 1 = (a ++ y.2).length := by rw [List.length_append, e2]; omega
      rw [this]
      exact at0_mid (v := b') (by rw [e1]; simp)
  · have hm : (cuts 32 y.1 y.2)[k]'hk ∈ cuts 32 y.1 y.2 := List.getElem_mem hk
    have hw := wordF_none_inv (hwf _ hm)
    obtain ⟨a2, b2, f1, f2⟩ := cuts_in 32 y.2 y.1 _ hm
    show ((cuts 32 y.1 y.2)[k]'hk).2 ≠ [] ∧ _
    generalize (cuts 32 y.1 y.2)[k]'hk = q at *
    have f3 : bs = (a ++ a2) ++ (q.2 ++ (b2 ++ b)) := by rw [e1, f1]; simp
    have f4 : q.1 = (a ++ a2).length := by rw [List.length_append, f2, e2]
    refine ⟨(fw_none_inv hw).1, ?_, ?_⟩
    · have := congrArg List.length f3; simp at this; rw [f4]; simp; omega
    · rw [f4]; exact seg_mid f3

theorem lines_apart {bs : List Int} : (textL bs).Pairwise (fun x y => x.1 + ends x.2 ≤ y.1) := by
  unfold textL
  split
  · refine (List.pairwise_filterMap.2 ((cuts_apart 10 bs 0).imp ?_))
    intro a b hab x hx y hy
    have h1 : x.1 = a.1 ∧ x.2 = cuts 32 a.1 a.2 := by
      unfold lineL at hx; split at hx
      · cases hx
      · cases hx; exact ⟨rfl, rfl⟩
    have h2 : y.1 = b.1 := by
      unfold lineL at hy; split at hy
      · cases hy
      · cases hy; rfl
    rw [h1.1, h1.2, h2, cuts_ends]
    omega
  · exact List.Pairwise.nil

theorem fault_le {bs : List Int} {f : Nat × Nat} (hm : bs.length ≤ 67108864) (h : textF bs = some f) : f.2 ≤ bs.length ∧ (f.1 = 4 ∨ f.1 = 5) := by
  unfold textF at h
  rw [if_neg (by omega)] at h
  obtain ⟨y, hy, he⟩ := find_one h
  refine ⟨?_, lineF_not he⟩
  have hyl := (cuts_le hy).2
  unfold lineF at he
  split at he
  · cases he; simp only; omega
  · split at he
    · cases he
    · obtain ⟨q, hq, hqe⟩ := find_one he
      have hql := (cuts_le hq).2
      unfold wordF at hqe
      cases e : fw q.2 with
      | none => rw [e] at hqe; cases hqe
      | some k =>
        rw [e] at hqe
        cases hqe
        have := fw_lt e
        simp only; omega

theorem ends_snoc (a : List (Nat × List Int)) (x : Nat × List Int) : ends (a ++ [x]) = ends a + (x.2.length + 1) := by simp [ends]
theorem ends_take (ws : List (Nat × List Int)) (k : Nat) (hk : k < ws.length) : ends (ws.take (k + 1)) = ends (ws.take k) + (ws[k].2.length + 1) := by
  rw [List.take_succ_eq_append_getElem hk, ends_snoc]
end Go.Proofs.Ytmmehfpkcheaiaa
