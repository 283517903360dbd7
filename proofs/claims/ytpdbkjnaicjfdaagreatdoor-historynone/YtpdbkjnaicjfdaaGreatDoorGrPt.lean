/- Plain: where the words of a text's lines stand. -/
import Derived.Test.YtpdbkjnaicjfdaaGreatDoorGrB
namespace Go.Proofs.YtpdbkjnaicjfdaaGreatDoor
open Go.RowKit Go.Maps
set_option linter.unusedVariables false

theorem joined_head (x : Int) (p : List Int) : ∀ (t : List (List Int)), joined ((x :: p) :: t) = x :: joined (p :: t)
  | [] => rfl
  | q :: t => rfl
theorem joined_sep : ∀ (t : List (List Int)), t ≠ [] → joined ([] :: t) = 32 :: joined t
  | [], h => absurd rfl h
  | q :: t, _ => rfl
theorem joined_le (p : List Int) : ∀ (t : List (List Int)), p.length ≤ (joined (p :: t)).length
  | [] => Nat.le_refl _
  | q :: t => by show p.length ≤ (p ++ 32 :: joined (q :: t)).length; simp

theorem cuts_rest : ∀ (l : List Int) (o n : Nat), n < (cuts 32 o l).length → ∃ a, l = a ++ joined (((cuts 32 o l).drop n).map Prod.snd) ∧ ((cuts 32 o l)[n]?.getD (0, [])).1 = o + a.length
  | [], o, n, h => by
    simp [cuts] at h
    subst h
    exact ⟨[], rfl, rfl⟩
  | x :: r, o, n, h => by
    have ih := cuts_rest r (o + 1)
    obtain ⟨p, t, hp⟩ := cuts_head 32 r (o + 1)
    have h0 : r = joined ((cuts 32 (o + 1) r).map Prod.snd) := by
      obtain ⟨a, e1, e2⟩ := ih 0 (by rw [hp]; simp)
      have ha : a = [] := List.eq_nil_of_length_eq_zero (by rw [hp] at e2; simp only [List.getElem?_cons_zero, Option.getD_some] at e2; omega)
      rw [ha] at e1
      simpa using e1
    by_cases hx : x = 32
    · rw [cuts, if_pos hx] at h ⊢
      cases n with
      | zero =>
        refine ⟨[], ?_, rfl⟩
        rw [List.drop_zero, List.map_cons, joined_sep _ (by rw [hp]; simp), ← h0, hx]
        rfl
      | succ n =>
        obtain ⟨a, e1, e2⟩ := ih n (by simpa using h)
        refine ⟨x :: a, ?_, ?_⟩
        · rw [List.drop_succ_cons, List.cons_append, ← e1]
        · rw [List.getElem?_cons_succ, e2, List.length_cons]; omega
    · rw [hp] at ih h0
      rw [cuts_cons_ne hx o r p t hp] at h ⊢
      cases n with
      | zero =>
        refine ⟨[], ?_, rfl⟩
        rw [List.drop_zero, List.map_cons, joined_head, List.nil_append]
        rw [List.map_cons] at h0
        rw [← h0]
      | succ n =>
        obtain ⟨a, e1, e2⟩ := ih (n + 1) (by simpa using h)
        refine ⟨x :: a, ?_, ?_⟩
        · rw [List.drop_succ_cons] at e1 ⊢
          rw [List.cons_append, ← e1]
        · rw [List.getElem?_cons_succ] at e2 ⊢
          rw [e2, List.length_cons]; omega

theorem cuts_pos (sep : Int) (o : Nat) (l : List Int) : 0 < (cuts sep o l).length := by
  obtain ⟨p, t, h⟩ := cuts_head sep l o
  rw [h]; simp
theorem cuts_end (l : List Int) (o : Nat) : endP (cuts 32 o l) = o + l.length := by
  have hp := cuts_pos 32 o l
  obtain ⟨a, e1, e2⟩ := cuts_rest l o ((cuts 32 o l).length - 1) (by omega)
  unfold endP wdP
  rw [e2]
  have hd : (cuts 32 o l).drop ((cuts 32 o l).length - 1) = [(cuts 32 o l)[(cuts 32 o l).length - 1]?.getD (0, [])] := by
    rw [List.drop_eq_getElem_cons (by omega), List.getElem?_eq_getElem (by omega), List.drop_eq_nil_of_le (by omega)]
    rfl
  rw [hd] at e1
  have e3 : l = a ++ ((cuts 32 o l)[(cuts 32 o l).length - 1]?.getD (0, [])).2 := e1
  have := congrArg List.length e3
  rw [List.length_append] at this
  omega

theorem line_fine {bs : List Int} {y : Nat × List Int} (hy : y ∈ cuts 10 0 bs) (hl : y.2.length ≤ 7000) (hb : bs.length ≤ 1000000) (hw : ∀ x ∈ cuts 32 y.1 y.2, fw x.2 = none) : Fine (cuts 32 y.1 y.2) ∧ Lined bs (cuts 32 y.1 y.2) := by
  obtain ⟨a0, b0, hbs, hat⟩ := cuts_in 10 bs 0 y hy
  rw [Nat.zero_add] at hat
  have hlen := congrArg List.length hbs
  rw [List.length_append, List.length_append] at hlen
  have hend := cuts_end y.2 y.1
  refine ⟨⟨cuts_pos _ _ _, ?_, fun x hx => ?_, fun x hx => ?_⟩, ⟨fun n hn => ?_, ?_, by omega⟩⟩
  · have := cuts_len 32 y.2 y.1; omega
  · have := cuts_le hx; omega
  · have := cuts_le hx; omega
  · obtain ⟨a, e1, e2⟩ := cuts_rest y.2 y.1 n hn
    have hmem : ((cuts 32 y.1 y.2)[n]?.getD (0, [])) ∈ cuts 32 y.1 y.2 := by rw [List.getElem?_eq_getElem hn]; exact List.getElem_mem hn
    have hne := (fw_none_inv (hw _ hmem)).1
    have hdr : (cuts 32 y.1 y.2).drop n = ((cuts 32 y.1 y.2)[n]?.getD (0, [])) :: (cuts 32 y.1 y.2).drop (n + 1) := by
      rw [List.getElem?_eq_getElem hn]; exact List.drop_eq_getElem_cons hn
    have hr : restT (cuts 32 y.1 y.2) n = joined (((cuts 32 y.1 y.2).drop n).map Prod.snd) := rfl
    have hge : 1 ≤ (restT (cuts 32 y.1 y.2) n).length := by
      rw [hr, hdr, List.map_cons]
      have := joined_le ((cuts 32 y.1 y.2)[n]?.getD (0, [])).2 (((cuts 32 y.1 y.2).drop (n + 1)).map Prod.snd)
      have := List.length_pos_iff.2 hne
      omega
    rw [← hr] at e1
    have hlen2 := congrArg List.length e1
    rw [List.length_append] at hlen2
    have hwd : wdP (cuts 32 y.1 y.2) n = y.1 + a.length := e2
    refine ⟨by rw [hend, hwd]; omega, ?_, by omega⟩
    rw [hend, hwd, hbs]
    clear hr hdr hwd hend hge e2
    generalize restT (cuts 32 y.1 y.2) n = R at *
    have e3 : a0 ++ (y.2 ++ b0) = (a0 ++ a) ++ (R ++ b0) := by
      have e4 : y.2 ++ b0 = a ++ (R ++ b0) := by rw [← List.append_assoc, ← e1]
      rw [e4, List.append_assoc]
    rw [e3, hat, show a0.length + a.length = (a0 ++ a).length by rw [List.length_append], List.drop_left, List.take_append_of_le_length (by rw [List.length_append]; omega)]
    apply List.take_of_length_le
    rw [List.length_append]; omega
  · rw [hend]; omega

theorem lineF_none {y : Nat × List Int} (h : lineF y = none) (ho : over y.2 = false) : ∀ x ∈ cuts 32 y.1 y.2, fw x.2 = none := by
  intro x hx
  have hl : ¬ 65536 < y.2.length := by
    intro hl
    rw [lineF_long hl] at h; cases h
  rw [lineF_words hl ho] at h
  cases e : fw x.2 with
  | none => rfl
  | some k =>
    exfalso
    have : (cuts 32 y.1 y.2).findSome? wordF ≠ none := by
      intro e2
      rw [List.findSome?_eq_none_iff] at e2
      have := e2 x hx
      rw [wordF_some e] at this; cases this
    exact this h
theorem text_lines {bs : List Int} (h : textF bs = none) {y : Nat × List Int} (hy : y ∈ cuts 10 0 bs) : lineF y = none := by
  unfold textF at h
  split at h
  · cases h
  · exact (List.findSome?_eq_none_iff.1 h) y hy
theorem text_fine {bs : List Int} (hb : bs.length ≤ 1000000) (hl : ∀ y ∈ cuts 10 0 bs, y.2.length ≤ 7000) : ∀ x ∈ textL bs, Fine x.2 ∧ Lined bs x.2 := by
  intro x hx
  unfold textL at hx
  by_cases h : textF bs = none
  · rw [if_pos h] at hx
    obtain ⟨y, hy, he⟩ := List.mem_filterMap.1 hx
    by_cases ho : over y.2 = true
    · rw [lineL_over ho] at he; cases he
    · have ho' : over y.2 = false := by simpa using ho
      rw [lineL_words ho'] at he
      cases he
      exact line_fine hy (hl y hy) hb (lineF_none (text_lines h hy) ho')
  · rw [if_neg h] at hx; cases hx
theorem text_fine' {bs : List Int} (hb : bs.length ≤ 7000) : ∀ x ∈ textL bs, Fine x.2 ∧ Lined bs x.2 :=
  text_fine (by omega) fun y hy => by have := cuts_le hy; omega
end Go.Proofs.YtpdbkjnaicjfdaaGreatDoor
