/- What is read is told, and what is told is read (pure). -/
import Derived.Test.YtmpglmepmdpjoaaOpX
import Derived.Test.YtmpglmepmdpjoaaPlainB
namespace Go.Proofs.Ytmpglmepmdpjoaa
open Go.RowKit Go.Maps
set_option linter.unusedVariables false

theorem get_back {s : ByteArray} (h : getB s = true) : putB (getN s.data.toList) = s ∧ I64 (getN s.data.toList) := by
  have := put_get s.data.toList (getB_iff h)
  refine ⟨?_, this.2⟩
  unfold putB
  rw [this.1]
theorem put_back {n : Int} (h : I64 n) : getB (putB n) = true ∧ getN (putB n).data.toList = n := by
  have e : (putB n).data.toList = putL n := rfl
  have := get_put n h.1 h.2
  exact ⟨by unfold getB; rw [e, this.2.1]; rfl, by rw [e, this.1]⟩
theorem ret_back {s : ByteArray} (h : rtB s = true) : retB (rtK s) (rtN s) = s ∧ I64 (rtN s) := by
  unfold rtB at h
  unfold rtK rtN
  by_cases h1 : (s == okB) = true
  · rw [if_pos h1, if_pos h1]
    exact ⟨(eq_of_beq h1).symm, by unfold I64; omega⟩
  · rw [if_neg h1] at h ⊢
    rw [if_neg h1]
    by_cases h2 : (s == noneB) = true
    · rw [if_pos h2, if_pos h2]
      exact ⟨(eq_of_beq h2).symm, by unfold I64; omega⟩
    · rw [if_neg h2] at h ⊢
      rw [if_neg h2]
      exact get_back h
theorem putB_not (n : Int) (s : ByteArray) (h : ∃ x ∈ nums s, 57 < x) : (putB n == s) = false := by
  rw [beq_eq_false_iff_ne]
  rintro rfl
  obtain ⟨x, hx, h57⟩ := h
  rw [nums_putB] at hx
  have := putI_bytes n x hx
  omega
theorem ret_told {m : Nat} {k n : Int} (h : okR m k n = true) (hn : I64 n) : rtB (retB k n) = true ∧ rtK (retB k n) = k ∧ rtN (retB k n) = n := by
  have hk : (k = 0 ∧ n = 0) ∨ (k = 1 ∧ n = 0) ∨ k = 2 := by
    match m with
    | 0 =>
      have h' : (k == 0 && n == 0) = true := h
      simp at h'; omega
    | 1 =>
      have h' : (k == 2) = true := h
      simp at h'; omega
    | 2 =>
      have h' : (k == 2 && (n == 0 || n == 1)) = true := h
      simp at h'; omega
    | 3 =>
      have h' : (k == 2 && (decide (0 ≤ n) && decide (n ≤ 4611686018427387904))) = true := h
      simp at h'; omega
    | m + 4 =>
      have h' : (k == 2 || (k == 1 && n == 0)) = true := h
      simp at h'; omega
  rcases hk with ⟨rfl, rfl⟩ | ⟨rfl, rfl⟩ | rfl
  · exact ⟨by decide, by decide, by decide⟩
  · exact ⟨by decide, by decide, by decide⟩
  · have e : retB 2 n = putB n := rfl
    have h1 := putB_not n okB ⟨111, by decide, by decide⟩
    have h2 := putB_not n noneB ⟨110, by decide, by decide⟩
    have h3 := put_back hn
    rw [e]
    refine ⟨?_, ?_, ?_⟩
    · unfold rtB; rw [h1, h2]; exact h3.1
    · unfold rtK; rw [h1, h2]; rfl
    · unfold rtN; rw [h1, h2]; exact h3.2

/-- From the arrow on. -/
theorem tail_read (i : Nat) (a b : Int) (r : List ByteArray) (h : (takeP (argN i + 1) r (stI i a b 0 0)).2.1 = 0) : ∃ s, r = [arrB, s] ∧ rtB s = true ∧ takeP (argN i + 1) r (stI i a b 0 0) = (argN i + 3, 0, stI i a b (rtK s) (rtN s)) := by
  match r with
  | [] => rw [take_short i _ a b 0 0 (by omega)] at h; exact absurd (show (5 : Int) = 0 from h) (by decide)
  | x :: r =>
    cases hx : (x == arrB) with
    | false =>
      have := (take_arr_bad i a b 0 0 x r hx).2
      rw [h] at this
      exact absurd this (by decide)
    | true =>
      rw [take_arr i a b 0 0 x r hx] at h ⊢
      match r with
      | [] => rw [take_short i _ a b 0 0 (by omega)] at h; exact absurd (show (5 : Int) = 0 from h) (by decide)
      | s :: r =>
        cases hs : rtB s with
        | false =>
          have := (take_ret_bad i a b 0 0 s r hs).2
          rw [h] at this
          exact absurd this (by decide)
        | true =>
          rw [take_ret i a b s r hs] at h ⊢
          match r with
          | [] => exact ⟨s, by rw [eq_of_beq hx], hs, take_full i a b _ _⟩
          | y :: r => rw [take_over] at h; exact absurd (show (5 : Int) = 0 from h) (by decide)

/-- Words that are taken are an operation's. -/
theorem words_read (i : Nat) (r : List ByteArray) (h : (takeP 1 r (stI i 0 0 0 0)).2.1 = 0) : ∃ a b k n, I64 a ∧ I64 b ∧ I64 n ∧ r = argW (argN i) a b ++ [arrB, retB k n] ∧ takeP 1 r (stI i 0 0 0 0) = (argN i + 3, 0, stI i a b k n) := by
  have hm := argN_le i
  have z : I64 0 := by unfold I64; omega
  obtain h0 | h0 | h0 : argN i = 0 ∨ argN i = 1 ∨ argN i = 2 := by omega
  · have e1 : argN i + 1 = 1 := by omega
    have h' := tail_read i 0 0 r (by rw [e1]; exact h)
    rw [e1] at h'
    obtain ⟨s, rfl, hs, ht⟩ := h'
    refine ⟨0, 0, rtK s, rtN s, z, z, (ret_back hs).2, ?_, ht⟩
    rw [h0, (ret_back hs).1]; rfl
  · match r with
    | [] => rw [take_short i _ 0 0 0 0 (by omega)] at h; exact absurd (show (5 : Int) = 0 from h) (by decide)
    | x :: r =>
      cases hx : getB x with
      | false =>
        have := (take_arg_bad i 1 0 0 0 0 x r (by omega) (by omega) hx).2
        rw [h] at this
        exact absurd this (by decide)
      | true =>
        rw [take_A i 0 0 0 0 x r (by omega) hx] at h ⊢
        have e1 : argN i + 1 = 2 := by omega
        have h' := tail_read i (getN x.data.toList) 0 r (by rw [e1]; exact h)
        rw [e1] at h'
        obtain ⟨s, rfl, hs, ht⟩ := h'
        refine ⟨getN x.data.toList, 0, rtK s, rtN s, (get_back hx).2, z, (ret_back hs).2, ?_, ht⟩
        rw [h0, (ret_back hs).1]
        show _ = [putB (getN x.data.toList)] ++ _
        rw [(get_back hx).1]; rfl
  · match r with
    | [] => rw [take_short i _ 0 0 0 0 (by omega)] at h; exact absurd (show (5 : Int) = 0 from h) (by decide)
    | x :: r =>
      cases hx : getB x with
      | false =>
        have := (take_arg_bad i 1 0 0 0 0 x r (by omega) (by omega) hx).2
        rw [h] at this
        exact absurd this (by decide)
      | true =>
        rw [take_A i 0 0 0 0 x r (by omega) hx] at h ⊢
        match r with
        | [] => rw [take_short i _ _ 0 0 0 (by omega)] at h; exact absurd (show (5 : Int) = 0 from h) (by decide)
        | y :: r =>
          cases hy : getB y with
          | false =>
            have := (take_arg_bad i 2 (getN x.data.toList) 0 0 0 y r (by omega) (by omega) hy).2
            rw [h] at this
            exact absurd this (by decide)
          | true =>
            rw [take_B i _ 0 0 0 y r (by omega) hy] at h ⊢
            have e1 : argN i + 1 = 3 := by omega
            have h' := tail_read i (getN x.data.toList) (getN y.data.toList) r (by rw [e1]; exact h)
            rw [e1] at h'
            obtain ⟨s, rfl, hs, ht⟩ := h'
            refine ⟨getN x.data.toList, getN y.data.toList, rtK s, rtN s, (get_back hx).2, (get_back hy).2, (ret_back hs).2, ?_, ht⟩
            rw [h0, (ret_back hs).1]
            show _ = [putB (getN x.data.toList), putB (getN y.data.toList)] ++ _
            rw [(get_back hx).1, (get_back hy).1]; rfl

/-- What is read is an operation's words. -/
theorem read_only (ws : List ByteArray) (h : (readP ws).2.2 = 0) : ∃ i a b k n, i < 15 ∧ I64 a ∧ I64 b ∧ I64 n ∧ checkI i a b k n = 0 ∧ ws = opW i a b k n ∧ readP ws = (((i : Int) + 1, a, b, k, n), 0, 0) := by
  unfold readP at h ⊢
  by_cases hx : (takeP 0 ws st1).2.1 = 0
  · match ws with
    | [] => exact absurd (show (5 : Int) = 0 from hx) (by decide)
    | s :: r =>
      cases hw : wordI s with
      | none =>
        have := (take_noword s r hw).2
        rw [hx] at this
        exact absurd this (by decide)
      | some i =>
        rw [take_word s r i hw] at h hx ⊢
        obtain ⟨a, b, k, n, ha, hb, hn, hr, ht⟩ := words_read i r hx
        rw [ht, readR_done] at h ⊢
        have hc := check_le i a b k n
        have hc0 : checkI i a b k n = 0 := by
          rcases hc with hc | hc | hc
          · exact hc
          · rw [hc] at h; exact absurd (show (2 : Int) = 0 from h) (by decide)
          · rw [hc] at h; exact absurd (show (9 : Int) = 0 from h) (by decide)
        refine ⟨i, a, b, k, n, (wordI_lt hw).1, ha, hb, hn, hc0, ?_, ?_⟩
        · rw [opW, (wordI_lt hw).2, hr]
        · rw [if_pos hc0]
  · unfold readR at h
    rw [if_neg hx] at h
    exact absurd h hx

/-- What is not read is told as none, with a place among the words. -/
theorem take_le : ∀ (ws : List ByteArray) (i : Nat) (st : St), (takeP i ws st).1 ≤ i + ws.length
  | [], i, st => by unfold takeP; split <;> exact Nat.le_refl _
  | s :: r, i, st => by
    unfold takeP
    split
    · simp
    · split
      · have := take_le r (i + 1) (stepS (st.steps[i]?.getD 0) s st)
        rw [List.length_cons]; omega
      · simp
theorem read_fail (ws : List ByteArray) (h : (readP ws).2.2 ≠ 0) : (readP ws).1 = (0, 0, 0, 0, 0) ∧ 0 ≤ (readP ws).2.1 ∧ (readP ws).2.1 ≤ ws.length := by
  unfold readP at h ⊢
  by_cases hx : (takeP 0 ws st1).2.1 = 0
  · match ws with
    | [] => exact absurd (show (5 : Int) = 0 from hx) (by decide)
    | s :: r =>
      cases hw : wordI s with
      | none =>
        have := (take_noword s r hw).2
        rw [hx] at this
        exact absurd this (by decide)
      | some i =>
        rw [take_word s r i hw] at h hx ⊢
        obtain ⟨a, b, k, n, ha, hb, hn, hr, ht⟩ := words_read i r hx
        rw [ht, readR_done] at h ⊢
        rcases check_le i a b k n with hc | hc | hc
        · rw [if_pos hc] at h; exact absurd rfl h
        · rw [if_neg (by rw [hc]; decide), if_pos hc]
          exact ⟨rfl, by decide, by simp; omega⟩
        · rw [if_neg (by rw [hc]; decide), if_neg (by rw [hc]; decide)]
          refine ⟨rfl, ?_, ?_⟩
          · show (0 : Int) ≤ (((s :: r).length : Nat) : Int) - 1
            rw [List.length_cons]; omega
          · show (((s :: r).length : Nat) : Int) - 1 ≤ _
            omega
  · unfold readR
    rw [if_neg hx]
    have := take_le ws 0 st1
    exact ⟨rfl, by show (0 : Int) ≤ ((takeP 0 ws st1).1 : Int); omega, by show ((takeP 0 ws st1).1 : Int) ≤ _; omega⟩

theorem text_told {i : Nat} {a b k n : Int} (hi : i < 15) (hc : checkI i a b k n = 0) : checkP ((i : Int) + 1) a b k n = 0 ∧ textS ((i : Int) + 1) a b k n = strOfNums (jl (opW i a b k n)) ∧ tellsB ((i : Int) + 1) a b k n (strOfNums (jl (opW i a b k n))) = true := by
  have h1 : checkP ((i : Int) + 1) a b k n = 0 := by unfold checkP; rw [kindI_in i hi]; exact hc
  have h2 : textS ((i : Int) + 1) a b k n = strOfNums (jl (opW i a b k n)) := by
    unfold textS
    rw [kindI_in i hi]
    simp only
    rw [if_pos hc]
  refine ⟨h1, h2, ?_⟩
  unfold tellsB
  rw [h1, h2]
  simp
end Go.Proofs.Ytmpglmepmdpjoaa
