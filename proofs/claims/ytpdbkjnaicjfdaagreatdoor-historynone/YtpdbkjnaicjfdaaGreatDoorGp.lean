/- Texts of earlier stages over this seat, joined: OpK OpL OpAa OpAc. -/
import Derived.Test.YtpdbkjnaicjfdaaGreatDoorGor
set_option maxRecDepth 100000
namespace Go.Proofs.YtpdbkjnaicjfdaaGreatDoor
open Go.RowKit Go.Maps
set_option linter.unusedVariables false

theorem strs_new (w : World) (ss : List ByteArray) (t : TypeId) (cs : Array Value) (h : cs = (ss.map Value.string).toArray) : Strs (w.alloc (.cells cs t)).heap.size (w.alloc (.cells cs t)) (some ⟨w.heap.size, 0, none⟩) ss := by
  subst h
  intro hl
  refine ⟨w.heap.size, 0, rfl, by simp, fun j hj => ?_⟩
  rw [Nat.zero_add, World.cell?_alloc_new]
  simp [List.getElem?_eq_getElem hj]
theorem strs_nil (B : Nat) (w : World) (A : Option Addr) : Strs B w A [] := fun h => absurd h (by simp)

def sameOp (a1 a2 a3 a4 a5 b1 b2 b3 b4 b5 : Int) : Bool := a1 == b1 && a2 == b2 && a3 == b3 && a4 == b4 && a5 == b5
set_option maxHeartbeats 1000000 in
theorem eql_op (w : World) (a1 a2 a3 a4 a5 b1 b2 b3 b4 b5 : Int) : (binOp .eql 50 (.agg #[.int .i64 a1, .int .i64 a2, .int .i64 a3, .int .i64 a4, .int .i64 a5]) (.agg #[.int .i64 b1, .int .i64 b2, .int .i64 b3, .int .i64 b4, .int .i64 b5])).run Tryz.prog w = .ok (.bool (sameOp a1 a2 a3 a4 a5 b1 b2 b3 b4 b5)) w := by
  unfold sameOp
  cases h1 : (a1 == b1) <;> cases h2 : (a2 == b2) <;> cases h3 : (a3 == b3) <;> cases h4 : (a4 == b4) <;> cases h5 : (a5 == b5)
  all_goals go_simp

end Go.Proofs.YtpdbkjnaicjfdaaGreatDoor

namespace Go.Proofs.YtpdbkjnaicjfdaaGreatDoor
open Go.RowKit Go.Maps
set_option linter.unusedVariables false

def tellsB (kd a b k n : Int) (s : ByteArray) : Bool := textS kd a b k n == s && checkP kd a b k n == 0
def readsB (kd a b k n : Int) (r : Res) : Bool := sameOp r.1.1 r.1.2.1 r.1.2.2.1 r.1.2.2.2.1 r.1.2.2.2.2 kd a b k n && r.2.1 == 0 && r.2.2 == 0
def failsB (pos err : Int) (r : Res) : Bool := sameOp r.1.1 r.1.2.1 r.1.2.2.1 r.1.2.2.2.1 r.1.2.2.2.2 0 0 0 0 0 && r.2.1 == pos && r.2.2 == err

end Go.Proofs.YtpdbkjnaicjfdaaGreatDoor

namespace Go.Proofs.YtpdbkjnaicjfdaaGreatDoor
open Go.RowKit Go.Maps
set_option linter.unusedVariables false

theorem get_back {s : ByteArray} (h : getB s = true) : putB (getN s.data.toList) = s ∧ I64 (getN s.data.toList) := by
  have := put_get s.data.toList (getB_iff h)
  refine ⟨?_, this.2⟩
  unfold putB
  rw [this.1]
theorem put_back {n : Int} (h : I64 n) : getB (putB n) = true ∧ getN (putB n).data.toList = n := by
  have e : (putB n).data.toList = putL n := rfl
  have := get_put n h.1 h.2
  exact ⟨by unfold getB; rw [e, this.2.1]; rfl, by rw [e, this.1]⟩
theorem ret_back {s : ByteArray} (h : rtB s = true) : retB (rtK s) (rtN s) = s ∧ I64 (rtN s) := by
  unfold rtB at h
  unfold rtK rtN
  by_cases h1 : (s == okB) = true
  · rw [if_pos h1, if_pos h1]
    exact ⟨(eq_of_beq h1).symm, by unfold I64; omega⟩
  · rw [if_neg h1] at h ⊢
    rw [if_neg h1]
    by_cases h2 : (s == noneB) = true
    · rw [if_pos h2, if_pos h2]
      exact ⟨(eq_of_beq h2).symm, by unfold I64; omega⟩
    · rw [if_neg h2] at h ⊢
      rw [if_neg h2]
      exact get_back h
theorem putB_not (n : Int) (s : ByteArray) (h : ∃ x ∈ nums s, 57 < x) : (putB n == s) = false := by
  rw [beq_eq_false_iff_ne]
  rintro rfl
  obtain ⟨x, hx, h57⟩ := h
  rw [nums_putB] at hx
  have := putI_bytes n x hx
  omega
theorem ret_told {m : Nat} {k n : Int} (h : okR m k n = true) (hn : I64 n) : rtB (retB k n) = true ∧ rtK (retB k n) = k ∧ rtN (retB k n) = n := by
  have hk : (k = 0 ∧ n = 0) ∨ (k = 1 ∧ n = 0) ∨ k = 2 := by
    match m with
    | 0 =>
      have h' : (k == 0 && n == 0) = true := h
      simp at h'; omega
    | 1 =>
      have h' : (k == 2) = true := h
      simp at h'; omega
    | 2 =>
      have h' : (k == 2 && (n == 0 || n == 1)) = true := h
      simp at h'; omega
    | 3 =>
      have h' : (k == 2 && (decide (0 ≤ n) && decide (n ≤ 4611686018427387904))) = true := h
      simp at h'; omega
    | m + 4 =>
      have h' : (k == 2 || (k == 1 && n == 0)) = true := h
      simp at h'; omega
  rcases hk with ⟨rfl, rfl⟩ | ⟨rfl, rfl⟩ | rfl
  · exact ⟨by decide, by decide, by decide⟩
  · exact ⟨by decide, by decide, by decide⟩
  · have e : retB 2 n = putB n := rfl
    have h1 := putB_not n okB ⟨111, by decide, by decide⟩
    have h2 := putB_not n noneB ⟨110, by decide, by decide⟩
    have h3 := put_back hn
    rw [e]
    refine ⟨?_, ?_, ?_⟩
    · unfold rtB; rw [h1, h2]; exact h3.1
    · unfold rtK; rw [h1, h2]; rfl
    · unfold rtN; rw [h1, h2]; exact h3.2

/-- From the arrow on. -/
theorem tail_read (i : Nat) (a b : Int) (r : List ByteArray) (h : (takeP (argN i + 1) r (stI i a b 0 0)).2.1 = 0) : ∃ s, r = [arrB, s] ∧ rtB s = true ∧ takeP (argN i + 1) r (stI i a b 0 0) = (argN i + 3, 0, stI i a b (rtK s) (rtN s)) := by
  match r with
  | [] => rw [take_short i _ a b 0 0 (by omega)] at h; exact absurd (show (5 : Int) = 0 from h) (by decide)
  | x :: r =>
    cases hx : (x == arrB) with
    | false =>
      have := (take_arr_bad i a b 0 0 x r hx).2
      rw [h] at this
      exact absurd this (by decide)
    | true =>
      rw [take_arr i a b 0 0 x r hx] at h ⊢
      match r with
      | [] => rw [take_short i _ a b 0 0 (by omega)] at h; exact absurd (show (5 : Int) = 0 from h) (by decide)
      | s :: r =>
        cases hs : rtB s with
        | false =>
          have := (take_ret_bad i a b 0 0 s r hs).2
          rw [h] at this
          exact absurd this (by decide)
        | true =>
          rw [take_ret i a b s r hs] at h ⊢
          match r with
          | [] => exact ⟨s, by rw [eq_of_beq hx], hs, take_full i a b _ _⟩
          | y :: r => rw [take_over] at h; exact absurd (show (5 : Int) = 0 from h) (by decide)

/-- Words that are taken are an operation's. -/
theorem words_read (i : Nat) (r : List ByteArray) (h : (takeP 1 r (stI i 0 0 0 0)).2.1 = 0) : ∃ a b k n, I64 a ∧ I64 b ∧ I64 n ∧ r = argW (argN i) a b ++ [arrB, retB k n] ∧ takeP 1 r (stI i 0 0 0 0) = (argN i + 3, 0, stI i a b k n) := by
  have hm := argN_le i
  have z : I64 0 := by unfold I64; omega
  obtain h0 | h0 | h0 : argN i = 0 ∨ argN i = 1 ∨ argN i = 2 := by omega
  · have e1 : argN i + 1 = 1 := by omega
    have h' := tail_read i 0 0 r (by rw [e1]; exact h)
    rw [e1] at h'
    obtain ⟨s, rfl, hs, ht⟩ := h'
    refine ⟨0, 0, rtK s, rtN s, z, z, (ret_back hs).2, ?_, ht⟩
    rw [h0, (ret_back hs).1]; rfl
  · match r with
    | [] => rw [take_short i _ 0 0 0 0 (by omega)] at h; exact absurd (show (5 : Int) = 0 from h) (by decide)
    | x :: r =>
      cases hx : getB x with
      | false =>
        have := (take_arg_bad i 1 0 0 0 0 x r (by omega) (by omega) hx).2
        rw [h] at this
        exact absurd this (by decide)
      | true =>
        rw [take_A i 0 0 0 0 x r (by omega) hx] at h ⊢
        have e1 : argN i + 1 = 2 := by omega
        have h' := tail_read i (getN x.data.toList) 0 r (by rw [e1]; exact h)
        rw [e1] at h'
        obtain ⟨s, rfl, hs, ht⟩ := h'
        refine ⟨getN x.data.toList, 0, rtK s, rtN s, (get_back hx).2, z, (ret_back hs).2, ?_, ht⟩
        rw [h0, (ret_back hs).1]
        show _ = [putB (getN x.data.toList)] ++ _
        rw [(get_back hx).1]; rfl
  · match r with
    | [] => rw [take_short i _ 0 0 0 0 (by omega)] at h; exact absurd (show (5 : Int) = 0 from h) (by decide)
    | x :: r =>
      cases hx : getB x with
      | false =>
        have := (take_arg_bad i 1 0 0 0 0 x r (by omega) (by omega) hx).2
        rw [h] at this
        exact absurd this (by decide)
      | true =>
        rw [take_A i 0 0 0 0 x r (by omega) hx] at h ⊢
        match r with
        | [] => rw [take_short i _ _ 0 0 0 (by omega)] at h; exact absurd (show (5 : Int) = 0 from h) (by decide)
        | y :: r =>
          cases hy : getB y with
          | false =>
            have := (take_arg_bad i 2 (getN x.data.toList) 0 0 0 y r (by omega) (by omega) hy).2
            rw [h] at this
            exact absurd this (by decide)
          | true =>
            rw [take_B i _ 0 0 0 y r (by omega) hy] at h ⊢
            have e1 : argN i + 1 = 3 := by omega
            have h' := tail_read i (getN x.data.toList) (getN y.data.toList) r (by rw [e1]; exact h)
            rw [e1] at h'
            obtain ⟨s, rfl, hs, ht⟩ := h'
            refine ⟨getN x.data.toList, getN y.data.toList, rtK s, rtN s, (get_back hx).2, (get_back hy).2, (ret_back hs).2, ?_, ht⟩
            rw [h0, (ret_back hs).1]
            show _ = [putB (getN x.data.toList), putB (getN y.data.toList)] ++ _
            rw [(get_back hx).1, (get_back hy).1]; rfl

/-- What is read is an operation's words. -/
theorem read_only (ws : List ByteArray) (h : (readP ws).2.2 = 0) : ∃ i a b k n, i < 15 ∧ I64 a ∧ I64 b ∧ I64 n ∧ checkI i a b k n = 0 ∧ ws = opW i a b k n ∧ readP ws = (((i : Int) + 1, a, b, k, n), 0, 0) := by
  unfold readP at h ⊢
  by_cases hx : (takeP 0 ws st1).2.1 = 0
  · match ws with
    | [] => exact absurd (show (5 : Int) = 0 from hx) (by decide)
    | s :: r =>
      cases hw : wordI s with
      | none =>
        have := (take_noword s r hw).2
        rw [hx] at this
        exact absurd this (by decide)
      | some i =>
        rw [take_word s r i hw] at h hx ⊢
        obtain ⟨a, b, k, n, ha, hb, hn, hr, ht⟩ := words_read i r hx
        rw [ht, readR_done] at h ⊢
        have hc := check_le i a b k n
        have hc0 : checkI i a b k n = 0 := by
          rcases hc with hc | hc | hc
          · exact hc
          · rw [hc] at h; exact absurd (show (2 : Int) = 0 from h) (by decide)
          · rw [hc] at h; exact absurd (show (9 : Int) = 0 from h) (by decide)
        refine ⟨i, a, b, k, n, (wordI_lt hw).1, ha, hb, hn, hc0, ?_, ?_⟩
        · rw [opW, (wordI_lt hw).2, hr]
        · rw [if_pos hc0]
  · unfold readR at h
    rw [if_neg hx] at h
    exact absurd h hx

/-- What is not read is told as none, with a place among the words. -/
theorem take_le : ∀ (ws : List ByteArray) (i : Nat) (st : op_St), (takeP i ws st).1 ≤ i + ws.length
  | [], i, st => by unfold takeP; split <;> exact Nat.le_refl _
  | s :: r, i, st => by
    unfold takeP
    split
    · simp
    · split
      · have := take_le r (i + 1) (stepS (st.steps[i]?.getD 0) s st)
        rw [List.length_cons]; omega
      · simp
theorem read_fail (ws : List ByteArray) (h : (readP ws).2.2 ≠ 0) : (readP ws).1 = (0, 0, 0, 0, 0) ∧ 0 ≤ (readP ws).2.1 ∧ (readP ws).2.1 ≤ ws.length := by
  unfold readP at h ⊢
  by_cases hx : (takeP 0 ws st1).2.1 = 0
  · match ws with
    | [] => exact absurd (show (5 : Int) = 0 from hx) (by decide)
    | s :: r =>
      cases hw : wordI s with
      | none =>
        have := (take_noword s r hw).2
        rw [hx] at this
        exact absurd this (by decide)
      | some i =>
        rw [take_word s r i hw] at h hx ⊢
        obtain ⟨a, b, k, n, ha, hb, hn, hr, ht⟩ := words_read i r hx
        rw [ht, readR_done] at h ⊢
        rcases check_le i a b k n with hc | hc | hc
        · rw [if_pos hc] at h; exact absurd rfl h
        · rw [if_neg (by rw [hc]; decide), if_pos hc]
          exact ⟨rfl, by decide, by simp; omega⟩
        · rw [if_neg (by rw [hc]; decide), if_neg (by rw [hc]; decide)]
          refine ⟨rfl, ?_, ?_⟩
          · show (0 : Int) ≤ (((s :: r).length : Nat) : Int) - 1
            rw [List.length_cons]; omega
          · show (((s :: r).length : Nat) : Int) - 1 ≤ _
            omega
  · unfold readR
    rw [if_neg hx]
    have := take_le ws 0 st1
    exact ⟨rfl, by show (0 : Int) ≤ ((takeP 0 ws st1).1 : Int); omega, by show ((takeP 0 ws st1).1 : Int) ≤ _; omega⟩

theorem text_told {i : Nat} {a b k n : Int} (hi : i < 15) (hc : checkI i a b k n = 0) : checkP ((i : Int) + 1) a b k n = 0 ∧ textS ((i : Int) + 1) a b k n = strOfNums (jl (opW i a b k n)) ∧ tellsB ((i : Int) + 1) a b k n (strOfNums (jl (opW i a b k n))) = true := by
  have h1 : checkP ((i : Int) + 1) a b k n = 0 := by unfold checkP; rw [kindI_in i hi]; exact hc
  have h2 : textS ((i : Int) + 1) a b k n = strOfNums (jl (opW i a b k n)) := by
    unfold textS
    rw [kindI_in i hi]
    simp only
    rw [if_pos hc]
  refine ⟨h1, h2, ?_⟩
  unfold tellsB
  rw [h1, h2]
  simp
end Go.Proofs.YtpdbkjnaicjfdaaGreatDoor

namespace Go.Proofs.YtpdbkjnaicjfdaaGreatDoor
open Go.RowKit Go.Maps
set_option linter.unusedVariables false

theorem one_text (ss : List ByteArray) (h : joinOk ss = true) (hl : (jl ss).length ≤ 65536) : textF (jl ss) = none ∧ textL (jl ss) = [(0, wat 0 ss)] := by
  obtain ⟨ho, hf, hne⟩ := jl_over ss h
  have hc : cuts 10 0 (jl ss) = [(0, jl ss)] := cuts_none _ _ (jl_ten ss hf)
  have h3 : lineF (0, jl ss) = none := by
    rw [lineF_words (x := (0, jl ss)) (by simp; omega) ho]
    show (cuts 32 0 (jl ss)).findSome? wordF = none
    rw [jl_cuts ss 0 hne hf]; exact wat_fine ss 0 hf
  have h1 : textF (jl ss) = none := by
    unfold textF
    rw [if_neg (by omega), hc]
    simp only [List.findSome?_cons, List.findSome?_nil]
    rw [h3]
  refine ⟨h1, ?_⟩
  rw [textL, if_pos h1, hc]
  have e4 : lineL (0, jl ss) = some (0, wat 0 ss) := by
    rw [lineL_words (x := (0, jl ss)) ho]
    show some (0, cuts 32 0 (jl ss)) = _
    rw [jl_cuts ss 0 hne hf]
  simp only [List.filterMap_cons, List.filterMap_nil]
  rw [e4]

theorem check_args {i : Nat} (hi : i < 15) {a b k n : Int} (h : checkI i a b k n = 0) : (argN i < 1 → a = 0) ∧ (argN i < 2 → b = 0) ∧ okR (mR i) k n = true := by
  rw [check_eq i hi] at h
  by_cases hp : ((argN i < 1 ∧ a ≠ 0) ∨ (argN i < 2 ∧ b ≠ 0) ∨ (objN i = 5 ∧ (a < 0 ∨ 4611686018427387904 < a)))
  · rw [if_pos hp] at h; exact absurd h (by decide)
  · rw [if_neg hp] at h
    refine ⟨fun q => ?_, fun q => ?_, ?_⟩
    · by_cases ha : a = 0
      · exact ha
      · exact absurd (.inl ⟨q, ha⟩) hp
    · by_cases hb : b = 0
      · exact hb
      · exact absurd (.inr (.inl ⟨q, hb⟩)) hp
    · rw [← rok_ok i hi]
      cases hr : rokR (rR i) k n with
      | true => rfl
      | false => rw [hr] at h; exact absurd h (by decide)

theorem take_head (i : Nat) (hi : i < 15) (a b : Int) (ha : I64 a) (hb : I64 b) (h1 : argN i < 1 → a = 0) (h2 : argN i < 2 → b = 0) (r : List ByteArray) :
    takeP 0 (op_wordB i :: (argW (argN i) a b ++ arrB :: r)) st1 = takeP (argN i + 2) r (stI i a b 0 0) := by
  have hm := argN_le i
  rw [take_word _ _ i (wordI_in i hi)]
  have hA := put_back ha
  have hBb := put_back hb
  have harr : (arrB == arrB) = true := by simp
  obtain h0 | h0 | h0 : argN i = 0 ∨ argN i = 1 ∨ argN i = 2 := by omega
  · obtain rfl := h1 (by omega)
    obtain rfl := h2 (by omega)
    have := take_arr i 0 0 0 0 arrB r harr
    rw [h0] at this ⊢
    exact this
  · obtain rfl := h2 (by omega)
    have e : argW (argN i) a 0 ++ arrB :: r = putB a :: (arrB :: r) := by rw [h0]; rfl
    rw [e, take_A i 0 0 0 0 _ _ (by omega) hA.1, hA.2]
    have := take_arr i a 0 0 0 arrB r harr
    rw [h0] at this ⊢
    exact this
  · have e : argW (argN i) a b ++ arrB :: r = putB a :: putB b :: (arrB :: r) := by rw [h0]; rfl
    rw [e, take_A i 0 0 0 0 _ _ (by omega) hA.1, hA.2, take_B i _ 0 0 0 _ _ (by omega) hBb.1, hBb.2]
    have := take_arr i a b 0 0 arrB r harr
    rw [h0] at this ⊢
    exact this

theorem op_read_told {i : Nat} (hi : i < 15) {a b k n : Int} (ha : I64 a) (hb : I64 b) (hn : I64 n) (h : checkI i a b k n = 0) :
    readP (opW i a b k n) = (((i : Int) + 1, a, b, k, n), 0, 0) ∧ (∀ x, (readP (opW i a b k n ++ [x])).2.2 = 5) ∧ (readP (opW i a b k n).dropLast).2.2 = 5 := by
  obtain ⟨h1, h2, hr⟩ := check_args hi h
  obtain ⟨t1, t2, t3⟩ := ret_told hr hn
  have e : ∀ r, op_wordB i :: (argW (argN i) a b ++ arrB :: r) = op_wordB i :: (argW (argN i) a b ++ [arrB]) ++ r := fun r => by simp
  refine ⟨?_, fun x => ?_, ?_⟩
  · have e1 : opW i a b k n = op_wordB i :: (argW (argN i) a b ++ arrB :: [retB k n]) := rfl
    unfold readP
    rw [e1, take_head i hi a b ha hb h1 h2, take_ret i a b _ _ t1, t2, t3, take_full, readR_done, if_pos h]
  · have e1 : opW i a b k n ++ [x] = op_wordB i :: (argW (argN i) a b ++ arrB :: [retB k n, x]) := by rw [opW]; simp
    unfold readP
    rw [e1, take_head i hi a b ha hb h1 h2, take_ret i a b _ _ t1, t2, t3, take_over, readR_bad (p := (argN i : Int) + 3) (e := 5) rfl rfl (by decide)]
  · have e1 : (opW i a b k n).dropLast = op_wordB i :: (argW (argN i) a b ++ arrB :: []) := by
      have : opW i a b k n = (op_wordB i :: (argW (argN i) a b ++ arrB :: [])) ++ [retB k n] := by rw [opW]; simp
      rw [this, List.dropLast_concat]
    unfold readP
    rw [e1, take_head i hi a b ha hb h1 h2, take_short i _ a b 0 0 (by omega), readR_bad (p := (argN i : Int) + 2) (e := 5) rfl rfl (by decide)]

theorem not_read {kd a b k n : Int} {r : Res} (h : r.2.2 = 5) : readsB kd a b k n r = false := by
  unfold readsB
  rw [h]
  simp
theorem is_read {kd a b k n : Int} {r : Res} (h : r = ((kd, a, b, k, n), 0, 0)) : readsB kd a b k n r = true := by
  rw [h]
  simp [readsB, sameOp]
end Go.Proofs.YtpdbkjnaicjfdaaGreatDoor
