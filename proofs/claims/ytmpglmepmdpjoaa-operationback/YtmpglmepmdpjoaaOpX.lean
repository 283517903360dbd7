/- The document's Read: the reader's steps, told beside its loop (pure). -/
import Derived.Test.YtmpglmepmdpjoaaOpW
namespace Go.Proofs.Ytmpglmepmdpjoaa
open Go.RowKit Go.Maps
set_option linter.unusedVariables false

def stepsI (i : Nat) : List Nat := [0] ++ ([1, 2].take (argN i) ++ [3, 4])
def stI (i : Nat) (a b k n : Int) : St := ⟨some i, (i : Int) + 1, a, b, k, n, stepsI i⟩
theorem steps_len (i : Nat) : (stepsI i).length = argN i + 3 := by
  have := argN_le i
  unfold stepsI
  generalize argN i = m at *
  obtain rfl | rfl | rfl : m = 0 ∨ m = 1 ∨ m = 2 := by omega
  all_goals rfl
theorem steps_arg (i j : Nat) (h1 : 1 ≤ j) (h : j ≤ argN i) : (stepsI i)[j]?.getD 0 = j := by
  have := argN_le i
  unfold stepsI
  generalize argN i = m at *
  obtain rfl | rfl | rfl : m = 0 ∨ m = 1 ∨ m = 2 := by omega
  · omega
  · obtain rfl : j = 1 := by omega
    rfl
  · obtain rfl | rfl : j = 1 ∨ j = 2 := by omega
    all_goals rfl
theorem steps_arrow (i : Nat) : (stepsI i)[argN i + 1]?.getD 0 = 3 := by
  have := argN_le i
  unfold stepsI
  generalize argN i = m at *
  obtain rfl | rfl | rfl : m = 0 ∨ m = 1 ∨ m = 2 := by omega
  all_goals rfl
theorem steps_last (i : Nat) : (stepsI i)[argN i + 2]?.getD 0 = 4 := by
  have := argN_le i
  unfold stepsI
  generalize argN i = m at *
  obtain rfl | rfl | rfl : m = 0 ∨ m = 1 ∨ m = 2 := by omega
  all_goals rfl

theorem take_none : takeP 0 [] st1 = (0, 5, st1) := rfl
theorem take_noword (s : ByteArray) (r : List ByteArray) (h : wordI s = none) : (takeP 0 (s :: r) st1).1 = 0 ∧ (takeP 0 (s :: r) st1).2.1 = 6 := by
  have e : stepE 0 s = 6 := by show errOf (wordI s) = 6; rw [h]; rfl
  have e2 : takeP 0 (s :: r) st1 = (0, stepE 0 s, stepS 0 s st1) := by
    unfold takeP
    rw [if_neg (by decide), if_neg (by rw [show (st1.steps[0]?.getD 0) = 0 from rfl, e]; decide)]
    rfl
  rw [e2, e]
  exact ⟨rfl, rfl⟩
theorem take_word (s : ByteArray) (r : List ByteArray) (i : Nat) (h : wordI s = some i) : takeP 0 (s :: r) st1 = takeP 1 r (stI i 0 0 0 0) := by
  have e : stepE 0 s = 0 := by show errOf (wordI s) = 0; rw [h]; rfl
  have e3 : stepS 0 s st1 = stI i 0 0 0 0 := by show kindSt s st1 = _; unfold kindSt; rw [h]; rfl
  conv => lhs; unfold takeP
  rw [if_neg (by decide), show (st1.steps[0]?.getD 0) = 0 from rfl, if_pos e, e3]

theorem fill_zero {s : ByteArray} {e : Int} (h : getB s = true) : fillE s e = 0 := by
  unfold getB at h
  unfold fillE
  rw [if_pos (by simpa using h)]
theorem fill_not {s : ByteArray} {e : Int} (h : getB s = false) : fillE s e = e := by
  unfold getB at h
  unfold fillE
  rw [if_neg (by simpa using h)]
theorem getB_iff {s : ByteArray} (h : getB s = true) : getE s.data.toList = 0 := by unfold getB at h; simpa using h

theorem take_step (i j : Nat) (a b k n : Int) (s : ByteArray) (r : List ByteArray) (hj : j < argN i + 3) (c : Nat) (hc : (stepsI i)[j]?.getD 0 = c) :
    takeP j (s :: r) (stI i a b k n) = if stepE c s = 0 then takeP (j + 1) r (stepS c s (stI i a b k n)) else (j, stepE c s, stepS c s (stI i a b k n)) := by
  conv => lhs; unfold takeP
  have e : (stI i a b k n).steps = stepsI i := rfl
  rw [e, steps_len, if_neg (by omega), hc]
theorem take_A (i : Nat) (a b k n : Int) (s : ByteArray) (r : List ByteArray) (h : 1 ≤ argN i) (hb : getB s = true) : takeP 1 (s :: r) (stI i a b k n) = takeP 2 r (stI i (getN s.data.toList) b k n) := by
  rw [take_step i 1 a b k n s r (by omega) 1 (steps_arg i 1 (by omega) h), if_pos (show stepE 1 s = 0 from fill_zero hb)]
  congr 1
  show stA s (stI i a b k n) = _
  unfold stA
  rw [if_pos (getB_iff hb)]
  rfl
theorem take_B (i : Nat) (a b k n : Int) (s : ByteArray) (r : List ByteArray) (h : 2 ≤ argN i) (hb : getB s = true) : takeP 2 (s :: r) (stI i a b k n) = takeP 3 r (stI i a (getN s.data.toList) k n) := by
  rw [take_step i 2 a b k n s r (by omega) 2 (steps_arg i 2 (by omega) h), if_pos (show stepE 2 s = 0 from fill_zero hb)]
  congr 1
  show stB s (stI i a b k n) = _
  unfold stB
  rw [if_pos (getB_iff hb)]
  rfl
theorem take_arg_bad (i j : Nat) (a b k n : Int) (s : ByteArray) (r : List ByteArray) (h1 : 1 ≤ j) (h : j ≤ argN i) (hb : getB s = false) : (takeP j (s :: r) (stI i a b k n)).1 = j ∧ (takeP j (s :: r) (stI i a b k n)).2.1 = 5 := by
  have h2 := argN_le i
  rw [take_step i j a b k n s r (by omega) j (steps_arg i j h1 h)]
  have e : stepE j s = 5 := by
    obtain rfl | rfl : j = 1 ∨ j = 2 := by omega
    · exact fill_not hb
    · exact fill_not hb
  rw [e, if_neg (by decide)]
  exact ⟨rfl, rfl⟩
theorem take_arr (i : Nat) (a b k n : Int) (s : ByteArray) (r : List ByteArray) (hb : (s == arrB) = true) : takeP (argN i + 1) (s :: r) (stI i a b k n) = takeP (argN i + 2) r (stI i a b k n) := by
  rw [take_step i _ a b k n s r (by omega) 3 (steps_arrow i), if_pos (show stepE 3 s = 0 by show arrE s = 0; unfold arrE; rw [if_pos hb])]
  rfl
theorem take_arr_bad (i : Nat) (a b k n : Int) (s : ByteArray) (r : List ByteArray) (hb : (s == arrB) = false) : (takeP (argN i + 1) (s :: r) (stI i a b k n)).1 = argN i + 1 ∧ (takeP (argN i + 1) (s :: r) (stI i a b k n)).2.1 = 5 := by
  have e : stepE 3 s = 5 := by show arrE s = 5; unfold arrE; rw [hb]; rfl
  rw [take_step i _ a b k n s r (by omega) 3 (steps_arrow i), e, if_neg (by decide)]
  exact ⟨rfl, rfl⟩
theorem res_zero {s : ByteArray} (h : rtB s = true) : resE s = 0 := by
  unfold rtB at h
  unfold resE
  split
  · rfl
  · rename_i h1
    rw [if_neg h1] at h
    split
    · rfl
    · rename_i h2
      rw [if_neg h2] at h
      exact fill_zero h
theorem res_not {s : ByteArray} (h : rtB s = false) : resE s = 9 := by
  unfold rtB at h
  unfold resE
  split
  · rename_i h1
    rw [if_pos h1] at h; cases h
  · rename_i h1
    rw [if_neg h1] at h
    split
    · rename_i h2
      rw [if_pos h2] at h; cases h
    · rename_i h2
      rw [if_neg h2] at h
      exact fill_not h
theorem take_ret (i : Nat) (a b : Int) (s : ByteArray) (r : List ByteArray) (hb : rtB s = true) : takeP (argN i + 2) (s :: r) (stI i a b 0 0) = takeP (argN i + 3) r (stI i a b (rtK s) (rtN s)) := by
  rw [take_step i _ a b 0 0 s r (by omega) 4 (steps_last i), if_pos (show stepE 4 s = 0 from res_zero hb)]
  congr 1
  show stR s (stI i a b 0 0) = _
  unfold stR rtK rtN
  unfold rtB at hb
  split
  · rfl
  · rename_i h1
    rw [if_neg h1] at hb
    split
    · rfl
    · rename_i h2
      rw [if_neg h2] at hb
      unfold stN
      rw [if_pos (getB_iff hb)]
      rfl
theorem take_ret_bad (i : Nat) (a b k n : Int) (s : ByteArray) (r : List ByteArray) (hb : rtB s = false) : (takeP (argN i + 2) (s :: r) (stI i a b k n)).1 = argN i + 2 ∧ (takeP (argN i + 2) (s :: r) (stI i a b k n)).2.1 = 9 := by
  have e : stepE 4 s = 9 := res_not hb
  rw [take_step i _ a b k n s r (by omega) 4 (steps_last i), e, if_neg (by decide)]
  exact ⟨rfl, rfl⟩
theorem take_short (i j : Nat) (a b k n : Int) (h : j ≠ argN i + 3) : takeP j [] (stI i a b k n) = (j, 5, stI i a b k n) := by
  unfold takeP
  rw [show (stI i a b k n).steps = stepsI i from rfl, steps_len, if_neg h]
theorem take_full (i : Nat) (a b k n : Int) : takeP (argN i + 3) [] (stI i a b k n) = (argN i + 3, 0, stI i a b k n) := by
  unfold takeP
  rw [show (stI i a b k n).steps = stepsI i from rfl, steps_len, if_pos rfl]
theorem take_over (i : Nat) (a b k n : Int) (s : ByteArray) (r : List ByteArray) : takeP (argN i + 3) (s :: r) (stI i a b k n) = (argN i + 3, 5, stI i a b k n) := by
  unfold takeP
  rw [show (stI i a b k n).steps = stepsI i from rfl, steps_len, if_pos rfl]

theorem readR_bad {x : Nat × Int × St} {len : Nat} {p e : Int} (h1 : (x.1 : Int) = p) (h2 : x.2.1 = e) (he : e ≠ 0) : readR x len = ((0, 0, 0, 0, 0), p, e) := by
  unfold readR
  rw [if_neg (by rw [h2]; exact he), h1, h2]
theorem readR_done (i : Nat) (a b k n : Int) (len : Nat) (j : Nat) : readR (j, 0, stI i a b k n) len = if checkI i a b k n = 0 then (((i : Int) + 1, a, b, k, n), 0, 0) else if checkI i a b k n = 2 then ((0, 0, 0, 0, 0), 1, 2) else ((0, 0, 0, 0, 0), (len : Int) - 1, checkI i a b k n) := by
  unfold readR stI
  simp
end Go.Proofs.Ytmpglmepmdpjoaa
