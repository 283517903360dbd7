/- The machine's one answer: what an operation makes of a state, in numbers; the five layers' Apply tell it. -/
import Derived.Test.YtmclpganipfadaaGreatDoorMcTd
import Derived.Test.YtmclpganipfadaaGreatDoorJcn
import Derived.Test.YtmclpganipfadaaGreatDoorJse
import Derived.Test.YtmclpganipfadaaGreatDoorJmp
import Derived.Test.YtmclpganipfadaaGreatDoorJfi
import Derived.Test.YtmclpganipfadaaGreatDoorJes
namespace Go.Proofs.YtmclpganipfadaaGreatDoor
open Go.RowKit Go.Maps
set_option linter.unusedVariables false

/-- A state then, a return, an error. -/
structure Ans where
  t : Int
  n : Int
  l : List Int
  k : Int
  r : Int
  e : Int
def noA (e : Int) : Ans := ⟨0, 0, [], 0, 0, e⟩
def cntA (n : Int) (l : List Int) (kd a b : Int) : Ans :=
  if l = [] then
    if kd = 1 then (if b = 0 then ⟨1, wrap64 (n + a), [], 0, 0, 0⟩ else noA 2)
    else if kd = 2 then (if a = 0 ∧ b = 0 then ⟨1, n, [], 2, n, 0⟩ else noA 2) else noA 6
  else noA 12
def setA (n : Int) (l : List Int) (kd a b : Int) : Ans :=
  if n = 0 ∧ riseB 1 l = true then
    if kd < 3 ∨ 6 < kd then noA 6
    else if b ≠ 0 ∨ (kd = 6 ∧ a ≠ 0) then noA 2
    else if kd = 3 then ⟨2, 0, withL l a, 2, one (!isIn l a), 0⟩
    else if kd = 4 then ⟨2, 0, outL l a, 2, one (isIn l a), 0⟩
    else if kd = 5 then ⟨2, 0, l, 2, one (isIn l a), 0⟩ else ⟨2, 0, l, 2, l.length, 0⟩
  else noA 12
def mapA (n : Int) (l : List Int) (kd a b : Int) : Ans :=
  if n = 0 ∧ l.length % 2 = 0 ∧ riseB 2 l = true then
    if kd < 7 ∨ 9 < kd then noA 6
    else if kd = 7 then ⟨3, 0, setM l a b, hadK l a, kval l a, 0⟩
    else if b ≠ 0 then noA 2
    else if kd = 8 then ⟨3, 0, l, hadK l a, kval l a, 0⟩ else ⟨3, 0, dropM l a, hadK l a, kval l a, 0⟩
  else noA 12
def fifA (n : Int) (l : List Int) (kd a b : Int) : Ans :=
  if n = 0 then
    if kd < 10 ∨ 12 < kd then noA 6
    else if b ≠ 0 ∨ (kd ≠ 10 ∧ a ≠ 0) then noA 2
    else ⟨4, 0, fifoL l kd a, fifoK l kd, fifoN l kd, 0⟩
  else noA 12
def accA (n : Int) (l : List Int) (kd a b : Int) : Ans :=
  if l = [] ∧ moneyB n = true then
    if kdB kd = true then (if b = 0 ∧ mayB kd a = true then ⟨5, eThen kd n a, [], 2, eRet kd n a, 0⟩ else noA 2) else noA 6
  else noA 12
def mA (t n : Int) (l : List Int) (kd a b : Int) : Ans :=
  if t = 1 then cntA n l kd a b else if t = 2 then setA n l kd a b else if t = 3 then mapA n l kd a b else if t = 4 then fifA n l kd a b else if t = 5 then accA n l kd a b else noA 8

/-- What Apply tells: the state then (a list of the call's own), what is returned, the error. -/
def MPost (p : Ans) (w : World) (e : Ending) (w' : World) : Prop :=
  ∃ A c, e = .returned (.tuple #[stV p.t p.n A p.l.length c, retV p.k p.r, .int .i64 p.e]) ∧ w'.ownsRow w.heap.size 3 1 (.slice A p.l.length c) p.l.length (intsOf p.l) ∧ Below w.heap.size w w'
theorem mp_says {p : Ans} (hl : p.l = []) {w w' : World} {e : Ending} (h : Says (ansV p.t p.n p.k p.r p.e) w e w') : MPost p w e w' := by
  obtain ⟨rfl, hB⟩ := h
  exact ⟨none, 0, by rw [hl]; rfl, by rw [hl]; exact World.ownsRow_nil _ _ _ _, hB⟩
theorem mp_set {p : Ans} (hn : p.n = 0) {w w' : World} {e : Ending} (h : SetPost p.t p.l p.k p.r p.e w e w') : MPost p w e w' := by
  obtain ⟨A, c, rfl, h1, hB⟩ := h
  exact ⟨A, c, by rw [hn], h1, hB⟩

theorem mccnt_any (n : Int) (A : Option Addr) (c : Nat) (l : List Int) (kd a b : Int) (w : World) (hA : Ints w A l) (hlen : l.length ≤ 800) :
    Calls Tryz.prog 34 #[stV 1 n A l.length c, .int .i64 kd, .int .i64 a, .int .i64 b] w (MPost (cntA n l kd a b) w) := by
  unfold cntA
  cases l with
  | cons x xs =>
    rw [if_neg (by simp)]
    exact (apply_form n A c _ kd a b w hA (by omega) (by simp)).mono fun e w' h => mp_says rfl h
  | nil =>
    rw [if_pos rfl]
    by_cases h1 : kd = 1
    · subst h1
      rw [if_pos rfl]
      by_cases hb : b = 0
      · subst hb
        rw [if_pos rfl]
        exact (apply_add n A c a w).mono fun e w' h => mp_says rfl h
      · rw [if_neg hb]
        exact (apply_add_no n A c a b w hb).mono fun e w' h => mp_says rfl h
    · rw [if_neg h1]
      by_cases h2 : kd = 2
      · subst h2
        rw [if_pos rfl]
        by_cases h : a = 0 ∧ b = 0
        · obtain ⟨rfl, rfl⟩ := h
          rw [if_pos ⟨rfl, rfl⟩]
          exact (apply_read n A c w).mono fun e w' h => mp_says rfl h
        · rw [if_neg h]
          exact (apply_read_no n A c a b w (by omega)).mono fun e w' h => mp_says rfl h
      · rw [if_neg h2]
        exact (apply_word n A c kd a b w h1 h2).mono fun e w' h => mp_says rfl h
theorem mcset_any (n : Int) (A : Option Addr) (c : Nat) (l : List Int) (kd a b : Int) (w : World) (hA : Ints w A l) (hlen : l.length ≤ 800) (hc : l.length ≤ c) :
    Calls Tryz.prog 35 #[stV 2 n A l.length c, .int .i64 kd, .int .i64 a, .int .i64 b] w (MPost (setA n l kd a b) w) := by
  unfold setA
  by_cases hf : n = 0 ∧ riseB 1 l = true
  · rw [if_pos hf]
    obtain ⟨rfl, hr'⟩ := hf
    have hr := (rise_iff l).1 hr'
    by_cases hk : kd < 3 ∨ 6 < kd
    · rw [if_pos hk]
      rcases hk with h | h
      · exact (sapply_word A c l kd a b w hA (by omega) hr h).mono fun e w' h => mp_set rfl h
      · exact (sapply_word2 A c l kd a b w hA (by omega) hr h).mono fun e w' h => mp_set rfl h
    · rw [if_neg hk]
      by_cases hb : b ≠ 0 ∨ (kd = 6 ∧ a ≠ 0)
      · rw [if_pos hb]
        by_cases hb0 : b = 0
        · subst hb0
          obtain ⟨rfl, ha⟩ : kd = 6 ∧ a ≠ 0 := by omega
          exact (sapply_arg2 A c l a w hA (by omega) hr ha).mono fun e w' h => mp_set rfl h
        · exact (sapply_arg A c l kd a b w hA (by omega) hr (by omega) (by omega) hb0).mono fun e w' h => mp_set rfl h
      · rw [if_neg hb]
        obtain rfl : b = 0 := by omega
        obtain rfl | rfl | rfl | rfl : kd = 3 ∨ kd = 4 ∨ kd = 5 ∨ kd = 6 := by omega
        · rw [if_pos rfl]
          exact (sapply_insert A c l a w hA (by omega) hc hr).mono fun e w' h => mp_set rfl h
        · rw [if_neg (by decide), if_pos rfl]
          exact (sapply_remove A c l a w hA (by omega) hc hr).mono fun e w' h => mp_set rfl h
        · rw [if_neg (by decide), if_neg (by decide), if_pos rfl]
          exact (sapply_has A c l a w hA (by omega) hr).mono fun e w' h => mp_set rfl h
        · rw [if_neg (by decide), if_neg (by decide), if_neg (by decide)]
          obtain rfl : a = 0 := by omega
          exact (sapply_size A c l w hA (by omega) hr).mono fun e w' h => mp_set rfl h
  · rw [if_neg hf]
    exact (sapply_form n A c l kd a b w hA (by omega) (fun h => hf ⟨h.1, (rise_iff l).2 h.2⟩)).mono fun e w' h => mp_set rfl h
theorem mcmap_any (n : Int) (A : Option Addr) (c : Nat) (l : List Int) (kd a b : Int) (w : World) (hA : Ints w A l) (hlen : l.length ≤ 800) (hc : l.length ≤ c) :
    Calls Tryz.prog 36 #[stV 3 n A l.length c, .int .i64 kd, .int .i64 a, .int .i64 b] w (MPost (mapA n l kd a b) w) := by
  unfold mapA
  by_cases hf : n = 0 ∧ l.length % 2 = 0 ∧ riseB 2 l = true
  · rw [if_pos hf]
    obtain ⟨rfl, hr'⟩ := hf
    have hr := (krise_iff l).1 hr'
    by_cases hk : kd < 7 ∨ 9 < kd
    · rw [if_pos hk]
      rcases hk with h | h
      · exact (mapply_word A c l kd a b w hA (by omega) hr h).mono fun e w' h => mp_set rfl h
      · exact (mapply_word2 A c l kd a b w hA (by omega) hr h).mono fun e w' h => mp_set rfl h
    · rw [if_neg hk]
      by_cases h7 : kd = 7
      · subst h7
        rw [if_pos rfl]
        exact (mapply_put A c l a b w hA (by omega) hc hr).mono fun e w' h => mp_set rfl h
      · rw [if_neg h7]
        by_cases hb : b ≠ 0
        · rw [if_pos hb]
          exact (mapply_arg A c l kd a b w hA (by omega) hr (by omega) (by omega) hb).mono fun e w' h => mp_set rfl h
        · rw [if_neg hb]
          obtain rfl : b = 0 := by omega
          obtain rfl | rfl : kd = 8 ∨ kd = 9 := by omega
          · rw [if_pos rfl]
            exact (mapply_get A c l a w hA (by omega) hc hr).mono fun e w' h => mp_set rfl h
          · rw [if_neg (by decide)]
            exact (mapply_del A c l a w hA (by omega) hc hr).mono fun e w' h => mp_set rfl h
  · rw [if_neg hf]
    exact (mapply_form n A c l kd a b w hA (by omega) (fun h => hf ⟨h.1, (krise_iff l).2 h.2⟩)).mono fun e w' h => mp_set rfl h
theorem mcfif_any (n : Int) (A : Option Addr) (c : Nat) (l : List Int) (kd a b : Int) (w : World) (hA : Ints w A l) (hlen : l.length ≤ 800) :
    Calls Tryz.prog 37 #[stV 4 n A l.length c, .int .i64 kd, .int .i64 a, .int .i64 b] w (MPost (fifA n l kd a b) w) := by
  unfold fifA
  by_cases hf : n = 0
  · rw [if_pos hf]
    subst hf
    by_cases hk : kd < 10 ∨ 12 < kd
    · rw [if_pos hk]
      rcases hk with h | h
      · exact (fapply_word A c l kd a b w hA (by omega) h).mono fun e w' h => mp_set rfl h
      · exact (fapply_word2 A c l kd a b w hA (by omega) h).mono fun e w' h => mp_set rfl h
    · rw [if_neg hk]
      by_cases hb : b ≠ 0 ∨ (kd ≠ 10 ∧ a ≠ 0)
      · rw [if_pos hb]
        by_cases hb0 : b = 0
        · exact (fapply_arg2 A c l kd a b w hA (by omega) (by omega) (by omega) (by omega) hb0).mono fun e w' h => mp_set rfl h
        · exact (fapply_arg A c l kd a b w hA (by omega) (by omega) (by omega) hb0).mono fun e w' h => mp_set rfl h
      · rw [if_neg hb]
        obtain rfl : b = 0 := by omega
        obtain rfl | rfl | rfl : kd = 10 ∨ kd = 11 ∨ kd = 12 := by omega
        · exact (fapply_enq A c l a w hA (by omega)).mono fun e w' h => mp_set rfl h
        · obtain rfl : a = 0 := by omega
          exact (fapply_deq A c l w hA (by omega)).mono fun e w' h => mp_set rfl h
        · obtain rfl : a = 0 := by omega
          exact (fapply_len A c l w hA (by omega)).mono fun e w' h => mp_set rfl h
  · rw [if_neg hf]
    exact (fapply_no 4 n A c l kd a b w hA (by omega) (by simp [isQ, hf])).mono fun e w' h => mp_set rfl h
theorem escA_acc (n : Int) (l : List Int) (kd a b : Int) : escV (escA 5 n l kd a b) = ansV (accA n l kd a b).t (accA n l kd a b).n (accA n l kd a b).k (accA n l kd a b).r (accA n l kd a b).e ∧ (accA n l kd a b).l = [] := by
  unfold escA accA
  by_cases hf : l = [] ∧ moneyB n = true
  · rw [if_pos ⟨rfl, hf⟩, if_pos hf]
    by_cases hk : kdB kd = true
    · rw [if_pos hk, if_pos hk]
      by_cases hb : b = 0 ∧ mayB kd a = true
      · rw [if_pos hb, if_pos hb]; exact ⟨rfl, rfl⟩
      · rw [if_neg hb, if_neg hb]; exact ⟨rfl, rfl⟩
    · rw [if_neg hk, if_neg hk]; exact ⟨rfl, rfl⟩
  · rw [if_neg (fun h => hf h.2), if_neg hf]; exact ⟨rfl, rfl⟩
theorem mcacc_any (n : Int) (A : Option Addr) (c : Nat) (l : List Int) (kd a b : Int) (w : World) (hA : Ints w A l) (hlen : l.length ≤ 800) (hs : Small a) :
    Calls Tryz.prog 38 #[stV 5 n A l.length c, .int .i64 kd, .int .i64 a, .int .i64 b] w (MPost (accA n l kd a b) w) := by
  obtain ⟨h1, h2⟩ := escA_acc n l kd a b
  refine (eapply_any 5 n A c l kd a b w hA (by omega) hs).mono fun e w' h => mp_says h2 ?_
  rw [h1] at h
  exact h

theorem setA_len (n : Int) (l : List Int) (kd a b : Int) : (setA n l kd a b).l.length ≤ l.length + 2 := by
  unfold setA
  split
  · next h =>
    have hr := (rise_iff l).1 h.2
    split
    · exact Nat.zero_le _
    · split
      · exact Nat.zero_le _
      · split
        · have := with_le l a; show (withL l a).length ≤ _; omega
        · split
          · have := out_le hr a; show (outL l a).length ≤ _; omega
          · split <;> exact Nat.le_add_right _ _
  · exact Nat.zero_le _
theorem mapA_len (n : Int) (l : List Int) (kd a b : Int) : (mapA n l kd a b).l.length ≤ l.length + 2 := by
  unfold mapA
  split
  · split
    · exact Nat.zero_le _
    · split
      · have := set_len_le l a b; show (setM l a b).length ≤ _; omega
      · split
        · exact Nat.zero_le _
        · split
          · exact Nat.le_add_right _ _
          · have := drop_len_le l a; show (dropM l a).length ≤ _; omega
  · exact Nat.zero_le _
theorem fifA_len (n : Int) (l : List Int) (kd a b : Int) : (fifA n l kd a b).l.length ≤ l.length + 2 := by
  unfold fifA
  split
  · split
    · exact Nat.zero_le _
    · split
      · exact Nat.zero_le _
      · show (fifoL l kd a).length ≤ _
        unfold fifoL
        split
        · simp
        · split
          · simp; omega
          · omega
  · exact Nat.zero_le _
theorem cntA_nil (n : Int) (l : List Int) (kd a b : Int) : (cntA n l kd a b).l = [] := by
  unfold cntA
  repeat' (first | rfl | split)
theorem mA_len (t n : Int) (l : List Int) (kd a b : Int) : (mA t n l kd a b).l.length ≤ l.length + 2 := by
  unfold mA
  split
  · rw [cntA_nil]; exact Nat.zero_le _
  · split
    · exact setA_len ..
    · split
      · exact mapA_len ..
      · split
        · exact fifA_len ..
        · split
          · rw [(escA_acc ..).2]; exact Nat.zero_le _
          · exact Nat.zero_le _
end Go.Proofs.YtmclpganipfadaaGreatDoor
