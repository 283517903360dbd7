/- The document's answers: Check, Empty, Word, Same. -/
import Derived.Test.YtpnclppjmgeddaaOpBase
import Derived.Test.YtpnclppjmgeddaaStC
namespace Go.Proofs.Ytpnclppjmgeddaa
open Go.RowKit Go.Maps
set_option linter.unusedVariables false

theorem rcheck_none (t n : Int) (A : Option Addr) (c : Nat) (l : List Int) (w : World) (h : t < 1 ∨ 5 < t) : Calls Try.prog 29 #[stV t n A l.length c] w (Says (.int .i64 8) w) := by
  unfold stV
  by_cases h1 : t < 1
  · go_enter Try.func29, Try.ntmps29
    go_wp2
    go_ret
    exact ⟨rfl, alloc1 w _⟩
  · have h2 : 5 < t := by omega
    clear h
    go_enter Try.func29, Try.ntmps29
    go_wp2
    go_ret
    exact ⟨rfl, alloc1 w _⟩
theorem rcheck1 (n : Int) (A : Option Addr) (c : Nat) (l : List Int) (w : World)  : Calls Try.prog 29 #[stV 1 n A l.length c] w (Says (.int .i64 (if decide (l.length = 0) = true then 0 else 5)) w) := by
  unfold stV
  by_cases h : l.length = 0
  · have e : ((l.length : Int) == 0) = true := by simp [h]
    rw [decide_eq_true h]
    simp only [if_true]
    go_enter Try.func29, Try.ntmps29
    go_wp2
    go_ret
    exact ⟨rfl, alloc1 w _⟩
  · have e : ((l.length : Int) == 0) = false := by rw [beq_eq_false_iff_ne]; omega
    rw [decide_eq_false h]
    simp only [Bool.false_eq_true, if_false]
    go_enter Try.func29, Try.ntmps29
    go_wp2
    go_ret
    exact ⟨rfl, alloc1 w _⟩
theorem rcheck4 (n : Int) (A : Option Addr) (c : Nat) (l : List Int) (w : World)  : Calls Try.prog 29 #[stV 4 n A l.length c] w (Says (.int .i64 (if (n == 0) = true then 0 else 5)) w) := by
  unfold stV
  cases h : (n == 0)
  · simp only [Bool.false_eq_true, if_false]
    go_enter Try.func29, Try.ntmps29
    go_wp2
    go_ret
    exact ⟨rfl, alloc1 w _⟩
  · simp only [if_true]
    go_enter Try.func29, Try.ntmps29
    go_wp2
    go_ret
    exact ⟨rfl, alloc1 w _⟩
theorem rcheck2 (n : Int) (A : Option Addr) (c : Nat) (l : List Int) (w : World) (hA : Ints w A l) (hlen : l.length ≤ 1000) : Calls Try.prog 29 #[stV 2 n A l.length c] w (Says (.int .i64 (if ((n == 0) && riseB 1 l) = true then 0 else 5)) w) := by
  unfold stV
  have H := rrises_any A c 1 l (w.alloc (.cells #[.int .i64 2, .int .i64 n, .slice A l.length c] 24)) (hA.below (alloc1 w _)) (by omega) (by omega) hlen
  generalize riseB 1 l = r at *
  cases h : (n == 0)
  · simp only [Bool.false_and, Bool.false_eq_true, if_false]
    go_enter Try.func29, Try.ntmps29
    go_wp2
    go_ret
    exact ⟨rfl, alloc1 w _⟩
  · cases r
    · simp only [Bool.and_false, Bool.false_eq_true, if_false]
      go_enter Try.func29, Try.ntmps29
      go_wp2_with fail
      refine H.mono ?_
      rintro e w1 ⟨rfl, hB⟩
      go_wp2
      go_ret
      exact ⟨rfl, nxt (alloc1 w _) hB (by simp)⟩
    · simp only [Bool.and_true, if_true]
      go_enter Try.func29, Try.ntmps29
      go_wp2_with fail
      refine H.mono ?_
      rintro e w1 ⟨rfl, hB⟩
      go_wp2
      go_ret
      exact ⟨rfl, nxt (alloc1 w _) hB (by simp)⟩
theorem rcheck3 (n : Int) (A : Option Addr) (c : Nat) (l : List Int) (w : World) (hA : Ints w A l) (hlen : l.length ≤ 1000) : Calls Try.prog 29 #[stV 3 n A l.length c] w (Says (.int .i64 (if ((n == 0) && decide (l.length % 2 = 0) && riseB 2 l) = true then 0 else 5)) w) := by
  unfold stV
  have H := rrises_any A c 2 l (w.alloc (.cells #[.int .i64 3, .int .i64 n, .slice A l.length c] 24)) (hA.below (alloc1 w _)) (by omega) (by omega) hlen
  generalize riseB 2 l = r at *
  cases h : (n == 0)
  · simp only [Bool.false_and, Bool.false_eq_true, if_false]
    go_enter Try.func29, Try.ntmps29
    go_wp2
    go_ret
    exact ⟨rfl, alloc1 w _⟩
  · have hm : Int.tmod (l.length : Int) 2 = ((l.length % 2 : Nat) : Int) := rfl
    by_cases h2 : l.length % 2 = 0
    · have e2 : ((Int.tmod (l.length : Int) 2) == 0) = true := by rw [hm, h2]; rfl
      rw [decide_eq_true h2]
      cases r
      · simp only [Bool.and_false, Bool.false_eq_true, if_false]
        go_enter Try.func29, Try.ntmps29
        go_wp2_with fail
        refine H.mono ?_
        rintro e w1 ⟨rfl, hB⟩
        go_wp2
        go_ret
        exact ⟨rfl, nxt (alloc1 w _) hB (by simp)⟩
      · simp only [Bool.and_true, if_true]
        go_enter Try.func29, Try.ntmps29
        go_wp2_with fail
        refine H.mono ?_
        rintro e w1 ⟨rfl, hB⟩
        go_wp2
        go_ret
        exact ⟨rfl, nxt (alloc1 w _) hB (by simp)⟩
    · have e2 : ((Int.tmod (l.length : Int) 2) == 0) = false := by rw [hm, beq_eq_false_iff_ne]; omega
      rw [decide_eq_false h2]
      simp only [Bool.and_false, Bool.false_and, Bool.false_eq_true, if_false]
      go_enter Try.func29, Try.ntmps29
      go_wp2
      go_ret
      exact ⟨rfl, alloc1 w _⟩
theorem rcheck5 (n : Int) (A : Option Addr) (c : Nat) (l : List Int) (w : World)  : Calls Try.prog 29 #[stV 5 n A l.length c] w (Says (.int .i64 (if (decide (l.length = 0) && decide (0 ≤ n) && decide (n ≤ 4611686018427387904)) = true then 0 else 5)) w) := by
  unfold stV
  by_cases h : l.length = 0
  · have e : ((l.length : Int) == 0) = true := by simp [h]
    rw [decide_eq_true h]
    by_cases h1 : 0 ≤ n
    · rw [decide_eq_true h1]
      by_cases h2 : n ≤ 4611686018427387904
      · rw [decide_eq_true h2]
        simp only [Bool.and_true, if_true]
        go_enter Try.func29, Try.ntmps29
        go_wp2
        go_ret
        exact ⟨rfl, alloc1 w _⟩
      · rw [decide_eq_false h2]
        simp only [Bool.and_false, Bool.false_eq_true, if_false]
        go_enter Try.func29, Try.ntmps29
        go_wp2
        go_ret
        exact ⟨rfl, alloc1 w _⟩
    · rw [decide_eq_false h1]
      simp only [Bool.and_false, Bool.false_and, Bool.false_eq_true, if_false]
      go_enter Try.func29, Try.ntmps29
      go_wp2
      go_ret
      exact ⟨rfl, alloc1 w _⟩
  · have e : ((l.length : Int) == 0) = false := by rw [beq_eq_false_iff_ne]; omega
    rw [decide_eq_false h]
    simp only [Bool.false_and, Bool.false_eq_true, if_false]
    go_enter Try.func29, Try.ntmps29
    go_wp2
    go_ret
    exact ⟨rfl, alloc1 w _⟩
theorem rcheck_any (t n : Int) (A : Option Addr) (c : Nat) (l : List Int) (w : World) (hA : Ints w A l) (hlen : l.length ≤ 1000) :
    Calls Try.prog 29 #[stV t n A l.length c] w (Says (.int .i64 (checkE t n l)) w) := by
  by_cases h : t < 1 ∨ 5 < t
  · rw [check_type h]; exact rcheck_none t n A c l w h
  · rw [check_in h]
    obtain rfl | rfl | rfl | rfl | rfl : t = 1 ∨ t = 2 ∨ t = 3 ∨ t = 4 ∨ t = 5 := by omega
    · exact rcheck1 n A c l w
    · exact rcheck2 n A c l w hA hlen
    · exact rcheck3 n A c l w hA hlen
    · exact rcheck4 n A c l w
    · exact rcheck5 n A c l w

def wordsO : Obj := .cells #[.string ⟨#[99, 111, 117, 110, 116, 101, 114]⟩, .string ⟨#[115, 101, 116]⟩, .string ⟨#[109, 97, 112]⟩, .string ⟨#[113, 117, 101, 117, 101]⟩, .string ⟨#[101, 115, 99, 114, 111, 119]⟩] 9
theorem rwords_cell (w : World) : ∀ k, k < 5 → (w.alloc wordsO).cell? ⟨w.heap.size, k, none⟩ = some (.string (wordB (k + 1)))
  | 0, _ => by rw [wordsO, World.cell?_alloc_new]; rfl
  | 1, _ => by rw [wordsO, World.cell?_alloc_new]; rfl
  | 2, _ => by rw [wordsO, World.cell?_alloc_new]; rfl
  | 3, _ => by rw [wordsO, World.cell?_alloc_new]; rfl
  | 4, _ => by rw [wordsO, World.cell?_alloc_new]; rfl
  | k + 5, h => by omega
end Go.Proofs.Ytpnclppjmgeddaa
