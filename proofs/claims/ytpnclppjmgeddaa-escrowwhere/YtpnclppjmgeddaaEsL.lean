/- EscrowWhere. -/
import Derived.Test.YtpnclppjmgeddaaEsK
namespace Go.Proofs.Ytpnclppjmgeddaa
open Go.RowKit Go.Maps
set_option linter.unusedVariables false
set_option linter.unusedSimpArgs false

/-- An operation returns a number of an account just if that lies between the first one and the one behind the last. -/
theorem where_iff {kd a ret n : Int} (h1 : kdB kd = true) (h2 : mayB kd a = true) (hn : 0 ≤ n ∧ n ≤ 4611686018427387904) : (first kd a ret ≤ n ∧ n < behind kd a ret) ↔ eRet kd n a = ret := by
  obtain ⟨ha0, ha1⟩ := may_bd h2
  rcases kd_three h1 with rfl | rfl | rfl
  · simp only [first, behind, eRet, if_true]
    split <;> split <;> (try split) <;> omega
  · simp only [first, behind, eRet, if_true, show ¬ ((14 : Int) = 13) by omega, if_false]
    split <;> split <;> (try split) <;> omega
  · simp only [first, behind, eRet, show ¬ ((15 : Int) = 13) by omega, show ¬ ((15 : Int) = 14) by omega, if_false]
    cases hm : moneyB ret with
    | true => simp; omega
    | false => simp; have := (money_not ret).1 hm; omega
theorem where_ways (kd a ret n : Int) (hn : 0 ≤ n ∧ n ≤ 4611686018427387904) :
    (∃ x, x ≠ 0 ∧ rangeP kd a ret = (0, 0, false) ∧ escA 5 n [] kd a 0 = (0, 0, 0, 0, x)) ∨
    (∃ t r, r ≠ ret ∧ rangeP kd a ret = (0, 0, false) ∧ escA 5 n [] kd a 0 = (5, t, 2, r, 0)) ∨
    (∃ t f u, 0 ≤ f ∧ f ≤ u ∧ u ≤ 4611686018427387904 ∧ f ≤ n ∧ n ≤ u ∧ rangeP kd a ret = (f, u, true) ∧ escA 5 n [] kd a 0 = (5, t, 2, ret, 0)) ∨
    (∃ t r f u, 0 ≤ f ∧ f ≤ u ∧ u ≤ 4611686018427387904 ∧ r ≠ ret ∧ (n < f ∨ u < n) ∧ rangeP kd a ret = (f, u, true) ∧ escA 5 n [] kd a 0 = (5, t, 2, r, 0)) := by
  have hm := (money_iff n).2 hn
  unfold rangeP escA
  rw [if_pos (show (5 : Int) = 5 ∧ ([] : List Int) = [] ∧ moneyB n = true from ⟨rfl, rfl, hm⟩)]
  cases h1 : kdB kd with
  | false => exact .inl ⟨6, by omega, by simp, by simp⟩
  | true =>
    cases h2 : mayB kd a with
    | false => exact .inl ⟨2, by omega, by simp, by simp⟩
    | true =>
      have hw := where_iff (ret := ret) h1 h2 hn
      obtain ⟨ha0, ha1⟩ := may_bd h2
      obtain ⟨b1, b2, b3, b4, b5⟩ := span_bd (kd := kd) (ret := ret) ha0 ha1
      generalize first kd a ret = f at *
      generalize behind kd a ret = u at *
      simp only [true_and, and_self, if_true, ne_eq]
      by_cases hfu : f = u
      · refine .inr (.inl ⟨eThen kd n a, eRet kd n a, fun e => ?_, by simp [hfu], rfl⟩)
        have := hw.2 e
        omega
      · by_cases hr : eRet kd n a = ret
        · have := hw.2 hr
          exact .inr (.inr (.inl ⟨eThen kd n a, f, u - 1, b1, by omega, by omega, this.1, by omega, by simp [hfu], by rw [hr]⟩))
        · have : ¬ (f ≤ n ∧ n < u) := fun e => hr (hw.1 e)
          exact .inr (.inr (.inr ⟨eThen kd n a, eRet kd n a, f, u - 1, b1, by omega, by omega, hr, by omega, by simp [hfu], rfl⟩))
theorem eql_ret_ne (w : World) {k r ret : Int} (h : r ≠ ret) : (binOp .eql 28 (.agg #[.int .i64 k, .int .i64 r]) (.agg #[.int .i64 2, .int .i64 ret])).run Try.prog w = .ok (.bool false) w := by
  rw [eql_ret]
  have : (r == ret) = false := beq_eq_false_iff_ne.2 h
  simp [sameRet, this]
theorem eql_ret_no (w : World) (ret : Int) : (binOp .eql 28 (.agg #[.int .i64 0, .int .i64 0]) (.agg #[.int .i64 2, .int .i64 ret])).run Try.prog w = .ok (.bool false) w := by
  rw [eql_ret]
  simp [sameRet]
end Go.Proofs.Ytpnclppjmgeddaa
