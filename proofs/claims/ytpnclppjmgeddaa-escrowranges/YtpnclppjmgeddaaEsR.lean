/- The document's small functions of an account: money, may, told; its Range and Room. -/
import Derived.Test.YtpnclppjmgeddaaEsB
import Derived.Test.YtpnclppjmgeddaaEsD
namespace Go.Proofs.Ytpnclppjmgeddaa
open Go.RowKit Go.Maps
set_option linter.unusedVariables false

theorem rmoney_any (n : Int) (w : World) : Calls Try.prog 34 #[.int .i64 n] w fun e w' => e = .returned (.bool (moneyB n)) ∧ w = w' := by
  unfold moneyB
  cases h1 : decide (0 ≤ n)
  all_goals
    go_enter Try.func34, Try.ntmps34
    go_wp2
    go_ret
    exact ⟨by simp, rfl⟩
set_option maxHeartbeats 1000000 in
theorem rmay_any (kd a : Int) (w : World) : Calls Try.prog 30 #[.int .i64 kd, .int .i64 a] w fun e w' => e = .returned (.bool (kdB kd && mayB kd a)) ∧ w = w' := by
  have HM := fun W => rmoney_any a W
  by_cases h13 : kd = 13
  · subst h13
    have e : (kdB 13 && mayB 13 a) = moneyB a := by simp [kdB, mayB]
    rw [e]
    clear e
    cases hm : moneyB a
    all_goals
      rw [hm] at HM
      clear hm
      go_enter Try.func30, Try.ntmps30
      go_wp2_with fail
      refine (HM _).mono ?_
      rintro e w1 ⟨rfl, rfl⟩
      go_wp2
      go_ret
      exact ⟨rfl, rfl⟩
  · have k13 : (kd == 13) = false := beq_eq_false_iff_ne.2 h13
    by_cases h14 : kd = 14
    · subst h14
      have e : (kdB 14 && mayB 14 a) = moneyB a := by simp [kdB, mayB]
      rw [e]
      clear e h13 k13
      cases hm : moneyB a
      all_goals
        rw [hm] at HM
        clear hm
        go_enter Try.func30, Try.ntmps30
        go_wp2_with fail
        refine (HM _).mono ?_
        rintro e w1 ⟨rfl, rfl⟩
        go_wp2
        go_ret
        exact ⟨rfl, rfl⟩
    · have k14 : (kd == 14) = false := beq_eq_false_iff_ne.2 h14
      clear HM
      by_cases h15 : kd = 15
      · subst h15
        have e : (kdB 15 && mayB 15 a) = (a == 0) := by simp [kdB, mayB]
        rw [e]
        clear e h13 k13 h14 k14
        go_enter Try.func30, Try.ntmps30
        go_wp2
        go_ret
        exact ⟨rfl, rfl⟩
      · have k15 : (kd == 15) = false := beq_eq_false_iff_ne.2 h15
        have e : (kdB kd && mayB kd a) = false := by
          have : kdB kd = false := by unfold kdB; simp; omega
          rw [this]; rfl
        rw [e]
        clear e h13 h14 h15
        go_enter Try.func30, Try.ntmps30
        go_wp2
        go_ret
        exact ⟨rfl, rfl⟩
theorem told_any (n r : Int) (w : World) : Calls Try.prog 31 #[.int .i64 n, .int .i64 r] w (Says (ansV 5 n 2 r 0) w) := by
  go_enter Try.func31, Try.ntmps31
  go_wp2
  refine bodyPost_ret (v := ansV 5 n 2 r 0) (by simp [results, Try.f31, go_sem, ansV, stV, retV]) rfl ?_
  exact ⟨rfl, (alloc1 w _).alloc (by simp) _⟩
end Go.Proofs.Ytpnclppjmgeddaa
