/- EscrowRanges. -/
import Derived.Test.YtpnclppjmgeddaaEsG
import Derived.Test.YtpnclppjmgeddaaEsS
namespace Go.Proofs.Ytpnclppjmgeddaa
open Go.RowKit Go.Maps
set_option linter.unusedVariables false

set_option maxHeartbeats 1000000 in
theorem ranges_law (kd a ret n : Int) (w : World) (ha : Small a) (hr : Small ret) (hn : Small n) :
    Calls Try.prog 4 #[.int .i64 kd, .int .i64 a, .int .i64 ret, .int .i64 n] w (Yes w) := by
  obtain ⟨⟨f, t, b⟩, hp⟩ : ∃ p, rangeP kd a ret = p := ⟨_, rfl⟩
  have H1 := fun W => range_any kd a ret W ha hr
  have H2 := fun W => rrange_any kd a ret W
  have H3 := fun W => Room_any n W hn
  have H4 := fun W => rroom_any n W
  rw [hp] at H1 H2
  unfold RangeIs at H2
  unfold rangeV at *
  generalize roomN n = m at *
  clear hp ha hr hn
  have q1 : (f == f) = true := by simp
  have q2 : (t == t) = true := by simp
  have q3 : (b == b) = true := by simp
  have q4 : (m == m) = true := by simp
  go_enter Try.func4, Try.ntmps4
  go_wp2_with fail
  refine (H1 _).mono ?_
  rintro e w1 ⟨rfl, hB1⟩
  go_wp2_with fail
  refine (H2 _).mono ?_
  rintro e w2 ⟨rfl, rfl⟩
  go_wp2_with fail
  refine (H3 _).mono ?_
  rintro e w3 ⟨rfl, rfl⟩
  go_wp2_with fail
  refine (H4 _).mono ?_
  rintro e w4 ⟨rfl, rfl⟩
  go_wp2_with fail
  refine (awake_yes _).mono ?_
  rintro e w5 ⟨rfl, hB5⟩
  go_wp2
  go_ret
  exact ⟨by simp, onto hB1 hB5⟩
end Go.Proofs.Ytpnclppjmgeddaa
