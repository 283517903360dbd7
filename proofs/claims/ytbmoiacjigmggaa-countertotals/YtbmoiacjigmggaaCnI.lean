/- CounterTotals. -/
import Derived.Test.YtbmoiacjigmggaaCnF
namespace Go.Proofs.Ytbmoiacjigmggaa
open Go.RowKit Go.Maps
set_option linter.unusedVariables false

set_option maxHeartbeats 2000000 in
theorem totals_law (n : Int) (A : Option Addr) (c : Nat) (l : List Int) (w : World) (hA : Ints w A l) (hm : l.length ≤ maxLen) :
    Calls Try.prog 4 #[.int .i64 n, .slice A l.length c] w (Yes w) := by
  unfold maxLen at hm
  by_cases hl : 100 < l.length
  · go_enter Try.func4, Try.ntmps4
    go_wp2_with fail
    refine (awake_yes _).mono ?_
    rintro e w1 ⟨rfl, hB1⟩
    go_wp2
    go_ret
    exact ⟨rfl, hB1⟩
  · have HC := copy_any A c l w hA (by omega)
    unfold CopyPost at HC
    have HA := Lib.hid hA
    have hlm : l.length ≤ maxLen := by unfold maxLen; omega
    have HLM := Lib.hid hlm
    have ht : (totN n l == totN n l) = true := by simp
    have hb : (backN n l == backN n l) = true := by simp
    clear hA hlm
    go_enter Try.func4, Try.ntmps4
    go_wp2_with fail
    refine HC.mono ?_
    rintro e w1 ⟨g1, c1, rfl, hr1, hB1⟩
    have hI1 := Lib.hid (own_ints rfl hr1)
    have hc1 := Lib.hid (HA.out.below hB1)
    have T1 := total_any n (some ⟨g1, 0, none⟩) c1 l w1 hI1.out HLM.out
    have T2 := fun W (h : Ints W A l) => rtotal_any n A c l W h (by omega)
    have T3 := fun W (h : Ints W (some ⟨g1, 0, none⟩) l) => back_any n (some ⟨g1, 0, none⟩) c1 l W h HLM.out
    have T4 := fun W (h : Ints W A l) => rback_any n A c l W h (by omega)
    have T5 := fun W (h : Ints W (some ⟨g1, 0, none⟩) l) (k : Ints W A l) => sameints_any (some ⟨g1, 0, none⟩) A c1 c l l W h k (by omega)
    rw [show (l == l) = true by simp] at T5
    generalize totN n l = tn at *
    generalize backN n l = bn at *
    clear hr1 HC
    go_wp2_with fail
    refine T1.mono ?_
    rintro e w2 ⟨rfl, hB2⟩
    have hI2 := Lib.hid (hI1.out.below hB2)
    have hc2 := Lib.hid (hc1.out.below hB2)
    have hC2 := onto hB1 hB2
    go_wp2_with fail
    refine (T2 w2 hc2.out).mono ?_
    rintro e w3 ⟨rfl, hB3⟩
    have hI3 := Lib.hid (hI2.out.below hB3)
    have hc3 := Lib.hid (hc2.out.below hB3)
    have hC3 := onto hC2 hB3
    go_wp2_with fail
    refine (T3 w3 hI3.out).mono ?_
    rintro e w4 ⟨rfl, hB4⟩
    have hI4 := Lib.hid (hI3.out.below hB4)
    have hc4 := Lib.hid (hc3.out.below hB4)
    have hC4 := onto hC3 hB4
    go_wp2_with fail
    refine (T4 w4 hc4.out).mono ?_
    rintro e w5 ⟨rfl, hB5⟩
    have hI5 := Lib.hid (hI4.out.below hB5)
    have hc5 := Lib.hid (hc4.out.below hB5)
    have hC5 := onto hC4 hB5
    go_wp2_with fail
    refine (T5 w5 hI5.out hc5.out).mono ?_
    rintro e w6 ⟨rfl, hB6⟩
    have hC6 := onto hC5 hB6
    go_wp2_with fail
    refine (awake_yes _).mono ?_
    rintro e w7 ⟨rfl, hB7⟩
    go_wp2
    go_ret
    exact ⟨rfl, onto hC6 hB7⟩
end Go.Proofs.Ytbmoiacjigmggaa
