/- NumberRing, walked. -/
import Derived.Test.YtjdhfbopnafcgaaWalkK
import Derived.OpenShut
namespace Go.Proofs.Ytjdhfbopnafcgaa
open Go.RowKit
set_option linter.unusedVariables false

theorem wrap_eq (a b s : Int) (h : wrap64 (a + b) = s) (w : World) :
    Calls Try.prog 19 #[.int .i64 a, .int .i64 b] w fun e w' => e = .returned (.int .i64 s) ∧ w = w' := by
  rw [← h]; exact wrap_any a b w

theorem int_bd {a : Int} (h : (Lit.int .i64 a).wf = true) : Small a := by
  exact bounds_i64 h

set_option maxHeartbeats 1000000 in
theorem ring_a (a b c s : Int) (w : World) (ha : Small a) (hb : Small b) (hc : Small c) (hs : wrap64 (a + b) = s) (hneg : b < 0) (hlow : -9223372036854775808 < b) (hin : a + b = s) :
    Calls Try.prog 7 #[.int .i64 a, .int .i64 b, .int .i64 c] w (Yes w) := by
  obtain ⟨a1, a2⟩ := ha
  obtain ⟨b1, b2⟩ := hb
  obtain ⟨c1, c2⟩ := hc
  have e1 : wrap64 (b + a) = s := by rw [Int.add_comm]; exact hs
  obtain ⟨t, e2⟩ : ∃ t, wrap64 (s + c) = t := ⟨_, rfl⟩
  obtain ⟨u, e3⟩ : ∃ u, wrap64 (b + c) = u := ⟨_, rfl⟩
  have e4 : wrap64 (a + u) = t := by rw [← e2, ← e3, ← hs]; unfold wrap64; omega
  have e5 : wrap64 (a + 0) = a := by unfold wrap64; omega
  have e6 : wrap64 (s + -b) = a := by rw [← hs]; unfold wrap64; omega
  have hst : -9223372036854775808 ≤ s ∧ s ≤ 9223372036854775807 := by rw [← hs]; unfold wrap64; omega
  have H1 := Lib.hid hs
  have H2 := Lib.hid e1
  have H3 := Lib.hid e2
  have H4 := Lib.hid e3
  have H5 := Lib.hid e4
  have H6 := Lib.hid e5
  have H7 := Lib.hid e6
  have k1 : (s != s) = false := by simp
  have k2 : (t != t) = false := by simp
  have k3 : (a != a) = false := by simp
  have k4 : decide (0 ≤ b) = false := by simp; omega
  have k5 : decide (b < 0) = true := by simp; omega
  have k6 : decide (s < a) = true := by simp; omega
  have k7 : decide (-9223372036854775808 < b) = true := by simp; omega
  have k8 : (s == s) = true := by simp
  have HS := Lib.hid (sum_ok a b · a1 a2 b1 b2 (by omega) (by omega))
  rw [hin] at HS
  clear hs e1 e2 e3 e4 e5 e6 hin
  go_enter Try.func7, Try.ntmps7
  go_wp2_with fail
  refine (known_yes _).mono ?_
  rintro e w1 ⟨rfl, hB1⟩
  go_wp2_with fail
  refine (wrap_eq a b s H1.out _).mono ?_
  rintro e w2 ⟨rfl, rfl⟩
  go_wp2_with fail
  refine (wrap_eq b a s H2.out _).mono ?_
  rintro e w2 ⟨rfl, rfl⟩
  go_wp2_with fail
  refine (wrap_eq s c t H3.out _).mono ?_
  rintro e w2 ⟨rfl, rfl⟩
  go_wp2_with fail
  refine (wrap_eq b c u H4.out _).mono ?_
  rintro e w2 ⟨rfl, rfl⟩
  go_wp2_with fail
  refine (wrap_eq a u t H5.out _).mono ?_
  rintro e w2 ⟨rfl, rfl⟩
  go_wp2_with fail
  refine (wrap_eq a 0 a H6.out _).mono ?_
  rintro e w2 ⟨rfl, rfl⟩
  go_wp2_with fail
  refine (wrap_eq s (-b) a H7.out _).mono ?_
  rintro e w2 ⟨rfl, rfl⟩
  go_wp2_with fail
  refine (HS.out _).mono ?_
  rintro e w2 ⟨rfl, rfl⟩
  go_wp2
  go_ret
  exact ⟨rfl, hB1⟩

set_option maxHeartbeats 1000000 in
theorem ring_b (a b c s : Int) (w : World) (ha : Small a) (hb : Small b) (hc : Small c) (hs : wrap64 (a + b) = s) (hneg : b < 0) (hlow : -9223372036854775808 < b) (hin : a + b < -9223372036854775808 ∨ 9223372036854775807 < a + b) :
    Calls Try.prog 7 #[.int .i64 a, .int .i64 b, .int .i64 c] w (Yes w) := by
  obtain ⟨a1, a2⟩ := ha
  obtain ⟨b1, b2⟩ := hb
  obtain ⟨c1, c2⟩ := hc
  have e1 : wrap64 (b + a) = s := by rw [Int.add_comm]; exact hs
  obtain ⟨t, e2⟩ : ∃ t, wrap64 (s + c) = t := ⟨_, rfl⟩
  obtain ⟨u, e3⟩ : ∃ u, wrap64 (b + c) = u := ⟨_, rfl⟩
  have e4 : wrap64 (a + u) = t := by rw [← e2, ← e3, ← hs]; unfold wrap64; omega
  have e5 : wrap64 (a + 0) = a := by unfold wrap64; omega
  have e6 : wrap64 (s + -b) = a := by rw [← hs]; unfold wrap64; omega
  have hsx : s = a + b + 18446744073709551616 ∨ s = a + b - 18446744073709551616 := by rw [← hs]; unfold wrap64; omega
  have hst : -9223372036854775808 ≤ s ∧ s ≤ 9223372036854775807 := by rw [← hs]; unfold wrap64; omega
  have H1 := Lib.hid hs
  have H2 := Lib.hid e1
  have H3 := Lib.hid e2
  have H4 := Lib.hid e3
  have H5 := Lib.hid e4
  have H6 := Lib.hid e5
  have H7 := Lib.hid e6
  have k1 : (s != s) = false := by simp
  have k2 : (t != t) = false := by simp
  have k3 : (a != a) = false := by simp
  have k4 : decide (0 ≤ b) = false := by simp; omega
  have k5 : decide (b < 0) = true := by simp; omega
  have k6 : decide (s < a) = false := by simp; omega
  have k7 : decide (-9223372036854775808 < b) = true := by simp; omega
  have k8 : (s == s) = true := by simp
  have HS := Lib.hid (sum_no a b · a1 a2 b1 b2 hin)
  clear hs e1 e2 e3 e4 e5 e6 hin hsx
  go_enter Try.func7, Try.ntmps7
  go_wp2_with fail
  refine (known_yes _).mono ?_
  rintro e w1 ⟨rfl, hB1⟩
  go_wp2_with fail
  refine (wrap_eq a b s H1.out _).mono ?_
  rintro e w2 ⟨rfl, rfl⟩
  go_wp2_with fail
  refine (wrap_eq b a s H2.out _).mono ?_
  rintro e w2 ⟨rfl, rfl⟩
  go_wp2_with fail
  refine (wrap_eq s c t H3.out _).mono ?_
  rintro e w2 ⟨rfl, rfl⟩
  go_wp2_with fail
  refine (wrap_eq b c u H4.out _).mono ?_
  rintro e w2 ⟨rfl, rfl⟩
  go_wp2_with fail
  refine (wrap_eq a u t H5.out _).mono ?_
  rintro e w2 ⟨rfl, rfl⟩
  go_wp2_with fail
  refine (wrap_eq a 0 a H6.out _).mono ?_
  rintro e w2 ⟨rfl, rfl⟩
  go_wp2_with fail
  refine (wrap_eq s (-b) a H7.out _).mono ?_
  rintro e w2 ⟨rfl, rfl⟩
  go_wp2_with fail
  refine (HS.out _).mono ?_
  rintro e w2 ⟨rfl, rfl⟩
  go_wp2
  go_ret
  exact ⟨rfl, hB1⟩

set_option maxHeartbeats 1000000 in
theorem ring_c (a b c s : Int) (w : World) (ha : Small a) (hb : Small b) (hc : Small c) (hs : wrap64 (a + b) = s) (hneg : b < 0) (hlow : b = -9223372036854775808) (hin : a + b = s) :
    Calls Try.prog 7 #[.int .i64 a, .int .i64 b, .int .i64 c] w (Yes w) := by
  obtain ⟨a1, a2⟩ := ha
  obtain ⟨b1, b2⟩ := hb
  obtain ⟨c1, c2⟩ := hc
  have e1 : wrap64 (b + a) = s := by rw [Int.add_comm]; exact hs
  obtain ⟨t, e2⟩ : ∃ t, wrap64 (s + c) = t := ⟨_, rfl⟩
  obtain ⟨u, e3⟩ : ∃ u, wrap64 (b + c) = u := ⟨_, rfl⟩
  have e4 : wrap64 (a + u) = t := by rw [← e2, ← e3, ← hs]; unfold wrap64; omega
  have e5 : wrap64 (a + 0) = a := by unfold wrap64; omega
  have e6 : wrap64 (s + -b) = a := by rw [← hs]; unfold wrap64; omega
  have hst : -9223372036854775808 ≤ s ∧ s ≤ 9223372036854775807 := by rw [← hs]; unfold wrap64; omega
  have H1 := Lib.hid hs
  have H2 := Lib.hid e1
  have H3 := Lib.hid e2
  have H4 := Lib.hid e3
  have H5 := Lib.hid e4
  have H6 := Lib.hid e5
  have H7 := Lib.hid e6
  have k1 : (s != s) = false := by simp
  have k2 : (t != t) = false := by simp
  have k3 : (a != a) = false := by simp
  have k4 : decide (0 ≤ b) = false := by simp; omega
  have k5 : decide (b < 0) = true := by simp; omega
  have k6 : decide (s < a) = true := by simp; omega
  have k7 : decide (-9223372036854775808 < b) = false := by simp; omega
  have k8 : (s == s) = true := by simp
  have HS := Lib.hid (sum_ok a b · a1 a2 b1 b2 (by omega) (by omega))
  rw [hin] at HS
  clear hs e1 e2 e3 e4 e5 e6 hin hlow
  go_enter Try.func7, Try.ntmps7
  go_wp2_with fail
  refine (known_yes _).mono ?_
  rintro e w1 ⟨rfl, hB1⟩
  go_wp2_with fail
  refine (wrap_eq a b s H1.out _).mono ?_
  rintro e w2 ⟨rfl, rfl⟩
  go_wp2_with fail
  refine (wrap_eq b a s H2.out _).mono ?_
  rintro e w2 ⟨rfl, rfl⟩
  go_wp2_with fail
  refine (wrap_eq s c t H3.out _).mono ?_
  rintro e w2 ⟨rfl, rfl⟩
  go_wp2_with fail
  refine (wrap_eq b c u H4.out _).mono ?_
  rintro e w2 ⟨rfl, rfl⟩
  go_wp2_with fail
  refine (wrap_eq a u t H5.out _).mono ?_
  rintro e w2 ⟨rfl, rfl⟩
  go_wp2_with fail
  refine (wrap_eq a 0 a H6.out _).mono ?_
  rintro e w2 ⟨rfl, rfl⟩
  go_wp2_with fail
  refine (HS.out _).mono ?_
  rintro e w2 ⟨rfl, rfl⟩
  go_wp2
  go_ret
  exact ⟨rfl, hB1⟩

set_option maxHeartbeats 1000000 in
theorem ring_d (a b c s : Int) (w : World) (ha : Small a) (hb : Small b) (hc : Small c) (hs : wrap64 (a + b) = s) (hneg : b < 0) (hlow : b = -9223372036854775808) (hin : a + b < -9223372036854775808 ∨ 9223372036854775807 < a + b) :
    Calls Try.prog 7 #[.int .i64 a, .int .i64 b, .int .i64 c] w (Yes w) := by
  obtain ⟨a1, a2⟩ := ha
  obtain ⟨b1, b2⟩ := hb
  obtain ⟨c1, c2⟩ := hc
  have e1 : wrap64 (b + a) = s := by rw [Int.add_comm]; exact hs
  obtain ⟨t, e2⟩ : ∃ t, wrap64 (s + c) = t := ⟨_, rfl⟩
  obtain ⟨u, e3⟩ : ∃ u, wrap64 (b + c) = u := ⟨_, rfl⟩
  have e4 : wrap64 (a + u) = t := by rw [← e2, ← e3, ← hs]; unfold wrap64; omega
  have e5 : wrap64 (a + 0) = a := by unfold wrap64; omega
  have e6 : wrap64 (s + -b) = a := by rw [← hs]; unfold wrap64; omega
  have hsx : s = a + b + 18446744073709551616 ∨ s = a + b - 18446744073709551616 := by rw [← hs]; unfold wrap64; omega
  have hst : -9223372036854775808 ≤ s ∧ s ≤ 9223372036854775807 := by rw [← hs]; unfold wrap64; omega
  have H1 := Lib.hid hs
  have H2 := Lib.hid e1
  have H3 := Lib.hid e2
  have H4 := Lib.hid e3
  have H5 := Lib.hid e4
  have H6 := Lib.hid e5
  have H7 := Lib.hid e6
  have k1 : (s != s) = false := by simp
  have k2 : (t != t) = false := by simp
  have k3 : (a != a) = false := by simp
  have k4 : decide (0 ≤ b) = false := by simp; omega
  have k5 : decide (b < 0) = true := by simp; omega
  have k6 : decide (s < a) = false := by simp; omega
  have k7 : decide (-9223372036854775808 < b) = false := by simp; omega
  have k8 : (s == s) = true := by simp
  have HS := Lib.hid (sum_no a b · a1 a2 b1 b2 hin)
  clear hs e1 e2 e3 e4 e5 e6 hin hsx hlow
  go_enter Try.func7, Try.ntmps7
  go_wp2_with fail
  refine (known_yes _).mono ?_
  rintro e w1 ⟨rfl, hB1⟩
  go_wp2_with fail
  refine (wrap_eq a b s H1.out _).mono ?_
  rintro e w2 ⟨rfl, rfl⟩
  go_wp2_with fail
  refine (wrap_eq b a s H2.out _).mono ?_
  rintro e w2 ⟨rfl, rfl⟩
  go_wp2_with fail
  refine (wrap_eq s c t H3.out _).mono ?_
  rintro e w2 ⟨rfl, rfl⟩
  go_wp2_with fail
  refine (wrap_eq b c u H4.out _).mono ?_
  rintro e w2 ⟨rfl, rfl⟩
  go_wp2_with fail
  refine (wrap_eq a u t H5.out _).mono ?_
  rintro e w2 ⟨rfl, rfl⟩
  go_wp2_with fail
  refine (wrap_eq a 0 a H6.out _).mono ?_
  rintro e w2 ⟨rfl, rfl⟩
  go_wp2_with fail
  refine (HS.out _).mono ?_
  rintro e w2 ⟨rfl, rfl⟩
  go_wp2
  go_ret
  exact ⟨rfl, hB1⟩

set_option maxHeartbeats 1000000 in
theorem ring_e (a b c s : Int) (w : World) (ha : Small a) (hb : Small b) (hc : Small c) (hs : wrap64 (a + b) = s) (hneg : 0 ≤ b) (hin : a + b = s) :
    Calls Try.prog 7 #[.int .i64 a, .int .i64 b, .int .i64 c] w (Yes w) := by
  obtain ⟨a1, a2⟩ := ha
  obtain ⟨b1, b2⟩ := hb
  obtain ⟨c1, c2⟩ := hc
  have e1 : wrap64 (b + a) = s := by rw [Int.add_comm]; exact hs
  obtain ⟨t, e2⟩ : ∃ t, wrap64 (s + c) = t := ⟨_, rfl⟩
  obtain ⟨u, e3⟩ : ∃ u, wrap64 (b + c) = u := ⟨_, rfl⟩
  have e4 : wrap64 (a + u) = t := by rw [← e2, ← e3, ← hs]; unfold wrap64; omega
  have e5 : wrap64 (a + 0) = a := by unfold wrap64; omega
  have e6 : wrap64 (s + -b) = a := by rw [← hs]; unfold wrap64; omega
  have hst : -9223372036854775808 ≤ s ∧ s ≤ 9223372036854775807 := by rw [← hs]; unfold wrap64; omega
  have H1 := Lib.hid hs
  have H2 := Lib.hid e1
  have H3 := Lib.hid e2
  have H4 := Lib.hid e3
  have H5 := Lib.hid e4
  have H6 := Lib.hid e5
  have H7 := Lib.hid e6
  have k1 : (s != s) = false := by simp
  have k2 : (t != t) = false := by simp
  have k3 : (a != a) = false := by simp
  have k4 : decide (0 ≤ b) = true := by simp; omega
  have k5 : decide (b < 0) = false := by simp; omega
  have k6 : decide (a ≤ s) = true := by simp; omega
  have k7 : decide (-9223372036854775808 < b) = true := by simp; omega
  have k8 : (s == s) = true := by simp
  have HS := Lib.hid (sum_ok a b · a1 a2 b1 b2 (by omega) (by omega))
  rw [hin] at HS
  clear hs e1 e2 e3 e4 e5 e6 hin
  go_enter Try.func7, Try.ntmps7
  go_wp2_with fail
  refine (known_yes _).mono ?_
  rintro e w1 ⟨rfl, hB1⟩
  go_wp2_with fail
  refine (wrap_eq a b s H1.out _).mono ?_
  rintro e w2 ⟨rfl, rfl⟩
  go_wp2_with fail
  refine (wrap_eq b a s H2.out _).mono ?_
  rintro e w2 ⟨rfl, rfl⟩
  go_wp2_with fail
  refine (wrap_eq s c t H3.out _).mono ?_
  rintro e w2 ⟨rfl, rfl⟩
  go_wp2_with fail
  refine (wrap_eq b c u H4.out _).mono ?_
  rintro e w2 ⟨rfl, rfl⟩
  go_wp2_with fail
  refine (wrap_eq a u t H5.out _).mono ?_
  rintro e w2 ⟨rfl, rfl⟩
  go_wp2_with fail
  refine (wrap_eq a 0 a H6.out _).mono ?_
  rintro e w2 ⟨rfl, rfl⟩
  go_wp2_with fail
  refine (wrap_eq s (-b) a H7.out _).mono ?_
  rintro e w2 ⟨rfl, rfl⟩
  go_wp2_with fail
  refine (HS.out _).mono ?_
  rintro e w2 ⟨rfl, rfl⟩
  go_wp2
  go_ret
  exact ⟨rfl, hB1⟩

set_option maxHeartbeats 1000000 in
theorem ring_f (a b c s : Int) (w : World) (ha : Small a) (hb : Small b) (hc : Small c) (hs : wrap64 (a + b) = s) (hneg : 0 ≤ b) (hin : a + b < -9223372036854775808 ∨ 9223372036854775807 < a + b) :
    Calls Try.prog 7 #[.int .i64 a, .int .i64 b, .int .i64 c] w (Yes w) := by
  obtain ⟨a1, a2⟩ := ha
  obtain ⟨b1, b2⟩ := hb
  obtain ⟨c1, c2⟩ := hc
  have e1 : wrap64 (b + a) = s := by rw [Int.add_comm]; exact hs
  obtain ⟨t, e2⟩ : ∃ t, wrap64 (s + c) = t := ⟨_, rfl⟩
  obtain ⟨u, e3⟩ : ∃ u, wrap64 (b + c) = u := ⟨_, rfl⟩
  have e4 : wrap64 (a + u) = t := by rw [← e2, ← e3, ← hs]; unfold wrap64; omega
  have e5 : wrap64 (a + 0) = a := by unfold wrap64; omega
  have e6 : wrap64 (s + -b) = a := by rw [← hs]; unfold wrap64; omega
  have hsx : s = a + b + 18446744073709551616 ∨ s = a + b - 18446744073709551616 := by rw [← hs]; unfold wrap64; omega
  have hst : -9223372036854775808 ≤ s ∧ s ≤ 9223372036854775807 := by rw [← hs]; unfold wrap64; omega
  have H1 := Lib.hid hs
  have H2 := Lib.hid e1
  have H3 := Lib.hid e2
  have H4 := Lib.hid e3
  have H5 := Lib.hid e4
  have H6 := Lib.hid e5
  have H7 := Lib.hid e6
  have k1 : (s != s) = false := by simp
  have k2 : (t != t) = false := by simp
  have k3 : (a != a) = false := by simp
  have k4 : decide (0 ≤ b) = true := by simp; omega
  have k5 : decide (b < 0) = false := by simp; omega
  have k6 : decide (a ≤ s) = false := by simp; omega
  have k7 : decide (-9223372036854775808 < b) = true := by simp; omega
  have k8 : (s == s) = true := by simp
  have HS := Lib.hid (sum_no a b · a1 a2 b1 b2 hin)
  clear hs e1 e2 e3 e4 e5 e6 hin hsx
  go_enter Try.func7, Try.ntmps7
  go_wp2_with fail
  refine (known_yes _).mono ?_
  rintro e w1 ⟨rfl, hB1⟩
  go_wp2_with fail
  refine (wrap_eq a b s H1.out _).mono ?_
  rintro e w2 ⟨rfl, rfl⟩
  go_wp2_with fail
  refine (wrap_eq b a s H2.out _).mono ?_
  rintro e w2 ⟨rfl, rfl⟩
  go_wp2_with fail
  refine (wrap_eq s c t H3.out _).mono ?_
  rintro e w2 ⟨rfl, rfl⟩
  go_wp2_with fail
  refine (wrap_eq b c u H4.out _).mono ?_
  rintro e w2 ⟨rfl, rfl⟩
  go_wp2_with fail
  refine (wrap_eq a u t H5.out _).mono ?_
  rintro e w2 ⟨rfl, rfl⟩
  go_wp2_with fail
  refine (wrap_eq a 0 a H6.out _).mono ?_
  rintro e w2 ⟨rfl, rfl⟩
  go_wp2_with fail
  refine (wrap_eq s (-b) a H7.out _).mono ?_
  rintro e w2 ⟨rfl, rfl⟩
  go_wp2_with fail
  refine (HS.out _).mono ?_
  rintro e w2 ⟨rfl, rfl⟩
  go_wp2
  go_ret
  exact ⟨rfl, hB1⟩

theorem ring_yes (a b c : Int) (w : World) (ha : Small a) (hb : Small b) (hc : Small c) :
    Calls Try.prog 7 #[.int .i64 a, .int .i64 b, .int .i64 c] w (Yes w) := by
  by_cases hin : -9223372036854775808 ≤ a + b ∧ a + b ≤ 9223372036854775807
  · have hs : wrap64 (a + b) = a + b := IntWalk.wrap64_in _ hin
    by_cases hneg : b < 0
    · by_cases hlow : b = -9223372036854775808
      · exact ring_c a b c _ w ha hb hc hs hneg hlow rfl
      · exact ring_a a b c _ w ha hb hc hs hneg (by have := hb.1; omega) rfl
    · exact ring_e a b c _ w ha hb hc hs (by omega) rfl
  · by_cases hneg : b < 0
    · by_cases hlow : b = -9223372036854775808
      · exact ring_d a b c _ w ha hb hc rfl hneg hlow (by omega)
      · exact ring_b a b c _ w ha hb hc rfl hneg (by have := hb.1; omega) (by omega)
    · exact ring_f a b c _ w ha hb hc rfl (by omega) (by omega)
end Go.Proofs.Ytjdhfbopnafcgaa
