/- The layer escrow: spans, Range, Room. -/
import Derived.Test.YtpnclppjmgeddaaEsA
namespace Go.Proofs.Ytpnclppjmgeddaa
open Go.RowKit Go.Maps
set_option linter.unusedVariables false

def spanV (f b : Int) : Value := .agg #[.int .u64 f, .int .u64 b]
/-- The accounts, from the first one up to the one behind the last, of which an operation returns a number. -/
def first (kd a ret : Int) : Int := if kd = 13 then (if ret = 0 then 4611686018427387905 - a else 0) else if kd = 14 then (if ret = 1 then a else 0) else (if moneyB ret = true then ret else 0)
def behind (kd a ret : Int) : Int := if kd = 13 then (if ret = 0 then 4611686018427387905 else if ret = 1 then 4611686018427387905 - a else 0) else if kd = 14 then (if ret = 0 then a else if ret = 1 then 4611686018427387905 else 0) else (if moneyB ret = true then ret + 1 else 0)
theorem span_eq {a b c d : Int} (h : a = c) (k : b = d) : spanV a b = spanV c d := by rw [h, k]

set_option maxHeartbeats 1000000 in
theorem deposited_any (x ret : Int) (w : World) (h0 : 0 ≤ x) (h1 : x ≤ 4611686018427387904) :
    Calls Try.prog 43 #[.int .u64 x, .int .i64 ret] w (Says (spanV (first 13 x ret) (behind 13 x ret)) w) := by
  have hR := fun W => room_any x W h0 h1
  have hu : Hid (IntKind.u64.wrap (4611686018427387904 - x + 1) = 4611686018427387905 - x) := by show _ = _; rw [uwrap (by omega) (by omega)]; omega
  by_cases hr0 : ret = 0
  · subst hr0
    have e : spanV (first 13 x 0) (behind 13 x 0) = spanV (4611686018427387905 - x) 4611686018427387905 := span_eq (by simp [first]) (by simp [behind])
    rw [e]
    clear e h0 h1
    go_enter Try.func43, Try.ntmps43
    go_wp2_with fail
    refine (hR _).mono ?_
    rintro e w1 ⟨rfl, rfl⟩
    go_wp2
    rw [hu.out]
    refine bodyPost_ret (v := spanV (4611686018427387905 - x) 4611686018427387905) (by simp [results, Try.f43, go_sem, spanV]) rfl ?_
    exact ⟨rfl, alloc1 w _⟩
  · by_cases hr1 : ret = 1
    · subst hr1
      have e : spanV (first 13 x 1) (behind 13 x 1) = spanV 0 (4611686018427387905 - x) := span_eq (by simp [first]) (by simp [behind])
      rw [e]
      clear e h0 h1 hr0
      go_enter Try.func43, Try.ntmps43
      go_wp2_with fail
      refine (hR _).mono ?_
      rintro e w1 ⟨rfl, rfl⟩
      go_wp2
      rw [hu.out]
      refine bodyPost_ret (v := spanV 0 (4611686018427387905 - x)) (by simp [results, Try.f43, go_sem, spanV]) rfl ?_
      exact ⟨rfl, alloc1 w _⟩
    · have e : spanV (first 13 x ret) (behind 13 x ret) = spanV 0 0 := span_eq (by simp [first, hr0]) (by simp [behind, hr0, hr1])
      have k0 : (ret == 0) = false := beq_eq_false_iff_ne.2 hr0
      have k1 : (ret == 1) = false := beq_eq_false_iff_ne.2 hr1
      rw [e]
      clear e h0 h1 hr0 hr1
      go_enter Try.func43, Try.ntmps43
      go_wp2_with fail
      refine (hR _).mono ?_
      rintro e w1 ⟨rfl, rfl⟩
      go_wp2
      refine bodyPost_ret (v := spanV 0 0) (by simp [results, Try.f43, go_sem, spanV]) rfl ?_
      exact ⟨rfl, alloc1 w _⟩
set_option maxHeartbeats 1000000 in
theorem withdrawn_any (x ret : Int) (w : World) :
    Calls Try.prog 44 #[.int .u64 x, .int .i64 ret] w (Says (spanV (first 14 x ret) (behind 14 x ret)) w) := by
  by_cases hr0 : ret = 0
  · subst hr0
    have e : spanV (first 14 x 0) (behind 14 x 0) = spanV 0 x := span_eq (by simp [first]) (by simp [behind])
    rw [e]
    clear e
    go_enter Try.func44, Try.ntmps44
    go_wp2
    refine bodyPost_ret (v := spanV 0 x) (by simp [results, Try.f44, go_sem, spanV]) rfl ?_
    exact ⟨rfl, alloc1 w _⟩
  · by_cases hr1 : ret = 1
    · subst hr1
      have e : spanV (first 14 x 1) (behind 14 x 1) = spanV x 4611686018427387905 := span_eq (by simp [first]) (by simp [behind])
      rw [e]
      clear e hr0
      go_enter Try.func44, Try.ntmps44
      go_wp2
      refine bodyPost_ret (v := spanV x 4611686018427387905) (by simp [results, Try.f44, go_sem, spanV]) rfl ?_
      exact ⟨rfl, alloc1 w _⟩
    · have e : spanV (first 14 x ret) (behind 14 x ret) = spanV 0 0 := span_eq (by simp [first, hr1]) (by simp [behind, hr0, hr1])
      have k0 : (ret == 0) = false := beq_eq_false_iff_ne.2 hr0
      have k1 : (ret == 1) = false := beq_eq_false_iff_ne.2 hr1
      rw [e]
      clear e hr0 hr1
      go_enter Try.func44, Try.ntmps44
      go_wp2
      refine bodyPost_ret (v := spanV 0 0) (by simp [results, Try.f44, go_sem, spanV]) rfl ?_
      exact ⟨rfl, alloc1 w _⟩
set_option maxHeartbeats 1000000 in
theorem toldspan_any (x ret : Int) (w : World) (hs : Small ret) :
    Calls Try.prog 45 #[.int .u64 x, .int .i64 ret] w (Says (spanV (first 15 x ret) (behind 15 x ret)) w) := by
  have hC := fun W => capped_any (IntKind.u64.wrap ret) W
  rw [money_up hs] at hC
  have hB0 := alloc1 w (.cells #[.int .u64 0, .int .u64 0] 60)
  cases hm : moneyB ret with
  | true =>
    have h := (money_iff ret).1 hm
    have hu : Hid (IntKind.u64.wrap ret = ret) := uwrap (by omega) (by omega)
    have hv : Hid (IntKind.u64.wrap (ret + 1) = ret + 1) := uwrap (by omega) (by omega)
    have e : spanV (first 15 x ret) (behind 15 x ret) = spanV ret (ret + 1) := span_eq (by simp [first, hm]) (by simp [behind, hm])
    rw [e]
    rw [hm] at hC
    clear e h hm hs
    go_enter Try.func45, Try.ntmps45
    go_wp2_with fail
    refine (hC _).mono ?_
    rintro e w1 ⟨rfl, rfl⟩
    go_wp2
    rw [hu.out, hv.out]
    refine bodyPost_ret (v := spanV ret (ret + 1)) (by simp [results, Try.f45, go_sem, spanV]) rfl ?_
    exact ⟨rfl, alloc1 w _⟩
  | false =>
    have e : spanV (first 15 x ret) (behind 15 x ret) = spanV 0 0 := span_eq (by simp [first, hm]) (by simp [behind, hm])
    rw [e]
    rw [hm] at hC
    clear e hm hs
    go_enter Try.func45, Try.ntmps45
    go_wp2_with fail
    refine (hC _).mono ?_
    rintro e w1 ⟨rfl, rfl⟩
    go_wp2
    refine bodyPost_ret (v := spanV 0 0) (by simp [results, Try.f45, go_sem, spanV]) rfl ?_
    exact ⟨rfl, alloc1 w _⟩
def spansV : Value := .agg #[.nilFunc, .nilFunc, .nilFunc, .nilFunc, .nilFunc, .nilFunc, .nilFunc, .nilFunc, .nilFunc, .nilFunc, .nilFunc, .nilFunc, .nilFunc, .func (.func 43) #[] #[], .func (.func 44) #[] #[], .func (.func 45) #[] #[]]
set_option maxHeartbeats 1000000 in
theorem spans_any (w : World) : Calls Try.prog 33 #[] w (Says spansV w) := by
  go_enter Try.func33, Try.ntmps33
  go_wp2
  refine bodyPost_ret (v := spansV) (by simp [results, Try.f33, go_sem, spansV]) rfl ?_
  exact ⟨rfl, alloc1 w _⟩
end Go.Proofs.Ytpnclppjmgeddaa
