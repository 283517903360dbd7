/- The layer escrow: small functions (capped, room, deposit, withdraw, balance, known, takes, kinds), and what they come to. -/
import Derived.Test.YtpnclppjmgeddaaMaS
namespace Go.Proofs.Ytpnclppjmgeddaa
open Go.RowKit Go.Maps
set_option linter.unusedVariables false

theorem uwrap {a : Int} (h0 : 0 ≤ a) (h1 : a < 18446744073709551616) : IntKind.u64.wrap a = a := by rw [u64_mod]; omega
theorem iwrap {a : Int} (h0 : -9223372036854775808 ≤ a) (h1 : a < 9223372036854775808) : wrap64 a = a := by unfold wrap64; omega

theorem ret_duo {a b c d : Int} (h : a = c) (k : b = d) : Ending.returned (.tuple #[.int .u64 a, .int .i64 b]) = .returned (.tuple #[.int .u64 c, .int .i64 d]) := by rw [h, k]
/-- Is a number an account's, from 0 to 2^62? -/
def moneyB (a : Int) : Bool := decide (0 ≤ a) && decide (a ≤ 4611686018427387904)
theorem money_iff (a : Int) : moneyB a = true ↔ 0 ≤ a ∧ a ≤ 4611686018427387904 := by simp [moneyB]
theorem money_not (a : Int) : moneyB a = false ↔ a < 0 ∨ 4611686018427387904 < a := by
  cases h : moneyB a with
  | true => have := (money_iff a).1 h; simp; omega
  | false => simp; have := mt (money_iff a).2 (by rw [h]; simp); omega
theorem money_up {a : Int} (h : Small a) : decide (IntKind.u64.wrap a ≤ 4611686018427387904) = moneyB a := by
  have h1 : -9223372036854775808 ≤ a := h.1
  have h2 : a ≤ 9223372036854775807 := h.2
  rw [u64_mod]
  cases hm : moneyB a with
  | true => have := (money_iff a).1 hm; exact decide_eq_true (by omega)
  | false => have := (money_not a).1 hm; exact decide_eq_false (by omega)
/-- May an operation of that kind have that first argument? -/
def mayB (kd a : Int) : Bool := if kd = 15 then a == 0 else moneyB a
def kdB (kd : Int) : Bool := decide (13 ≤ kd) && decide (kd ≤ 15)
/-- What an account holds behind an operation, and what that returns. -/
def eThen (kd n a : Int) : Int := if kd = 13 then (if a ≤ 4611686018427387904 - n then n + a else n) else if kd = 14 then (if a ≤ n then n - a else n) else n
def eRet (kd n a : Int) : Int := if kd = 13 then (if a ≤ 4611686018427387904 - n then 1 else 0) else if kd = 14 then (if a ≤ n then 1 else 0) else n

theorem capped_any (x : Int) (w : World) : Calls Try.prog 35 #[.int .u64 x] w fun e w' => e = .returned (.bool (decide (x ≤ 4611686018427387904))) ∧ w = w' := by
  go_enter Try.func35, Try.ntmps35
  go_wp2
  go_ret
  exact ⟨rfl, rfl⟩
theorem room_any (x : Int) (w : World) (h0 : 0 ≤ x) (h1 : x ≤ 4611686018427387904) : Calls Try.prog 36 #[.int .u64 x] w fun e w' => e = .returned (.int .u64 (4611686018427387904 - x)) ∧ w = w' := by
  have hu : Hid (IntKind.u64.wrap (4611686018427387904 - x) = 4611686018427387904 - x) := uwrap (by omega) (by omega)
  clear h0 h1
  go_enter Try.func36, Try.ntmps36
  go_wp2
  go_ret
  exact ⟨ret_int hu.out, rfl⟩
theorem eknown_any (kd : Int) (w : World) : Calls Try.prog 26 #[.int .i64 kd] w fun e w' => e = .returned (.bool (kdB kd)) ∧ w = w' := by
  unfold kdB
  cases h1 : decide (13 ≤ kd)
  all_goals
    go_enter Try.func26, Try.ntmps26
    go_wp2
    go_ret
    exact ⟨by simp, rfl⟩
theorem takes_any (kd a : Int) (w : World) (h : Small a) : Calls Try.prog 27 #[.int .i64 kd, .int .i64 a] w fun e w' => e = .returned (.bool (mayB kd a)) ∧ w = w' := by
  by_cases h1 : kd = 15
  · have hk : (kd == 15) = true := by simp [h1]
    have hm : Hid (mayB kd a = (a == 0)) := if_pos h1
    clear h h1
    go_enter Try.func27, Try.ntmps27
    go_wp2
    go_ret
    exact ⟨ret_bool hm.out.symm, rfl⟩
  · have hk : (kd == 15) = false := by simp [h1]
    have hm : Hid (mayB kd a = decide (IntKind.u64.wrap a ≤ 4611686018427387904)) := (if_neg h1).trans (money_up h).symm
    clear h h1
    go_enter Try.func27, Try.ntmps27
    go_wp2_with fail
    refine (capped_any _ _).mono ?_
    rintro e w1 ⟨rfl, rfl⟩
    go_wp2
    go_ret
    exact ⟨ret_bool hm.out.symm, rfl⟩
theorem deposit_any (n x : Int) (w : World) (h0 : 0 ≤ n) (h1 : n ≤ 4611686018427387904) (h2 : 0 ≤ x) (h3 : x ≤ 4611686018427387904) :
    Calls Try.prog 39 #[.int .u64 n, .int .u64 x] w fun e w' => e = .returned (.tuple #[.int .u64 (eThen 13 n x), .int .i64 (eRet 13 n x)]) ∧ w = w' := by
  have hR := fun W => room_any n W h0 h1
  by_cases h : x ≤ 4611686018427387904 - n
  · have hd : decide (4611686018427387904 - n < x) = false := decide_eq_false (by omega)
    have e1 : Hid (IntKind.u64.wrap (n + x) = eThen 13 n x) := by show _ = _; rw [uwrap (by omega) (by omega)]; simp [eThen, h]
    have e2 : Hid ((1 : Int) = eRet 13 n x) := by show _ = _; simp [eRet, h]
    clear h h0 h1 h2 h3
    go_enter Try.func39, Try.ntmps39
    go_wp2_with fail
    refine (hR _).mono ?_
    rintro e w1 ⟨rfl, rfl⟩
    go_wp2
    go_ret2
    exact ⟨ret_duo e1.out e2.out, rfl⟩
  · have hd : decide (4611686018427387904 - n < x) = true := decide_eq_true (by omega)
    have e1 : Hid (n = eThen 13 n x) := by show _ = _; simp [eThen, h]
    have e2 : Hid ((0 : Int) = eRet 13 n x) := by show _ = _; simp [eRet, h]
    clear h h0 h1 h2 h3
    go_enter Try.func39, Try.ntmps39
    go_wp2_with fail
    refine (hR _).mono ?_
    rintro e w1 ⟨rfl, rfl⟩
    go_wp2
    go_ret2
    exact ⟨ret_duo e1.out e2.out, rfl⟩
theorem withdraw_any (n x : Int) (w : World) (h0 : 0 ≤ n) (h1 : n ≤ 4611686018427387904) (h2 : 0 ≤ x) (h3 : x ≤ 4611686018427387904) :
    Calls Try.prog 40 #[.int .u64 n, .int .u64 x] w fun e w' => e = .returned (.tuple #[.int .u64 (eThen 14 n x), .int .i64 (eRet 14 n x)]) ∧ w = w' := by
  by_cases h : x ≤ n
  · have hd : decide (n < x) = false := decide_eq_false (by omega)
    have e1 : Hid (IntKind.u64.wrap (n - x) = eThen 14 n x) := by show _ = _; rw [uwrap (by omega) (by omega)]; simp [eThen, h]
    have e2 : Hid ((1 : Int) = eRet 14 n x) := by show _ = _; simp [eRet, h]
    clear h h0 h1 h2 h3
    go_enter Try.func40, Try.ntmps40
    go_wp2
    go_ret2
    exact ⟨ret_duo e1.out e2.out, rfl⟩
  · have hd : decide (n < x) = true := decide_eq_true (by omega)
    have e1 : Hid (n = eThen 14 n x) := by show _ = _; simp [eThen, h]
    have e2 : Hid ((0 : Int) = eRet 14 n x) := by show _ = _; simp [eRet, h]
    clear h h0 h1 h2 h3
    go_enter Try.func40, Try.ntmps40
    go_wp2
    go_ret2
    exact ⟨ret_duo e1.out e2.out, rfl⟩
theorem balance_any (n x : Int) (w : World) (h0 : 0 ≤ n) (h1 : n ≤ 4611686018427387904) :
    Calls Try.prog 41 #[.int .u64 n, .int .u64 x] w fun e w' => e = .returned (.tuple #[.int .u64 (eThen 15 n x), .int .i64 (eRet 15 n x)]) ∧ w = w' := by
  have e1 : Hid (n = eThen 15 n x) := by show _ = _; simp [eThen]
  have e2 : Hid (wrap64 n = eRet 15 n x) := by show _ = _; rw [iwrap (by omega) (by omega)]; simp [eRet]
  clear h0 h1
  go_enter Try.func41, Try.ntmps41
  go_wp2
  go_ret2
  exact ⟨ret_duo e1.out e2.out, rfl⟩
def kindsV : Value := .agg #[.nilFunc, .nilFunc, .nilFunc, .nilFunc, .nilFunc, .nilFunc, .nilFunc, .nilFunc, .nilFunc, .nilFunc, .nilFunc, .nilFunc, .nilFunc, .func (.func 39) #[] #[], .func (.func 40) #[] #[], .func (.func 41) #[] #[]]
set_option maxHeartbeats 1000000 in
theorem kinds_any (w : World) : Calls Try.prog 28 #[] w (Says kindsV w) := by
  go_enter Try.func28, Try.ntmps28
  go_wp2
  refine bodyPost_ret (v := kindsV) (by simp [results, Try.f28, go_sem, kindsV]) rfl ?_
  exact ⟨rfl, alloc1 w _⟩
end Go.Proofs.Ytpnclppjmgeddaa
