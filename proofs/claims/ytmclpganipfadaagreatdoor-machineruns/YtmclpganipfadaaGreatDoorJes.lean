/- Texts of earlier stages over this seat, joined: EsA EsB EsC EsD EsR EsJ. -/
import Derived.Test.YtmclpganipfadaaGreatDoorJbC
set_option maxRecDepth 100000
namespace Go.Proofs.YtmclpganipfadaaGreatDoor
open Go.RowKit Go.Maps
set_option linter.unusedVariables false

theorem uwrap {a : Int} (h0 : 0 ≤ a) (h1 : a < 18446744073709551616) : IntKind.u64.wrap a = a := by rw [u64_mod]; omega
theorem iwrap {a : Int} (h0 : -9223372036854775808 ≤ a) (h1 : a < 9223372036854775808) : wrap64 a = a := by unfold wrap64; omega

theorem ret_duo {a b c d : Int} (h : a = c) (k : b = d) : Ending.returned (.tuple #[.int .u64 a, .int .i64 b]) = .returned (.tuple #[.int .u64 c, .int .i64 d]) := by rw [h, k]
/-- Is a number an account's, from 0 to 2^62? -/
def moneyB (a : Int) : Bool := decide (0 ≤ a) && decide (a ≤ 4611686018427387904)
theorem money_iff (a : Int) : moneyB a = true ↔ 0 ≤ a ∧ a ≤ 4611686018427387904 := by simp [moneyB]
theorem money_not (a : Int) : moneyB a = false ↔ a < 0 ∨ 4611686018427387904 < a := by
  cases h : moneyB a with
  | true => have := (money_iff a).1 h; simp; omega
  | false => simp; have := mt (money_iff a).2 (by rw [h]; simp); omega
theorem money_up {a : Int} (h : Small a) : decide (IntKind.u64.wrap a ≤ 4611686018427387904) = moneyB a := by
  have h1 : -9223372036854775808 ≤ a := h.1
  have h2 : a ≤ 9223372036854775807 := h.2
  rw [u64_mod]
  cases hm : moneyB a with
  | true => have := (money_iff a).1 hm; exact decide_eq_true (by omega)
  | false => have := (money_not a).1 hm; exact decide_eq_false (by omega)
/-- May an operation of that kind have that first argument? -/
def mayB (kd a : Int) : Bool := if kd = 15 then a == 0 else moneyB a
def kdB (kd : Int) : Bool := decide (13 ≤ kd) && decide (kd ≤ 15)
/-- What an account holds behind an operation, and what that returns. -/
def eThen (kd n a : Int) : Int := if kd = 13 then (if a ≤ 4611686018427387904 - n then n + a else n) else if kd = 14 then (if a ≤ n then n - a else n) else n
def eRet (kd n a : Int) : Int := if kd = 13 then (if a ≤ 4611686018427387904 - n then 1 else 0) else if kd = 14 then (if a ≤ n then 1 else 0) else n

theorem capped_any (x : Int) (w : World) : Calls Tryz.prog 82 #[.int .u64 x] w fun e w' => e = .returned (.bool (decide (x ≤ 4611686018427387904))) ∧ w = w' := by
  go_enter Tryz.func82, Tryz.ntmps82
  go_wp2
  go_ret
  exact ⟨rfl, rfl⟩
theorem room_any (x : Int) (w : World) (h0 : 0 ≤ x) (h1 : x ≤ 4611686018427387904) : Calls Tryz.prog 102 #[.int .u64 x] w fun e w' => e = .returned (.int .u64 (4611686018427387904 - x)) ∧ w = w' := by
  have hu : Hid (IntKind.u64.wrap (4611686018427387904 - x) = 4611686018427387904 - x) := uwrap (by omega) (by omega)
  clear h0 h1
  go_enter Tryz.func102, Tryz.ntmps102
  go_wp2
  go_ret
  exact ⟨ret_int hu.out, rfl⟩
theorem eknown_any (kd : Int) (w : World) : Calls Tryz.prog 61 #[.int .i64 kd] w fun e w' => e = .returned (.bool (kdB kd)) ∧ w = w' := by
  unfold kdB
  cases h1 : decide (13 ≤ kd)
  all_goals
    go_enter Tryz.func61, Tryz.ntmps61
    go_wp2
    go_ret
    exact ⟨by simp, rfl⟩
theorem takes_any (kd a : Int) (w : World) (h : Small a) : Calls Tryz.prog 62 #[.int .i64 kd, .int .i64 a] w fun e w' => e = .returned (.bool (mayB kd a)) ∧ w = w' := by
  by_cases h1 : kd = 15
  · have hk : (kd == 15) = true := by simp [h1]
    have hm : Hid (mayB kd a = (a == 0)) := if_pos h1
    clear h h1
    go_enter Tryz.func62, Tryz.ntmps62
    go_wp2
    go_ret
    exact ⟨ret_bool hm.out.symm, rfl⟩
  · have hk : (kd == 15) = false := by simp [h1]
    have hm : Hid (mayB kd a = decide (IntKind.u64.wrap a ≤ 4611686018427387904)) := (if_neg h1).trans (money_up h).symm
    clear h h1
    go_enter Tryz.func62, Tryz.ntmps62
    go_wp2_with fail
    refine (capped_any _ _).mono ?_
    rintro e w1 ⟨rfl, rfl⟩
    go_wp2
    go_ret
    exact ⟨ret_bool hm.out.symm, rfl⟩
theorem deposit_any (n x : Int) (w : World) (h0 : 0 ≤ n) (h1 : n ≤ 4611686018427387904) (h2 : 0 ≤ x) (h3 : x ≤ 4611686018427387904) :
    Calls Tryz.prog 83 #[.int .u64 n, .int .u64 x] w fun e w' => e = .returned (.tuple #[.int .u64 (eThen 13 n x), .int .i64 (eRet 13 n x)]) ∧ w = w' := by
  have hR := fun W => room_any n W h0 h1
  by_cases h : x ≤ 4611686018427387904 - n
  · have hd : decide (4611686018427387904 - n < x) = false := decide_eq_false (by omega)
    have e1 : Hid (IntKind.u64.wrap (n + x) = eThen 13 n x) := by show _ = _; rw [uwrap (by omega) (by omega)]; simp [eThen, h]
    have e2 : Hid ((1 : Int) = eRet 13 n x) := by show _ = _; simp [eRet, h]
    clear h h0 h1 h2 h3
    go_enter Tryz.func83, Tryz.ntmps83
    go_wp2_with fail
    refine (hR _).mono ?_
    rintro e w1 ⟨rfl, rfl⟩
    go_wp2
    go_ret2
    exact ⟨ret_duo e1.out e2.out, rfl⟩
  · have hd : decide (4611686018427387904 - n < x) = true := decide_eq_true (by omega)
    have e1 : Hid (n = eThen 13 n x) := by show _ = _; simp [eThen, h]
    have e2 : Hid ((0 : Int) = eRet 13 n x) := by show _ = _; simp [eRet, h]
    clear h h0 h1 h2 h3
    go_enter Tryz.func83, Tryz.ntmps83
    go_wp2_with fail
    refine (hR _).mono ?_
    rintro e w1 ⟨rfl, rfl⟩
    go_wp2
    go_ret2
    exact ⟨ret_duo e1.out e2.out, rfl⟩
theorem withdraw_any (n x : Int) (w : World) (h0 : 0 ≤ n) (h1 : n ≤ 4611686018427387904) (h2 : 0 ≤ x) (h3 : x ≤ 4611686018427387904) :
    Calls Tryz.prog 84 #[.int .u64 n, .int .u64 x] w fun e w' => e = .returned (.tuple #[.int .u64 (eThen 14 n x), .int .i64 (eRet 14 n x)]) ∧ w = w' := by
  by_cases h : x ≤ n
  · have hd : decide (n < x) = false := decide_eq_false (by omega)
    have e1 : Hid (IntKind.u64.wrap (n - x) = eThen 14 n x) := by show _ = _; rw [uwrap (by omega) (by omega)]; simp [eThen, h]
    have e2 : Hid ((1 : Int) = eRet 14 n x) := by show _ = _; simp [eRet, h]
    clear h h0 h1 h2 h3
    go_enter Tryz.func84, Tryz.ntmps84
    go_wp2
    go_ret2
    exact ⟨ret_duo e1.out e2.out, rfl⟩
  · have hd : decide (n < x) = true := decide_eq_true (by omega)
    have e1 : Hid (n = eThen 14 n x) := by show _ = _; simp [eThen, h]
    have e2 : Hid ((0 : Int) = eRet 14 n x) := by show _ = _; simp [eRet, h]
    clear h h0 h1 h2 h3
    go_enter Tryz.func84, Tryz.ntmps84
    go_wp2
    go_ret2
    exact ⟨ret_duo e1.out e2.out, rfl⟩
theorem balance_any (n x : Int) (w : World) (h0 : 0 ≤ n) (h1 : n ≤ 4611686018427387904) :
    Calls Tryz.prog 85 #[.int .u64 n, .int .u64 x] w fun e w' => e = .returned (.tuple #[.int .u64 (eThen 15 n x), .int .i64 (eRet 15 n x)]) ∧ w = w' := by
  have e1 : Hid (n = eThen 15 n x) := by show _ = _; simp [eThen]
  have e2 : Hid (wrap64 n = eRet 15 n x) := by show _ = _; rw [iwrap (by omega) (by omega)]; simp [eRet]
  clear h0 h1
  go_enter Tryz.func85, Tryz.ntmps85
  go_wp2
  go_ret2
  exact ⟨ret_duo e1.out e2.out, rfl⟩
def es_kindsV : Value := .agg #[.nilFunc, .nilFunc, .nilFunc, .nilFunc, .nilFunc, .nilFunc, .nilFunc, .nilFunc, .nilFunc, .nilFunc, .nilFunc, .nilFunc, .nilFunc, .func (.func 83) #[] #[], .func (.func 84) #[] #[], .func (.func 85) #[] #[]]
set_option maxHeartbeats 1000000 in
theorem es_kinds_any (w : World) : Calls Tryz.prog 63 #[] w (Says es_kindsV w) := by
  go_enter Tryz.func63, Tryz.ntmps63
  go_wp2
  refine bodyPost_ret (v := es_kindsV) (by simp [results, Tryz.f63, go_sem, es_kindsV]) rfl ?_
  exact ⟨rfl, alloc1 w _⟩
end Go.Proofs.YtmclpganipfadaaGreatDoor

namespace Go.Proofs.YtmclpganipfadaaGreatDoor
open Go.RowKit Go.Maps
set_option linter.unusedVariables false

theorem fits_escrow (n : Int) (l : List Int) : fitsB 5 n l = true ↔ l = [] ∧ moneyB n = true := by
  rw [money_iff]
  unfold fitsB
  simp [and_assoc]
theorem check_escrow {n : Int} (h : moneyB n = true) : checkE 5 n [] = 0 := by
  unfold checkE; rw [if_neg (by omega), if_pos ((fits_escrow n []).2 ⟨rfl, h⟩)]
theorem check_no_escrow {n : Int} {l : List Int} (h : ¬ (l = [] ∧ moneyB n = true)) : checkE 5 n l = 5 := by
  unfold checkE; rw [if_neg (by omega), if_neg (fun e => h ((fits_escrow n l).1 e))]
theorem check_es (n : Int) (A : Option Addr) (c : Nat) (w : World) (h : moneyB n = true) : Calls Tryz.prog 52 #[.agg #[.int .i64 5, .int .i64 n, .slice A 0 c]] w (Says (.int .i64 0) w) := by
  have := check_any 5 n A c [] w (ints_nil _ _) (by simp)
  rw [check_escrow h] at this
  exact this
theorem check_es_no (n : Int) (A : Option Addr) (c : Nat) (l : List Int) (w : World) (hA : Ints w A l) (hlen : l.length ≤ 1000) (h : ¬ (l = [] ∧ moneyB n = true)) : Calls Tryz.prog 52 #[.agg #[.int .i64 5, .int .i64 n, .slice A l.length c]] w (Says (.int .i64 5) w) := by
  have := check_any 5 n A c l w hA hlen
  rw [check_no_escrow h] at this
  exact this

theorem eapply_state (t n : Int) (A : Option Addr) (c : Nat) (l : List Int) (kd a b : Int) (w : World) (h : t ≠ 5) :
    Calls Tryz.prog 38 #[stV t n A l.length c, .int .i64 kd, .int .i64 a, .int .i64 b] w (Says (ansV 0 0 0 0 12) w) := by
  have ht : (t != 5) = true := by rw [bne_iff_ne]; exact h
  clear h
  unfold stV
  go_enter Tryz.func38, Tryz.ntmps38
  go_wp2
  refine bodyPost_ret (v := ansV 0 0 0 0 12) (by simp [results, Tryz.f38, go_sem, ansV, stV, retV]) rfl ?_
  exact ⟨rfl, boxed3_below w _ _ _ _ _⟩
set_option maxHeartbeats 1000000 in
theorem eapply_form (n : Int) (A : Option Addr) (c : Nat) (l : List Int) (kd a b : Int) (w : World) (hA : Ints w A l) (hlen : l.length ≤ 1000) (h : ¬ (l = [] ∧ moneyB n = true)) :
    Calls Tryz.prog 38 #[stV 5 n A l.length c, .int .i64 kd, .int .i64 a, .int .i64 b] w (Says (ansV 0 0 0 0 12) w) := by
  have hB0 := boxed3_below w 5 n A l.length c
  have HW := Lib.hid (boxed3_state w 5 n A l.length c)
  have HZ := Lib.hid (boxed3_then w 5 n A l.length c)
  have HR := Lib.hid (boxed3_ret w 5 n A l.length c)
  have hsz := boxed3_size w 5 n A l.length c
  have H := check_es_no n A c l (boxed3 w 5 n A l.length c) (hA.below hB0) hlen h
  clear hA h
  unfold stV
  go_enter Tryz.func38, Tryz.ntmps38
  go_wp2_with fail
  refine H.mono ?_
  rintro e w1 ⟨rfl, hB1⟩
  generalize boxed3 w 5 n A l.length c = W0 at *
  have HW1 := Lib.hid (HW.out.below hB1 (by omega))
  have HZ1 := Lib.hid (HZ.out.below hB1 (by omega))
  have HR1 := Lib.hid (HR.out.below hB1 (by omega))
  have s1 := HW1.out.c (j := 1) rfl
  have hBw := nxt hB0 hB1 (by omega)
  have hlt1 : w.heap.size + 1 + 1 < w1.heap.size := HR1.out.lt
  clear hsz hB0 hB1 HW HZ HR
  have z0 := HZ1.out.c (j := 0) rfl
  have z1 := HZ1.out.c (j := 1) rfl
  have z2 := HZ1.out.c (j := 2) rfl
  have r0 := HR1.out.c (j := 0) rfl
  have r1 := HR1.out.c (j := 1) rfl
  have y0 := HZ1.out.frozen 0
  have y1 := HZ1.out.frozen 1
  have y2 := HZ1.out.frozen 2
  have x0 := HR1.out.frozen 0
  have x1 := HR1.out.frozen 1
  go_wp2
  obtain ⟨HZ2, HR2, hB3⟩ := filled_holds (m := w.heap.size) HZ1.out HR1.out (by omega) 0 0 (.slice none 0 0) 0 0
  have k0 := HZ2.c (j := 0) rfl
  have k1 := HZ2.c (j := 1) rfl
  have k2 := HZ2.c (j := 2) rfl
  have q0 := HR2.c (j := 0) rfl
  have q1 := HR2.c (j := 1) rfl
  change bodyPost _ _ _ _ _ (filled w1 (w.heap.size + 1) 0 0 (.slice none 0 0) 0 0)
  generalize filled w1 (w.heap.size + 1) 0 0 (.slice none 0 0) 0 0 = W2 at *
  refine bodyPost_ret (v := ansV 0 0 0 0 12) (by simp [results, Tryz.f38, go_sem, ansV, stV, retV, k0, k1, k2, q0, q1]) rfl ?_
  exact ⟨rfl, nxt hBw hB3 (Nat.le_refl _)⟩
set_option maxHeartbeats 1000000 in
theorem eapply_word (n : Int) (A : Option Addr) (c : Nat) (kd a b : Int) (w : World) (hm : moneyB n = true) (h : kdB kd = false) :
    Calls Tryz.prog 38 #[stV 5 n A 0 c, .int .i64 kd, .int .i64 a, .int .i64 b] w (Says (ansV 0 0 0 0 6) w) := by
  have hB0 := boxed3_below w 5 n A 0 c
  have HW := Lib.hid (boxed3_state w 5 n A 0 c)
  have HZ := Lib.hid (boxed3_then w 5 n A 0 c)
  have HR := Lib.hid (boxed3_ret w 5 n A 0 c)
  have hsz := boxed3_size w 5 n A 0 c
  have H := check_es n A c (boxed3 w 5 n A 0 c) hm
  have HN := fun W => eknown_any kd W
  rw [h] at HN
  unfold stV
  go_enter Tryz.func38, Tryz.ntmps38
  go_wp2_with fail
  refine H.mono ?_
  rintro e w1 ⟨rfl, hB1⟩
  generalize boxed3 w 5 n A 0 c = W0 at *
  have HW1 := Lib.hid (HW.out.below hB1 (by omega))
  have HZ1 := Lib.hid (HZ.out.below hB1 (by omega))
  have HR1 := Lib.hid (HR.out.below hB1 (by omega))
  have s1 := HW1.out.c (j := 1) rfl
  have hBw := nxt hB0 hB1 (by omega)
  have hlt1 : w.heap.size + 1 + 1 < w1.heap.size := HR1.out.lt
  clear hsz hB0 hB1 HW HZ HR
  go_wp2_with fail
  refine (HN _).mono ?_
  rintro e w2 ⟨rfl, rfl⟩
  have z0 := HZ1.out.c (j := 0) rfl
  have z1 := HZ1.out.c (j := 1) rfl
  have z2 := HZ1.out.c (j := 2) rfl
  have r0 := HR1.out.c (j := 0) rfl
  have r1 := HR1.out.c (j := 1) rfl
  have y0 := HZ1.out.frozen 0
  have y1 := HZ1.out.frozen 1
  have y2 := HZ1.out.frozen 2
  have x0 := HR1.out.frozen 0
  have x1 := HR1.out.frozen 1
  go_wp2
  obtain ⟨HZ2, HR2, hB3⟩ := filled_holds (m := w.heap.size) HZ1.out HR1.out (by omega) 0 0 (.slice none 0 0) 0 0
  have k0 := HZ2.c (j := 0) rfl
  have k1 := HZ2.c (j := 1) rfl
  have k2 := HZ2.c (j := 2) rfl
  have q0 := HR2.c (j := 0) rfl
  have q1 := HR2.c (j := 1) rfl
  change bodyPost _ _ _ _ _ (filled w1 (w.heap.size + 1) 0 0 (.slice none 0 0) 0 0)
  generalize filled w1 (w.heap.size + 1) 0 0 (.slice none 0 0) 0 0 = W2 at *
  refine bodyPost_ret (v := ansV 0 0 0 0 6) (by simp [results, Tryz.f38, go_sem, ansV, stV, retV, k0, k1, k2, q0, q1]) rfl ?_
  exact ⟨rfl, nxt hBw hB3 (Nat.le_refl _)⟩
set_option maxHeartbeats 1000000 in
theorem eapply_b (n : Int) (A : Option Addr) (c : Nat) (kd a b : Int) (w : World) (hm : moneyB n = true) (h : kdB kd = true) (hb : b ≠ 0) :
    Calls Tryz.prog 38 #[stV 5 n A 0 c, .int .i64 kd, .int .i64 a, .int .i64 b] w (Says (ansV 0 0 0 0 2) w) := by
  have hB0 := boxed3_below w 5 n A 0 c
  have HW := Lib.hid (boxed3_state w 5 n A 0 c)
  have HZ := Lib.hid (boxed3_then w 5 n A 0 c)
  have HR := Lib.hid (boxed3_ret w 5 n A 0 c)
  have hsz := boxed3_size w 5 n A 0 c
  have H := check_es n A c (boxed3 w 5 n A 0 c) hm
  have HN := fun W => eknown_any kd W
  rw [h] at HN
  have hb1 : (b != 0) = true := by rw [bne_iff_ne]; exact hb
  clear hb
  unfold stV
  go_enter Tryz.func38, Tryz.ntmps38
  go_wp2_with fail
  refine H.mono ?_
  rintro e w1 ⟨rfl, hB1⟩
  generalize boxed3 w 5 n A 0 c = W0 at *
  have HW1 := Lib.hid (HW.out.below hB1 (by omega))
  have HZ1 := Lib.hid (HZ.out.below hB1 (by omega))
  have HR1 := Lib.hid (HR.out.below hB1 (by omega))
  have s1 := HW1.out.c (j := 1) rfl
  have hBw := nxt hB0 hB1 (by omega)
  have hlt1 : w.heap.size + 1 + 1 < w1.heap.size := HR1.out.lt
  clear hsz hB0 hB1 HW HZ HR
  go_wp2_with fail
  refine (HN _).mono ?_
  rintro e w2 ⟨rfl, rfl⟩
  have z0 := HZ1.out.c (j := 0) rfl
  have z1 := HZ1.out.c (j := 1) rfl
  have z2 := HZ1.out.c (j := 2) rfl
  have r0 := HR1.out.c (j := 0) rfl
  have r1 := HR1.out.c (j := 1) rfl
  have y0 := HZ1.out.frozen 0
  have y1 := HZ1.out.frozen 1
  have y2 := HZ1.out.frozen 2
  have x0 := HR1.out.frozen 0
  have x1 := HR1.out.frozen 1
  go_wp2
  obtain ⟨HZ2, HR2, hB3⟩ := filled_holds (m := w.heap.size) HZ1.out HR1.out (by omega) 0 0 (.slice none 0 0) 0 0
  have k0 := HZ2.c (j := 0) rfl
  have k1 := HZ2.c (j := 1) rfl
  have k2 := HZ2.c (j := 2) rfl
  have q0 := HR2.c (j := 0) rfl
  have q1 := HR2.c (j := 1) rfl
  change bodyPost _ _ _ _ _ (filled w1 (w.heap.size + 1) 0 0 (.slice none 0 0) 0 0)
  generalize filled w1 (w.heap.size + 1) 0 0 (.slice none 0 0) 0 0 = W2 at *
  refine bodyPost_ret (v := ansV 0 0 0 0 2) (by simp [results, Tryz.f38, go_sem, ansV, stV, retV, k0, k1, k2, q0, q1]) rfl ?_
  exact ⟨rfl, nxt hBw hB3 (Nat.le_refl _)⟩
set_option maxHeartbeats 1000000 in
theorem eapply_a (n : Int) (A : Option Addr) (c : Nat) (kd a : Int) (w : World) (hm : moneyB n = true) (h : kdB kd = true) (ha : mayB kd a = false) (hs : Small a) :
    Calls Tryz.prog 38 #[stV 5 n A 0 c, .int .i64 kd, .int .i64 a, .int .i64 0] w (Says (ansV 0 0 0 0 2) w) := by
  have hB0 := boxed3_below w 5 n A 0 c
  have HW := Lib.hid (boxed3_state w 5 n A 0 c)
  have HZ := Lib.hid (boxed3_then w 5 n A 0 c)
  have HR := Lib.hid (boxed3_ret w 5 n A 0 c)
  have hsz := boxed3_size w 5 n A 0 c
  have H := check_es n A c (boxed3 w 5 n A 0 c) hm
  have HN := fun W => eknown_any kd W
  rw [h] at HN
  have HT := fun W => takes_any kd a W hs
  rw [ha] at HT
  clear ha hs
  unfold stV
  go_enter Tryz.func38, Tryz.ntmps38
  go_wp2_with fail
  refine H.mono ?_
  rintro e w1 ⟨rfl, hB1⟩
  generalize boxed3 w 5 n A 0 c = W0 at *
  have HW1 := Lib.hid (HW.out.below hB1 (by omega))
  have HZ1 := Lib.hid (HZ.out.below hB1 (by omega))
  have HR1 := Lib.hid (HR.out.below hB1 (by omega))
  have s1 := HW1.out.c (j := 1) rfl
  have hBw := nxt hB0 hB1 (by omega)
  have hlt1 : w.heap.size + 1 + 1 < w1.heap.size := HR1.out.lt
  clear hsz hB0 hB1 HW HZ HR
  go_wp2_with fail
  refine (HN _).mono ?_
  rintro e w2 ⟨rfl, rfl⟩
  go_wp2_with fail
  refine (HT _).mono ?_
  rintro e w2 ⟨rfl, rfl⟩
  have z0 := HZ1.out.c (j := 0) rfl
  have z1 := HZ1.out.c (j := 1) rfl
  have z2 := HZ1.out.c (j := 2) rfl
  have r0 := HR1.out.c (j := 0) rfl
  have r1 := HR1.out.c (j := 1) rfl
  have y0 := HZ1.out.frozen 0
  have y1 := HZ1.out.frozen 1
  have y2 := HZ1.out.frozen 2
  have x0 := HR1.out.frozen 0
  have x1 := HR1.out.frozen 1
  go_wp2
  obtain ⟨HZ2, HR2, hB3⟩ := filled_holds (m := w.heap.size) HZ1.out HR1.out (by omega) 0 0 (.slice none 0 0) 0 0
  have k0 := HZ2.c (j := 0) rfl
  have k1 := HZ2.c (j := 1) rfl
  have k2 := HZ2.c (j := 2) rfl
  have q0 := HR2.c (j := 0) rfl
  have q1 := HR2.c (j := 1) rfl
  change bodyPost _ _ _ _ _ (filled w1 (w.heap.size + 1) 0 0 (.slice none 0 0) 0 0)
  generalize filled w1 (w.heap.size + 1) 0 0 (.slice none 0 0) 0 0 = W2 at *
  refine bodyPost_ret (v := ansV 0 0 0 0 2) (by simp [results, Tryz.f38, go_sem, ansV, stV, retV, k0, k1, k2, q0, q1]) rfl ?_
  exact ⟨rfl, nxt hBw hB3 (Nat.le_refl _)⟩
set_option maxHeartbeats 1000000 in
theorem eapply_with (n : Int) (A : Option Addr) (c : Nat) (kd a : Int) (w : World) (g : Nat) (hm : moneyB n = true) (h : kdB kd = true) (ha : mayB kd a = true) (hs : Small a) (n2 r : Int) (hn2 : moneyB n2 = true)
    (hix : ∀ W : World, (Instr.index 94 es_kindsV (.int .i64 kd)).run Tryz.prog W = .ok (.func (.func g) #[] #[]) W)
    (eg : ∀ args w, (callFunc g args).run Tryz.prog w = .ok (.enter g args) w)
    (HG : ∀ W, Calls Tryz.prog g #[.int .u64 (IntKind.u64.wrap n), .int .u64 (IntKind.u64.wrap a)] W fun e w' => e = .returned (.tuple #[.int .u64 n2, .int .i64 r]) ∧ W = w') :
    Calls Tryz.prog 38 #[stV 5 n A 0 c, .int .i64 kd, .int .i64 a, .int .i64 0] w (Says (ansV 5 n2 2 r 0) w) := by
  have hB0 := boxed3_below w 5 n A 0 c
  have HW := Lib.hid (boxed3_state w 5 n A 0 c)
  have HZ := Lib.hid (boxed3_then w 5 n A 0 c)
  have HR := Lib.hid (boxed3_ret w 5 n A 0 c)
  have hsz := boxed3_size w 5 n A 0 c
  have H := check_es n A c (boxed3 w 5 n A 0 c) hm
  have HN := fun W => eknown_any kd W
  rw [h] at HN
  have HT := fun W => takes_any kd a W hs
  rw [ha] at HT
  have hn3 : Hid (wrap64 n2 = n2) := by have := (money_iff n2).1 hn2; exact iwrap (by omega) (by omega)
  clear ha hs h hm hn2
  obtain ⟨va, hva⟩ : ∃ va, es_kindsV = va := ⟨_, rfl⟩
  rw [hva] at hix
  have HK : ∀ W : World, Calls Tryz.prog 63 #[] W (Says va W) := fun W => hva ▸ es_kinds_any W
  clear hva
  unfold stV
  go_enter Tryz.func38, Tryz.ntmps38
  go_wp2_with fail
  refine H.mono ?_
  rintro e w1 ⟨rfl, hB1⟩
  generalize boxed3 w 5 n A 0 c = W0 at *
  have HW1 := Lib.hid (HW.out.below hB1 (by omega))
  have HZ1 := Lib.hid (HZ.out.below hB1 (by omega))
  have HR1 := Lib.hid (HR.out.below hB1 (by omega))
  have s1 := HW1.out.c (j := 1) rfl
  have hBw := nxt hB0 hB1 (by omega)
  have hlt1 : w.heap.size + 1 + 1 < w1.heap.size := HR1.out.lt
  clear hsz hB0 hB1 HW HZ HR
  go_wp2_with fail
  refine (HN _).mono ?_
  rintro e w2 ⟨rfl, rfl⟩
  go_wp2_with fail
  refine (HT _).mono ?_
  rintro e w2 ⟨rfl, rfl⟩
  go_wp2_with fail
  refine (HK _).mono ?_
  rintro e w2 ⟨rfl, hB2⟩
  have HW2 := Lib.hid (HW1.out.below hB2 (by omega))
  replace HZ1 := Lib.hid (HZ1.out.below hB2 (by omega))
  replace HR1 := Lib.hid (HR1.out.below hB2 (by omega))
  replace hBw := nxt hBw hB2 hBw.size
  have hs2 := hB2.size
  clear HW1 s1
  have s1 := HW2.out.c (j := 1) rfl
  go_wp2_with fail
  refine (HG _).mono ?_
  rintro e w3 ⟨rfl, rfl⟩
  have z0 := HZ1.out.c (j := 0) rfl
  have z1 := HZ1.out.c (j := 1) rfl
  have z2 := HZ1.out.c (j := 2) rfl
  have r0 := HR1.out.c (j := 0) rfl
  have r1 := HR1.out.c (j := 1) rfl
  have y0 := HZ1.out.frozen 0
  have y1 := HZ1.out.frozen 1
  have y2 := HZ1.out.frozen 2
  have x0 := HR1.out.frozen 0
  have x1 := HR1.out.frozen 1
  go_wp2
  rw [hn3.out]
  obtain ⟨HZ2, HR2, hB3⟩ := filled_holds (m := w.heap.size) HZ1.out HR1.out (by omega) 5 n2 (.slice none 0 0) 2 r
  have k0 := HZ2.c (j := 0) rfl
  have k1 := HZ2.c (j := 1) rfl
  have k2 := HZ2.c (j := 2) rfl
  have q0 := HR2.c (j := 0) rfl
  have q1 := HR2.c (j := 1) rfl
  change bodyPost _ _ _ _ _ (filled w2 (w.heap.size + 1) 5 n2 (.slice none 0 0) 2 r)
  generalize filled w2 (w.heap.size + 1) 5 n2 (.slice none 0 0) 2 r = W2 at *
  refine bodyPost_ret (v := ansV 5 n2 2 r 0) (by simp [results, Tryz.f38, go_sem, ansV, stV, retV, k0, k1, k2, q0, q1]) rfl ?_
  exact ⟨rfl, nxt hBw hB3 (Nat.le_refl _)⟩

theorem then_money {kd n a : Int} (hm : moneyB n = true) (ha : mayB kd a = true) : moneyB (eThen kd n a) = true := by
  have h := (money_iff n).1 hm
  refine (money_iff _).2 ?_
  unfold mayB at ha
  by_cases h15 : kd = 15
  · subst h15; simp [eThen]; omega
  · rw [if_neg h15] at ha
    have h2 := (money_iff a).1 ha
    unfold eThen
    split
    · split <;> omega
    · split
      · split <;> omega
      · omega
theorem kd_three {kd : Int} (h : kdB kd = true) : kd = 13 ∨ kd = 14 ∨ kd = 15 := by
  unfold kdB at h; simp at h; omega
set_option maxHeartbeats 1000000 in
theorem eapply_yes (n : Int) (A : Option Addr) (c : Nat) (kd a : Int) (w : World) (hm : moneyB n = true) (h : kdB kd = true) (ha : mayB kd a = true) (hs : Small a) :
    Calls Tryz.prog 38 #[stV 5 n A 0 c, .int .i64 kd, .int .i64 a, .int .i64 0] w (Says (ansV 5 (eThen kd n a) 2 (eRet kd n a) 0) w) := by
  have hn := (money_iff n).1 hm
  have un : IntKind.u64.wrap n = n := uwrap (by omega) (by omega)
  have hth := then_money hm ha
  rcases kd_three h with rfl | rfl | rfl
  · have h2 := (money_iff a).1 ha
    have ua : IntKind.u64.wrap a = a := uwrap (by omega) (by omega)
    exact eapply_with n A c 13 a w 83 hm h ha hs _ _ hth (fun W => by kernel_rfl) (Go.Proofs.enters_of Tryz.func83 (by kernel_rfl) rfl) (fun W => by rw [un, ua]; exact deposit_any n a W (by omega) (by omega) (by omega) (by omega))
  · have h2 := (money_iff a).1 ha
    have ua : IntKind.u64.wrap a = a := uwrap (by omega) (by omega)
    exact eapply_with n A c 14 a w 84 hm h ha hs _ _ hth (fun W => by kernel_rfl) (Go.Proofs.enters_of Tryz.func84 (by kernel_rfl) rfl) (fun W => by rw [un, ua]; exact withdraw_any n a W (by omega) (by omega) (by omega) (by omega))
  · obtain rfl : a = 0 := by simpa [mayB] using ha
    exact eapply_with n A c 15 0 w 85 hm h ha hs _ _ hth (fun W => by kernel_rfl) (Go.Proofs.enters_of Tryz.func85 (by kernel_rfl) rfl) (fun W => by rw [un]; exact balance_any n _ W (by omega) (by omega))

/-- What Apply answers: the state then, what is returned, the error. -/
def escA (t n : Int) (l : List Int) (kd a b : Int) : Int × Int × Int × Int × Int :=
  if t = 5 ∧ l = [] ∧ moneyB n = true then
    if kdB kd = true then
      if b = 0 ∧ mayB kd a = true then (5, eThen kd n a, 2, eRet kd n a, 0) else (0, 0, 0, 0, 2)
    else (0, 0, 0, 0, 6)
  else (0, 0, 0, 0, 12)
def escV (p : Int × Int × Int × Int × Int) : Value := ansV p.1 p.2.1 p.2.2.1 p.2.2.2.1 p.2.2.2.2
theorem eapply_any (t n : Int) (A : Option Addr) (c : Nat) (l : List Int) (kd a b : Int) (w : World) (hA : Ints w A l) (hlen : l.length ≤ 1000) (hs : Small a) :
    Calls Tryz.prog 38 #[stV t n A l.length c, .int .i64 kd, .int .i64 a, .int .i64 b] w (Says (escV (escA t n l kd a b)) w) := by
  unfold escA
  split
  · next h =>
    obtain ⟨rfl, rfl, hm⟩ := h
    split
    · next hk =>
      split
      · next h2 =>
        obtain ⟨rfl, ha⟩ := h2
        exact eapply_yes n A c kd a w hm hk ha hs
      · next h2 =>
        by_cases hb : b = 0
        · subst hb
          exact eapply_a n A c kd a w hm hk (by cases h : mayB kd a with | true => exact absurd ⟨rfl, h⟩ h2 | false => rfl) hs
        · exact eapply_b n A c kd a b w hm hk hb
    · next hk => exact eapply_word n A c kd a b w hm (by simpa using hk)
  · next h =>
    by_cases ht : t = 5
    · subst ht
      exact eapply_form n A c l kd a b w hA hlen (fun e => h ⟨rfl, e⟩)
    · exact eapply_state t n A c l kd a b w ht
end Go.Proofs.YtmclpganipfadaaGreatDoor

namespace Go.Proofs.YtmclpganipfadaaGreatDoor
open Go.RowKit Go.Maps
set_option linter.unusedVariables false

def spanV (f b : Int) : Value := .agg #[.int .u64 f, .int .u64 b]
/-- The accounts, from the first one up to the one behind the last, of which an operation returns a number. -/
def first (kd a ret : Int) : Int := if kd = 13 then (if ret = 0 then 4611686018427387905 - a else 0) else if kd = 14 then (if ret = 1 then a else 0) else (if moneyB ret = true then ret else 0)
def behind (kd a ret : Int) : Int := if kd = 13 then (if ret = 0 then 4611686018427387905 else if ret = 1 then 4611686018427387905 - a else 0) else if kd = 14 then (if ret = 0 then a else if ret = 1 then 4611686018427387905 else 0) else (if moneyB ret = true then ret + 1 else 0)
theorem span_eq {a b c d : Int} (h : a = c) (k : b = d) : spanV a b = spanV c d := by rw [h, k]

end Go.Proofs.YtmclpganipfadaaGreatDoor

namespace Go.Proofs.YtmclpganipfadaaGreatDoor
open Go.RowKit Go.Maps
set_option linter.unusedVariables false

theorem i64in {a : Int} (h0 : -9223372036854775808 ≤ a) (h1 : a ≤ 9223372036854775807) : IntKind.i64.wrap a = a := by rw [IntKind.wrap_i64]; omega
/-- The range of an operation's return: from, to, is there one? -/
def rangeP (kd a ret : Int) : Int × Int × Bool := if kdB kd = true ∧ mayB kd a = true ∧ first kd a ret ≠ behind kd a ret then (first kd a ret, behind kd a ret - 1, true) else (0, 0, false)
def rangeV (p : Int × Int × Bool) : Value := .tuple #[.int .i64 p.1, .int .i64 p.2.1, .bool p.2.2]
theorem ret_tri {a b c d : Int} {x y : Bool} (h : a = c) (k : b = d) (j : x = y) : Ending.returned (.tuple #[.int .i64 a, .int .i64 b, .bool x]) = .returned (.tuple #[.int .i64 c, .int .i64 d, .bool y]) := by rw [h, k, j]

theorem span_bd {kd a ret : Int} (ha : 0 ≤ a) (hb : a ≤ 4611686018427387904) : 0 ≤ first kd a ret ∧ first kd a ret ≤ 4611686018427387905 ∧ 0 ≤ behind kd a ret ∧ behind kd a ret ≤ 4611686018427387905 ∧ first kd a ret ≤ behind kd a ret := by
  unfold first behind
  split
  · split
    · omega
    · split <;> omega
  · split
    · split
      · split <;> omega
      · split <;> omega
    · split
      · next h => have := (money_iff ret).1 h; omega
      · omega
theorem may_bd {kd a : Int} (h : mayB kd a = true) : 0 ≤ a ∧ a ≤ 4611686018427387904 := by
  unfold mayB at h
  split at h
  · simp at h; omega
  · exact (money_iff a).1 h

theorem range_eq {kd a ret : Int} (h1 : kdB kd = true) (h2 : mayB kd a = true) : (if first kd a ret = behind kd a ret then (0, 0, false) else (first kd a ret, behind kd a ret - 1, true)) = rangeP kd a ret := by
  unfold rangeP
  by_cases h : first kd a ret = behind kd a ret
  · rw [if_pos h, if_neg (fun e => e.2.2 h)]
  · rw [if_neg h, if_pos ⟨h1, h2, h⟩]
def roomN (n : Int) : Int := if moneyB n = true then 4611686018427387904 - n else 0
theorem room_no {n : Int} (h : moneyB n = false) : roomN n = 0 := by unfold roomN; rw [h]; rfl
theorem room_yes {n : Int} (h : moneyB n = true) : roomN n = 4611686018427387904 - n := if_pos h
end Go.Proofs.YtmclpganipfadaaGreatDoor

namespace Go.Proofs.YtmclpganipfadaaGreatDoor
open Go.RowKit Go.Maps
set_option linter.unusedVariables false

theorem rmoney_any (n : Int) (w : World) : Calls Tryz.prog 66 #[.int .i64 n] w fun e w' => e = .returned (.bool (moneyB n)) ∧ w = w' := by
  unfold moneyB
  cases h1 : decide (0 ≤ n)
  all_goals
    go_enter Tryz.func66, Tryz.ntmps66
    go_wp2
    go_ret
    exact ⟨by simp, rfl⟩
set_option maxHeartbeats 1000000 in
theorem rmay_any (kd a : Int) (w : World) : Calls Tryz.prog 48 #[.int .i64 kd, .int .i64 a] w fun e w' => e = .returned (.bool (kdB kd && mayB kd a)) ∧ w = w' := by
  have HM := fun W => rmoney_any a W
  by_cases h13 : kd = 13
  · subst h13
    have e : (kdB 13 && mayB 13 a) = moneyB a := by simp [kdB, mayB]
    rw [e]
    clear e
    cases hm : moneyB a
    all_goals
      rw [hm] at HM
      clear hm
      go_enter Tryz.func48, Tryz.ntmps48
      go_wp2_with fail
      refine (HM _).mono ?_
      rintro e w1 ⟨rfl, rfl⟩
      go_wp2
      go_ret
      exact ⟨rfl, rfl⟩
  · have k13 : (kd == 13) = false := beq_eq_false_iff_ne.2 h13
    by_cases h14 : kd = 14
    · subst h14
      have e : (kdB 14 && mayB 14 a) = moneyB a := by simp [kdB, mayB]
      rw [e]
      clear e h13 k13
      cases hm : moneyB a
      all_goals
        rw [hm] at HM
        clear hm
        go_enter Tryz.func48, Tryz.ntmps48
        go_wp2_with fail
        refine (HM _).mono ?_
        rintro e w1 ⟨rfl, rfl⟩
        go_wp2
        go_ret
        exact ⟨rfl, rfl⟩
    · have k14 : (kd == 14) = false := beq_eq_false_iff_ne.2 h14
      clear HM
      by_cases h15 : kd = 15
      · subst h15
        have e : (kdB 15 && mayB 15 a) = (a == 0) := by simp [kdB, mayB]
        rw [e]
        clear e h13 k13 h14 k14
        go_enter Tryz.func48, Tryz.ntmps48
        go_wp2
        go_ret
        exact ⟨rfl, rfl⟩
      · have k15 : (kd == 15) = false := beq_eq_false_iff_ne.2 h15
        have e : (kdB kd && mayB kd a) = false := by
          have : kdB kd = false := by unfold kdB; simp; omega
          rw [this]; rfl
        rw [e]
        clear e h13 h14 h15
        go_enter Tryz.func48, Tryz.ntmps48
        go_wp2
        go_ret
        exact ⟨rfl, rfl⟩
theorem es_told_any (n r : Int) (w : World) : Calls Tryz.prog 49 #[.int .i64 n, .int .i64 r] w (Says (ansV 5 n 2 r 0) w) := by
  go_enter Tryz.func49, Tryz.ntmps49
  go_wp2
  refine bodyPost_ret (v := ansV 5 n 2 r 0) (by simp [results, Tryz.f49, go_sem, ansV, stV, retV]) rfl ?_
  exact ⟨rfl, (alloc1 w _).alloc (by simp) _⟩
end Go.Proofs.YtmclpganipfadaaGreatDoor

namespace Go.Proofs.YtmclpganipfadaaGreatDoor
open Go.RowKit Go.Maps
set_option linter.unusedVariables false

theorem rcheck_es (n : Int) (A : Option Addr) (c : Nat) (w : World) (h : moneyB n = true) : Calls Tryz.prog 39 #[.agg #[.int .i64 5, .int .i64 n, .slice A 0 c]] w (Says (.int .i64 0) w) := by
  have := rcheck_any 5 n A c [] w (ints_nil _ _) (by simp)
  rw [check_escrow h] at this
  exact this
theorem rcheck_es_no (n : Int) (A : Option Addr) (c : Nat) (l : List Int) (w : World) (hA : Ints w A l) (hlen : l.length ≤ 1000) (h : ¬ (l = [] ∧ moneyB n = true)) : Calls Tryz.prog 39 #[.agg #[.int .i64 5, .int .i64 n, .slice A l.length c]] w (Says (.int .i64 5) w) := by
  have := rcheck_any 5 n A c l w hA hlen
  rw [check_no_escrow h] at this
  exact this
theorem es_rapply_state (t n : Int) (A : Option Addr) (c : Nat) (l : List Int) (kd a b : Int) (w : World) (h : t ≠ 5) :
    Calls Tryz.prog 29 #[stV t n A l.length c, .int .i64 kd, .int .i64 a, .int .i64 b] w (Says (ansV 0 0 0 0 12) w) := by
  have ht : (t != 5) = true := by rw [bne_iff_ne]; exact h
  clear h
  unfold stV
  go_enter Tryz.func29, Tryz.ntmps29
  go_wp2
  refine bodyPost_ret (v := ansV 0 0 0 0 12) (by simp [results, Tryz.f29, go_sem, ansV, stV, retV]) rfl ?_
  exact ⟨rfl, boxed3_below w _ _ _ _ _⟩
set_option maxHeartbeats 1000000 in
theorem es_rapply_form (n : Int) (A : Option Addr) (c : Nat) (l : List Int) (kd a b : Int) (w : World) (hA : Ints w A l) (hlen : l.length ≤ 1000) (h : ¬ (l = [] ∧ moneyB n = true)) :
    Calls Tryz.prog 29 #[stV 5 n A l.length c, .int .i64 kd, .int .i64 a, .int .i64 b] w (Says (ansV 0 0 0 0 12) w) := by
  have hB0 := boxed3_below w 5 n A l.length c
  have HW := Lib.hid (boxed3_state w 5 n A l.length c)
  have HZ := Lib.hid (boxed3_then w 5 n A l.length c)
  have HR := Lib.hid (boxed3_ret w 5 n A l.length c)
  have hsz := boxed3_size w 5 n A l.length c
  have H := rcheck_es_no n A c l (boxed3 w 5 n A l.length c) (hA.below hB0) hlen h
  clear hA h
  unfold stV
  go_enter Tryz.func29, Tryz.ntmps29
  go_wp2_with fail
  refine H.mono ?_
  rintro e w1 ⟨rfl, hB1⟩
  generalize boxed3 w 5 n A l.length c = W0 at *
  have HW1 := Lib.hid (HW.out.below hB1 (by omega))
  have HZ1 := Lib.hid (HZ.out.below hB1 (by omega))
  have HR1 := Lib.hid (HR.out.below hB1 (by omega))
  have s1 := HW1.out.c (j := 1) rfl
  have hBw := nxt hB0 hB1 (by omega)
  have hlt1 : w.heap.size + 1 + 1 < w1.heap.size := HR1.out.lt
  clear hsz hB0 hB1 HW HZ HR
  have z0 := HZ1.out.c (j := 0) rfl
  have z1 := HZ1.out.c (j := 1) rfl
  have z2 := HZ1.out.c (j := 2) rfl
  have r0 := HR1.out.c (j := 0) rfl
  have r1 := HR1.out.c (j := 1) rfl
  have y0 := HZ1.out.frozen 0
  have y1 := HZ1.out.frozen 1
  have y2 := HZ1.out.frozen 2
  have x0 := HR1.out.frozen 0
  have x1 := HR1.out.frozen 1
  go_wp2
  obtain ⟨HZ2, HR2, hB3⟩ := filled_holds (m := w.heap.size) HZ1.out HR1.out (by omega) 0 0 (.slice none 0 0) 0 0
  have k0 := HZ2.c (j := 0) rfl
  have k1 := HZ2.c (j := 1) rfl
  have k2 := HZ2.c (j := 2) rfl
  have q0 := HR2.c (j := 0) rfl
  have q1 := HR2.c (j := 1) rfl
  change bodyPost _ _ _ _ _ (filled w1 (w.heap.size + 1) 0 0 (.slice none 0 0) 0 0)
  generalize filled w1 (w.heap.size + 1) 0 0 (.slice none 0 0) 0 0 = W2 at *
  refine bodyPost_ret (v := ansV 0 0 0 0 12) (by simp [results, Tryz.f29, go_sem, ansV, stV, retV, k0, k1, k2, q0, q1]) rfl ?_
  exact ⟨rfl, nxt hBw hB3 (Nat.le_refl _)⟩
set_option maxHeartbeats 1000000 in
theorem rapply_word1 (n : Int) (A : Option Addr) (c : Nat) (kd a b : Int) (w : World) (hm : moneyB n = true) (h : kd < 13) :
    Calls Tryz.prog 29 #[stV 5 n A 0 c, .int .i64 kd, .int .i64 a, .int .i64 b] w (Says (ansV 0 0 0 0 6) w) := by
  have hB0 := boxed3_below w 5 n A 0 c
  have HW := Lib.hid (boxed3_state w 5 n A 0 c)
  have HZ := Lib.hid (boxed3_then w 5 n A 0 c)
  have HR := Lib.hid (boxed3_ret w 5 n A 0 c)
  have hsz := boxed3_size w 5 n A 0 c
  have H := rcheck_es n A c (boxed3 w 5 n A 0 c) hm
  have d1 : decide (kd < 13) = true := decide_eq_true h
  clear h
  unfold stV
  go_enter Tryz.func29, Tryz.ntmps29
  go_wp2_with fail
  refine H.mono ?_
  rintro e w1 ⟨rfl, hB1⟩
  generalize boxed3 w 5 n A 0 c = W0 at *
  have HW1 := Lib.hid (HW.out.below hB1 (by omega))
  have HZ1 := Lib.hid (HZ.out.below hB1 (by omega))
  have HR1 := Lib.hid (HR.out.below hB1 (by omega))
  have s1 := HW1.out.c (j := 1) rfl
  have hBw := nxt hB0 hB1 (by omega)
  have hlt1 : w.heap.size + 1 + 1 < w1.heap.size := HR1.out.lt
  clear hsz hB0 hB1 HW HZ HR
  have z0 := HZ1.out.c (j := 0) rfl
  have z1 := HZ1.out.c (j := 1) rfl
  have z2 := HZ1.out.c (j := 2) rfl
  have r0 := HR1.out.c (j := 0) rfl
  have r1 := HR1.out.c (j := 1) rfl
  have y0 := HZ1.out.frozen 0
  have y1 := HZ1.out.frozen 1
  have y2 := HZ1.out.frozen 2
  have x0 := HR1.out.frozen 0
  have x1 := HR1.out.frozen 1
  go_wp2
  obtain ⟨HZ2, HR2, hB3⟩ := filled_holds (m := w.heap.size) HZ1.out HR1.out (by omega) 0 0 (.slice none 0 0) 0 0
  have k0 := HZ2.c (j := 0) rfl
  have k1 := HZ2.c (j := 1) rfl
  have k2 := HZ2.c (j := 2) rfl
  have q0 := HR2.c (j := 0) rfl
  have q1 := HR2.c (j := 1) rfl
  change bodyPost _ _ _ _ _ (filled w1 (w.heap.size + 1) 0 0 (.slice none 0 0) 0 0)
  generalize filled w1 (w.heap.size + 1) 0 0 (.slice none 0 0) 0 0 = W2 at *
  refine bodyPost_ret (v := ansV 0 0 0 0 6) (by simp [results, Tryz.f29, go_sem, ansV, stV, retV, k0, k1, k2, q0, q1]) rfl ?_
  exact ⟨rfl, nxt hBw hB3 (Nat.le_refl _)⟩
set_option maxHeartbeats 1000000 in
theorem rapply_word2 (n : Int) (A : Option Addr) (c : Nat) (kd a b : Int) (w : World) (hm : moneyB n = true) (h : 15 < kd) :
    Calls Tryz.prog 29 #[stV 5 n A 0 c, .int .i64 kd, .int .i64 a, .int .i64 b] w (Says (ansV 0 0 0 0 6) w) := by
  have hB0 := boxed3_below w 5 n A 0 c
  have HW := Lib.hid (boxed3_state w 5 n A 0 c)
  have HZ := Lib.hid (boxed3_then w 5 n A 0 c)
  have HR := Lib.hid (boxed3_ret w 5 n A 0 c)
  have hsz := boxed3_size w 5 n A 0 c
  have H := rcheck_es n A c (boxed3 w 5 n A 0 c) hm
  have d1 : decide (kd < 13) = false := decide_eq_false (by omega)
  have d2 : decide (15 < kd) = true := decide_eq_true h
  clear h
  unfold stV
  go_enter Tryz.func29, Tryz.ntmps29
  go_wp2_with fail
  refine H.mono ?_
  rintro e w1 ⟨rfl, hB1⟩
  generalize boxed3 w 5 n A 0 c = W0 at *
  have HW1 := Lib.hid (HW.out.below hB1 (by omega))
  have HZ1 := Lib.hid (HZ.out.below hB1 (by omega))
  have HR1 := Lib.hid (HR.out.below hB1 (by omega))
  have s1 := HW1.out.c (j := 1) rfl
  have hBw := nxt hB0 hB1 (by omega)
  have hlt1 : w.heap.size + 1 + 1 < w1.heap.size := HR1.out.lt
  clear hsz hB0 hB1 HW HZ HR
  have z0 := HZ1.out.c (j := 0) rfl
  have z1 := HZ1.out.c (j := 1) rfl
  have z2 := HZ1.out.c (j := 2) rfl
  have r0 := HR1.out.c (j := 0) rfl
  have r1 := HR1.out.c (j := 1) rfl
  have y0 := HZ1.out.frozen 0
  have y1 := HZ1.out.frozen 1
  have y2 := HZ1.out.frozen 2
  have x0 := HR1.out.frozen 0
  have x1 := HR1.out.frozen 1
  go_wp2
  obtain ⟨HZ2, HR2, hB3⟩ := filled_holds (m := w.heap.size) HZ1.out HR1.out (by omega) 0 0 (.slice none 0 0) 0 0
  have k0 := HZ2.c (j := 0) rfl
  have k1 := HZ2.c (j := 1) rfl
  have k2 := HZ2.c (j := 2) rfl
  have q0 := HR2.c (j := 0) rfl
  have q1 := HR2.c (j := 1) rfl
  change bodyPost _ _ _ _ _ (filled w1 (w.heap.size + 1) 0 0 (.slice none 0 0) 0 0)
  generalize filled w1 (w.heap.size + 1) 0 0 (.slice none 0 0) 0 0 = W2 at *
  refine bodyPost_ret (v := ansV 0 0 0 0 6) (by simp [results, Tryz.f29, go_sem, ansV, stV, retV, k0, k1, k2, q0, q1]) rfl ?_
  exact ⟨rfl, nxt hBw hB3 (Nat.le_refl _)⟩
set_option maxHeartbeats 1000000 in
theorem rapply_b (n : Int) (A : Option Addr) (c : Nat) (kd a b : Int) (w : World) (hm : moneyB n = true) (h1 : 13 ≤ kd) (h2 : kd ≤ 15) (hb : b ≠ 0) :
    Calls Tryz.prog 29 #[stV 5 n A 0 c, .int .i64 kd, .int .i64 a, .int .i64 b] w (Says (ansV 0 0 0 0 2) w) := by
  have hB0 := boxed3_below w 5 n A 0 c
  have HW := Lib.hid (boxed3_state w 5 n A 0 c)
  have HZ := Lib.hid (boxed3_then w 5 n A 0 c)
  have HR := Lib.hid (boxed3_ret w 5 n A 0 c)
  have hsz := boxed3_size w 5 n A 0 c
  have H := rcheck_es n A c (boxed3 w 5 n A 0 c) hm
  have d1 : decide (kd < 13) = false := decide_eq_false (by omega)
  have d2 : decide (15 < kd) = false := decide_eq_false (by omega)
  have hb1 : (b != 0) = true := by rw [bne_iff_ne]; exact hb
  clear hb h1 h2
  unfold stV
  go_enter Tryz.func29, Tryz.ntmps29
  go_wp2_with fail
  refine H.mono ?_
  rintro e w1 ⟨rfl, hB1⟩
  generalize boxed3 w 5 n A 0 c = W0 at *
  have HW1 := Lib.hid (HW.out.below hB1 (by omega))
  have HZ1 := Lib.hid (HZ.out.below hB1 (by omega))
  have HR1 := Lib.hid (HR.out.below hB1 (by omega))
  have s1 := HW1.out.c (j := 1) rfl
  have hBw := nxt hB0 hB1 (by omega)
  have hlt1 : w.heap.size + 1 + 1 < w1.heap.size := HR1.out.lt
  clear hsz hB0 hB1 HW HZ HR
  have z0 := HZ1.out.c (j := 0) rfl
  have z1 := HZ1.out.c (j := 1) rfl
  have z2 := HZ1.out.c (j := 2) rfl
  have r0 := HR1.out.c (j := 0) rfl
  have r1 := HR1.out.c (j := 1) rfl
  have y0 := HZ1.out.frozen 0
  have y1 := HZ1.out.frozen 1
  have y2 := HZ1.out.frozen 2
  have x0 := HR1.out.frozen 0
  have x1 := HR1.out.frozen 1
  go_wp2
  obtain ⟨HZ2, HR2, hB3⟩ := filled_holds (m := w.heap.size) HZ1.out HR1.out (by omega) 0 0 (.slice none 0 0) 0 0
  have k0 := HZ2.c (j := 0) rfl
  have k1 := HZ2.c (j := 1) rfl
  have k2 := HZ2.c (j := 2) rfl
  have q0 := HR2.c (j := 0) rfl
  have q1 := HR2.c (j := 1) rfl
  change bodyPost _ _ _ _ _ (filled w1 (w.heap.size + 1) 0 0 (.slice none 0 0) 0 0)
  generalize filled w1 (w.heap.size + 1) 0 0 (.slice none 0 0) 0 0 = W2 at *
  refine bodyPost_ret (v := ansV 0 0 0 0 2) (by simp [results, Tryz.f29, go_sem, ansV, stV, retV, k0, k1, k2, q0, q1]) rfl ?_
  exact ⟨rfl, nxt hBw hB3 (Nat.le_refl _)⟩
set_option maxHeartbeats 1000000 in
theorem rapply_a (n : Int) (A : Option Addr) (c : Nat) (kd a : Int) (w : World) (hm : moneyB n = true) (h1 : 13 ≤ kd) (h2 : kd ≤ 15) (ha : (kdB kd && mayB kd a) = false) :
    Calls Tryz.prog 29 #[stV 5 n A 0 c, .int .i64 kd, .int .i64 a, .int .i64 0] w (Says (ansV 0 0 0 0 2) w) := by
  have hB0 := boxed3_below w 5 n A 0 c
  have HW := Lib.hid (boxed3_state w 5 n A 0 c)
  have HZ := Lib.hid (boxed3_then w 5 n A 0 c)
  have HR := Lib.hid (boxed3_ret w 5 n A 0 c)
  have hsz := boxed3_size w 5 n A 0 c
  have H := rcheck_es n A c (boxed3 w 5 n A 0 c) hm
  have d1 : decide (kd < 13) = false := decide_eq_false (by omega)
  have d2 : decide (15 < kd) = false := decide_eq_false (by omega)
  have HT := fun W => rmay_any kd a W
  rw [ha] at HT
  clear ha h1 h2
  unfold stV
  go_enter Tryz.func29, Tryz.ntmps29
  go_wp2_with fail
  refine H.mono ?_
  rintro e w1 ⟨rfl, hB1⟩
  generalize boxed3 w 5 n A 0 c = W0 at *
  have HW1 := Lib.hid (HW.out.below hB1 (by omega))
  have HZ1 := Lib.hid (HZ.out.below hB1 (by omega))
  have HR1 := Lib.hid (HR.out.below hB1 (by omega))
  have s1 := HW1.out.c (j := 1) rfl
  have hBw := nxt hB0 hB1 (by omega)
  have hlt1 : w.heap.size + 1 + 1 < w1.heap.size := HR1.out.lt
  clear hsz hB0 hB1 HW HZ HR
  go_wp2_with fail
  refine (HT _).mono ?_
  rintro e w2 ⟨rfl, rfl⟩
  have z0 := HZ1.out.c (j := 0) rfl
  have z1 := HZ1.out.c (j := 1) rfl
  have z2 := HZ1.out.c (j := 2) rfl
  have r0 := HR1.out.c (j := 0) rfl
  have r1 := HR1.out.c (j := 1) rfl
  have y0 := HZ1.out.frozen 0
  have y1 := HZ1.out.frozen 1
  have y2 := HZ1.out.frozen 2
  have x0 := HR1.out.frozen 0
  have x1 := HR1.out.frozen 1
  go_wp2
  obtain ⟨HZ2, HR2, hB3⟩ := filled_holds (m := w.heap.size) HZ1.out HR1.out (by omega) 0 0 (.slice none 0 0) 0 0
  have k0 := HZ2.c (j := 0) rfl
  have k1 := HZ2.c (j := 1) rfl
  have k2 := HZ2.c (j := 2) rfl
  have q0 := HR2.c (j := 0) rfl
  have q1 := HR2.c (j := 1) rfl
  change bodyPost _ _ _ _ _ (filled w1 (w.heap.size + 1) 0 0 (.slice none 0 0) 0 0)
  generalize filled w1 (w.heap.size + 1) 0 0 (.slice none 0 0) 0 0 = W2 at *
  refine bodyPost_ret (v := ansV 0 0 0 0 2) (by simp [results, Tryz.f29, go_sem, ansV, stV, retV, k0, k1, k2, q0, q1]) rfl ?_
  exact ⟨rfl, nxt hBw hB3 (Nat.le_refl _)⟩
set_option maxHeartbeats 1000000 in
theorem rapply_put (n : Int) (A : Option Addr) (c : Nat) (a : Int) (w : World) (hm : moneyB n = true) (hn : 0 ≤ n ∧ n ≤ 4611686018427387904) (ha : 0 ≤ a ∧ a ≤ 4611686018427387904) (h : a ≤ 4611686018427387904 - n) :
    Calls Tryz.prog 29 #[stV 5 n A 0 c, .int .i64 13, .int .i64 a, .int .i64 0] w (Says (ansV 5 (n + a) 2 (1) 0) w) := by
  have hB0 := boxed3_below w 5 n A 0 c
  have HW := Lib.hid (boxed3_state w 5 n A 0 c)
  have HZ := Lib.hid (boxed3_then w 5 n A 0 c)
  have HR := Lib.hid (boxed3_ret w 5 n A 0 c)
  have hsz := boxed3_size w 5 n A 0 c
  have H := rcheck_es n A c (boxed3 w 5 n A 0 c) hm
  have HT := fun W => rmay_any 13 a W
  rw [show (kdB 13 && mayB 13 a) = true by simp [kdB, mayB, moneyB]; omega] at HT
  have e2 : Hid (wrap64 (n + a) = n + a) := iwrap (by omega) (by omega)
  have e3 : decide (a ≤ wrap64 (4611686018427387904 - n)) = true := decide_eq_true (by rw [iwrap (by omega) (by omega)]; exact h)
  clear h ha
  have HO := fun W => es_told_any (n + a) (1) W
  unfold ansV stV retV at HO
  clear hm hn
  unfold stV
  go_enter Tryz.func29, Tryz.ntmps29
  go_wp2_with fail
  refine H.mono ?_
  rintro e w1 ⟨rfl, hB1⟩
  generalize boxed3 w 5 n A 0 c = W0 at *
  have HW1 := Lib.hid (HW.out.below hB1 (by omega))
  have HZ1 := Lib.hid (HZ.out.below hB1 (by omega))
  have HR1 := Lib.hid (HR.out.below hB1 (by omega))
  have s1 := HW1.out.c (j := 1) rfl
  have hBw := nxt hB0 hB1 (by omega)
  have hlt1 : w.heap.size + 1 + 1 < w1.heap.size := HR1.out.lt
  clear hsz hB0 hB1 HW HZ HR
  go_wp2_with fail
  refine (HT _).mono ?_
  rintro e w2 ⟨rfl, rfl⟩
  go_wp2_with fail
  rw [e2.out]
  refine (HO _).mono ?_
  rintro e w3 ⟨rfl, hB3⟩
  replace HZ1 := Lib.hid (HZ1.out.below hB3 (by omega))
  replace HR1 := Lib.hid (HR1.out.below hB3 (by omega))
  replace hBw := nxt hBw hB3 hBw.size
  clear hB3
  have z0 := HZ1.out.c (j := 0) rfl
  have z1 := HZ1.out.c (j := 1) rfl
  have z2 := HZ1.out.c (j := 2) rfl
  have r0 := HR1.out.c (j := 0) rfl
  have r1 := HR1.out.c (j := 1) rfl
  have y0 := HZ1.out.frozen 0
  have y1 := HZ1.out.frozen 1
  have y2 := HZ1.out.frozen 2
  have x0 := HR1.out.frozen 0
  have x1 := HR1.out.frozen 1
  go_wp2
  obtain ⟨HZ2, HR2, hB4⟩ := filled_holds (m := w.heap.size) HZ1.out HR1.out (by omega) 5 (n + a) (.slice none 0 0) 2 (1)
  have k0 := HZ2.c (j := 0) rfl
  have k1 := HZ2.c (j := 1) rfl
  have k2 := HZ2.c (j := 2) rfl
  have q0 := HR2.c (j := 0) rfl
  have q1 := HR2.c (j := 1) rfl
  change bodyPost _ _ _ _ _ (filled w3 (w.heap.size + 1) 5 (n + a) (.slice none 0 0) 2 (1))
  generalize filled w3 (w.heap.size + 1) 5 (n + a) (.slice none 0 0) 2 (1) = W2 at *
  refine bodyPost_ret (v := ansV 5 (n + a) 2 (1) 0) (by simp [results, Tryz.f29, go_sem, ansV, stV, retV, k0, k1, k2, q0, q1]) rfl ?_
  exact ⟨rfl, nxt hBw hB4 (Nat.le_refl _)⟩
set_option maxHeartbeats 1000000 in
theorem rapply_putno (n : Int) (A : Option Addr) (c : Nat) (a : Int) (w : World) (hm : moneyB n = true) (hn : 0 ≤ n ∧ n ≤ 4611686018427387904) (ha : 0 ≤ a ∧ a ≤ 4611686018427387904) (h : ¬ a ≤ 4611686018427387904 - n) :
    Calls Tryz.prog 29 #[stV 5 n A 0 c, .int .i64 13, .int .i64 a, .int .i64 0] w (Says (ansV 5 (n) 2 (0) 0) w) := by
  have hB0 := boxed3_below w 5 n A 0 c
  have HW := Lib.hid (boxed3_state w 5 n A 0 c)
  have HZ := Lib.hid (boxed3_then w 5 n A 0 c)
  have HR := Lib.hid (boxed3_ret w 5 n A 0 c)
  have hsz := boxed3_size w 5 n A 0 c
  have H := rcheck_es n A c (boxed3 w 5 n A 0 c) hm
  have HT := fun W => rmay_any 13 a W
  rw [show (kdB 13 && mayB 13 a) = true by simp [kdB, mayB, moneyB]; omega] at HT
  have e3 : decide (a ≤ wrap64 (4611686018427387904 - n)) = false := decide_eq_false (by rw [iwrap (by omega) (by omega)]; exact h)
  clear h ha
  have HO := fun W => es_told_any (n) (0) W
  unfold ansV stV retV at HO
  clear hm hn
  unfold stV
  go_enter Tryz.func29, Tryz.ntmps29
  go_wp2_with fail
  refine H.mono ?_
  rintro e w1 ⟨rfl, hB1⟩
  generalize boxed3 w 5 n A 0 c = W0 at *
  have HW1 := Lib.hid (HW.out.below hB1 (by omega))
  have HZ1 := Lib.hid (HZ.out.below hB1 (by omega))
  have HR1 := Lib.hid (HR.out.below hB1 (by omega))
  have s1 := HW1.out.c (j := 1) rfl
  have hBw := nxt hB0 hB1 (by omega)
  have hlt1 : w.heap.size + 1 + 1 < w1.heap.size := HR1.out.lt
  clear hsz hB0 hB1 HW HZ HR
  go_wp2_with fail
  refine (HT _).mono ?_
  rintro e w2 ⟨rfl, rfl⟩
  go_wp2_with fail
  refine (HO _).mono ?_
  rintro e w3 ⟨rfl, hB3⟩
  replace HZ1 := Lib.hid (HZ1.out.below hB3 (by omega))
  replace HR1 := Lib.hid (HR1.out.below hB3 (by omega))
  replace hBw := nxt hBw hB3 hBw.size
  clear hB3
  have z0 := HZ1.out.c (j := 0) rfl
  have z1 := HZ1.out.c (j := 1) rfl
  have z2 := HZ1.out.c (j := 2) rfl
  have r0 := HR1.out.c (j := 0) rfl
  have r1 := HR1.out.c (j := 1) rfl
  have y0 := HZ1.out.frozen 0
  have y1 := HZ1.out.frozen 1
  have y2 := HZ1.out.frozen 2
  have x0 := HR1.out.frozen 0
  have x1 := HR1.out.frozen 1
  go_wp2
  obtain ⟨HZ2, HR2, hB4⟩ := filled_holds (m := w.heap.size) HZ1.out HR1.out (by omega) 5 (n) (.slice none 0 0) 2 (0)
  have k0 := HZ2.c (j := 0) rfl
  have k1 := HZ2.c (j := 1) rfl
  have k2 := HZ2.c (j := 2) rfl
  have q0 := HR2.c (j := 0) rfl
  have q1 := HR2.c (j := 1) rfl
  change bodyPost _ _ _ _ _ (filled w3 (w.heap.size + 1) 5 (n) (.slice none 0 0) 2 (0))
  generalize filled w3 (w.heap.size + 1) 5 (n) (.slice none 0 0) 2 (0) = W2 at *
  refine bodyPost_ret (v := ansV 5 (n) 2 (0) 0) (by simp [results, Tryz.f29, go_sem, ansV, stV, retV, k0, k1, k2, q0, q1]) rfl ?_
  exact ⟨rfl, nxt hBw hB4 (Nat.le_refl _)⟩
set_option maxHeartbeats 1000000 in
theorem rapply_take (n : Int) (A : Option Addr) (c : Nat) (a : Int) (w : World) (hm : moneyB n = true) (hn : 0 ≤ n ∧ n ≤ 4611686018427387904) (ha : 0 ≤ a ∧ a ≤ 4611686018427387904) (h : a ≤ n) :
    Calls Tryz.prog 29 #[stV 5 n A 0 c, .int .i64 14, .int .i64 a, .int .i64 0] w (Says (ansV 5 (n - a) 2 (1) 0) w) := by
  have hB0 := boxed3_below w 5 n A 0 c
  have HW := Lib.hid (boxed3_state w 5 n A 0 c)
  have HZ := Lib.hid (boxed3_then w 5 n A 0 c)
  have HR := Lib.hid (boxed3_ret w 5 n A 0 c)
  have hsz := boxed3_size w 5 n A 0 c
  have H := rcheck_es n A c (boxed3 w 5 n A 0 c) hm
  have HT := fun W => rmay_any 14 a W
  rw [show (kdB 14 && mayB 14 a) = true by simp [kdB, mayB, moneyB]; omega] at HT
  have e2 : Hid (wrap64 (n - a) = n - a) := iwrap (by omega) (by omega)
  have e3 : decide (a ≤ n) = true := decide_eq_true h
  clear h ha
  have HO := fun W => es_told_any (n - a) (1) W
  unfold ansV stV retV at HO
  clear hm hn
  unfold stV
  go_enter Tryz.func29, Tryz.ntmps29
  go_wp2_with fail
  refine H.mono ?_
  rintro e w1 ⟨rfl, hB1⟩
  generalize boxed3 w 5 n A 0 c = W0 at *
  have HW1 := Lib.hid (HW.out.below hB1 (by omega))
  have HZ1 := Lib.hid (HZ.out.below hB1 (by omega))
  have HR1 := Lib.hid (HR.out.below hB1 (by omega))
  have s1 := HW1.out.c (j := 1) rfl
  have hBw := nxt hB0 hB1 (by omega)
  have hlt1 : w.heap.size + 1 + 1 < w1.heap.size := HR1.out.lt
  clear hsz hB0 hB1 HW HZ HR
  go_wp2_with fail
  refine (HT _).mono ?_
  rintro e w2 ⟨rfl, rfl⟩
  go_wp2_with fail
  rw [e2.out]
  refine (HO _).mono ?_
  rintro e w3 ⟨rfl, hB3⟩
  replace HZ1 := Lib.hid (HZ1.out.below hB3 (by omega))
  replace HR1 := Lib.hid (HR1.out.below hB3 (by omega))
  replace hBw := nxt hBw hB3 hBw.size
  clear hB3
  have z0 := HZ1.out.c (j := 0) rfl
  have z1 := HZ1.out.c (j := 1) rfl
  have z2 := HZ1.out.c (j := 2) rfl
  have r0 := HR1.out.c (j := 0) rfl
  have r1 := HR1.out.c (j := 1) rfl
  have y0 := HZ1.out.frozen 0
  have y1 := HZ1.out.frozen 1
  have y2 := HZ1.out.frozen 2
  have x0 := HR1.out.frozen 0
  have x1 := HR1.out.frozen 1
  go_wp2
  obtain ⟨HZ2, HR2, hB4⟩ := filled_holds (m := w.heap.size) HZ1.out HR1.out (by omega) 5 (n - a) (.slice none 0 0) 2 (1)
  have k0 := HZ2.c (j := 0) rfl
  have k1 := HZ2.c (j := 1) rfl
  have k2 := HZ2.c (j := 2) rfl
  have q0 := HR2.c (j := 0) rfl
  have q1 := HR2.c (j := 1) rfl
  change bodyPost _ _ _ _ _ (filled w3 (w.heap.size + 1) 5 (n - a) (.slice none 0 0) 2 (1))
  generalize filled w3 (w.heap.size + 1) 5 (n - a) (.slice none 0 0) 2 (1) = W2 at *
  refine bodyPost_ret (v := ansV 5 (n - a) 2 (1) 0) (by simp [results, Tryz.f29, go_sem, ansV, stV, retV, k0, k1, k2, q0, q1]) rfl ?_
  exact ⟨rfl, nxt hBw hB4 (Nat.le_refl _)⟩
set_option maxHeartbeats 1000000 in
theorem rapply_takeno (n : Int) (A : Option Addr) (c : Nat) (a : Int) (w : World) (hm : moneyB n = true) (hn : 0 ≤ n ∧ n ≤ 4611686018427387904) (ha : 0 ≤ a ∧ a ≤ 4611686018427387904) (h : ¬ a ≤ n) :
    Calls Tryz.prog 29 #[stV 5 n A 0 c, .int .i64 14, .int .i64 a, .int .i64 0] w (Says (ansV 5 (n) 2 (0) 0) w) := by
  have hB0 := boxed3_below w 5 n A 0 c
  have HW := Lib.hid (boxed3_state w 5 n A 0 c)
  have HZ := Lib.hid (boxed3_then w 5 n A 0 c)
  have HR := Lib.hid (boxed3_ret w 5 n A 0 c)
  have hsz := boxed3_size w 5 n A 0 c
  have H := rcheck_es n A c (boxed3 w 5 n A 0 c) hm
  have HT := fun W => rmay_any 14 a W
  rw [show (kdB 14 && mayB 14 a) = true by simp [kdB, mayB, moneyB]; omega] at HT
  have e3 : decide (a ≤ n) = false := decide_eq_false h
  clear h ha
  have HO := fun W => es_told_any (n) (0) W
  unfold ansV stV retV at HO
  clear hm hn
  unfold stV
  go_enter Tryz.func29, Tryz.ntmps29
  go_wp2_with fail
  refine H.mono ?_
  rintro e w1 ⟨rfl, hB1⟩
  generalize boxed3 w 5 n A 0 c = W0 at *
  have HW1 := Lib.hid (HW.out.below hB1 (by omega))
  have HZ1 := Lib.hid (HZ.out.below hB1 (by omega))
  have HR1 := Lib.hid (HR.out.below hB1 (by omega))
  have s1 := HW1.out.c (j := 1) rfl
  have hBw := nxt hB0 hB1 (by omega)
  have hlt1 : w.heap.size + 1 + 1 < w1.heap.size := HR1.out.lt
  clear hsz hB0 hB1 HW HZ HR
  go_wp2_with fail
  refine (HT _).mono ?_
  rintro e w2 ⟨rfl, rfl⟩
  go_wp2_with fail
  refine (HO _).mono ?_
  rintro e w3 ⟨rfl, hB3⟩
  replace HZ1 := Lib.hid (HZ1.out.below hB3 (by omega))
  replace HR1 := Lib.hid (HR1.out.below hB3 (by omega))
  replace hBw := nxt hBw hB3 hBw.size
  clear hB3
  have z0 := HZ1.out.c (j := 0) rfl
  have z1 := HZ1.out.c (j := 1) rfl
  have z2 := HZ1.out.c (j := 2) rfl
  have r0 := HR1.out.c (j := 0) rfl
  have r1 := HR1.out.c (j := 1) rfl
  have y0 := HZ1.out.frozen 0
  have y1 := HZ1.out.frozen 1
  have y2 := HZ1.out.frozen 2
  have x0 := HR1.out.frozen 0
  have x1 := HR1.out.frozen 1
  go_wp2
  obtain ⟨HZ2, HR2, hB4⟩ := filled_holds (m := w.heap.size) HZ1.out HR1.out (by omega) 5 (n) (.slice none 0 0) 2 (0)
  have k0 := HZ2.c (j := 0) rfl
  have k1 := HZ2.c (j := 1) rfl
  have k2 := HZ2.c (j := 2) rfl
  have q0 := HR2.c (j := 0) rfl
  have q1 := HR2.c (j := 1) rfl
  change bodyPost _ _ _ _ _ (filled w3 (w.heap.size + 1) 5 (n) (.slice none 0 0) 2 (0))
  generalize filled w3 (w.heap.size + 1) 5 (n) (.slice none 0 0) 2 (0) = W2 at *
  refine bodyPost_ret (v := ansV 5 (n) 2 (0) 0) (by simp [results, Tryz.f29, go_sem, ansV, stV, retV, k0, k1, k2, q0, q1]) rfl ?_
  exact ⟨rfl, nxt hBw hB4 (Nat.le_refl _)⟩
set_option maxHeartbeats 1000000 in
theorem rapply_tell (n : Int) (A : Option Addr) (c : Nat)  (w : World) (hm : moneyB n = true) (hn : 0 ≤ n ∧ n ≤ 4611686018427387904) :
    Calls Tryz.prog 29 #[stV 5 n A 0 c, .int .i64 15, .int .i64 0, .int .i64 0] w (Says (ansV 5 (n) 2 (n) 0) w) := by
  have hB0 := boxed3_below w 5 n A 0 c
  have HW := Lib.hid (boxed3_state w 5 n A 0 c)
  have HZ := Lib.hid (boxed3_then w 5 n A 0 c)
  have HR := Lib.hid (boxed3_ret w 5 n A 0 c)
  have hsz := boxed3_size w 5 n A 0 c
  have H := rcheck_es n A c (boxed3 w 5 n A 0 c) hm
  have HT := fun W => rmay_any 15 0 W
  rw [show (kdB 15 && mayB 15 0) = true by simp [kdB, mayB]] at HT
  have HO := fun W => es_told_any (n) (n) W
  unfold ansV stV retV at HO
  clear hm hn
  unfold stV
  go_enter Tryz.func29, Tryz.ntmps29
  go_wp2_with fail
  refine H.mono ?_
  rintro e w1 ⟨rfl, hB1⟩
  generalize boxed3 w 5 n A 0 c = W0 at *
  have HW1 := Lib.hid (HW.out.below hB1 (by omega))
  have HZ1 := Lib.hid (HZ.out.below hB1 (by omega))
  have HR1 := Lib.hid (HR.out.below hB1 (by omega))
  have s1 := HW1.out.c (j := 1) rfl
  have hBw := nxt hB0 hB1 (by omega)
  have hlt1 : w.heap.size + 1 + 1 < w1.heap.size := HR1.out.lt
  clear hsz hB0 hB1 HW HZ HR
  go_wp2_with fail
  refine (HT _).mono ?_
  rintro e w2 ⟨rfl, rfl⟩
  go_wp2_with fail
  refine (HO _).mono ?_
  rintro e w3 ⟨rfl, hB3⟩
  replace HZ1 := Lib.hid (HZ1.out.below hB3 (by omega))
  replace HR1 := Lib.hid (HR1.out.below hB3 (by omega))
  replace hBw := nxt hBw hB3 hBw.size
  clear hB3
  have z0 := HZ1.out.c (j := 0) rfl
  have z1 := HZ1.out.c (j := 1) rfl
  have z2 := HZ1.out.c (j := 2) rfl
  have r0 := HR1.out.c (j := 0) rfl
  have r1 := HR1.out.c (j := 1) rfl
  have y0 := HZ1.out.frozen 0
  have y1 := HZ1.out.frozen 1
  have y2 := HZ1.out.frozen 2
  have x0 := HR1.out.frozen 0
  have x1 := HR1.out.frozen 1
  go_wp2
  obtain ⟨HZ2, HR2, hB4⟩ := filled_holds (m := w.heap.size) HZ1.out HR1.out (by omega) 5 (n) (.slice none 0 0) 2 (n)
  have k0 := HZ2.c (j := 0) rfl
  have k1 := HZ2.c (j := 1) rfl
  have k2 := HZ2.c (j := 2) rfl
  have q0 := HR2.c (j := 0) rfl
  have q1 := HR2.c (j := 1) rfl
  change bodyPost _ _ _ _ _ (filled w3 (w.heap.size + 1) 5 (n) (.slice none 0 0) 2 (n))
  generalize filled w3 (w.heap.size + 1) 5 (n) (.slice none 0 0) 2 (n) = W2 at *
  refine bodyPost_ret (v := ansV 5 (n) 2 (n) 0) (by simp [results, Tryz.f29, go_sem, ansV, stV, retV, k0, k1, k2, q0, q1]) rfl ?_
  exact ⟨rfl, nxt hBw hB4 (Nat.le_refl _)⟩

theorem rapply_any (t n : Int) (A : Option Addr) (c : Nat) (l : List Int) (kd a b : Int) (w : World) (hA : Ints w A l) (hlen : l.length ≤ 1000) :
    Calls Tryz.prog 29 #[stV t n A l.length c, .int .i64 kd, .int .i64 a, .int .i64 b] w (Says (escV (escA t n l kd a b)) w) := by
  unfold escA
  split
  · next h =>
    obtain ⟨rfl, rfl, hm⟩ := h
    have hn := (money_iff n).1 hm
    split
    · next hk =>
      have hk' := hk
      unfold kdB at hk'
      simp at hk'
      split
      · next h2 =>
        obtain ⟨rfl, ha⟩ := h2
        rcases kd_three hk with rfl | rfl | rfl
        · have h2 := (money_iff a).1 ha
          by_cases h : a ≤ 4611686018427387904 - n
          · have := rapply_put n A c a w hm hn h2 h
            simpa [escV, eThen, eRet, h] using this
          · have := rapply_putno n A c a w hm hn h2 h
            simpa [escV, eThen, eRet, h] using this
        · have h2 := (money_iff a).1 ha
          by_cases h : a ≤ n
          · have := rapply_take n A c a w hm hn h2 h
            simpa [escV, eThen, eRet, h] using this
          · have := rapply_takeno n A c a w hm hn h2 h
            simpa [escV, eThen, eRet, h] using this
        · obtain rfl : a = 0 := by simpa [mayB] using ha
          have := rapply_tell n A c w hm hn
          simpa [escV, eThen, eRet] using this
      · next h2 =>
        by_cases hb : b = 0
        · subst hb
          exact rapply_a n A c kd a w hm hk'.1 hk'.2 (by rw [hk]; cases h : mayB kd a with | true => exact absurd ⟨rfl, h⟩ h2 | false => rfl)
        · exact rapply_b n A c kd a b w hm hk'.1 hk'.2 hb
    · next hk =>
      unfold kdB at hk
      simp at hk
      by_cases h1 : kd < 13
      · exact rapply_word1 n A c kd a b w hm h1
      · exact rapply_word2 n A c kd a b w hm (hk (by omega))
  · next h =>
    by_cases ht : t = 5
    · subst ht
      exact es_rapply_form n A c l kd a b w hA hlen (fun e => h ⟨rfl, e⟩)
    · exact es_rapply_state t n A c l kd a b w ht
end Go.Proofs.YtmclpganipfadaaGreatDoor
