/- money; EscrowStays. (Written by wip/tools/gen_esk.py.) -/
import Derived.Test.YtpnclppjmgeddaaEsG
namespace Go.Proofs.Ytpnclppjmgeddaa
open Go.RowKit Go.Maps
set_option linter.unusedVariables false
set_option linter.unusedSimpArgs false

set_option maxHeartbeats 1000000 in
theorem bigpick_any (x n : Int) (w : World) (hx : Small x) (hn : 0 < n) (hn2 : n ≤ 4611686018427387905) :
    Calls Try.prog 23 #[.int .i64 x, .int .i64 n] w fun e w' => e = .returned (.int .i64 (pick x n)) ∧ w = w' := by
  obtain ⟨h1, h2⟩ := hx
  have g1 := Int.tmod_lt_of_pos x hn
  have g2 : -n < x.tmod n := by
    have := Int.neg_tmod x n
    have h3 := Int.tmod_lt_of_pos (-x) hn
    omega
  have k0 : (n == 0) = false := by simp; omega
  have kz : ¬ n = 0 := by omega
  have k1 : decide (n ≤ 0) = false := decide_eq_false (by omega)
  have hw : wrap64 (x.tmod n) = x.tmod n := iwrap (by omega) (by omega)
  by_cases hneg : x.tmod n < 0
  · have HP : Hid (pick x n = x.tmod n + n) := by show pick x n = _; unfold pick; rw [if_pos hneg]
    have kn : decide (x.tmod n < 0) = true := decide_eq_true hneg
    have HW : Hid (wrap64 (x.tmod n + n) = x.tmod n + n) := iwrap (by omega) (by omega)
    clear g1 g2 h1 h2 hn hn2 hneg
    go_enter Try.func23, Try.ntmps23
    go_wp2
    go_ret
    exact ⟨ret_int (by rw [HW.out, HP.out]), rfl⟩
  · have HP : Hid (pick x n = x.tmod n) := by show pick x n = _; unfold pick; rw [if_neg hneg]
    have kn : decide (x.tmod n < 0) = false := decide_eq_false hneg
    clear g1 g2 h1 h2 hn hn2 hneg
    go_enter Try.func23, Try.ntmps23
    go_wp2
    go_ret
    exact ⟨ret_int HP.out.symm, rfl⟩
def cash (n : Int) : Int := pick n 4611686018427387905
theorem cash_bd (n : Int) : 0 ≤ cash n ∧ cash n ≤ 4611686018427387904 := by
  have := pick_bd n 4611686018427387905 (by omega)
  unfold cash; omega
theorem cash_money (n : Int) : moneyB (cash n) = true := (money_iff _).2 (cash_bd n)
theorem money_any (n : Int) (w : World) (hn : Small n) : Calls Try.prog 22 #[.int .i64 n] w fun e w' => e = .returned (.int .i64 (cash n)) ∧ w = w' := by
  have H := fun W => bigpick_any n 4611686018427387905 W hn (by omega) (by omega)
  go_enter Try.func22, Try.ntmps22
  go_wp2_with fail
  refine (H _).mono ?_
  rintro e w1 ⟨rfl, rfl⟩
  go_wp2
  go_ret
  exact ⟨rfl, rfl⟩
theorem two_pick (k : Int) (hk : Small k) : ∃ d, (d = 0 ∨ d = 1) ∧ ∀ W, Calls Try.prog 23 #[.int .i64 k, .int .i64 2] W fun e w' => e = .returned (.int .i64 d) ∧ W = w' := by
  have := pick_bd k 2 (by omega)
  exact ⟨pick k 2, by omega, fun W => bigpick_any k 2 W hk (by omega) (by omega)⟩
theorem es_yes {n kd a : Int} (hn : moneyB n = true) (hk : kdB kd = true) (ha : mayB kd a = true) (hs : Small a) (W : World) : Calls Try.prog 11 #[.agg #[.int .i64 5, .int .i64 n, .slice none 0 0], .int .i64 kd, .int .i64 a, .int .i64 0] W (Says (.tuple #[.agg #[.int .i64 5, .int .i64 (eThen kd n a), .slice none 0 0], .agg #[.int .i64 2, .int .i64 (eRet kd n a)], .int .i64 0]) W) := eapply_yes n none 0 kd a W hn hk ha hs

set_option maxHeartbeats 2000000 in
theorem stays_13_yes (n0 k0 a0 n a : Int) (w : World) (hn : 0 ≤ n ∧ n ≤ 4611686018427387904) (ha : 0 ≤ a ∧ a ≤ 4611686018427387904) (h : a ≤ 4611686018427387904 - n)
    (HN : ∀ W, Calls Try.prog 22 #[.int .i64 n0] W fun e w' => e = .returned (.int .i64 n) ∧ W = w')
    (HA : ∀ W, Calls Try.prog 22 #[.int .i64 a0] W fun e w' => e = .returned (.int .i64 a) ∧ W = w')
    (HK : ∀ W, Calls Try.prog 23 #[.int .i64 k0, .int .i64 2] W fun e w' => e = .returned (.int .i64 0) ∧ W = w') :
    Calls Try.prog 6 #[.int .i64 n0, .int .i64 k0, .int .i64 a0] w (Yes w) := by
  have hs : Small a := by constructor <;> omega
  have HP := fun W => es_yes (n := n) (kd := 13) (a := a) ((money_iff n).2 hn) rfl ((money_iff a).2 ha) hs W
  rw [show eThen 13 n a = n + a by simp [eThen, h], show eRet 13 n a = 1 by simp [eRet, h]] at HP
  have hst : Small (n + a) := by constructor <;> omega
  have HD : ∀ W, Calls Try.prog 18 #[.int .i64 (n + a), .int .i64 14, .int .i64 a, .int .i64 n, .int .i64 1] W (Yes W) := fun W => does_yes (n + a) 14 a n 1 W (fun W => by
    have := es_yes (n := n + a) (kd := 14) (a := a) ((money_iff _).2 (by omega)) rfl ((money_iff a).2 ha) hs W
    rw [show eThen 14 (n + a) a = n by simp [eThen]; omega, show eRet 14 (n + a) a = 1 by simp [eRet]; omega] at this
    exact this)
  have q1 : decide (n + a < 0) = false := decide_eq_false (by omega)
  have q2 : decide (4611686018427387904 < n + a) = false := decide_eq_false (by omega)
  have q3 : (wrap64 (n + a - n) == a) = true := by rw [iwrap (by omega) (by omega)]; simp; omega
  generalize n + a = t at *
  have HO := fun W => of_any n W
  unfold stV at HO
  clear h hn ha hs hst
  go_enter Try.func6, Try.ntmps6
  go_wp2_with fail
  refine (known_all _).mono ?_
  rintro e w1 ⟨rfl, hB1⟩
  go_wp2_with fail
  refine (HN _).mono ?_
  rintro e w2 ⟨rfl, rfl⟩
  go_wp2_with fail
  refine (HA _).mono ?_
  rintro e w2 ⟨rfl, rfl⟩
  go_wp2_with fail
  refine (HK _).mono ?_
  rintro e w2 ⟨rfl, rfl⟩
  go_wp2_with fail
  refine (HO _).mono ?_
  rintro e w2 ⟨rfl, hB2⟩
  have hC2 := onto hB1 hB2
  go_wp2_with fail
  refine (HP _).mono ?_
  rintro e w3 ⟨rfl, hB3⟩
  have hC3 := onto hC2 hB3
  have HS := (Holds.new w3 24 #[.int .i64 5, .int .i64 t, .slice none 0 0]).alloc (.cells #[.int .i64 2, .int .i64 1] 28)
  have HR := new_second w3 (.cells #[.int .i64 5, .int .i64 t, .slice none 0 0] 24) 28 #[.int .i64 2, .int .i64 1]
  have hB4 : Below w3.heap.size w3 ((w3.alloc (.cells #[.int .i64 5, .int .i64 t, .slice none 0 0] 24)).alloc (.cells #[.int .i64 2, .int .i64 1] 28)) := (alloc1 w3 _).alloc (by simp) _
  have hC4 := onto hC3 hB4
  have s0 := HS.c (j := 0) rfl
  have s1 := HS.c (j := 1) rfl
  have s2 := HS.c (j := 2) rfl
  have r0 := HR.c (j := 0) rfl
  have r1 := HR.c (j := 1) rfl
  go_wp2_with fail
  refine (HD _).mono ?_
  rintro e w5 ⟨rfl, hB5⟩
  have hC5 := onto hC4 hB5
  have HS5 := HS.below hB5 HS.lt
  have s51 := HS5.c (j := 1) rfl
  go_wp2
  go_ret
  exact ⟨rfl, hC5⟩

set_option maxHeartbeats 2000000 in
theorem stays_13_no (n0 k0 a0 n a : Int) (w : World) (hn : 0 ≤ n ∧ n ≤ 4611686018427387904) (ha : 0 ≤ a ∧ a ≤ 4611686018427387904) (h : ¬ a ≤ 4611686018427387904 - n)
    (HN : ∀ W, Calls Try.prog 22 #[.int .i64 n0] W fun e w' => e = .returned (.int .i64 n) ∧ W = w')
    (HA : ∀ W, Calls Try.prog 22 #[.int .i64 a0] W fun e w' => e = .returned (.int .i64 a) ∧ W = w')
    (HK : ∀ W, Calls Try.prog 23 #[.int .i64 k0, .int .i64 2] W fun e w' => e = .returned (.int .i64 0) ∧ W = w') :
    Calls Try.prog 6 #[.int .i64 n0, .int .i64 k0, .int .i64 a0] w (Yes w) := by
  have hs : Small a := by constructor <;> omega
  have HP := fun W => es_yes (n := n) (kd := 13) (a := a) ((money_iff n).2 hn) rfl ((money_iff a).2 ha) hs W
  rw [show eThen 13 n a = n by simp [eThen, h], show eRet 13 n a = 0 by simp [eRet, h]] at HP
  have q1 : decide (n < 0) = false := decide_eq_false (by omega)
  have q2 : decide (4611686018427387904 < n) = false := decide_eq_false (by omega)
  have q3 : (n == n) = true := by simp
  have q4 : decide (0 < a) = true := decide_eq_true (by omega)
  have HO := fun W => of_any n W
  unfold stV at HO
  clear h hn ha hs
  go_enter Try.func6, Try.ntmps6
  go_wp2_with fail
  refine (known_all _).mono ?_
  rintro e w1 ⟨rfl, hB1⟩
  go_wp2_with fail
  refine (HN _).mono ?_
  rintro e w2 ⟨rfl, rfl⟩
  go_wp2_with fail
  refine (HA _).mono ?_
  rintro e w2 ⟨rfl, rfl⟩
  go_wp2_with fail
  refine (HK _).mono ?_
  rintro e w2 ⟨rfl, rfl⟩
  go_wp2_with fail
  refine (HO _).mono ?_
  rintro e w2 ⟨rfl, hB2⟩
  have hC2 := onto hB1 hB2
  go_wp2_with fail
  refine (HP _).mono ?_
  rintro e w3 ⟨rfl, hB3⟩
  have hC3 := onto hC2 hB3
  have HS := (Holds.new w3 24 #[.int .i64 5, .int .i64 n, .slice none 0 0]).alloc (.cells #[.int .i64 2, .int .i64 0] 28)
  have HR := new_second w3 (.cells #[.int .i64 5, .int .i64 n, .slice none 0 0] 24) 28 #[.int .i64 2, .int .i64 0]
  have hB4 : Below w3.heap.size w3 ((w3.alloc (.cells #[.int .i64 5, .int .i64 n, .slice none 0 0] 24)).alloc (.cells #[.int .i64 2, .int .i64 0] 28)) := (alloc1 w3 _).alloc (by simp) _
  have hC4 := onto hC3 hB4
  have s0 := HS.c (j := 0) rfl
  have s1 := HS.c (j := 1) rfl
  have s2 := HS.c (j := 2) rfl
  have r0 := HR.c (j := 0) rfl
  have r1 := HR.c (j := 1) rfl
  go_wp2_with fail
  go_ret
  exact ⟨rfl, hC4⟩

set_option maxHeartbeats 2000000 in
theorem stays_14_yes (n0 k0 a0 n a : Int) (w : World) (hn : 0 ≤ n ∧ n ≤ 4611686018427387904) (ha : 0 ≤ a ∧ a ≤ 4611686018427387904) (h : a ≤ n)
    (HN : ∀ W, Calls Try.prog 22 #[.int .i64 n0] W fun e w' => e = .returned (.int .i64 n) ∧ W = w')
    (HA : ∀ W, Calls Try.prog 22 #[.int .i64 a0] W fun e w' => e = .returned (.int .i64 a) ∧ W = w')
    (HK : ∀ W, Calls Try.prog 23 #[.int .i64 k0, .int .i64 2] W fun e w' => e = .returned (.int .i64 1) ∧ W = w') :
    Calls Try.prog 6 #[.int .i64 n0, .int .i64 k0, .int .i64 a0] w (Yes w) := by
  have hs : Small a := by constructor <;> omega
  have HP := fun W => es_yes (n := n) (kd := 14) (a := a) ((money_iff n).2 hn) rfl ((money_iff a).2 ha) hs W
  rw [show eThen 14 n a = n - a by simp [eThen, h], show eRet 14 n a = 1 by simp [eRet, h]] at HP
  have hst : Small (n - a) := by constructor <;> omega
  have HD : ∀ W, Calls Try.prog 18 #[.int .i64 (n - a), .int .i64 13, .int .i64 a, .int .i64 n, .int .i64 1] W (Yes W) := fun W => does_yes (n - a) 13 a n 1 W (fun W => by
    have := es_yes (n := n - a) (kd := 13) (a := a) ((money_iff _).2 (by omega)) rfl ((money_iff a).2 ha) hs W
    rw [show eThen 13 (n - a) a = n by unfold eThen; rw [if_pos rfl, if_pos (by omega)]; omega, show eRet 13 (n - a) a = 1 by unfold eRet; rw [if_pos rfl, if_pos (by omega)]] at this
    exact this)
  have q1 : decide (n - a < 0) = false := decide_eq_false (by omega)
  have q2 : decide (4611686018427387904 < n - a) = false := decide_eq_false (by omega)
  have q3 : (wrap64 (n - (n - a)) == a) = true := by rw [iwrap (by omega) (by omega)]; simp; omega
  generalize n - a = t at *
  have HO := fun W => of_any n W
  unfold stV at HO
  clear h hn ha hs hst
  go_enter Try.func6, Try.ntmps6
  go_wp2_with fail
  refine (known_all _).mono ?_
  rintro e w1 ⟨rfl, hB1⟩
  go_wp2_with fail
  refine (HN _).mono ?_
  rintro e w2 ⟨rfl, rfl⟩
  go_wp2_with fail
  refine (HA _).mono ?_
  rintro e w2 ⟨rfl, rfl⟩
  go_wp2_with fail
  refine (HK _).mono ?_
  rintro e w2 ⟨rfl, rfl⟩
  go_wp2_with fail
  refine (HO _).mono ?_
  rintro e w2 ⟨rfl, hB2⟩
  have hC2 := onto hB1 hB2
  go_wp2_with fail
  refine (HP _).mono ?_
  rintro e w3 ⟨rfl, hB3⟩
  have hC3 := onto hC2 hB3
  have HS := (Holds.new w3 24 #[.int .i64 5, .int .i64 t, .slice none 0 0]).alloc (.cells #[.int .i64 2, .int .i64 1] 28)
  have HR := new_second w3 (.cells #[.int .i64 5, .int .i64 t, .slice none 0 0] 24) 28 #[.int .i64 2, .int .i64 1]
  have hB4 : Below w3.heap.size w3 ((w3.alloc (.cells #[.int .i64 5, .int .i64 t, .slice none 0 0] 24)).alloc (.cells #[.int .i64 2, .int .i64 1] 28)) := (alloc1 w3 _).alloc (by simp) _
  have hC4 := onto hC3 hB4
  have s0 := HS.c (j := 0) rfl
  have s1 := HS.c (j := 1) rfl
  have s2 := HS.c (j := 2) rfl
  have r0 := HR.c (j := 0) rfl
  have r1 := HR.c (j := 1) rfl
  go_wp2_with fail
  refine (HD _).mono ?_
  rintro e w5 ⟨rfl, hB5⟩
  have hC5 := onto hC4 hB5
  have HS5 := HS.below hB5 HS.lt
  have s51 := HS5.c (j := 1) rfl
  go_wp2
  go_ret
  exact ⟨rfl, hC5⟩

set_option maxHeartbeats 2000000 in
theorem stays_14_no (n0 k0 a0 n a : Int) (w : World) (hn : 0 ≤ n ∧ n ≤ 4611686018427387904) (ha : 0 ≤ a ∧ a ≤ 4611686018427387904) (h : ¬ a ≤ n)
    (HN : ∀ W, Calls Try.prog 22 #[.int .i64 n0] W fun e w' => e = .returned (.int .i64 n) ∧ W = w')
    (HA : ∀ W, Calls Try.prog 22 #[.int .i64 a0] W fun e w' => e = .returned (.int .i64 a) ∧ W = w')
    (HK : ∀ W, Calls Try.prog 23 #[.int .i64 k0, .int .i64 2] W fun e w' => e = .returned (.int .i64 1) ∧ W = w') :
    Calls Try.prog 6 #[.int .i64 n0, .int .i64 k0, .int .i64 a0] w (Yes w) := by
  have hs : Small a := by constructor <;> omega
  have HP := fun W => es_yes (n := n) (kd := 14) (a := a) ((money_iff n).2 hn) rfl ((money_iff a).2 ha) hs W
  rw [show eThen 14 n a = n by simp [eThen, h], show eRet 14 n a = 0 by simp [eRet, h]] at HP
  have q1 : decide (n < 0) = false := decide_eq_false (by omega)
  have q2 : decide (4611686018427387904 < n) = false := decide_eq_false (by omega)
  have q3 : (n == n) = true := by simp
  have q4 : decide (0 < a) = true := decide_eq_true (by omega)
  have HO := fun W => of_any n W
  unfold stV at HO
  clear h hn ha hs
  go_enter Try.func6, Try.ntmps6
  go_wp2_with fail
  refine (known_all _).mono ?_
  rintro e w1 ⟨rfl, hB1⟩
  go_wp2_with fail
  refine (HN _).mono ?_
  rintro e w2 ⟨rfl, rfl⟩
  go_wp2_with fail
  refine (HA _).mono ?_
  rintro e w2 ⟨rfl, rfl⟩
  go_wp2_with fail
  refine (HK _).mono ?_
  rintro e w2 ⟨rfl, rfl⟩
  go_wp2_with fail
  refine (HO _).mono ?_
  rintro e w2 ⟨rfl, hB2⟩
  have hC2 := onto hB1 hB2
  go_wp2_with fail
  refine (HP _).mono ?_
  rintro e w3 ⟨rfl, hB3⟩
  have hC3 := onto hC2 hB3
  have HS := (Holds.new w3 24 #[.int .i64 5, .int .i64 n, .slice none 0 0]).alloc (.cells #[.int .i64 2, .int .i64 0] 28)
  have HR := new_second w3 (.cells #[.int .i64 5, .int .i64 n, .slice none 0 0] 24) 28 #[.int .i64 2, .int .i64 0]
  have hB4 : Below w3.heap.size w3 ((w3.alloc (.cells #[.int .i64 5, .int .i64 n, .slice none 0 0] 24)).alloc (.cells #[.int .i64 2, .int .i64 0] 28)) := (alloc1 w3 _).alloc (by simp) _
  have hC4 := onto hC3 hB4
  have s0 := HS.c (j := 0) rfl
  have s1 := HS.c (j := 1) rfl
  have s2 := HS.c (j := 2) rfl
  have r0 := HR.c (j := 0) rfl
  have r1 := HR.c (j := 1) rfl
  go_wp2_with fail
  go_ret
  exact ⟨rfl, hC4⟩

theorem stays_law (n0 k0 a0 : Int) (w : World) (hn : Small n0) (hk : Small k0) (ha : Small a0) :
    Calls Try.prog 6 #[.int .i64 n0, .int .i64 k0, .int .i64 a0] w (Yes w) := by
  obtain ⟨d, hd, HK⟩ := two_pick k0 hk
  have HN := fun W => money_any n0 W hn
  have HA := fun W => money_any a0 W ha
  have bn := cash_bd n0
  have ba := cash_bd a0
  rcases hd with rfl | rfl
  · by_cases h : cash a0 ≤ 4611686018427387904 - cash n0
    · exact stays_13_yes n0 k0 a0 _ _ w bn ba h HN HA HK
    · exact stays_13_no n0 k0 a0 _ _ w bn ba h HN HA HK
  · by_cases h : cash a0 ≤ cash n0
    · exact stays_14_yes n0 k0 a0 _ _ w bn ba h HN HA HK
    · exact stays_14_no n0 k0 a0 _ _ w bn ba h HN HA HK
end Go.Proofs.Ytpnclppjmgeddaa
