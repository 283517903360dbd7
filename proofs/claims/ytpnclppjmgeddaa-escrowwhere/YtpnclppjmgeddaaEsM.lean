/- EscrowWhere. (Written by wip/tools/gen_esl.py.) -/
import Derived.Test.YtpnclppjmgeddaaEsL
namespace Go.Proofs.Ytpnclppjmgeddaa
open Go.RowKit Go.Maps
set_option linter.unusedVariables false
set_option linter.unusedSimpArgs false

set_option maxHeartbeats 2000000 in
theorem where_a (n0 kd a ret n : Int) (w : World) (x : Int) (hx : x ≠ 0)
    (HN : ∀ W, Calls Try.prog 22 #[.int .i64 n0] W fun e w' => e = .returned (.int .i64 n) ∧ W = w')
    (HR : ∀ W, Calls Try.prog 14 #[.int .i64 kd, .int .i64 a, .int .i64 ret] W (Says (.tuple #[.int .i64 0, .int .i64 0, .bool false]) W))
    (HP : ∀ W, Calls Try.prog 11 #[.agg #[.int .i64 5, .int .i64 n, .slice none 0 0], .int .i64 kd, .int .i64 a, .int .i64 0] W (Says (.tuple #[.agg #[.int .i64 0, .int .i64 0, .slice none 0 0], .agg #[.int .i64 0, .int .i64 0], .int .i64 x]) W)) :
    Calls Try.prog 7 #[.int .i64 n0, .int .i64 kd, .int .i64 a, .int .i64 ret] w (Yes w) := by
  have x1 : (x == 0) = false := beq_eq_false_iff_ne.2 hx
  have x2 : (x != 0) = true := by rw [bne_iff_ne]; exact hx
  clear hx
  have HO := fun W => of_any n W
  unfold stV at HO
  go_enter Try.func7, Try.ntmps7
  go_wp2_with fail
  refine (known_all _).mono ?_
  rintro e w1 ⟨rfl, hB1⟩
  go_wp2_with fail
  refine (HN _).mono ?_
  rintro e w2 ⟨rfl, rfl⟩
  go_wp2_with fail
  refine (HR _).mono ?_
  rintro e w2 ⟨rfl, hB2⟩
  have hC2 := onto hB1 hB2
  go_wp2_with fail
  refine (HO _).mono ?_
  rintro e w3 ⟨rfl, hB3⟩
  have hC3 := onto hC2 hB3
  go_wp2_with fail
  refine (HP _).mono ?_
  rintro e w4 ⟨rfl, hB4⟩
  have hC4 := onto hC3 hB4
  go_wp2
  go_ret
  exact ⟨rfl, onto hC4 ((alloc1 w4 _).alloc (by simp) _)⟩

set_option maxHeartbeats 2000000 in
theorem where_b (n0 kd a ret n : Int) (w : World) (t r : Int) (hr : r ≠ ret)
    (HN : ∀ W, Calls Try.prog 22 #[.int .i64 n0] W fun e w' => e = .returned (.int .i64 n) ∧ W = w')
    (HR : ∀ W, Calls Try.prog 14 #[.int .i64 kd, .int .i64 a, .int .i64 ret] W (Says (.tuple #[.int .i64 0, .int .i64 0, .bool false]) W))
    (HP : ∀ W, Calls Try.prog 11 #[.agg #[.int .i64 5, .int .i64 n, .slice none 0 0], .int .i64 kd, .int .i64 a, .int .i64 0] W (Says (.tuple #[.agg #[.int .i64 5, .int .i64 t, .slice none 0 0], .agg #[.int .i64 2, .int .i64 r], .int .i64 0]) W)) :
    Calls Try.prog 7 #[.int .i64 n0, .int .i64 kd, .int .i64 a, .int .i64 ret] w (Yes w) := by
  have he : ∀ w', (binOp .eql 28 (.agg #[.int .i64 2, .int .i64 r]) (.agg #[.int .i64 2, .int .i64 ret])).run Try.prog w' = .ok (.bool false) w' := fun w' => eql_ret_ne w' hr
  clear hr
  have HO := fun W => of_any n W
  unfold stV at HO
  go_enter Try.func7, Try.ntmps7
  go_wp2_with fail
  refine (known_all _).mono ?_
  rintro e w1 ⟨rfl, hB1⟩
  go_wp2_with fail
  refine (HN _).mono ?_
  rintro e w2 ⟨rfl, rfl⟩
  go_wp2_with fail
  refine (HR _).mono ?_
  rintro e w2 ⟨rfl, hB2⟩
  have hC2 := onto hB1 hB2
  go_wp2_with fail
  refine (HO _).mono ?_
  rintro e w3 ⟨rfl, hB3⟩
  have hC3 := onto hC2 hB3
  go_wp2_with fail
  refine (HP _).mono ?_
  rintro e w4 ⟨rfl, hB4⟩
  have hC4 := onto hC3 hB4
  go_wp2
  go_ret
  exact ⟨rfl, onto hC4 ((alloc1 w4 _).alloc (by simp) _)⟩

set_option maxHeartbeats 2000000 in
theorem where_c (n0 kd a ret n : Int) (w : World) (t f u : Int) (h1 : 0 ≤ f) (h2 : f ≤ u) (h3 : u ≤ 4611686018427387904) (h4 : f ≤ n) (h5 : n ≤ u)
    (HN : ∀ W, Calls Try.prog 22 #[.int .i64 n0] W fun e w' => e = .returned (.int .i64 n) ∧ W = w')
    (HR : ∀ W, Calls Try.prog 14 #[.int .i64 kd, .int .i64 a, .int .i64 ret] W (Says (.tuple #[.int .i64 f, .int .i64 u, .bool true]) W))
    (HP : ∀ W, Calls Try.prog 11 #[.agg #[.int .i64 5, .int .i64 n, .slice none 0 0], .int .i64 kd, .int .i64 a, .int .i64 0] W (Says (.tuple #[.agg #[.int .i64 5, .int .i64 t, .slice none 0 0], .agg #[.int .i64 2, .int .i64 ret], .int .i64 0]) W)) :
    Calls Try.prog 7 #[.int .i64 n0, .int .i64 kd, .int .i64 a, .int .i64 ret] w (Yes w) := by
  have d1 : decide (f < 0) = false := decide_eq_false (by omega)
  have d2 : decide (u < f) = false := decide_eq_false (by omega)
  have d3 : decide (4611686018427387904 < u) = false := decide_eq_false (by omega)
  have d4 : decide (f ≤ n) = true := decide_eq_true h4
  have d5 : decide (n ≤ u) = true := decide_eq_true h5
  have he : ∀ w', (binOp .eql 28 (.agg #[.int .i64 2, .int .i64 ret]) (.agg #[.int .i64 2, .int .i64 ret])).run Try.prog w' = .ok (.bool true) w' := fun w' => (eql_ret w' 2 ret 2 ret).trans (by rw [sameRet_self])
  clear h1 h2 h3 h4 h5
  have HO := fun W => of_any n W
  unfold stV at HO
  go_enter Try.func7, Try.ntmps7
  go_wp2_with fail
  refine (known_all _).mono ?_
  rintro e w1 ⟨rfl, hB1⟩
  go_wp2_with fail
  refine (HN _).mono ?_
  rintro e w2 ⟨rfl, rfl⟩
  go_wp2_with fail
  refine (HR _).mono ?_
  rintro e w2 ⟨rfl, hB2⟩
  have hC2 := onto hB1 hB2
  go_wp2_with fail
  refine (HO _).mono ?_
  rintro e w3 ⟨rfl, hB3⟩
  have hC3 := onto hC2 hB3
  go_wp2_with fail
  refine (HP _).mono ?_
  rintro e w4 ⟨rfl, hB4⟩
  have hC4 := onto hC3 hB4
  go_wp2
  go_ret
  exact ⟨rfl, onto hC4 ((alloc1 w4 _).alloc (by simp) _)⟩

set_option maxHeartbeats 2000000 in
theorem where_d (n0 kd a ret n : Int) (w : World) (t r f u : Int) (h1 : 0 ≤ f) (h2 : f ≤ u) (h3 : u ≤ 4611686018427387904) (hr : r ≠ ret) (h4 : n < f)
    (HN : ∀ W, Calls Try.prog 22 #[.int .i64 n0] W fun e w' => e = .returned (.int .i64 n) ∧ W = w')
    (HR : ∀ W, Calls Try.prog 14 #[.int .i64 kd, .int .i64 a, .int .i64 ret] W (Says (.tuple #[.int .i64 f, .int .i64 u, .bool true]) W))
    (HP : ∀ W, Calls Try.prog 11 #[.agg #[.int .i64 5, .int .i64 n, .slice none 0 0], .int .i64 kd, .int .i64 a, .int .i64 0] W (Says (.tuple #[.agg #[.int .i64 5, .int .i64 t, .slice none 0 0], .agg #[.int .i64 2, .int .i64 r], .int .i64 0]) W)) :
    Calls Try.prog 7 #[.int .i64 n0, .int .i64 kd, .int .i64 a, .int .i64 ret] w (Yes w) := by
  have d1 : decide (f < 0) = false := decide_eq_false (by omega)
  have d2 : decide (u < f) = false := decide_eq_false (by omega)
  have d3 : decide (4611686018427387904 < u) = false := decide_eq_false (by omega)
  have d4 : decide (f ≤ n) = false := decide_eq_false (by omega)
  have he : ∀ w', (binOp .eql 28 (.agg #[.int .i64 2, .int .i64 r]) (.agg #[.int .i64 2, .int .i64 ret])).run Try.prog w' = .ok (.bool false) w' := fun w' => eql_ret_ne w' hr
  clear h1 h2 h3 h4 hr
  have HO := fun W => of_any n W
  unfold stV at HO
  go_enter Try.func7, Try.ntmps7
  go_wp2_with fail
  refine (known_all _).mono ?_
  rintro e w1 ⟨rfl, hB1⟩
  go_wp2_with fail
  refine (HN _).mono ?_
  rintro e w2 ⟨rfl, rfl⟩
  go_wp2_with fail
  refine (HR _).mono ?_
  rintro e w2 ⟨rfl, hB2⟩
  have hC2 := onto hB1 hB2
  go_wp2_with fail
  refine (HO _).mono ?_
  rintro e w3 ⟨rfl, hB3⟩
  have hC3 := onto hC2 hB3
  go_wp2_with fail
  refine (HP _).mono ?_
  rintro e w4 ⟨rfl, hB4⟩
  have hC4 := onto hC3 hB4
  go_wp2
  go_ret
  exact ⟨rfl, onto hC4 ((alloc1 w4 _).alloc (by simp) _)⟩

set_option maxHeartbeats 2000000 in
theorem where_e (n0 kd a ret n : Int) (w : World) (t r f u : Int) (h1 : 0 ≤ f) (h2 : f ≤ u) (h3 : u ≤ 4611686018427387904) (hr : r ≠ ret) (h4 : f ≤ n) (h5 : u < n)
    (HN : ∀ W, Calls Try.prog 22 #[.int .i64 n0] W fun e w' => e = .returned (.int .i64 n) ∧ W = w')
    (HR : ∀ W, Calls Try.prog 14 #[.int .i64 kd, .int .i64 a, .int .i64 ret] W (Says (.tuple #[.int .i64 f, .int .i64 u, .bool true]) W))
    (HP : ∀ W, Calls Try.prog 11 #[.agg #[.int .i64 5, .int .i64 n, .slice none 0 0], .int .i64 kd, .int .i64 a, .int .i64 0] W (Says (.tuple #[.agg #[.int .i64 5, .int .i64 t, .slice none 0 0], .agg #[.int .i64 2, .int .i64 r], .int .i64 0]) W)) :
    Calls Try.prog 7 #[.int .i64 n0, .int .i64 kd, .int .i64 a, .int .i64 ret] w (Yes w) := by
  have d1 : decide (f < 0) = false := decide_eq_false (by omega)
  have d2 : decide (u < f) = false := decide_eq_false (by omega)
  have d3 : decide (4611686018427387904 < u) = false := decide_eq_false (by omega)
  have d4 : decide (f ≤ n) = true := decide_eq_true h4
  have d5 : decide (n ≤ u) = false := decide_eq_false (by omega)
  have he : ∀ w', (binOp .eql 28 (.agg #[.int .i64 2, .int .i64 r]) (.agg #[.int .i64 2, .int .i64 ret])).run Try.prog w' = .ok (.bool false) w' := fun w' => eql_ret_ne w' hr
  clear h1 h2 h3 h4 h5 hr
  have HO := fun W => of_any n W
  unfold stV at HO
  go_enter Try.func7, Try.ntmps7
  go_wp2_with fail
  refine (known_all _).mono ?_
  rintro e w1 ⟨rfl, hB1⟩
  go_wp2_with fail
  refine (HN _).mono ?_
  rintro e w2 ⟨rfl, rfl⟩
  go_wp2_with fail
  refine (HR _).mono ?_
  rintro e w2 ⟨rfl, hB2⟩
  have hC2 := onto hB1 hB2
  go_wp2_with fail
  refine (HO _).mono ?_
  rintro e w3 ⟨rfl, hB3⟩
  have hC3 := onto hC2 hB3
  go_wp2_with fail
  refine (HP _).mono ?_
  rintro e w4 ⟨rfl, hB4⟩
  have hC4 := onto hC3 hB4
  go_wp2
  go_ret
  exact ⟨rfl, onto hC4 ((alloc1 w4 _).alloc (by simp) _)⟩

theorem where_law (n0 kd a ret : Int) (w : World) (hn : Small n0) (ha : Small a) (hr : Small ret) :
    Calls Try.prog 7 #[.int .i64 n0, .int .i64 kd, .int .i64 a, .int .i64 ret] w (Yes w) := by
  have HN := fun W => money_any n0 W hn
  have bn := cash_bd n0
  have HR := fun W => range_any kd a ret W ha hr
  have HP := fun W => eapply_any 5 (cash n0) none 0 [] kd a 0 W (ints_nil _ _) (by simp) ha
  rcases where_ways kd a ret (cash n0) bn with ⟨x, hx, e1, e2⟩ | ⟨t, r, hx, e1, e2⟩ | ⟨t, f, u, h1, h2, h3, h4, h5, e1, e2⟩ | ⟨t, r, f, u, h1, h2, h3, h4, h5, e1, e2⟩
  all_goals
    rw [e1] at HR
    rw [e2] at HP
  · exact where_a n0 kd a ret _ w x hx HN HR HP
  · exact where_b n0 kd a ret _ w t r hx HN HR HP
  · exact where_c n0 kd a ret _ w t f u h1 h2 h3 h4 h5 HN HR HP
  · by_cases h6 : cash n0 < f
    · exact where_d n0 kd a ret _ w t r f u h1 h2 h3 h4 h6 HN HR HP
    · exact where_e n0 kd a ret _ w t r f u h1 h2 h3 h4 (by omega) (by omega) HN HR HP
end Go.Proofs.Ytpnclppjmgeddaa
