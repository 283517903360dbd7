/- awake; EscrowKnown. (Written by wip/tools/gen_esg.py.) -/
import Derived.Test.YtpnclppjmgeddaaEsF
namespace Go.Proofs.Ytpnclppjmgeddaa
open Go.RowKit Go.Maps
set_option linter.unusedVariables false

theorem es_call {n kd a t r : Int} (h : escA 5 n [] kd a 0 = (5, t, 2, r, 0)) (hs : Small a) (W : World) : Calls Try.prog 11 #[stV 5 n none 0 0, .int .i64 kd, .int .i64 a, .int .i64 0] W (Says (ansV 5 t 2 r 0) W) := by
  have := eapply_any 5 n none 0 [] kd a 0 W (ints_nil _ _) (by simp) hs
  rw [h] at this
  exact this
theorem es_no {t n kd a x : Int} (h : escA t n [] kd a 0 = (0, 0, 0, 0, x)) (hs : Small a) (W : World) : Calls Try.prog 11 #[stV t n none 0 0, .int .i64 kd, .int .i64 a, .int .i64 0] W (Says (ansV 0 0 0 0 x) W) := by
  have := eapply_any t n none 0 [] kd a 0 W (ints_nil _ _) (by simp) hs
  rw [h] at this
  exact this
theorem room_lit {n r : Int} (h : roomN n = r) (hs : Small n) {W : World} : Calls Try.prog 16 #[.int .i64 n] W fun e w' => e = .returned (.int .i64 r) ∧ W = w' := by
  have := Room_any n W hs
  rw [h] at this
  exact this
set_option maxHeartbeats 2000000 in
theorem awake_yes (w : World) : Calls Try.prog 9 #[] w (Yes w) := by
  have H0 : ∀ W, Calls Try.prog 18 #[.int .i64 5, .int .i64 13, .int .i64 3, .int .i64 8, .int .i64 1] W (Yes W) := fun W => does_yes 5 13 3 8 1 W (es_call (by decide +kernel) (by constructor <;> omega))
  have H1 : ∀ W, Calls Try.prog 18 #[.int .i64 4611686018427387904, .int .i64 13, .int .i64 1, .int .i64 4611686018427387904, .int .i64 0] W (Yes W) := fun W => does_yes 4611686018427387904 13 1 4611686018427387904 0 W (es_call (by decide +kernel) (by constructor <;> omega))
  have H2 : ∀ W, Calls Try.prog 18 #[.int .i64 5, .int .i64 14, .int .i64 6, .int .i64 5, .int .i64 0] W (Yes W) := fun W => does_yes 5 14 6 5 0 W (es_call (by decide +kernel) (by constructor <;> omega))
  have H3 : ∀ W, Calls Try.prog 21 #[.int .i64 13, .int .i64 3, .int .i64 0, .int .i64 4611686018427387902, .int .i64 4611686018427387904, .bool true] W (Yes W) := fun W => ranges_yes 13 3 0 4611686018427387902 4611686018427387904 true W (by constructor <;> omega) (by constructor <;> omega) (by decide +kernel)
  go_enter Try.func9, Try.ntmps9
  go_wp2_with fail
  refine (H0 _).mono ?_
  rintro e w1 ⟨rfl, hB1⟩
  have hC1 := onto (Below.refl w.heap.size w) hB1
  go_wp2_with fail
  refine (H1 _).mono ?_
  rintro e w2 ⟨rfl, hB2⟩
  have hC2 := onto hC1 hB2
  go_wp2_with fail
  refine (H2 _).mono ?_
  rintro e w3 ⟨rfl, hB3⟩
  have hC3 := onto hC2 hB3
  go_wp2_with fail
  refine (H3 _).mono ?_
  rintro e w4 ⟨rfl, hB4⟩
  have hC4 := onto hC3 hB4
  go_wp2
  go_ret
  exact ⟨rfl, hC4⟩
set_option maxHeartbeats 2000000 in
theorem known_all (w : World) : Calls Try.prog 5 #[] w (Yes w) := by
  have H0 : ∀ W, Calls Try.prog 18 #[.int .i64 5, .int .i64 14, .int .i64 5, .int .i64 0, .int .i64 1] W (Yes W) := fun W => does_yes 5 14 5 0 1 W (es_call (by decide +kernel) (by constructor <;> omega))
  have H1 : ∀ W, Calls Try.prog 18 #[.int .i64 5, .int .i64 15, .int .i64 0, .int .i64 5, .int .i64 5] W (Yes W) := fun W => does_yes 5 15 0 5 5 W (es_call (by decide +kernel) (by constructor <;> omega))
  have H2 : ∀ W, Calls Try.prog 20 #[.int .i64 5] W (Says (.agg #[.int .i64 5, .int .i64 5, .slice none 0 0]) W) := fun W => of_any 5 W
  have H3 : ∀ W, Calls Try.prog 19 #[.agg #[.int .i64 5, .int .i64 5, .slice none 0 0], .int .i64 13, .int .i64 (-1), .int .i64 2] W (Yes W) := fun W => fails_yes 5 5 13 (-1) 2 W (es_no (by decide +kernel) (by constructor <;> omega))
  have H4 : ∀ W, Calls Try.prog 19 #[.agg #[.int .i64 5, .int .i64 5, .slice none 0 0], .int .i64 15, .int .i64 1, .int .i64 2] W (Yes W) := fun W => fails_yes 5 5 15 1 2 W (es_no (by decide +kernel) (by constructor <;> omega))
  have H5 : ∀ W, Calls Try.prog 19 #[.agg #[.int .i64 5, .int .i64 5, .slice none 0 0], .int .i64 11, .int .i64 0, .int .i64 6] W (Yes W) := fun W => fails_yes 5 5 11 0 6 W (es_no (by decide +kernel) (by constructor <;> omega))
  have H6 : ∀ W, Calls Try.prog 20 #[.int .i64 (-1)] W (Says (.agg #[.int .i64 5, .int .i64 (-1), .slice none 0 0]) W) := fun W => of_any (-1) W
  have H7 : ∀ W, Calls Try.prog 19 #[.agg #[.int .i64 5, .int .i64 (-1), .slice none 0 0], .int .i64 15, .int .i64 0, .int .i64 12] W (Yes W) := fun W => fails_yes 5 (-1) 15 0 12 W (es_no (by decide +kernel) (by constructor <;> omega))
  have H8 : ∀ W, Calls Try.prog 19 #[.agg #[.int .i64 5, .int .i64 5, .slice none 0 0], .int .i64 14, .int .i64 4611686018427387905, .int .i64 2] W (Yes W) := fun W => fails_yes 5 5 14 4611686018427387905 2 W (es_no (by decide +kernel) (by constructor <;> omega))
  have H9 : ∀ W, Calls Try.prog 21 #[.int .i64 13, .int .i64 3, .int .i64 1, .int .i64 0, .int .i64 4611686018427387901, .bool true] W (Yes W) := fun W => ranges_yes 13 3 1 0 4611686018427387901 true W (by constructor <;> omega) (by constructor <;> omega) (by decide +kernel)
  have H10 : ∀ W, Calls Try.prog 21 #[.int .i64 13, .int .i64 0, .int .i64 0, .int .i64 0, .int .i64 0, .bool false] W (Yes W) := fun W => ranges_yes 13 0 0 0 0 false W (by constructor <;> omega) (by constructor <;> omega) (by decide +kernel)
  have H11 : ∀ W, Calls Try.prog 21 #[.int .i64 14, .int .i64 3, .int .i64 0, .int .i64 0, .int .i64 2, .bool true] W (Yes W) := fun W => ranges_yes 14 3 0 0 2 true W (by constructor <;> omega) (by constructor <;> omega) (by decide +kernel)
  have H12 : ∀ W, Calls Try.prog 21 #[.int .i64 14, .int .i64 3, .int .i64 1, .int .i64 3, .int .i64 4611686018427387904, .bool true] W (Yes W) := fun W => ranges_yes 14 3 1 3 4611686018427387904 true W (by constructor <;> omega) (by constructor <;> omega) (by decide +kernel)
  have H13 : ∀ W, Calls Try.prog 21 #[.int .i64 15, .int .i64 0, .int .i64 7, .int .i64 7, .int .i64 7, .bool true] W (Yes W) := fun W => ranges_yes 15 0 7 7 7 true W (by constructor <;> omega) (by constructor <;> omega) (by decide +kernel)
  have H14 : ∀ W, Calls Try.prog 21 #[.int .i64 13, .int .i64 3, .int .i64 2, .int .i64 0, .int .i64 0, .bool false] W (Yes W) := fun W => ranges_yes 13 3 2 0 0 false W (by constructor <;> omega) (by constructor <;> omega) (by decide +kernel)
  have H15 : ∀ W, Calls Try.prog 16 #[.int .i64 5] W fun e w' => e = .returned (.int .i64 4611686018427387899) ∧ W = w' := fun W => room_lit (by decide +kernel) (by constructor <;> omega)
  have H16 : ∀ W, Calls Try.prog 16 #[.int .i64 4611686018427387904] W fun e w' => e = .returned (.int .i64 0) ∧ W = w' := fun W => room_lit (by decide +kernel) (by constructor <;> omega)
  have H17 : ∀ W, Calls Try.prog 16 #[.int .i64 (-1)] W fun e w' => e = .returned (.int .i64 0) ∧ W = w' := fun W => room_lit (by decide +kernel) (by constructor <;> omega)
  go_enter Try.func5, Try.ntmps5
  go_wp2_with fail
  refine (H0 _).mono ?_
  rintro e w1 ⟨rfl, hB1⟩
  have hC1 := onto (Below.refl w.heap.size w) hB1
  go_wp2_with fail
  refine (H1 _).mono ?_
  rintro e w2 ⟨rfl, hB2⟩
  have hC2 := onto hC1 hB2
  go_wp2_with fail
  refine (H2 _).mono ?_
  rintro e w3 ⟨rfl, hB3⟩
  have hC3 := onto hC2 hB3
  go_wp2_with fail
  refine (H3 _).mono ?_
  rintro e w4 ⟨rfl, hB4⟩
  have hC4 := onto hC3 hB4
  go_wp2_with fail
  refine (H2 _).mono ?_
  rintro e w5 ⟨rfl, hB5⟩
  have hC5 := onto hC4 hB5
  go_wp2_with fail
  refine (H4 _).mono ?_
  rintro e w6 ⟨rfl, hB6⟩
  have hC6 := onto hC5 hB6
  go_wp2_with fail
  refine (H2 _).mono ?_
  rintro e w7 ⟨rfl, hB7⟩
  have hC7 := onto hC6 hB7
  go_wp2_with fail
  refine (H5 _).mono ?_
  rintro e w8 ⟨rfl, hB8⟩
  have hC8 := onto hC7 hB8
  go_wp2_with fail
  refine (H6 _).mono ?_
  rintro e w9 ⟨rfl, hB9⟩
  have hC9 := onto hC8 hB9
  go_wp2_with fail
  refine (H7 _).mono ?_
  rintro e w10 ⟨rfl, hB10⟩
  have hC10 := onto hC9 hB10
  go_wp2_with fail
  refine (H2 _).mono ?_
  rintro e w11 ⟨rfl, hB11⟩
  have hC11 := onto hC10 hB11
  go_wp2_with fail
  refine (H8 _).mono ?_
  rintro e w12 ⟨rfl, hB12⟩
  have hC12 := onto hC11 hB12
  go_wp2_with fail
  refine (H9 _).mono ?_
  rintro e w13 ⟨rfl, hB13⟩
  have hC13 := onto hC12 hB13
  go_wp2_with fail
  refine (H10 _).mono ?_
  rintro e w14 ⟨rfl, hB14⟩
  have hC14 := onto hC13 hB14
  go_wp2_with fail
  refine (H11 _).mono ?_
  rintro e w15 ⟨rfl, hB15⟩
  have hC15 := onto hC14 hB15
  go_wp2_with fail
  refine (H12 _).mono ?_
  rintro e w16 ⟨rfl, hB16⟩
  have hC16 := onto hC15 hB16
  go_wp2_with fail
  refine (H13 _).mono ?_
  rintro e w17 ⟨rfl, hB17⟩
  have hC17 := onto hC16 hB17
  go_wp2_with fail
  refine (H14 _).mono ?_
  rintro e w18 ⟨rfl, hB18⟩
  have hC18 := onto hC17 hB18
  go_wp2_with fail
  refine (awake_yes _).mono ?_
  rintro e w19 ⟨rfl, hB19⟩
  have hC19 := onto hC18 hB19
  go_wp2_with fail
  refine (H15 _).mono ?_
  rintro e w20 ⟨rfl, rfl⟩
  go_wp2_with fail
  refine (H16 _).mono ?_
  rintro e w21 ⟨rfl, rfl⟩
  go_wp2_with fail
  refine (H17 _).mono ?_
  rintro e w22 ⟨rfl, rfl⟩
  go_wp2
  go_ret
  exact ⟨rfl, hC19⟩
end Go.Proofs.Ytpnclppjmgeddaa
