/- EscrowSplit. (Written by wip/tools/gen_esn.py.) -/
import Derived.Test.YtpnclppjmgeddaaEsK
namespace Go.Proofs.Ytpnclppjmgeddaa
open Go.RowKit Go.Maps
set_option linter.unusedVariables false
set_option linter.unusedSimpArgs false

theorem two_boxes (W : World) (t n : Int) (k r : Int) : Holds ((W.alloc (.cells #[.int .i64 t, .int .i64 n, .slice none 0 0] 24)).alloc (.cells #[.int .i64 k, .int .i64 r] 28)) W.heap.size 24 #[.int .i64 t, .int .i64 n, .slice none 0 0] ∧
    Holds ((W.alloc (.cells #[.int .i64 t, .int .i64 n, .slice none 0 0] 24)).alloc (.cells #[.int .i64 k, .int .i64 r] 28)) (W.heap.size + 1) 28 #[.int .i64 k, .int .i64 r] ∧
    Below W.heap.size W ((W.alloc (.cells #[.int .i64 t, .int .i64 n, .slice none 0 0] 24)).alloc (.cells #[.int .i64 k, .int .i64 r] 28)) :=
  ⟨(Holds.new W _ _).alloc _, new_second W _ _ _, (alloc1 W _).alloc (by simp) _⟩

set_option maxHeartbeats 4000000 in
theorem split_room_both_both (n0 a0 b0 n a b m s t u v : Int) (w : World)
    (HN : ∀ W, Calls Try.prog 22 #[.int .i64 n0] W fun e w' => e = .returned (.int .i64 n) ∧ W = w') (HA : ∀ W, Calls Try.prog 22 #[.int .i64 a0] W fun e w' => e = .returned (.int .i64 a) ∧ W = w') (HB : ∀ W, Calls Try.prog 22 #[.int .i64 b0] W fun e w' => e = .returned (.int .i64 b) ∧ W = w')
    (HM : ∀ W, Calls Try.prog 16 #[.int .i64 n] W fun e w' => e = .returned (.int .i64 m) ∧ W = w')
    (D1 : ∀ W, Calls Try.prog 18 #[.int .i64 n, .int .i64 13, .int .i64 m, .int .i64 4611686018427387904, .int .i64 1] W (Yes W))
    (A1 : ∀ W, Calls Try.prog 11 #[.agg #[.int .i64 5, .int .i64 n, .slice none 0 0], .int .i64 13, .int .i64 a, .int .i64 0] W (Says (.tuple #[.agg #[.int .i64 5, .int .i64 s, .slice none 0 0], .agg #[.int .i64 2, .int .i64 1], .int .i64 0]) W)) (A2 : ∀ W, Calls Try.prog 11 #[.agg #[.int .i64 5, .int .i64 s, .slice none 0 0], .int .i64 13, .int .i64 b, .int .i64 0] W (Says (.tuple #[.agg #[.int .i64 5, .int .i64 t, .slice none 0 0], .agg #[.int .i64 2, .int .i64 1], .int .i64 0]) W)) (A3 : ∀ W, Calls Try.prog 11 #[.agg #[.int .i64 5, .int .i64 n, .slice none 0 0], .int .i64 14, .int .i64 a, .int .i64 0] W (Says (.tuple #[.agg #[.int .i64 5, .int .i64 u, .slice none 0 0], .agg #[.int .i64 2, .int .i64 1], .int .i64 0]) W)) (A4 : ∀ W, Calls Try.prog 11 #[.agg #[.int .i64 5, .int .i64 u, .slice none 0 0], .int .i64 14, .int .i64 b, .int .i64 0] W (Says (.tuple #[.agg #[.int .i64 5, .int .i64 v, .slice none 0 0], .agg #[.int .i64 2, .int .i64 1], .int .i64 0]) W))
    (hm : decide (m < 4611686018427387904) = true)
    (D2 : ∀ W, Calls Try.prog 18 #[.int .i64 n, .int .i64 13, .int .i64 (wrap64 (m + 1)), .int .i64 n, .int .i64 0] W (Yes W))
    (D3 : ∀ W, Calls Try.prog 18 #[.int .i64 n, .int .i64 13, .int .i64 (wrap64 (a + b)), .int .i64 t, .int .i64 1] W (Yes W))
    (D4 : ∀ W, Calls Try.prog 18 #[.int .i64 n, .int .i64 14, .int .i64 (wrap64 (a + b)), .int .i64 v, .int .i64 1] W (Yes W))
    : Calls Try.prog 8 #[.int .i64 n0, .int .i64 a0, .int .i64 b0] w (Yes w) := by
  have HO := fun W => of_any n W
  unfold stV at HO
  go_enter Try.func8, Try.ntmps8
  go_wp2_with fail
  refine (known_all _).mono ?_
  rintro e w1 ⟨rfl, hC1⟩
  go_wp2_with fail
  refine (HN _).mono ?_
  rintro e w2 ⟨rfl, rfl⟩
  go_wp2_with fail
  refine (HA _).mono ?_
  rintro e w2 ⟨rfl, rfl⟩
  go_wp2_with fail
  refine (HB _).mono ?_
  rintro e w2 ⟨rfl, rfl⟩
  go_wp2_with fail
  refine (HM _).mono ?_
  rintro e w2 ⟨rfl, rfl⟩
  go_wp2_with fail
  refine (D1 _).mono ?_
  rintro e w2 ⟨rfl, hB2⟩
  have hC2 := onto hC1 hB2
  go_wp2_with fail
  refine (D2 _).mono ?_
  rintro e w3 ⟨rfl, hB3⟩
  have hC3 := onto hC2 hB3
  go_wp2_with fail
  refine (HO _).mono ?_
  rintro e w4 ⟨rfl, hB4⟩
  have hC4 := onto hC3 hB4
  go_wp2_with fail
  refine (A1 _).mono ?_
  rintro e w5 ⟨rfl, hB5⟩
  have hC5 := onto hC4 hB5
  obtain ⟨HS, HR, hD5⟩ := two_boxes w5 5 s 2 1
  have hE5 := onto hC5 hD5
  have s0 := HS.c (j := 0) rfl
  have s1 := HS.c (j := 1) rfl
  have s2 := HS.c (j := 2) rfl
  go_wp2_with fail
  refine (A2 _).mono ?_
  rintro e w6 ⟨rfl, hB6⟩
  have hC6 := onto hE5 hB6
  obtain ⟨HT, HQ, hD6⟩ := two_boxes w6 5 t 2 1
  have hE6 := onto hC6 hD6
  have HR6 := (HR.below hB6 HR.lt).below hD6 (HR.below hB6 HR.lt).lt
  generalize (w5.alloc (.cells #[.int .i64 5, .int .i64 s, .slice none 0 0] 24)).alloc (.cells #[.int .i64 2, .int .i64 1] 28) = V5 at *
  clear s0 s1 s2 HS HR hB5 hD5
  have r1 := HR6.c (j := 1) rfl
  have q1 := HQ.c (j := 1) rfl
  have t1 := HT.c (j := 1) rfl
  go_wp2_with fail
  refine (D3 _).mono ?_
  rintro e w7 ⟨rfl, hB7⟩
  have hC7 := onto hE6 hB7
  go_wp2_with fail
  refine (HO _).mono ?_
  rintro e w8 ⟨rfl, hB8⟩
  have hC8 := onto hC7 hB8
  generalize (w6.alloc (.cells #[.int .i64 5, .int .i64 t, .slice none 0 0] 24)).alloc (.cells #[.int .i64 2, .int .i64 1] 28) = V6 at *
  clear r1 q1 t1 HT HQ HR6 hB6 hD6
  go_wp2_with fail
  refine (A3 _).mono ?_
  rintro e w9 ⟨rfl, hB9⟩
  have hC9 := onto hC8 hB9
  obtain ⟨HU, HP, hD9⟩ := two_boxes w9 5 u 2 1
  have hE9 := onto hC9 hD9
  have u0 := HU.c (j := 0) rfl
  have u1 := HU.c (j := 1) rfl
  have u2 := HU.c (j := 2) rfl
  go_wp2_with fail
  refine (A4 _).mono ?_
  rintro e w10 ⟨rfl, hB10⟩
  have hC10 := onto hE9 hB10
  obtain ⟨HV, HOo, hD10⟩ := two_boxes w10 5 v 2 1
  have hE10 := onto hC10 hD10
  have HP10 := (HP.below hB10 HP.lt).below hD10 (HP.below hB10 HP.lt).lt
  generalize (w9.alloc (.cells #[.int .i64 5, .int .i64 u, .slice none 0 0] 24)).alloc (.cells #[.int .i64 2, .int .i64 1] 28) = V9 at *
  clear u0 u1 u2 HU HP hB9 hD9
  have p1 := HP10.c (j := 1) rfl
  have o1 := HOo.c (j := 1) rfl
  have v1 := HV.c (j := 1) rfl
  go_wp2_with fail
  refine (D4 _).mono ?_
  rintro e w11 ⟨rfl, hB11⟩
  have hC11 := onto hE10 hB11
  go_wp2
  go_ret
  exact ⟨rfl, hC11⟩

set_option maxHeartbeats 4000000 in
theorem split_room_both_first (n0 a0 b0 n a b m s t u v p o : Int) (w : World) (hp : p ≠ 1)
    (HN : ∀ W, Calls Try.prog 22 #[.int .i64 n0] W fun e w' => e = .returned (.int .i64 n) ∧ W = w') (HA : ∀ W, Calls Try.prog 22 #[.int .i64 a0] W fun e w' => e = .returned (.int .i64 a) ∧ W = w') (HB : ∀ W, Calls Try.prog 22 #[.int .i64 b0] W fun e w' => e = .returned (.int .i64 b) ∧ W = w')
    (HM : ∀ W, Calls Try.prog 16 #[.int .i64 n] W fun e w' => e = .returned (.int .i64 m) ∧ W = w')
    (D1 : ∀ W, Calls Try.prog 18 #[.int .i64 n, .int .i64 13, .int .i64 m, .int .i64 4611686018427387904, .int .i64 1] W (Yes W))
    (A1 : ∀ W, Calls Try.prog 11 #[.agg #[.int .i64 5, .int .i64 n, .slice none 0 0], .int .i64 13, .int .i64 a, .int .i64 0] W (Says (.tuple #[.agg #[.int .i64 5, .int .i64 s, .slice none 0 0], .agg #[.int .i64 2, .int .i64 1], .int .i64 0]) W)) (A2 : ∀ W, Calls Try.prog 11 #[.agg #[.int .i64 5, .int .i64 s, .slice none 0 0], .int .i64 13, .int .i64 b, .int .i64 0] W (Says (.tuple #[.agg #[.int .i64 5, .int .i64 t, .slice none 0 0], .agg #[.int .i64 2, .int .i64 1], .int .i64 0]) W)) (A3 : ∀ W, Calls Try.prog 11 #[.agg #[.int .i64 5, .int .i64 n, .slice none 0 0], .int .i64 14, .int .i64 a, .int .i64 0] W (Says (.tuple #[.agg #[.int .i64 5, .int .i64 u, .slice none 0 0], .agg #[.int .i64 2, .int .i64 p], .int .i64 0]) W)) (A4 : ∀ W, Calls Try.prog 11 #[.agg #[.int .i64 5, .int .i64 u, .slice none 0 0], .int .i64 14, .int .i64 b, .int .i64 0] W (Says (.tuple #[.agg #[.int .i64 5, .int .i64 v, .slice none 0 0], .agg #[.int .i64 2, .int .i64 o], .int .i64 0]) W))
    (hm : decide (m < 4611686018427387904) = true)
    (D2 : ∀ W, Calls Try.prog 18 #[.int .i64 n, .int .i64 13, .int .i64 (wrap64 (m + 1)), .int .i64 n, .int .i64 0] W (Yes W))
    (D3 : ∀ W, Calls Try.prog 18 #[.int .i64 n, .int .i64 13, .int .i64 (wrap64 (a + b)), .int .i64 t, .int .i64 1] W (Yes W))
    : Calls Try.prog 8 #[.int .i64 n0, .int .i64 a0, .int .i64 b0] w (Yes w) := by
  have HO := fun W => of_any n W
  unfold stV at HO
  have kp : (p != 1) = true := by rw [bne_iff_ne]; exact hp
  go_enter Try.func8, Try.ntmps8
  go_wp2_with fail
  refine (known_all _).mono ?_
  rintro e w1 ⟨rfl, hC1⟩
  go_wp2_with fail
  refine (HN _).mono ?_
  rintro e w2 ⟨rfl, rfl⟩
  go_wp2_with fail
  refine (HA _).mono ?_
  rintro e w2 ⟨rfl, rfl⟩
  go_wp2_with fail
  refine (HB _).mono ?_
  rintro e w2 ⟨rfl, rfl⟩
  go_wp2_with fail
  refine (HM _).mono ?_
  rintro e w2 ⟨rfl, rfl⟩
  go_wp2_with fail
  refine (D1 _).mono ?_
  rintro e w2 ⟨rfl, hB2⟩
  have hC2 := onto hC1 hB2
  go_wp2_with fail
  refine (D2 _).mono ?_
  rintro e w3 ⟨rfl, hB3⟩
  have hC3 := onto hC2 hB3
  go_wp2_with fail
  refine (HO _).mono ?_
  rintro e w4 ⟨rfl, hB4⟩
  have hC4 := onto hC3 hB4
  go_wp2_with fail
  refine (A1 _).mono ?_
  rintro e w5 ⟨rfl, hB5⟩
  have hC5 := onto hC4 hB5
  obtain ⟨HS, HR, hD5⟩ := two_boxes w5 5 s 2 1
  have hE5 := onto hC5 hD5
  have s0 := HS.c (j := 0) rfl
  have s1 := HS.c (j := 1) rfl
  have s2 := HS.c (j := 2) rfl
  go_wp2_with fail
  refine (A2 _).mono ?_
  rintro e w6 ⟨rfl, hB6⟩
  have hC6 := onto hE5 hB6
  obtain ⟨HT, HQ, hD6⟩ := two_boxes w6 5 t 2 1
  have hE6 := onto hC6 hD6
  have HR6 := (HR.below hB6 HR.lt).below hD6 (HR.below hB6 HR.lt).lt
  generalize (w5.alloc (.cells #[.int .i64 5, .int .i64 s, .slice none 0 0] 24)).alloc (.cells #[.int .i64 2, .int .i64 1] 28) = V5 at *
  clear s0 s1 s2 HS HR hB5 hD5
  have r1 := HR6.c (j := 1) rfl
  have q1 := HQ.c (j := 1) rfl
  have t1 := HT.c (j := 1) rfl
  go_wp2_with fail
  refine (D3 _).mono ?_
  rintro e w7 ⟨rfl, hB7⟩
  have hC7 := onto hE6 hB7
  go_wp2_with fail
  refine (HO _).mono ?_
  rintro e w8 ⟨rfl, hB8⟩
  have hC8 := onto hC7 hB8
  generalize (w6.alloc (.cells #[.int .i64 5, .int .i64 t, .slice none 0 0] 24)).alloc (.cells #[.int .i64 2, .int .i64 1] 28) = V6 at *
  clear r1 q1 t1 HT HQ HR6 hB6 hD6
  go_wp2_with fail
  refine (A3 _).mono ?_
  rintro e w9 ⟨rfl, hB9⟩
  have hC9 := onto hC8 hB9
  obtain ⟨HU, HP, hD9⟩ := two_boxes w9 5 u 2 p
  have hE9 := onto hC9 hD9
  have u0 := HU.c (j := 0) rfl
  have u1 := HU.c (j := 1) rfl
  have u2 := HU.c (j := 2) rfl
  go_wp2_with fail
  refine (A4 _).mono ?_
  rintro e w10 ⟨rfl, hB10⟩
  have hC10 := onto hE9 hB10
  obtain ⟨HV, HOo, hD10⟩ := two_boxes w10 5 v 2 o
  have hE10 := onto hC10 hD10
  have HP10 := (HP.below hB10 HP.lt).below hD10 (HP.below hB10 HP.lt).lt
  generalize (w9.alloc (.cells #[.int .i64 5, .int .i64 u, .slice none 0 0] 24)).alloc (.cells #[.int .i64 2, .int .i64 p] 28) = V9 at *
  clear u0 u1 u2 HU HP hB9 hD9
  have p1 := HP10.c (j := 1) rfl
  have o1 := HOo.c (j := 1) rfl
  have v1 := HV.c (j := 1) rfl
  go_wp2_with fail
  go_ret
  exact ⟨rfl, hE10⟩

set_option maxHeartbeats 4000000 in
theorem split_room_both_second (n0 a0 b0 n a b m s t u v o : Int) (w : World) (ho : o ≠ 1)
    (HN : ∀ W, Calls Try.prog 22 #[.int .i64 n0] W fun e w' => e = .returned (.int .i64 n) ∧ W = w') (HA : ∀ W, Calls Try.prog 22 #[.int .i64 a0] W fun e w' => e = .returned (.int .i64 a) ∧ W = w') (HB : ∀ W, Calls Try.prog 22 #[.int .i64 b0] W fun e w' => e = .returned (.int .i64 b) ∧ W = w')
    (HM : ∀ W, Calls Try.prog 16 #[.int .i64 n] W fun e w' => e = .returned (.int .i64 m) ∧ W = w')
    (D1 : ∀ W, Calls Try.prog 18 #[.int .i64 n, .int .i64 13, .int .i64 m, .int .i64 4611686018427387904, .int .i64 1] W (Yes W))
    (A1 : ∀ W, Calls Try.prog 11 #[.agg #[.int .i64 5, .int .i64 n, .slice none 0 0], .int .i64 13, .int .i64 a, .int .i64 0] W (Says (.tuple #[.agg #[.int .i64 5, .int .i64 s, .slice none 0 0], .agg #[.int .i64 2, .int .i64 1], .int .i64 0]) W)) (A2 : ∀ W, Calls Try.prog 11 #[.agg #[.int .i64 5, .int .i64 s, .slice none 0 0], .int .i64 13, .int .i64 b, .int .i64 0] W (Says (.tuple #[.agg #[.int .i64 5, .int .i64 t, .slice none 0 0], .agg #[.int .i64 2, .int .i64 1], .int .i64 0]) W)) (A3 : ∀ W, Calls Try.prog 11 #[.agg #[.int .i64 5, .int .i64 n, .slice none 0 0], .int .i64 14, .int .i64 a, .int .i64 0] W (Says (.tuple #[.agg #[.int .i64 5, .int .i64 u, .slice none 0 0], .agg #[.int .i64 2, .int .i64 1], .int .i64 0]) W)) (A4 : ∀ W, Calls Try.prog 11 #[.agg #[.int .i64 5, .int .i64 u, .slice none 0 0], .int .i64 14, .int .i64 b, .int .i64 0] W (Says (.tuple #[.agg #[.int .i64 5, .int .i64 v, .slice none 0 0], .agg #[.int .i64 2, .int .i64 o], .int .i64 0]) W))
    (hm : decide (m < 4611686018427387904) = true)
    (D2 : ∀ W, Calls Try.prog 18 #[.int .i64 n, .int .i64 13, .int .i64 (wrap64 (m + 1)), .int .i64 n, .int .i64 0] W (Yes W))
    (D3 : ∀ W, Calls Try.prog 18 #[.int .i64 n, .int .i64 13, .int .i64 (wrap64 (a + b)), .int .i64 t, .int .i64 1] W (Yes W))
    : Calls Try.prog 8 #[.int .i64 n0, .int .i64 a0, .int .i64 b0] w (Yes w) := by
  have HO := fun W => of_any n W
  unfold stV at HO
  have ko : (o != 1) = true := by rw [bne_iff_ne]; exact ho
  go_enter Try.func8, Try.ntmps8
  go_wp2_with fail
  refine (known_all _).mono ?_
  rintro e w1 ⟨rfl, hC1⟩
  go_wp2_with fail
  refine (HN _).mono ?_
  rintro e w2 ⟨rfl, rfl⟩
  go_wp2_with fail
  refine (HA _).mono ?_
  rintro e w2 ⟨rfl, rfl⟩
  go_wp2_with fail
  refine (HB _).mono ?_
  rintro e w2 ⟨rfl, rfl⟩
  go_wp2_with fail
  refine (HM _).mono ?_
  rintro e w2 ⟨rfl, rfl⟩
  go_wp2_with fail
  refine (D1 _).mono ?_
  rintro e w2 ⟨rfl, hB2⟩
  have hC2 := onto hC1 hB2
  go_wp2_with fail
  refine (D2 _).mono ?_
  rintro e w3 ⟨rfl, hB3⟩
  have hC3 := onto hC2 hB3
  go_wp2_with fail
  refine (HO _).mono ?_
  rintro e w4 ⟨rfl, hB4⟩
  have hC4 := onto hC3 hB4
  go_wp2_with fail
  refine (A1 _).mono ?_
  rintro e w5 ⟨rfl, hB5⟩
  have hC5 := onto hC4 hB5
  obtain ⟨HS, HR, hD5⟩ := two_boxes w5 5 s 2 1
  have hE5 := onto hC5 hD5
  have s0 := HS.c (j := 0) rfl
  have s1 := HS.c (j := 1) rfl
  have s2 := HS.c (j := 2) rfl
  go_wp2_with fail
  refine (A2 _).mono ?_
  rintro e w6 ⟨rfl, hB6⟩
  have hC6 := onto hE5 hB6
  obtain ⟨HT, HQ, hD6⟩ := two_boxes w6 5 t 2 1
  have hE6 := onto hC6 hD6
  have HR6 := (HR.below hB6 HR.lt).below hD6 (HR.below hB6 HR.lt).lt
  generalize (w5.alloc (.cells #[.int .i64 5, .int .i64 s, .slice none 0 0] 24)).alloc (.cells #[.int .i64 2, .int .i64 1] 28) = V5 at *
  clear s0 s1 s2 HS HR hB5 hD5
  have r1 := HR6.c (j := 1) rfl
  have q1 := HQ.c (j := 1) rfl
  have t1 := HT.c (j := 1) rfl
  go_wp2_with fail
  refine (D3 _).mono ?_
  rintro e w7 ⟨rfl, hB7⟩
  have hC7 := onto hE6 hB7
  go_wp2_with fail
  refine (HO _).mono ?_
  rintro e w8 ⟨rfl, hB8⟩
  have hC8 := onto hC7 hB8
  generalize (w6.alloc (.cells #[.int .i64 5, .int .i64 t, .slice none 0 0] 24)).alloc (.cells #[.int .i64 2, .int .i64 1] 28) = V6 at *
  clear r1 q1 t1 HT HQ HR6 hB6 hD6
  go_wp2_with fail
  refine (A3 _).mono ?_
  rintro e w9 ⟨rfl, hB9⟩
  have hC9 := onto hC8 hB9
  obtain ⟨HU, HP, hD9⟩ := two_boxes w9 5 u 2 1
  have hE9 := onto hC9 hD9
  have u0 := HU.c (j := 0) rfl
  have u1 := HU.c (j := 1) rfl
  have u2 := HU.c (j := 2) rfl
  go_wp2_with fail
  refine (A4 _).mono ?_
  rintro e w10 ⟨rfl, hB10⟩
  have hC10 := onto hE9 hB10
  obtain ⟨HV, HOo, hD10⟩ := two_boxes w10 5 v 2 o
  have hE10 := onto hC10 hD10
  have HP10 := (HP.below hB10 HP.lt).below hD10 (HP.below hB10 HP.lt).lt
  generalize (w9.alloc (.cells #[.int .i64 5, .int .i64 u, .slice none 0 0] 24)).alloc (.cells #[.int .i64 2, .int .i64 1] 28) = V9 at *
  clear u0 u1 u2 HU HP hB9 hD9
  have p1 := HP10.c (j := 1) rfl
  have o1 := HOo.c (j := 1) rfl
  have v1 := HV.c (j := 1) rfl
  go_wp2_with fail
  go_ret
  exact ⟨rfl, hE10⟩

set_option maxHeartbeats 4000000 in
theorem split_room_first_both (n0 a0 b0 n a b m s t u v r q : Int) (w : World) (hr : r ≠ 1)
    (HN : ∀ W, Calls Try.prog 22 #[.int .i64 n0] W fun e w' => e = .returned (.int .i64 n) ∧ W = w') (HA : ∀ W, Calls Try.prog 22 #[.int .i64 a0] W fun e w' => e = .returned (.int .i64 a) ∧ W = w') (HB : ∀ W, Calls Try.prog 22 #[.int .i64 b0] W fun e w' => e = .returned (.int .i64 b) ∧ W = w')
    (HM : ∀ W, Calls Try.prog 16 #[.int .i64 n] W fun e w' => e = .returned (.int .i64 m) ∧ W = w')
    (D1 : ∀ W, Calls Try.prog 18 #[.int .i64 n, .int .i64 13, .int .i64 m, .int .i64 4611686018427387904, .int .i64 1] W (Yes W))
    (A1 : ∀ W, Calls Try.prog 11 #[.agg #[.int .i64 5, .int .i64 n, .slice none 0 0], .int .i64 13, .int .i64 a, .int .i64 0] W (Says (.tuple #[.agg #[.int .i64 5, .int .i64 s, .slice none 0 0], .agg #[.int .i64 2, .int .i64 r], .int .i64 0]) W)) (A2 : ∀ W, Calls Try.prog 11 #[.agg #[.int .i64 5, .int .i64 s, .slice none 0 0], .int .i64 13, .int .i64 b, .int .i64 0] W (Says (.tuple #[.agg #[.int .i64 5, .int .i64 t, .slice none 0 0], .agg #[.int .i64 2, .int .i64 q], .int .i64 0]) W)) (A3 : ∀ W, Calls Try.prog 11 #[.agg #[.int .i64 5, .int .i64 n, .slice none 0 0], .int .i64 14, .int .i64 a, .int .i64 0] W (Says (.tuple #[.agg #[.int .i64 5, .int .i64 u, .slice none 0 0], .agg #[.int .i64 2, .int .i64 1], .int .i64 0]) W)) (A4 : ∀ W, Calls Try.prog 11 #[.agg #[.int .i64 5, .int .i64 u, .slice none 0 0], .int .i64 14, .int .i64 b, .int .i64 0] W (Says (.tuple #[.agg #[.int .i64 5, .int .i64 v, .slice none 0 0], .agg #[.int .i64 2, .int .i64 1], .int .i64 0]) W))
    (hm : decide (m < 4611686018427387904) = true)
    (D2 : ∀ W, Calls Try.prog 18 #[.int .i64 n, .int .i64 13, .int .i64 (wrap64 (m + 1)), .int .i64 n, .int .i64 0] W (Yes W))
    (D4 : ∀ W, Calls Try.prog 18 #[.int .i64 n, .int .i64 14, .int .i64 (wrap64 (a + b)), .int .i64 v, .int .i64 1] W (Yes W))
    : Calls Try.prog 8 #[.int .i64 n0, .int .i64 a0, .int .i64 b0] w (Yes w) := by
  have HO := fun W => of_any n W
  unfold stV at HO
  have kr : (r == 1) = false := beq_eq_false_iff_ne.2 hr
  go_enter Try.func8, Try.ntmps8
  go_wp2_with fail
  refine (known_all _).mono ?_
  rintro e w1 ⟨rfl, hC1⟩
  go_wp2_with fail
  refine (HN _).mono ?_
  rintro e w2 ⟨rfl, rfl⟩
  go_wp2_with fail
  refine (HA _).mono ?_
  rintro e w2 ⟨rfl, rfl⟩
  go_wp2_with fail
  refine (HB _).mono ?_
  rintro e w2 ⟨rfl, rfl⟩
  go_wp2_with fail
  refine (HM _).mono ?_
  rintro e w2 ⟨rfl, rfl⟩
  go_wp2_with fail
  refine (D1 _).mono ?_
  rintro e w2 ⟨rfl, hB2⟩
  have hC2 := onto hC1 hB2
  go_wp2_with fail
  refine (D2 _).mono ?_
  rintro e w3 ⟨rfl, hB3⟩
  have hC3 := onto hC2 hB3
  go_wp2_with fail
  refine (HO _).mono ?_
  rintro e w4 ⟨rfl, hB4⟩
  have hC4 := onto hC3 hB4
  go_wp2_with fail
  refine (A1 _).mono ?_
  rintro e w5 ⟨rfl, hB5⟩
  have hC5 := onto hC4 hB5
  obtain ⟨HS, HR, hD5⟩ := two_boxes w5 5 s 2 r
  have hE5 := onto hC5 hD5
  have s0 := HS.c (j := 0) rfl
  have s1 := HS.c (j := 1) rfl
  have s2 := HS.c (j := 2) rfl
  go_wp2_with fail
  refine (A2 _).mono ?_
  rintro e w6 ⟨rfl, hB6⟩
  have hC6 := onto hE5 hB6
  obtain ⟨HT, HQ, hD6⟩ := two_boxes w6 5 t 2 q
  have hE6 := onto hC6 hD6
  have HR6 := (HR.below hB6 HR.lt).below hD6 (HR.below hB6 HR.lt).lt
  generalize (w5.alloc (.cells #[.int .i64 5, .int .i64 s, .slice none 0 0] 24)).alloc (.cells #[.int .i64 2, .int .i64 r] 28) = V5 at *
  clear s0 s1 s2 HS HR hB5 hD5
  have r1 := HR6.c (j := 1) rfl
  have q1 := HQ.c (j := 1) rfl
  have t1 := HT.c (j := 1) rfl
  go_wp2_with fail
  refine (HO _).mono ?_
  rintro e w8 ⟨rfl, hB8⟩
  have hC8 := onto hE6 hB8
  generalize (w6.alloc (.cells #[.int .i64 5, .int .i64 t, .slice none 0 0] 24)).alloc (.cells #[.int .i64 2, .int .i64 q] 28) = V6 at *
  clear r1 q1 t1 HT HQ HR6 hB6 hD6
  go_wp2_with fail
  refine (A3 _).mono ?_
  rintro e w9 ⟨rfl, hB9⟩
  have hC9 := onto hC8 hB9
  obtain ⟨HU, HP, hD9⟩ := two_boxes w9 5 u 2 1
  have hE9 := onto hC9 hD9
  have u0 := HU.c (j := 0) rfl
  have u1 := HU.c (j := 1) rfl
  have u2 := HU.c (j := 2) rfl
  go_wp2_with fail
  refine (A4 _).mono ?_
  rintro e w10 ⟨rfl, hB10⟩
  have hC10 := onto hE9 hB10
  obtain ⟨HV, HOo, hD10⟩ := two_boxes w10 5 v 2 1
  have hE10 := onto hC10 hD10
  have HP10 := (HP.below hB10 HP.lt).below hD10 (HP.below hB10 HP.lt).lt
  generalize (w9.alloc (.cells #[.int .i64 5, .int .i64 u, .slice none 0 0] 24)).alloc (.cells #[.int .i64 2, .int .i64 1] 28) = V9 at *
  clear u0 u1 u2 HU HP hB9 hD9
  have p1 := HP10.c (j := 1) rfl
  have o1 := HOo.c (j := 1) rfl
  have v1 := HV.c (j := 1) rfl
  go_wp2_with fail
  refine (D4 _).mono ?_
  rintro e w11 ⟨rfl, hB11⟩
  have hC11 := onto hE10 hB11
  go_wp2
  go_ret
  exact ⟨rfl, hC11⟩

set_option maxHeartbeats 4000000 in
theorem split_room_first_first (n0 a0 b0 n a b m s t u v r q p o : Int) (w : World) (hr : r ≠ 1) (hp : p ≠ 1)
    (HN : ∀ W, Calls Try.prog 22 #[.int .i64 n0] W fun e w' => e = .returned (.int .i64 n) ∧ W = w') (HA : ∀ W, Calls Try.prog 22 #[.int .i64 a0] W fun e w' => e = .returned (.int .i64 a) ∧ W = w') (HB : ∀ W, Calls Try.prog 22 #[.int .i64 b0] W fun e w' => e = .returned (.int .i64 b) ∧ W = w')
    (HM : ∀ W, Calls Try.prog 16 #[.int .i64 n] W fun e w' => e = .returned (.int .i64 m) ∧ W = w')
    (D1 : ∀ W, Calls Try.prog 18 #[.int .i64 n, .int .i64 13, .int .i64 m, .int .i64 4611686018427387904, .int .i64 1] W (Yes W))
    (A1 : ∀ W, Calls Try.prog 11 #[.agg #[.int .i64 5, .int .i64 n, .slice none 0 0], .int .i64 13, .int .i64 a, .int .i64 0] W (Says (.tuple #[.agg #[.int .i64 5, .int .i64 s, .slice none 0 0], .agg #[.int .i64 2, .int .i64 r], .int .i64 0]) W)) (A2 : ∀ W, Calls Try.prog 11 #[.agg #[.int .i64 5, .int .i64 s, .slice none 0 0], .int .i64 13, .int .i64 b, .int .i64 0] W (Says (.tuple #[.agg #[.int .i64 5, .int .i64 t, .slice none 0 0], .agg #[.int .i64 2, .int .i64 q], .int .i64 0]) W)) (A3 : ∀ W, Calls Try.prog 11 #[.agg #[.int .i64 5, .int .i64 n, .slice none 0 0], .int .i64 14, .int .i64 a, .int .i64 0] W (Says (.tuple #[.agg #[.int .i64 5, .int .i64 u, .slice none 0 0], .agg #[.int .i64 2, .int .i64 p], .int .i64 0]) W)) (A4 : ∀ W, Calls Try.prog 11 #[.agg #[.int .i64 5, .int .i64 u, .slice none 0 0], .int .i64 14, .int .i64 b, .int .i64 0] W (Says (.tuple #[.agg #[.int .i64 5, .int .i64 v, .slice none 0 0], .agg #[.int .i64 2, .int .i64 o], .int .i64 0]) W))
    (hm : decide (m < 4611686018427387904) = true)
    (D2 : ∀ W, Calls Try.prog 18 #[.int .i64 n, .int .i64 13, .int .i64 (wrap64 (m + 1)), .int .i64 n, .int .i64 0] W (Yes W))
    : Calls Try.prog 8 #[.int .i64 n0, .int .i64 a0, .int .i64 b0] w (Yes w) := by
  have HO := fun W => of_any n W
  unfold stV at HO
  have kr : (r == 1) = false := beq_eq_false_iff_ne.2 hr
  have kp : (p != 1) = true := by rw [bne_iff_ne]; exact hp
  go_enter Try.func8, Try.ntmps8
  go_wp2_with fail
  refine (known_all _).mono ?_
  rintro e w1 ⟨rfl, hC1⟩
  go_wp2_with fail
  refine (HN _).mono ?_
  rintro e w2 ⟨rfl, rfl⟩
  go_wp2_with fail
  refine (HA _).mono ?_
  rintro e w2 ⟨rfl, rfl⟩
  go_wp2_with fail
  refine (HB _).mono ?_
  rintro e w2 ⟨rfl, rfl⟩
  go_wp2_with fail
  refine (HM _).mono ?_
  rintro e w2 ⟨rfl, rfl⟩
  go_wp2_with fail
  refine (D1 _).mono ?_
  rintro e w2 ⟨rfl, hB2⟩
  have hC2 := onto hC1 hB2
  go_wp2_with fail
  refine (D2 _).mono ?_
  rintro e w3 ⟨rfl, hB3⟩
  have hC3 := onto hC2 hB3
  go_wp2_with fail
  refine (HO _).mono ?_
  rintro e w4 ⟨rfl, hB4⟩
  have hC4 := onto hC3 hB4
  go_wp2_with fail
  refine (A1 _).mono ?_
  rintro e w5 ⟨rfl, hB5⟩
  have hC5 := onto hC4 hB5
  obtain ⟨HS, HR, hD5⟩ := two_boxes w5 5 s 2 r
  have hE5 := onto hC5 hD5
  have s0 := HS.c (j := 0) rfl
  have s1 := HS.c (j := 1) rfl
  have s2 := HS.c (j := 2) rfl
  go_wp2_with fail
  refine (A2 _).mono ?_
  rintro e w6 ⟨rfl, hB6⟩
  have hC6 := onto hE5 hB6
  obtain ⟨HT, HQ, hD6⟩ := two_boxes w6 5 t 2 q
  have hE6 := onto hC6 hD6
  have HR6 := (HR.below hB6 HR.lt).below hD6 (HR.below hB6 HR.lt).lt
  generalize (w5.alloc (.cells #[.int .i64 5, .int .i64 s, .slice none 0 0] 24)).alloc (.cells #[.int .i64 2, .int .i64 r] 28) = V5 at *
  clear s0 s1 s2 HS HR hB5 hD5
  have r1 := HR6.c (j := 1) rfl
  have q1 := HQ.c (j := 1) rfl
  have t1 := HT.c (j := 1) rfl
  go_wp2_with fail
  refine (HO _).mono ?_
  rintro e w8 ⟨rfl, hB8⟩
  have hC8 := onto hE6 hB8
  generalize (w6.alloc (.cells #[.int .i64 5, .int .i64 t, .slice none 0 0] 24)).alloc (.cells #[.int .i64 2, .int .i64 q] 28) = V6 at *
  clear r1 q1 t1 HT HQ HR6 hB6 hD6
  go_wp2_with fail
  refine (A3 _).mono ?_
  rintro e w9 ⟨rfl, hB9⟩
  have hC9 := onto hC8 hB9
  obtain ⟨HU, HP, hD9⟩ := two_boxes w9 5 u 2 p
  have hE9 := onto hC9 hD9
  have u0 := HU.c (j := 0) rfl
  have u1 := HU.c (j := 1) rfl
  have u2 := HU.c (j := 2) rfl
  go_wp2_with fail
  refine (A4 _).mono ?_
  rintro e w10 ⟨rfl, hB10⟩
  have hC10 := onto hE9 hB10
  obtain ⟨HV, HOo, hD10⟩ := two_boxes w10 5 v 2 o
  have hE10 := onto hC10 hD10
  have HP10 := (HP.below hB10 HP.lt).below hD10 (HP.below hB10 HP.lt).lt
  generalize (w9.alloc (.cells #[.int .i64 5, .int .i64 u, .slice none 0 0] 24)).alloc (.cells #[.int .i64 2, .int .i64 p] 28) = V9 at *
  clear u0 u1 u2 HU HP hB9 hD9
  have p1 := HP10.c (j := 1) rfl
  have o1 := HOo.c (j := 1) rfl
  have v1 := HV.c (j := 1) rfl
  go_wp2_with fail
  go_ret
  exact ⟨rfl, hE10⟩

set_option maxHeartbeats 4000000 in
theorem split_room_first_second (n0 a0 b0 n a b m s t u v r q o : Int) (w : World) (hr : r ≠ 1) (ho : o ≠ 1)
    (HN : ∀ W, Calls Try.prog 22 #[.int .i64 n0] W fun e w' => e = .returned (.int .i64 n) ∧ W = w') (HA : ∀ W, Calls Try.prog 22 #[.int .i64 a0] W fun e w' => e = .returned (.int .i64 a) ∧ W = w') (HB : ∀ W, Calls Try.prog 22 #[.int .i64 b0] W fun e w' => e = .returned (.int .i64 b) ∧ W = w')
    (HM : ∀ W, Calls Try.prog 16 #[.int .i64 n] W fun e w' => e = .returned (.int .i64 m) ∧ W = w')
    (D1 : ∀ W, Calls Try.prog 18 #[.int .i64 n, .int .i64 13, .int .i64 m, .int .i64 4611686018427387904, .int .i64 1] W (Yes W))
    (A1 : ∀ W, Calls Try.prog 11 #[.agg #[.int .i64 5, .int .i64 n, .slice none 0 0], .int .i64 13, .int .i64 a, .int .i64 0] W (Says (.tuple #[.agg #[.int .i64 5, .int .i64 s, .slice none 0 0], .agg #[.int .i64 2, .int .i64 r], .int .i64 0]) W)) (A2 : ∀ W, Calls Try.prog 11 #[.agg #[.int .i64 5, .int .i64 s, .slice none 0 0], .int .i64 13, .int .i64 b, .int .i64 0] W (Says (.tuple #[.agg #[.int .i64 5, .int .i64 t, .slice none 0 0], .agg #[.int .i64 2, .int .i64 q], .int .i64 0]) W)) (A3 : ∀ W, Calls Try.prog 11 #[.agg #[.int .i64 5, .int .i64 n, .slice none 0 0], .int .i64 14, .int .i64 a, .int .i64 0] W (Says (.tuple #[.agg #[.int .i64 5, .int .i64 u, .slice none 0 0], .agg #[.int .i64 2, .int .i64 1], .int .i64 0]) W)) (A4 : ∀ W, Calls Try.prog 11 #[.agg #[.int .i64 5, .int .i64 u, .slice none 0 0], .int .i64 14, .int .i64 b, .int .i64 0] W (Says (.tuple #[.agg #[.int .i64 5, .int .i64 v, .slice none 0 0], .agg #[.int .i64 2, .int .i64 o], .int .i64 0]) W))
    (hm : decide (m < 4611686018427387904) = true)
    (D2 : ∀ W, Calls Try.prog 18 #[.int .i64 n, .int .i64 13, .int .i64 (wrap64 (m + 1)), .int .i64 n, .int .i64 0] W (Yes W))
    : Calls Try.prog 8 #[.int .i64 n0, .int .i64 a0, .int .i64 b0] w (Yes w) := by
  have HO := fun W => of_any n W
  unfold stV at HO
  have kr : (r == 1) = false := beq_eq_false_iff_ne.2 hr
  have ko : (o != 1) = true := by rw [bne_iff_ne]; exact ho
  go_enter Try.func8, Try.ntmps8
  go_wp2_with fail
  refine (known_all _).mono ?_
  rintro e w1 ⟨rfl, hC1⟩
  go_wp2_with fail
  refine (HN _).mono ?_
  rintro e w2 ⟨rfl, rfl⟩
  go_wp2_with fail
  refine (HA _).mono ?_
  rintro e w2 ⟨rfl, rfl⟩
  go_wp2_with fail
  refine (HB _).mono ?_
  rintro e w2 ⟨rfl, rfl⟩
  go_wp2_with fail
  refine (HM _).mono ?_
  rintro e w2 ⟨rfl, rfl⟩
  go_wp2_with fail
  refine (D1 _).mono ?_
  rintro e w2 ⟨rfl, hB2⟩
  have hC2 := onto hC1 hB2
  go_wp2_with fail
  refine (D2 _).mono ?_
  rintro e w3 ⟨rfl, hB3⟩
  have hC3 := onto hC2 hB3
  go_wp2_with fail
  refine (HO _).mono ?_
  rintro e w4 ⟨rfl, hB4⟩
  have hC4 := onto hC3 hB4
  go_wp2_with fail
  refine (A1 _).mono ?_
  rintro e w5 ⟨rfl, hB5⟩
  have hC5 := onto hC4 hB5
  obtain ⟨HS, HR, hD5⟩ := two_boxes w5 5 s 2 r
  have hE5 := onto hC5 hD5
  have s0 := HS.c (j := 0) rfl
  have s1 := HS.c (j := 1) rfl
  have s2 := HS.c (j := 2) rfl
  go_wp2_with fail
  refine (A2 _).mono ?_
  rintro e w6 ⟨rfl, hB6⟩
  have hC6 := onto hE5 hB6
  obtain ⟨HT, HQ, hD6⟩ := two_boxes w6 5 t 2 q
  have hE6 := onto hC6 hD6
  have HR6 := (HR.below hB6 HR.lt).below hD6 (HR.below hB6 HR.lt).lt
  generalize (w5.alloc (.cells #[.int .i64 5, .int .i64 s, .slice none 0 0] 24)).alloc (.cells #[.int .i64 2, .int .i64 r] 28) = V5 at *
  clear s0 s1 s2 HS HR hB5 hD5
  have r1 := HR6.c (j := 1) rfl
  have q1 := HQ.c (j := 1) rfl
  have t1 := HT.c (j := 1) rfl
  go_wp2_with fail
  refine (HO _).mono ?_
  rintro e w8 ⟨rfl, hB8⟩
  have hC8 := onto hE6 hB8
  generalize (w6.alloc (.cells #[.int .i64 5, .int .i64 t, .slice none 0 0] 24)).alloc (.cells #[.int .i64 2, .int .i64 q] 28) = V6 at *
  clear r1 q1 t1 HT HQ HR6 hB6 hD6
  go_wp2_with fail
  refine (A3 _).mono ?_
  rintro e w9 ⟨rfl, hB9⟩
  have hC9 := onto hC8 hB9
  obtain ⟨HU, HP, hD9⟩ := two_boxes w9 5 u 2 1
  have hE9 := onto hC9 hD9
  have u0 := HU.c (j := 0) rfl
  have u1 := HU.c (j := 1) rfl
  have u2 := HU.c (j := 2) rfl
  go_wp2_with fail
  refine (A4 _).mono ?_
  rintro e w10 ⟨rfl, hB10⟩
  have hC10 := onto hE9 hB10
  obtain ⟨HV, HOo, hD10⟩ := two_boxes w10 5 v 2 o
  have hE10 := onto hC10 hD10
  have HP10 := (HP.below hB10 HP.lt).below hD10 (HP.below hB10 HP.lt).lt
  generalize (w9.alloc (.cells #[.int .i64 5, .int .i64 u, .slice none 0 0] 24)).alloc (.cells #[.int .i64 2, .int .i64 1] 28) = V9 at *
  clear u0 u1 u2 HU HP hB9 hD9
  have p1 := HP10.c (j := 1) rfl
  have o1 := HOo.c (j := 1) rfl
  have v1 := HV.c (j := 1) rfl
  go_wp2_with fail
  go_ret
  exact ⟨rfl, hE10⟩

set_option maxHeartbeats 4000000 in
theorem split_room_second_both (n0 a0 b0 n a b m s t u v q : Int) (w : World) (hq : q ≠ 1)
    (HN : ∀ W, Calls Try.prog 22 #[.int .i64 n0] W fun e w' => e = .returned (.int .i64 n) ∧ W = w') (HA : ∀ W, Calls Try.prog 22 #[.int .i64 a0] W fun e w' => e = .returned (.int .i64 a) ∧ W = w') (HB : ∀ W, Calls Try.prog 22 #[.int .i64 b0] W fun e w' => e = .returned (.int .i64 b) ∧ W = w')
    (HM : ∀ W, Calls Try.prog 16 #[.int .i64 n] W fun e w' => e = .returned (.int .i64 m) ∧ W = w')
    (D1 : ∀ W, Calls Try.prog 18 #[.int .i64 n, .int .i64 13, .int .i64 m, .int .i64 4611686018427387904, .int .i64 1] W (Yes W))
    (A1 : ∀ W, Calls Try.prog 11 #[.agg #[.int .i64 5, .int .i64 n, .slice none 0 0], .int .i64 13, .int .i64 a, .int .i64 0] W (Says (.tuple #[.agg #[.int .i64 5, .int .i64 s, .slice none 0 0], .agg #[.int .i64 2, .int .i64 1], .int .i64 0]) W)) (A2 : ∀ W, Calls Try.prog 11 #[.agg #[.int .i64 5, .int .i64 s, .slice none 0 0], .int .i64 13, .int .i64 b, .int .i64 0] W (Says (.tuple #[.agg #[.int .i64 5, .int .i64 t, .slice none 0 0], .agg #[.int .i64 2, .int .i64 q], .int .i64 0]) W)) (A3 : ∀ W, Calls Try.prog 11 #[.agg #[.int .i64 5, .int .i64 n, .slice none 0 0], .int .i64 14, .int .i64 a, .int .i64 0] W (Says (.tuple #[.agg #[.int .i64 5, .int .i64 u, .slice none 0 0], .agg #[.int .i64 2, .int .i64 1], .int .i64 0]) W)) (A4 : ∀ W, Calls Try.prog 11 #[.agg #[.int .i64 5, .int .i64 u, .slice none 0 0], .int .i64 14, .int .i64 b, .int .i64 0] W (Says (.tuple #[.agg #[.int .i64 5, .int .i64 v, .slice none 0 0], .agg #[.int .i64 2, .int .i64 1], .int .i64 0]) W))
    (hm : decide (m < 4611686018427387904) = true)
    (D2 : ∀ W, Calls Try.prog 18 #[.int .i64 n, .int .i64 13, .int .i64 (wrap64 (m + 1)), .int .i64 n, .int .i64 0] W (Yes W))
    (D4 : ∀ W, Calls Try.prog 18 #[.int .i64 n, .int .i64 14, .int .i64 (wrap64 (a + b)), .int .i64 v, .int .i64 1] W (Yes W))
    : Calls Try.prog 8 #[.int .i64 n0, .int .i64 a0, .int .i64 b0] w (Yes w) := by
  have HO := fun W => of_any n W
  unfold stV at HO
  have kq : (q == 1) = false := beq_eq_false_iff_ne.2 hq
  go_enter Try.func8, Try.ntmps8
  go_wp2_with fail
  refine (known_all _).mono ?_
  rintro e w1 ⟨rfl, hC1⟩
  go_wp2_with fail
  refine (HN _).mono ?_
  rintro e w2 ⟨rfl, rfl⟩
  go_wp2_with fail
  refine (HA _).mono ?_
  rintro e w2 ⟨rfl, rfl⟩
  go_wp2_with fail
  refine (HB _).mono ?_
  rintro e w2 ⟨rfl, rfl⟩
  go_wp2_with fail
  refine (HM _).mono ?_
  rintro e w2 ⟨rfl, rfl⟩
  go_wp2_with fail
  refine (D1 _).mono ?_
  rintro e w2 ⟨rfl, hB2⟩
  have hC2 := onto hC1 hB2
  go_wp2_with fail
  refine (D2 _).mono ?_
  rintro e w3 ⟨rfl, hB3⟩
  have hC3 := onto hC2 hB3
  go_wp2_with fail
  refine (HO _).mono ?_
  rintro e w4 ⟨rfl, hB4⟩
  have hC4 := onto hC3 hB4
  go_wp2_with fail
  refine (A1 _).mono ?_
  rintro e w5 ⟨rfl, hB5⟩
  have hC5 := onto hC4 hB5
  obtain ⟨HS, HR, hD5⟩ := two_boxes w5 5 s 2 1
  have hE5 := onto hC5 hD5
  have s0 := HS.c (j := 0) rfl
  have s1 := HS.c (j := 1) rfl
  have s2 := HS.c (j := 2) rfl
  go_wp2_with fail
  refine (A2 _).mono ?_
  rintro e w6 ⟨rfl, hB6⟩
  have hC6 := onto hE5 hB6
  obtain ⟨HT, HQ, hD6⟩ := two_boxes w6 5 t 2 q
  have hE6 := onto hC6 hD6
  have HR6 := (HR.below hB6 HR.lt).below hD6 (HR.below hB6 HR.lt).lt
  generalize (w5.alloc (.cells #[.int .i64 5, .int .i64 s, .slice none 0 0] 24)).alloc (.cells #[.int .i64 2, .int .i64 1] 28) = V5 at *
  clear s0 s1 s2 HS HR hB5 hD5
  have r1 := HR6.c (j := 1) rfl
  have q1 := HQ.c (j := 1) rfl
  have t1 := HT.c (j := 1) rfl
  go_wp2_with fail
  refine (HO _).mono ?_
  rintro e w8 ⟨rfl, hB8⟩
  have hC8 := onto hE6 hB8
  generalize (w6.alloc (.cells #[.int .i64 5, .int .i64 t, .slice none 0 0] 24)).alloc (.cells #[.int .i64 2, .int .i64 q] 28) = V6 at *
  clear r1 q1 t1 HT HQ HR6 hB6 hD6
  go_wp2_with fail
  refine (A3 _).mono ?_
  rintro e w9 ⟨rfl, hB9⟩
  have hC9 := onto hC8 hB9
  obtain ⟨HU, HP, hD9⟩ := two_boxes w9 5 u 2 1
  have hE9 := onto hC9 hD9
  have u0 := HU.c (j := 0) rfl
  have u1 := HU.c (j := 1) rfl
  have u2 := HU.c (j := 2) rfl
  go_wp2_with fail
  refine (A4 _).mono ?_
  rintro e w10 ⟨rfl, hB10⟩
  have hC10 := onto hE9 hB10
  obtain ⟨HV, HOo, hD10⟩ := two_boxes w10 5 v 2 1
  have hE10 := onto hC10 hD10
  have HP10 := (HP.below hB10 HP.lt).below hD10 (HP.below hB10 HP.lt).lt
  generalize (w9.alloc (.cells #[.int .i64 5, .int .i64 u, .slice none 0 0] 24)).alloc (.cells #[.int .i64 2, .int .i64 1] 28) = V9 at *
  clear u0 u1 u2 HU HP hB9 hD9
  have p1 := HP10.c (j := 1) rfl
  have o1 := HOo.c (j := 1) rfl
  have v1 := HV.c (j := 1) rfl
  go_wp2_with fail
  refine (D4 _).mono ?_
  rintro e w11 ⟨rfl, hB11⟩
  have hC11 := onto hE10 hB11
  go_wp2
  go_ret
  exact ⟨rfl, hC11⟩

set_option maxHeartbeats 4000000 in
theorem split_room_second_first (n0 a0 b0 n a b m s t u v q p o : Int) (w : World) (hq : q ≠ 1) (hp : p ≠ 1)
    (HN : ∀ W, Calls Try.prog 22 #[.int .i64 n0] W fun e w' => e = .returned (.int .i64 n) ∧ W = w') (HA : ∀ W, Calls Try.prog 22 #[.int .i64 a0] W fun e w' => e = .returned (.int .i64 a) ∧ W = w') (HB : ∀ W, Calls Try.prog 22 #[.int .i64 b0] W fun e w' => e = .returned (.int .i64 b) ∧ W = w')
    (HM : ∀ W, Calls Try.prog 16 #[.int .i64 n] W fun e w' => e = .returned (.int .i64 m) ∧ W = w')
    (D1 : ∀ W, Calls Try.prog 18 #[.int .i64 n, .int .i64 13, .int .i64 m, .int .i64 4611686018427387904, .int .i64 1] W (Yes W))
    (A1 : ∀ W, Calls Try.prog 11 #[.agg #[.int .i64 5, .int .i64 n, .slice none 0 0], .int .i64 13, .int .i64 a, .int .i64 0] W (Says (.tuple #[.agg #[.int .i64 5, .int .i64 s, .slice none 0 0], .agg #[.int .i64 2, .int .i64 1], .int .i64 0]) W)) (A2 : ∀ W, Calls Try.prog 11 #[.agg #[.int .i64 5, .int .i64 s, .slice none 0 0], .int .i64 13, .int .i64 b, .int .i64 0] W (Says (.tuple #[.agg #[.int .i64 5, .int .i64 t, .slice none 0 0], .agg #[.int .i64 2, .int .i64 q], .int .i64 0]) W)) (A3 : ∀ W, Calls Try.prog 11 #[.agg #[.int .i64 5, .int .i64 n, .slice none 0 0], .int .i64 14, .int .i64 a, .int .i64 0] W (Says (.tuple #[.agg #[.int .i64 5, .int .i64 u, .slice none 0 0], .agg #[.int .i64 2, .int .i64 p], .int .i64 0]) W)) (A4 : ∀ W, Calls Try.prog 11 #[.agg #[.int .i64 5, .int .i64 u, .slice none 0 0], .int .i64 14, .int .i64 b, .int .i64 0] W (Says (.tuple #[.agg #[.int .i64 5, .int .i64 v, .slice none 0 0], .agg #[.int .i64 2, .int .i64 o], .int .i64 0]) W))
    (hm : decide (m < 4611686018427387904) = true)
    (D2 : ∀ W, Calls Try.prog 18 #[.int .i64 n, .int .i64 13, .int .i64 (wrap64 (m + 1)), .int .i64 n, .int .i64 0] W (Yes W))
    : Calls Try.prog 8 #[.int .i64 n0, .int .i64 a0, .int .i64 b0] w (Yes w) := by
  have HO := fun W => of_any n W
  unfold stV at HO
  have kq : (q == 1) = false := beq_eq_false_iff_ne.2 hq
  have kp : (p != 1) = true := by rw [bne_iff_ne]; exact hp
  go_enter Try.func8, Try.ntmps8
  go_wp2_with fail
  refine (known_all _).mono ?_
  rintro e w1 ⟨rfl, hC1⟩
  go_wp2_with fail
  refine (HN _).mono ?_
  rintro e w2 ⟨rfl, rfl⟩
  go_wp2_with fail
  refine (HA _).mono ?_
  rintro e w2 ⟨rfl, rfl⟩
  go_wp2_with fail
  refine (HB _).mono ?_
  rintro e w2 ⟨rfl, rfl⟩
  go_wp2_with fail
  refine (HM _).mono ?_
  rintro e w2 ⟨rfl, rfl⟩
  go_wp2_with fail
  refine (D1 _).mono ?_
  rintro e w2 ⟨rfl, hB2⟩
  have hC2 := onto hC1 hB2
  go_wp2_with fail
  refine (D2 _).mono ?_
  rintro e w3 ⟨rfl, hB3⟩
  have hC3 := onto hC2 hB3
  go_wp2_with fail
  refine (HO _).mono ?_
  rintro e w4 ⟨rfl, hB4⟩
  have hC4 := onto hC3 hB4
  go_wp2_with fail
  refine (A1 _).mono ?_
  rintro e w5 ⟨rfl, hB5⟩
  have hC5 := onto hC4 hB5
  obtain ⟨HS, HR, hD5⟩ := two_boxes w5 5 s 2 1
  have hE5 := onto hC5 hD5
  have s0 := HS.c (j := 0) rfl
  have s1 := HS.c (j := 1) rfl
  have s2 := HS.c (j := 2) rfl
  go_wp2_with fail
  refine (A2 _).mono ?_
  rintro e w6 ⟨rfl, hB6⟩
  have hC6 := onto hE5 hB6
  obtain ⟨HT, HQ, hD6⟩ := two_boxes w6 5 t 2 q
  have hE6 := onto hC6 hD6
  have HR6 := (HR.below hB6 HR.lt).below hD6 (HR.below hB6 HR.lt).lt
  generalize (w5.alloc (.cells #[.int .i64 5, .int .i64 s, .slice none 0 0] 24)).alloc (.cells #[.int .i64 2, .int .i64 1] 28) = V5 at *
  clear s0 s1 s2 HS HR hB5 hD5
  have r1 := HR6.c (j := 1) rfl
  have q1 := HQ.c (j := 1) rfl
  have t1 := HT.c (j := 1) rfl
  go_wp2_with fail
  refine (HO _).mono ?_
  rintro e w8 ⟨rfl, hB8⟩
  have hC8 := onto hE6 hB8
  generalize (w6.alloc (.cells #[.int .i64 5, .int .i64 t, .slice none 0 0] 24)).alloc (.cells #[.int .i64 2, .int .i64 q] 28) = V6 at *
  clear r1 q1 t1 HT HQ HR6 hB6 hD6
  go_wp2_with fail
  refine (A3 _).mono ?_
  rintro e w9 ⟨rfl, hB9⟩
  have hC9 := onto hC8 hB9
  obtain ⟨HU, HP, hD9⟩ := two_boxes w9 5 u 2 p
  have hE9 := onto hC9 hD9
  have u0 := HU.c (j := 0) rfl
  have u1 := HU.c (j := 1) rfl
  have u2 := HU.c (j := 2) rfl
  go_wp2_with fail
  refine (A4 _).mono ?_
  rintro e w10 ⟨rfl, hB10⟩
  have hC10 := onto hE9 hB10
  obtain ⟨HV, HOo, hD10⟩ := two_boxes w10 5 v 2 o
  have hE10 := onto hC10 hD10
  have HP10 := (HP.below hB10 HP.lt).below hD10 (HP.below hB10 HP.lt).lt
  generalize (w9.alloc (.cells #[.int .i64 5, .int .i64 u, .slice none 0 0] 24)).alloc (.cells #[.int .i64 2, .int .i64 p] 28) = V9 at *
  clear u0 u1 u2 HU HP hB9 hD9
  have p1 := HP10.c (j := 1) rfl
  have o1 := HOo.c (j := 1) rfl
  have v1 := HV.c (j := 1) rfl
  go_wp2_with fail
  go_ret
  exact ⟨rfl, hE10⟩

set_option maxHeartbeats 4000000 in
theorem split_room_second_second (n0 a0 b0 n a b m s t u v q o : Int) (w : World) (hq : q ≠ 1) (ho : o ≠ 1)
    (HN : ∀ W, Calls Try.prog 22 #[.int .i64 n0] W fun e w' => e = .returned (.int .i64 n) ∧ W = w') (HA : ∀ W, Calls Try.prog 22 #[.int .i64 a0] W fun e w' => e = .returned (.int .i64 a) ∧ W = w') (HB : ∀ W, Calls Try.prog 22 #[.int .i64 b0] W fun e w' => e = .returned (.int .i64 b) ∧ W = w')
    (HM : ∀ W, Calls Try.prog 16 #[.int .i64 n] W fun e w' => e = .returned (.int .i64 m) ∧ W = w')
    (D1 : ∀ W, Calls Try.prog 18 #[.int .i64 n, .int .i64 13, .int .i64 m, .int .i64 4611686018427387904, .int .i64 1] W (Yes W))
    (A1 : ∀ W, Calls Try.prog 11 #[.agg #[.int .i64 5, .int .i64 n, .slice none 0 0], .int .i64 13, .int .i64 a, .int .i64 0] W (Says (.tuple #[.agg #[.int .i64 5, .int .i64 s, .slice none 0 0], .agg #[.int .i64 2, .int .i64 1], .int .i64 0]) W)) (A2 : ∀ W, Calls Try.prog 11 #[.agg #[.int .i64 5, .int .i64 s, .slice none 0 0], .int .i64 13, .int .i64 b, .int .i64 0] W (Says (.tuple #[.agg #[.int .i64 5, .int .i64 t, .slice none 0 0], .agg #[.int .i64 2, .int .i64 q], .int .i64 0]) W)) (A3 : ∀ W, Calls Try.prog 11 #[.agg #[.int .i64 5, .int .i64 n, .slice none 0 0], .int .i64 14, .int .i64 a, .int .i64 0] W (Says (.tuple #[.agg #[.int .i64 5, .int .i64 u, .slice none 0 0], .agg #[.int .i64 2, .int .i64 1], .int .i64 0]) W)) (A4 : ∀ W, Calls Try.prog 11 #[.agg #[.int .i64 5, .int .i64 u, .slice none 0 0], .int .i64 14, .int .i64 b, .int .i64 0] W (Says (.tuple #[.agg #[.int .i64 5, .int .i64 v, .slice none 0 0], .agg #[.int .i64 2, .int .i64 o], .int .i64 0]) W))
    (hm : decide (m < 4611686018427387904) = true)
    (D2 : ∀ W, Calls Try.prog 18 #[.int .i64 n, .int .i64 13, .int .i64 (wrap64 (m + 1)), .int .i64 n, .int .i64 0] W (Yes W))
    : Calls Try.prog 8 #[.int .i64 n0, .int .i64 a0, .int .i64 b0] w (Yes w) := by
  have HO := fun W => of_any n W
  unfold stV at HO
  have kq : (q == 1) = false := beq_eq_false_iff_ne.2 hq
  have ko : (o != 1) = true := by rw [bne_iff_ne]; exact ho
  go_enter Try.func8, Try.ntmps8
  go_wp2_with fail
  refine (known_all _).mono ?_
  rintro e w1 ⟨rfl, hC1⟩
  go_wp2_with fail
  refine (HN _).mono ?_
  rintro e w2 ⟨rfl, rfl⟩
  go_wp2_with fail
  refine (HA _).mono ?_
  rintro e w2 ⟨rfl, rfl⟩
  go_wp2_with fail
  refine (HB _).mono ?_
  rintro e w2 ⟨rfl, rfl⟩
  go_wp2_with fail
  refine (HM _).mono ?_
  rintro e w2 ⟨rfl, rfl⟩
  go_wp2_with fail
  refine (D1 _).mono ?_
  rintro e w2 ⟨rfl, hB2⟩
  have hC2 := onto hC1 hB2
  go_wp2_with fail
  refine (D2 _).mono ?_
  rintro e w3 ⟨rfl, hB3⟩
  have hC3 := onto hC2 hB3
  go_wp2_with fail
  refine (HO _).mono ?_
  rintro e w4 ⟨rfl, hB4⟩
  have hC4 := onto hC3 hB4
  go_wp2_with fail
  refine (A1 _).mono ?_
  rintro e w5 ⟨rfl, hB5⟩
  have hC5 := onto hC4 hB5
  obtain ⟨HS, HR, hD5⟩ := two_boxes w5 5 s 2 1
  have hE5 := onto hC5 hD5
  have s0 := HS.c (j := 0) rfl
  have s1 := HS.c (j := 1) rfl
  have s2 := HS.c (j := 2) rfl
  go_wp2_with fail
  refine (A2 _).mono ?_
  rintro e w6 ⟨rfl, hB6⟩
  have hC6 := onto hE5 hB6
  obtain ⟨HT, HQ, hD6⟩ := two_boxes w6 5 t 2 q
  have hE6 := onto hC6 hD6
  have HR6 := (HR.below hB6 HR.lt).below hD6 (HR.below hB6 HR.lt).lt
  generalize (w5.alloc (.cells #[.int .i64 5, .int .i64 s, .slice none 0 0] 24)).alloc (.cells #[.int .i64 2, .int .i64 1] 28) = V5 at *
  clear s0 s1 s2 HS HR hB5 hD5
  have r1 := HR6.c (j := 1) rfl
  have q1 := HQ.c (j := 1) rfl
  have t1 := HT.c (j := 1) rfl
  go_wp2_with fail
  refine (HO _).mono ?_
  rintro e w8 ⟨rfl, hB8⟩
  have hC8 := onto hE6 hB8
  generalize (w6.alloc (.cells #[.int .i64 5, .int .i64 t, .slice none 0 0] 24)).alloc (.cells #[.int .i64 2, .int .i64 q] 28) = V6 at *
  clear r1 q1 t1 HT HQ HR6 hB6 hD6
  go_wp2_with fail
  refine (A3 _).mono ?_
  rintro e w9 ⟨rfl, hB9⟩
  have hC9 := onto hC8 hB9
  obtain ⟨HU, HP, hD9⟩ := two_boxes w9 5 u 2 1
  have hE9 := onto hC9 hD9
  have u0 := HU.c (j := 0) rfl
  have u1 := HU.c (j := 1) rfl
  have u2 := HU.c (j := 2) rfl
  go_wp2_with fail
  refine (A4 _).mono ?_
  rintro e w10 ⟨rfl, hB10⟩
  have hC10 := onto hE9 hB10
  obtain ⟨HV, HOo, hD10⟩ := two_boxes w10 5 v 2 o
  have hE10 := onto hC10 hD10
  have HP10 := (HP.below hB10 HP.lt).below hD10 (HP.below hB10 HP.lt).lt
  generalize (w9.alloc (.cells #[.int .i64 5, .int .i64 u, .slice none 0 0] 24)).alloc (.cells #[.int .i64 2, .int .i64 1] 28) = V9 at *
  clear u0 u1 u2 HU HP hB9 hD9
  have p1 := HP10.c (j := 1) rfl
  have o1 := HOo.c (j := 1) rfl
  have v1 := HV.c (j := 1) rfl
  go_wp2_with fail
  go_ret
  exact ⟨rfl, hE10⟩
end Go.Proofs.Ytpnclppjmgeddaa
