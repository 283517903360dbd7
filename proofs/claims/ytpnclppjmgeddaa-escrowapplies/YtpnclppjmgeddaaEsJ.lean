/- The document's Apply of an account. (Written by wip/tools/gen_esb.py.) -/
import Derived.Test.YtpnclppjmgeddaaEsR
namespace Go.Proofs.Ytpnclppjmgeddaa
open Go.RowKit Go.Maps
set_option linter.unusedVariables false

theorem rcheck_es (n : Int) (A : Option Addr) (c : Nat) (w : World) (h : moneyB n = true) : Calls Try.prog 29 #[.agg #[.int .i64 5, .int .i64 n, .slice A 0 c]] w (Says (.int .i64 0) w) := by
  have := rcheck_any 5 n A c [] w (ints_nil _ _) (by simp)
  rw [check_escrow h] at this
  exact this
theorem rcheck_es_no (n : Int) (A : Option Addr) (c : Nat) (l : List Int) (w : World) (hA : Ints w A l) (hlen : l.length ≤ 1000) (h : ¬ (l = [] ∧ moneyB n = true)) : Calls Try.prog 29 #[.agg #[.int .i64 5, .int .i64 n, .slice A l.length c]] w (Says (.int .i64 5) w) := by
  have := rcheck_any 5 n A c l w hA hlen
  rw [check_no_escrow h] at this
  exact this
theorem rapply_state (t n : Int) (A : Option Addr) (c : Nat) (l : List Int) (kd a b : Int) (w : World) (h : t ≠ 5) :
    Calls Try.prog 12 #[stV t n A l.length c, .int .i64 kd, .int .i64 a, .int .i64 b] w (Says (ansV 0 0 0 0 12) w) := by
  have ht : (t != 5) = true := by rw [bne_iff_ne]; exact h
  clear h
  unfold stV
  go_enter Try.func12, Try.ntmps12
  go_wp2
  refine bodyPost_ret (v := ansV 0 0 0 0 12) (by simp [results, Try.f12, go_sem, ansV, stV, retV]) rfl ?_
  exact ⟨rfl, boxed3_below w _ _ _ _ _⟩
set_option maxHeartbeats 1000000 in
theorem rapply_form (n : Int) (A : Option Addr) (c : Nat) (l : List Int) (kd a b : Int) (w : World) (hA : Ints w A l) (hlen : l.length ≤ 1000) (h : ¬ (l = [] ∧ moneyB n = true)) :
    Calls Try.prog 12 #[stV 5 n A l.length c, .int .i64 kd, .int .i64 a, .int .i64 b] w (Says (ansV 0 0 0 0 12) w) := by
  have hB0 := boxed3_below w 5 n A l.length c
  have HW := Lib.hid (boxed3_state w 5 n A l.length c)
  have HZ := Lib.hid (boxed3_then w 5 n A l.length c)
  have HR := Lib.hid (boxed3_ret w 5 n A l.length c)
  have hsz := boxed3_size w 5 n A l.length c
  have H := rcheck_es_no n A c l (boxed3 w 5 n A l.length c) (hA.below hB0) hlen h
  clear hA h
  unfold stV
  go_enter Try.func12, Try.ntmps12
  go_wp2_with fail
  refine H.mono ?_
  rintro e w1 ⟨rfl, hB1⟩
  generalize boxed3 w 5 n A l.length c = W0 at *
  have HW1 := Lib.hid (HW.out.below hB1 (by omega))
  have HZ1 := Lib.hid (HZ.out.below hB1 (by omega))
  have HR1 := Lib.hid (HR.out.below hB1 (by omega))
  have s1 := HW1.out.c (j := 1) rfl
  have hBw := nxt hB0 hB1 (by omega)
  have hlt1 : w.heap.size + 1 + 1 < w1.heap.size := HR1.out.lt
  clear hsz hB0 hB1 HW HZ HR
  have z0 := HZ1.out.c (j := 0) rfl
  have z1 := HZ1.out.c (j := 1) rfl
  have z2 := HZ1.out.c (j := 2) rfl
  have r0 := HR1.out.c (j := 0) rfl
  have r1 := HR1.out.c (j := 1) rfl
  have y0 := HZ1.out.frozen 0
  have y1 := HZ1.out.frozen 1
  have y2 := HZ1.out.frozen 2
  have x0 := HR1.out.frozen 0
  have x1 := HR1.out.frozen 1
  go_wp2
  obtain ⟨HZ2, HR2, hB3⟩ := filled_holds (m := w.heap.size) HZ1.out HR1.out (by omega) 0 0 (.slice none 0 0) 0 0
  have k0 := HZ2.c (j := 0) rfl
  have k1 := HZ2.c (j := 1) rfl
  have k2 := HZ2.c (j := 2) rfl
  have q0 := HR2.c (j := 0) rfl
  have q1 := HR2.c (j := 1) rfl
  change bodyPost _ _ _ _ _ (filled w1 (w.heap.size + 1) 0 0 (.slice none 0 0) 0 0)
  generalize filled w1 (w.heap.size + 1) 0 0 (.slice none 0 0) 0 0 = W2 at *
  refine bodyPost_ret (v := ansV 0 0 0 0 12) (by simp [results, Try.f12, go_sem, ansV, stV, retV, k0, k1, k2, q0, q1]) rfl ?_
  exact ⟨rfl, nxt hBw hB3 (Nat.le_refl _)⟩
set_option maxHeartbeats 1000000 in
theorem rapply_word1 (n : Int) (A : Option Addr) (c : Nat) (kd a b : Int) (w : World) (hm : moneyB n = true) (h : kd < 13) :
    Calls Try.prog 12 #[stV 5 n A 0 c, .int .i64 kd, .int .i64 a, .int .i64 b] w (Says (ansV 0 0 0 0 6) w) := by
  have hB0 := boxed3_below w 5 n A 0 c
  have HW := Lib.hid (boxed3_state w 5 n A 0 c)
  have HZ := Lib.hid (boxed3_then w 5 n A 0 c)
  have HR := Lib.hid (boxed3_ret w 5 n A 0 c)
  have hsz := boxed3_size w 5 n A 0 c
  have H := rcheck_es n A c (boxed3 w 5 n A 0 c) hm
  have d1 : decide (kd < 13) = true := decide_eq_true h
  clear h
  unfold stV
  go_enter Try.func12, Try.ntmps12
  go_wp2_with fail
  refine H.mono ?_
  rintro e w1 ⟨rfl, hB1⟩
  generalize boxed3 w 5 n A 0 c = W0 at *
  have HW1 := Lib.hid (HW.out.below hB1 (by omega))
  have HZ1 := Lib.hid (HZ.out.below hB1 (by omega))
  have HR1 := Lib.hid (HR.out.below hB1 (by omega))
  have s1 := HW1.out.c (j := 1) rfl
  have hBw := nxt hB0 hB1 (by omega)
  have hlt1 : w.heap.size + 1 + 1 < w1.heap.size := HR1.out.lt
  clear hsz hB0 hB1 HW HZ HR
  have z0 := HZ1.out.c (j := 0) rfl
  have z1 := HZ1.out.c (j := 1) rfl
  have z2 := HZ1.out.c (j := 2) rfl
  have r0 := HR1.out.c (j := 0) rfl
  have r1 := HR1.out.c (j := 1) rfl
  have y0 := HZ1.out.frozen 0
  have y1 := HZ1.out.frozen 1
  have y2 := HZ1.out.frozen 2
  have x0 := HR1.out.frozen 0
  have x1 := HR1.out.frozen 1
  go_wp2
  obtain ⟨HZ2, HR2, hB3⟩ := filled_holds (m := w.heap.size) HZ1.out HR1.out (by omega) 0 0 (.slice none 0 0) 0 0
  have k0 := HZ2.c (j := 0) rfl
  have k1 := HZ2.c (j := 1) rfl
  have k2 := HZ2.c (j := 2) rfl
  have q0 := HR2.c (j := 0) rfl
  have q1 := HR2.c (j := 1) rfl
  change bodyPost _ _ _ _ _ (filled w1 (w.heap.size + 1) 0 0 (.slice none 0 0) 0 0)
  generalize filled w1 (w.heap.size + 1) 0 0 (.slice none 0 0) 0 0 = W2 at *
  refine bodyPost_ret (v := ansV 0 0 0 0 6) (by simp [results, Try.f12, go_sem, ansV, stV, retV, k0, k1, k2, q0, q1]) rfl ?_
  exact ⟨rfl, nxt hBw hB3 (Nat.le_refl _)⟩
set_option maxHeartbeats 1000000 in
theorem rapply_word2 (n : Int) (A : Option Addr) (c : Nat) (kd a b : Int) (w : World) (hm : moneyB n = true) (h : 15 < kd) :
    Calls Try.prog 12 #[stV 5 n A 0 c, .int .i64 kd, .int .i64 a, .int .i64 b] w (Says (ansV 0 0 0 0 6) w) := by
  have hB0 := boxed3_below w 5 n A 0 c
  have HW := Lib.hid (boxed3_state w 5 n A 0 c)
  have HZ := Lib.hid (boxed3_then w 5 n A 0 c)
  have HR := Lib.hid (boxed3_ret w 5 n A 0 c)
  have hsz := boxed3_size w 5 n A 0 c
  have H := rcheck_es n A c (boxed3 w 5 n A 0 c) hm
  have d1 : decide (kd < 13) = false := decide_eq_false (by omega)
  have d2 : decide (15 < kd) = true := decide_eq_true h
  clear h
  unfold stV
  go_enter Try.func12, Try.ntmps12
  go_wp2_with fail
  refine H.mono ?_
  rintro e w1 ⟨rfl, hB1⟩
  generalize boxed3 w 5 n A 0 c = W0 at *
  have HW1 := Lib.hid (HW.out.below hB1 (by omega))
  have HZ1 := Lib.hid (HZ.out.below hB1 (by omega))
  have HR1 := Lib.hid (HR.out.below hB1 (by omega))
  have s1 := HW1.out.c (j := 1) rfl
  have hBw := nxt hB0 hB1 (by omega)
  have hlt1 : w.heap.size + 1 + 1 < w1.heap.size := HR1.out.lt
  clear hsz hB0 hB1 HW HZ HR
  have z0 := HZ1.out.c (j := 0) rfl
  have z1 := HZ1.out.c (j := 1) rfl
  have z2 := HZ1.out.c (j := 2) rfl
  have r0 := HR1.out.c (j := 0) rfl
  have r1 := HR1.out.c (j := 1) rfl
  have y0 := HZ1.out.frozen 0
  have y1 := HZ1.out.frozen 1
  have y2 := HZ1.out.frozen 2
  have x0 := HR1.out.frozen 0
  have x1 := HR1.out.frozen 1
  go_wp2
  obtain ⟨HZ2, HR2, hB3⟩ := filled_holds (m := w.heap.size) HZ1.out HR1.out (by omega) 0 0 (.slice none 0 0) 0 0
  have k0 := HZ2.c (j := 0) rfl
  have k1 := HZ2.c (j := 1) rfl
  have k2 := HZ2.c (j := 2) rfl
  have q0 := HR2.c (j := 0) rfl
  have q1 := HR2.c (j := 1) rfl
  change bodyPost _ _ _ _ _ (filled w1 (w.heap.size + 1) 0 0 (.slice none 0 0) 0 0)
  generalize filled w1 (w.heap.size + 1) 0 0 (.slice none 0 0) 0 0 = W2 at *
  refine bodyPost_ret (v := ansV 0 0 0 0 6) (by simp [results, Try.f12, go_sem, ansV, stV, retV, k0, k1, k2, q0, q1]) rfl ?_
  exact ⟨rfl, nxt hBw hB3 (Nat.le_refl _)⟩
set_option maxHeartbeats 1000000 in
theorem rapply_b (n : Int) (A : Option Addr) (c : Nat) (kd a b : Int) (w : World) (hm : moneyB n = true) (h1 : 13 ≤ kd) (h2 : kd ≤ 15) (hb : b ≠ 0) :
    Calls Try.prog 12 #[stV 5 n A 0 c, .int .i64 kd, .int .i64 a, .int .i64 b] w (Says (ansV 0 0 0 0 2) w) := by
  have hB0 := boxed3_below w 5 n A 0 c
  have HW := Lib.hid (boxed3_state w 5 n A 0 c)
  have HZ := Lib.hid (boxed3_then w 5 n A 0 c)
  have HR := Lib.hid (boxed3_ret w 5 n A 0 c)
  have hsz := boxed3_size w 5 n A 0 c
  have H := rcheck_es n A c (boxed3 w 5 n A 0 c) hm
  have d1 : decide (kd < 13) = false := decide_eq_false (by omega)
  have d2 : decide (15 < kd) = false := decide_eq_false (by omega)
  have hb1 : (b != 0) = true := by rw [bne_iff_ne]; exact hb
  clear hb h1 h2
  unfold stV
  go_enter Try.func12, Try.ntmps12
  go_wp2_with fail
  refine H.mono ?_
  rintro e w1 ⟨rfl, hB1⟩
  generalize boxed3 w 5 n A 0 c = W0 at *
  have HW1 := Lib.hid (HW.out.below hB1 (by omega))
  have HZ1 := Lib.hid (HZ.out.below hB1 (by omega))
  have HR1 := Lib.hid (HR.out.below hB1 (by omega))
  have s1 := HW1.out.c (j := 1) rfl
  have hBw := nxt hB0 hB1 (by omega)
  have hlt1 : w.heap.size + 1 + 1 < w1.heap.size := HR1.out.lt
  clear hsz hB0 hB1 HW HZ HR
  have z0 := HZ1.out.c (j := 0) rfl
  have z1 := HZ1.out.c (j := 1) rfl
  have z2 := HZ1.out.c (j := 2) rfl
  have r0 := HR1.out.c (j := 0) rfl
  have r1 := HR1.out.c (j := 1) rfl
  have y0 := HZ1.out.frozen 0
  have y1 := HZ1.out.frozen 1
  have y2 := HZ1.out.frozen 2
  have x0 := HR1.out.frozen 0
  have x1 := HR1.out.frozen 1
  go_wp2
  obtain ⟨HZ2, HR2, hB3⟩ := filled_holds (m := w.heap.size) HZ1.out HR1.out (by omega) 0 0 (.slice none 0 0) 0 0
  have k0 := HZ2.c (j := 0) rfl
  have k1 := HZ2.c (j := 1) rfl
  have k2 := HZ2.c (j := 2) rfl
  have q0 := HR2.c (j := 0) rfl
  have q1 := HR2.c (j := 1) rfl
  change bodyPost _ _ _ _ _ (filled w1 (w.heap.size + 1) 0 0 (.slice none 0 0) 0 0)
  generalize filled w1 (w.heap.size + 1) 0 0 (.slice none 0 0) 0 0 = W2 at *
  refine bodyPost_ret (v := ansV 0 0 0 0 2) (by simp [results, Try.f12, go_sem, ansV, stV, retV, k0, k1, k2, q0, q1]) rfl ?_
  exact ⟨rfl, nxt hBw hB3 (Nat.le_refl _)⟩
set_option maxHeartbeats 1000000 in
theorem rapply_a (n : Int) (A : Option Addr) (c : Nat) (kd a : Int) (w : World) (hm : moneyB n = true) (h1 : 13 ≤ kd) (h2 : kd ≤ 15) (ha : (kdB kd && mayB kd a) = false) :
    Calls Try.prog 12 #[stV 5 n A 0 c, .int .i64 kd, .int .i64 a, .int .i64 0] w (Says (ansV 0 0 0 0 2) w) := by
  have hB0 := boxed3_below w 5 n A 0 c
  have HW := Lib.hid (boxed3_state w 5 n A 0 c)
  have HZ := Lib.hid (boxed3_then w 5 n A 0 c)
  have HR := Lib.hid (boxed3_ret w 5 n A 0 c)
  have hsz := boxed3_size w 5 n A 0 c
  have H := rcheck_es n A c (boxed3 w 5 n A 0 c) hm
  have d1 : decide (kd < 13) = false := decide_eq_false (by omega)
  have d2 : decide (15 < kd) = false := decide_eq_false (by omega)
  have HT := fun W => rmay_any kd a W
  rw [ha] at HT
  clear ha h1 h2
  unfold stV
  go_enter Try.func12, Try.ntmps12
  go_wp2_with fail
  refine H.mono ?_
  rintro e w1 ⟨rfl, hB1⟩
  generalize boxed3 w 5 n A 0 c = W0 at *
  have HW1 := Lib.hid (HW.out.below hB1 (by omega))
  have HZ1 := Lib.hid (HZ.out.below hB1 (by omega))
  have HR1 := Lib.hid (HR.out.below hB1 (by omega))
  have s1 := HW1.out.c (j := 1) rfl
  have hBw := nxt hB0 hB1 (by omega)
  have hlt1 : w.heap.size + 1 + 1 < w1.heap.size := HR1.out.lt
  clear hsz hB0 hB1 HW HZ HR
  go_wp2_with fail
  refine (HT _).mono ?_
  rintro e w2 ⟨rfl, rfl⟩
  have z0 := HZ1.out.c (j := 0) rfl
  have z1 := HZ1.out.c (j := 1) rfl
  have z2 := HZ1.out.c (j := 2) rfl
  have r0 := HR1.out.c (j := 0) rfl
  have r1 := HR1.out.c (j := 1) rfl
  have y0 := HZ1.out.frozen 0
  have y1 := HZ1.out.frozen 1
  have y2 := HZ1.out.frozen 2
  have x0 := HR1.out.frozen 0
  have x1 := HR1.out.frozen 1
  go_wp2
  obtain ⟨HZ2, HR2, hB3⟩ := filled_holds (m := w.heap.size) HZ1.out HR1.out (by omega) 0 0 (.slice none 0 0) 0 0
  have k0 := HZ2.c (j := 0) rfl
  have k1 := HZ2.c (j := 1) rfl
  have k2 := HZ2.c (j := 2) rfl
  have q0 := HR2.c (j := 0) rfl
  have q1 := HR2.c (j := 1) rfl
  change bodyPost _ _ _ _ _ (filled w1 (w.heap.size + 1) 0 0 (.slice none 0 0) 0 0)
  generalize filled w1 (w.heap.size + 1) 0 0 (.slice none 0 0) 0 0 = W2 at *
  refine bodyPost_ret (v := ansV 0 0 0 0 2) (by simp [results, Try.f12, go_sem, ansV, stV, retV, k0, k1, k2, q0, q1]) rfl ?_
  exact ⟨rfl, nxt hBw hB3 (Nat.le_refl _)⟩
set_option maxHeartbeats 1000000 in
theorem rapply_put (n : Int) (A : Option Addr) (c : Nat) (a : Int) (w : World) (hm : moneyB n = true) (hn : 0 ≤ n ∧ n ≤ 4611686018427387904) (ha : 0 ≤ a ∧ a ≤ 4611686018427387904) (h : a ≤ 4611686018427387904 - n) :
    Calls Try.prog 12 #[stV 5 n A 0 c, .int .i64 13, .int .i64 a, .int .i64 0] w (Says (ansV 5 (n + a) 2 (1) 0) w) := by
  have hB0 := boxed3_below w 5 n A 0 c
  have HW := Lib.hid (boxed3_state w 5 n A 0 c)
  have HZ := Lib.hid (boxed3_then w 5 n A 0 c)
  have HR := Lib.hid (boxed3_ret w 5 n A 0 c)
  have hsz := boxed3_size w 5 n A 0 c
  have H := rcheck_es n A c (boxed3 w 5 n A 0 c) hm
  have HT := fun W => rmay_any 13 a W
  rw [show (kdB 13 && mayB 13 a) = true by simp [kdB, mayB, moneyB]; omega] at HT
  have e2 : Hid (wrap64 (n + a) = n + a) := iwrap (by omega) (by omega)
  have e3 : decide (a ≤ wrap64 (4611686018427387904 - n)) = true := decide_eq_true (by rw [iwrap (by omega) (by omega)]; exact h)
  clear h ha
  have HO := fun W => told_any (n + a) (1) W
  unfold ansV stV retV at HO
  clear hm hn
  unfold stV
  go_enter Try.func12, Try.ntmps12
  go_wp2_with fail
  refine H.mono ?_
  rintro e w1 ⟨rfl, hB1⟩
  generalize boxed3 w 5 n A 0 c = W0 at *
  have HW1 := Lib.hid (HW.out.below hB1 (by omega))
  have HZ1 := Lib.hid (HZ.out.below hB1 (by omega))
  have HR1 := Lib.hid (HR.out.below hB1 (by omega))
  have s1 := HW1.out.c (j := 1) rfl
  have hBw := nxt hB0 hB1 (by omega)
  have hlt1 : w.heap.size + 1 + 1 < w1.heap.size := HR1.out.lt
  clear hsz hB0 hB1 HW HZ HR
  go_wp2_with fail
  refine (HT _).mono ?_
  rintro e w2 ⟨rfl, rfl⟩
  go_wp2_with fail
  rw [e2.out]
  refine (HO _).mono ?_
  rintro e w3 ⟨rfl, hB3⟩
  replace HZ1 := Lib.hid (HZ1.out.below hB3 (by omega))
  replace HR1 := Lib.hid (HR1.out.below hB3 (by omega))
  replace hBw := nxt hBw hB3 hBw.size
  clear hB3
  have z0 := HZ1.out.c (j := 0) rfl
  have z1 := HZ1.out.c (j := 1) rfl
  have z2 := HZ1.out.c (j := 2) rfl
  have r0 := HR1.out.c (j := 0) rfl
  have r1 := HR1.out.c (j := 1) rfl
  have y0 := HZ1.out.frozen 0
  have y1 := HZ1.out.frozen 1
  have y2 := HZ1.out.frozen 2
  have x0 := HR1.out.frozen 0
  have x1 := HR1.out.frozen 1
  go_wp2
  obtain ⟨HZ2, HR2, hB4⟩ := filled_holds (m := w.heap.size) HZ1.out HR1.out (by omega) 5 (n + a) (.slice none 0 0) 2 (1)
  have k0 := HZ2.c (j := 0) rfl
  have k1 := HZ2.c (j := 1) rfl
  have k2 := HZ2.c (j := 2) rfl
  have q0 := HR2.c (j := 0) rfl
  have q1 := HR2.c (j := 1) rfl
  change bodyPost _ _ _ _ _ (filled w3 (w.heap.size + 1) 5 (n + a) (.slice none 0 0) 2 (1))
  generalize filled w3 (w.heap.size + 1) 5 (n + a) (.slice none 0 0) 2 (1) = W2 at *
  refine bodyPost_ret (v := ansV 5 (n + a) 2 (1) 0) (by simp [results, Try.f12, go_sem, ansV, stV, retV, k0, k1, k2, q0, q1]) rfl ?_
  exact ⟨rfl, nxt hBw hB4 (Nat.le_refl _)⟩
set_option maxHeartbeats 1000000 in
theorem rapply_putno (n : Int) (A : Option Addr) (c : Nat) (a : Int) (w : World) (hm : moneyB n = true) (hn : 0 ≤ n ∧ n ≤ 4611686018427387904) (ha : 0 ≤ a ∧ a ≤ 4611686018427387904) (h : ¬ a ≤ 4611686018427387904 - n) :
    Calls Try.prog 12 #[stV 5 n A 0 c, .int .i64 13, .int .i64 a, .int .i64 0] w (Says (ansV 5 (n) 2 (0) 0) w) := by
  have hB0 := boxed3_below w 5 n A 0 c
  have HW := Lib.hid (boxed3_state w 5 n A 0 c)
  have HZ := Lib.hid (boxed3_then w 5 n A 0 c)
  have HR := Lib.hid (boxed3_ret w 5 n A 0 c)
  have hsz := boxed3_size w 5 n A 0 c
  have H := rcheck_es n A c (boxed3 w 5 n A 0 c) hm
  have HT := fun W => rmay_any 13 a W
  rw [show (kdB 13 && mayB 13 a) = true by simp [kdB, mayB, moneyB]; omega] at HT
  have e3 : decide (a ≤ wrap64 (4611686018427387904 - n)) = false := decide_eq_false (by rw [iwrap (by omega) (by omega)]; exact h)
  clear h ha
  have HO := fun W => told_any (n) (0) W
  unfold ansV stV retV at HO
  clear hm hn
  unfold stV
  go_enter Try.func12, Try.ntmps12
  go_wp2_with fail
  refine H.mono ?_
  rintro e w1 ⟨rfl, hB1⟩
  generalize boxed3 w 5 n A 0 c = W0 at *
  have HW1 := Lib.hid (HW.out.below hB1 (by omega))
  have HZ1 := Lib.hid (HZ.out.below hB1 (by omega))
  have HR1 := Lib.hid (HR.out.below hB1 (by omega))
  have s1 := HW1.out.c (j := 1) rfl
  have hBw := nxt hB0 hB1 (by omega)
  have hlt1 : w.heap.size + 1 + 1 < w1.heap.size := HR1.out.lt
  clear hsz hB0 hB1 HW HZ HR
  go_wp2_with fail
  refine (HT _).mono ?_
  rintro e w2 ⟨rfl, rfl⟩
  go_wp2_with fail
  refine (HO _).mono ?_
  rintro e w3 ⟨rfl, hB3⟩
  replace HZ1 := Lib.hid (HZ1.out.below hB3 (by omega))
  replace HR1 := Lib.hid (HR1.out.below hB3 (by omega))
  replace hBw := nxt hBw hB3 hBw.size
  clear hB3
  have z0 := HZ1.out.c (j := 0) rfl
  have z1 := HZ1.out.c (j := 1) rfl
  have z2 := HZ1.out.c (j := 2) rfl
  have r0 := HR1.out.c (j := 0) rfl
  have r1 := HR1.out.c (j := 1) rfl
  have y0 := HZ1.out.frozen 0
  have y1 := HZ1.out.frozen 1
  have y2 := HZ1.out.frozen 2
  have x0 := HR1.out.frozen 0
  have x1 := HR1.out.frozen 1
  go_wp2
  obtain ⟨HZ2, HR2, hB4⟩ := filled_holds (m := w.heap.size) HZ1.out HR1.out (by omega) 5 (n) (.slice none 0 0) 2 (0)
  have k0 := HZ2.c (j := 0) rfl
  have k1 := HZ2.c (j := 1) rfl
  have k2 := HZ2.c (j := 2) rfl
  have q0 := HR2.c (j := 0) rfl
  have q1 := HR2.c (j := 1) rfl
  change bodyPost _ _ _ _ _ (filled w3 (w.heap.size + 1) 5 (n) (.slice none 0 0) 2 (0))
  generalize filled w3 (w.heap.size + 1) 5 (n) (.slice none 0 0) 2 (0) = W2 at *
  refine bodyPost_ret (v := ansV 5 (n) 2 (0) 0) (by simp [results, Try.f12, go_sem, ansV, stV, retV, k0, k1, k2, q0, q1]) rfl ?_
  exact ⟨rfl, nxt hBw hB4 (Nat.le_refl _)⟩
set_option maxHeartbeats 1000000 in
theorem rapply_take (n : Int) (A : Option Addr) (c : Nat) (a : Int) (w : World) (hm : moneyB n = true) (hn : 0 ≤ n ∧ n ≤ 4611686018427387904) (ha : 0 ≤ a ∧ a ≤ 4611686018427387904) (h : a ≤ n) :
    Calls Try.prog 12 #[stV 5 n A 0 c, .int .i64 14, .int .i64 a, .int .i64 0] w (Says (ansV 5 (n - a) 2 (1) 0) w) := by
  have hB0 := boxed3_below w 5 n A 0 c
  have HW := Lib.hid (boxed3_state w 5 n A 0 c)
  have HZ := Lib.hid (boxed3_then w 5 n A 0 c)
  have HR := Lib.hid (boxed3_ret w 5 n A 0 c)
  have hsz := boxed3_size w 5 n A 0 c
  have H := rcheck_es n A c (boxed3 w 5 n A 0 c) hm
  have HT := fun W => rmay_any 14 a W
  rw [show (kdB 14 && mayB 14 a) = true by simp [kdB, mayB, moneyB]; omega] at HT
  have e2 : Hid (wrap64 (n - a) = n - a) := iwrap (by omega) (by omega)
  have e3 : decide (a ≤ n) = true := decide_eq_true h
  clear h ha
  have HO := fun W => told_any (n - a) (1) W
  unfold ansV stV retV at HO
  clear hm hn
  unfold stV
  go_enter Try.func12, Try.ntmps12
  go_wp2_with fail
  refine H.mono ?_
  rintro e w1 ⟨rfl, hB1⟩
  generalize boxed3 w 5 n A 0 c = W0 at *
  have HW1 := Lib.hid (HW.out.below hB1 (by omega))
  have HZ1 := Lib.hid (HZ.out.below hB1 (by omega))
  have HR1 := Lib.hid (HR.out.below hB1 (by omega))
  have s1 := HW1.out.c (j := 1) rfl
  have hBw := nxt hB0 hB1 (by omega)
  have hlt1 : w.heap.size + 1 + 1 < w1.heap.size := HR1.out.lt
  clear hsz hB0 hB1 HW HZ HR
  go_wp2_with fail
  refine (HT _).mono ?_
  rintro e w2 ⟨rfl, rfl⟩
  go_wp2_with fail
  rw [e2.out]
  refine (HO _).mono ?_
  rintro e w3 ⟨rfl, hB3⟩
  replace HZ1 := Lib.hid (HZ1.out.below hB3 (by omega))
  replace HR1 := Lib.hid (HR1.out.below hB3 (by omega))
  replace hBw := nxt hBw hB3 hBw.size
  clear hB3
  have z0 := HZ1.out.c (j := 0) rfl
  have z1 := HZ1.out.c (j := 1) rfl
  have z2 := HZ1.out.c (j := 2) rfl
  have r0 := HR1.out.c (j := 0) rfl
  have r1 := HR1.out.c (j := 1) rfl
  have y0 := HZ1.out.frozen 0
  have y1 := HZ1.out.frozen 1
  have y2 := HZ1.out.frozen 2
  have x0 := HR1.out.frozen 0
  have x1 := HR1.out.frozen 1
  go_wp2
  obtain ⟨HZ2, HR2, hB4⟩ := filled_holds (m := w.heap.size) HZ1.out HR1.out (by omega) 5 (n - a) (.slice none 0 0) 2 (1)
  have k0 := HZ2.c (j := 0) rfl
  have k1 := HZ2.c (j := 1) rfl
  have k2 := HZ2.c (j := 2) rfl
  have q0 := HR2.c (j := 0) rfl
  have q1 := HR2.c (j := 1) rfl
  change bodyPost _ _ _ _ _ (filled w3 (w.heap.size + 1) 5 (n - a) (.slice none 0 0) 2 (1))
  generalize filled w3 (w.heap.size + 1) 5 (n - a) (.slice none 0 0) 2 (1) = W2 at *
  refine bodyPost_ret (v := ansV 5 (n - a) 2 (1) 0) (by simp [results, Try.f12, go_sem, ansV, stV, retV, k0, k1, k2, q0, q1]) rfl ?_
  exact ⟨rfl, nxt hBw hB4 (Nat.le_refl _)⟩
set_option maxHeartbeats 1000000 in
theorem rapply_takeno (n : Int) (A : Option Addr) (c : Nat) (a : Int) (w : World) (hm : moneyB n = true) (hn : 0 ≤ n ∧ n ≤ 4611686018427387904) (ha : 0 ≤ a ∧ a ≤ 4611686018427387904) (h : ¬ a ≤ n) :
    Calls Try.prog 12 #[stV 5 n A 0 c, .int .i64 14, .int .i64 a, .int .i64 0] w (Says (ansV 5 (n) 2 (0) 0) w) := by
  have hB0 := boxed3_below w 5 n A 0 c
  have HW := Lib.hid (boxed3_state w 5 n A 0 c)
  have HZ := Lib.hid (boxed3_then w 5 n A 0 c)
  have HR := Lib.hid (boxed3_ret w 5 n A 0 c)
  have hsz := boxed3_size w 5 n A 0 c
  have H := rcheck_es n A c (boxed3 w 5 n A 0 c) hm
  have HT := fun W => rmay_any 14 a W
  rw [show (kdB 14 && mayB 14 a) = true by simp [kdB, mayB, moneyB]; omega] at HT
  have e3 : decide (a ≤ n) = false := decide_eq_false h
  clear h ha
  have HO := fun W => told_any (n) (0) W
  unfold ansV stV retV at HO
  clear hm hn
  unfold stV
  go_enter Try.func12, Try.ntmps12
  go_wp2_with fail
  refine H.mono ?_
  rintro e w1 ⟨rfl, hB1⟩
  generalize boxed3 w 5 n A 0 c = W0 at *
  have HW1 := Lib.hid (HW.out.below hB1 (by omega))
  have HZ1 := Lib.hid (HZ.out.below hB1 (by omega))
  have HR1 := Lib.hid (HR.out.below hB1 (by omega))
  have s1 := HW1.out.c (j := 1) rfl
  have hBw := nxt hB0 hB1 (by omega)
  have hlt1 : w.heap.size + 1 + 1 < w1.heap.size := HR1.out.lt
  clear hsz hB0 hB1 HW HZ HR
  go_wp2_with fail
  refine (HT _).mono ?_
  rintro e w2 ⟨rfl, rfl⟩
  go_wp2_with fail
  refine (HO _).mono ?_
  rintro e w3 ⟨rfl, hB3⟩
  replace HZ1 := Lib.hid (HZ1.out.below hB3 (by omega))
  replace HR1 := Lib.hid (HR1.out.below hB3 (by omega))
  replace hBw := nxt hBw hB3 hBw.size
  clear hB3
  have z0 := HZ1.out.c (j := 0) rfl
  have z1 := HZ1.out.c (j := 1) rfl
  have z2 := HZ1.out.c (j := 2) rfl
  have r0 := HR1.out.c (j := 0) rfl
  have r1 := HR1.out.c (j := 1) rfl
  have y0 := HZ1.out.frozen 0
  have y1 := HZ1.out.frozen 1
  have y2 := HZ1.out.frozen 2
  have x0 := HR1.out.frozen 0
  have x1 := HR1.out.frozen 1
  go_wp2
  obtain ⟨HZ2, HR2, hB4⟩ := filled_holds (m := w.heap.size) HZ1.out HR1.out (by omega) 5 (n) (.slice none 0 0) 2 (0)
  have k0 := HZ2.c (j := 0) rfl
  have k1 := HZ2.c (j := 1) rfl
  have k2 := HZ2.c (j := 2) rfl
  have q0 := HR2.c (j := 0) rfl
  have q1 := HR2.c (j := 1) rfl
  change bodyPost _ _ _ _ _ (filled w3 (w.heap.size + 1) 5 (n) (.slice none 0 0) 2 (0))
  generalize filled w3 (w.heap.size + 1) 5 (n) (.slice none 0 0) 2 (0) = W2 at *
  refine bodyPost_ret (v := ansV 5 (n) 2 (0) 0) (by simp [results, Try.f12, go_sem, ansV, stV, retV, k0, k1, k2, q0, q1]) rfl ?_
  exact ⟨rfl, nxt hBw hB4 (Nat.le_refl _)⟩
set_option maxHeartbeats 1000000 in
theorem rapply_tell (n : Int) (A : Option Addr) (c : Nat)  (w : World) (hm : moneyB n = true) (hn : 0 ≤ n ∧ n ≤ 4611686018427387904) :
    Calls Try.prog 12 #[stV 5 n A 0 c, .int .i64 15, .int .i64 0, .int .i64 0] w (Says (ansV 5 (n) 2 (n) 0) w) := by
  have hB0 := boxed3_below w 5 n A 0 c
  have HW := Lib.hid (boxed3_state w 5 n A 0 c)
  have HZ := Lib.hid (boxed3_then w 5 n A 0 c)
  have HR := Lib.hid (boxed3_ret w 5 n A 0 c)
  have hsz := boxed3_size w 5 n A 0 c
  have H := rcheck_es n A c (boxed3 w 5 n A 0 c) hm
  have HT := fun W => rmay_any 15 0 W
  rw [show (kdB 15 && mayB 15 0) = true by simp [kdB, mayB]] at HT
  have HO := fun W => told_any (n) (n) W
  unfold ansV stV retV at HO
  clear hm hn
  unfold stV
  go_enter Try.func12, Try.ntmps12
  go_wp2_with fail
  refine H.mono ?_
  rintro e w1 ⟨rfl, hB1⟩
  generalize boxed3 w 5 n A 0 c = W0 at *
  have HW1 := Lib.hid (HW.out.below hB1 (by omega))
  have HZ1 := Lib.hid (HZ.out.below hB1 (by omega))
  have HR1 := Lib.hid (HR.out.below hB1 (by omega))
  have s1 := HW1.out.c (j := 1) rfl
  have hBw := nxt hB0 hB1 (by omega)
  have hlt1 : w.heap.size + 1 + 1 < w1.heap.size := HR1.out.lt
  clear hsz hB0 hB1 HW HZ HR
  go_wp2_with fail
  refine (HT _).mono ?_
  rintro e w2 ⟨rfl, rfl⟩
  go_wp2_with fail
  refine (HO _).mono ?_
  rintro e w3 ⟨rfl, hB3⟩
  replace HZ1 := Lib.hid (HZ1.out.below hB3 (by omega))
  replace HR1 := Lib.hid (HR1.out.below hB3 (by omega))
  replace hBw := nxt hBw hB3 hBw.size
  clear hB3
  have z0 := HZ1.out.c (j := 0) rfl
  have z1 := HZ1.out.c (j := 1) rfl
  have z2 := HZ1.out.c (j := 2) rfl
  have r0 := HR1.out.c (j := 0) rfl
  have r1 := HR1.out.c (j := 1) rfl
  have y0 := HZ1.out.frozen 0
  have y1 := HZ1.out.frozen 1
  have y2 := HZ1.out.frozen 2
  have x0 := HR1.out.frozen 0
  have x1 := HR1.out.frozen 1
  go_wp2
  obtain ⟨HZ2, HR2, hB4⟩ := filled_holds (m := w.heap.size) HZ1.out HR1.out (by omega) 5 (n) (.slice none 0 0) 2 (n)
  have k0 := HZ2.c (j := 0) rfl
  have k1 := HZ2.c (j := 1) rfl
  have k2 := HZ2.c (j := 2) rfl
  have q0 := HR2.c (j := 0) rfl
  have q1 := HR2.c (j := 1) rfl
  change bodyPost _ _ _ _ _ (filled w3 (w.heap.size + 1) 5 (n) (.slice none 0 0) 2 (n))
  generalize filled w3 (w.heap.size + 1) 5 (n) (.slice none 0 0) 2 (n) = W2 at *
  refine bodyPost_ret (v := ansV 5 (n) 2 (n) 0) (by simp [results, Try.f12, go_sem, ansV, stV, retV, k0, k1, k2, q0, q1]) rfl ?_
  exact ⟨rfl, nxt hBw hB4 (Nat.le_refl _)⟩

theorem rapply_any (t n : Int) (A : Option Addr) (c : Nat) (l : List Int) (kd a b : Int) (w : World) (hA : Ints w A l) (hlen : l.length ≤ 1000) :
    Calls Try.prog 12 #[stV t n A l.length c, .int .i64 kd, .int .i64 a, .int .i64 b] w (Says (escV (escA t n l kd a b)) w) := by
  unfold escA
  split
  · next h =>
    obtain ⟨rfl, rfl, hm⟩ := h
    have hn := (money_iff n).1 hm
    split
    · next hk =>
      have hk' := hk
      unfold kdB at hk'
      simp at hk'
      split
      · next h2 =>
        obtain ⟨rfl, ha⟩ := h2
        rcases kd_three hk with rfl | rfl | rfl
        · have h2 := (money_iff a).1 ha
          by_cases h : a ≤ 4611686018427387904 - n
          · have := rapply_put n A c a w hm hn h2 h
            simpa [escV, eThen, eRet, h] using this
          · have := rapply_putno n A c a w hm hn h2 h
            simpa [escV, eThen, eRet, h] using this
        · have h2 := (money_iff a).1 ha
          by_cases h : a ≤ n
          · have := rapply_take n A c a w hm hn h2 h
            simpa [escV, eThen, eRet, h] using this
          · have := rapply_takeno n A c a w hm hn h2 h
            simpa [escV, eThen, eRet, h] using this
        · obtain rfl : a = 0 := by simpa [mayB] using ha
          have := rapply_tell n A c w hm hn
          simpa [escV, eThen, eRet] using this
      · next h2 =>
        by_cases hb : b = 0
        · subst hb
          exact rapply_a n A c kd a w hm hk'.1 hk'.2 (by rw [hk]; cases h : mayB kd a with | true => exact absurd ⟨rfl, h⟩ h2 | false => rfl)
        · exact rapply_b n A c kd a b w hm hk'.1 hk'.2 hb
    · next hk =>
      unfold kdB at hk
      simp at hk
      by_cases h1 : kd < 13
      · exact rapply_word1 n A c kd a b w hm h1
      · exact rapply_word2 n A c kd a b w hm (hk (by omega))
  · next h =>
    by_cases ht : t = 5
    · subst ht
      exact rapply_form n A c l kd a b w hA hlen (fun e => h ⟨rfl, e⟩)
    · exact rapply_state t n A c l kd a b w ht
end Go.Proofs.Ytpnclppjmgeddaa
