/- Texts of earlier stages over this seat, joined: CnB CnR CnRb. -/
import Derived.Test.YtmclpganipfadaaGreatDoorJbC
set_option maxRecDepth 100000
namespace Go.Proofs.YtmclpganipfadaaGreatDoor
open Go.RowKit Go.Maps
set_option linter.unusedVariables false

theorem check_cn (n : Int) (A : Option Addr) (c : Nat) (w : World) : Calls Tryz.prog 52 #[.agg #[.int .i64 1, .int .i64 n, .slice A 0 c]] w (Says (.int .i64 0) w) := check_any 1 n A c [] w (ints_nil _ _) (by simp)
set_option maxHeartbeats 1000000 in
theorem apply_word (n : Int) (A : Option Addr) (c : Nat) (kd a b : Int) (w : World) (h1 : kd ≠ 1) (h2 : kd ≠ 2) :
    Calls Tryz.prog 34 #[stV 1 n A 0 c, .int .i64 kd, .int .i64 a, .int .i64 b] w (Says (ansV 0 0 0 0 6) w) := by
  have k1 : (kd == 1) = false := beq_eq_false_iff_ne.2 h1
  have k2 : (kd == 2) = false := beq_eq_false_iff_ne.2 h2
  clear h1 h2
  have hB0 := boxed3_below w 1 n A 0 c
  have HW := Lib.hid (boxed3_state w 1 n A 0 c)
  have HZ := Lib.hid (boxed3_then w 1 n A 0 c)
  have HR := Lib.hid (boxed3_ret w 1 n A 0 c)
  have hsz := boxed3_size w 1 n A 0 c
  have H := check_cn n A c (boxed3 w 1 n A 0 c)
  unfold stV
  go_enter Tryz.func34, Tryz.ntmps34
  go_wp2_with fail
  refine H.mono ?_
  rintro e w1 ⟨rfl, hB1⟩
  generalize boxed3 w 1 n A 0 c = W0 at *
  have HW1 := Lib.hid (HW.out.below hB1 (by omega))
  have HZ1 := Lib.hid (HZ.out.below hB1 (by omega))
  have HR1 := Lib.hid (HR.out.below hB1 (by omega))
  have s1 := HW1.out.c (j := 1) rfl
  have hBw := nxt hB0 hB1 (by omega)
  have hBx := hBw
  clear hsz hB0 hB1
  have z0 := HZ1.out.c (j := 0) rfl
  have z1 := HZ1.out.c (j := 1) rfl
  have z2 := HZ1.out.c (j := 2) rfl
  have r0 := HR1.out.c (j := 0) rfl
  have r1 := HR1.out.c (j := 1) rfl
  have y0 := HZ1.out.frozen 0
  have y1 := HZ1.out.frozen 1
  have y2 := HZ1.out.frozen 2
  have x0 := HR1.out.frozen 0
  have x1 := HR1.out.frozen 1
  go_wp2
  obtain ⟨HZ2, HR2, hB3⟩ := filled_holds (m := w.heap.size) HZ1.out HR1.out (by omega) 0 0 (.slice none 0 0) 0 0
  have k0 := HZ2.c (j := 0) rfl
  have k1 := HZ2.c (j := 1) rfl
  have k2 := HZ2.c (j := 2) rfl
  have q0 := HR2.c (j := 0) rfl
  have q1 := HR2.c (j := 1) rfl
  change bodyPost _ _ _ _ _ (filled w1 (w.heap.size + 1) 0 0 (.slice none 0 0) 0 0)
  generalize filled w1 (w.heap.size + 1) 0 0 (.slice none 0 0) 0 0 = W2 at *
  refine bodyPost_ret (v := ansV 0 0 0 0 6) (by simp [results, Tryz.f34, go_sem, ansV, stV, retV, k0, k1, k2, q0, q1]) rfl ?_
  exact ⟨rfl, nxt hBx hB3 (Nat.le_refl _)⟩
set_option maxHeartbeats 1000000 in
theorem apply_add_no (n : Int) (A : Option Addr) (c : Nat) (a b : Int) (w : World) (h : b ≠ 0) :
    Calls Tryz.prog 34 #[stV 1 n A 0 c, .int .i64 1, .int .i64 a, .int .i64 b] w (Says (ansV 0 0 0 0 2) w) := by
  have hB0 := boxed3_below w 1 n A 0 c
  have HW := Lib.hid (boxed3_state w 1 n A 0 c)
  have HZ := Lib.hid (boxed3_then w 1 n A 0 c)
  have HR := Lib.hid (boxed3_ret w 1 n A 0 c)
  have hsz := boxed3_size w 1 n A 0 c
  have H := check_cn n A c (boxed3 w 1 n A 0 c)
  unfold stV
  go_enter Tryz.func34, Tryz.ntmps34
  go_wp2_with fail
  refine H.mono ?_
  rintro e w1 ⟨rfl, hB1⟩
  generalize boxed3 w 1 n A 0 c = W0 at *
  have HW1 := Lib.hid (HW.out.below hB1 (by omega))
  have HZ1 := Lib.hid (HZ.out.below hB1 (by omega))
  have HR1 := Lib.hid (HR.out.below hB1 (by omega))
  have s1 := HW1.out.c (j := 1) rfl
  have hBw := nxt hB0 hB1 (by omega)
  have hlt1 : w.heap.size + 1 + 1 < w1.heap.size := HR1.out.lt
  clear hsz hB0 hB1
  go_wp2_with fail
  refine (add_no n a b w1 h).mono ?_
  rintro e w2 ⟨rfl, hB2⟩
  unfold tri retV
  replace HZ1 := Lib.hid ((HZ1.out.below hB2 (by omega)).alloc (.cells #[.int .i64 0, .int .i64 0] 26))
  replace HR1 := Lib.hid ((HR1.out.below hB2 (by omega)).alloc (.cells #[.int .i64 0, .int .i64 0] 26))
  have hBx := nxt (nxt hBw hB2 (by omega)) (alloc1 w2 (.cells #[.int .i64 0, .int .i64 0] 26)) (by have := hB2.size; omega)
  have z0 := HZ1.out.c (j := 0) rfl
  have z1 := HZ1.out.c (j := 1) rfl
  have z2 := HZ1.out.c (j := 2) rfl
  have r0 := HR1.out.c (j := 0) rfl
  have r1 := HR1.out.c (j := 1) rfl
  have y0 := HZ1.out.frozen 0
  have y1 := HZ1.out.frozen 1
  have y2 := HZ1.out.frozen 2
  have x0 := HR1.out.frozen 0
  have x1 := HR1.out.frozen 1
  go_wp2
  obtain ⟨HZ2, HR2, hB3⟩ := filled_holds (m := w.heap.size) HZ1.out HR1.out (by omega) 0 0 (.slice none 0 0) 0 0
  have k0 := HZ2.c (j := 0) rfl
  have k1 := HZ2.c (j := 1) rfl
  have k2 := HZ2.c (j := 2) rfl
  have q0 := HR2.c (j := 0) rfl
  have q1 := HR2.c (j := 1) rfl
  change bodyPost _ _ _ _ _ (filled (w2.alloc (.cells #[.int .i64 0, .int .i64 0] 26)) (w.heap.size + 1) 0 0 (.slice none 0 0) 0 0)
  generalize filled (w2.alloc (.cells #[.int .i64 0, .int .i64 0] 26)) (w.heap.size + 1) 0 0 (.slice none 0 0) 0 0 = W2 at *
  refine bodyPost_ret (v := ansV 0 0 0 0 2) (by simp [results, Tryz.f34, go_sem, ansV, stV, retV, k0, k1, k2, q0, q1]) rfl ?_
  exact ⟨rfl, nxt hBx hB3 (Nat.le_refl _)⟩
set_option maxHeartbeats 1000000 in
theorem apply_add (n : Int) (A : Option Addr) (c : Nat) (a : Int) (w : World)  :
    Calls Tryz.prog 34 #[stV 1 n A 0 c, .int .i64 1, .int .i64 a, .int .i64 0] w (Says (ansV 1 (wrap64 (n + a)) 0 0 0) w) := by
  have hB0 := boxed3_below w 1 n A 0 c
  have HW := Lib.hid (boxed3_state w 1 n A 0 c)
  have HZ := Lib.hid (boxed3_then w 1 n A 0 c)
  have HR := Lib.hid (boxed3_ret w 1 n A 0 c)
  have hsz := boxed3_size w 1 n A 0 c
  have H := check_cn n A c (boxed3 w 1 n A 0 c)
  unfold stV
  go_enter Tryz.func34, Tryz.ntmps34
  go_wp2_with fail
  refine H.mono ?_
  rintro e w1 ⟨rfl, hB1⟩
  generalize boxed3 w 1 n A 0 c = W0 at *
  have HW1 := Lib.hid (HW.out.below hB1 (by omega))
  have HZ1 := Lib.hid (HZ.out.below hB1 (by omega))
  have HR1 := Lib.hid (HR.out.below hB1 (by omega))
  have s1 := HW1.out.c (j := 1) rfl
  have hBw := nxt hB0 hB1 (by omega)
  have hlt1 : w.heap.size + 1 + 1 < w1.heap.size := HR1.out.lt
  clear hsz hB0 hB1
  go_wp2_with fail
  refine (add_yes n a w1).mono ?_
  rintro e w2 ⟨rfl, hB2⟩
  unfold tri retV
  replace HZ1 := Lib.hid ((HZ1.out.below hB2 (by omega)).alloc (.cells #[.int .i64 0, .int .i64 0] 26))
  replace HR1 := Lib.hid ((HR1.out.below hB2 (by omega)).alloc (.cells #[.int .i64 0, .int .i64 0] 26))
  have hBx := nxt (nxt hBw hB2 (by omega)) (alloc1 w2 (.cells #[.int .i64 0, .int .i64 0] 26)) (by have := hB2.size; omega)
  have z0 := HZ1.out.c (j := 0) rfl
  have z1 := HZ1.out.c (j := 1) rfl
  have z2 := HZ1.out.c (j := 2) rfl
  have r0 := HR1.out.c (j := 0) rfl
  have r1 := HR1.out.c (j := 1) rfl
  have y0 := HZ1.out.frozen 0
  have y1 := HZ1.out.frozen 1
  have y2 := HZ1.out.frozen 2
  have x0 := HR1.out.frozen 0
  have x1 := HR1.out.frozen 1
  have HX3 := Holds.new w2 26 #[.int .i64 0, .int .i64 0]
  have p0 := HX3.c (j := 0) rfl
  have p1 := HX3.c (j := 1) rfl
  have hs2 := hB2.size
  have n1 : w.heap.size + 1 ≠ w2.heap.size := by omega
  have n2 : w.heap.size + 1 + 1 ≠ w2.heap.size := by omega
  go_wp2_with fail
  generalize (w2.alloc (.cells #[.int .i64 0, .int .i64 0] 26)) = W3 at *
  go_cut [10] from 52 to 55 (fun s10 wx => s10 = .int .i64 0 ∧ wx = filled W3.drew (w.heap.size + 1) 1 (wrap64 (n + a)) (.slice none 0 0) 0 0)
  case first =>
    go_region
    all_goals (go_wp2_with fail; go_meet; exact ⟨rfl, rfl⟩)
  case rest =>
    obtain ⟨rfl, rfl⟩ := hcut
    obtain ⟨HZ2, HR2, hB3⟩ := filled_holds (m := w.heap.size) (HZ1.out.of (W' := W3.drew) rfl) (HR1.out.of (W' := W3.drew) rfl) (by omega) 1 (wrap64 (n + a)) (.slice none 0 0) 0 0
    generalize filled W3.drew (w.heap.size + 1) 1 (wrap64 (n + a)) (.slice none 0 0) 0 0 = W4 at *
    have k0 := HZ2.c (j := 0) rfl
    have k1 := HZ2.c (j := 1) rfl
    have k2 := HZ2.c (j := 2) rfl
    have q0 := HR2.c (j := 0) rfl
    have q1 := HR2.c (j := 1) rfl
    go_wp2
    refine bodyPost_ret (v := ansV 1 (wrap64 (n + a)) 0 0 0) (by simp [results, Tryz.f34, go_sem, ansV, stV, retV, k0, k1, k2, q0, q1]) rfl ?_
    exact ⟨rfl, nxt hBx.drew hB3 (Nat.le_refl _)⟩
set_option maxHeartbeats 1000000 in
theorem apply_read_no (n : Int) (A : Option Addr) (c : Nat) (a b : Int) (w : World) (h : a ≠ 0 ∨ b ≠ 0) :
    Calls Tryz.prog 34 #[stV 1 n A 0 c, .int .i64 2, .int .i64 a, .int .i64 b] w (Says (ansV 0 0 0 0 2) w) := by
  have hB0 := boxed3_below w 1 n A 0 c
  have HW := Lib.hid (boxed3_state w 1 n A 0 c)
  have HZ := Lib.hid (boxed3_then w 1 n A 0 c)
  have HR := Lib.hid (boxed3_ret w 1 n A 0 c)
  have hsz := boxed3_size w 1 n A 0 c
  have H := check_cn n A c (boxed3 w 1 n A 0 c)
  unfold stV
  go_enter Tryz.func34, Tryz.ntmps34
  go_wp2_with fail
  refine H.mono ?_
  rintro e w1 ⟨rfl, hB1⟩
  generalize boxed3 w 1 n A 0 c = W0 at *
  have HW1 := Lib.hid (HW.out.below hB1 (by omega))
  have HZ1 := Lib.hid (HZ.out.below hB1 (by omega))
  have HR1 := Lib.hid (HR.out.below hB1 (by omega))
  have s1 := HW1.out.c (j := 1) rfl
  have hBw := nxt hB0 hB1 (by omega)
  have hlt1 : w.heap.size + 1 + 1 < w1.heap.size := HR1.out.lt
  clear hsz hB0 hB1
  go_wp2_with fail
  refine (read_no n a b w1 h).mono ?_
  rintro e w2 ⟨rfl, hB2⟩
  unfold tri retV
  replace HZ1 := Lib.hid ((HZ1.out.below hB2 (by omega)).alloc (.cells #[.int .i64 0, .int .i64 0] 26))
  replace HR1 := Lib.hid ((HR1.out.below hB2 (by omega)).alloc (.cells #[.int .i64 0, .int .i64 0] 26))
  have hBx := nxt (nxt hBw hB2 (by omega)) (alloc1 w2 (.cells #[.int .i64 0, .int .i64 0] 26)) (by have := hB2.size; omega)
  have z0 := HZ1.out.c (j := 0) rfl
  have z1 := HZ1.out.c (j := 1) rfl
  have z2 := HZ1.out.c (j := 2) rfl
  have r0 := HR1.out.c (j := 0) rfl
  have r1 := HR1.out.c (j := 1) rfl
  have y0 := HZ1.out.frozen 0
  have y1 := HZ1.out.frozen 1
  have y2 := HZ1.out.frozen 2
  have x0 := HR1.out.frozen 0
  have x1 := HR1.out.frozen 1
  go_wp2
  obtain ⟨HZ2, HR2, hB3⟩ := filled_holds (m := w.heap.size) HZ1.out HR1.out (by omega) 0 0 (.slice none 0 0) 0 0
  have k0 := HZ2.c (j := 0) rfl
  have k1 := HZ2.c (j := 1) rfl
  have k2 := HZ2.c (j := 2) rfl
  have q0 := HR2.c (j := 0) rfl
  have q1 := HR2.c (j := 1) rfl
  change bodyPost _ _ _ _ _ (filled (w2.alloc (.cells #[.int .i64 0, .int .i64 0] 26)) (w.heap.size + 1) 0 0 (.slice none 0 0) 0 0)
  generalize filled (w2.alloc (.cells #[.int .i64 0, .int .i64 0] 26)) (w.heap.size + 1) 0 0 (.slice none 0 0) 0 0 = W2 at *
  refine bodyPost_ret (v := ansV 0 0 0 0 2) (by simp [results, Tryz.f34, go_sem, ansV, stV, retV, k0, k1, k2, q0, q1]) rfl ?_
  exact ⟨rfl, nxt hBx hB3 (Nat.le_refl _)⟩
set_option maxHeartbeats 1000000 in
theorem apply_read (n : Int) (A : Option Addr) (c : Nat) (w : World)  :
    Calls Tryz.prog 34 #[stV 1 n A 0 c, .int .i64 2, .int .i64 0, .int .i64 0] w (Says (ansV 1 n 2 n 0) w) := by
  have hB0 := boxed3_below w 1 n A 0 c
  have HW := Lib.hid (boxed3_state w 1 n A 0 c)
  have HZ := Lib.hid (boxed3_then w 1 n A 0 c)
  have HR := Lib.hid (boxed3_ret w 1 n A 0 c)
  have hsz := boxed3_size w 1 n A 0 c
  have H := check_cn n A c (boxed3 w 1 n A 0 c)
  unfold stV
  go_enter Tryz.func34, Tryz.ntmps34
  go_wp2_with fail
  refine H.mono ?_
  rintro e w1 ⟨rfl, hB1⟩
  generalize boxed3 w 1 n A 0 c = W0 at *
  have HW1 := Lib.hid (HW.out.below hB1 (by omega))
  have HZ1 := Lib.hid (HZ.out.below hB1 (by omega))
  have HR1 := Lib.hid (HR.out.below hB1 (by omega))
  have s1 := HW1.out.c (j := 1) rfl
  have hBw := nxt hB0 hB1 (by omega)
  have hlt1 : w.heap.size + 1 + 1 < w1.heap.size := HR1.out.lt
  clear hsz hB0 hB1
  go_wp2_with fail
  refine (read_yes n w1).mono ?_
  rintro e w2 ⟨rfl, hB2⟩
  unfold tri retV
  replace HZ1 := Lib.hid ((HZ1.out.below hB2 (by omega)).alloc (.cells #[.int .i64 2, .int .i64 n] 26))
  replace HR1 := Lib.hid ((HR1.out.below hB2 (by omega)).alloc (.cells #[.int .i64 2, .int .i64 n] 26))
  have hBx := nxt (nxt hBw hB2 (by omega)) (alloc1 w2 (.cells #[.int .i64 2, .int .i64 n] 26)) (by have := hB2.size; omega)
  have z0 := HZ1.out.c (j := 0) rfl
  have z1 := HZ1.out.c (j := 1) rfl
  have z2 := HZ1.out.c (j := 2) rfl
  have r0 := HR1.out.c (j := 0) rfl
  have r1 := HR1.out.c (j := 1) rfl
  have y0 := HZ1.out.frozen 0
  have y1 := HZ1.out.frozen 1
  have y2 := HZ1.out.frozen 2
  have x0 := HR1.out.frozen 0
  have x1 := HR1.out.frozen 1
  have HX3 := Holds.new w2 26 #[.int .i64 2, .int .i64 n]
  have p0 := HX3.c (j := 0) rfl
  have p1 := HX3.c (j := 1) rfl
  have hs2 := hB2.size
  have n1 : w.heap.size + 1 ≠ w2.heap.size := by omega
  have n2 : w.heap.size + 1 + 1 ≠ w2.heap.size := by omega
  go_wp2_with fail
  generalize (w2.alloc (.cells #[.int .i64 2, .int .i64 n] 26)) = W3 at *
  go_cut [10] from 52 to 55 (fun s10 wx => s10 = .int .i64 0 ∧ wx = filled W3.drew (w.heap.size + 1) 1 n (.slice none 0 0) 2 n)
  case first =>
    go_region
    all_goals (go_wp2_with fail; go_meet; exact ⟨rfl, rfl⟩)
  case rest =>
    obtain ⟨rfl, rfl⟩ := hcut
    obtain ⟨HZ2, HR2, hB3⟩ := filled_holds (m := w.heap.size) (HZ1.out.of (W' := W3.drew) rfl) (HR1.out.of (W' := W3.drew) rfl) (by omega) 1 n (.slice none 0 0) 2 n
    generalize filled W3.drew (w.heap.size + 1) 1 n (.slice none 0 0) 2 n = W4 at *
    have k0 := HZ2.c (j := 0) rfl
    have k1 := HZ2.c (j := 1) rfl
    have k2 := HZ2.c (j := 2) rfl
    have q0 := HR2.c (j := 0) rfl
    have q1 := HR2.c (j := 1) rfl
    go_wp2
    refine bodyPost_ret (v := ansV 1 n 2 n 0) (by simp [results, Tryz.f34, go_sem, ansV, stV, retV, k0, k1, k2, q0, q1]) rfl ?_
    exact ⟨rfl, nxt hBx.drew hB3 (Nat.le_refl _)⟩
end Go.Proofs.YtmclpganipfadaaGreatDoor

namespace Go.Proofs.YtmclpganipfadaaGreatDoor
open Go.RowKit Go.Maps
set_option linter.unusedVariables false

theorem rapply_state (t n : Int) (A : Option Addr) (c : Nat) (l : List Int) (kd a b : Int) (w : World) (h : t ≠ 1) :
    Calls Tryz.prog 25 #[stV t n A l.length c, .int .i64 kd, .int .i64 a, .int .i64 b] w (Says (ansV 0 0 0 0 12) w) := by
  have ht : (t != 1) = true := by rw [bne_iff_ne]; exact h
  clear h
  unfold stV
  go_enter Tryz.func25, Tryz.ntmps25
  go_wp2
  refine bodyPost_ret (v := ansV 0 0 0 0 12) (by simp [results, Tryz.f25, go_sem, ansV, stV, retV]) rfl ?_
  exact ⟨rfl, boxed3_below w _ _ _ _ _⟩
theorem rcheck_cn (n : Int) (A : Option Addr) (c : Nat) (w : World) : Calls Tryz.prog 39 #[.agg #[.int .i64 1, .int .i64 n, .slice A 0 c]] w (Says (.int .i64 0) w) := rcheck_any 1 n A c [] w (ints_nil _ _) (by simp)
set_option maxHeartbeats 1000000 in
theorem rapply_form (n : Int) (A : Option Addr) (c : Nat) (l : List Int) (kd a b : Int) (w : World) (hA : Ints w A l) (hlen : l.length ≤ 1000) (h : l ≠ []) :
    Calls Tryz.prog 25 #[stV 1 n A l.length c, .int .i64 kd, .int .i64 a, .int .i64 b] w (Says (ansV 0 0 0 0 12) w) := by
  have H := rcheck_any 1 n A c l _ (hA.below (boxed3_below w 1 n A l.length c)) hlen
  have hc : checkE 1 n l = 5 := by simp [checkE, fitsB, h]
  rw [hc] at H
  clear h hc hA
  have hB0 := boxed3_below w 1 n A l.length c
  have HW := Lib.hid (boxed3_state w 1 n A l.length c)
  have HZ := Lib.hid (boxed3_then w 1 n A l.length c)
  have HR := Lib.hid (boxed3_ret w 1 n A l.length c)
  have hsz := boxed3_size w 1 n A l.length c
  unfold stV at *
  go_enter Tryz.func25, Tryz.ntmps25
  go_wp2_with fail
  refine H.mono ?_
  rintro e w1 ⟨rfl, hB1⟩
  generalize boxed3 w 1 n A l.length c = W0 at *
  have HW1 := Lib.hid (HW.out.below hB1 (by omega))
  have HZ1 := Lib.hid (HZ.out.below hB1 (by omega))
  have HR1 := Lib.hid (HR.out.below hB1 (by omega))
  have s1 := HW1.out.c (j := 1) rfl
  have hBw := nxt hB0 hB1 (by omega)
  clear hsz hB0 hB1
  have z0 := HZ1.out.c (j := 0) rfl
  have z1 := HZ1.out.c (j := 1) rfl
  have z2 := HZ1.out.c (j := 2) rfl
  have r0 := HR1.out.c (j := 0) rfl
  have r1 := HR1.out.c (j := 1) rfl
  have y0 := HZ1.out.frozen 0
  have y1 := HZ1.out.frozen 1
  have y2 := HZ1.out.frozen 2
  have x0 := HR1.out.frozen 0
  have x1 := HR1.out.frozen 1
  go_wp2
  obtain ⟨HZ2, HR2, hB3⟩ := filled_holds (m := w.heap.size) HZ1.out HR1.out (by omega) 0 0 (.slice none 0 0) 0 0
  have k0 := HZ2.c (j := 0) rfl
  have k1 := HZ2.c (j := 1) rfl
  have k2 := HZ2.c (j := 2) rfl
  have q0 := HR2.c (j := 0) rfl
  have q1 := HR2.c (j := 1) rfl
  change bodyPost _ _ _ _ _ (filled w1 (w.heap.size + 1) 0 0 (.slice none 0 0) 0 0)
  generalize filled w1 (w.heap.size + 1) 0 0 (.slice none 0 0) 0 0 = W2 at *
  refine bodyPost_ret (v := ansV 0 0 0 0 12) (by simp [results, Tryz.f25, go_sem, ansV, stV, retV, k0, k1, k2, q0, q1]) rfl ?_
  exact ⟨rfl, nxt hBw hB3 (Nat.le_refl _)⟩
set_option maxHeartbeats 1000000 in
theorem rapply_word (n : Int) (A : Option Addr) (c : Nat) (kd a b : Int) (w : World) (h1 : kd ≠ 1) (h2 : kd ≠ 2) :
    Calls Tryz.prog 25 #[stV 1 n A 0 c, .int .i64 kd, .int .i64 a, .int .i64 b] w (Says (ansV 0 0 0 0 6) w) := by
  have H := rcheck_cn n A c (boxed3 w 1 n A 0 c)
  have k1 : (kd != 1) = true := bne_iff_ne.2 h1
  have k2 : (kd != 2) = true := bne_iff_ne.2 h2
  clear h1 h2
  have hB0 := boxed3_below w 1 n A 0 c
  have HW := Lib.hid (boxed3_state w 1 n A 0 c)
  have HZ := Lib.hid (boxed3_then w 1 n A 0 c)
  have HR := Lib.hid (boxed3_ret w 1 n A 0 c)
  have hsz := boxed3_size w 1 n A 0 c
  unfold stV at *
  go_enter Tryz.func25, Tryz.ntmps25
  go_wp2_with fail
  refine H.mono ?_
  rintro e w1 ⟨rfl, hB1⟩
  generalize boxed3 w 1 n A 0 c = W0 at *
  have HW1 := Lib.hid (HW.out.below hB1 (by omega))
  have HZ1 := Lib.hid (HZ.out.below hB1 (by omega))
  have HR1 := Lib.hid (HR.out.below hB1 (by omega))
  have s1 := HW1.out.c (j := 1) rfl
  have hBw := nxt hB0 hB1 (by omega)
  clear hsz hB0 hB1
  have z0 := HZ1.out.c (j := 0) rfl
  have z1 := HZ1.out.c (j := 1) rfl
  have z2 := HZ1.out.c (j := 2) rfl
  have r0 := HR1.out.c (j := 0) rfl
  have r1 := HR1.out.c (j := 1) rfl
  have y0 := HZ1.out.frozen 0
  have y1 := HZ1.out.frozen 1
  have y2 := HZ1.out.frozen 2
  have x0 := HR1.out.frozen 0
  have x1 := HR1.out.frozen 1
  go_wp2
  obtain ⟨HZ2, HR2, hB3⟩ := filled_holds (m := w.heap.size) HZ1.out HR1.out (by omega) 0 0 (.slice none 0 0) 0 0
  have k0 := HZ2.c (j := 0) rfl
  have k1 := HZ2.c (j := 1) rfl
  have k2 := HZ2.c (j := 2) rfl
  have q0 := HR2.c (j := 0) rfl
  have q1 := HR2.c (j := 1) rfl
  change bodyPost _ _ _ _ _ (filled w1 (w.heap.size + 1) 0 0 (.slice none 0 0) 0 0)
  generalize filled w1 (w.heap.size + 1) 0 0 (.slice none 0 0) 0 0 = W2 at *
  refine bodyPost_ret (v := ansV 0 0 0 0 6) (by simp [results, Tryz.f25, go_sem, ansV, stV, retV, k0, k1, k2, q0, q1]) rfl ?_
  exact ⟨rfl, nxt hBw hB3 (Nat.le_refl _)⟩
set_option maxHeartbeats 1000000 in
theorem rapply_add_no (n : Int) (A : Option Addr) (c : Nat) (a b : Int) (w : World) (h : b ≠ 0) :
    Calls Tryz.prog 25 #[stV 1 n A 0 c, .int .i64 1, .int .i64 a, .int .i64 b] w (Says (ansV 0 0 0 0 2) w) := by
  have H := rcheck_cn n A c (boxed3 w 1 n A 0 c)
  have k1 : (b != 0) = true := bne_iff_ne.2 h
  clear h
  have hB0 := boxed3_below w 1 n A 0 c
  have HW := Lib.hid (boxed3_state w 1 n A 0 c)
  have HZ := Lib.hid (boxed3_then w 1 n A 0 c)
  have HR := Lib.hid (boxed3_ret w 1 n A 0 c)
  have hsz := boxed3_size w 1 n A 0 c
  unfold stV at *
  go_enter Tryz.func25, Tryz.ntmps25
  go_wp2_with fail
  refine H.mono ?_
  rintro e w1 ⟨rfl, hB1⟩
  generalize boxed3 w 1 n A 0 c = W0 at *
  have HW1 := Lib.hid (HW.out.below hB1 (by omega))
  have HZ1 := Lib.hid (HZ.out.below hB1 (by omega))
  have HR1 := Lib.hid (HR.out.below hB1 (by omega))
  have s1 := HW1.out.c (j := 1) rfl
  have hBw := nxt hB0 hB1 (by omega)
  clear hsz hB0 hB1
  have z0 := HZ1.out.c (j := 0) rfl
  have z1 := HZ1.out.c (j := 1) rfl
  have z2 := HZ1.out.c (j := 2) rfl
  have r0 := HR1.out.c (j := 0) rfl
  have r1 := HR1.out.c (j := 1) rfl
  have y0 := HZ1.out.frozen 0
  have y1 := HZ1.out.frozen 1
  have y2 := HZ1.out.frozen 2
  have x0 := HR1.out.frozen 0
  have x1 := HR1.out.frozen 1
  go_wp2
  obtain ⟨HZ2, HR2, hB3⟩ := filled_holds (m := w.heap.size) HZ1.out HR1.out (by omega) 0 0 (.slice none 0 0) 0 0
  have k0 := HZ2.c (j := 0) rfl
  have k1 := HZ2.c (j := 1) rfl
  have k2 := HZ2.c (j := 2) rfl
  have q0 := HR2.c (j := 0) rfl
  have q1 := HR2.c (j := 1) rfl
  change bodyPost _ _ _ _ _ (filled w1 (w.heap.size + 1) 0 0 (.slice none 0 0) 0 0)
  generalize filled w1 (w.heap.size + 1) 0 0 (.slice none 0 0) 0 0 = W2 at *
  refine bodyPost_ret (v := ansV 0 0 0 0 2) (by simp [results, Tryz.f25, go_sem, ansV, stV, retV, k0, k1, k2, q0, q1]) rfl ?_
  exact ⟨rfl, nxt hBw hB3 (Nat.le_refl _)⟩
set_option maxHeartbeats 1000000 in
theorem rapply_read_no (n : Int) (A : Option Addr) (c : Nat) (a b : Int) (w : World) (h : b ≠ 0) :
    Calls Tryz.prog 25 #[stV 1 n A 0 c, .int .i64 2, .int .i64 a, .int .i64 b] w (Says (ansV 0 0 0 0 2) w) := by
  have H := rcheck_cn n A c (boxed3 w 1 n A 0 c)
  have k1 : (b != 0) = true := bne_iff_ne.2 h
  clear h
  have hB0 := boxed3_below w 1 n A 0 c
  have HW := Lib.hid (boxed3_state w 1 n A 0 c)
  have HZ := Lib.hid (boxed3_then w 1 n A 0 c)
  have HR := Lib.hid (boxed3_ret w 1 n A 0 c)
  have hsz := boxed3_size w 1 n A 0 c
  unfold stV at *
  go_enter Tryz.func25, Tryz.ntmps25
  go_wp2_with fail
  refine H.mono ?_
  rintro e w1 ⟨rfl, hB1⟩
  generalize boxed3 w 1 n A 0 c = W0 at *
  have HW1 := Lib.hid (HW.out.below hB1 (by omega))
  have HZ1 := Lib.hid (HZ.out.below hB1 (by omega))
  have HR1 := Lib.hid (HR.out.below hB1 (by omega))
  have s1 := HW1.out.c (j := 1) rfl
  have hBw := nxt hB0 hB1 (by omega)
  clear hsz hB0 hB1
  have z0 := HZ1.out.c (j := 0) rfl
  have z1 := HZ1.out.c (j := 1) rfl
  have z2 := HZ1.out.c (j := 2) rfl
  have r0 := HR1.out.c (j := 0) rfl
  have r1 := HR1.out.c (j := 1) rfl
  have y0 := HZ1.out.frozen 0
  have y1 := HZ1.out.frozen 1
  have y2 := HZ1.out.frozen 2
  have x0 := HR1.out.frozen 0
  have x1 := HR1.out.frozen 1
  go_wp2
  obtain ⟨HZ2, HR2, hB3⟩ := filled_holds (m := w.heap.size) HZ1.out HR1.out (by omega) 0 0 (.slice none 0 0) 0 0
  have k0 := HZ2.c (j := 0) rfl
  have k1 := HZ2.c (j := 1) rfl
  have k2 := HZ2.c (j := 2) rfl
  have q0 := HR2.c (j := 0) rfl
  have q1 := HR2.c (j := 1) rfl
  change bodyPost _ _ _ _ _ (filled w1 (w.heap.size + 1) 0 0 (.slice none 0 0) 0 0)
  generalize filled w1 (w.heap.size + 1) 0 0 (.slice none 0 0) 0 0 = W2 at *
  refine bodyPost_ret (v := ansV 0 0 0 0 2) (by simp [results, Tryz.f25, go_sem, ansV, stV, retV, k0, k1, k2, q0, q1]) rfl ?_
  exact ⟨rfl, nxt hBw hB3 (Nat.le_refl _)⟩
set_option maxHeartbeats 1000000 in
theorem rapply_read_no2 (n : Int) (A : Option Addr) (c : Nat) (a : Int) (w : World) (h : a ≠ 0) :
    Calls Tryz.prog 25 #[stV 1 n A 0 c, .int .i64 2, .int .i64 a, .int .i64 0] w (Says (ansV 0 0 0 0 2) w) := by
  have H := rcheck_cn n A c (boxed3 w 1 n A 0 c)
  have k1 : (a != 0) = true := bne_iff_ne.2 h
  clear h
  have hB0 := boxed3_below w 1 n A 0 c
  have HW := Lib.hid (boxed3_state w 1 n A 0 c)
  have HZ := Lib.hid (boxed3_then w 1 n A 0 c)
  have HR := Lib.hid (boxed3_ret w 1 n A 0 c)
  have hsz := boxed3_size w 1 n A 0 c
  unfold stV at *
  go_enter Tryz.func25, Tryz.ntmps25
  go_wp2_with fail
  refine H.mono ?_
  rintro e w1 ⟨rfl, hB1⟩
  generalize boxed3 w 1 n A 0 c = W0 at *
  have HW1 := Lib.hid (HW.out.below hB1 (by omega))
  have HZ1 := Lib.hid (HZ.out.below hB1 (by omega))
  have HR1 := Lib.hid (HR.out.below hB1 (by omega))
  have s1 := HW1.out.c (j := 1) rfl
  have hBw := nxt hB0 hB1 (by omega)
  clear hsz hB0 hB1
  have z0 := HZ1.out.c (j := 0) rfl
  have z1 := HZ1.out.c (j := 1) rfl
  have z2 := HZ1.out.c (j := 2) rfl
  have r0 := HR1.out.c (j := 0) rfl
  have r1 := HR1.out.c (j := 1) rfl
  have y0 := HZ1.out.frozen 0
  have y1 := HZ1.out.frozen 1
  have y2 := HZ1.out.frozen 2
  have x0 := HR1.out.frozen 0
  have x1 := HR1.out.frozen 1
  go_wp2
  obtain ⟨HZ2, HR2, hB3⟩ := filled_holds (m := w.heap.size) HZ1.out HR1.out (by omega) 0 0 (.slice none 0 0) 0 0
  have k0 := HZ2.c (j := 0) rfl
  have k1 := HZ2.c (j := 1) rfl
  have k2 := HZ2.c (j := 2) rfl
  have q0 := HR2.c (j := 0) rfl
  have q1 := HR2.c (j := 1) rfl
  change bodyPost _ _ _ _ _ (filled w1 (w.heap.size + 1) 0 0 (.slice none 0 0) 0 0)
  generalize filled w1 (w.heap.size + 1) 0 0 (.slice none 0 0) 0 0 = W2 at *
  refine bodyPost_ret (v := ansV 0 0 0 0 2) (by simp [results, Tryz.f25, go_sem, ansV, stV, retV, k0, k1, k2, q0, q1]) rfl ?_
  exact ⟨rfl, nxt hBw hB3 (Nat.le_refl _)⟩
end Go.Proofs.YtmclpganipfadaaGreatDoor

namespace Go.Proofs.YtmclpganipfadaaGreatDoor
open Go.RowKit Go.Maps
set_option linter.unusedVariables false

set_option maxHeartbeats 1000000 in
theorem rapply_read (n : Int) (A : Option Addr) (c : Nat) (w : World)  :
    Calls Tryz.prog 25 #[stV 1 n A 0 c, .int .i64 2, .int .i64 0, .int .i64 0] w (Says (ansV 1 n 2 n 0) w) := by
  have H := rcheck_cn n A c (boxed3 w 1 n A 0 c)
  have hB0 := boxed3_below w 1 n A 0 c
  have HW := Lib.hid (boxed3_state w 1 n A 0 c)
  have HZ := Lib.hid (boxed3_then w 1 n A 0 c)
  have HR := Lib.hid (boxed3_ret w 1 n A 0 c)
  have hsz := boxed3_size w 1 n A 0 c
  unfold stV at *
  go_enter Tryz.func25, Tryz.ntmps25
  go_wp2_with fail
  refine H.mono ?_
  rintro e w1 ⟨rfl, hB1⟩
  generalize boxed3 w 1 n A 0 c = W0 at *
  have HW1 := Lib.hid (HW.out.below hB1 (by omega))
  have HZ1 := Lib.hid (HZ.out.below hB1 (by omega))
  have HR1 := Lib.hid (HR.out.below hB1 (by omega))
  have s1 := HW1.out.c (j := 1) rfl
  have hBw := nxt hB0 hB1 (by omega)
  clear hsz hB0 hB1
  have z0 := HZ1.out.c (j := 0) rfl
  have z1 := HZ1.out.c (j := 1) rfl
  have z2 := HZ1.out.c (j := 2) rfl
  have r0 := HR1.out.c (j := 0) rfl
  have r1 := HR1.out.c (j := 1) rfl
  have y0 := HZ1.out.frozen 0
  have y1 := HZ1.out.frozen 1
  have y2 := HZ1.out.frozen 2
  have x0 := HR1.out.frozen 0
  have x1 := HR1.out.frozen 1
  have n1 : w.heap.size ≠ w.heap.size + 1 := by omega
  have n2 : w.heap.size ≠ w.heap.size + 1 + 1 := by omega
  go_wp2_with fail
  go_cut [10] from 47 to 53 (fun s10 wx => s10 = .int .i64 0 ∧ wx = filled w1.drew (w.heap.size + 1) 1 n (.slice none 0 0) 2 n)
  case first =>
    go_region
    all_goals (go_wp2_with fail; go_meet; exact ⟨rfl, rfl⟩)
  case rest =>
    obtain ⟨rfl, rfl⟩ := hcut
    obtain ⟨HZ2, HR2, hB3⟩ := filled_holds (m := w.heap.size) (HZ1.out.of (W' := w1.drew) rfl) (HR1.out.of (W' := w1.drew) rfl) (by omega) 1 n (.slice none 0 0) 2 n
    generalize filled w1.drew (w.heap.size + 1) 1 n (.slice none 0 0) 2 n = W4 at *
    have k0 := HZ2.c (j := 0) rfl
    have k1 := HZ2.c (j := 1) rfl
    have k2 := HZ2.c (j := 2) rfl
    have q0 := HR2.c (j := 0) rfl
    have q1 := HR2.c (j := 1) rfl
    go_wp2
    refine bodyPost_ret (v := ansV 1 n 2 n 0) (by simp [results, Tryz.f25, go_sem, ansV, stV, retV, k0, k1, k2, q0, q1]) rfl ?_
    exact ⟨rfl, nxt hBw.drew hB3 (Nat.le_refl _)⟩
set_option maxHeartbeats 1000000 in
theorem rapply_add (n : Int) (A : Option Addr) (c : Nat) (a : Int) (w : World)  :
    Calls Tryz.prog 25 #[stV 1 n A 0 c, .int .i64 1, .int .i64 a, .int .i64 0] w (Says (ansV 1 (wrap64 (n + a)) 0 0 0) w) := by
  have H := rcheck_cn n A c (boxed3 w 1 n A 0 c)
  have hB0 := boxed3_below w 1 n A 0 c
  have HW := Lib.hid (boxed3_state w 1 n A 0 c)
  have HZ := Lib.hid (boxed3_then w 1 n A 0 c)
  have HR := Lib.hid (boxed3_ret w 1 n A 0 c)
  have hsz := boxed3_size w 1 n A 0 c
  unfold stV at *
  go_enter Tryz.func25, Tryz.ntmps25
  go_wp2_with fail
  refine H.mono ?_
  rintro e w1 ⟨rfl, hB1⟩
  generalize boxed3 w 1 n A 0 c = W0 at *
  have HW1 := Lib.hid (HW.out.below hB1 (by omega))
  have HZ1 := Lib.hid (HZ.out.below hB1 (by omega))
  have HR1 := Lib.hid (HR.out.below hB1 (by omega))
  have s1 := HW1.out.c (j := 1) rfl
  have hBw := nxt hB0 hB1 (by omega)
  clear hsz hB0 hB1
  have z0 := HZ1.out.c (j := 0) rfl
  have z1 := HZ1.out.c (j := 1) rfl
  have z2 := HZ1.out.c (j := 2) rfl
  have r0 := HR1.out.c (j := 0) rfl
  have r1 := HR1.out.c (j := 1) rfl
  have y0 := HZ1.out.frozen 0
  have y1 := HZ1.out.frozen 1
  have y2 := HZ1.out.frozen 2
  have x0 := HR1.out.frozen 0
  have x1 := HR1.out.frozen 1
  go_wp2
  rw [rwrap_eq]
  obtain ⟨HZ2, HR2, hB3⟩ := filled_holds (m := w.heap.size) HZ1.out HR1.out (by omega) 1 (wrap64 (n + a)) (.slice none 0 0) 0 0
  have k0 := HZ2.c (j := 0) rfl
  have k1 := HZ2.c (j := 1) rfl
  have k2 := HZ2.c (j := 2) rfl
  have q0 := HR2.c (j := 0) rfl
  have q1 := HR2.c (j := 1) rfl
  change bodyPost _ _ _ _ _ (filled w1 (w.heap.size + 1) 1 (wrap64 (n + a)) (.slice none 0 0) 0 0)
  generalize filled w1 (w.heap.size + 1) 1 (wrap64 (n + a)) (.slice none 0 0) 0 0 = W2 at *
  refine bodyPost_ret (v := ansV 1 (wrap64 (n + a)) 0 0 0) (by simp [results, Tryz.f25, go_sem, ansV, stV, retV, k0, k1, k2, q0, q1]) rfl ?_
  exact ⟨rfl, nxt hBw hB3 (Nat.le_refl _)⟩
end Go.Proofs.YtmclpganipfadaaGreatDoor
