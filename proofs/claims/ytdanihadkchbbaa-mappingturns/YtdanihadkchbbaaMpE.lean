/- Contracts of the layer mapping: Apply's refusals. (Written by wip/tools/gen_mpe.py.) -/
import Derived.Test.YtdanihadkchbbaaMpD
import Derived.Test.YtdanihadkchbbaaCnA
namespace Go.Proofs.Ytdanihadkchbbaa
open Go.RowKit Go.Maps
set_option linter.unusedVariables false

theorem fits_map (n : Int) (l : List Int) : fitsB 3 n l = true ↔ n = 0 ∧ krise l := by
  rw [← krise_iff]
  unfold fitsB
  simp [and_assoc]
theorem check_map {l : List Int} (h : krise l) : checkE 3 0 l = 0 := by
  unfold checkE; rw [if_neg (by omega), if_pos ((fits_map 0 l).2 ⟨rfl, h⟩)]
theorem check_no_map {n : Int} {l : List Int} (h : ¬ (n = 0 ∧ krise l)) : checkE 3 n l = 5 := by
  unfold checkE; rw [if_neg (by omega), if_neg (fun e => h ((fits_map n l).1 e))]

theorem mapply_state (t n : Int) (A : Option Addr) (c : Nat) (l : List Int) (kd a b : Int) (w : World) (h : t ≠ 3) :
    Calls Try.prog 20 #[stV t n A l.length c, .int .i64 kd, .int .i64 a, .int .i64 b] w (SetPost 0 [] 0 0 12 w) := by
  have ht : (t != 3) = true := by rw [bne_iff_ne]; exact h
  clear h
  unfold stV
  go_enter Try.func20, Try.ntmps20
  go_wp2
  refine bodyPost_ret (v := ansV 0 0 0 0 12) (by simp [results, Try.f20, go_sem, ansV, stV, retV]) rfl ?_
  exact set_none _ _ _ (boxed3_below w _ _ _ _ _)
set_option maxHeartbeats 1000000 in
theorem mapply_form (n : Int) (A : Option Addr) (c : Nat) (l : List Int) (kd a b : Int) (w : World) (hA : Ints w A l) (hlen : l.length ≤ 1000) (h : ¬ (n = 0 ∧ krise l)) :
    Calls Try.prog 20 #[stV 3 n A l.length c, .int .i64 kd, .int .i64 a, .int .i64 b] w (SetPost 0 [] 0 0 12 w) := by
  have hB0 := boxed3_below w 3 n A l.length c
  have H := check_any 3 n A c l _ (hA.below hB0) hlen
  have hc : checkE 3 n l = 5 := by
    exact check_no_map h
  rw [hc] at H
  clear h
  have HZ := Lib.hid (boxed3_then w 3 n A l.length c)
  have HR := Lib.hid (boxed3_ret w 3 n A l.length c)
  have hsz := boxed3_size w 3 n A l.length c
  clear hc hA
  unfold stV at *
  go_enter Try.func20, Try.ntmps20
  go_wp2_with fail
  refine H.mono ?_
  rintro e w1 ⟨rfl, hB1⟩
  generalize boxed3 w 3 n A l.length c = W0 at *
  have HZ1 := Lib.hid (HZ.out.below hB1 (by omega))
  have HR1 := Lib.hid (HR.out.below hB1 (by omega))
  have z0 := HZ1.out.c (j := 0) rfl
  have z1 := HZ1.out.c (j := 1) rfl
  have z2 := HZ1.out.c (j := 2) rfl
  have r0 := HR1.out.c (j := 0) rfl
  have r1 := HR1.out.c (j := 1) rfl
  have y0 := HZ1.out.frozen 0
  have y1 := HZ1.out.frozen 1
  have y2 := HZ1.out.frozen 2
  have x0 := HR1.out.frozen 0
  have x1 := HR1.out.frozen 1
  have hBw := nxt hB0 hB1 (by omega)
  clear hsz
  go_wp2
  obtain ⟨HZ2, HR2, hB2⟩ := filled_holds (m := w.heap.size) HZ1.out HR1.out (by omega) 0 0 (.slice none 0 0) 0 0
  have k0 := HZ2.c (j := 0) rfl
  have k1 := HZ2.c (j := 1) rfl
  have k2 := HZ2.c (j := 2) rfl
  have q0 := HR2.c (j := 0) rfl
  have q1 := HR2.c (j := 1) rfl
  change bodyPost _ _ _ _ _ (filled w1 (w.heap.size + 1) 0 0 (.slice none 0 0) 0 0)
  generalize filled w1 (w.heap.size + 1) 0 0 (.slice none 0 0) 0 0 = W2 at *
  refine bodyPost_ret (v := ansV 0 0 0 0 12) (by simp [results, Try.f20, go_sem, ansV, stV, retV, k0, k1, k2, q0, q1]) rfl ?_
  exact set_none _ _ _ (nxt hBw hB2 (Nat.le_refl _))
set_option maxHeartbeats 1000000 in
theorem mapply_word (A : Option Addr) (c : Nat) (l : List Int) (kd a b : Int) (w : World) (hA : Ints w A l) (hlen : l.length ≤ 1000) (hr : krise l) (h : kd < 7) :
    Calls Try.prog 20 #[stV 3 0 A l.length c, .int .i64 kd, .int .i64 a, .int .i64 b] w (SetPost 0 [] 0 0 6 w) := by
  have hB0 := boxed3_below w 3 0 A l.length c
  have H := check_any 3 0 A c l _ (hA.below hB0) hlen
  have hc : checkE 3 0 l = 0 := by
    exact check_map hr
  rw [hc] at H
  have d1 : decide (kd < 7) = true := decide_eq_true h
  have HZ := Lib.hid (boxed3_then w 3 0 A l.length c)
  have HR := Lib.hid (boxed3_ret w 3 0 A l.length c)
  have hsz := boxed3_size w 3 0 A l.length c
  clear hc hA
  unfold stV at *
  go_enter Try.func20, Try.ntmps20
  go_wp2_with fail
  refine H.mono ?_
  rintro e w1 ⟨rfl, hB1⟩
  generalize boxed3 w 3 0 A l.length c = W0 at *
  have HZ1 := Lib.hid (HZ.out.below hB1 (by omega))
  have HR1 := Lib.hid (HR.out.below hB1 (by omega))
  have z0 := HZ1.out.c (j := 0) rfl
  have z1 := HZ1.out.c (j := 1) rfl
  have z2 := HZ1.out.c (j := 2) rfl
  have r0 := HR1.out.c (j := 0) rfl
  have r1 := HR1.out.c (j := 1) rfl
  have y0 := HZ1.out.frozen 0
  have y1 := HZ1.out.frozen 1
  have y2 := HZ1.out.frozen 2
  have x0 := HR1.out.frozen 0
  have x1 := HR1.out.frozen 1
  have hBw := nxt hB0 hB1 (by omega)
  clear hsz
  go_wp2
  obtain ⟨HZ2, HR2, hB2⟩ := filled_holds (m := w.heap.size) HZ1.out HR1.out (by omega) 0 0 (.slice none 0 0) 0 0
  have k0 := HZ2.c (j := 0) rfl
  have k1 := HZ2.c (j := 1) rfl
  have k2 := HZ2.c (j := 2) rfl
  have q0 := HR2.c (j := 0) rfl
  have q1 := HR2.c (j := 1) rfl
  change bodyPost _ _ _ _ _ (filled w1 (w.heap.size + 1) 0 0 (.slice none 0 0) 0 0)
  generalize filled w1 (w.heap.size + 1) 0 0 (.slice none 0 0) 0 0 = W2 at *
  refine bodyPost_ret (v := ansV 0 0 0 0 6) (by simp [results, Try.f20, go_sem, ansV, stV, retV, k0, k1, k2, q0, q1]) rfl ?_
  exact set_none _ _ _ (nxt hBw hB2 (Nat.le_refl _))
set_option maxHeartbeats 1000000 in
theorem mapply_word2 (A : Option Addr) (c : Nat) (l : List Int) (kd a b : Int) (w : World) (hA : Ints w A l) (hlen : l.length ≤ 1000) (hr : krise l) (h : 9 < kd) :
    Calls Try.prog 20 #[stV 3 0 A l.length c, .int .i64 kd, .int .i64 a, .int .i64 b] w (SetPost 0 [] 0 0 6 w) := by
  have hB0 := boxed3_below w 3 0 A l.length c
  have H := check_any 3 0 A c l _ (hA.below hB0) hlen
  have hc : checkE 3 0 l = 0 := by
    exact check_map hr
  rw [hc] at H
  have d1 : decide (kd < 7) = false := decide_eq_false (by omega)
  have d2 : decide (9 < kd) = true := decide_eq_true h
  have d3 : decide (kd > 9) = true := decide_eq_true h
  have HZ := Lib.hid (boxed3_then w 3 0 A l.length c)
  have HR := Lib.hid (boxed3_ret w 3 0 A l.length c)
  have hsz := boxed3_size w 3 0 A l.length c
  clear hc hA
  unfold stV at *
  go_enter Try.func20, Try.ntmps20
  go_wp2_with fail
  refine H.mono ?_
  rintro e w1 ⟨rfl, hB1⟩
  generalize boxed3 w 3 0 A l.length c = W0 at *
  have HZ1 := Lib.hid (HZ.out.below hB1 (by omega))
  have HR1 := Lib.hid (HR.out.below hB1 (by omega))
  have z0 := HZ1.out.c (j := 0) rfl
  have z1 := HZ1.out.c (j := 1) rfl
  have z2 := HZ1.out.c (j := 2) rfl
  have r0 := HR1.out.c (j := 0) rfl
  have r1 := HR1.out.c (j := 1) rfl
  have y0 := HZ1.out.frozen 0
  have y1 := HZ1.out.frozen 1
  have y2 := HZ1.out.frozen 2
  have x0 := HR1.out.frozen 0
  have x1 := HR1.out.frozen 1
  have hBw := nxt hB0 hB1 (by omega)
  clear hsz
  go_wp2
  obtain ⟨HZ2, HR2, hB2⟩ := filled_holds (m := w.heap.size) HZ1.out HR1.out (by omega) 0 0 (.slice none 0 0) 0 0
  have k0 := HZ2.c (j := 0) rfl
  have k1 := HZ2.c (j := 1) rfl
  have k2 := HZ2.c (j := 2) rfl
  have q0 := HR2.c (j := 0) rfl
  have q1 := HR2.c (j := 1) rfl
  change bodyPost _ _ _ _ _ (filled w1 (w.heap.size + 1) 0 0 (.slice none 0 0) 0 0)
  generalize filled w1 (w.heap.size + 1) 0 0 (.slice none 0 0) 0 0 = W2 at *
  refine bodyPost_ret (v := ansV 0 0 0 0 6) (by simp [results, Try.f20, go_sem, ansV, stV, retV, k0, k1, k2, q0, q1]) rfl ?_
  exact set_none _ _ _ (nxt hBw hB2 (Nat.le_refl _))
set_option maxHeartbeats 1000000 in
theorem mapply_arg (A : Option Addr) (c : Nat) (l : List Int) (kd a b : Int) (w : World) (hA : Ints w A l) (hlen : l.length ≤ 1000) (hr : krise l) (h1 : 8 ≤ kd) (h2 : kd ≤ 9) (h : b ≠ 0) :
    Calls Try.prog 20 #[stV 3 0 A l.length c, .int .i64 kd, .int .i64 a, .int .i64 b] w (SetPost 0 [] 0 0 2 w) := by
  have hB0 := boxed3_below w 3 0 A l.length c
  have H := check_any 3 0 A c l _ (hA.below hB0) hlen
  have hc : checkE 3 0 l = 0 := by
    exact check_map hr
  rw [hc] at H
  have d1 : decide (kd < 7) = false := decide_eq_false (by omega)
  have d2 : decide (9 < kd) = false := decide_eq_false (by omega)
  have d4 : (kd != 7) = true := by rw [bne_iff_ne]; omega
  have d3 : (b != 0) = true := by rw [bne_iff_ne]; exact h
  have HZ := Lib.hid (boxed3_then w 3 0 A l.length c)
  have HR := Lib.hid (boxed3_ret w 3 0 A l.length c)
  have hsz := boxed3_size w 3 0 A l.length c
  clear hc hA
  unfold stV at *
  go_enter Try.func20, Try.ntmps20
  go_wp2_with fail
  refine H.mono ?_
  rintro e w1 ⟨rfl, hB1⟩
  generalize boxed3 w 3 0 A l.length c = W0 at *
  have HZ1 := Lib.hid (HZ.out.below hB1 (by omega))
  have HR1 := Lib.hid (HR.out.below hB1 (by omega))
  have z0 := HZ1.out.c (j := 0) rfl
  have z1 := HZ1.out.c (j := 1) rfl
  have z2 := HZ1.out.c (j := 2) rfl
  have r0 := HR1.out.c (j := 0) rfl
  have r1 := HR1.out.c (j := 1) rfl
  have y0 := HZ1.out.frozen 0
  have y1 := HZ1.out.frozen 1
  have y2 := HZ1.out.frozen 2
  have x0 := HR1.out.frozen 0
  have x1 := HR1.out.frozen 1
  have hBw := nxt hB0 hB1 (by omega)
  clear hsz
  go_wp2
  obtain ⟨HZ2, HR2, hB2⟩ := filled_holds (m := w.heap.size) HZ1.out HR1.out (by omega) 0 0 (.slice none 0 0) 0 0
  have k0 := HZ2.c (j := 0) rfl
  have k1 := HZ2.c (j := 1) rfl
  have k2 := HZ2.c (j := 2) rfl
  have q0 := HR2.c (j := 0) rfl
  have q1 := HR2.c (j := 1) rfl
  change bodyPost _ _ _ _ _ (filled w1 (w.heap.size + 1) 0 0 (.slice none 0 0) 0 0)
  generalize filled w1 (w.heap.size + 1) 0 0 (.slice none 0 0) 0 0 = W2 at *
  refine bodyPost_ret (v := ansV 0 0 0 0 2) (by simp [results, Try.f20, go_sem, ansV, stV, retV, k0, k1, k2, q0, q1]) rfl ?_
  exact set_none _ _ _ (nxt hBw hB2 (Nat.le_refl _))
end Go.Proofs.Ytdanihadkchbbaa
