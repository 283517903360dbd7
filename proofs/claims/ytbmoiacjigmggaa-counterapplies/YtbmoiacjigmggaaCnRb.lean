/- The document's Apply of a counter: Add, Read. -/
import Derived.Test.YtbmoiacjigmggaaCnR
namespace Go.Proofs.Ytbmoiacjigmggaa
open Go.RowKit Go.Maps
set_option linter.unusedVariables false

set_option maxHeartbeats 1000000 in
theorem rapply_read (n : Int) (A : Option Addr) (c : Nat) (w : World)  :
    Calls Try.prog 11 #[stV 1 n A 0 c, .int .i64 2, .int .i64 0, .int .i64 0] w (Says (ansV 1 n 2 n 0) w) := by
  have H := rcheck_cn n A c (boxed3 w 1 n A 0 c)
  have hB0 := boxed3_below w 1 n A 0 c
  have HW := Lib.hid (boxed3_state w 1 n A 0 c)
  have HZ := Lib.hid (boxed3_then w 1 n A 0 c)
  have HR := Lib.hid (boxed3_ret w 1 n A 0 c)
  have hsz := boxed3_size w 1 n A 0 c
  unfold stV at *
  go_enter Try.func11, Try.ntmps11
  go_wp2_with fail
  refine H.mono ?_
  rintro e w1 ⟨rfl, hB1⟩
  generalize boxed3 w 1 n A 0 c = W0 at *
  have HW1 := Lib.hid (HW.out.below hB1 (by omega))
  have HZ1 := Lib.hid (HZ.out.below hB1 (by omega))
  have HR1 := Lib.hid (HR.out.below hB1 (by omega))
  have s1 := HW1.out.c (j := 1) rfl
  have hBw := nxt hB0 hB1 (by omega)
  clear hsz hB0 hB1
  have z0 := HZ1.out.c (j := 0) rfl
  have z1 := HZ1.out.c (j := 1) rfl
  have z2 := HZ1.out.c (j := 2) rfl
  have r0 := HR1.out.c (j := 0) rfl
  have r1 := HR1.out.c (j := 1) rfl
  have y0 := HZ1.out.frozen 0
  have y1 := HZ1.out.frozen 1
  have y2 := HZ1.out.frozen 2
  have x0 := HR1.out.frozen 0
  have x1 := HR1.out.frozen 1
  have n1 : w.heap.size ≠ w.heap.size + 1 := by omega
  have n2 : w.heap.size ≠ w.heap.size + 1 + 1 := by omega
  go_wp2_with fail
  go_cut [10] from 47 to 53 (fun s10 wx => s10 = .int .i64 0 ∧ wx = filled w1.drew (w.heap.size + 1) 1 n (.slice none 0 0) 2 n)
  case first =>
    go_region
    all_goals (go_wp2_with fail; go_meet; exact ⟨rfl, rfl⟩)
  case rest =>
    obtain ⟨rfl, rfl⟩ := hcut
    obtain ⟨HZ2, HR2, hB3⟩ := filled_holds (m := w.heap.size) (HZ1.out.of (W' := w1.drew) rfl) (HR1.out.of (W' := w1.drew) rfl) (by omega) 1 n (.slice none 0 0) 2 n
    generalize filled w1.drew (w.heap.size + 1) 1 n (.slice none 0 0) 2 n = W4 at *
    have k0 := HZ2.c (j := 0) rfl
    have k1 := HZ2.c (j := 1) rfl
    have k2 := HZ2.c (j := 2) rfl
    have q0 := HR2.c (j := 0) rfl
    have q1 := HR2.c (j := 1) rfl
    go_wp2
    refine bodyPost_ret (v := ansV 1 n 2 n 0) (by simp [results, Try.f11, go_sem, ansV, stV, retV, k0, k1, k2, q0, q1]) rfl ?_
    exact ⟨rfl, nxt hBw.drew hB3 (Nat.le_refl _)⟩
set_option maxHeartbeats 1000000 in
theorem rapply_add (n : Int) (A : Option Addr) (c : Nat) (a : Int) (w : World)  :
    Calls Try.prog 11 #[stV 1 n A 0 c, .int .i64 1, .int .i64 a, .int .i64 0] w (Says (ansV 1 (wrap64 (n + a)) 0 0 0) w) := by
  have H := rcheck_cn n A c (boxed3 w 1 n A 0 c)
  have hB0 := boxed3_below w 1 n A 0 c
  have HW := Lib.hid (boxed3_state w 1 n A 0 c)
  have HZ := Lib.hid (boxed3_then w 1 n A 0 c)
  have HR := Lib.hid (boxed3_ret w 1 n A 0 c)
  have hsz := boxed3_size w 1 n A 0 c
  unfold stV at *
  go_enter Try.func11, Try.ntmps11
  go_wp2_with fail
  refine H.mono ?_
  rintro e w1 ⟨rfl, hB1⟩
  generalize boxed3 w 1 n A 0 c = W0 at *
  have HW1 := Lib.hid (HW.out.below hB1 (by omega))
  have HZ1 := Lib.hid (HZ.out.below hB1 (by omega))
  have HR1 := Lib.hid (HR.out.below hB1 (by omega))
  have s1 := HW1.out.c (j := 1) rfl
  have hBw := nxt hB0 hB1 (by omega)
  clear hsz hB0 hB1
  have z0 := HZ1.out.c (j := 0) rfl
  have z1 := HZ1.out.c (j := 1) rfl
  have z2 := HZ1.out.c (j := 2) rfl
  have r0 := HR1.out.c (j := 0) rfl
  have r1 := HR1.out.c (j := 1) rfl
  have y0 := HZ1.out.frozen 0
  have y1 := HZ1.out.frozen 1
  have y2 := HZ1.out.frozen 2
  have x0 := HR1.out.frozen 0
  have x1 := HR1.out.frozen 1
  go_wp2
  rw [rwrap_eq]
  obtain ⟨HZ2, HR2, hB3⟩ := filled_holds (m := w.heap.size) HZ1.out HR1.out (by omega) 1 (wrap64 (n + a)) (.slice none 0 0) 0 0
  have k0 := HZ2.c (j := 0) rfl
  have k1 := HZ2.c (j := 1) rfl
  have k2 := HZ2.c (j := 2) rfl
  have q0 := HR2.c (j := 0) rfl
  have q1 := HR2.c (j := 1) rfl
  change bodyPost _ _ _ _ _ (filled w1 (w.heap.size + 1) 1 (wrap64 (n + a)) (.slice none 0 0) 0 0)
  generalize filled w1 (w.heap.size + 1) 1 (wrap64 (n + a)) (.slice none 0 0) 0 0 = W2 at *
  refine bodyPost_ret (v := ansV 1 (wrap64 (n + a)) 0 0 0) (by simp [results, Try.f11, go_sem, ansV, stV, retV, k0, k1, k2, q0, q1]) rfl ?_
  exact ⟨rfl, nxt hBw hB3 (Nat.le_refl _)⟩
end Go.Proofs.Ytbmoiacjigmggaa
