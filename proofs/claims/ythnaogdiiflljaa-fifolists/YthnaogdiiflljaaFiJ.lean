/- The document's Apply. (Written by wip/tools/gen_fij.py.) -/
import Derived.Test.YthnaogdiiflljaaFiI
namespace Go.Proofs.Ythnaogdiiflljaa
open Go.RowKit Go.Maps
set_option linter.unusedVariables false
set_option linter.unusedSimpArgs false

theorem set3_drew1 {W : World} {B b : Nat} {t : TypeId} {cs : Array Value} {u0 u1 u2 : Value} (h : Holds W B t cs) (hne : B ≠ b) : Holds (((W.setCell ⟨b, 0, none⟩ u0).setCell ⟨b, 1, none⟩ u1).setCell ⟨b, 2, none⟩ u2).drew B t cs :=
  holds_drew1 (set3_drewq h hne)
theorem set5_drew1 {W : World} {B b d : Nat} {t : TypeId} {cs : Array Value} {u0 u1 u2 u3 u4 : Value} (h : Holds W B t cs) (hne : B ≠ b) (hnd : B ≠ d) : Holds (((((W.setCell ⟨b, 0, none⟩ u0).setCell ⟨b, 1, none⟩ u1).setCell ⟨b, 2, none⟩ u2).setCell ⟨d, 0, none⟩ u3).setCell ⟨d, 1, none⟩ u4).drew B t cs :=
  holds_drew1 (set5_drewq h hne hnd)
theorem deq_one {W : World} {g c : Nat} {l : List Int} (h : Ints W (some ⟨g, 0, none⟩) l) (hf : l.length ≤ c) (hc : c = 1) : Ints W (some ⟨g, 0, none⟩) (l.drop 1) := fun hl => by rw [List.length_drop] at hl; omega
theorem deq_more {W : World} {g c : Nat} {l : List Int} (h : Ints W (some ⟨g, 0, none⟩) l) (hf : l.length ≤ c) (hc : ¬ c = 1) : Ints W (some ⟨g, 1, none⟩) (l.drop 1) := by
  have := ints_drop h c 1 hf
  unfold subA at this
  rw [if_neg hc] at this
  simpa [Addr.add] using this
theorem cell3 {W : World} {b off d : Nat} {u0 u1 u2 v : Value} (h : W.cell? ⟨b, off, none⟩ = some v) (hne : b ≠ d) : (((W.setCell ⟨d, 0, none⟩ u0).setCell ⟨d, 1, none⟩ u1).setCell ⟨d, 2, none⟩ u2).drew.cell? ⟨b, off, none⟩ = some v := by
  have e : ∀ (X : World) k u, (X.setCell ⟨d, k, none⟩ u).cell? ⟨b, off, none⟩ = X.cell? ⟨b, off, none⟩ := fun X k u => World.cell?_of_block (Below.heap_setCell _ _ _ _ hne)
  have e2 : ∀ (X : World), X.drew.cell? ⟨b, off, none⟩ = X.cell? ⟨b, off, none⟩ := fun X => rfl
  rw [e2, e, e, e]; exact h
theorem cell5 {W : World} {b off d d' : Nat} {u0 u1 u2 u3 u4 v : Value} (h : W.cell? ⟨b, off, none⟩ = some v) (hne : b ≠ d) (hn2 : b ≠ d') : (((((W.setCell ⟨d, 0, none⟩ u0).setCell ⟨d, 1, none⟩ u1).setCell ⟨d, 2, none⟩ u2).setCell ⟨d', 0, none⟩ u3).setCell ⟨d', 1, none⟩ u4).drew.cell? ⟨b, off, none⟩ = some v := by
  have e : ∀ (X : World) k u, (X.setCell ⟨d', k, none⟩ u).cell? ⟨b, off, none⟩ = X.cell? ⟨b, off, none⟩ := fun X k u => World.cell?_of_block (Below.heap_setCell _ _ _ _ hn2)
  have e2 : ∀ (X : World), X.drew.cell? ⟨b, off, none⟩ = X.cell? ⟨b, off, none⟩ := fun X => rfl
  have := cell3 (u0 := u0) (u1 := u1) (u2 := u2) h hne
  rw [e2] at this
  rw [e2, e, e]; exact this
/-- What the document's Apply tells: a list that is only read. -/
def ReadPost (t : Int) (m : List Int) (k r er : Int) (w : World) (e : Ending) (w' : World) : Prop :=
  ∃ A c, e = .returned (.tuple #[stV t 0 A m.length c, retV k r, .int .i64 er]) ∧ Ints w' A m ∧ Below w.heap.size w w'
theorem read_none (w w' : World) (er : Int) (hB : Below w.heap.size w w') : ReadPost 0 [] 0 0 er w (.returned (ansV 0 0 0 0 er)) w' := ⟨none, 0, rfl, ints_nil _ _, hB⟩
theorem deq_says {l : List Int} {y : Int} (h : l[0]? = some y) : ReadPost 4 (fifoL l 11 0) (fifoK l 11) (fifoN l 11) = ReadPost 4 (l.drop 1) 2 y := by
  cases l with
  | nil => cases h
  | cons z r => simp at h; subst h; rfl
theorem rfapply_state (t n : Int) (A : Option Addr) (c : Nat) (l : List Int) (kd a b : Int) (w : World) (h : t ≠ 4) :
    Calls Try.prog 11 #[stV t n A l.length c, .int .i64 kd, .int .i64 a, .int .i64 b] w (ReadPost 0 [] 0 0 12 w) := by
  have ht : (t != 4) = true := by rw [bne_iff_ne]; exact h
  clear h
  unfold stV
  go_enter Try.func11, Try.ntmps11
  go_wp2
  refine bodyPost_ret (v := ansV 0 0 0 0 12) (by simp [results, Try.f11, go_sem, ansV, stV, retV]) rfl ?_
  exact read_none _ _ _ (boxed3_below w _ _ _ _ _)
set_option maxHeartbeats 1000000 in
theorem rfapply_form (n : Int) (A : Option Addr) (c : Nat) (l : List Int) (kd a b : Int) (w : World) (hA : Ints w A l) (hlen : l.length ≤ 1000) (hn : n ≠ 0) :
    Calls Try.prog 11 #[stV 4 n A l.length c, .int .i64 kd, .int .i64 a, .int .i64 b] w (ReadPost 0 [] 0 0 12 w) := by
  have hB0 := boxed3_below w 4 n A l.length c
  have H := rcheck_any 4 n A c l _ (hA.below hB0) hlen
  have hq : checkE 4 n l = 5 := by rw [check_queue, if_neg hn]
  rw [hq] at H
  have HZ := Lib.hid (boxed3_then w 4 n A l.length c)
  have HR := Lib.hid (boxed3_ret w 4 n A l.length c)
  have hsz := boxed3_size w 4 n A l.length c
  clear hA hq
  unfold stV at *
  go_enter Try.func11, Try.ntmps11
  go_wp2_with fail
  refine H.mono ?_
  rintro e w1 ⟨rfl, hB1⟩
  generalize boxed3 w 4 n A l.length c = W0 at *
  have HZ1 := Lib.hid (HZ.out.below hB1 (by omega))
  have HR1 := Lib.hid (HR.out.below hB1 (by omega))
  have z0 := HZ1.out.c (j := 0) rfl
  have z1 := HZ1.out.c (j := 1) rfl
  have z2 := HZ1.out.c (j := 2) rfl
  have r0 := HR1.out.c (j := 0) rfl
  have r1 := HR1.out.c (j := 1) rfl
  have y0 := HZ1.out.frozen 0
  have y1 := HZ1.out.frozen 1
  have y2 := HZ1.out.frozen 2
  have x0 := HR1.out.frozen 0
  have x1 := HR1.out.frozen 1
  have hBw := nxt hB0 hB1 (by omega)
  clear hsz
  go_wp2
  obtain ⟨HZ2, HR2, hB2⟩ := filled_holds (m := w.heap.size) HZ1.out HR1.out (by omega) 0 0 (.slice none 0 0) 0 0
  have k0 := HZ2.c (j := 0) rfl
  have k1 := HZ2.c (j := 1) rfl
  have k2 := HZ2.c (j := 2) rfl
  have q0 := HR2.c (j := 0) rfl
  have q1 := HR2.c (j := 1) rfl
  change bodyPost _ _ _ _ _ (filled w1 (w.heap.size + 1) 0 0 (.slice none 0 0) 0 0)
  generalize filled w1 (w.heap.size + 1) 0 0 (.slice none 0 0) 0 0 = W2 at *
  refine bodyPost_ret (v := ansV 0 0 0 0 12) (by simp [results, Try.f11, go_sem, ansV, stV, retV, k0, k1, k2, q0, q1]) rfl ?_
  exact read_none _ _ _ (nxt hBw hB2 (Nat.le_refl _))
set_option maxHeartbeats 1000000 in
theorem rfapply_word (A : Option Addr) (c : Nat) (l : List Int) (kd a b : Int) (w : World) (hA : Ints w A l) (hlen : l.length ≤ 1000) (h : kd < 10) :
    Calls Try.prog 11 #[stV 4 0 A l.length c, .int .i64 kd, .int .i64 a, .int .i64 b] w (ReadPost 0 [] 0 0 6 w) := by
  have hB0 := boxed3_below w 4 0 A l.length c
  have H := rcheck_any 4 0 A c l _ (hA.below hB0) hlen
  have hq : checkE 4 0 l = 0 := by rw [check_queue]; rfl
  rw [hq] at H
  have d1 : decide (kd < 10) = true := decide_eq_true h
  have HZ := Lib.hid (boxed3_then w 4 0 A l.length c)
  have HR := Lib.hid (boxed3_ret w 4 0 A l.length c)
  have hsz := boxed3_size w 4 0 A l.length c
  clear hA hq
  unfold stV at *
  go_enter Try.func11, Try.ntmps11
  go_wp2_with fail
  refine H.mono ?_
  rintro e w1 ⟨rfl, hB1⟩
  generalize boxed3 w 4 0 A l.length c = W0 at *
  have HZ1 := Lib.hid (HZ.out.below hB1 (by omega))
  have HR1 := Lib.hid (HR.out.below hB1 (by omega))
  have z0 := HZ1.out.c (j := 0) rfl
  have z1 := HZ1.out.c (j := 1) rfl
  have z2 := HZ1.out.c (j := 2) rfl
  have r0 := HR1.out.c (j := 0) rfl
  have r1 := HR1.out.c (j := 1) rfl
  have y0 := HZ1.out.frozen 0
  have y1 := HZ1.out.frozen 1
  have y2 := HZ1.out.frozen 2
  have x0 := HR1.out.frozen 0
  have x1 := HR1.out.frozen 1
  have hBw := nxt hB0 hB1 (by omega)
  clear hsz
  go_wp2
  obtain ⟨HZ2, HR2, hB2⟩ := filled_holds (m := w.heap.size) HZ1.out HR1.out (by omega) 0 0 (.slice none 0 0) 0 0
  have k0 := HZ2.c (j := 0) rfl
  have k1 := HZ2.c (j := 1) rfl
  have k2 := HZ2.c (j := 2) rfl
  have q0 := HR2.c (j := 0) rfl
  have q1 := HR2.c (j := 1) rfl
  change bodyPost _ _ _ _ _ (filled w1 (w.heap.size + 1) 0 0 (.slice none 0 0) 0 0)
  generalize filled w1 (w.heap.size + 1) 0 0 (.slice none 0 0) 0 0 = W2 at *
  refine bodyPost_ret (v := ansV 0 0 0 0 6) (by simp [results, Try.f11, go_sem, ansV, stV, retV, k0, k1, k2, q0, q1]) rfl ?_
  exact read_none _ _ _ (nxt hBw hB2 (Nat.le_refl _))
set_option maxHeartbeats 1000000 in
theorem rfapply_word2 (A : Option Addr) (c : Nat) (l : List Int) (kd a b : Int) (w : World) (hA : Ints w A l) (hlen : l.length ≤ 1000) (h : 12 < kd) :
    Calls Try.prog 11 #[stV 4 0 A l.length c, .int .i64 kd, .int .i64 a, .int .i64 b] w (ReadPost 0 [] 0 0 6 w) := by
  have hB0 := boxed3_below w 4 0 A l.length c
  have H := rcheck_any 4 0 A c l _ (hA.below hB0) hlen
  have hq : checkE 4 0 l = 0 := by rw [check_queue]; rfl
  rw [hq] at H
  have d1 : decide (kd < 10) = false := decide_eq_false (by omega)
  have d2 : decide (12 < kd) = true := decide_eq_true h
  have d3 : decide (kd > 12) = true := decide_eq_true h
  have HZ := Lib.hid (boxed3_then w 4 0 A l.length c)
  have HR := Lib.hid (boxed3_ret w 4 0 A l.length c)
  have hsz := boxed3_size w 4 0 A l.length c
  clear hA hq
  unfold stV at *
  go_enter Try.func11, Try.ntmps11
  go_wp2_with fail
  refine H.mono ?_
  rintro e w1 ⟨rfl, hB1⟩
  generalize boxed3 w 4 0 A l.length c = W0 at *
  have HZ1 := Lib.hid (HZ.out.below hB1 (by omega))
  have HR1 := Lib.hid (HR.out.below hB1 (by omega))
  have z0 := HZ1.out.c (j := 0) rfl
  have z1 := HZ1.out.c (j := 1) rfl
  have z2 := HZ1.out.c (j := 2) rfl
  have r0 := HR1.out.c (j := 0) rfl
  have r1 := HR1.out.c (j := 1) rfl
  have y0 := HZ1.out.frozen 0
  have y1 := HZ1.out.frozen 1
  have y2 := HZ1.out.frozen 2
  have x0 := HR1.out.frozen 0
  have x1 := HR1.out.frozen 1
  have hBw := nxt hB0 hB1 (by omega)
  clear hsz
  go_wp2
  obtain ⟨HZ2, HR2, hB2⟩ := filled_holds (m := w.heap.size) HZ1.out HR1.out (by omega) 0 0 (.slice none 0 0) 0 0
  have k0 := HZ2.c (j := 0) rfl
  have k1 := HZ2.c (j := 1) rfl
  have k2 := HZ2.c (j := 2) rfl
  have q0 := HR2.c (j := 0) rfl
  have q1 := HR2.c (j := 1) rfl
  change bodyPost _ _ _ _ _ (filled w1 (w.heap.size + 1) 0 0 (.slice none 0 0) 0 0)
  generalize filled w1 (w.heap.size + 1) 0 0 (.slice none 0 0) 0 0 = W2 at *
  refine bodyPost_ret (v := ansV 0 0 0 0 6) (by simp [results, Try.f11, go_sem, ansV, stV, retV, k0, k1, k2, q0, q1]) rfl ?_
  exact read_none _ _ _ (nxt hBw hB2 (Nat.le_refl _))
set_option maxHeartbeats 1000000 in
theorem rfapply_arg (A : Option Addr) (c : Nat) (l : List Int) (kd a b : Int) (w : World) (hA : Ints w A l) (hlen : l.length ≤ 1000) (h1 : 10 ≤ kd) (h2 : kd ≤ 12) (h : b ≠ 0) :
    Calls Try.prog 11 #[stV 4 0 A l.length c, .int .i64 kd, .int .i64 a, .int .i64 b] w (ReadPost 0 [] 0 0 2 w) := by
  have hB0 := boxed3_below w 4 0 A l.length c
  have H := rcheck_any 4 0 A c l _ (hA.below hB0) hlen
  have hq : checkE 4 0 l = 0 := by rw [check_queue]; rfl
  rw [hq] at H
  have d1 : decide (kd < 10) = false := decide_eq_false (by omega)
  have d2 : decide (12 < kd) = false := decide_eq_false (by omega)
  have d3 : decide (kd > 12) = false := decide_eq_false (by omega)
  have d4 : (b != 0) = true := by rw [bne_iff_ne]; exact h
  have HZ := Lib.hid (boxed3_then w 4 0 A l.length c)
  have HR := Lib.hid (boxed3_ret w 4 0 A l.length c)
  have hsz := boxed3_size w 4 0 A l.length c
  clear hA hq
  unfold stV at *
  go_enter Try.func11, Try.ntmps11
  go_wp2_with fail
  refine H.mono ?_
  rintro e w1 ⟨rfl, hB1⟩
  generalize boxed3 w 4 0 A l.length c = W0 at *
  have HZ1 := Lib.hid (HZ.out.below hB1 (by omega))
  have HR1 := Lib.hid (HR.out.below hB1 (by omega))
  have z0 := HZ1.out.c (j := 0) rfl
  have z1 := HZ1.out.c (j := 1) rfl
  have z2 := HZ1.out.c (j := 2) rfl
  have r0 := HR1.out.c (j := 0) rfl
  have r1 := HR1.out.c (j := 1) rfl
  have y0 := HZ1.out.frozen 0
  have y1 := HZ1.out.frozen 1
  have y2 := HZ1.out.frozen 2
  have x0 := HR1.out.frozen 0
  have x1 := HR1.out.frozen 1
  have hBw := nxt hB0 hB1 (by omega)
  clear hsz
  go_wp2
  obtain ⟨HZ2, HR2, hB2⟩ := filled_holds (m := w.heap.size) HZ1.out HR1.out (by omega) 0 0 (.slice none 0 0) 0 0
  have k0 := HZ2.c (j := 0) rfl
  have k1 := HZ2.c (j := 1) rfl
  have k2 := HZ2.c (j := 2) rfl
  have q0 := HR2.c (j := 0) rfl
  have q1 := HR2.c (j := 1) rfl
  change bodyPost _ _ _ _ _ (filled w1 (w.heap.size + 1) 0 0 (.slice none 0 0) 0 0)
  generalize filled w1 (w.heap.size + 1) 0 0 (.slice none 0 0) 0 0 = W2 at *
  refine bodyPost_ret (v := ansV 0 0 0 0 2) (by simp [results, Try.f11, go_sem, ansV, stV, retV, k0, k1, k2, q0, q1]) rfl ?_
  exact read_none _ _ _ (nxt hBw hB2 (Nat.le_refl _))
set_option maxHeartbeats 1000000 in
theorem rfapply_arg2 (A : Option Addr) (c : Nat) (l : List Int) (kd a b : Int) (w : World) (hA : Ints w A l) (hlen : l.length ≤ 1000) (h1 : 11 ≤ kd) (h2 : kd ≤ 12) (h : a ≠ 0) (hb : b = 0) :
    Calls Try.prog 11 #[stV 4 0 A l.length c, .int .i64 kd, .int .i64 a, .int .i64 b] w (ReadPost 0 [] 0 0 2 w) := by
  have hB0 := boxed3_below w 4 0 A l.length c
  have H := rcheck_any 4 0 A c l _ (hA.below hB0) hlen
  have hq : checkE 4 0 l = 0 := by rw [check_queue]; rfl
  rw [hq] at H
  have d1 : decide (kd < 10) = false := decide_eq_false (by omega)
  have d2 : decide (12 < kd) = false := decide_eq_false (by omega)
  have d3 : decide (kd > 12) = false := decide_eq_false (by omega)
  have d4 : (b != 0) = false := by rw [hb]; rfl
  have d5 : (kd != 10) = true := by rw [bne_iff_ne]; omega
  have d6 : (a != 0) = true := by rw [bne_iff_ne]; exact h
  clear hb
  have HZ := Lib.hid (boxed3_then w 4 0 A l.length c)
  have HR := Lib.hid (boxed3_ret w 4 0 A l.length c)
  have hsz := boxed3_size w 4 0 A l.length c
  clear hA hq
  unfold stV at *
  go_enter Try.func11, Try.ntmps11
  go_wp2_with fail
  refine H.mono ?_
  rintro e w1 ⟨rfl, hB1⟩
  generalize boxed3 w 4 0 A l.length c = W0 at *
  have HZ1 := Lib.hid (HZ.out.below hB1 (by omega))
  have HR1 := Lib.hid (HR.out.below hB1 (by omega))
  have z0 := HZ1.out.c (j := 0) rfl
  have z1 := HZ1.out.c (j := 1) rfl
  have z2 := HZ1.out.c (j := 2) rfl
  have r0 := HR1.out.c (j := 0) rfl
  have r1 := HR1.out.c (j := 1) rfl
  have y0 := HZ1.out.frozen 0
  have y1 := HZ1.out.frozen 1
  have y2 := HZ1.out.frozen 2
  have x0 := HR1.out.frozen 0
  have x1 := HR1.out.frozen 1
  have hBw := nxt hB0 hB1 (by omega)
  clear hsz
  go_wp2
  obtain ⟨HZ2, HR2, hB2⟩ := filled_holds (m := w.heap.size) HZ1.out HR1.out (by omega) 0 0 (.slice none 0 0) 0 0
  have k0 := HZ2.c (j := 0) rfl
  have k1 := HZ2.c (j := 1) rfl
  have k2 := HZ2.c (j := 2) rfl
  have q0 := HR2.c (j := 0) rfl
  have q1 := HR2.c (j := 1) rfl
  change bodyPost _ _ _ _ _ (filled w1 (w.heap.size + 1) 0 0 (.slice none 0 0) 0 0)
  generalize filled w1 (w.heap.size + 1) 0 0 (.slice none 0 0) 0 0 = W2 at *
  refine bodyPost_ret (v := ansV 0 0 0 0 2) (by simp [results, Try.f11, go_sem, ansV, stV, retV, k0, k1, k2, q0, q1]) rfl ?_
  exact read_none _ _ _ (nxt hBw hB2 (Nat.le_refl _))
set_option maxHeartbeats 2000000 in
theorem rfapply_enq (A : Option Addr) (c : Nat) (l : List Int) (x : Int) (w : World) (hA : Ints w A l) (hlen : l.length ≤ 800) :
    Calls Try.prog 11 #[stV 4 0 A l.length c, .int .i64 10, .int .i64 x, .int .i64 0] w (ReadPost 4 (fifoL l 10 x) (fifoK l 10) (fifoN l 10) 0 w) := by
  have hB0 := boxed3_below w 4 0 A l.length c
  have HC := rcheck_any 4 0 A c l _ (hA.below hB0) (by omega)
  rw [show checkE 4 0 l = 0 by rw [check_queue]; rfl] at HC
  have HA := Lib.hid hA
  have HW := Lib.hid (boxed3_state w 4 0 A l.length c)
  have HZ := Lib.hid (boxed3_then w 4 0 A l.length c)
  have HR := Lib.hid (boxed3_ret w 4 0 A l.length c)
  have hsz := boxed3_size w 4 0 A l.length c
  clear hA
  unfold stV at *
  go_enter Try.func11, Try.ntmps11
  go_wp2_with fail
  refine HC.mono ?_
  rintro e w1 ⟨rfl, hB1⟩
  generalize boxed3 w 4 0 A l.length c = W0 at *
  have HW1 := Lib.hid (HW.out.below hB1 (by omega))
  have HZ1 := Lib.hid (HZ.out.below hB1 (by omega))
  have HR1 := Lib.hid (HR.out.below hB1 (by omega))
  have hBw := nxt hB0 hB1 (by omega)
  have hlt1 := HR1.out.lt
  have s2 := HW1.out.c (j := 2) rfl
  have HROW := Lib.hid (World.ownsRow_lit (base := w1.heap.size) (e := 3) (size := 1) w1 #[] 0 (Nat.le_refl _) (Nat.zero_le _) rfl)
  have HA2 := Lib.hid ((HA.out.below hBw).below (alloc1 w1 (.cells #[] 3)))
  have hs2a : w1.heap.size ≤ (w1.alloc (.cells #[] 3)).heap.size := by simp
  have c2x : (w1.alloc (.cells #[] 3)).cell? ⟨w.heap.size, 2, none⟩ = some (.slice A l.length c) := (HW1.out.alloc _).c (j := 2) rfl
  clear hsz hB0 hB1
  go_upto_region 8 with (at_builtin; refine wpList_app _ rfl _ _ 22 rfl w1.heap.size Try.underlying22 _ _ _ rfl HROW.out A l.length c l rfl rfl HA2.out (by omega) (by omega) hs2a ?_; intro v3 w3 hown3 hg3 hn3; obtain ⟨g3, c3, rfl⟩ := form4 hown3 hn3; rw [Nat.zero_add, List.nil_append] at hown3; have hB3 : Below w1.heap.size w1 w3 := (alloc1 w1 _).trans (grown_below hg3 HROW.out hs2a); have HO3 := Lib.hid hown3; clear hg3 hn3 c2x s2 hown3)
  have hs3 := hB3.size
  have hBw3 := nxt hBw hB3 hBw.size
  have hB4 := nxt hBw3 (alloc1 w3 (.cells #[.int .i64 4, .int .i64 0, .slice (some ⟨g3, 0, none⟩) l.length c3] 24)) hBw3.size
  have hB14 := nxt hB3 (alloc1 w3 (.cells #[.int .i64 4, .int .i64 0, .slice (some ⟨g3, 0, none⟩) l.length c3] 24)) hB3.size
  have HZ4 := Lib.hid ((HZ1.out.below hB3 (by omega)).alloc (.cells #[.int .i64 4, .int .i64 0, .slice (some ⟨g3, 0, none⟩) l.length c3] 24))
  have HR4 := Lib.hid ((HR1.out.below hB3 (by omega)).alloc (.cells #[.int .i64 4, .int .i64 0, .slice (some ⟨g3, 0, none⟩) l.length c3] 24))
  have HW4 := Lib.hid ((HW1.out.below hB3 (by omega)).alloc (.cells #[.int .i64 4, .int .i64 0, .slice (some ⟨g3, 0, none⟩) l.length c3] 24))
  have HO4 := Lib.hid (Holds.new w3 24 #[.int .i64 4, .int .i64 0, .slice (some ⟨g3, 0, none⟩) l.length c3])
  have HV4 := Lib.hid (row_below HO3.out (alloc1 w3 (.cells #[.int .i64 4, .int .i64 0, .slice (some ⟨g3, 0, none⟩) l.length c3] 24)))
  have hs4 : w3.heap.size < (w3.alloc (.cells #[.int .i64 4, .int .i64 0, .slice (some ⟨g3, 0, none⟩) l.length c3] 24)).heap.size := by simp
  clear HROW HA2 HO3
  generalize w3.alloc (.cells #[.int .i64 4, .int .i64 0, .slice (some ⟨g3, 0, none⟩) l.length c3] 24) = W4 at *
  have hsB : w.heap.size + 3 ≤ w3.heap.size := by omega
  have o2 := HO4.out.c (j := 2) rfl
  have hl2 : w1.heap.size ≤ (W4.alloc (.cells #[.int .i64 x] 3)).heap.size := by simp; omega
  have o2x : (W4.alloc (.cells #[.int .i64 x] 3)).cell? ⟨w3.heap.size, 2, none⟩ = some (.slice (some ⟨g3, 0, none⟩) l.length c3) := (HO4.out.alloc _).c (j := 2) rfl
  have HZx := Lib.hid (HZ4.out.alloc (.cells #[.int .i64 x] 3))
  have HRx := Lib.hid (HR4.out.alloc (.cells #[.int .i64 x] 3))
  have HOx := Lib.hid (HO4.out.alloc (.cells #[.int .i64 x] 3))
  have hVx := row_below HV4.out (alloc1 W4 (.cells #[.int .i64 x] 3))
  have HVx := Lib.hid hVx
  have HLx := Lib.hid (ints_lit W4 [x] 3 #[.int .i64 x] rfl)
  clear hVx
  go_upto_region 11 with (at_builtin; refine wpList_app _ rfl _ _ 22 rfl w1.heap.size Try.underlying22 _ _ _ rfl HVx.out (some ⟨W4.heap.size, 0, none⟩) 1 1 [x] rfl rfl HLx.out (by omega) (by omega) hl2 ?_; intro v5 w5 hown5 hg5 hn5; obtain ⟨g5, c5, rfl⟩ := form4 hown5 hn5; have HO5 := HOx.out.kept hg5 (HOx.out.not_row HVx.out (by decide)); have e2 := HO5.c (j := 2) rfl; have f2 := HO5.frozen 2; have HW5 := Lib.hid hown5; have HG5 := Lib.hid hg5; have HP5 := Lib.hid HO5; clear hown5 hg5 hn5 HO5)
  have hZ5 := HZx.out.kept HG5.out (HZx.out.not_row HVx.out (by decide))
  have hR5 := HRx.out.kept HG5.out (HRx.out.not_row HVx.out (by decide))
  obtain ⟨ho5, hB5⟩ := row_put (w := w1) HV4.out hB14 HW5.out HG5.out
  have HO6 := Lib.hid (HP5.out.set 2 (.slice (some ⟨g5, 0, none⟩) (l.length + 1) c5))
  have HZ5 := set_other (b := w3.heap.size) hZ5 2 (.slice (some ⟨g5, 0, none⟩) (l.length + 1) c5) (by omega)
  have HR5 := set_other (b := w3.heap.size) hR5 2 (.slice (some ⟨g5, 0, none⟩) (l.length + 1) c5) (by omega)
  have HV5 := Lib.hid (row_set ho5 w3.heap.size 2 (.slice (some ⟨g5, 0, none⟩) (l.length + 1) c5) (fun g e h => HP5.out.not_row HW5.out (by decide) (by rw [e, h])))
  have hBw5 := nxt hBw (hB5.setCell (p := ⟨w3.heap.size, 2, none⟩) hs3 (.slice (some ⟨g5, 0, none⟩) (l.length + 1) c5)) hBw.size
  clear e2 f2 o2 o2x hZ5 hR5 ho5 hB5
  generalize w5.setCell ⟨w3.heap.size, 2, none⟩ (.slice (some ⟨g5, 0, none⟩) (l.length + 1) c5) = W5 at *
  have e0 := HO6.out.c (j := 0) rfl
  have e1 := HO6.out.c (j := 1) rfl
  have e2 := HO6.out.c (j := 2) rfl
  have z0 := HZ5.c (j := 0) rfl
  have z1 := HZ5.c (j := 1) rfl
  have z2 := HZ5.c (j := 2) rfl
  have r0 := HR5.c (j := 0) rfl
  have r1 := HR5.c (j := 1) rfl
  have y0 := HZ5.frozen 0
  have y1 := HZ5.frozen 1
  have y2 := HZ5.frozen 2
  have x0 := HR5.frozen 0
  have x1 := HR5.frozen 1
  go_wp2
  obtain ⟨HZ6, HR6, hB6⟩ := filled_holds (m := w.heap.size) HZ5 HR5 (by omega) 4 0 (.slice (some ⟨g5, 0, none⟩) (l.length + 1) c5) 0 0
  change bodyPost _ _ _ _ _ (filled W5 (w.heap.size + 1) 4 0 (.slice (some ⟨g5, 0, none⟩) (l.length + 1) c5) 0 0)
  have k0 := HZ6.c (j := 0) rfl
  have k1 := HZ6.c (j := 1) rfl
  have k2 := HZ6.c (j := 2) rfl
  have q0 := HR6.c (j := 0) rfl
  have q1 := HR6.c (j := 1) rfl
  have HI6 := Lib.hid (own_ints (by simp) (row_mid (W' := filled W5 (w.heap.size + 1) 4 0 (.slice (some ⟨g5, 0, none⟩) (l.length + 1) c5) 0 0) HV5.out (fun B hB _ => filled_far _ _ _ _ _ _ _ B (by omega))))
  generalize filled W5 (w.heap.size + 1) 4 0 (.slice (some ⟨g5, 0, none⟩) (l.length + 1) c5) 0 0 = W6 at *
  refine bodyPost_ret (v := .tuple #[.agg #[.int .i64 4, .int .i64 0, (.slice (some ⟨g5, 0, none⟩) (l.length + 1) c5)], .agg #[.int .i64 0, .int .i64 0], .int .i64 0]) (by simp [results, Try.f11, go_sem, k0, k1, k2, q0, q1]) rfl ?_
  exact ⟨some ⟨g5, 0, none⟩, c5, by simp [fifoL, fifoK, fifoN, stV, retV], HI6.out, nxt hBw5 hB6 (Nat.le_refl _)⟩
set_option maxHeartbeats 2000000 in
theorem rfapply_none (A : Option Addr) (c : Nat) (w : World) (hA : Ints w A []) :
    Calls Try.prog 11 #[stV 4 0 A 0 c, .int .i64 11, .int .i64 0, .int .i64 0] w (ReadPost 4 (fifoL [] 11 0) (fifoK [] 11) (fifoN [] 11) 0 w) := by
  have hB0 := boxed3_below w 4 0 A 0 c
  have HC := rcheck_any 4 0 A c [] _ (hA.below hB0) (by simp)
  rw [show checkE 4 0 [] = 0 by rw [check_queue]; rfl] at HC
  have HA := Lib.hid hA
  have HW := Lib.hid (boxed3_state w 4 0 A 0 c)
  have HZ := Lib.hid (boxed3_then w 4 0 A 0 c)
  have HR := Lib.hid (boxed3_ret w 4 0 A 0 c)
  have hsz := boxed3_size w 4 0 A 0 c
  clear hA
  unfold stV at *
  go_enter Try.func11, Try.ntmps11
  go_wp2_with fail
  refine HC.mono ?_
  rintro e w1 ⟨rfl, hB1⟩
  generalize boxed3 w 4 0 A 0 c = W0 at *
  have HW1 := Lib.hid (HW.out.below hB1 (by omega))
  have HZ1 := Lib.hid (HZ.out.below hB1 (by omega))
  have HR1 := Lib.hid (HR.out.below hB1 (by omega))
  have hBw := nxt hB0 hB1 (by omega)
  have hlt1 := HR1.out.lt
  have s2 := HW1.out.c (j := 2) rfl
  have HROW := Lib.hid (World.ownsRow_lit (base := w1.heap.size) (e := 3) (size := 1) w1 #[] 0 (Nat.le_refl _) (Nat.zero_le _) rfl)
  have HA2 := Lib.hid ((HA.out.below hBw).below (alloc1 w1 (.cells #[] 3)))
  have hs2a : w1.heap.size ≤ (w1.alloc (.cells #[] 3)).heap.size := by simp
  have c2x : (w1.alloc (.cells #[] 3)).cell? ⟨w.heap.size, 2, none⟩ = some (.slice A 0 c) := (HW1.out.alloc _).c (j := 2) rfl
  clear hsz hB0 hB1
  go_upto_region 8 with (at_builtin; refine wpList_app _ rfl _ _ 22 rfl w1.heap.size Try.underlying22 _ _ _ rfl HROW.out A 0 c [] rfl rfl HA2.out (by omega) (by omega) hs2a ?_; intro v3 w3 hown3 hg3 hn3; obtain ⟨g3, c3, rfl⟩ := form4 hown3 hn3; rw [Nat.zero_add, List.nil_append] at hown3; have hB3 : Below w1.heap.size w1 w3 := (alloc1 w1 _).trans (grown_below hg3 HROW.out hs2a); have HO3 := Lib.hid hown3; clear hg3 hn3 c2x s2 hown3)
  have hs3 := hB3.size
  have hBw3 := nxt hBw hB3 hBw.size
  have hB4 := nxt hBw3 (alloc1 w3 (.cells #[.int .i64 4, .int .i64 0, .slice (some ⟨g3, 0, none⟩) 0 c3] 24)) hBw3.size
  have hB14 := nxt hB3 (alloc1 w3 (.cells #[.int .i64 4, .int .i64 0, .slice (some ⟨g3, 0, none⟩) 0 c3] 24)) hB3.size
  have HZ4 := Lib.hid ((HZ1.out.below hB3 (by omega)).alloc (.cells #[.int .i64 4, .int .i64 0, .slice (some ⟨g3, 0, none⟩) 0 c3] 24))
  have HR4 := Lib.hid ((HR1.out.below hB3 (by omega)).alloc (.cells #[.int .i64 4, .int .i64 0, .slice (some ⟨g3, 0, none⟩) 0 c3] 24))
  have HW4 := Lib.hid ((HW1.out.below hB3 (by omega)).alloc (.cells #[.int .i64 4, .int .i64 0, .slice (some ⟨g3, 0, none⟩) 0 c3] 24))
  have HO4 := Lib.hid (Holds.new w3 24 #[.int .i64 4, .int .i64 0, .slice (some ⟨g3, 0, none⟩) 0 c3])
  have HV4 := Lib.hid (row_below HO3.out (alloc1 w3 (.cells #[.int .i64 4, .int .i64 0, .slice (some ⟨g3, 0, none⟩) 0 c3] 24)))
  have hs4 : w3.heap.size < (w3.alloc (.cells #[.int .i64 4, .int .i64 0, .slice (some ⟨g3, 0, none⟩) 0 c3] 24)).heap.size := by simp
  clear HROW HA2 HO3
  generalize w3.alloc (.cells #[.int .i64 4, .int .i64 0, .slice (some ⟨g3, 0, none⟩) 0 c3] 24) = W4 at *
  have hsB : w.heap.size + 3 ≤ w3.heap.size := by omega
  have e0 := HO4.out.c (j := 0) rfl
  have e1 := HO4.out.c (j := 1) rfl
  have e2 := HO4.out.c (j := 2) rfl
  have s2 := HW4.out.c (j := 2) rfl
  have HZ5 := HZ4.out
  have HR5 := HR4.out
  have z0 := HZ5.c (j := 0) rfl
  have z1 := HZ5.c (j := 1) rfl
  have z2 := HZ5.c (j := 2) rfl
  have r0 := HR5.c (j := 0) rfl
  have r1 := HR5.c (j := 1) rfl
  have y0 := HZ5.frozen 0
  have y1 := HZ5.frozen 1
  have y2 := HZ5.frozen 2
  have x0 := HR5.frozen 0
  have x1 := HR5.frozen 1
  go_wp2
  obtain ⟨HZ6, HR6, hB6⟩ := filled_holds (m := w.heap.size) HZ5 HR5 (by omega) 4 0 (.slice (some ⟨g3, 0, none⟩) 0 c3) 1 0
  change bodyPost _ _ _ _ _ (filled W4 (w.heap.size + 1) 4 0 (.slice (some ⟨g3, 0, none⟩) 0 c3) 1 0)
  have k0 := HZ6.c (j := 0) rfl
  have k1 := HZ6.c (j := 1) rfl
  have k2 := HZ6.c (j := 2) rfl
  have q0 := HR6.c (j := 0) rfl
  have q1 := HR6.c (j := 1) rfl
  have HI6 := Lib.hid (own_ints rfl (row_mid (W' := filled W4 (w.heap.size + 1) 4 0 (.slice (some ⟨g3, 0, none⟩) 0 c3) 1 0) HV4.out (fun B hB _ => filled_far _ _ _ _ _ _ _ B (by omega))))
  generalize filled W4 (w.heap.size + 1) 4 0 (.slice (some ⟨g3, 0, none⟩) 0 c3) 1 0 = W6 at *
  refine bodyPost_ret (v := .tuple #[.agg #[.int .i64 4, .int .i64 0, (.slice (some ⟨g3, 0, none⟩) 0 c3)], .agg #[.int .i64 1, .int .i64 0], .int .i64 0]) (by simp [results, Try.f11, go_sem, k0, k1, k2, q0, q1]) rfl ?_
  exact ⟨some ⟨g3, 0, none⟩, c3, by simp [fifoL, fifoK, fifoN, stV, retV], HI6.out, nxt hB4 hB6 (Nat.le_refl _)⟩
set_option maxHeartbeats 2000000 in
theorem rfapply_len (A : Option Addr) (c : Nat) (l : List Int) (w : World) (hA : Ints w A l) (hlen : l.length ≤ 800) :
    Calls Try.prog 11 #[stV 4 0 A l.length c, .int .i64 12, .int .i64 0, .int .i64 0] w (ReadPost 4 (fifoL l 12 0) (fifoK l 12) (fifoN l 12) 0 w) := by
  have hB0 := boxed3_below w 4 0 A l.length c
  have HC := rcheck_any 4 0 A c l _ (hA.below hB0) (by omega)
  rw [show checkE 4 0 l = 0 by rw [check_queue]; rfl] at HC
  have HA := Lib.hid hA
  have HW := Lib.hid (boxed3_state w 4 0 A l.length c)
  have HZ := Lib.hid (boxed3_then w 4 0 A l.length c)
  have HR := Lib.hid (boxed3_ret w 4 0 A l.length c)
  have hsz := boxed3_size w 4 0 A l.length c
  clear hA
  unfold stV at *
  go_enter Try.func11, Try.ntmps11
  go_wp2_with fail
  refine HC.mono ?_
  rintro e w1 ⟨rfl, hB1⟩
  generalize boxed3 w 4 0 A l.length c = W0 at *
  have HW1 := Lib.hid (HW.out.below hB1 (by omega))
  have HZ1 := Lib.hid (HZ.out.below hB1 (by omega))
  have HR1 := Lib.hid (HR.out.below hB1 (by omega))
  have hBw := nxt hB0 hB1 (by omega)
  have hlt1 := HR1.out.lt
  have s2 := HW1.out.c (j := 2) rfl
  have HROW := Lib.hid (World.ownsRow_lit (base := w1.heap.size) (e := 3) (size := 1) w1 #[] 0 (Nat.le_refl _) (Nat.zero_le _) rfl)
  have HA2 := Lib.hid ((HA.out.below hBw).below (alloc1 w1 (.cells #[] 3)))
  have hs2a : w1.heap.size ≤ (w1.alloc (.cells #[] 3)).heap.size := by simp
  have c2x : (w1.alloc (.cells #[] 3)).cell? ⟨w.heap.size, 2, none⟩ = some (.slice A l.length c) := (HW1.out.alloc _).c (j := 2) rfl
  clear hsz hB0 hB1
  go_upto_region 8 with (at_builtin; refine wpList_app _ rfl _ _ 22 rfl w1.heap.size Try.underlying22 _ _ _ rfl HROW.out A l.length c l rfl rfl HA2.out (by omega) (by omega) hs2a ?_; intro v3 w3 hown3 hg3 hn3; obtain ⟨g3, c3, rfl⟩ := form4 hown3 hn3; rw [Nat.zero_add, List.nil_append] at hown3; have hB3 : Below w1.heap.size w1 w3 := (alloc1 w1 _).trans (grown_below hg3 HROW.out hs2a); have HO3 := Lib.hid hown3; clear hg3 hn3 c2x s2 hown3)
  have hs3 := hB3.size
  have hBw3 := nxt hBw hB3 hBw.size
  have hB4 := nxt hBw3 (alloc1 w3 (.cells #[.int .i64 4, .int .i64 0, .slice (some ⟨g3, 0, none⟩) l.length c3] 24)) hBw3.size
  have hB14 := nxt hB3 (alloc1 w3 (.cells #[.int .i64 4, .int .i64 0, .slice (some ⟨g3, 0, none⟩) l.length c3] 24)) hB3.size
  have HZ4 := Lib.hid ((HZ1.out.below hB3 (by omega)).alloc (.cells #[.int .i64 4, .int .i64 0, .slice (some ⟨g3, 0, none⟩) l.length c3] 24))
  have HR4 := Lib.hid ((HR1.out.below hB3 (by omega)).alloc (.cells #[.int .i64 4, .int .i64 0, .slice (some ⟨g3, 0, none⟩) l.length c3] 24))
  have HW4 := Lib.hid ((HW1.out.below hB3 (by omega)).alloc (.cells #[.int .i64 4, .int .i64 0, .slice (some ⟨g3, 0, none⟩) l.length c3] 24))
  have HO4 := Lib.hid (Holds.new w3 24 #[.int .i64 4, .int .i64 0, .slice (some ⟨g3, 0, none⟩) l.length c3])
  have HV4 := Lib.hid (row_below HO3.out (alloc1 w3 (.cells #[.int .i64 4, .int .i64 0, .slice (some ⟨g3, 0, none⟩) l.length c3] 24)))
  have hs4 : w3.heap.size < (w3.alloc (.cells #[.int .i64 4, .int .i64 0, .slice (some ⟨g3, 0, none⟩) l.length c3] 24)).heap.size := by simp
  clear HROW HA2 HO3
  generalize w3.alloc (.cells #[.int .i64 4, .int .i64 0, .slice (some ⟨g3, 0, none⟩) l.length c3] 24) = W4 at *
  have hsB : w.heap.size + 3 ≤ w3.heap.size := by omega
  have s2 := HW4.out.c (j := 2) rfl
  have HSS := And.intro (holds_drew1 HO4.out) (holds_drew1 HW4.out)
  have HZ5 := HZ4.out
  have HR5 := HR4.out
  have HO5 := HO4.out
  have HW5 := HW4.out
  have z0 := HZ5.c (j := 0) rfl
  have z1 := HZ5.c (j := 1) rfl
  have z2 := HZ5.c (j := 2) rfl
  have r0 := HR5.c (j := 0) rfl
  have r1 := HR5.c (j := 1) rfl
  have y0 := HZ5.frozen 0
  have y1 := HZ5.frozen 1
  have y2 := HZ5.frozen 2
  have x0 := HR5.frozen 0
  have x1 := HR5.frozen 1
  go_wp2_with fail
  refine wp_region_noPanic ?_
  refine wp_region_picked [(0, true), (1, true), (2, true), (3, true), (4, true), (5, false), (6, false), (7, true)] (fun W' => Holds W' w3.heap.size 24 #[.int .i64 4, .int .i64 0, (.slice (some ⟨g3, 0, none⟩) l.length c3)] ∧ Holds W' w.heap.size 24 #[.int .i64 4, .int .i64 0, .slice A l.length c]) (by kernel_rfl) (by kernel_rfl) (fun _ _ _ _ _ h => h) HSS ?_
  iterate 5
    refine Picked.take ?_ (by rfl) (by rfl) ?_ ?_
    rotate_left
    · rintro w' ⟨h1, h2⟩
      have q0 := h1.c (j := 0) rfl
      have q1 := h1.c (j := 1) rfl
      have q2 := h1.c (j := 2) rfl
      have d2 := h2.c (j := 2) rfl
      go_simp
      try with_reducible rfl
    simp only [Act.put, List.getElem_toArray, List.getElem_cons_zero, List.getElem_cons_succ, List.setIfInBounds_toArray, List.set_cons_zero, List.set_cons_succ]
  refine ⟨_, by rfl, by rfl, ?_⟩
  go_simp
  refine ⟨⟨set3_drew1 HO5 (by omega), set3_drew1 HW5 (by omega)⟩, ?_⟩
  refine ⟨_, by rfl, by rfl, ?_⟩
  go_simp
  refine ⟨⟨set5_drew1 HO5 (by omega) (by omega), set5_drew1 HW5 (by omega) (by omega)⟩, ?_⟩
  refine Picked.take (.int .i64 0) (by rfl) (by rfl) (fun w' _ => by go_simp) ?_
  simp only [Act.put, List.getElem_toArray, List.getElem_cons_zero, List.getElem_cons_succ, List.setIfInBounds_toArray, List.set_cons_zero, List.set_cons_succ]
  refine NoPanic.normal ?_
  obtain ⟨HZ6, HR6, hB6⟩ := filled_holds (m := w.heap.size) HZ5 HR5 (by omega) 4 0 (.slice (some ⟨g3, 0, none⟩) l.length c3) 2 l.length
  change Exit.then _ _ _ _ (filled W4 (w.heap.size + 1) 4 0 (.slice (some ⟨g3, 0, none⟩) l.length c3) 2 l.length).drew
  have k0 := HZ6.c (j := 0) rfl
  have k1 := HZ6.c (j := 1) rfl
  have k2 := HZ6.c (j := 2) rfl
  have q0 := HR6.c (j := 0) rfl
  have q1 := HR6.c (j := 1) rfl
  have HI6 := Lib.hid (own_ints rfl (row_mid (W' := filled W4 (w.heap.size + 1) 4 0 (.slice (some ⟨g3, 0, none⟩) l.length c3) 2 l.length) HV4.out (fun B hB _ => filled_far _ _ _ _ _ _ _ B (by omega))))
  generalize filled W4 (w.heap.size + 1) 4 0 (.slice (some ⟨g3, 0, none⟩) l.length c3) 2 l.length = W6 at *
  go_wp2
  refine bodyPost_ret (v := .tuple #[.agg #[.int .i64 4, .int .i64 0, (.slice (some ⟨g3, 0, none⟩) l.length c3)], .agg #[.int .i64 2, .int .i64 l.length], .int .i64 0]) (by simp [results, Try.f11, go_sem, k0, k1, k2, q0, q1]) rfl ?_
  exact ⟨some ⟨g3, 0, none⟩, c3, by simp [fifoL, fifoK, fifoN, stV, retV], HI6.out, (nxt hB4 hB6 (Nat.le_refl _)).drew⟩
set_option maxHeartbeats 2000000 in
theorem rfapply_deq (A : Option Addr) (c : Nat) (l : List Int) (y : Int) (w : World) (hA : Ints w A l) (hlen : l.length ≤ 800) (hy : l[0]? = some y) :
    Calls Try.prog 11 #[stV 4 0 A l.length c, .int .i64 11, .int .i64 0, .int .i64 0] w (ReadPost 4 (fifoL l 11 0) (fifoK l 11) (fifoN l 11) 0 w) := by
  have hB0 := boxed3_below w 4 0 A l.length c
  have HC := rcheck_any 4 0 A c l _ (hA.below hB0) (by omega)
  rw [show checkE 4 0 l = 0 by rw [check_queue]; rfl] at HC
  have HA := Lib.hid hA
  have HW := Lib.hid (boxed3_state w 4 0 A l.length c)
  have HZ := Lib.hid (boxed3_then w 4 0 A l.length c)
  have HR := Lib.hid (boxed3_ret w 4 0 A l.length c)
  have hsz := boxed3_size w 4 0 A l.length c
  clear hA
  unfold stV at *
  go_enter Try.func11, Try.ntmps11
  go_wp2_with fail
  refine HC.mono ?_
  rintro e w1 ⟨rfl, hB1⟩
  generalize boxed3 w 4 0 A l.length c = W0 at *
  have HW1 := Lib.hid (HW.out.below hB1 (by omega))
  have HZ1 := Lib.hid (HZ.out.below hB1 (by omega))
  have HR1 := Lib.hid (HR.out.below hB1 (by omega))
  have hBw := nxt hB0 hB1 (by omega)
  have hlt1 := HR1.out.lt
  have s2 := HW1.out.c (j := 2) rfl
  have HROW := Lib.hid (World.ownsRow_lit (base := w1.heap.size) (e := 3) (size := 1) w1 #[] 0 (Nat.le_refl _) (Nat.zero_le _) rfl)
  have HA2 := Lib.hid ((HA.out.below hBw).below (alloc1 w1 (.cells #[] 3)))
  have hs2a : w1.heap.size ≤ (w1.alloc (.cells #[] 3)).heap.size := by simp
  have c2x : (w1.alloc (.cells #[] 3)).cell? ⟨w.heap.size, 2, none⟩ = some (.slice A l.length c) := (HW1.out.alloc _).c (j := 2) rfl
  clear hsz hB0 hB1
  go_upto_region 8 with (at_builtin; refine wpList_app _ rfl _ _ 22 rfl w1.heap.size Try.underlying22 _ _ _ rfl HROW.out A l.length c l rfl rfl HA2.out (by omega) (by omega) hs2a ?_; intro v3 w3 hown3 hg3 hn3; obtain ⟨g3, c3, rfl⟩ := form4 hown3 hn3; rw [Nat.zero_add, List.nil_append] at hown3; have hB3 : Below w1.heap.size w1 w3 := (alloc1 w1 _).trans (grown_below hg3 HROW.out hs2a); have HO3 := Lib.hid hown3; clear hg3 hn3 c2x s2 hown3)
  have hs3 := hB3.size
  have hBw3 := nxt hBw hB3 hBw.size
  have hB4 := nxt hBw3 (alloc1 w3 (.cells #[.int .i64 4, .int .i64 0, .slice (some ⟨g3, 0, none⟩) l.length c3] 24)) hBw3.size
  have hB14 := nxt hB3 (alloc1 w3 (.cells #[.int .i64 4, .int .i64 0, .slice (some ⟨g3, 0, none⟩) l.length c3] 24)) hB3.size
  have HZ4 := Lib.hid ((HZ1.out.below hB3 (by omega)).alloc (.cells #[.int .i64 4, .int .i64 0, .slice (some ⟨g3, 0, none⟩) l.length c3] 24))
  have HR4 := Lib.hid ((HR1.out.below hB3 (by omega)).alloc (.cells #[.int .i64 4, .int .i64 0, .slice (some ⟨g3, 0, none⟩) l.length c3] 24))
  have HW4 := Lib.hid ((HW1.out.below hB3 (by omega)).alloc (.cells #[.int .i64 4, .int .i64 0, .slice (some ⟨g3, 0, none⟩) l.length c3] 24))
  have HO4 := Lib.hid (Holds.new w3 24 #[.int .i64 4, .int .i64 0, .slice (some ⟨g3, 0, none⟩) l.length c3])
  have HV4 := Lib.hid (row_below HO3.out (alloc1 w3 (.cells #[.int .i64 4, .int .i64 0, .slice (some ⟨g3, 0, none⟩) l.length c3] 24)))
  have hs4 : w3.heap.size < (w3.alloc (.cells #[.int .i64 4, .int .i64 0, .slice (some ⟨g3, 0, none⟩) l.length c3] 24)).heap.size := by simp
  clear HROW HA2 HO3
  generalize w3.alloc (.cells #[.int .i64 4, .int .i64 0, .slice (some ⟨g3, 0, none⟩) l.length c3] 24) = W4 at *
  have hsB : w.heap.size + 3 ≤ w3.heap.size := by omega
  have hl1 : 0 < l.length := (List.getElem?_eq_some_iff.1 hy).1
  have hl2 : ¬ l.length = 0 := by omega
  have hl3 : ¬ l = [] := fun e => by rw [e] at hl1; cases hl1
  have hl4 : ((l.length : Int) == 0) = false := by simp; exact hl3
  have hfit := row_fit HV4.out
  have HL := Lib.hid hy
  obtain ⟨b, off, rfl, hbx, hc⟩ := HA.out hl1
  have cy := hc 0 hl1
  rw [hy, Nat.add_zero] at cy
  have hBx : Below w.heap.size w W4 := hB4
  have g1 : (1 : Int) ≤ (l.length : Int) := by omega
  have g2 : (1 : Int) ≤ (c3 : Int) := by omega
  have g3' : (l.length : Int) ≤ (c3 : Int) := by omega
  have o2 := HO4.out.c (j := 2) rfl
  have f2 := HO4.out.frozen 2
  have s2 := HW4.out.c (j := 2) rfl
  clear hc hy
  by_cases hcp : c3 = 1
  · have HIs := Lib.hid (fun (W : World) (h : W.ownsRow w1.heap.size 3 1 (.slice (some ⟨g3, 0, none⟩) l.length c3) l.length (intsOf l)) => deq_one (own_ints rfl h) hfit hcp)
    go_upto_region 17 with fail
    have hOO := HO4.out.set 2 (.slice (some ⟨g3, 0, none⟩) (l.length - 1) 0)
    have hZZ := set_other (b := w3.heap.size) HZ4.out 2 (.slice (some ⟨g3, 0, none⟩) (l.length - 1) 0) (by omega)
    have hRR := set_other (b := w3.heap.size) HR4.out 2 (.slice (some ⟨g3, 0, none⟩) (l.length - 1) 0) (by omega)
    have hWW := set_other (b := w3.heap.size) HW4.out 2 (.slice (some ⟨g3, 0, none⟩) (l.length - 1) 0) (by omega)
    have hVV := row_set HV4.out w3.heap.size 2 (.slice (some ⟨g3, 0, none⟩) (l.length - 1) 0) (fun g e h => HO4.out.not_row HV4.out (by decide) (by rw [e, h]))
    have hBB := nxt hBw (hB14.setCell (p := ⟨w3.heap.size, 2, none⟩) hs3 (.slice (some ⟨g3, 0, none⟩) (l.length - 1) 0)) hBw.size
    have cyy := (hBx.setCell (p := ⟨w3.heap.size, 2, none⟩) (show w.heap.size ≤ w3.heap.size by omega) (.slice (some ⟨g3, 0, none⟩) (l.length - 1) 0) |>.cell (p := ⟨b, off, none⟩) hbx).trans cy
    clear o2 f2
    generalize W4.setCell ⟨w3.heap.size, 2, none⟩ (.slice (some ⟨g3, 0, none⟩) (l.length - 1) 0) = W5 at *
    have HSS := And.intro (holds_drew1 hOO) (And.intro (holds_drew1 hWW) cyy)
    have HZ5 := hZZ
    have HR5 := hRR
    have HO5 := hOO
    have HW5 := hWW
    have z0 := HZ5.c (j := 0) rfl
    have z1 := HZ5.c (j := 1) rfl
    have z2 := HZ5.c (j := 2) rfl
    have r0 := HR5.c (j := 0) rfl
    have r1 := HR5.c (j := 1) rfl
    have y0 := HZ5.frozen 0
    have y1 := HZ5.frozen 1
    have y2 := HZ5.frozen 2
    have x0 := HR5.frozen 0
    have x1 := HR5.frozen 1
    refine wp_region_noPanic ?_
    refine wp_region_picked [(0, true), (1, true), (2, true), (3, true), (4, true), (5, true), (6, false), (7, false), (8, true)] (fun W' => Holds W' w3.heap.size 24 #[.int .i64 4, .int .i64 0, .slice (some ⟨g3, 0, none⟩) (l.length - 1) 0] ∧ Holds W' w.heap.size 24 #[.int .i64 4, .int .i64 0, .slice (some ⟨b, off, none⟩) l.length c] ∧ W'.cell? ⟨b, off, none⟩ = some (.int .i64 y)) (by kernel_rfl) (by kernel_rfl) (fun _ _ _ _ _ h => h) HSS ?_
    iterate 6
      refine Picked.take ?_ (by rfl) (by rfl) ?_ ?_
      rotate_left
      · rintro w' ⟨h1, h2, h3⟩
        have q0 := h1.c (j := 0) rfl
        have q1 := h1.c (j := 1) rfl
        have q2 := h1.c (j := 2) rfl
        have d2 := h2.c (j := 2) rfl
        go_simp
        try with_reducible rfl
      simp only [Act.put, List.getElem_toArray, List.getElem_cons_zero, List.getElem_cons_succ, List.setIfInBounds_toArray, List.set_cons_zero, List.set_cons_succ]
    refine ⟨_, by rfl, by rfl, ?_⟩
    go_simp
    first | refine ⟨⟨set3_drew1 HO5 (by omega), set3_drew1 HW5 (by omega), cell3 cyy (by omega)⟩, ?_⟩ | refine ⟨set3_drew1 HO5 (by omega), set3_drew1 HW5 (by omega), cell3 cyy (by omega), ?_⟩ | refine ⟨set3_drew1 HO5 (by omega), set3_drew1 HW5 (by omega), ?_⟩ | refine ⟨⟨set3_drew1 HO5 (by omega), set3_drew1 HW5 (by omega)⟩, ?_⟩
    refine ⟨_, by rfl, by rfl, ?_⟩
    go_simp
    first | refine ⟨⟨set5_drew1 HO5 (by omega) (by omega), set5_drew1 HW5 (by omega) (by omega), cell5 cyy (by omega) (by omega)⟩, ?_⟩ | refine ⟨set5_drew1 HO5 (by omega) (by omega), set5_drew1 HW5 (by omega) (by omega), cell5 cyy (by omega) (by omega), ?_⟩ | refine ⟨set5_drew1 HO5 (by omega) (by omega), set5_drew1 HW5 (by omega) (by omega), ?_⟩ | refine ⟨⟨set5_drew1 HO5 (by omega) (by omega), set5_drew1 HW5 (by omega) (by omega)⟩, ?_⟩
    refine Picked.take (.int .i64 0) (by rfl) (by rfl) (fun w' _ => by go_simp) ?_
    simp only [Act.put, List.getElem_toArray, List.getElem_cons_zero, List.getElem_cons_succ, List.setIfInBounds_toArray, List.set_cons_zero, List.set_cons_succ]
    refine NoPanic.normal ?_
    obtain ⟨HZ6, HR6, hB6⟩ := filled_holds (m := w.heap.size) HZ5 HR5 (by omega) 4 0 (.slice (some ⟨g3, 0, none⟩) (l.length - 1) 0) 2 y
    change Exit.then _ _ _ _ (filled W5 (w.heap.size + 1) 4 0 (.slice (some ⟨g3, 0, none⟩) (l.length - 1) 0) 2 y).drew
    have k0 := HZ6.c (j := 0) rfl
    have k1 := HZ6.c (j := 1) rfl
    have k2 := HZ6.c (j := 2) rfl
    have q0 := HR6.c (j := 0) rfl
    have q1 := HR6.c (j := 1) rfl
    have HI6 := Lib.hid ((HIs.out _ (row_mid (W' := filled W5 (w.heap.size + 1) 4 0 (.slice (some ⟨g3, 0, none⟩) (l.length - 1) 0) 2 y) hVV (fun B hB _ => filled_far _ _ _ _ _ _ _ B (by omega)))))
    generalize filled W5 (w.heap.size + 1) 4 0 (.slice (some ⟨g3, 0, none⟩) (l.length - 1) 0) 2 y = W6 at *
    go_wp2
    refine bodyPost_ret (v := .tuple #[.agg #[.int .i64 4, .int .i64 0, (.slice (some ⟨g3, 0, none⟩) (l.length - 1) 0)], .agg #[.int .i64 2, .int .i64 y], .int .i64 0]) (by simp [results, Try.f11, go_sem, k0, k1, k2, q0, q1]) rfl ?_
    rw [deq_says HL.out]
    exact ⟨some ⟨g3, 0, none⟩, 0, by rw [List.length_drop]; rfl, HI6.out, (nxt hBB hB6 (Nat.le_refl _)).drew⟩
  · have HIs := Lib.hid (fun (W : World) (h : W.ownsRow w1.heap.size 3 1 (.slice (some ⟨g3, 0, none⟩) l.length c3) l.length (intsOf l)) => deq_more (own_ints rfl h) hfit hcp)
    go_upto_region 17 with fail
    have hOO := HO4.out.set 2 (.slice (some ⟨g3, 1, none⟩) (l.length - 1) (c3 - 1))
    have hZZ := set_other (b := w3.heap.size) HZ4.out 2 (.slice (some ⟨g3, 1, none⟩) (l.length - 1) (c3 - 1)) (by omega)
    have hRR := set_other (b := w3.heap.size) HR4.out 2 (.slice (some ⟨g3, 1, none⟩) (l.length - 1) (c3 - 1)) (by omega)
    have hWW := set_other (b := w3.heap.size) HW4.out 2 (.slice (some ⟨g3, 1, none⟩) (l.length - 1) (c3 - 1)) (by omega)
    have hVV := row_set HV4.out w3.heap.size 2 (.slice (some ⟨g3, 1, none⟩) (l.length - 1) (c3 - 1)) (fun g e h => HO4.out.not_row HV4.out (by decide) (by rw [e, h]))
    have hBB := nxt hBw (hB14.setCell (p := ⟨w3.heap.size, 2, none⟩) hs3 (.slice (some ⟨g3, 1, none⟩) (l.length - 1) (c3 - 1))) hBw.size
    have cyy := (hBx.setCell (p := ⟨w3.heap.size, 2, none⟩) (show w.heap.size ≤ w3.heap.size by omega) (.slice (some ⟨g3, 1, none⟩) (l.length - 1) (c3 - 1)) |>.cell (p := ⟨b, off, none⟩) hbx).trans cy
    clear o2 f2
    generalize W4.setCell ⟨w3.heap.size, 2, none⟩ (.slice (some ⟨g3, 1, none⟩) (l.length - 1) (c3 - 1)) = W5 at *
    have HSS := And.intro (holds_drew1 hOO) (And.intro (holds_drew1 hWW) cyy)
    have HZ5 := hZZ
    have HR5 := hRR
    have HO5 := hOO
    have HW5 := hWW
    have z0 := HZ5.c (j := 0) rfl
    have z1 := HZ5.c (j := 1) rfl
    have z2 := HZ5.c (j := 2) rfl
    have r0 := HR5.c (j := 0) rfl
    have r1 := HR5.c (j := 1) rfl
    have y0 := HZ5.frozen 0
    have y1 := HZ5.frozen 1
    have y2 := HZ5.frozen 2
    have x0 := HR5.frozen 0
    have x1 := HR5.frozen 1
    refine wp_region_noPanic ?_
    refine wp_region_picked [(0, true), (1, true), (2, true), (3, true), (4, true), (5, true), (6, false), (7, false), (8, true)] (fun W' => Holds W' w3.heap.size 24 #[.int .i64 4, .int .i64 0, .slice (some ⟨g3, 1, none⟩) (l.length - 1) (c3 - 1)] ∧ Holds W' w.heap.size 24 #[.int .i64 4, .int .i64 0, .slice (some ⟨b, off, none⟩) l.length c] ∧ W'.cell? ⟨b, off, none⟩ = some (.int .i64 y)) (by kernel_rfl) (by kernel_rfl) (fun _ _ _ _ _ h => h) HSS ?_
    iterate 6
      refine Picked.take ?_ (by rfl) (by rfl) ?_ ?_
      rotate_left
      · rintro w' ⟨h1, h2, h3⟩
        have q0 := h1.c (j := 0) rfl
        have q1 := h1.c (j := 1) rfl
        have q2 := h1.c (j := 2) rfl
        have d2 := h2.c (j := 2) rfl
        go_simp
        try with_reducible rfl
      simp only [Act.put, List.getElem_toArray, List.getElem_cons_zero, List.getElem_cons_succ, List.setIfInBounds_toArray, List.set_cons_zero, List.set_cons_succ]
    refine ⟨_, by rfl, by rfl, ?_⟩
    go_simp
    first | refine ⟨⟨set3_drew1 HO5 (by omega), set3_drew1 HW5 (by omega), cell3 cyy (by omega)⟩, ?_⟩ | refine ⟨set3_drew1 HO5 (by omega), set3_drew1 HW5 (by omega), cell3 cyy (by omega), ?_⟩ | refine ⟨set3_drew1 HO5 (by omega), set3_drew1 HW5 (by omega), ?_⟩ | refine ⟨⟨set3_drew1 HO5 (by omega), set3_drew1 HW5 (by omega)⟩, ?_⟩
    refine ⟨_, by rfl, by rfl, ?_⟩
    go_simp
    first | refine ⟨⟨set5_drew1 HO5 (by omega) (by omega), set5_drew1 HW5 (by omega) (by omega), cell5 cyy (by omega) (by omega)⟩, ?_⟩ | refine ⟨set5_drew1 HO5 (by omega) (by omega), set5_drew1 HW5 (by omega) (by omega), cell5 cyy (by omega) (by omega), ?_⟩ | refine ⟨set5_drew1 HO5 (by omega) (by omega), set5_drew1 HW5 (by omega) (by omega), ?_⟩ | refine ⟨⟨set5_drew1 HO5 (by omega) (by omega), set5_drew1 HW5 (by omega) (by omega)⟩, ?_⟩
    refine Picked.take (.int .i64 0) (by rfl) (by rfl) (fun w' _ => by go_simp) ?_
    simp only [Act.put, List.getElem_toArray, List.getElem_cons_zero, List.getElem_cons_succ, List.setIfInBounds_toArray, List.set_cons_zero, List.set_cons_succ]
    refine NoPanic.normal ?_
    obtain ⟨HZ6, HR6, hB6⟩ := filled_holds (m := w.heap.size) HZ5 HR5 (by omega) 4 0 (.slice (some ⟨g3, 1, none⟩) (l.length - 1) (c3 - 1)) 2 y
    change Exit.then _ _ _ _ (filled W5 (w.heap.size + 1) 4 0 (.slice (some ⟨g3, 1, none⟩) (l.length - 1) (c3 - 1)) 2 y).drew
    have k0 := HZ6.c (j := 0) rfl
    have k1 := HZ6.c (j := 1) rfl
    have k2 := HZ6.c (j := 2) rfl
    have q0 := HR6.c (j := 0) rfl
    have q1 := HR6.c (j := 1) rfl
    have HI6 := Lib.hid ((HIs.out _ (row_mid (W' := filled W5 (w.heap.size + 1) 4 0 (.slice (some ⟨g3, 1, none⟩) (l.length - 1) (c3 - 1)) 2 y) hVV (fun B hB _ => filled_far _ _ _ _ _ _ _ B (by omega)))))
    generalize filled W5 (w.heap.size + 1) 4 0 (.slice (some ⟨g3, 1, none⟩) (l.length - 1) (c3 - 1)) 2 y = W6 at *
    go_wp2
    refine bodyPost_ret (v := .tuple #[.agg #[.int .i64 4, .int .i64 0, (.slice (some ⟨g3, 1, none⟩) (l.length - 1) (c3 - 1))], .agg #[.int .i64 2, .int .i64 y], .int .i64 0]) (by simp [results, Try.f11, go_sem, k0, k1, k2, q0, q1]) rfl ?_
    rw [deq_says HL.out]
    exact ⟨some ⟨g3, 1, none⟩, (c3 - 1), by rw [List.length_drop]; rfl, HI6.out, (nxt hBB hB6 (Nat.le_refl _)).drew⟩
end Go.Proofs.Ythnaogdiiflljaa
