/- Contracts of the layer set: Apply. (Written by wip/tools/gen_see.py.) -/
import Derived.Test.YtmhnnilfehankaaSeD
import Derived.Test.YtmhnnilfehankaaCnA
namespace Go.Proofs.Ytmhnnilfehankaa
open Go.RowKit Go.Maps
set_option linter.unusedVariables false

/-- What Apply tells: the state then (a list of its own), what is returned, the error. -/
def SetPost (t : Int) (m : List Int) (k r er : Int) (w : World) (e : Ending) (w' : World) : Prop :=
  ∃ A c, e = .returned (.tuple #[stV t 0 A m.length c, retV k r, .int .i64 er]) ∧ w'.ownsRow w.heap.size 3 1 (.slice A m.length c) m.length (intsOf m) ∧ Below w.heap.size w w'
theorem set_none (w w' : World) (er : Int) (hB : Below w.heap.size w w') : SetPost 0 [] 0 0 er w (.returned (ansV 0 0 0 0 er)) w' := ⟨none, 0, rfl, World.ownsRow_nil _ _ _ _, hB⟩
theorem row_mid {W W' : World} {base : Nat} {e : TypeId} {size : Nat} {v : Value} {n : Nat} {xs : List Value} (h : W.ownsRow base e size v n xs) (hM : ∀ B, base ≤ B → B < W.heap.size → W'.heap[B]? = W.heap[B]?) : W'.ownsRow base e size v n xs := by
  refine ⟨h.1, ?_⟩
  rcases h.2 with h' | ⟨g, cap, cur, h1, h2, h3, h4⟩
  · exact .inl h'
  · exact .inr ⟨g, cap, cur, h1, h2, (hM g h2 (Array.getElem?_eq_some_iff.1 h3).1).trans h3, h4⟩
theorem filled_far (w : World) (Z : Nat) (t n : Int) (v : Value) (k r : Int) (B : Nat) (hB : Z + 1 < B) : (filled w Z t n v k r).heap[B]? = w.heap[B]? := by
  have e0 : ∀ (W : World) off u, (W.setCell ⟨Z, off, none⟩ u).heap[B]? = W.heap[B]? := fun W off u => Below.heap_setCell _ _ _ _ (show B ≠ Z by omega)
  have e1 : ∀ (W : World) off u, (W.setCell ⟨Z + 1, off, none⟩ u).heap[B]? = W.heap[B]? := fun W off u => Below.heap_setCell _ _ _ _ (show B ≠ Z + 1 by omega)
  exact (((((e1 _ _ _).trans (e1 _ _ _)).trans (e0 _ _ _)).trans (e0 _ _ _)).trans (e0 _ _ _))

theorem sapply_state (t n : Int) (A : Option Addr) (c : Nat) (l : List Int) (kd a b : Int) (w : World) (h : t ≠ 2) :
    Calls Try.prog 10 #[stV t n A l.length c, .int .i64 kd, .int .i64 a, .int .i64 b] w (SetPost 0 [] 0 0 12 w) := by
  have ht : (t != 2) = true := by rw [bne_iff_ne]; exact h
  clear h
  unfold stV
  go_enter Try.func10, Try.ntmps10
  go_wp2
  refine bodyPost_ret (v := ansV 0 0 0 0 12) (by simp [results, Try.f10, go_sem, ansV, stV, retV]) rfl ?_
  exact set_none _ _ _ (boxed3_below w _ _ _ _ _)
set_option maxHeartbeats 1000000 in
theorem sapply_form (n : Int) (A : Option Addr) (c : Nat) (l : List Int) (kd a b : Int) (w : World) (hA : Ints w A l) (hlen : l.length ≤ 1000) (h : ¬ (n = 0 ∧ Rise l)) :
    Calls Try.prog 10 #[stV 2 n A l.length c, .int .i64 kd, .int .i64 a, .int .i64 b] w (SetPost 0 [] 0 0 12 w) := by
  have hB0 := boxed3_below w 2 n A l.length c
  have H := check_any 2 n A c l _ (hA.below hB0) hlen
  have hc : checkE 2 n l = 5 := by
    have : fitsB 2 n l ≠ true := fun e => h (by
      simp only [fitsB] at e
      simp at e
      exact ⟨e.1, (rise_iff l).1 e.2⟩)
    simp [checkE, this]
  rw [hc] at H
  clear h
  have HZ := Lib.hid (boxed3_then w 2 n A l.length c)
  have HR := Lib.hid (boxed3_ret w 2 n A l.length c)
  have hsz := boxed3_size w 2 n A l.length c
  clear hc hA
  unfold stV at *
  go_enter Try.func10, Try.ntmps10
  go_wp2_with fail
  refine H.mono ?_
  rintro e w1 ⟨rfl, hB1⟩
  generalize boxed3 w 2 n A l.length c = W0 at *
  have HZ1 := Lib.hid (HZ.out.below hB1 (by omega))
  have HR1 := Lib.hid (HR.out.below hB1 (by omega))
  have z0 := HZ1.out.c (j := 0) rfl
  have z1 := HZ1.out.c (j := 1) rfl
  have z2 := HZ1.out.c (j := 2) rfl
  have r0 := HR1.out.c (j := 0) rfl
  have r1 := HR1.out.c (j := 1) rfl
  have y0 := HZ1.out.frozen 0
  have y1 := HZ1.out.frozen 1
  have y2 := HZ1.out.frozen 2
  have x0 := HR1.out.frozen 0
  have x1 := HR1.out.frozen 1
  have hBw := nxt hB0 hB1 (by omega)
  clear hsz
  go_wp2
  obtain ⟨HZ2, HR2, hB2⟩ := filled_holds (m := w.heap.size) HZ1.out HR1.out (by omega) 0 0 (.slice none 0 0) 0 0
  have k0 := HZ2.c (j := 0) rfl
  have k1 := HZ2.c (j := 1) rfl
  have k2 := HZ2.c (j := 2) rfl
  have q0 := HR2.c (j := 0) rfl
  have q1 := HR2.c (j := 1) rfl
  change bodyPost _ _ _ _ _ (filled w1 (w.heap.size + 1) 0 0 (.slice none 0 0) 0 0)
  generalize filled w1 (w.heap.size + 1) 0 0 (.slice none 0 0) 0 0 = W2 at *
  refine bodyPost_ret (v := ansV 0 0 0 0 12) (by simp [results, Try.f10, go_sem, ansV, stV, retV, k0, k1, k2, q0, q1]) rfl ?_
  exact set_none _ _ _ (nxt hBw hB2 (Nat.le_refl _))
set_option maxHeartbeats 1000000 in
theorem sapply_word (A : Option Addr) (c : Nat) (l : List Int) (kd a b : Int) (w : World) (hA : Ints w A l) (hlen : l.length ≤ 1000) (hr : Rise l) (h : kd < 3) :
    Calls Try.prog 10 #[stV 2 0 A l.length c, .int .i64 kd, .int .i64 a, .int .i64 b] w (SetPost 0 [] 0 0 6 w) := by
  have hB0 := boxed3_below w 2 0 A l.length c
  have H := check_any 2 0 A c l _ (hA.below hB0) hlen
  have hc : checkE 2 0 l = 0 := by
    simp [checkE, fitsB, (rise_iff l).2 hr]
  rw [hc] at H
  have d1 : decide (kd < 3) = true := decide_eq_true h
  have HZ := Lib.hid (boxed3_then w 2 0 A l.length c)
  have HR := Lib.hid (boxed3_ret w 2 0 A l.length c)
  have hsz := boxed3_size w 2 0 A l.length c
  clear hc hA
  unfold stV at *
  go_enter Try.func10, Try.ntmps10
  go_wp2_with fail
  refine H.mono ?_
  rintro e w1 ⟨rfl, hB1⟩
  generalize boxed3 w 2 0 A l.length c = W0 at *
  have HZ1 := Lib.hid (HZ.out.below hB1 (by omega))
  have HR1 := Lib.hid (HR.out.below hB1 (by omega))
  have z0 := HZ1.out.c (j := 0) rfl
  have z1 := HZ1.out.c (j := 1) rfl
  have z2 := HZ1.out.c (j := 2) rfl
  have r0 := HR1.out.c (j := 0) rfl
  have r1 := HR1.out.c (j := 1) rfl
  have y0 := HZ1.out.frozen 0
  have y1 := HZ1.out.frozen 1
  have y2 := HZ1.out.frozen 2
  have x0 := HR1.out.frozen 0
  have x1 := HR1.out.frozen 1
  have hBw := nxt hB0 hB1 (by omega)
  clear hsz
  go_wp2
  obtain ⟨HZ2, HR2, hB2⟩ := filled_holds (m := w.heap.size) HZ1.out HR1.out (by omega) 0 0 (.slice none 0 0) 0 0
  have k0 := HZ2.c (j := 0) rfl
  have k1 := HZ2.c (j := 1) rfl
  have k2 := HZ2.c (j := 2) rfl
  have q0 := HR2.c (j := 0) rfl
  have q1 := HR2.c (j := 1) rfl
  change bodyPost _ _ _ _ _ (filled w1 (w.heap.size + 1) 0 0 (.slice none 0 0) 0 0)
  generalize filled w1 (w.heap.size + 1) 0 0 (.slice none 0 0) 0 0 = W2 at *
  refine bodyPost_ret (v := ansV 0 0 0 0 6) (by simp [results, Try.f10, go_sem, ansV, stV, retV, k0, k1, k2, q0, q1]) rfl ?_
  exact set_none _ _ _ (nxt hBw hB2 (Nat.le_refl _))
set_option maxHeartbeats 1000000 in
theorem sapply_word2 (A : Option Addr) (c : Nat) (l : List Int) (kd a b : Int) (w : World) (hA : Ints w A l) (hlen : l.length ≤ 1000) (hr : Rise l) (h : 6 < kd) :
    Calls Try.prog 10 #[stV 2 0 A l.length c, .int .i64 kd, .int .i64 a, .int .i64 b] w (SetPost 0 [] 0 0 6 w) := by
  have hB0 := boxed3_below w 2 0 A l.length c
  have H := check_any 2 0 A c l _ (hA.below hB0) hlen
  have hc : checkE 2 0 l = 0 := by
    simp [checkE, fitsB, (rise_iff l).2 hr]
  rw [hc] at H
  have d1 : decide (kd < 3) = false := decide_eq_false (by omega)
  have d2 : decide (6 < kd) = true := decide_eq_true h
  have HZ := Lib.hid (boxed3_then w 2 0 A l.length c)
  have HR := Lib.hid (boxed3_ret w 2 0 A l.length c)
  have hsz := boxed3_size w 2 0 A l.length c
  clear hc hA
  unfold stV at *
  go_enter Try.func10, Try.ntmps10
  go_wp2_with fail
  refine H.mono ?_
  rintro e w1 ⟨rfl, hB1⟩
  generalize boxed3 w 2 0 A l.length c = W0 at *
  have HZ1 := Lib.hid (HZ.out.below hB1 (by omega))
  have HR1 := Lib.hid (HR.out.below hB1 (by omega))
  have z0 := HZ1.out.c (j := 0) rfl
  have z1 := HZ1.out.c (j := 1) rfl
  have z2 := HZ1.out.c (j := 2) rfl
  have r0 := HR1.out.c (j := 0) rfl
  have r1 := HR1.out.c (j := 1) rfl
  have y0 := HZ1.out.frozen 0
  have y1 := HZ1.out.frozen 1
  have y2 := HZ1.out.frozen 2
  have x0 := HR1.out.frozen 0
  have x1 := HR1.out.frozen 1
  have hBw := nxt hB0 hB1 (by omega)
  clear hsz
  go_wp2
  obtain ⟨HZ2, HR2, hB2⟩ := filled_holds (m := w.heap.size) HZ1.out HR1.out (by omega) 0 0 (.slice none 0 0) 0 0
  have k0 := HZ2.c (j := 0) rfl
  have k1 := HZ2.c (j := 1) rfl
  have k2 := HZ2.c (j := 2) rfl
  have q0 := HR2.c (j := 0) rfl
  have q1 := HR2.c (j := 1) rfl
  change bodyPost _ _ _ _ _ (filled w1 (w.heap.size + 1) 0 0 (.slice none 0 0) 0 0)
  generalize filled w1 (w.heap.size + 1) 0 0 (.slice none 0 0) 0 0 = W2 at *
  refine bodyPost_ret (v := ansV 0 0 0 0 6) (by simp [results, Try.f10, go_sem, ansV, stV, retV, k0, k1, k2, q0, q1]) rfl ?_
  exact set_none _ _ _ (nxt hBw hB2 (Nat.le_refl _))
set_option maxHeartbeats 1000000 in
theorem sapply_arg (A : Option Addr) (c : Nat) (l : List Int) (kd a b : Int) (w : World) (hA : Ints w A l) (hlen : l.length ≤ 1000) (hr : Rise l) (h1 : 3 ≤ kd) (h2 : kd ≤ 6) (h : b ≠ 0) :
    Calls Try.prog 10 #[stV 2 0 A l.length c, .int .i64 kd, .int .i64 a, .int .i64 b] w (SetPost 0 [] 0 0 2 w) := by
  have hB0 := boxed3_below w 2 0 A l.length c
  have H := check_any 2 0 A c l _ (hA.below hB0) hlen
  have hc : checkE 2 0 l = 0 := by
    simp [checkE, fitsB, (rise_iff l).2 hr]
  rw [hc] at H
  have d1 : decide (kd < 3) = false := decide_eq_false (by omega)
  have d2 : decide (6 < kd) = false := decide_eq_false (by omega)
  have d3 : (b != 0) = true := by rw [bne_iff_ne]; exact h
  have HZ := Lib.hid (boxed3_then w 2 0 A l.length c)
  have HR := Lib.hid (boxed3_ret w 2 0 A l.length c)
  have hsz := boxed3_size w 2 0 A l.length c
  clear hc hA
  unfold stV at *
  go_enter Try.func10, Try.ntmps10
  go_wp2_with fail
  refine H.mono ?_
  rintro e w1 ⟨rfl, hB1⟩
  generalize boxed3 w 2 0 A l.length c = W0 at *
  have HZ1 := Lib.hid (HZ.out.below hB1 (by omega))
  have HR1 := Lib.hid (HR.out.below hB1 (by omega))
  have z0 := HZ1.out.c (j := 0) rfl
  have z1 := HZ1.out.c (j := 1) rfl
  have z2 := HZ1.out.c (j := 2) rfl
  have r0 := HR1.out.c (j := 0) rfl
  have r1 := HR1.out.c (j := 1) rfl
  have y0 := HZ1.out.frozen 0
  have y1 := HZ1.out.frozen 1
  have y2 := HZ1.out.frozen 2
  have x0 := HR1.out.frozen 0
  have x1 := HR1.out.frozen 1
  have hBw := nxt hB0 hB1 (by omega)
  clear hsz
  go_wp2
  obtain ⟨HZ2, HR2, hB2⟩ := filled_holds (m := w.heap.size) HZ1.out HR1.out (by omega) 0 0 (.slice none 0 0) 0 0
  have k0 := HZ2.c (j := 0) rfl
  have k1 := HZ2.c (j := 1) rfl
  have k2 := HZ2.c (j := 2) rfl
  have q0 := HR2.c (j := 0) rfl
  have q1 := HR2.c (j := 1) rfl
  change bodyPost _ _ _ _ _ (filled w1 (w.heap.size + 1) 0 0 (.slice none 0 0) 0 0)
  generalize filled w1 (w.heap.size + 1) 0 0 (.slice none 0 0) 0 0 = W2 at *
  refine bodyPost_ret (v := ansV 0 0 0 0 2) (by simp [results, Try.f10, go_sem, ansV, stV, retV, k0, k1, k2, q0, q1]) rfl ?_
  exact set_none _ _ _ (nxt hBw hB2 (Nat.le_refl _))
set_option maxHeartbeats 1000000 in
theorem sapply_arg2 (A : Option Addr) (c : Nat) (l : List Int) (a : Int) (w : World) (hA : Ints w A l) (hlen : l.length ≤ 1000) (hr : Rise l) (h : a ≠ 0) :
    Calls Try.prog 10 #[stV 2 0 A l.length c, .int .i64 6, .int .i64 a, .int .i64 0] w (SetPost 0 [] 0 0 2 w) := by
  have hB0 := boxed3_below w 2 0 A l.length c
  have H := check_any 2 0 A c l _ (hA.below hB0) hlen
  have hc : checkE 2 0 l = 0 := by
    simp [checkE, fitsB, (rise_iff l).2 hr]
  rw [hc] at H
  have d3 : (a != 0) = true := by rw [bne_iff_ne]; exact h
  have HZ := Lib.hid (boxed3_then w 2 0 A l.length c)
  have HR := Lib.hid (boxed3_ret w 2 0 A l.length c)
  have hsz := boxed3_size w 2 0 A l.length c
  clear hc hA
  unfold stV at *
  go_enter Try.func10, Try.ntmps10
  go_wp2_with fail
  refine H.mono ?_
  rintro e w1 ⟨rfl, hB1⟩
  generalize boxed3 w 2 0 A l.length c = W0 at *
  have HZ1 := Lib.hid (HZ.out.below hB1 (by omega))
  have HR1 := Lib.hid (HR.out.below hB1 (by omega))
  have z0 := HZ1.out.c (j := 0) rfl
  have z1 := HZ1.out.c (j := 1) rfl
  have z2 := HZ1.out.c (j := 2) rfl
  have r0 := HR1.out.c (j := 0) rfl
  have r1 := HR1.out.c (j := 1) rfl
  have y0 := HZ1.out.frozen 0
  have y1 := HZ1.out.frozen 1
  have y2 := HZ1.out.frozen 2
  have x0 := HR1.out.frozen 0
  have x1 := HR1.out.frozen 1
  have hBw := nxt hB0 hB1 (by omega)
  clear hsz
  go_wp2
  obtain ⟨HZ2, HR2, hB2⟩ := filled_holds (m := w.heap.size) HZ1.out HR1.out (by omega) 0 0 (.slice none 0 0) 0 0
  have k0 := HZ2.c (j := 0) rfl
  have k1 := HZ2.c (j := 1) rfl
  have k2 := HZ2.c (j := 2) rfl
  have q0 := HR2.c (j := 0) rfl
  have q1 := HR2.c (j := 1) rfl
  change bodyPost _ _ _ _ _ (filled w1 (w.heap.size + 1) 0 0 (.slice none 0 0) 0 0)
  generalize filled w1 (w.heap.size + 1) 0 0 (.slice none 0 0) 0 0 = W2 at *
  refine bodyPost_ret (v := ansV 0 0 0 0 2) (by simp [results, Try.f10, go_sem, ansV, stV, retV, k0, k1, k2, q0, q1]) rfl ?_
  exact set_none _ _ _ (nxt hBw hB2 (Nat.le_refl _))
end Go.Proofs.Ytmhnnilfehankaa
