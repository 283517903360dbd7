/- Contracts of the layer counter: plus, add, read, Apply. -/
import Derived.Test.YtbmoiacjigmggaaMaBase
namespace Go.Proofs.Ytbmoiacjigmggaa
open Go.RowKit Go.Maps
set_option linter.unusedVariables false

theorem plus_any (n a : Int) (w : World) : Calls Try.prog 34 #[.int .i64 n, .int .i64 a] w fun e w' => e = .returned (.int .i64 (wrap64 (n + a))) ∧ w = w' := by
  go_enter Try.func34, Try.ntmps34
  go_wp2_with fail
  refine (wrap_any _ _ _).mono ?_
  rintro e w1 ⟨rfl, rfl⟩
  go_wp2
  go_ret
  exact ⟨rfl, rfl⟩

def tri (n k r e : Int) : Value := .tuple #[.int .i64 n, retV k r, .int .i64 e]
theorem add_no (n a b : Int) (w : World) (h : b ≠ 0) : Calls Try.prog 27 #[.int .i64 n, .int .i64 a, .int .i64 b] w (Says (tri 0 0 0 2) w) := by
  have hb : (b != 0) = true := by rw [bne_iff_ne]; exact h
  clear h
  go_enter Try.func27, Try.ntmps27
  go_wp2
  refine bodyPost_ret (v := tri 0 0 0 2) (by simp [results, Try.f27, go_sem, tri, retV]) rfl ?_
  exact ⟨rfl, alloc1 w _⟩
theorem add_yes (n a : Int) (w : World) : Calls Try.prog 27 #[.int .i64 n, .int .i64 a, .int .i64 0] w (Says (tri (wrap64 (n + a)) 0 0 0) w) := by
  go_enter Try.func27, Try.ntmps27
  go_wp2_with fail
  refine (plus_any _ _ _).mono ?_
  rintro e w1 ⟨rfl, rfl⟩
  go_wp2
  refine bodyPost_ret (v := tri (wrap64 (n + a)) 0 0 0) (by simp [results, Try.f27, go_sem, tri, retV]) rfl ?_
  exact ⟨rfl, alloc1 w _⟩
theorem read_no (n a b : Int) (w : World) (h : a ≠ 0 ∨ b ≠ 0) : Calls Try.prog 28 #[.int .i64 n, .int .i64 a, .int .i64 b] w (Says (tri 0 0 0 2) w) := by
  by_cases h1 : a = 0
  · have ha : (a != 0) = false := by rw [h1]; rfl
    have hb : (b != 0) = true := by rw [bne_iff_ne]; omega
    clear h h1
    go_enter Try.func28, Try.ntmps28
    go_wp2
    refine bodyPost_ret (v := tri 0 0 0 2) (by simp [results, Try.f28, go_sem, tri, retV]) rfl ?_
    exact ⟨rfl, alloc1 w _⟩
  · have ha : (a != 0) = true := by rw [bne_iff_ne]; exact h1
    clear h h1
    go_enter Try.func28, Try.ntmps28
    go_wp2
    refine bodyPost_ret (v := tri 0 0 0 2) (by simp [results, Try.f28, go_sem, tri, retV]) rfl ?_
    exact ⟨rfl, alloc1 w _⟩
theorem read_yes (n : Int) (w : World) : Calls Try.prog 28 #[.int .i64 n, .int .i64 0, .int .i64 0] w (Says (tri n 2 n 0) w) := by
  go_enter Try.func28, Try.ntmps28
  go_wp2
  refine bodyPost_ret (v := tri n 2 n 0) (by simp [results, Try.f28, go_sem, tri, retV]) rfl ?_
  exact ⟨rfl, alloc1 w _⟩

/-- What an operation of a machine tells: the state then (an empty list), what is returned, the error. -/
def ansV (t n k r e : Int) : Value := .tuple #[stV t n none 0 0, retV k r, .int .i64 e]
abbrev boxed3 (w : World) (t n : Int) (A : Option Addr) (k c : Nat) : World := ((w.alloc (.cells #[.int .i64 t, .int .i64 n, .slice A k c] 24)).alloc (.cells #[.int .i64 0, .int .i64 0, .slice none 0 0] 24)).alloc (.cells #[.int .i64 0, .int .i64 0] 28)
theorem boxed3_below (w : World) (t n : Int) (A : Option Addr) (k c : Nat) : Below w.heap.size w (boxed3 w t n A k c) := ((alloc1 w _).alloc (by simp) _).alloc (by simp; omega) _
theorem boxed3_state (w : World) (t n : Int) (A : Option Addr) (k c : Nat) : Holds (boxed3 w t n A k c) w.heap.size 24 #[.int .i64 t, .int .i64 n, .slice A k c] := ((Holds.new w _ _).alloc _).alloc _
theorem boxed3_then (w : World) (t n : Int) (A : Option Addr) (k c : Nat) : Holds (boxed3 w t n A k c) (w.heap.size + 1) 24 #[.int .i64 0, .int .i64 0, .slice none 0 0] := by
  have := (Holds.new (w.alloc (.cells #[.int .i64 t, .int .i64 n, .slice A k c] 24)) 24 #[.int .i64 0, .int .i64 0, .slice none 0 0]).alloc (.cells #[.int .i64 0, .int .i64 0] 28)
  rwa [World.size_alloc] at this
theorem boxed3_ret (w : World) (t n : Int) (A : Option Addr) (k c : Nat) : Holds (boxed3 w t n A k c) (w.heap.size + 1 + 1) 28 #[.int .i64 0, .int .i64 0] := by
  have := Holds.new ((w.alloc (.cells #[.int .i64 t, .int .i64 n, .slice A k c] 24)).alloc (.cells #[.int .i64 0, .int .i64 0, .slice none 0 0] 24)) 28 #[.int .i64 0, .int .i64 0]
  rwa [World.size_alloc, World.size_alloc] at this
theorem boxed3_size (w : World) (t n : Int) (A : Option Addr) (k c : Nat) : (boxed3 w t n A k c).heap.size = w.heap.size + 3 := by simp

/-- Both boxes of what is told, filled. -/
abbrev filled (w : World) (Z : Nat) (t n : Int) (v : Value) (k r : Int) : World := ((((w.setCell ⟨Z, 0, none⟩ (.int .i64 t)).setCell ⟨Z, 1, none⟩ (.int .i64 n)).setCell ⟨Z, 2, none⟩ v).setCell ⟨Z + 1, 0, none⟩ (.int .i64 k)).setCell ⟨Z + 1, 1, none⟩ (.int .i64 r)
theorem filled_holds {w : World} {Z m : Nat} {z0 z1 z2 r0 r1 : Value} (HZ : Holds w Z 24 #[z0, z1, z2]) (HR : Holds w (Z + 1) 28 #[r0, r1]) (hm : m ≤ Z) (t n : Int) (v : Value) (k r : Int) :
    Holds (filled w Z t n v k r) Z 24 #[.int .i64 t, .int .i64 n, v] ∧ Holds (filled w Z t n v k r) (Z + 1) 28 #[.int .i64 k, .int .i64 r] ∧ Below m w (filled w Z t n v k r) := by
  have hlt := HR.lt
  have e : ∀ (W : World) off u, (W.setCell ⟨Z, off, none⟩ u).heap[Z + 1]? = W.heap[Z + 1]? := fun W off u => Below.heap_setCell _ _ _ _ (show Z + 1 ≠ Z by omega)
  have e' : ∀ (W : World) off u, (W.setCell ⟨Z + 1, off, none⟩ u).heap[Z]? = W.heap[Z]? := fun W off u => Below.heap_setCell _ _ _ _ (show Z ≠ Z + 1 by omega)
  have HZ1 := ((HZ.set 0 (.int .i64 t)).set 1 (.int .i64 n)).set 2 v
  have HR1 := (((HR.of (e _ 0 (.int .i64 t))).of (e _ 1 (.int .i64 n))).of (e _ 2 v))
  refine ⟨(HZ1.of (e' _ 0 (.int .i64 k))).of (e' _ 1 (.int .i64 r)), (HR1.set 0 _).set 1 _, ?_⟩
  have o1 := (((Only.of (B := Z) (Below.refl w.heap.size w) (Nat.le_refl _)).set 0 (.int .i64 t)).set 1 (.int .i64 n)).set 2 v
  have o2 := ((Only.of (B := Z + 1) (Below.refl _ (((w.setCell ⟨Z, 0, none⟩ (.int .i64 t)).setCell ⟨Z, 1, none⟩ (.int .i64 n)).setCell ⟨Z, 2, none⟩ v)) (Nat.le_refl _)).set 0 (.int .i64 k)).set 1 (.int .i64 r)
  have := o1.size
  exact (o1.below hm (by omega)).trans (o2.below (by omega) (by omega))

theorem apply_state (t n : Int) (A : Option Addr) (c : Nat) (l : List Int) (kd a b : Int) (w : World) (h : t ≠ 1) :
    Calls Try.prog 10 #[stV t n A l.length c, .int .i64 kd, .int .i64 a, .int .i64 b] w (Says (ansV 0 0 0 0 12) w) := by
  have ht : (t != 1) = true := by rw [bne_iff_ne]; exact h
  clear h
  unfold stV
  go_enter Try.func10, Try.ntmps10
  go_wp2
  refine bodyPost_ret (v := ansV 0 0 0 0 12) (by simp [results, Try.f10, go_sem, ansV, stV, retV]) rfl ?_
  exact ⟨rfl, boxed3_below w _ _ _ _ _⟩
theorem apply_form (n : Int) (A : Option Addr) (c : Nat) (l : List Int) (kd a b : Int) (w : World) (hA : Ints w A l) (hlen : l.length ≤ 1000) (h : l ≠ []) :
    Calls Try.prog 10 #[stV 1 n A l.length c, .int .i64 kd, .int .i64 a, .int .i64 b] w (Says (ansV 0 0 0 0 12) w) := by
  have hB0 := boxed3_below w 1 n A l.length c
  have H := check_any 1 n A c l _ (hA.below hB0) hlen
  have hc : checkE 1 n l = 5 := by
    have : l.length ≠ 0 := fun e => h (List.length_eq_zero_iff.1 e)
    simp [checkE, fitsB, h]
  rw [hc] at H
  have HZ := Lib.hid (boxed3_then w 1 n A l.length c)
  have HR := Lib.hid (boxed3_ret w 1 n A l.length c)
  have hsz := boxed3_size w 1 n A l.length c
  clear h hc hA
  unfold stV at *
  go_enter Try.func10, Try.ntmps10
  go_wp2_with fail
  refine H.mono ?_
  rintro e w1 ⟨rfl, hB1⟩
  generalize boxed3 w 1 n A l.length c = W0 at *
  have HZ1 := Lib.hid (HZ.out.below hB1 (by omega))
  have HR1 := Lib.hid (HR.out.below hB1 (by omega))
  have z0 := HZ1.out.c (j := 0) rfl
  have z1 := HZ1.out.c (j := 1) rfl
  have z2 := HZ1.out.c (j := 2) rfl
  have r0 := HR1.out.c (j := 0) rfl
  have r1 := HR1.out.c (j := 1) rfl
  have y0 := HZ1.out.frozen 0
  have y1 := HZ1.out.frozen 1
  have y2 := HZ1.out.frozen 2
  have x0 := HR1.out.frozen 0
  have x1 := HR1.out.frozen 1
  have hBw := nxt hB0 hB1 (by omega)
  clear hsz
  go_wp2
  obtain ⟨HZ2, HR2, hB2⟩ := filled_holds (m := w.heap.size) HZ1.out HR1.out (by omega) 0 0 (.slice none 0 0) 0 0
  have k0 := HZ2.c (j := 0) rfl
  have k1 := HZ2.c (j := 1) rfl
  have k2 := HZ2.c (j := 2) rfl
  have q0 := HR2.c (j := 0) rfl
  have q1 := HR2.c (j := 1) rfl
  change bodyPost _ _ _ _ _ (filled w1 (w.heap.size + 1) 0 0 (.slice none 0 0) 0 0)
  generalize filled w1 (w.heap.size + 1) 0 0 (.slice none 0 0) 0 0 = W2 at *
  refine bodyPost_ret (v := ansV 0 0 0 0 12) (by simp [results, Try.f10, go_sem, ansV, stV, retV, k0, k1, k2, q0, q1]) rfl ?_
  exact ⟨rfl, nxt hBw hB2 (Nat.le_refl _)⟩
end Go.Proofs.Ytbmoiacjigmggaa
