/- Contracts of the layer counter: plus, add, read, Apply. -/
import Derived.Test.YtpnclppjmgeddaaOpBase
import Derived.Test.YtpnclppjmgeddaaMaBase
namespace Go.Proofs.Ytpnclppjmgeddaa
open Go.RowKit Go.Maps
set_option linter.unusedVariables false

def tri (n k r e : Int) : Value := .tuple #[.int .i64 n, retV k r, .int .i64 e]
/-- What an operation of a machine tells: the state then (an empty list), what is returned, the error. -/
def ansV (t n k r e : Int) : Value := .tuple #[stV t n none 0 0, retV k r, .int .i64 e]
abbrev boxed3 (w : World) (t n : Int) (A : Option Addr) (k c : Nat) : World := ((w.alloc (.cells #[.int .i64 t, .int .i64 n, .slice A k c] 24)).alloc (.cells #[.int .i64 0, .int .i64 0, .slice none 0 0] 24)).alloc (.cells #[.int .i64 0, .int .i64 0] 28)
theorem boxed3_below (w : World) (t n : Int) (A : Option Addr) (k c : Nat) : Below w.heap.size w (boxed3 w t n A k c) := ((alloc1 w _).alloc (by simp) _).alloc (by simp; omega) _
theorem boxed3_state (w : World) (t n : Int) (A : Option Addr) (k c : Nat) : Holds (boxed3 w t n A k c) w.heap.size 24 #[.int .i64 t, .int .i64 n, .slice A k c] := ((Holds.new w _ _).alloc _).alloc _
theorem boxed3_then (w : World) (t n : Int) (A : Option Addr) (k c : Nat) : Holds (boxed3 w t n A k c) (w.heap.size + 1) 24 #[.int .i64 0, .int .i64 0, .slice none 0 0] := by
  have := (Holds.new (w.alloc (.cells #[.int .i64 t, .int .i64 n, .slice A k c] 24)) 24 #[.int .i64 0, .int .i64 0, .slice none 0 0]).alloc (.cells #[.int .i64 0, .int .i64 0] 28)
  rwa [World.size_alloc] at this
theorem boxed3_ret (w : World) (t n : Int) (A : Option Addr) (k c : Nat) : Holds (boxed3 w t n A k c) (w.heap.size + 1 + 1) 28 #[.int .i64 0, .int .i64 0] := by
  have := Holds.new ((w.alloc (.cells #[.int .i64 t, .int .i64 n, .slice A k c] 24)).alloc (.cells #[.int .i64 0, .int .i64 0, .slice none 0 0] 24)) 28 #[.int .i64 0, .int .i64 0]
  rwa [World.size_alloc, World.size_alloc] at this
theorem boxed3_size (w : World) (t n : Int) (A : Option Addr) (k c : Nat) : (boxed3 w t n A k c).heap.size = w.heap.size + 3 := by simp

/-- Both boxes of what is told, filled. -/
abbrev filled (w : World) (Z : Nat) (t n : Int) (v : Value) (k r : Int) : World := ((((w.setCell ⟨Z, 0, none⟩ (.int .i64 t)).setCell ⟨Z, 1, none⟩ (.int .i64 n)).setCell ⟨Z, 2, none⟩ v).setCell ⟨Z + 1, 0, none⟩ (.int .i64 k)).setCell ⟨Z + 1, 1, none⟩ (.int .i64 r)
theorem filled_holds {w : World} {Z m : Nat} {z0 z1 z2 r0 r1 : Value} (HZ : Holds w Z 24 #[z0, z1, z2]) (HR : Holds w (Z + 1) 28 #[r0, r1]) (hm : m ≤ Z) (t n : Int) (v : Value) (k r : Int) :
    Holds (filled w Z t n v k r) Z 24 #[.int .i64 t, .int .i64 n, v] ∧ Holds (filled w Z t n v k r) (Z + 1) 28 #[.int .i64 k, .int .i64 r] ∧ Below m w (filled w Z t n v k r) := by
  have hlt := HR.lt
  have e : ∀ (W : World) off u, (W.setCell ⟨Z, off, none⟩ u).heap[Z + 1]? = W.heap[Z + 1]? := fun W off u => Below.heap_setCell _ _ _ _ (show Z + 1 ≠ Z by omega)
  have e' : ∀ (W : World) off u, (W.setCell ⟨Z + 1, off, none⟩ u).heap[Z]? = W.heap[Z]? := fun W off u => Below.heap_setCell _ _ _ _ (show Z ≠ Z + 1 by omega)
  have HZ1 := ((HZ.set 0 (.int .i64 t)).set 1 (.int .i64 n)).set 2 v
  have HR1 := (((HR.of (e _ 0 (.int .i64 t))).of (e _ 1 (.int .i64 n))).of (e _ 2 v))
  refine ⟨(HZ1.of (e' _ 0 (.int .i64 k))).of (e' _ 1 (.int .i64 r)), (HR1.set 0 _).set 1 _, ?_⟩
  have o1 := (((Only.of (B := Z) (Below.refl w.heap.size w) (Nat.le_refl _)).set 0 (.int .i64 t)).set 1 (.int .i64 n)).set 2 v
  have o2 := ((Only.of (B := Z + 1) (Below.refl _ (((w.setCell ⟨Z, 0, none⟩ (.int .i64 t)).setCell ⟨Z, 1, none⟩ (.int .i64 n)).setCell ⟨Z, 2, none⟩ v)) (Nat.le_refl _)).set 0 (.int .i64 k)).set 1 (.int .i64 r)
  have := o1.size
  exact (o1.below hm (by omega)).trans (o2.below (by omega) (by omega))

end Go.Proofs.Ytpnclppjmgeddaa
