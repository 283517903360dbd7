/- The document's Read. -/
import Derived.Test.YtmpglmepmdpjoaaOpX
namespace Go.Proofs.Ytmpglmepmdpjoaa
open Go.RowKit Go.Maps
set_option linter.unusedVariables false

/-- What the loop has: the result's cells, the kind's, the operation's, the arguments'. -/
structure RS (w W : World) (B : Nat) (i : Nat) (a b k n : Int) : Prop where
  z : Holds W w.heap.size 25 #[.int .i64 0, .int .i64 0, .int .i64 0, .int .i64 0, .int .i64 0]
  kn : Holds W B 57 #[.int .i64 (objN i), .int .i64 (argN i), .int .i64 (rR i), .string (wordB i)]
  op : Holds W (B + 1) 25 #[.int .i64 ((i : Int) + 1), .int .i64 0, .int .i64 0, .int .i64 k, .int .i64 n]
  ar : Holds W (B + 2) 75 #[.int .i64 a, .int .i64 b]
  bel : Below w.heap.size w W
  hB : w.heap.size < B
theorem RS.below {w W W' : World} {B i : Nat} {a b k n : Int} (h : RS w W B i a b k n) (hb : Below W.heap.size W W') : RS w W' B i a b k n :=
  ⟨h.z.below hb h.z.lt, h.kn.below hb h.kn.lt, h.op.below hb h.op.lt, h.ar.below hb h.ar.lt, nxt h.bel hb h.bel.size, h.hB⟩
theorem RS.setA {w W : World} {B i : Nat} {a b k n : Int} (h : RS w W B i a b k n) (x : Int) : RS w (W.setCell ⟨B + 2, 0, none⟩ (.int .i64 x)) B i x b k n := by
  have hB := h.hB
  exact ⟨h.z.of (Below.heap_setCell _ _ _ _ (by show w.heap.size ≠ B + 2; omega)), h.kn.of (Below.heap_setCell _ _ _ _ (by show B ≠ B + 2; omega)), h.op.of (Below.heap_setCell _ _ _ _ (by show B + 1 ≠ B + 2; omega)), h.ar.set 0 _, h.bel.setCell (by show w.heap.size ≤ B + 2; omega) _, h.hB⟩
theorem RS.setB {w W : World} {B i : Nat} {a b k n : Int} (h : RS w W B i a b k n) (x : Int) : RS w (W.setCell ⟨B + 2, 1, none⟩ (.int .i64 x)) B i a x k n := by
  have hB := h.hB
  exact ⟨h.z.of (Below.heap_setCell _ _ _ _ (by show w.heap.size ≠ B + 2; omega)), h.kn.of (Below.heap_setCell _ _ _ _ (by show B ≠ B + 2; omega)), h.op.of (Below.heap_setCell _ _ _ _ (by show B + 1 ≠ B + 2; omega)), h.ar.set 1 _, h.bel.setCell (by show w.heap.size ≤ B + 2; omega) _, h.hB⟩
theorem RS.setR {w W : World} {B i : Nat} {a b k n : Int} (h : RS w W B i a b k n) (x y : Int) : RS w ((W.setCell ⟨B + 1, 3, none⟩ (.int .i64 x)).setCell ⟨B + 1, 4, none⟩ (.int .i64 y)) B i a b x y := by
  have hB := h.hB
  have e : ∀ C, C ≠ B + 1 → ((W.setCell ⟨B + 1, 3, none⟩ (.int .i64 x)).setCell ⟨B + 1, 4, none⟩ (.int .i64 y)).heap[C]? = W.heap[C]? := fun C hC => (Below.heap_setCell _ _ _ _ hC).trans (Below.heap_setCell _ _ _ _ hC)
  have h4 : Holds (W.setCell ⟨B + 1, 3, none⟩ (.int .i64 x)) (B + 1) 25 #[.int .i64 ((i : Int) + 1), .int .i64 0, .int .i64 0, .int .i64 x, .int .i64 n] := h.op.set 3 _
  exact ⟨h.z.of (e _ (by omega)), h.kn.of (e _ (by omega)), h4.set 4 _, h.ar.of (e _ (by omega)), (h.bel.setCell (by show w.heap.size ≤ B + 1; omega) _).setCell (by show w.heap.size ≤ B + 1; omega) _, h.hB⟩
theorem RS.new (w w2 : World) (i : Nat) (hb : Below (w.heap.size + 1) (w.alloc (.cells #[.int .i64 0, .int .i64 0, .int .i64 0, .int .i64 0, .int .i64 0] 25)) w2) :
    RS w (((w2.alloc (.cells #[.int .i64 (objN i), .int .i64 (argN i), .int .i64 (rR i), .string (wordB i)] 57)).alloc (.cells #[.int .i64 ((i : Int) + 1), .int .i64 0, .int .i64 0, .int .i64 0, .int .i64 0] 25)).alloc (.cells #[.int .i64 0, .int .i64 0] 75)) w2.heap.size i 0 0 0 0 := by
  have hs := hb.size
  rw [World.size_alloc] at hs
  have hz := (Holds.new w 25 #[.int .i64 0, .int .i64 0, .int .i64 0, .int .i64 0, .int .i64 0]).below hb (by omega)
  have h1 := Holds.new (w2.alloc (.cells #[.int .i64 (objN i), .int .i64 (argN i), .int .i64 (rR i), .string (wordB i)] 57)) 25 #[.int .i64 ((i : Int) + 1), .int .i64 0, .int .i64 0, .int .i64 0, .int .i64 0]
  have h2 := Holds.new ((w2.alloc (.cells #[.int .i64 (objN i), .int .i64 (argN i), .int .i64 (rR i), .string (wordB i)] 57)).alloc (.cells #[.int .i64 ((i : Int) + 1), .int .i64 0, .int .i64 0, .int .i64 0, .int .i64 0] 25)) 75 #[.int .i64 0, .int .i64 0]
  simp only [World.size_alloc] at h1 h2
  refine ⟨((hz.alloc _).alloc _).alloc _, ((Holds.new w2 _ _).alloc _).alloc _, h1.alloc _, h2, ?_, by omega⟩
  have hb0 : Below w.heap.size w w2 := nxt ((Below.refl _ _).alloc (Nat.le_refl _) _) hb (by omega)
  exact ((hb0.alloc hb0.size _).alloc (by simp; omega) _).alloc (by simp; omega) _
end Go.Proofs.Ytmpglmepmdpjoaa
