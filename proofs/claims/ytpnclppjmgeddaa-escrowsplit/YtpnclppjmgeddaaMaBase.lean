/- What the machines' texts share: a state copied, lists of numbers as literals, returns side by side. -/
import Derived.Test.YtpnclppjmgeddaaOpBase
import Derived.Test.YtpnclppjmgeddaaStR
import Derived.Deep.Cut
import Derived.Deep.CutRange
namespace Go.Proofs.Ytpnclppjmgeddaa
open Go.RowKit Go.Maps
set_option linter.unusedVariables false

theorem row_more {W : World} {b b' : Nat} {e : TypeId} {size : Nat} {v : Value} {n : Nat} {xs : List Value} (h : W.ownsRow b e size v n xs) (hb : b' ≤ b) : W.ownsRow b' e size v n xs := by
  refine ⟨h.1, ?_⟩
  rcases h.2 with h | ⟨g, cap, cur, h1, h2, h3⟩
  · exact .inl h
  · exact .inr ⟨g, cap, cur, h1, by omega, h3⟩
theorem own_ints {W : World} {base : Nat} {A : Option Addr} {c n : Nat} {l : List Int} (hn : l.length = n) (h : W.ownsRow base 3 1 (.slice A n c) n (intsOf l)) : Ints W A l := by
  rcases h.2 with ⟨e1, e2⟩ | ⟨g, cap, cur, e1, _⟩
  · intro hl; omega
  · cases e1; exact ints_own hn h
theorem ints_lit (w : World) (l : List Int) (t : TypeId) (cs : Array Value) (h : cs = (l.map (Value.int .i64)).toArray) : Ints (w.alloc (.cells cs t)) (some ⟨w.heap.size, 0, none⟩) l := by
  subst h
  intro hl
  refine ⟨w.heap.size, 0, rfl, by simp, fun j hj => ?_⟩
  rw [Nat.zero_add, World.cell?_alloc_new]
  simp [List.getElem?_eq_getElem hj]
theorem ints_nil (w : World) (A : Option Addr) : Ints w A [] := fun h => absurd h (by simp)

/-- A return: its kind and its number. -/
def retV (k n : Int) : Value := .agg #[.int .i64 k, .int .i64 n]
def sameRet (a b c d : Int) : Bool := a == c && b == d
theorem sameRet_self (a b : Int) : sameRet a b a b = true := by simp [sameRet]
set_option maxHeartbeats 1000000 in
theorem eql_ret (w : World) (a b c d : Int) : (binOp .eql 28 (.agg #[.int .i64 a, .int .i64 b]) (.agg #[.int .i64 c, .int .i64 d])).run Try.prog w = .ok (.bool (sameRet a b c d)) w := by
  unfold sameRet
  cases h1 : (a == c) <;> cases h2 : (b == d)
  all_goals go_simp

def CopyStPost (t n : Int) (l : List Int) (w : World) (e : Ending) (w' : World) : Prop := ∃ A c, e = .returned (stV t n A l.length c) ∧ w'.ownsRow w.heap.size 3 1 (.slice A l.length c) l.length (intsOf l) ∧ Below w.heap.size w w'
set_option maxHeartbeats 1000000 in
theorem copyst_any (t n : Int) (A : Option Addr) (c : Nat) (l : List Int) (w : World) (hA : Ints w A l) (hlen : l.length ≤ 1000) :
    Calls Try.prog 10 #[stV t n A l.length c] w (CopyStPost t n l w) := by
  have hB0 : Below w.heap.size w ((w.alloc (.cells #[.int .i64 t, .int .i64 n, .slice A l.length c] 24)).alloc (.cells #[.int .i64 0, .int .i64 0, .slice none 0 0] 24)) := (alloc1 w _).alloc (by simp) _
  have HX := (Holds.new w 24 #[.int .i64 t, .int .i64 n, .slice A l.length c]).alloc (.cells #[.int .i64 0, .int .i64 0, .slice none 0 0] 24)
  have HZ := Holds.new (w.alloc (.cells #[.int .i64 t, .int .i64 n, .slice A l.length c] 24)) 24 #[.int .i64 0, .int .i64 0, .slice none 0 0]
  rw [World.size_alloc] at HZ
  have hs0 : w.heap.size + 1 < ((w.alloc (.cells #[.int .i64 t, .int .i64 n, .slice A l.length c] 24)).alloc (.cells #[.int .i64 0, .int .i64 0, .slice none 0 0] 24)).heap.size := by simp
  have H := copy_any A c l _ (hA.below hB0) hlen
  unfold CopyPost at H
  unfold stV
  clear hA
  go_enter Try.func10, Try.ntmps10
  go_wp2_with fail
  generalize (w.alloc (.cells #[.int .i64 t, .int .i64 n, .slice A l.length c] 24)).alloc (.cells #[.int .i64 0, .int .i64 0, .slice none 0 0] 24) = W0 at *
  refine H.mono ?_
  rintro e w1 ⟨g1, c1, rfl, hr1, hB1⟩
  have HX1 := HX.below hB1 (by omega)
  have HZ1 := HZ.below hB1 hs0
  have x2 := HX1.c (j := 2) rfl
  have f2 := HX1.frozen 2
  have HX2 := HX1.set 2 (.slice (some ⟨g1, 0, none⟩) l.length c1)
  have HZ2 : Holds (w1.setCell ⟨w.heap.size, 2, none⟩ (.slice (some ⟨g1, 0, none⟩) l.length c1)) (w.heap.size + 1) 24 #[.int .i64 0, .int .i64 0, .slice none 0 0] := HZ1.of (Below.heap_setCell _ _ _ _ (show w.heap.size + 1 ≠ w.heap.size by omega))
  have hO2 : Only w.heap.size w1 (w1.setCell ⟨w.heap.size, 2, none⟩ (.slice (some ⟨g1, 0, none⟩) l.length c1)) := (Only.of (Below.refl w1.heap.size w1) (Nat.le_refl _)).set 2 _
  have hr2 := hr1.kept hO2.grown (.inr (HX1.not_row hr1 (by decide)).symm)
  have hs1 := hB1.size
  clear hr1 H
  go_upto_region 2 with fail
  generalize w1.setCell ⟨w.heap.size, 2, none⟩ (.slice (some ⟨g1, 0, none⟩) l.length c1) = W2 at *
  have d0 : W2.cell? ⟨w.heap.size, 0, none⟩ = some (.int .i64 t) := HX2.c (j := 0) rfl
  have d1 : W2.cell? ⟨w.heap.size, 1, none⟩ = some (.int .i64 n) := HX2.c (j := 1) rfl
  have d2 : W2.cell? ⟨w.heap.size, 2, none⟩ = some (.slice (some ⟨g1, 0, none⟩) l.length c1) := HX2.c (j := 2) rfl
  have z0 := HZ2.c (j := 0) rfl
  have z1 := HZ2.c (j := 1) rfl
  have z2 := HZ2.c (j := 2) rfl
  have y0 := HZ2.frozen 0
  have y1 := HZ2.frozen 1
  have y2 := HZ2.frozen 2
  have hs2 := hO2.size
  go_wp2
  have HZ3 := ((HZ2.set 0 (.int .i64 t)).set 1 (.int .i64 n)).set 2 (.slice (some ⟨g1, 0, none⟩) l.length c1)
  have hO3 := (((Only.of (Below.refl W2.heap.size W2) (Nat.le_refl _)).set (B := w.heap.size + 1) 0 (.int .i64 t)).set 1 (.int .i64 n)).set 2 (.slice (some ⟨g1, 0, none⟩) l.length c1)
  have hr3 := hr2.kept hO3.grown (.inr (HZ2.not_row hr2 (by decide)).symm)
  generalize ((W2.setCell ⟨w.heap.size + 1, 0, none⟩ (.int .i64 t)).setCell ⟨w.heap.size + 1, 1, none⟩ (.int .i64 n)).setCell ⟨w.heap.size + 1, 2, none⟩ (.slice (some ⟨g1, 0, none⟩) l.length c1) = W3 at *
  have k0 := HZ3.c (j := 0) rfl
  have k1 := HZ3.c (j := 1) rfl
  have k2 := HZ3.c (j := 2) rfl
  refine bodyPost_ret (v := .agg #[.int .i64 t, .int .i64 n, .slice (some ⟨g1, 0, none⟩) l.length c1]) (by simp [results, Try.f10, go_sem, k0, k1, k2]) rfl ?_
  exact ⟨some ⟨g1, 0, none⟩, c1, rfl, row_more hr3 (by omega), nxt (nxt (nxt hB0 hB1 (by omega)) (hO2.below (lo := w.heap.size) (Nat.le_refl _) (by omega)) (Nat.le_refl _)) (hO3.below (lo := w.heap.size) (by omega) (by omega)) (Nat.le_refl _)⟩
end Go.Proofs.Ytpnclppjmgeddaa
