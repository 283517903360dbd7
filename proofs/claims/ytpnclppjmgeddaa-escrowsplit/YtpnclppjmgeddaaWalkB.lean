/- Contracts of the layer number: All, over a list of numbers. -/
import Derived.Test.YtpnclppjmgeddaaOpBase
import Derived.Test.YtpnclppjmgeddaaWalkA
namespace Go.Proofs.Ytpnclppjmgeddaa
open Go.RowKit
set_option linter.unusedVariables false

/-- A slice's address A, of whatever capacity, reads as the numbers l (nil let in). -/
def Ints (w : World) (A : Option Addr) (l : List Int) : Prop :=
  0 < l.length → ∃ b off, A = some ⟨b, off, none⟩ ∧ b < w.heap.size ∧ ∀ j, j < l.length → w.cell? ⟨b, off + j, none⟩ = some (.int .i64 (l[j]?.getD 0))

theorem Ints.below {w w' : World} {A : Option Addr} {l : List Int} (h : Ints w A l) (hb : Below w.heap.size w w') : Ints w' A l := fun hl => by
  obtain ⟨b, off, e, hlt, hc⟩ := h hl
  exact ⟨b, off, e, Nat.lt_of_lt_of_le hlt hb.size, fun j hj => (hb.cell (p := ⟨b, off + j, none⟩) hlt).trans (hc j hj)⟩

def Small (x : Int) : Prop := -9223372036854775808 ≤ x ∧ x ≤ 9223372036854775807

theorem take_snoc {α : Type} (l : List α) (k : Nat) (h : k < l.length) : l.take (k + 1) = l.take k ++ [l[k]] := List.take_succ_eq_append_getElem h

theorem tot_take (l : List Int) (k : Nat) (h : k < l.length) : tot (l.take (k + 1)) = tot (l.take k) + l[k]?.getD 0 := by
  rw [take_snoc l k h, tot_snoc, List.getElem?_eq_getElem h]; rfl

theorem small_at {l : List Int} (h : ∀ x ∈ l, Small x) (k : Nat) (hk : k < l.length) : Small (l[k]?.getD 0) := by
  rw [List.getElem?_eq_getElem hk]; exact h _ (List.getElem_mem hk)

theorem all_sum_bd (l : List Int) (h : ∀ x ∈ l, Small x) (hl : l.length ≤ 4611686018427387904) : -170141183460469231731687303715884105728 ≤ tot l ∧ tot l ≤ 170141183460469231731687303715884105727 := by
  have := tot_bd l h
  have hl' : (l.length : Int) ≤ 4611686018427387904 := by omega
  omega

def AllPost (l : List Int) (w : World) (e : Ending) (w' : World) : Prop := e = .returned (.tuple #[.int .i64 (allN l), .int .i64 (allE l)]) ∧ Below w.heap.size w w'

end Go.Proofs.Ytpnclppjmgeddaa
