/- Pick; parts of a list of numbers as slices. -/
import Derived.Test.YtdanihadkchbbaaOpBase
import Derived.Test.YtdanihadkchbbaaMaBase
namespace Go.Proofs.Ytdanihadkchbbaa
open Go.RowKit Go.Maps
set_option linter.unusedVariables false

/-- Where a number points in a list of length n. -/
def pick (x n : Int) : Int := if x.tmod n < 0 then x.tmod n + n else x.tmod n
theorem pick_bd (x n : Int) (hn : 0 < n) : 0 ≤ pick x n ∧ pick x n < n := by
  have h1 := Int.tmod_lt_of_pos x hn
  have h2 : -n < x.tmod n := by
    have := Int.neg_tmod x n
    have h3 := Int.tmod_lt_of_pos (-x) hn
    omega
  unfold pick; split <;> omega

theorem ints_take {w : World} {A : Option Addr} {l : List Int} (h : Ints w A l) (k : Nat) : Ints w A (l.take k) := fun hl => by
  rw [List.length_take] at hl
  obtain ⟨b, off, e, hlt, hc⟩ := h (by omega)
  refine ⟨b, off, e, hlt, fun j hj => ?_⟩
  rw [List.length_take] at hj
  rw [hc j (by omega), List.getElem?_take, if_pos (by omega)]
/-- Where what is behind k of a slice of capacity c begins. -/
def subA (A : Option Addr) (c k : Nat) : Option Addr := if c = k then A else A.map (·.add k)
theorem ints_drop {w : World} {A : Option Addr} {l : List Int} (h : Ints w A l) (c k : Nat) (hc : l.length ≤ c) : Ints w (subA A c k) (l.drop k) := fun hl => by
  rw [List.length_drop] at hl
  obtain ⟨b, off, rfl, hlt, hcell⟩ := h (by omega)
  refine ⟨b, off + k, by unfold subA; rw [if_neg (by omega)]; simp [Addr.add], hlt, fun j hj => ?_⟩
  rw [List.length_drop] at hj
  rw [Nat.add_assoc, hcell (k + j) (by omega), List.getElem?_drop]
end Go.Proofs.Ytdanihadkchbbaa
