/- Pick; parts of a list of numbers as slices. -/
import Derived.Test.YtpnclppjmgeddaaOpBase
import Derived.Test.YtpnclppjmgeddaaMaBase
namespace Go.Proofs.Ytpnclppjmgeddaa
open Go.RowKit Go.Maps
set_option linter.unusedVariables false

/-- Where a number points in a list of length n. -/
def pick (x n : Int) : Int := if x.tmod n < 0 then x.tmod n + n else x.tmod n
theorem pick_bd (x n : Int) (hn : 0 < n) : 0 ≤ pick x n ∧ pick x n < n := by
  have h1 := Int.tmod_lt_of_pos x hn
  have h2 : -n < x.tmod n := by
    have := Int.neg_tmod x n
    have h3 := Int.tmod_lt_of_pos (-x) hn
    omega
  unfold pick; split <;> omega

set_option maxHeartbeats 1000000 in
theorem pick_any (x : Int) (n : Nat) (w : World) (h1 : -9223372036854775808 ≤ x) (h2 : x ≤ 9223372036854775807) (hn : 0 < n) (hn2 : n ≤ 1000) :
    Calls Try.prog 23 #[.int .i64 x, .int .i64 n] w fun e w' => e = .returned (.int .i64 (pick x n)) ∧ w' = w := by
  have g1 := Int.tmod_lt_of_pos x (show (0 : Int) < n by omega)
  have g2 : -(n : Int) < x.tmod n := by
    have := Int.neg_tmod x n
    have h3 := Int.tmod_lt_of_pos (-x) (show (0 : Int) < n by omega)
    omega
  have k0 : ((n : Int) == 0) = false := by simp; omega
  by_cases hneg : x.tmod n < 0
  · have HP : Hid (pick x n = x.tmod n + n) := by show pick x n = _; unfold pick; rw [if_pos hneg]
    go_enter Try.func23, Try.ntmps23
    go_wp2
    go_ret
    exact ⟨ret_int (by rw [HP.out]), rfl⟩
  · have HP : Hid (pick x n = x.tmod n) := by show pick x n = _; unfold pick; rw [if_neg hneg]
    go_enter Try.func23, Try.ntmps23
    go_wp2
    go_ret
    exact ⟨ret_int (by rw [HP.out]), rfl⟩

theorem ints_take {w : World} {A : Option Addr} {l : List Int} (h : Ints w A l) (k : Nat) : Ints w A (l.take k) := fun hl => by
  rw [List.length_take] at hl
  obtain ⟨b, off, e, hlt, hc⟩ := h (by omega)
  refine ⟨b, off, e, hlt, fun j hj => ?_⟩
  rw [List.length_take] at hj
  rw [hc j (by omega), List.getElem?_take, if_pos (by omega)]
/-- Where what is behind k of a slice of capacity c begins. -/
def subA (A : Option Addr) (c k : Nat) : Option Addr := if c = k then A else A.map (·.add k)
theorem ints_drop {w : World} {A : Option Addr} {l : List Int} (h : Ints w A l) (c k : Nat) (hc : l.length ≤ c) : Ints w (subA A c k) (l.drop k) := fun hl => by
  rw [List.length_drop] at hl
  obtain ⟨b, off, rfl, hlt, hcell⟩ := h (by omega)
  refine ⟨b, off + k, by unfold subA; rw [if_neg (by omega)]; simp [Addr.add], hlt, fun j hj => ?_⟩
  rw [List.length_drop] at hj
  rw [Nat.add_assoc, hcell (k + j) (by omega), List.getElem?_drop]
end Go.Proofs.Ytpnclppjmgeddaa
