/- The iterator of digits, and Put. -/
import Derived.Test.YtbenfdbjpefegaaDoorOpBase
import Derived.Test.YtbenfdbjpefegaaDoorWalkR
import Derived.RangeFuncNested
import Derived.RangeFuncBound
import Derived.RangeFuncCalls
import Derived.RangeFuncLeaves
import Derived.RangeFuncBox
import Derived.Shelf.Abstract
import Derived.Shelf.RegionOpen
import Derived.OwnWalkIn
import Derived.TacticsInMore
import Derived.LoopNIn
import Derived.LoopIn
import Derived.Maps.AppendAt
namespace Go.Proofs.YtbenfdbjpefegaaDoor
open Go.RowKit Go.Shelf
set_option linter.unusedVariables false

attribute [local go_sem] Oper.semAt_some

set_option maxHeartbeats 1000000 in
theorem digits_in (F : Fence) (n : Nat) (h30 : F.fn 69) (hro : F.round = none) (m : Int) (w : World) :
    CallsIn F n Tryd.prog 69 #[.int .u64 m] w fun e w' => e = .returned (.func (.func 77) #[] #[.pointer (some ⟨w.heap.size, 0, none⟩)]) ∧ w' = w.alloc (.cells #[.int .u64 m] 85) := by
  refine callsIn_of_wp Tryd.func69 rfl h30 ?_ hro
  simp only [Tryd.ntmps69, List.size_toArray, List.length_cons, List.length_nil, Nat.reduceAdd, Nat.reduceSub, Array.replicate_succ, Array.replicate_zero, List.push_toArray, List.append_toArray, List.nil_append, List.cons_append]
  gi_wp2
  go_ret
  exact ⟨rfl, rfl⟩

set_option maxRecDepth 100000 in
set_option maxHeartbeats 1000000 in
theorem digits1_in (F : Fence) (n : Nat) (h36 : F.fn 77) (hro : F.round = none) (hn : 1 ≤ n) (l Bn n₀ : Nat) (m : Nat) (hm : m < 10000000000000000000) (J Jx : List Int → World → Prop)
    (hY : ∀ pre x W, J pre W → pre.length < (dr 20 m).length → YieldAt F (n - 1) Tryd.prog l #[.int .u8 x] W fun e W' =>
      (e = .returned (.bool true) ∧ J (pre ++ [x]) W' ∧ Below n₀ W W') ∨ (e = .returned (.bool false) ∧ Jx (pre ++ [x]) W'))
    (W : World) (hBn : W.cell? ⟨Bn, 0, none⟩ = some (.int .u64 m)) (h0 : J [] W) :
    CallsIn F n Tryd.prog 77 #[.func (.yield l) #[] #[], .pointer (some ⟨Bn, 0, none⟩)] W fun e W' => (∃ v, e = .returned v) ∧
      ((∃ ys, ys = dr 20 m ∧ J ys W') ∨ (∃ pre, pre <+: dr 20 m ∧ Jx pre W')) := by
  refine callsIn_of_wp Tryd.func77 rfl h36 ?_ hro
  simp only [Tryd.ntmps77, List.size_toArray, List.length_cons, List.length_nil, Nat.reduceAdd, Nat.reduceSub, Array.replicate_succ, Array.replicate_zero, List.push_toArray, List.append_toArray, List.nil_append, List.cons_append]
  gi_wp2
  gi_loopw [3] (fun p wr => ∃ (pre : List Int) (r f : Nat), p = .int .u64 r ∧ r < 10000000000000000000 ∧ r < 10 ^ f ∧ dr 20 m = pre ++ dr (f + 1) r ∧ J pre wr) (fun p wr => (intOf p).toNat)
  case atStart =>
    exact ⟨[], m, 19, rfl, hm, hm, rfl, h0⟩
  case round =>
    obtain ⟨pre, r, f, rfl, hr, hrf, hx, hJs⟩ := hrel
    by_cases h10 : r < 10
    · rw [dr_small f r h10] at hx
      obtain ⟨fn, tmps, assign, body, hy, hR⟩ := hY pre (48 + (r : Int) % 10) wr hJs (by rw [hx]; simp)
      have HX := Lib.hid hx
      clear hx hrf
      gi_wp2
      refine hR.mono ?_
      rintro e W3 (⟨rfl, hJ3, hk3⟩ | ⟨rfl, hJx3⟩)
      · gi_wp2
        go_end0
        exact ⟨⟨_, rfl⟩, .inl ⟨_, HX.out.symm, hJ3⟩⟩
      · gi_wp2
        go_end0
        exact ⟨⟨_, rfl⟩, .inr ⟨_, ⟨[], by rw [HX.out]; simp⟩, hJx3⟩⟩
    · obtain ⟨f', rfl⟩ : ∃ f', f = f' + 1 := by
        cases f with
        | zero => simp at hrf; omega
        | succ f' => exact ⟨f', rfl⟩
      rw [dr_great (f' + 1) r h10] at hx
      obtain ⟨fn, tmps, assign, body, hy, hR⟩ := hY pre (48 + (r : Int) % 10) wr hJs (by rw [hx]; simp)
      have HX := Lib.hid hx
      have hdiv : r / 10 < 10 ^ f' := by
        rw [Nat.pow_succ] at hrf; exact Nat.div_lt_of_lt_mul (by rw [Nat.mul_comm]; exact hrf)
      have HD := Lib.hid hdiv
      clear hx hrf hdiv
      gi_wp2
      refine hR.mono ?_
      rintro e W3 (⟨rfl, hJ3, hk3⟩ | ⟨rfl, hJx3⟩)
      · gi_wp2
        go_roundw
        case rel => exact ⟨pre ++ [48 + (r : Int) % 10], r / 10, f', by go_num, by omega, HD.out, by rw [HX.out]; simp, hJ3⟩
        case measure => simp [intOf]; omega
      · gi_wp2
        go_end0
        exact ⟨⟨_, rfl⟩, .inr ⟨_, ⟨dr (f' + 1) (r / 10), by rw [HX.out]; simp⟩, hJx3⟩⟩

/-- digits(m) hands back a value that goes through all of m's digits, the last one first. -/
theorem digits_stops (F : Fence) (n : Nat) (h36 : F.fn 77) (hro : F.round = none) (hn : 1 ≤ n) (Bn n₀ : Nat) (m : Nat) (hm : m < 10000000000000000000) (w : World) (hBn : Bn < w.heap.size)
    (hc : w.cell? ⟨Bn, 0, none⟩ = some (.int .u64 m)) :
    SeqStopsK F n Tryd.prog 77 #[.pointer (some ⟨Bn, 0, none⟩)] (fun x : Int => #[Value.int .u8 x]) (Below n₀) (fun ys => ys = dr 20 m) (fun pre => pre <+: dr 20 m) (dr 20 m).length w := fun l J Jx W hW _ _ hY h0 =>
  digits1_in F n h36 hro hn l Bn n₀ m hm J Jx hY W ((hW.cell (p := ⟨Bn, 0, none⟩) hBn).trans hc) h0
end Go.Proofs.YtbenfdbjpefegaaDoor
