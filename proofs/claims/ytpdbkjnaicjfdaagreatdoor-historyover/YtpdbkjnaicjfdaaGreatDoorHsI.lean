/- A registry's iterator. Written by wip/tools/gen_hsi.py. -/
import Derived.Test.YtpdbkjnaicjfdaaGreatDoorHsH
import Derived.RangeFuncNested
import Derived.RangeFuncBound
import Derived.RangeFuncCalls
import Derived.RangeFuncLeaves
import Derived.RangeFuncBox
import Derived.Shelf.Abstract
import Derived.Shelf.RegionOpen
import Derived.OwnWalkIn
import Derived.TacticsInMore
import Derived.LoopNIn
import Derived.LoopIn
namespace Go.Proofs.YtpdbkjnaicjfdaaGreatDoor
open Go.RowKit Go.Shelf Go.Maps
set_option linter.unusedVariables false

attribute [local go_sem] Oper.semAt_some

/-- Pointers that lie below B. -/
def PtrsB (B : Nat) (w : World) (A : Option Addr) (l : List Nat) : Prop :=
  0 < l.length → ∃ b off, A = some ⟨b, off, none⟩ ∧ b < B ∧ ∀ j, j < l.length → w.cell? ⟨b, off + j, none⟩ = some (.pointer (some ⟨l[j]?.getD 0, 0, none⟩))
theorem PtrsB.below {B : Nat} {w w' : World} {A : Option Addr} {l : List Nat} (h : PtrsB B w A l) (hb : Below B w w') : PtrsB B w' A l := fun hl => by
  obtain ⟨b, off, e, hlt, hc⟩ := h hl
  exact ⟨b, off, e, hlt, fun j hj => (hb.cell (p := ⟨b, off + j, none⟩) hlt).trans (hc j hj)⟩
theorem reg_ptrs {w : World} {lo : Nat} {pt tt : TypeId} {M : Nat} {A : Option Addr} {k : Nat} {ns : List ByteArray} {bs : List Nat} {cs : List (Array Value)} (h : Reg w lo pt tt M (.slice A bs.length k) ns bs cs) : PtrsB w.heap.size w A bs := fun hl => by
  rcases h.row.2 with ⟨_, hn⟩ | ⟨g, cap, cur, e, hb, hg, _⟩
  · omega
  · injection e with e1
    subst e1
    refine ⟨g, 0, rfl, (Array.getElem?_eq_some_iff.1 hg).1, fun j hj => ?_⟩
    have := h.row.cells (g := g) rfl j (ptrO (some bs[j])) (by rw [List.getElem?_map, List.getElem?_eq_getElem hj]; rfl)
    rw [List.getElem?_eq_getElem hj]
    have e2 : (⟨g, 0, none⟩ : Addr).add j = ⟨g, 0 + j, none⟩ := by unfold Addr.add; split <;> simp_all
    rw [e2] at this
    exact this

theorem all_O_in (F : Fence) (m : Nat) (h1 : F.fn 43) (hro : F.round = none) (B : Nat) (w : World) :
    CallsIn F m Tryz.prog 43 #[.pointer (some ⟨B, 1, none⟩)] w fun e w' => e = .returned (.func (.func 63) #[] #[.pointer (some ⟨w.heap.size, 0, none⟩)]) ∧ w' = w.alloc (.cells #[.pointer (some ⟨B, 1, none⟩)] 126) := by
  refine callsIn_of_wp Tryz.func43 rfl h1 ?_ hro
  simp only [Tryz.ntmps43, List.size_toArray, List.length_cons, List.length_nil, Nat.reduceAdd, Nat.reduceSub, Array.replicate_succ, Array.replicate_zero, List.push_toArray, List.append_toArray, List.nil_append, List.cons_append]
  gi_wp2
  go_ret
  exact ⟨rfl, rfl⟩

set_option maxRecDepth 100000 in
set_option maxHeartbeats 1000000 in
theorem all1_O_in {α : Type} (f : α → Nat) (m : Nat) (hm : 1 ≤ m) (lp Bb B n₀ : Nat) (A : Option Addr) (c : Nat) (ps : List α) (hlen : ps.length ≤ maxLen) (J Jx : List α → World → Prop)
    (hY : ∀ pre (x : α) W, J pre W → pre.length < ps.length → YieldAt Fence.wide (m - 1) Tryz.prog lp #[.pointer (some ⟨f x, 0, none⟩)] W fun e W' =>
      (e = .returned (.bool true) ∧ J (pre ++ [x]) W' ∧ Below n₀ W W') ∨ (e = .returned (.bool false) ∧ Jx (pre ++ [x]) W'))
    (W : World) (hBb : W.cell? ⟨Bb, 0, none⟩ = some (.pointer (some ⟨B, 1, none⟩))) (hv : W.cell? ⟨B, 2, none⟩ = some (.slice A ps.length c)) (hA : PtrsB n₀ W A (ps.map f)) (h0 : J [] W) :
    CallsIn Fence.wide m Tryz.prog 63 #[.func (.yield lp) #[] #[], .pointer (some ⟨Bb, 0, none⟩)] W fun e W' => (∃ v, e = .returned v) ∧
      ((∃ ys, ys = ps ∧ J ys W') ∨ (∃ pre, pre <+: ps ∧ Jx pre W')) := by
  unfold maxLen at hlen
  refine callsIn_of_wp Tryz.func63 rfl trivial ?_ rfl
  simp only [Tryz.ntmps63, List.size_toArray, List.length_cons, List.length_nil, Nat.reduceAdd, Nat.reduceSub, Array.replicate_succ, Array.replicate_zero, List.push_toArray, List.append_toArray, List.nil_append, List.cons_append]
  gi_wp2
  gi_loopw [10] (fun i wr => ∃ (k : Nat), k ≤ ps.length ∧ i = .int .i64 k ∧ J (ps.take k) wr ∧ Below n₀ W wr) (fun i wr => ps.length - (intOf i).toNat)
  case atStart => exact ⟨0, Nat.zero_le _, rfl, h0, Below.refl _ _⟩
  case round =>
    obtain ⟨k, hk, rfl, hJ, hB⟩ := hrel
    have HJ := Lib.hid hJ
    have HA := Lib.hid (hA.below hB)
    have HB := Lib.hid hB
    clear hJ hB
    by_cases hlt : k < ps.length
    · obtain ⟨b, off, rfl, hb, hc⟩ := HA.out (by rw [List.length_map]; omega)
      have hck := hc k (by rw [List.length_map]; exact hlt)
      have hx : ps[k]? = some ps[k] := List.getElem?_eq_getElem hlt
      rw [List.getElem?_map, hx] at hck
      simp only [Option.map_some, Option.getD_some] at hck
      have hst : ps.take (k + 1) = ps.take k ++ [ps[k]] := List.take_succ_eq_append_getElem hlt
      have hk0 : (0 : Int) ≤ (k : Int) := by omega
      have hk1 : (k : Int) < (ps.length : Int) := by omega
      obtain ⟨fn, tmps, assign, body, hy, hR⟩ := hY (ps.take k) ps[k] wr HJ.out (by rw [List.length_take]; omega)
      rw [← hst] at hR
      have HR := Lib.hid hR
      clear hst hc hx hR
      generalize f ps[k] = fx at *
      gi_wp2
      refine HR.out.mono ?_
      rintro e W3 (⟨rfl, hJ3, hk3⟩ | ⟨rfl, hJx3⟩)
      · gi_wp2
        go_roundw
        case rel => exact ⟨k + 1, by omega, by go_num, hJ3, HB.out.trans hk3⟩
        case measure => simp [intOf]; omega
      · gi_wp2
        first | (refine bodyPost_ret (results_none rfl _ _ _) rfl ?_) | trace_state
        exact ⟨⟨_, rfl⟩, .inr ⟨_, List.take_prefix _ _, hJx3⟩⟩
    · gi_wp2
      go_end0
      refine ⟨⟨_, rfl⟩, .inl ⟨_, rfl, ?_⟩⟩
      have := HJ.out
      rwa [List.take_of_length_le (by omega)] at this

theorem all_O_stops {α : Type} (f : α → Nat) (m : Nat) (hm : 1 ≤ m) (Bb B n₀ : Nat) (A : Option Addr) (c : Nat) (ps : List α) (hlen : ps.length ≤ maxLen) (w : World) (hBb : Bb < w.heap.size) (hB : B < w.heap.size) (hn₀ : n₀ ≤ w.heap.size)
    (hcb : w.cell? ⟨Bb, 0, none⟩ = some (.pointer (some ⟨B, 1, none⟩))) (hv : w.cell? ⟨B, 2, none⟩ = some (.slice A ps.length c)) (hA : PtrsB n₀ w A (ps.map f)) :
    SeqStopsK Fence.wide m Tryz.prog 63 #[.pointer (some ⟨Bb, 0, none⟩)] (fun x : α => #[Value.pointer (some ⟨f x, 0, none⟩)]) (Below n₀) (fun ys => ys = ps) (fun pre => pre <+: ps) ps.length w := fun lp J Jx W hW _ _ hY h0 =>
  all1_O_in f m hm lp Bb B n₀ A c ps hlen J Jx hY W ((hW.cell (p := ⟨Bb, 0, none⟩) hBb).trans hcb) ((hW.cell (p := ⟨B, 2, none⟩) hB).trans hv) (hA.below (hW.mono hn₀)) h0

theorem all_L_in (F : Fence) (m : Nat) (h1 : F.fn 41) (hro : F.round = none) (B : Nat) (w : World) :
    CallsIn F m Tryz.prog 41 #[.pointer (some ⟨B, 3, none⟩)] w fun e w' => e = .returned (.func (.func 62) #[] #[.pointer (some ⟨w.heap.size, 0, none⟩)]) ∧ w' = w.alloc (.cells #[.pointer (some ⟨B, 3, none⟩)] 124) := by
  refine callsIn_of_wp Tryz.func41 rfl h1 ?_ hro
  simp only [Tryz.ntmps41, List.size_toArray, List.length_cons, List.length_nil, Nat.reduceAdd, Nat.reduceSub, Array.replicate_succ, Array.replicate_zero, List.push_toArray, List.append_toArray, List.nil_append, List.cons_append]
  gi_wp2
  go_ret
  exact ⟨rfl, rfl⟩

set_option maxRecDepth 100000 in
set_option maxHeartbeats 1000000 in
theorem all1_L_in {α : Type} (f : α → Nat) (m : Nat) (hm : 1 ≤ m) (lp Bb B n₀ : Nat) (A : Option Addr) (c : Nat) (ps : List α) (hlen : ps.length ≤ maxLen) (J Jx : List α → World → Prop)
    (hY : ∀ pre (x : α) W, J pre W → pre.length < ps.length → YieldAt Fence.wide (m - 1) Tryz.prog lp #[.pointer (some ⟨f x, 0, none⟩)] W fun e W' =>
      (e = .returned (.bool true) ∧ J (pre ++ [x]) W' ∧ Below n₀ W W') ∨ (e = .returned (.bool false) ∧ Jx (pre ++ [x]) W'))
    (W : World) (hBb : W.cell? ⟨Bb, 0, none⟩ = some (.pointer (some ⟨B, 3, none⟩))) (hv : W.cell? ⟨B, 4, none⟩ = some (.slice A ps.length c)) (hA : PtrsB n₀ W A (ps.map f)) (h0 : J [] W) :
    CallsIn Fence.wide m Tryz.prog 62 #[.func (.yield lp) #[] #[], .pointer (some ⟨Bb, 0, none⟩)] W fun e W' => (∃ v, e = .returned v) ∧
      ((∃ ys, ys = ps ∧ J ys W') ∨ (∃ pre, pre <+: ps ∧ Jx pre W')) := by
  unfold maxLen at hlen
  refine callsIn_of_wp Tryz.func62 rfl trivial ?_ rfl
  simp only [Tryz.ntmps62, List.size_toArray, List.length_cons, List.length_nil, Nat.reduceAdd, Nat.reduceSub, Array.replicate_succ, Array.replicate_zero, List.push_toArray, List.append_toArray, List.nil_append, List.cons_append]
  gi_wp2
  gi_loopw [10] (fun i wr => ∃ (k : Nat), k ≤ ps.length ∧ i = .int .i64 k ∧ J (ps.take k) wr ∧ Below n₀ W wr) (fun i wr => ps.length - (intOf i).toNat)
  case atStart => exact ⟨0, Nat.zero_le _, rfl, h0, Below.refl _ _⟩
  case round =>
    obtain ⟨k, hk, rfl, hJ, hB⟩ := hrel
    have HJ := Lib.hid hJ
    have HA := Lib.hid (hA.below hB)
    have HB := Lib.hid hB
    clear hJ hB
    by_cases hlt : k < ps.length
    · obtain ⟨b, off, rfl, hb, hc⟩ := HA.out (by rw [List.length_map]; omega)
      have hck := hc k (by rw [List.length_map]; exact hlt)
      have hx : ps[k]? = some ps[k] := List.getElem?_eq_getElem hlt
      rw [List.getElem?_map, hx] at hck
      simp only [Option.map_some, Option.getD_some] at hck
      have hst : ps.take (k + 1) = ps.take k ++ [ps[k]] := List.take_succ_eq_append_getElem hlt
      have hk0 : (0 : Int) ≤ (k : Int) := by omega
      have hk1 : (k : Int) < (ps.length : Int) := by omega
      obtain ⟨fn, tmps, assign, body, hy, hR⟩ := hY (ps.take k) ps[k] wr HJ.out (by rw [List.length_take]; omega)
      rw [← hst] at hR
      have HR := Lib.hid hR
      clear hst hc hx hR
      generalize f ps[k] = fx at *
      gi_wp2
      refine HR.out.mono ?_
      rintro e W3 (⟨rfl, hJ3, hk3⟩ | ⟨rfl, hJx3⟩)
      · gi_wp2
        go_roundw
        case rel => exact ⟨k + 1, by omega, by go_num, hJ3, HB.out.trans hk3⟩
        case measure => simp [intOf]; omega
      · gi_wp2
        first | (refine bodyPost_ret (results_none rfl _ _ _) rfl ?_) | trace_state
        exact ⟨⟨_, rfl⟩, .inr ⟨_, List.take_prefix _ _, hJx3⟩⟩
    · gi_wp2
      go_end0
      refine ⟨⟨_, rfl⟩, .inl ⟨_, rfl, ?_⟩⟩
      have := HJ.out
      rwa [List.take_of_length_le (by omega)] at this

theorem all_L_stops {α : Type} (f : α → Nat) (m : Nat) (hm : 1 ≤ m) (Bb B n₀ : Nat) (A : Option Addr) (c : Nat) (ps : List α) (hlen : ps.length ≤ maxLen) (w : World) (hBb : Bb < w.heap.size) (hB : B < w.heap.size) (hn₀ : n₀ ≤ w.heap.size)
    (hcb : w.cell? ⟨Bb, 0, none⟩ = some (.pointer (some ⟨B, 3, none⟩))) (hv : w.cell? ⟨B, 4, none⟩ = some (.slice A ps.length c)) (hA : PtrsB n₀ w A (ps.map f)) :
    SeqStopsK Fence.wide m Tryz.prog 62 #[.pointer (some ⟨Bb, 0, none⟩)] (fun x : α => #[Value.pointer (some ⟨f x, 0, none⟩)]) (Below n₀) (fun ys => ys = ps) (fun pre => pre <+: ps) ps.length w := fun lp J Jx W hW _ _ hY h0 =>
  all1_L_in f m hm lp Bb B n₀ A c ps hlen J Jx hY W ((hW.cell (p := ⟨Bb, 0, none⟩) hBb).trans hcb) ((hW.cell (p := ⟨B, 4, none⟩) hB).trans hv) (hA.below (hW.mono hn₀)) h0
end Go.Proofs.YtpdbkjnaicjfdaaGreatDoor
