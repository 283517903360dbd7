/- Texts of earlier stages over this seat, joined: MaBase MaP MaQ MaO CnA TkTwH StRg SeRg SePk MaS. -/
import Derived.Test.YtmclpganipfadaaGreatDoorJbB
import Derived.Deep.Cut
import Derived.Deep.CutRange
import Derived.StillTail
import Derived.OrdersHeld
import Derived.WalkKit
import Derived.RangeFuncNested
import Derived.RangeFuncBound
import Derived.RangeFuncCalls
import Derived.RangeFuncLeaves
import Derived.RangeFuncBox
import Derived.Shelf.Abstract
import Derived.Shelf.RegionOpen
import Derived.OwnWalkIn
import Derived.TacticsInMore
import Derived.LoopNIn
import Derived.LoopIn
import Derived.Maps.AppendAt
set_option maxRecDepth 100000
namespace Go.Proofs.YtmclpganipfadaaGreatDoor
open Go.RowKit Go.Maps
set_option linter.unusedVariables false

theorem row_more {W : World} {b b' : Nat} {e : TypeId} {size : Nat} {v : Value} {n : Nat} {xs : List Value} (h : W.ownsRow b e size v n xs) (hb : b' ≤ b) : W.ownsRow b' e size v n xs := by
  refine ⟨h.1, ?_⟩
  rcases h.2 with h | ⟨g, cap, cur, h1, h2, h3⟩
  · exact .inl h
  · exact .inr ⟨g, cap, cur, h1, by omega, h3⟩
theorem own_ints {W : World} {base : Nat} {A : Option Addr} {c n : Nat} {l : List Int} (hn : l.length = n) (h : W.ownsRow base 3 1 (.slice A n c) n (intsOf l)) : Ints W A l := by
  rcases h.2 with ⟨e1, e2⟩ | ⟨g, cap, cur, e1, _⟩
  · intro hl; omega
  · cases e1; exact ints_own hn h
theorem ints_lit (w : World) (l : List Int) (t : TypeId) (cs : Array Value) (h : cs = (l.map (Value.int .i64)).toArray) : Ints (w.alloc (.cells cs t)) (some ⟨w.heap.size, 0, none⟩) l := by
  subst h
  intro hl
  refine ⟨w.heap.size, 0, rfl, by simp, fun j hj => ?_⟩
  rw [Nat.zero_add, World.cell?_alloc_new]
  simp [List.getElem?_eq_getElem hj]
theorem ints_nil (w : World) (A : Option Addr) : Ints w A [] := fun h => absurd h (by simp)

/-- A return: its kind and its number. -/
def retV (k n : Int) : Value := .agg #[.int .i64 k, .int .i64 n]
def sameRet (a b c d : Int) : Bool := a == c && b == d
theorem sameRet_self (a b : Int) : sameRet a b a b = true := by simp [sameRet]
set_option maxHeartbeats 1000000 in
theorem eql_ret (w : World) (a b c d : Int) : (binOp .eql 26 (.agg #[.int .i64 a, .int .i64 b]) (.agg #[.int .i64 c, .int .i64 d])).run Tryz.prog w = .ok (.bool (sameRet a b c d)) w := by
  unfold sameRet
  cases h1 : (a == c) <;> cases h2 : (b == d)
  all_goals go_simp

def CopyStPost (t n : Int) (l : List Int) (w : World) (e : Ending) (w' : World) : Prop := ∃ A c, e = .returned (stV t n A l.length c) ∧ w'.ownsRow w.heap.size 3 1 (.slice A l.length c) l.length (intsOf l) ∧ Below w.heap.size w w'
set_option maxHeartbeats 1000000 in
theorem copyst_any (t n : Int) (A : Option Addr) (c : Nat) (l : List Int) (w : World) (hA : Ints w A l) (hlen : l.length ≤ 1000) :
    Calls Tryz.prog 6 #[stV t n A l.length c] w (CopyStPost t n l w) := by
  have hB0 : Below w.heap.size w ((w.alloc (.cells #[.int .i64 t, .int .i64 n, .slice A l.length c] 24)).alloc (.cells #[.int .i64 0, .int .i64 0, .slice none 0 0] 24)) := (alloc1 w _).alloc (by simp) _
  have HX := (Holds.new w 24 #[.int .i64 t, .int .i64 n, .slice A l.length c]).alloc (.cells #[.int .i64 0, .int .i64 0, .slice none 0 0] 24)
  have HZ := Holds.new (w.alloc (.cells #[.int .i64 t, .int .i64 n, .slice A l.length c] 24)) 24 #[.int .i64 0, .int .i64 0, .slice none 0 0]
  rw [World.size_alloc] at HZ
  have hs0 : w.heap.size + 1 < ((w.alloc (.cells #[.int .i64 t, .int .i64 n, .slice A l.length c] 24)).alloc (.cells #[.int .i64 0, .int .i64 0, .slice none 0 0] 24)).heap.size := by simp
  have H := copy_any A c l _ (hA.below hB0) hlen
  unfold CopyPost at H
  unfold stV
  clear hA
  go_enter Tryz.func6, Tryz.ntmps6
  go_wp2_with fail
  generalize (w.alloc (.cells #[.int .i64 t, .int .i64 n, .slice A l.length c] 24)).alloc (.cells #[.int .i64 0, .int .i64 0, .slice none 0 0] 24) = W0 at *
  refine H.mono ?_
  rintro e w1 ⟨g1, c1, rfl, hr1, hB1⟩
  have HX1 := HX.below hB1 (by omega)
  have HZ1 := HZ.below hB1 hs0
  have x2 := HX1.c (j := 2) rfl
  have f2 := HX1.frozen 2
  have HX2 := HX1.set 2 (.slice (some ⟨g1, 0, none⟩) l.length c1)
  have HZ2 : Holds (w1.setCell ⟨w.heap.size, 2, none⟩ (.slice (some ⟨g1, 0, none⟩) l.length c1)) (w.heap.size + 1) 24 #[.int .i64 0, .int .i64 0, .slice none 0 0] := HZ1.of (Below.heap_setCell _ _ _ _ (show w.heap.size + 1 ≠ w.heap.size by omega))
  have hO2 : Only w.heap.size w1 (w1.setCell ⟨w.heap.size, 2, none⟩ (.slice (some ⟨g1, 0, none⟩) l.length c1)) := (Only.of (Below.refl w1.heap.size w1) (Nat.le_refl _)).set 2 _
  have hr2 := hr1.kept hO2.grown (.inr (HX1.not_row hr1 (by decide)).symm)
  have hs1 := hB1.size
  clear hr1 H
  go_upto_region 2 with fail
  generalize w1.setCell ⟨w.heap.size, 2, none⟩ (.slice (some ⟨g1, 0, none⟩) l.length c1) = W2 at *
  have d0 : W2.cell? ⟨w.heap.size, 0, none⟩ = some (.int .i64 t) := HX2.c (j := 0) rfl
  have d1 : W2.cell? ⟨w.heap.size, 1, none⟩ = some (.int .i64 n) := HX2.c (j := 1) rfl
  have d2 : W2.cell? ⟨w.heap.size, 2, none⟩ = some (.slice (some ⟨g1, 0, none⟩) l.length c1) := HX2.c (j := 2) rfl
  have z0 := HZ2.c (j := 0) rfl
  have z1 := HZ2.c (j := 1) rfl
  have z2 := HZ2.c (j := 2) rfl
  have y0 := HZ2.frozen 0
  have y1 := HZ2.frozen 1
  have y2 := HZ2.frozen 2
  have hs2 := hO2.size
  go_wp2
  have HZ3 := ((HZ2.set 0 (.int .i64 t)).set 1 (.int .i64 n)).set 2 (.slice (some ⟨g1, 0, none⟩) l.length c1)
  have hO3 := (((Only.of (Below.refl W2.heap.size W2) (Nat.le_refl _)).set (B := w.heap.size + 1) 0 (.int .i64 t)).set 1 (.int .i64 n)).set 2 (.slice (some ⟨g1, 0, none⟩) l.length c1)
  have hr3 := hr2.kept hO3.grown (.inr (HZ2.not_row hr2 (by decide)).symm)
  generalize ((W2.setCell ⟨w.heap.size + 1, 0, none⟩ (.int .i64 t)).setCell ⟨w.heap.size + 1, 1, none⟩ (.int .i64 n)).setCell ⟨w.heap.size + 1, 2, none⟩ (.slice (some ⟨g1, 0, none⟩) l.length c1) = W3 at *
  have k0 := HZ3.c (j := 0) rfl
  have k1 := HZ3.c (j := 1) rfl
  have k2 := HZ3.c (j := 2) rfl
  refine bodyPost_ret (v := .agg #[.int .i64 t, .int .i64 n, .slice (some ⟨g1, 0, none⟩) l.length c1]) (by simp [results, Tryz.f6, go_sem, k0, k1, k2]) rfl ?_
  exact ⟨some ⟨g1, 0, none⟩, c1, rfl, row_more hr3 (by omega), nxt (nxt (nxt hB0 hB1 (by omega)) (hO2.below (lo := w.heap.size) (Nat.le_refl _) (by omega)) (Nat.le_refl _)) (hO3.below (lo := w.heap.size) (by omega) (by omega)) (Nat.le_refl _)⟩
end Go.Proofs.YtmclpganipfadaaGreatDoor

namespace Go.Proofs.YtmclpganipfadaaGreatDoor
open Go.RowKit Go.Maps
set_option linter.unusedVariables false

/-- Where a number points in a list of length n. -/
def pick (x n : Int) : Int := if x.tmod n < 0 then x.tmod n + n else x.tmod n
theorem pick_bd (x n : Int) (hn : 0 < n) : 0 ≤ pick x n ∧ pick x n < n := by
  have h1 := Int.tmod_lt_of_pos x hn
  have h2 : -n < x.tmod n := by
    have := Int.neg_tmod x n
    have h3 := Int.tmod_lt_of_pos (-x) hn
    omega
  unfold pick; split <;> omega

theorem ints_take {w : World} {A : Option Addr} {l : List Int} (h : Ints w A l) (k : Nat) : Ints w A (l.take k) := fun hl => by
  rw [List.length_take] at hl
  obtain ⟨b, off, e, hlt, hc⟩ := h (by omega)
  refine ⟨b, off, e, hlt, fun j hj => ?_⟩
  rw [List.length_take] at hj
  rw [hc j (by omega), List.getElem?_take, if_pos (by omega)]
/-- Where what is behind k of a slice of capacity c begins. -/
def subA (A : Option Addr) (c k : Nat) : Option Addr := if c = k then A else A.map (·.add k)
theorem ints_drop {w : World} {A : Option Addr} {l : List Int} (h : Ints w A l) (c k : Nat) (hc : l.length ≤ c) : Ints w (subA A c k) (l.drop k) := fun hl => by
  rw [List.length_drop] at hl
  obtain ⟨b, off, rfl, hlt, hcell⟩ := h (by omega)
  refine ⟨b, off + k, by unfold subA; rw [if_neg (by omega)]; simp [Addr.add], hlt, fun j hj => ?_⟩
  rw [List.length_drop] at hj
  rw [Nat.add_assoc, hcell (k + j) (by omega), List.getElem?_drop]
end Go.Proofs.YtmclpganipfadaaGreatDoor

namespace Go.Proofs.YtmclpganipfadaaGreatDoor
open Go.ChangeShapes Go.WideShapes Go.ChangeAt Go.RowKit
set_option linter.unusedVariables false

set_option maxRecDepth 100000 in
theorem open_il {H : Type} {enc : TypeId × Value → H} {W : World} {base : Nat} {held : Bool} {r : Reach} {b0 : Nat} {v : Value} {d : DataW H} {p : List MemPlace} (hv : Value.okWide Tryz.prog W r b0 22 v) (h : DataW.Trod enc Tryz.prog W base (fun _ => true) held 22 v d p) :
    ∃ (A : Option Addr) (c : Nat) (l : List Int), v = .slice A l.length c ∧ Ints W A l ∧ (∀ x ∈ l, Small x) ∧ l.length ≤ c ∧ c ≤ maxLen := by
  obtain ⟨A, len, c, rfl⟩ := okWide_slice Tryz.underlying22 hv
  obtain ⟨fuel, hf⟩ := h
  rcases open_ints Tryz.underlying22 Tryz.underlying3 (by kernel_rfl) hf with ⟨hcs, _⟩ | ⟨x, len', c', zs, hcs, _, hl, hm, hz, _, hcell, hwz⟩
  · simp [Value.cells] at hcs
    obtain ⟨rfl, rfl, rfl⟩ := hcs
    exact ⟨none, 0, [], rfl, (fun h => by simp at h), (fun _ h => by cases h), Nat.zero_le _, Nat.zero_le _⟩
  · simp [Value.cells] at hcs
    obtain ⟨rfl, rfl, rfl⟩ := hcs
    obtain ⟨l, rfl, hA, hs, h1⟩ := row_ints (w := W) (A := some x) (len := len) (cap := c) (zs := zs) (.inr ⟨x, rfl, hl, hm, by simpa using hz, hcell, hwz⟩)
    exact ⟨some x, c, l, rfl, hA, hs, hl, hm⟩
end Go.Proofs.YtmclpganipfadaaGreatDoor

namespace Go.Proofs.YtmclpganipfadaaGreatDoor
open Go.RowKit Go.Maps
set_option linter.unusedVariables false

set_option maxHeartbeats 1000000 in
theorem overrow_any (g c n lo : Nat) (xs : List Value) (w : World) (h : w.ownsRow lo 3 1 (.slice (some ⟨g, 0, none⟩) n c) n xs) (hn : n ≤ 1001) :
    Calls Tryz.prog 31 #[.slice (some ⟨g, 0, none⟩) n c] w fun e w' => e = .returned (.tuple #[]) ∧ w.grownBy w' (some g) := by
  have HO := Lib.hid h
  clear h
  go_enter Tryz.func31, Tryz.ntmps31
  go_wp2
  go_loopw [2] (fun i wr => ∃ (k : Nat) (ys : List Value), k ≤ n ∧ i = .int .i64 k ∧ wr.ownsRow lo 3 1 (.slice (some ⟨g, 0, none⟩) n c) n ys ∧ w.grownBy wr (some g)) (fun i wr => n - (intOf i).toNat)
  case atStart => exact ⟨0, xs, Nat.zero_le _, rfl, HO.out, World.grownBy.refl _ _⟩
  case round =>
    obtain ⟨k, ys, hk, rfl, hown, hg⟩ := hrel
    by_cases hlt : k < n
    · have q0 : (0 : Int) ≤ (k : Int) := by omega
      have q1 : (k : Int) < (n : Int) := by omega
      have q2 : decide (k < n) = true := decide_eq_true hlt
      have hlen : ys.length = n := by have := hown.1; omega
      have hcell := hown.cellAt k (by omega)
      rw [List.getElem?_eq_getElem (by omega)] at hcell
      have hfro := hown.frozenAt k
      have HST := Lib.hid (hown.stored k (.int .i64 (-77)))
      generalize ys[k] = y at hcell
      clear hown
      go_wp2
      exact ⟨⟨k + 1, _, by omega, by go_num, HST.out.1, hg.trans HST.out.2⟩, by simp [intOf]; omega⟩
    · have q2 : decide (k < n) = false := decide_eq_false hlt
      go_wp2
      go_end0
      exact ⟨rfl, hg⟩
theorem overnil_any (w : World) : Calls Tryz.prog 31 #[.slice none 0 0] w fun e w' => e = .returned (.tuple #[]) ∧ w' = w := by
  go_enter Tryz.func31, Tryz.ntmps31
  go_wp2
  go_loopw [2] (fun i wr => i = .int .i64 0 ∧ wr = w) (fun i wr => 0)
  case atStart => exact ⟨rfl, rfl⟩
  case round =>
    obtain ⟨rfl, rfl⟩ := hrel
    go_wp2
    go_end0
    exact ⟨rfl, rfl⟩
theorem overints_any (A : Option Addr) (c n lo : Nat) (xs : List Value) (w : World) (h : w.ownsRow lo 3 1 (.slice A n c) n xs) (hn : n ≤ 1001) (hb : lo ≤ w.heap.size) :
    Calls Tryz.prog 31 #[.slice A n c] w fun e w' => e = .returned (.tuple #[]) ∧ Below lo w w' := by
  rcases h.2 with ⟨e1, e2⟩ | ⟨g, cap', cur, e1, hg, _⟩
  · injection e1 with e3 e4 e5
    subst e3 e4 e5
    refine (overnil_any w).mono ?_
    rintro e w' ⟨rfl, rfl⟩
    exact ⟨rfl, Below.refl _ _⟩
  · injection e1 with e3 e4 e5
    subst e3
    refine (overrow_any g c n lo _ _ h hn).mono ?_
    rintro e w' ⟨rfl, hgr⟩
    exact ⟨rfl, (Below.refl lo _).grown hgr hb (fun k e => by obtain rfl : g = k := Option.some.inj e; exact hg)⟩
theorem overstate_any (t n : Int) (A : Option Addr) (c k lo : Nat) (xs : List Value) (w : World) (h : w.ownsRow lo 3 1 (.slice A k c) k xs) (hk : k ≤ 1001) (hb : lo ≤ w.heap.size) :
    Calls Tryz.prog 14 #[.agg #[.int .i64 t, .int .i64 n, .slice A k c]] w fun e w' => e = .returned (.tuple #[]) ∧ Below lo w w' := by
  have hB0 := alloc1 w (.cells #[.int .i64 t, .int .i64 n, .slice A k c] 24)
  have HOV := overints_any A c k lo xs _ (row_below h hB0) hk (Nat.le_trans hb hB0.size)
  clear h
  go_enter Tryz.func14, Tryz.ntmps14
  go_wp2_with fail
  refine HOV.mono ?_
  rintro e w1 ⟨rfl, hB1⟩
  go_wp2
  go_end0
  exact ⟨rfl, nxt (hB0.mono hb) hB1 (Nat.le_refl _)⟩
end Go.Proofs.YtmclpganipfadaaGreatDoor

namespace Go.Proofs.YtmclpganipfadaaGreatDoor
open Go.RowKit Go.Maps
set_option linter.unusedVariables false

theorem plus_any (n a : Int) (w : World) : Calls Tryz.prog 69 #[.int .i64 n, .int .i64 a] w fun e w' => e = .returned (.int .i64 (wrap64 (n + a))) ∧ w = w' := by
  go_enter Tryz.func69, Tryz.ntmps69
  go_wp2_with fail
  refine (wrap_any _ _ _).mono ?_
  rintro e w1 ⟨rfl, rfl⟩
  go_wp2
  go_ret
  exact ⟨rfl, rfl⟩

def tri (n k r e : Int) : Value := .tuple #[.int .i64 n, retV k r, .int .i64 e]
theorem add_no (n a b : Int) (w : World) (h : b ≠ 0) : Calls Tryz.prog 53 #[.int .i64 n, .int .i64 a, .int .i64 b] w (Says (tri 0 0 0 2) w) := by
  have hb : (b != 0) = true := by rw [bne_iff_ne]; exact h
  clear h
  go_enter Tryz.func53, Tryz.ntmps53
  go_wp2
  refine bodyPost_ret (v := tri 0 0 0 2) (by simp [results, Tryz.f53, go_sem, tri, retV]) rfl ?_
  exact ⟨rfl, alloc1 w _⟩
theorem add_yes (n a : Int) (w : World) : Calls Tryz.prog 53 #[.int .i64 n, .int .i64 a, .int .i64 0] w (Says (tri (wrap64 (n + a)) 0 0 0) w) := by
  go_enter Tryz.func53, Tryz.ntmps53
  go_wp2_with fail
  refine (plus_any _ _ _).mono ?_
  rintro e w1 ⟨rfl, rfl⟩
  go_wp2
  refine bodyPost_ret (v := tri (wrap64 (n + a)) 0 0 0) (by simp [results, Tryz.f53, go_sem, tri, retV]) rfl ?_
  exact ⟨rfl, alloc1 w _⟩
theorem read_no (n a b : Int) (w : World) (h : a ≠ 0 ∨ b ≠ 0) : Calls Tryz.prog 54 #[.int .i64 n, .int .i64 a, .int .i64 b] w (Says (tri 0 0 0 2) w) := by
  by_cases h1 : a = 0
  · have ha : (a != 0) = false := by rw [h1]; rfl
    have hb : (b != 0) = true := by rw [bne_iff_ne]; omega
    clear h h1
    go_enter Tryz.func54, Tryz.ntmps54
    go_wp2
    refine bodyPost_ret (v := tri 0 0 0 2) (by simp [results, Tryz.f54, go_sem, tri, retV]) rfl ?_
    exact ⟨rfl, alloc1 w _⟩
  · have ha : (a != 0) = true := by rw [bne_iff_ne]; exact h1
    clear h h1
    go_enter Tryz.func54, Tryz.ntmps54
    go_wp2
    refine bodyPost_ret (v := tri 0 0 0 2) (by simp [results, Tryz.f54, go_sem, tri, retV]) rfl ?_
    exact ⟨rfl, alloc1 w _⟩
theorem read_yes (n : Int) (w : World) : Calls Tryz.prog 54 #[.int .i64 n, .int .i64 0, .int .i64 0] w (Says (tri n 2 n 0) w) := by
  go_enter Tryz.func54, Tryz.ntmps54
  go_wp2
  refine bodyPost_ret (v := tri n 2 n 0) (by simp [results, Tryz.f54, go_sem, tri, retV]) rfl ?_
  exact ⟨rfl, alloc1 w _⟩

/-- What an operation of a machine tells: the state then (an empty list), what is returned, the error. -/
def ansV (t n k r e : Int) : Value := .tuple #[stV t n none 0 0, retV k r, .int .i64 e]
abbrev boxed3 (w : World) (t n : Int) (A : Option Addr) (k c : Nat) : World := ((w.alloc (.cells #[.int .i64 t, .int .i64 n, .slice A k c] 24)).alloc (.cells #[.int .i64 0, .int .i64 0, .slice none 0 0] 24)).alloc (.cells #[.int .i64 0, .int .i64 0] 26)
theorem boxed3_below (w : World) (t n : Int) (A : Option Addr) (k c : Nat) : Below w.heap.size w (boxed3 w t n A k c) := ((alloc1 w _).alloc (by simp) _).alloc (by simp; omega) _
theorem boxed3_state (w : World) (t n : Int) (A : Option Addr) (k c : Nat) : Holds (boxed3 w t n A k c) w.heap.size 24 #[.int .i64 t, .int .i64 n, .slice A k c] := ((Holds.new w _ _).alloc _).alloc _
theorem boxed3_then (w : World) (t n : Int) (A : Option Addr) (k c : Nat) : Holds (boxed3 w t n A k c) (w.heap.size + 1) 24 #[.int .i64 0, .int .i64 0, .slice none 0 0] := by
  have := (Holds.new (w.alloc (.cells #[.int .i64 t, .int .i64 n, .slice A k c] 24)) 24 #[.int .i64 0, .int .i64 0, .slice none 0 0]).alloc (.cells #[.int .i64 0, .int .i64 0] 26)
  rwa [World.size_alloc] at this
theorem boxed3_ret (w : World) (t n : Int) (A : Option Addr) (k c : Nat) : Holds (boxed3 w t n A k c) (w.heap.size + 1 + 1) 26 #[.int .i64 0, .int .i64 0] := by
  have := Holds.new ((w.alloc (.cells #[.int .i64 t, .int .i64 n, .slice A k c] 24)).alloc (.cells #[.int .i64 0, .int .i64 0, .slice none 0 0] 24)) 26 #[.int .i64 0, .int .i64 0]
  rwa [World.size_alloc, World.size_alloc] at this
theorem boxed3_size (w : World) (t n : Int) (A : Option Addr) (k c : Nat) : (boxed3 w t n A k c).heap.size = w.heap.size + 3 := by simp

/-- Both boxes of what is told, filled. -/
abbrev filled (w : World) (Z : Nat) (t n : Int) (v : Value) (k r : Int) : World := ((((w.setCell ⟨Z, 0, none⟩ (.int .i64 t)).setCell ⟨Z, 1, none⟩ (.int .i64 n)).setCell ⟨Z, 2, none⟩ v).setCell ⟨Z + 1, 0, none⟩ (.int .i64 k)).setCell ⟨Z + 1, 1, none⟩ (.int .i64 r)
theorem filled_holds {w : World} {Z m : Nat} {z0 z1 z2 r0 r1 : Value} (HZ : Holds w Z 24 #[z0, z1, z2]) (HR : Holds w (Z + 1) 26 #[r0, r1]) (hm : m ≤ Z) (t n : Int) (v : Value) (k r : Int) :
    Holds (filled w Z t n v k r) Z 24 #[.int .i64 t, .int .i64 n, v] ∧ Holds (filled w Z t n v k r) (Z + 1) 26 #[.int .i64 k, .int .i64 r] ∧ Below m w (filled w Z t n v k r) := by
  have hlt := HR.lt
  have e : ∀ (W : World) off u, (W.setCell ⟨Z, off, none⟩ u).heap[Z + 1]? = W.heap[Z + 1]? := fun W off u => Below.heap_setCell _ _ _ _ (show Z + 1 ≠ Z by omega)
  have e' : ∀ (W : World) off u, (W.setCell ⟨Z + 1, off, none⟩ u).heap[Z]? = W.heap[Z]? := fun W off u => Below.heap_setCell _ _ _ _ (show Z ≠ Z + 1 by omega)
  have HZ1 := ((HZ.set 0 (.int .i64 t)).set 1 (.int .i64 n)).set 2 v
  have HR1 := (((HR.of (e _ 0 (.int .i64 t))).of (e _ 1 (.int .i64 n))).of (e _ 2 v))
  refine ⟨(HZ1.of (e' _ 0 (.int .i64 k))).of (e' _ 1 (.int .i64 r)), (HR1.set 0 _).set 1 _, ?_⟩
  have o1 := (((Only.of (B := Z) (Below.refl w.heap.size w) (Nat.le_refl _)).set 0 (.int .i64 t)).set 1 (.int .i64 n)).set 2 v
  have o2 := ((Only.of (B := Z + 1) (Below.refl _ (((w.setCell ⟨Z, 0, none⟩ (.int .i64 t)).setCell ⟨Z, 1, none⟩ (.int .i64 n)).setCell ⟨Z, 2, none⟩ v)) (Nat.le_refl _)).set 0 (.int .i64 k)).set 1 (.int .i64 r)
  have := o1.size
  exact (o1.below hm (by omega)).trans (o2.below (by omega) (by omega))

theorem apply_state (t n : Int) (A : Option Addr) (c : Nat) (l : List Int) (kd a b : Int) (w : World) (h : t ≠ 1) :
    Calls Tryz.prog 34 #[stV t n A l.length c, .int .i64 kd, .int .i64 a, .int .i64 b] w (Says (ansV 0 0 0 0 12) w) := by
  have ht : (t != 1) = true := by rw [bne_iff_ne]; exact h
  clear h
  unfold stV
  go_enter Tryz.func34, Tryz.ntmps34
  go_wp2
  refine bodyPost_ret (v := ansV 0 0 0 0 12) (by simp [results, Tryz.f34, go_sem, ansV, stV, retV]) rfl ?_
  exact ⟨rfl, boxed3_below w _ _ _ _ _⟩
theorem apply_form (n : Int) (A : Option Addr) (c : Nat) (l : List Int) (kd a b : Int) (w : World) (hA : Ints w A l) (hlen : l.length ≤ 1000) (h : l ≠ []) :
    Calls Tryz.prog 34 #[stV 1 n A l.length c, .int .i64 kd, .int .i64 a, .int .i64 b] w (Says (ansV 0 0 0 0 12) w) := by
  have hB0 := boxed3_below w 1 n A l.length c
  have H := check_any 1 n A c l _ (hA.below hB0) hlen
  have hc : checkE 1 n l = 5 := by
    have : l.length ≠ 0 := fun e => h (List.length_eq_zero_iff.1 e)
    simp [checkE, fitsB, h]
  rw [hc] at H
  have HZ := Lib.hid (boxed3_then w 1 n A l.length c)
  have HR := Lib.hid (boxed3_ret w 1 n A l.length c)
  have hsz := boxed3_size w 1 n A l.length c
  clear h hc hA
  unfold stV at *
  go_enter Tryz.func34, Tryz.ntmps34
  go_wp2_with fail
  refine H.mono ?_
  rintro e w1 ⟨rfl, hB1⟩
  generalize boxed3 w 1 n A l.length c = W0 at *
  have HZ1 := Lib.hid (HZ.out.below hB1 (by omega))
  have HR1 := Lib.hid (HR.out.below hB1 (by omega))
  have z0 := HZ1.out.c (j := 0) rfl
  have z1 := HZ1.out.c (j := 1) rfl
  have z2 := HZ1.out.c (j := 2) rfl
  have r0 := HR1.out.c (j := 0) rfl
  have r1 := HR1.out.c (j := 1) rfl
  have y0 := HZ1.out.frozen 0
  have y1 := HZ1.out.frozen 1
  have y2 := HZ1.out.frozen 2
  have x0 := HR1.out.frozen 0
  have x1 := HR1.out.frozen 1
  have hBw := nxt hB0 hB1 (by omega)
  clear hsz
  go_wp2
  obtain ⟨HZ2, HR2, hB2⟩ := filled_holds (m := w.heap.size) HZ1.out HR1.out (by omega) 0 0 (.slice none 0 0) 0 0
  have k0 := HZ2.c (j := 0) rfl
  have k1 := HZ2.c (j := 1) rfl
  have k2 := HZ2.c (j := 2) rfl
  have q0 := HR2.c (j := 0) rfl
  have q1 := HR2.c (j := 1) rfl
  change bodyPost _ _ _ _ _ (filled w1 (w.heap.size + 1) 0 0 (.slice none 0 0) 0 0)
  generalize filled w1 (w.heap.size + 1) 0 0 (.slice none 0 0) 0 0 = W2 at *
  refine bodyPost_ret (v := ansV 0 0 0 0 12) (by simp [results, Tryz.f34, go_sem, ansV, stV, retV, k0, k1, k2, q0, q1]) rfl ?_
  exact ⟨rfl, nxt hBw hB2 (Nat.le_refl _)⟩
end Go.Proofs.YtmclpganipfadaaGreatDoor

namespace Go.Proofs.YtmclpganipfadaaGreatDoor
open Go
set_option linter.unusedVariables false

section
variable {P : Program} {ops : Array Oper} {Q : Exit → Act → World → Prop} {md : Region.Mode} {S : World → Prop}

/-- Either the tail alone is left, and it is well whatever comes; or something of the head may come up, and behind each such S holds, and so on. -/
def Till (P : Program) (md : Region.Mode) (ops : Array Oper) (Q : Exit → Act → World → Prop) (S : World → Prop) (n : Nat) : Nat → Array Bool → Act → World → Prop
  | 0, got, a, w => (∀ j ∈ Region.ready md ops got, n ≤ j) ∧ wpAny P md ops Q 0 got a w
  | f + 1, got, a, w => ((∀ j ∈ Region.ready md ops got, n ≤ j) ∧ wpAny P md ops Q (f + 1) got a w) ∨
      (Region.ready md ops got ≠ [] ∧ ∀ j ∈ Region.ready md ops got, wpOp P ops Q j (fun a' w' => S w' ∧ Till P md ops Q S n f (got.setIfInBounds j true) a' w') a w)

theorem Till.any {n : Nat} : ∀ {f : Nat} {got : Array Bool} {a : Act} {w : World}, Till P md ops Q S n f got a w → wpAny P md ops Q f got a w
  | 0, _, _, _, h => h.2
  | _ + 1, _, _, _, .inl h => h.2
  | _ + 1, _, _, _, .inr h => ⟨fun h0 => absurd h0 h.1, fun j hj => wpOp_mono (fun _ _ k => k.2.any) (h.2 j hj)⟩

/-- Behind number i: if the tail alone is left, nothing of the head may come up; else what the right side says. -/
theorem Till.at {n f j : Nat} {got : Array Bool} {a : Act} {w : World} (h : Till P md ops Q S n f got a w) (hj : j ∈ Region.ready md ops got) (hjn : j < n) :
    ∃ g, f = g + 1 ∧ wpOp P ops Q j (fun a' w' => S w' ∧ Till P md ops Q S n g (got.setIfInBounds j true) a' w') a w := by
  match f, h with
  | 0, h => exact absurd (h.1 j hj) (by omega)
  | _ + 1, .inl h => exact absurd (h.1 j hj) (by omega)
  | g + 1, .inr h => exact ⟨g, rfl, h.2 j hj⟩

theorem free_more {got : Array Bool} {i j : Nat} (h : Region.free md ops got i = true) : Region.free md ops (got.setIfInBounds j true) i = true := by
  unfold Region.free at h ⊢
  split
  · rename_i h0; rw [h0] at h; exact h
  · rename_i oi h0
    rw [h0] at h
    refine List.all_eq_true.2 fun k hk => ?_
    have h1 := List.all_eq_true.1 h k hk
    by_cases hjk : j = k
    · subst hjk
      rcases Nat.lt_or_ge j got.size with h2 | h2
      · simp [h2]
      · simp [h2]
    · rw [getD_set_ne true hjk]; exact h1

/-- Number i of the head may be taken first. -/
theorem Till.take {n i : Nat} {o : Oper} {v : Value} (ho : ops[i]? = some o) (hsel : Region.noSelect ops = true) (hQ : ∀ c a w, Q (.panic c) (a.put o.dst v) w → Q (.panic c) a w)
    (hs : Region.sinkB md ops n = true) (hc : Region.chainB md ops n = true) (hn : n < ops.size) (hin : i < n) :
    ∀ (f : Nat) (got : Array Bool) (a : Act) (w : World), HeadInv md ops n got → Region.free md ops got i = true → i ∈ Region.ready md ops got → YieldsIf P ops S o v a → S w →
      Till P md ops Q S n f (got.setIfInBounds i true) (a.put o.dst v) w → Till P md ops Q S n (f + 1) got a w
  | f, got, a, w, inv, hf, hr, hy, hS, H => by
    refine .inr ⟨List.ne_nil_of_mem hr, fun j hj => ?_⟩
    by_cases hji : j = i
    · rw [hji]; exact hy.wpOp ho hS ⟨hS, H⟩
    have hi0 := (mem_ready.1 hr).1
    have hjn : j < n := Nat.lt_of_not_le fun h => tail_waits hs hc hn inv _ i rfl hin hi0 j h hj
    obtain ⟨g, rfl, hstep⟩ := H.at (ready_mono hj hji) hjn
    obtain ⟨hj0, p, hp, hwait⟩ := mem_ready.1 hj
    have hap : o.apart ops p = true := Region.free_spec ho hf j p hp hji hj0 fun e he hb hon => by simpa [hon, getD_both hi0] using hwait e he hb
    refine wpOp_mono (fun a' w' k => ⟨k.2.1, ?_⟩) (wpOp_putIf hp hap (fun cs b => Region.noSelect_spec hsel i o cs b ho) (fun cs b => Region.noSelect_spec hsel j p cs b hp) hQ hy hstep)
    exact Till.take ho hsel hQ hs hc hn hin g _ a' w' (inv.set hj hjn) (free_more hf) (ready_mono hr (Ne.symm hji)) k.1 k.2.1 (by rw [Array.setIfInBounds_comm _ _ hji]; exact k.2.2)

/-- The first c operations yield in every world that meets S; the next is carried out; the others follow in their order. -/
def readsN (P : Program) (ops : Array Oper) (Q : Exit → Act → World → Prop) (S : World → Prop) (w : World) : Nat → List Oper → Act → Prop
  | 0, o :: l, a => ∃ v w1, Region.wanted o (yielded ops a.tmps) = true ∧ (execOp a.eval o).run P w = .ok (.value v) w1 ∧ S w1 ∧ wpList P ops Q l (a.put o.dst v) w1
  | c + 1, o :: l, a => ∃ v, YieldsIf P ops S o v a ∧ readsN P ops Q S w c l (a.put o.dst v)
  | _, [], _ => False

theorem readsN.cons {w : World} {c : Nat} {o : Oper} {l : List Oper} {a : Act} (v : Value) (h1 : Region.wanted o (yielded ops a.tmps) = true) (h2 : ∀ w, S w → (execOp a.eval o).run P w = .ok (.value v) w)
    (h : readsN P ops Q S w c l (a.put o.dst v)) : readsN P ops Q S w (c + 1) (o :: l) a := ⟨v, .inl ⟨h1, h2⟩, h⟩
theorem readsN.done {w : World} {o : Oper} {l : List Oper} {a : Act} (v : Value) (w1 : World) (h1 : Region.wanted o (yielded ops a.tmps) = true) (h2 : (execOp a.eval o).run P w = .ok (.value v) w1) (h3 : S w1)
    (h : wpList P ops Q l (a.put o.dst v) w1) : readsN P ops Q S w 0 (o :: l) a := ⟨v, w1, h1, h2, h3, h⟩

theorem tail_of {o : Oper} {l : List Oper} {k : Nat} (hl : ∀ j, (o :: l)[j]? = ops[k + j]?) : ops[k]? = some o ∧ ∀ j, l[j]? = ops[k + 1 + j]? :=
  ⟨by simpa using (hl 0).symm, fun j => by have := hl (j + 1); rw [show k + 1 + j = k + (j + 1) by omega]; simpa using this⟩

theorem readsN.till {m : Nat} {w : World} (hsel : Region.noSelect ops = true) (hs : Region.sinkB md ops (m + 1) = true) (hc : Region.chainB md ops (m + 1) = true) (hn : m + 1 < ops.size)
    (hQ : ∀ c a d v w, Q (.panic c) (Act.put a d v) w → Q (.panic c) a w) (hS : S w) :
    ∀ (c : Nat) (l : List Oper) (k : Nat) (got : Array Bool) (a : Act), (∀ j, l[j]? = ops[k + j]?) → k + c = m → HeadInv md ops (m + 1) got →
    Region.lexHead md ops (l.length - c) c k got = true → readsN P ops Q S w c l a → Till P md ops Q S (m + 1) l.length got a w
  | c, [], _, _, _, _, _, _, _, h => by cases c <;> exact h.elim
  | 0, o :: l, k, got, a, hl, hk, inv, hB, ⟨v, w1, h1, h2, h3, h4⟩ => by
    obtain ⟨h0, hl'⟩ := tail_of hl
    simp only [List.length_cons, Nat.sub_zero, Region.lexHead, Region.seqB, Bool.and_eq_true, decide_eq_true_eq] at hB
    obtain ⟨hr, hB⟩ := hB
    refine .inr ⟨by rw [hr]; simp, fun j hj => ?_⟩
    obtain rfl : j = k := by rw [hr] at hj; simpa using hj
    have hlast : Till P md ops Q S (m + 1) l.length (got.setIfInBounds j true) (a.put o.dst v) w1 := by
      have h5 := wpAny_of_seq l (j + 1) _ _ _ hl' hB h4
      have h6 : ∀ i ∈ Region.ready md ops (got.setIfInBounds j true), m + 1 ≤ i := fun i hi => by have := seqB_ready hB i hi; omega
      generalize l.length = f at *
      cases f with
      | zero => exact ⟨h6, h5⟩
      | succ f => exact .inl ⟨h6, h5⟩
    unfold Go.wpOp
    simp only [h0, h1, if_true, Oper.wp, h2, Oper.upon]
    exact .inl ⟨h3, hlast⟩
  | c + 1, o :: l, k, got, a, hl, hk, inv, hB, ⟨v, hy, hK⟩ => by
    obtain ⟨h0, hl'⟩ := tail_of hl
    simp only [List.length_cons, Nat.add_sub_add_right, Region.lexHead, Bool.and_eq_true] at hB
    have hr : k ∈ Region.ready md ops got := by simpa using hB.1.1
    exact Till.take h0 hsel (fun c a w => hQ c a _ _ w) hs hc hn (by omega) _ got a w inv hB.1.2 hr hy hS (readsN.till hsel hs hc hn hQ hS c l (k + 1) _ _ hl' (by omega) (inv.set hr (by omega)) hB.2 hK)

/-- What the kernel reckons of the region: m reads, one more, and a forced tail. -/
def tillB (md : Region.Mode) (ops : Array Oper) (m : Nat) : Bool :=
  Region.noSelect ops && decide (m + 1 < ops.size) && Region.sinkB md ops (m + 1) && Region.chainB md ops (m + 1) && Region.lexHead md ops (ops.size - m) m 0 (Array.replicate ops.size false)

theorem wp_region_till {id : Nat} {a : Act} {w : World} {l : List Oper} (m : Nat) (S : World → Prop) (hm : P.follows .mixedOrders = true) (hB : tillB .any l.toArray m = true)
    (hQ : ∀ c a d v w, Q (.panic c) (Act.put a d v) w → Q (.panic c) a w) (hS : S w.drew) (h : readsN P l.toArray Q S w.drew m l a) : (Code.region id l.toArray true).wp P Q a w := by
  simp only [tillB, Bool.and_eq_true, decide_eq_true_eq] at hB
  refine wp_region_any hm (Till.any (readsN.till hB.1.1.1.1 hB.1.1.2 hB.1.2 hB.1.1.1.2 hQ hS m l 0 _ a (fun j => by simp) (by omega) ⟨by simp, ?_, ?_⟩ (by simpa using hB.2) h))
  · intro j _ _ h1; rw [getD_replicate_false] at h1; cases h1
  · intro t _ h1; exact getD_in (by simpa using h1) (getD_replicate_false _ _)
end
end Go.Proofs.YtmclpganipfadaaGreatDoor

namespace Go.Proofs.YtmclpganipfadaaGreatDoor
open Go
set_option linter.unusedVariables false

section
variable {P : Program} {ops : Array Oper} {Q : Exit → Act → World → Prop} {md : Region.Mode} {S : World → Prop}

def Heads (P : Program) (ops : Array Oper) (Q : Exit → Act → World → Prop) (S : World → Prop) : List Bool → List Oper → Act → World → Prop
  | [], l, a, w => wpList P ops Q l a w
  | true :: ms, o :: l, a, w => ∃ v, YieldsIf P ops S o v a ∧ Heads P ops Q S ms l (a.put o.dst v) w
  | false :: ms, o :: l, a, w => Region.wanted o (yielded ops a.tmps) = true ∧ o.wp P a w (fun a' w' => S w' ∧ Heads P ops Q S ms l a' w') Q
  | _ :: _, [], _, _ => False

theorem Heads.take {ms : List Bool} {o : Oper} {l : List Oper} {a : Act} {w : World} (v : Value) (h1 : Region.wanted o (yielded ops a.tmps) = true) (h2 : ∀ w, S w → (execOp a.eval o).run P w = .ok (.value v) w)
    (h : Heads P ops Q S ms l (a.put o.dst v) w) : Heads P ops Q S (true :: ms) (o :: l) a w := ⟨v, .inl ⟨h1, h2⟩, h⟩
theorem Heads.call {ms : List Bool} {o : Oper} {l : List Oper} {a : Act} {w : World} (f : FuncId) (args : Array Value) (h1 : Region.wanted o (yielded ops a.tmps) = true) (h2 : (execOp a.eval o).run P w = .ok (.enter f args) w)
    (h : Calls P f args w fun e w' => ∃ v, e = .returned v ∧ S w' ∧ Heads P ops Q S ms l (a.put o.dst v) w') : Heads P ops Q S (false :: ms) (o :: l) a w := by
  refine ⟨h1, ?_⟩
  simp only [Oper.wp, h2, Oper.upon]
  refine h.mono ?_
  rintro e w' ⟨v, rfl, hS', h'⟩
  exact ⟨hS', h'⟩
theorem Heads.make {ms : List Bool} {o : Oper} {l : List Oper} {a : Act} {w w1 : World} (v : Value) (h1 : Region.wanted o (yielded ops a.tmps) = true) (h2 : (execOp a.eval o).run P w = .ok (.value v) w1) (hS : S w1)
    (h : Heads P ops Q S ms l (a.put o.dst v) w1) : Heads P ops Q S (false :: ms) (o :: l) a w := by
  refine ⟨h1, ?_⟩
  simp only [Oper.wp, h2, Oper.upon]
  exact ⟨hS, h⟩
theorem Heads.done {l : List Oper} {a : Act} {w : World} (h : wpList P ops Q l a w) : Heads P ops Q S [] l a w := by
  unfold Heads; exact h

def headsB (md : Region.Mode) (ops : Array Oper) : List Bool → Nat → Array Bool → Bool
  | [], k, got => Region.seqB md ops (ops.size - k) k got
  | true :: ms, k, got => (Region.ready md ops got).contains k && Region.free md ops got k && headsB md ops ms (k + 1) (got.setIfInBounds k true)
  | false :: ms, k, got => decide (Region.ready md ops got = [k]) && headsB md ops ms (k + 1) (got.setIfInBounds k true)

theorem heads_till {n : Nat} (hsel : Region.noSelect ops = true) (hs : Region.sinkB md ops n = true) (hc : Region.chainB md ops n = true) (hn : n < ops.size)
    (hQ : ∀ c a d v w, Q (.panic c) (Act.put a d v) w → Q (.panic c) a w) :
    ∀ (ms : List Bool) (l : List Oper) (k : Nat) (got : Array Bool) (a : Act) (w : World), (∀ j, l[j]? = ops[k + j]?) → k + ms.length = n → l.length = ops.size - k → HeadInv md ops n got →
    headsB md ops ms k got = true → S w → Heads P ops Q S ms l a w → Till P md ops Q S n l.length got a w
  | [], l, k, got, a, w, hl, hk, hlen, inv, hB, hS, h => by
    obtain rfl : k = n := by simpa using hk
    unfold headsB at hB
    rw [← hlen] at hB
    unfold Heads at h
    have h5 := wpAny_of_seq l k _ _ _ hl hB h
    have h6 : ∀ i ∈ Region.ready md ops got, k ≤ i := fun i hi => by have := seqB_ready hB i hi; omega
    generalize l.length = f at *
    cases f with
    | zero => exact ⟨h6, h5⟩
    | succ f => exact .inl ⟨h6, h5⟩
  | m :: _, [], k, got, a, w, _, _, _, _, _, _, h => by
    cases m <;> exact (show False from h).elim
  | true :: ms, o :: l, k, got, a, w, hl, hk, hlen, inv, hB, hS, ⟨v, hy, h⟩ => by
    obtain ⟨h0, hl'⟩ := tail_of hl
    simp only [headsB, Bool.and_eq_true] at hB
    have hr : k ∈ Region.ready md ops got := by simpa using hB.1.1
    have hkn : k < n := by simp at hk; omega
    exact Till.take h0 hsel (fun c a w => hQ c a _ _ w) hs hc hn hkn _ got a w inv hB.1.2 hr hy hS (heads_till hsel hs hc hn hQ ms l (k + 1) _ _ _ hl' (by simp at hk; omega) (by simp at hlen; omega) (inv.set hr hkn) hB.2 hS h)
  | false :: ms, o :: l, k, got, a, w, hl, hk, hlen, inv, hB, hS, ⟨h1, h⟩ => by
    obtain ⟨h0, hl'⟩ := tail_of hl
    simp only [headsB, Bool.and_eq_true, decide_eq_true_eq] at hB
    have hkn : k < n := by simp at hk; omega
    refine .inr ⟨by rw [hB.1]; simp, fun j hj => ?_⟩
    obtain rfl : j = k := by rw [hB.1] at hj; simpa using hj
    unfold Go.wpOp
    simp only [h0, h1, if_true]
    exact .inl (Oper.wp_mono (fun a' w' q => ⟨q.1, heads_till hsel hs hc hn hQ ms l (j + 1) _ _ _ hl' (by simp at hk; omega) (by simp at hlen; omega) (inv.set hj hkn) hB.2 q.1 q.2⟩) h)

/-- What the kernel reckons of the region. -/
def headsAll (md : Region.Mode) (ops : Array Oper) (ms : List Bool) : Bool :=
  Region.noSelect ops && decide (ms.length < ops.size) && Region.sinkB md ops ms.length && Region.chainB md ops ms.length && headsB md ops ms 0 (Array.replicate ops.size false)

theorem wp_region_heads {id : Nat} {a : Act} {w : World} {l : List Oper} (ms : List Bool) (S : World → Prop) (hm : P.follows .mixedOrders = true) (hB : headsAll .any l.toArray ms = true)
    (hQ : ∀ c a d v w, Q (.panic c) (Act.put a d v) w → Q (.panic c) a w) (hS : S w.drew) (h : Heads P l.toArray Q S ms l a w.drew) : (Code.region id l.toArray true).wp P Q a w := by
  simp only [headsAll, Bool.and_eq_true, decide_eq_true_eq] at hB
  refine wp_region_any hm (Till.any (heads_till hB.1.1.1.1 hB.1.1.2 hB.1.2 hB.1.1.1.2 hQ ms l 0 _ a _ (fun j => by simp) (by omega) (by simp) ⟨by simp, ?_, ?_⟩ (by simpa using hB.2) hS h))
  · intro j _ _ h1; rw [getD_replicate_false] at h1; cases h1
  · intro t _ h1; exact getD_in (by simpa using h1) (getD_replicate_false _ _)
end
end Go.Proofs.YtmclpganipfadaaGreatDoor

namespace Go.Proofs.YtmclpganipfadaaGreatDoor
open Go.RowKit Go.Shelf Go.Maps
set_option linter.unusedVariables false

/-- It holds on, whatever becomes of what lies from B on. -/
def Afar {β : Type} (B : Nat) (I : β → World → Prop) : Prop :=
  ∀ s W W' row, I s W → W.grownBy W' row → (∀ r, row = some r → B ≤ r) → I s W'
theorem Afar.put {β : Type} {B : Nat} {I : β → World → Prop} (h : Afar B I) {s : β} {W : World} {l : Nat} (o : Obj) (hs : I s W) (hl : B ≤ l) : I s (W.putObj l o) :=
  h s W _ (some l) hs (grownBy_putObj' W l o) (fun r e => by cases e; exact hl)
theorem Afar.new {β : Type} {B : Nat} {I : β → World → Prop} (h : Afar B I) {s : β} {W : World} (o : Obj) (hs : I s W) : I s (W.alloc o) :=
  h s W _ none hs (World.grownBy_alloc W o none) (fun r e => by cases e)
theorem Afar.set {β : Type} {B : Nat} {I : β → World → Prop} (h : Afar B I) {s : β} {W : World} {b : Nat} (off : Nat) (u : Value) (hs : I s W) (hl : B ≤ b) : I s (W.setCell ⟨b, off, none⟩ u) :=
  h s W _ (some b) hs ⟨rfl, rfl, rfl, by simp [World.setCell], fun k _ hk => Below.heap_setCell _ _ _ _ (fun e => hk (by rw [e]))⟩ (fun r e => by cases e; exact hl)

theorem Afar.drew {β : Type} {B : Nat} {I : β → World → Prop} (h : Afar B I) {s : β} {W : World} (hs : I s W) : I s W.drew :=
  h s W _ none hs ⟨rfl, rfl, rfl, Nat.le_refl _, fun _ _ _ => rfl⟩ (fun r e => by cases e)

/-- What an iterator is asked: called at the yield of any loop, with any invariant that holds on whatever becomes of the iterator's own memory, it goes through some list of which S holds. -/
def Whole {α : Type} (F : Fence) (n : Nat) (P : Program) (g : Nat) (lb : Array Value) (encs : α → Array Value) (Kp : World → World → Prop) (S : List α → Prop) (N : Nat) (w : World) : Prop :=
  ∀ (l : Nat) (J : List α → World → Prop) (W : World), Below w.heap.size w W → Afar W.heap.size J →
    (∀ pre x W1, J pre W1 → pre.length < N → YieldAt F (n - 1) P l (encs x) W1 fun e W' => e = .returned (.bool true) ∧ J (pre ++ [x]) W' ∧ Kp W1 W') →
    J [] W → CallsIn F n P g (#[.func (.yield l) #[] #[]] ++ lb) W fun e W' => (∃ v, e = .returned v) ∧ ∃ xs, S xs ∧ J xs W'

variable {F : Fence} {n : Nat} {P : Program}

theorem range_whole {α : Type} {g : Operand} {ps : Array Tmp} {assign body : Code} {Q : Exit → Act → World → Prop} {a : Act} {w : World}
    (hro : F.round = none) (h1 : 1 ≤ n) {gf : Nat} {lb : Array Value} (hg : a.eval g = .func (.func gf) #[] lb) (hFg : F.fn gf) (eg : ∀ args w, (callFunc gf args).run P w = .ok (.enter gf args) w)
    {encs : α → Array Value} {Kp : World → World → Prop} {S : List α → Prop} {N : Nat} (hit : Whole F (n - 1) P gf lb encs Kp S N w)
    (hKt : ∀ {X Y Z : World}, Kp X Y → Kp Y Z → Kp X Z) (hKb : ∀ (W : World) (l : Nat) (o o' : Obj), w.heap.size ≤ l → W.heap[l]? = some o → o.isCells = false → Kp W (W.putObj l o')) (hps : ∀ x, (encs x).size = ps.size)
    (I : List α → World → Prop) (hI : Afar w.heap.size I) (h0 : I [] w)
    (Ax : α → Act → World → Prop) (hAx : ∀ x a' W (l : Nat) (o o' : Obj), Ax x a' W → W.heap[l]? = some o → o.isCells = false → Ax x a' (W.putObj l o'))
    (hassign : ∀ (l : Nat) (pre : List α) (x : α) (W : World) (K : Act → World → Prop), w.heap.size ≤ W.heap.size → I pre W → (∀ a' W', KeepsOthers W W' → Kp W W' → I pre W' → Ax x a' W' → K a' W') →
      assign.wpIn (F.inRound l) (n - 1 - 1) P (Exit.then K (fun _ _ _ => False)) { tmps := (ps.zip (encs x)).foldl (fun t (p, v) => t.setIfInBounds p v) a.tmps, defers := [] } W)
    (hbody : ∀ (l : Nat) (pre : List α) (x : α) (a' : Act) (W : World), I pre W → Ax x a' W → pre.length < N → body.wpIn (F.inRound l) (n - 1 - 1) P (fun e _ W' => e = .normal ∧ KeepsOthers W W' ∧ Kp W W' ∧ I (pre ++ [x]) W') a' W)
    (hdone : ∀ (D : Nat) (xs : List α) (W : World), w.heap.size ≤ D → S xs → I xs W → W.heap[D]? = some (.deferred (some [])) → Q .normal { a with defers := { target := .collected D, args := #[] } :: a.defers } W) :
    (Code.rangeFunc g ps assign body).wpIn F n P Q a w := by
  refine wpIn_rangeFunc fun fn hfn => ?_
  rw [hro]
  obtain ⟨R, hR⟩ : ∃ R : LoopState → Loop, R = fun st => { state := st, pending := none, fn, tmps := a.tmps, params := ps, assign, body, defers := w.heap.size } := ⟨_, rfl⟩
  obtain ⟨B, hB⟩ : ∃ B, B = w.heap.size := ⟨_, rfl⟩
  obtain ⟨W1, hW1⟩ : ∃ W1, (w.alloc (.deferred (some []))).alloc (.loop (R .ready)) = W1 := ⟨_, rfl⟩
  have hs1 : W1.heap.size = B + 2 := by rw [← hW1, hB]; simp
  have hL1 : W1.heap[B + 1]? = some (.loop (R .ready)) := by
    have := World.alloc_heap_new (w.alloc (.deferred (some []))) (.loop (R .ready))
    rwa [World.size_alloc, hW1, ← hB] at this
  have hD1 : W1.heap[B]? = some (.deferred (some [])) := by
    rw [← hW1, hB]; exact (Below.heap_alloc _ _ _ (by simp)).trans (World.alloc_heap_new w _)
  have hw1 : Below w.heap.size w W1 := by rw [← hW1]; exact ((Below.refl _ w).alloc (Nat.le_refl _) _).alloc (by simp) _
  have hI1 : I [] W1 := by rw [← hW1]; exact hI.new _ (hI.new _ h0)
  refine ⟨w.heap.size + 1, [{ target := .collected w.heap.size, args := #[] }], W1, { target := .fn (.func gf) lb, args := #[.func (.yield (w.heap.size + 1)) #[] #[]] }, W1, gf, #[.func (.yield (w.heap.size + 1)) #[] #[]] ++ lb, W1, ?_, ?_, ?_, ?_, fun _ => h1, ?_⟩
  · rw [← hW1, hR]; exact run_enterLoop_outer _ _ _ _ _
  · simp only [resolve, hg]; simp [go_sem]
  · intro f' hf'; simp [Target.leads] at hf'; subst hf'; exact hFg
  · simp [invoke, go_sem, eg]
  rw [← hB] at hI hKb hassign hdone ⊢
  refine (hit (B + 1) (fun pre W => I pre W ∧ W.heap[B + 1]? = some (.loop (R .ready)) ∧ W.heap[B]? = some (.deferred (some []))) W1 hw1 ?_ ?_ ⟨hI1, hL1, hD1⟩).mono ?_
  · rintro s X Y row ⟨hs, hl, hd⟩ hgr hr
    refine ⟨hI s X Y row hs hgr (fun r e => by have := hr r e; omega), (hgr.block _ (Array.getElem?_eq_some_iff.1 hl).1 (fun e => by have := hr _ e.symm; omega)).trans hl, (hgr.block _ (Array.getElem?_eq_some_iff.1 hd).1 (fun e => by have := hr _ e.symm; omega)).trans hd⟩
  · rintro pre x W ⟨hi, hl, hd⟩ hlen
    have hlt : B + 1 < W.heap.size := (Array.getElem?_eq_some_iff.1 hl).1
    have hy := run_yield (P := P) (args := encs x) hl (by rw [hR]; exact hps x)
    rw [hR] at hy
    refine ⟨fn, _, assign, body, hy, roundIn_of_wpIn hfn (hassign _ pre x W _ (by omega) hi ?_)⟩
    intro a' W' hk' hkp' hi' hax'
    have hl' := hk'.same _ _ hl rfl
    have hd' := hk'.same _ _ hd rfl
    refine ⟨_, run_beginRound hl' (by rw [hR]), ?_⟩
    have hlt' : B + 1 < W'.heap.size := (Array.getElem?_eq_some_iff.1 hl').1
    refine wpIn_mono (hbody _ pre x a' _ (hI.put _ hi' (by omega)) (hAx _ _ _ _ _ _ hax' hl' rfl) hlen) ?_
    rintro e a3 W3 ⟨rfl, hk3, hkp3, hi3⟩
    have hl3 := hk3.same _ _ (World.putObj_heap_same hlt') rfl
    have hd3 := hk3.same _ _ ((World.putObj_heap_other (by omega)).trans hd') rfl
    have hlt3 : B + 1 < W3.heap.size := (Array.getElem?_eq_some_iff.1 hl3).1
    have hend := run_endRound (P := P) none hl3
    refine ⟨_, _, hend, rfl, ⟨hI.put _ hi3 (by omega), ?_, (World.putObj_heap_other (by omega)).trans hd3⟩, hKt (hKt (hKt hkp' (hKb _ _ _ _ (by omega) hl' rfl)) hkp3) (hKb _ _ _ _ (by omega) hl3 rfl)⟩
    rw [World.putObj_heap_same hlt3, hR]; rfl
  · rintro e W2 ⟨⟨v, rfl⟩, xs, hS, hi, hl, hd⟩
    refine ⟨none, _, ?_, hdone B xs _ (by omega) hS (hI.put (l := B + 1) (.loop (R .exhausted)) hi (by omega)) ((World.putObj_heap_other (by omega)).trans hd)⟩
    have := run_endLoop (P := P) hl (by rw [hR]; simp)
    rw [hR] at this ⊢
    exact this
end Go.Proofs.YtmclpganipfadaaGreatDoor

namespace Go.Proofs.YtmclpganipfadaaGreatDoor
open Go
set_option linter.unusedVariables false

section
variable {P : Program} {ops : Array Oper} {Q : Exit → Act → World → Prop} {md : Region.Mode} {S : World → Prop}

def Picked (P : Program) (ops : Array Oper) (Q : Exit → Act → World → Prop) (S : World → Prop) : List (Nat × Bool) → Act → World → Prop
  | [], a, w => Q .normal a w
  | (k, true) :: ms, a, w => ∃ o v, ops[k]? = some o ∧ YieldsIf P ops S o v a ∧ Picked P ops Q S ms (a.put o.dst v) w
  | (k, false) :: ms, a, w => ∃ o, ops[k]? = some o ∧ Region.wanted o (yielded ops a.tmps) = true ∧ o.wp P a w (fun a' w' => S w' ∧ Picked P ops Q S ms a' w') Q

theorem Picked.take {ms : List (Nat × Bool)} {k : Nat} {o : Oper} {a : Act} {w : World} (v : Value) (h0 : ops[k]? = some o) (h1 : Region.wanted o (yielded ops a.tmps) = true) (h2 : ∀ w, S w → (execOp a.eval o).run P w = .ok (.value v) w)
    (h : Picked P ops Q S ms (a.put o.dst v) w) : Picked P ops Q S ((k, true) :: ms) a w := ⟨o, v, h0, .inl ⟨h1, h2⟩, h⟩
theorem Picked.make {ms : List (Nat × Bool)} {k : Nat} {o : Oper} {a : Act} {w w1 : World} (v : Value) (h0 : ops[k]? = some o) (h1 : Region.wanted o (yielded ops a.tmps) = true) (h2 : (execOp a.eval o).run P w = .ok (.value v) w1) (hS : S w1)
    (h : Picked P ops Q S ms (a.put o.dst v) w1) : Picked P ops Q S ((k, false) :: ms) a w := by
  refine ⟨o, h0, h1, ?_⟩
  simp only [Oper.wp, h2, Oper.upon]
  exact ⟨hS, h⟩
theorem Picked.call {ms : List (Nat × Bool)} {k : Nat} {o : Oper} {a : Act} {w : World} (f : FuncId) (args : Array Value) (h0 : ops[k]? = some o) (h1 : Region.wanted o (yielded ops a.tmps) = true) (h2 : (execOp a.eval o).run P w = .ok (.enter f args) w)
    (h : Calls P f args w fun e w' => ∃ v, e = .returned v ∧ S w' ∧ Picked P ops Q S ms (a.put o.dst v) w') : Picked P ops Q S ((k, false) :: ms) a w := by
  refine ⟨o, h0, h1, ?_⟩
  simp only [Oper.wp, h2, Oper.upon]
  refine h.mono ?_
  rintro e w' ⟨v, rfl, hS', h'⟩
  exact ⟨hS', h'⟩

theorem exec_make {a : Act} {o : Oper} {w w' : World} (t : TypeId) (l c : Operand) (vl vc v : Value) (ho : o.op = .makeSlice t l c) (hl : a.eval l = vl) (hc : a.eval c = vc) (hr : (Instr.makeSlice t vl vc).run P w = .ok v w') : (execOp a.eval o).run P w = .ok (.value v) w' := by
  unfold execOp
  simp only [ho, hl, hc, Sem.run_bind, Sem.run_pure, Result.andThen_ok, hr]
theorem exec_app {a : Act} {o : Oper} {w w' : World} (t : TypeId) (s x : Operand) (vs vx v : Value) (ho : o.op = .call { callee := .builtin .append, args := #[s, x], argTypes := #[t, t] }) (hs : a.eval s = vs) (hx : a.eval x = vx) (hr : (Builtin.append_ #[t, t] o.type #[vs, vx]).run P w = .ok v w') : (execOp a.eval o).run P w = .ok (.value v) w' := by
  unfold execOp
  simp only [ho, resolve, invoke, builtin, Sem.run_bind, Sem.run_pure, Result.andThen_ok, List.map_toArray, List.map_cons, List.map_nil, hs, hx, hr]

def pickedB (md : Region.Mode) (ops : Array Oper) : List (Nat × Bool) → Array Bool → Bool
  | [], got => (Region.ready md ops got).isEmpty
  | (k, true) :: ms, got => (Region.ready md ops got).contains k && Region.free md ops got k && pickedB md ops ms (got.setIfInBounds k true)
  | (k, false) :: ms, got => decide (Region.ready md ops got = [k]) && pickedB md ops ms (got.setIfInBounds k true)

theorem picked_held (hsel : Region.noSelect ops = true) (hQ : ∀ c a d v w, Q (.panic c) (Act.put a d v) w → Q (.panic c) a w) :
    ∀ (ms : List (Nat × Bool)) (got : Array Bool) (a : Act) (w : World), pickedB md ops ms got = true → S w → Picked P ops Q S ms a w → wpAnyH P md ops Q S ms.length got a w
  | [], got, a, w, hB, _, h => ⟨by simpa [pickedB] using hB, h⟩
  | (k, true) :: ms, got, a, w, hB, hS, ⟨o, v, h0, hy, h⟩ => by
    simp only [pickedB, Bool.and_eq_true] at hB
    exact wpAnyH_take h0 hsel hB.1.2 hB.1.1 (fun c a w => hQ c a _ _ w) hy hS (picked_held hsel hQ ms _ _ _ hB.2 hS h)
  | (k, false) :: ms, got, a, w, hB, hS, ⟨o, h0, h1, h⟩ => by
    simp only [pickedB, Bool.and_eq_true, decide_eq_true_eq] at hB
    refine wpAnyH_all hB.1 (by simp) fun i hi => ?_
    obtain rfl : i = k := by simpa using hi
    unfold Go.wpOp
    simp only [h0, h1, if_true]
    exact .inl (Oper.wp_mono (fun a' w' q => ⟨q.1, picked_held hsel hQ ms _ _ _ hB.2 q.1 q.2⟩) h)

theorem wp_region_picked {id : Nat} {a : Act} {w : World} {l : List Oper} (ms : List (Nat × Bool)) (S : World → Prop) (hm : P.follows .mixedOrders = true) (hB : (Region.noSelect l.toArray && decide (ms.length = l.length) && pickedB .any l.toArray ms (Array.replicate l.toArray.size false)) = true)
    (hQ : ∀ c a d v w, Q (.panic c) (Act.put a d v) w → Q (.panic c) a w) (hS : S w.drew) (h : Picked P l.toArray Q S ms a w.drew) : (Code.region id l.toArray true).wp P Q a w := by
  simp only [Bool.and_eq_true, decide_eq_true_eq] at hB
  have := picked_held (md := .any) hB.1.1 hQ ms _ a w.drew hB.2 hS h
  rw [hB.1.2] at this
  exact wp_region_held hm this
end
end Go.Proofs.YtmclpganipfadaaGreatDoor

namespace Go.Proofs.YtmclpganipfadaaGreatDoor
open Go.RowKit Go.Maps
set_option linter.unusedVariables false

theorem ints_src {w : World} {A : Option Addr} {l : List Int} (hA : Ints w A l) : ∀ ad, A = some ad → ∀ j u, (intsOf l)[j]? = some u → w.cell? (ad.add j) = some u := by
  intro ad e j u hu
  subst e
  have hj : j < l.length := by
    rcases Nat.lt_or_ge j l.length with h | h
    · exact h
    · rw [List.getElem?_eq_none (by simp [intsOf]; omega)] at hu; cases hu
  obtain ⟨b, off, e, hb, hc⟩ := hA (by omega)
  injection e with e
  subst e
  rw [add_plain', hc j hj]
  simp [intsOf, List.getElem?_eq_getElem hj] at hu ⊢
  exact hu
theorem ints_none {w : World} {l : List Int} (hA : Ints w none l) : l = [] := by
  cases l with
  | nil => rfl
  | cons x r => obtain ⟨b, off, e, _⟩ := hA (by simp); cases e
/-- 'append(x, y...)' onto a row of the call's own, y whatever numbers. -/
theorem app_run (w : World) (base : Nat) (t ty : TypeId) (ht : Tryz.prog.underlying t = some (.slice 3)) (v : Value) (n : Nat) (xs : List Value) (hown : w.ownsRow base 3 1 v n xs) (A : Option Addr) (m c : Nat) (l : List Int) (hl : l.length = m) (hA : Ints w A l) (hn : n ≤ 100000) (hm : m ≤ 100000) (hb : base ≤ w.heap.size) :
    ∃ v' w', (Builtin.append_ #[t, t] ty #[v, .slice A m c]).run Tryz.prog w = .ok v' w' ∧ w'.ownsRow base 3 1 v' (n + m) (xs ++ intsOf l) ∧ w.grownBy w' v.ownBlock ∧ (v' = .slice none 0 0 → v = .slice none 0 0) := by
  obtain ⟨i0, hi, hz0, hz1, hz2⟩ := info_parts info_int
  cases A with
  | none =>
    obtain rfl := ints_none hA
    obtain rfl : m = 0 := by simpa using hl.symm
    refine ⟨v, w, ?_, by simpa [intsOf] using hown, World.grownBy.refl _ _, id⟩
    rcases hown.2 with ⟨rfl, rfl⟩ | ⟨g, cap, cur, rfl, _, _, hnc, _⟩
    · simp [Builtin.append_, run_underlying ht, sizeOf, typeInfo, hi, Builtin.lenOf, Builtin.firstCells]
    · simp [Builtin.append_, run_underlying ht, sizeOf, typeInfo, hi, Builtin.lenOf, Builtin.firstCells, hnc, storeCells]
  | some ad =>
    obtain ⟨v', w', h1, h2, h3, h4, h5⟩ := run_append_own_at (P := Tryz.prog) w base t ty 3 i0 (.int .i64 0) 1 8 ht hi hz0 hz1 hz2 rfl (by decide) v n xs hown ad m c (intsOf l) (by simp [intsOf, hl]) (ints_src hA ad rfl) (by intro u hu; simp [intsOf] at hu; obtain ⟨x, _, rfl⟩ := hu; rfl) (by simp only [maxLen]; omega) (by omega) hb
    exact ⟨v', w', h1, h2, h3, fun e => (h4.1 e).1⟩
theorem wpList_app (w : World) {ops : Array Oper} {rest : List Oper} {o : Oper} {a : Act} {Q : Exit → Act → World → Prop} (hgd : o.guard = none) (s x : Operand) (t : TypeId)
    (ho : o.op = .call { callee := .builtin .append, args := #[s, x], argTypes := #[t, t] })
    (base : Nat) (ht : Tryz.prog.underlying t = some (.slice 3)) (v : Value) (n : Nat) (xs : List Value) (hs : a.eval s = v) (hown : w.ownsRow base 3 1 v n xs)
    (A : Option Addr) (m c : Nat) (l : List Int) (hx : a.eval x = .slice A m c) (hl : l.length = m) (hA : Ints w A l) (hn : n ≤ 100000) (hm : m ≤ 100000) (hb : base ≤ w.heap.size)
    (h : ∀ v' w', w'.ownsRow base 3 1 v' (n + m) (xs ++ intsOf l) → w.grownBy w' v.ownBlock → (v' = .slice none 0 0 → v = .slice none 0 0) → wpList Tryz.prog ops Q rest (a.put o.dst v') w') : wpList Tryz.prog ops Q (o :: rest) a w := by
  obtain ⟨v', w', hr, h2, h3, h4⟩ := app_run w base t o.type ht v n xs hown A m c l hl hA hn hm hb
  refine wpList_plain hgd fun _ hK => ?_
  unfold Oper.wp execOp
  simp only [ho, resolve, invoke, builtin, Sem.run_bind, Sem.run_pure, Result.andThen_ok, List.map_toArray, List.map_cons, List.map_nil, hs, hx, hr]
  exact hK _ _ (h v' w' h2 h3 h4)
theorem form4 {w : World} {base g n cap m : Nat} {e : TypeId} {v : Value} {xs : List Value} (h : w.ownsRow base e 1 v m xs) (hn : v = .slice none 0 0 → Value.slice (some ⟨g, 0, none⟩) n cap = .slice none 0 0) : ∃ g' cap', v = .slice (some ⟨g', 0, none⟩) m cap' := by
  rcases h.2 with ⟨e', _⟩ | ⟨g', cap', cur, e', _⟩
  · have := hn e'
    cases this
  · exact ⟨g', cap', e'⟩
theorem grown_below {w w' : World} {base g n cap : Nat} {e : TypeId} {xs : List Value} (hg : w.grownBy w' (Value.ownBlock (.slice (some ⟨g, 0, none⟩) n cap))) (h : w.ownsRow base e 1 (.slice (some ⟨g, 0, none⟩) n cap) n xs) (hb : base ≤ w.heap.size) : Below base w w' :=
  (Below.refl base w).grown hg hb (fun k e => by cases e; exact (h.lt g rfl).1)
theorem info8 {i : TypeInfo} (h : i.bytes = 8) (n : Nat) (hn : n ≤ 1000) : i.bytes * n ≤ 281474976710656 := by rw [h]; omega
/-- What Apply tells: the state then (a list of its own), what is returned, the error. -/
def SetPost (t : Int) (m : List Int) (k r er : Int) (w : World) (e : Ending) (w' : World) : Prop :=
  ∃ A c, e = .returned (.tuple #[stV t 0 A m.length c, retV k r, .int .i64 er]) ∧ w'.ownsRow w.heap.size 3 1 (.slice A m.length c) m.length (intsOf m) ∧ Below w.heap.size w w'
theorem set_none (w w' : World) (er : Int) (hB : Below w.heap.size w w') : SetPost 0 [] 0 0 er w (.returned (ansV 0 0 0 0 er)) w' := ⟨none, 0, rfl, World.ownsRow_nil _ _ _ _, hB⟩
theorem row_mid {W W' : World} {base : Nat} {e : TypeId} {size : Nat} {v : Value} {n : Nat} {xs : List Value} (h : W.ownsRow base e size v n xs) (hM : ∀ B, base ≤ B → B < W.heap.size → W'.heap[B]? = W.heap[B]?) : W'.ownsRow base e size v n xs := by
  refine ⟨h.1, ?_⟩
  rcases h.2 with h' | ⟨g, cap, cur, h1, h2, h3, h4⟩
  · exact .inl h'
  · exact .inr ⟨g, cap, cur, h1, h2, (hM g h2 (Array.getElem?_eq_some_iff.1 h3).1).trans h3, h4⟩
theorem filled_far (w : World) (Z : Nat) (t n : Int) (v : Value) (k r : Int) (B : Nat) (hB : Z + 1 < B) : (filled w Z t n v k r).heap[B]? = w.heap[B]? := by
  have e0 : ∀ (W : World) off u, (W.setCell ⟨Z, off, none⟩ u).heap[B]? = W.heap[B]? := fun W off u => Below.heap_setCell _ _ _ _ (show B ≠ Z by omega)
  have e1 : ∀ (W : World) off u, (W.setCell ⟨Z + 1, off, none⟩ u).heap[B]? = W.heap[B]? := fun W off u => Below.heap_setCell _ _ _ _ (show B ≠ Z + 1 by omega)
  exact (((((e1 _ _ _).trans (e1 _ _ _)).trans (e0 _ _ _)).trans (e0 _ _ _)).trans (e0 _ _ _))
theorem onto {a b c : World} (h : Below a.heap.size a b) (k : Below b.heap.size b c) : Below a.heap.size a c := nxt h k h.size
/-- A list of its own, or nil. -/
def RowPost (m : List Int) (w : World) (e : Ending) (w' : World) : Prop :=
  ∃ A c, e = .returned (.slice A m.length c) ∧ w'.ownsRow w.heap.size 3 1 (.slice A m.length c) m.length (intsOf m) ∧ Below w.heap.size w w'
theorem row_shape {W : World} {b : Nat} {v : Value} {n : Nat} {xs : List Value} (h : W.ownsRow b 3 1 v n xs) : ∃ A c, v = .slice A n c ∧ n ≤ c := by
  rcases h.2 with ⟨rfl, rfl⟩ | ⟨g, cap, cur, rfl, _, _, h1, _⟩
  · exact ⟨none, 0, rfl, Nat.le_refl _⟩
  · exact ⟨_, cap, rfl, h1⟩
theorem row_fit {W : World} {b : Nat} {A : Option Addr} {c n : Nat} {xs : List Value} (h : W.ownsRow b 3 1 (.slice A n c) n xs) : n ≤ c := by
  obtain ⟨A', c', e, h'⟩ := row_shape h
  injection e with e1 e2 e3
  omega
theorem row_ends {w W : World} {m : List Int} {n : Nat} {v : Value} (h : W.ownsRow w.heap.size 3 1 v n (intsOf m)) (hB : Below w.heap.size w W) : RowPost m w (.returned v) W := by
  have hn : n = m.length := by have := h.1; simp [intsOf] at this; omega
  subst hn
  obtain ⟨A, c, rfl, _⟩ := row_shape h
  exact ⟨A, c, rfl, h, hB⟩
/-- A number put behind a row of the call's own. -/
theorem row_put {w W w3 : World} {v v3 : Value} {n : Nat} {o : List Int} {y : Int} (ho : W.ownsRow w.heap.size 3 1 v n (intsOf o)) (hB : Below w.heap.size w W) (h3 : w3.ownsRow w.heap.size 3 1 v3 (n + 1) (intsOf o ++ intsOf [y])) (hg : (W.alloc (.cells #[.int .i64 y] 3)).grownBy w3 v.ownBlock) :
    w3.ownsRow w.heap.size 3 1 v3 (n + 1) (intsOf (o ++ [y])) ∧ Below w.heap.size w w3 := by
  refine ⟨by rw [show intsOf (o ++ [y]) = intsOf o ++ intsOf [y] by simp [intsOf]]; exact h3, ?_⟩
  have h1 := hB.alloc hB.size (.cells #[.int .i64 y] 3)
  exact h1.grown hg h1.size (fun k e => (ho.lt k e).1)
theorem row_n {W : World} {b n : Nat} {v : Value} {o : List Int} (h : W.ownsRow b 3 1 v n (intsOf o)) : n = o.length := by
  have := h.1; simp [intsOf] at this; omega
theorem room3 {w W : World} (h : Below w.heap.size w W) (o : Obj) : w.heap.size ≤ (W.alloc o).heap.size := by have := h.size; simp; omega
theorem gro_alloc {a w : World} (h : Below a.heap.size a w) (o : Obj) : Below a.heap.size a (w.alloc o) := h.alloc h.size o
theorem gro_set {a w : World} (h : Below a.heap.size a w) {b : Nat} (off : Nat) (u : Value) (hb : a.heap.size ≤ b) : Below a.heap.size a (w.setCell ⟨b, off, none⟩ u) := h.setCell (p := ⟨b, off, none⟩) hb u
theorem set_other {W : World} {B b : Nat} {t : TypeId} {cs : Array Value} (h : Holds W B t cs) (off : Nat) (u : Value) (hne : B ≠ b) : Holds (W.setCell ⟨b, off, none⟩ u) B t cs := h.of (Below.heap_setCell _ _ _ _ hne)
theorem set_three {W : World} {B : Nat} {t : TypeId} {a b c a' b' c' : Value} (h : Holds W B t #[a, b, c]) : Holds (((W.setCell ⟨B, 0, none⟩ a').setCell ⟨B, 1, none⟩ b').setCell ⟨B, 2, none⟩ c') B t #[a', b', c'] := ((h.set 0 a').set 1 b').set 2 c'
theorem set_two {W : World} {B : Nat} {t : TypeId} {a b a' b' : Value} (h : Holds W B t #[a, b]) : Holds ((W.setCell ⟨B, 0, none⟩ a').setCell ⟨B, 1, none⟩ b') B t #[a', b'] := (h.set 0 a').set 1 b'
theorem row_set {W : World} {base : Nat} {e : TypeId} {size : Nat} {v : Value} {n : Nat} {xs : List Value} (h : W.ownsRow base e size v n xs) (b off : Nat) (u : Value) (hne : ∀ g, v.ownBlock = some g → g ≠ b) : (W.setCell ⟨b, off, none⟩ u).ownsRow base e size v n xs := by
  refine h.kept (row := some b) ⟨rfl, rfl, rfl, by simp [World.setCell], fun k _ hk => Below.heap_setCell _ _ _ _ (fun e => hk (by rw [e]))⟩ ?_
  rcases h.2 with ⟨rfl, _⟩ | ⟨g, cap, cur, rfl, _⟩
  · exact .inl rfl
  · refine .inr ?_
    intro e
    exact hne g rfl (Option.some.inj e)
theorem new_second (w : World) (o : Obj) (t : TypeId) (cs : Array Value) : Holds ((w.alloc o).alloc (.cells cs t)) (w.heap.size + 1) t cs := by
  have := Holds.new (w.alloc o) t cs
  rwa [World.size_alloc] at this
theorem cell_cells {W : World} {p : Addr} {v : Value} (h : W.cell? p = some v) : ∃ o : Obj, W.heap[p.block]? = some o ∧ o.isCells = true := by
  unfold World.cell? at h
  split at h
  · next cs t fr hb => exact ⟨_, hb, rfl⟩
  · cases h
end Go.Proofs.YtmclpganipfadaaGreatDoor
