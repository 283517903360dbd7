/- OverInts, OverState: what is the call's own is written over. -/
import Derived.Test.YthnaogdiiflljaaOpBase
import Derived.Test.YthnaogdiiflljaaMaBase
namespace Go.Proofs.Ythnaogdiiflljaa
open Go.RowKit Go.Maps
set_option linter.unusedVariables false

set_option maxHeartbeats 1000000 in
theorem overrow_any (g c n lo : Nat) (xs : List Value) (w : World) (h : w.ownsRow lo 3 1 (.slice (some ⟨g, 0, none⟩) n c) n xs) (hn : n ≤ 1001) :
    Calls Try.prog 19 #[.slice (some ⟨g, 0, none⟩) n c] w fun e w' => e = .returned (.tuple #[]) ∧ w.grownBy w' (some g) := by
  have HO := Lib.hid h
  clear h
  go_enter Try.func19, Try.ntmps19
  go_wp2
  go_loopw [2] (fun i wr => ∃ (k : Nat) (ys : List Value), k ≤ n ∧ i = .int .i64 k ∧ wr.ownsRow lo 3 1 (.slice (some ⟨g, 0, none⟩) n c) n ys ∧ w.grownBy wr (some g)) (fun i wr => n - (intOf i).toNat)
  case atStart => exact ⟨0, xs, Nat.zero_le _, rfl, HO.out, World.grownBy.refl _ _⟩
  case round =>
    obtain ⟨k, ys, hk, rfl, hown, hg⟩ := hrel
    by_cases hlt : k < n
    · have q0 : (0 : Int) ≤ (k : Int) := by omega
      have q1 : (k : Int) < (n : Int) := by omega
      have q2 : decide (k < n) = true := decide_eq_true hlt
      have hlen : ys.length = n := by have := hown.1; omega
      have hcell := hown.cellAt k (by omega)
      rw [List.getElem?_eq_getElem (by omega)] at hcell
      have hfro := hown.frozenAt k
      have HST := Lib.hid (hown.stored k (.int .i64 (-77)))
      generalize ys[k] = y at hcell
      clear hown
      go_wp2
      exact ⟨⟨k + 1, _, by omega, by go_num, HST.out.1, hg.trans HST.out.2⟩, by simp [intOf]; omega⟩
    · have q2 : decide (k < n) = false := decide_eq_false hlt
      go_wp2
      go_end0
      exact ⟨rfl, hg⟩
theorem overnil_any (w : World) : Calls Try.prog 19 #[.slice none 0 0] w fun e w' => e = .returned (.tuple #[]) ∧ w' = w := by
  go_enter Try.func19, Try.ntmps19
  go_wp2
  go_loopw [2] (fun i wr => i = .int .i64 0 ∧ wr = w) (fun i wr => 0)
  case atStart => exact ⟨rfl, rfl⟩
  case round =>
    obtain ⟨rfl, rfl⟩ := hrel
    go_wp2
    go_end0
    exact ⟨rfl, rfl⟩
theorem overints_any (A : Option Addr) (c n lo : Nat) (xs : List Value) (w : World) (h : w.ownsRow lo 3 1 (.slice A n c) n xs) (hn : n ≤ 1001) (hb : lo ≤ w.heap.size) :
    Calls Try.prog 19 #[.slice A n c] w fun e w' => e = .returned (.tuple #[]) ∧ Below lo w w' := by
  rcases h.2 with ⟨e1, e2⟩ | ⟨g, cap', cur, e1, hg, _⟩
  · injection e1 with e3 e4 e5
    subst e3 e4 e5
    refine (overnil_any w).mono ?_
    rintro e w' ⟨rfl, rfl⟩
    exact ⟨rfl, Below.refl _ _⟩
  · injection e1 with e3 e4 e5
    subst e3
    refine (overrow_any g c n lo _ _ h hn).mono ?_
    rintro e w' ⟨rfl, hgr⟩
    exact ⟨rfl, (Below.refl lo _).grown hgr hb (fun k e => by obtain rfl : g = k := Option.some.inj e; exact hg)⟩
theorem overstate_any (t n : Int) (A : Option Addr) (c k lo : Nat) (xs : List Value) (w : World) (h : w.ownsRow lo 3 1 (.slice A k c) k xs) (hk : k ≤ 1001) (hb : lo ≤ w.heap.size) :
    Calls Try.prog 13 #[.agg #[.int .i64 t, .int .i64 n, .slice A k c]] w fun e w' => e = .returned (.tuple #[]) ∧ Below lo w w' := by
  have hB0 := alloc1 w (.cells #[.int .i64 t, .int .i64 n, .slice A k c] 24)
  have HOV := overints_any A c k lo xs _ (row_below h hB0) hk (Nat.le_trans hb hB0.size)
  clear h
  go_enter Try.func13, Try.ntmps13
  go_wp2_with fail
  refine HOV.mono ?_
  rintro e w1 ⟨rfl, hB1⟩
  go_wp2
  go_end0
  exact ⟨rfl, nxt (hB0.mono hb) hB1 (Nat.le_refl _)⟩
end Go.Proofs.Ythnaogdiiflljaa
