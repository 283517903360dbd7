/- A state, a list of numbers, a return as arguments (each with its room). -/
import Derived.Test.YtmclpganipfadaaGreatDoorJbC
import Derived.ProofKit
import Derived.OpenShut
import Derived.ChangeOld
import Derived.Deep.Strs
namespace Go.Proofs.YtmclpganipfadaaGreatDoor
open Go.ChangeShapes Go.WideShapes Go.ChangeAt Go.RowKit
set_option linter.unusedVariables false

theorem array2 {α : Type} {cs : Array α} (h : cs.size = 2) : ∃ c0 c1, cs = #[c0, c1] := by
  obtain ⟨l⟩ := cs
  match l, h with
  | [a, b], _ => exact ⟨a, b, rfl⟩
theorem cells_rt : Tryz.prog.cellsOf 26 = 2 := by kernel_rfl

set_option maxRecDepth 100000 in
theorem open_stM {H : Type} {enc : TypeId × Value → H} {W : World} {base : Nat} {held : Bool} {r : Reach} {b0 : Nat} {v : Value} {d : DataW H} {p : List MemPlace} (hv : Value.okWide Tryz.prog W r b0 24 v) (h : DataW.Trod enc Tryz.prog W base (fun _ => true) held 24 v d p) :
    ∃ (t n : Int) (A : Option Addr) (c : Nat) (l : List Int), v = stV t n A l.length c ∧ Small t ∧ Small n ∧ Ints W A l ∧ (∀ x ∈ l, Small x) ∧ l.length ≤ c ∧ c ≤ maxLen := by
  obtain ⟨cs, rfl, hsz⟩ := okWide_struct Tryz.underlying24 hv
  obtain ⟨c0, c1, c2, rfl⟩ := array3 (hsz.trans cells_st)
  obtain ⟨fuel, hf⟩ := h
  obtain ⟨y0, y1, y2, n, hx, _, h0, h1, h2⟩ := Go.Deep.trod_struct3 Tryz.underlying24 hf
  simp only [cells_i, cells_sl, Value.cells, List.drop_zero, List.drop_succ_cons, List.take_succ_cons, List.take_zero] at h0 h1 h2
  obtain ⟨t, e0, _, w0⟩ := DataW.trod_int Tryz.underlying3 h0
  obtain ⟨m, e1, _, w1⟩ := DataW.trod_int Tryz.underlying3 h1
  simp at e0 e1
  subst e0 e1
  rcases open_ints Tryz.underlying22 Tryz.underlying3 (by kernel_rfl) h2 with ⟨hcs, _⟩ | ⟨x, len, c, zs, hcs, _, hl, hm, hz, _, hcell, hwz⟩
  · simp at hcs
    subst hcs
    exact ⟨t, m, none, 0, [], rfl, small_wf w0, small_wf w1, (fun h => by simp at h), (fun _ h => by cases h), by simp, by simp⟩
  · simp at hcs
    subst hcs
    obtain ⟨l, rfl, hA, hs, hm'⟩ := row_ints (w := W) (A := some x) (len := len) (cap := c) (zs := zs) (.inr ⟨x, rfl, hl, hm, by simpa using hz, hcell, hwz⟩)
    exact ⟨t, m, some x, c, l, rfl, small_wf w0, small_wf w1, hA, hs, hl, hm⟩
set_option maxRecDepth 100000 in
theorem open_ilM {H : Type} {enc : TypeId × Value → H} {W : World} {base : Nat} {held : Bool} {r : Reach} {b0 : Nat} {v : Value} {d : DataW H} {p : List MemPlace} (hv : Value.okWide Tryz.prog W r b0 22 v) (h : DataW.Trod enc Tryz.prog W base (fun _ => true) held 22 v d p) :
    ∃ (A : Option Addr) (c : Nat) (l : List Int), v = .slice A l.length c ∧ Ints W A l ∧ (∀ x ∈ l, Small x) ∧ l.length ≤ c ∧ c ≤ maxLen := open_il hv h
set_option maxRecDepth 100000 in
theorem open_retM {H : Type} {enc : TypeId × Value → H} {W : World} {base : Nat} {spare : Nat → Bool} {held : Bool} {r : Reach} {b0 : Nat} {v : Value} {d : DataW H} {p : List MemPlace} (hv : Value.okWide Tryz.prog W r b0 26 v) (h : DataW.Trod enc Tryz.prog W base spare held 26 v d p) :
    ∃ k n : Int, v = .agg #[.int .i64 k, .int .i64 n] ∧ Small k ∧ Small n := by
  obtain ⟨cs, rfl, hsz⟩ := okWide_struct Tryz.underlying26 hv
  obtain ⟨c0, c1, rfl⟩ := array2 (hsz.trans cells_rt)
  obtain ⟨fuel, hf⟩ := h
  obtain ⟨y4, y5, m, _, _, h4, h5⟩ := trod_struct2 Tryz.underlying26 hf
  simp only [cells_i, Value.cells, List.drop_zero, List.drop_succ_cons, List.take_succ_cons, List.take_zero] at h4 h5
  obtain ⟨k, e4, _, w4⟩ := DataW.trod_int Tryz.underlying3 h4
  obtain ⟨n', e5, _, w5⟩ := DataW.trod_int Tryz.underlying3 h5
  simp at e4 e5
  subst e4 e5
  exact ⟨k, n', rfl, small_wf w4, small_wf w5⟩
end Go.Proofs.YtmclpganipfadaaGreatDoor
