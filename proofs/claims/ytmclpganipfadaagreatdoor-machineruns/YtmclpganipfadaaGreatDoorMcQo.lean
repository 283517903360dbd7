/- An operation, and a list of operations (with its room), as arguments. -/
import Derived.Test.YtmclpganipfadaaGreatDoorMcQ
import Derived.Test.YtmclpganipfadaaGreatDoorMcD
import Derived.Lib.SmallJoins
import Derived.ProofKit
import Derived.OpenShut
import Derived.ChangeOld
import Derived.ChangeArms
import Derived.Deep.Slices
namespace Go.Proofs.YtmclpganipfadaaGreatDoor
open Go.ChangeShapes Go.WideShapes Go.ChangeAt Go.RowKit
set_option linter.unusedVariables false

def OkOpr (o : Opr) : Prop := Small o.kd ∧ Small o.a ∧ Small o.b ∧ Small o.rk ∧ Small o.rn
instance : Inhabited Opr := ⟨⟨0, 0, 0, 0, 0⟩⟩
theorem cells_opM : Tryz.prog.cellsOf 28 = 5 := by kernel_rfl
theorem list5 {α : Type} {cs : List α} (h : cs.length = 5) : ∃ c0 c1 c2 c3 c4, cs = [c0, c1, c2, c3, c4] := by
  match cs, h with
  | [c0, c1, c2, c3, c4], _ => exact ⟨c0, c1, c2, c3, c4, rfl⟩
set_option maxRecDepth 100000 in
theorem op_cells {H : Type} {enc : TypeId × Value → H} {W : World} {base : Nat} {spare : Nat → Bool} {held : Bool} {fuel : Nat} {cs : List Value} {x : DataW H × List MemPlace} (h : DataW.trod enc Tryz.prog W base spare held fuel 28 cs = some x) :
    ∃ o : Opr, OkOpr o ∧ cs = [.int .i64 o.kd, .int .i64 o.a, .int .i64 o.b, .int .i64 o.rk, .int .i64 o.rn] := by
  obtain ⟨y0, y1, y2, y3, n, hx, hl, h0, h1, h2, h3⟩ := Go.Joins.trod_struct4 Tryz.underlying28 h
  obtain ⟨c0, c1, c2, c3, c4, rfl⟩ := list5 (hl.trans cells_opM)
  simp only [cells_i, cells_rt, List.drop_zero, List.drop_succ_cons, List.take_succ_cons, List.take_zero] at h0 h1 h2 h3
  obtain ⟨kd, e0, _, w0⟩ := DataW.trod_int Tryz.underlying3 h0
  obtain ⟨a, e1, _, w1⟩ := DataW.trod_int Tryz.underlying3 h1
  obtain ⟨b, e2, _, w2⟩ := DataW.trod_int Tryz.underlying3 h2
  obtain ⟨y4, y5, m, _, _, h4, h5⟩ := trod_struct2 Tryz.underlying26 h3
  simp only [cells_i, List.drop_zero, List.drop_succ_cons, List.take_succ_cons, List.take_zero] at h4 h5
  obtain ⟨k, e4, _, w4⟩ := DataW.trod_int Tryz.underlying3 h4
  obtain ⟨n', e5, _, w5⟩ := DataW.trod_int Tryz.underlying3 h5
  simp at e0 e1 e2 e4 e5
  subst e0 e1 e2 e4 e5
  exact ⟨⟨kd, a, b, k, n'⟩, ⟨small_wf w0, small_wf w1, small_wf w2, small_wf w4, small_wf w5⟩, rfl⟩
set_option maxRecDepth 100000 in
theorem open_opM {H : Type} {enc : TypeId × Value → H} {W : World} {base : Nat} {spare : Nat → Bool} {held : Bool} {r : Reach} {b0 : Nat} {v : Value} {d : DataW H} {p : List MemPlace} (hv : Value.okWide Tryz.prog W r b0 28 v) (h : DataW.Trod enc Tryz.prog W base spare held 28 v d p) :
    ∃ o : Opr, v = opV o ∧ OkOpr o := by
  obtain ⟨cs, rfl, hsz⟩ := okWide_struct Tryz.underlying28 hv
  obtain ⟨fuel, hf⟩ := h
  obtain ⟨o, ho, hc⟩ := op_cells hf
  refine ⟨o, ?_, ho⟩
  have hc' : cs.toList = _ := hc
  unfold opV
  rw [← Array.toArray_toList (xs := cs), hc']
set_option maxRecDepth 100000 in
theorem open_opsM {H : Type} {enc : TypeId × Value → H} {W : World} {base : Nat} {held : Bool} {r : Reach} {b0 : Nat} {v : Value} {d : DataW H} {p : List MemPlace} (hv : Value.okWide Tryz.prog W r b0 41 v) (h : DataW.Trod enc Tryz.prog W base (fun _ => true) held 41 v d p) :
    ∃ (A : Option Addr) (c : Nat) (l : List Opr), v = .slice A l.length c ∧ Oprs W A l ∧ (∀ o ∈ l, OkOpr o) ∧ l.length ≤ c ∧ c ≤ maxLen := by
  obtain ⟨A, len, c, rfl⟩ := okWide_slice Tryz.underlying41 hv
  obtain ⟨fuel, hf⟩ := h
  rcases DataW.trod_slice Tryz.underlying41 hf with ⟨hcs, _⟩ | ⟨x, len', c', elems, rest, n, _, hcs, _, _, hl, hm, hlen, hel, _⟩
  · simp [Value.cells] at hcs
    obtain ⟨rfl, rfl, rfl⟩ := hcs
    exact ⟨none, 0, [], rfl, (fun h => by simp at h), (fun _ h => by cases h), Nat.zero_le _, Nat.zero_le _⟩
  · simp [Value.cells] at hcs
    obtain ⟨rfl, rfl, rfl⟩ := hcs
    rcases Nat.eq_zero_or_pos len with rfl | hp
    · exact ⟨some x, c, [], rfl, (fun h => by simp at h), (fun _ h => by cases h), Nat.zero_le _, hm⟩
    have raw : ∀ i, i < len → ∃ o : Opr, OkOpr o ∧ ∀ k, k < 5 → W.cell? ((x.add (i * 5)).add k) = [Value.int .i64 o.kd, .int .i64 o.a, .int .i64 o.b, .int .i64 o.rk, .int .i64 o.rn][k]? := fun i hi => by
      have h1 := hel i hi
      rw [List.getElem?_eq_getElem (by omega), Option.bind_eq_some_iff, cells_opM] at h1
      obtain ⟨cs, hcs, ht⟩ := h1
      obtain ⟨o, ho, rfl⟩ := op_cells ht
      exact ⟨o, ho, (World.cells?_some hcs).2.2⟩
    obtain ⟨f, hf'⟩ := Go.Deep.choose_lt raw
    obtain ⟨b, off, spot⟩ := x
    have hspot : spot = none := by
      have h0 := World.cell?_spot ((hf' 0 hp).2 0 (by omega))
      simpa [Addr.add] using h0
    subst hspot
    have cell : ∀ j, j < len → ∀ k, k < 5 → W.cell? ⟨b, off + j * 5 + k, none⟩ = [Value.int .i64 (f j).kd, .int .i64 (f j).a, .int .i64 (f j).b, .int .i64 (f j).rk, .int .i64 (f j).rn][k]? := fun j hj k hk => by
      have := (hf' j hj).2 k hk
      rwa [Go.WideShapes.add_plain, Go.WideShapes.add_plain] at this
    refine ⟨some ⟨b, off, none⟩, c, (List.range len).map f, by simp, fun _ => ⟨b, off, rfl, ?_, fun j o ho => ?_⟩, fun o ho => ?_, by simpa using hl, hm⟩
    · have h0 := cell 0 hp 0 (by omega)
      rcases Nat.lt_or_ge b W.heap.size with hlt | hge
      · exact hlt
      · rw [World.cell?, Array.getElem?_eq_none hge] at h0; cases h0
    · rw [List.getElem?_map] at ho
      obtain ⟨i, hi, rfl⟩ := Option.map_eq_some_iff.1 ho
      obtain ⟨hj, rfl⟩ := List.getElem?_eq_some_iff.1 hi
      simp at hj
      simp only [List.getElem_range]
      exact ⟨cell j hj 0 (by omega), cell j hj 1 (by omega), cell j hj 2 (by omega), cell j hj 3 (by omega), cell j hj 4 (by omega)⟩
    · obtain ⟨i, hi, rfl⟩ := List.mem_map.1 ho
      exact (hf' i (by simpa using hi)).1
end Go.Proofs.YtmclpganipfadaaGreatDoor
