/- Texts of earlier stages over this seat, joined: GrQ. -/
import Derived.Test.YtpdbkjnaicjfdaaGreatDoorGuP
import Derived.Test.YtpdbkjnaicjfdaaGreatDoorGrW
import Derived.ProofKit
import Derived.OpenShut
import Derived.ChangeOld
import Derived.ChangeArms
import Derived.Deep.Slices
set_option maxRecDepth 100000
namespace Go.Proofs.YtpdbkjnaicjfdaaGreatDoor
open Go.ChangeShapes Go.WideShapes Go.ChangeAt Go.RowKit
set_option linter.unusedVariables false

theorem cells_opM : Tryz.prog.cellsOf 50 = 5 := by kernel_rfl
theorem cells_evM : Tryz.prog.cellsOf 55 = 11 := by kernel_rfl
theorem cells_str : Tryz.prog.cellsOf 9 = 1 := by kernel_rfl
theorem cells_rt : Tryz.prog.cellsOf 48 = 2 := by kernel_rfl
theorem list5 {α : Type} {cs : List α} (h : cs.length = 5) : ∃ c0 c1 c2 c3 c4, cs = [c0, c1, c2, c3, c4] := by
  match cs, h with
  | [c0, c1, c2, c3, c4], _ => exact ⟨c0, c1, c2, c3, c4, rfl⟩
theorem list3 {α : Type} {cs : List α} (h : cs.length = 3) : ∃ c0 c1 c2, cs = [c0, c1, c2] := by
  match cs, h with
  | [c0, c1, c2], _ => exact ⟨c0, c1, c2, rfl⟩
theorem list11 {α : Type} {cs : List α} (h : cs.length = 11) : ∃ c0 c1 c2 c3 c4 c5 c6 c7 c8 c9 c10, cs = [c0, c1, c2, c3, c4, c5, c6, c7, c8, c9, c10] := by
  match cs, h with
  | [c0, c1, c2, c3, c4, c5, c6, c7, c8, c9, c10], _ => exact ⟨c0, c1, c2, c3, c4, c5, c6, c7, c8, c9, c10, rfl⟩
section
variable {H : Type} {enc : TypeId × Value → H} {W : World} {base : Nat} {spare : Nat → Bool} {held : Bool} {fuel : Nat} {P : Program}
theorem tr4 {t : TypeId} {f0 f1 f2 f3 : Field} {cs : List Value} {x : DataW H × List MemPlace} (ht : P.underlying t = some (.struct #[f0, f1, f2, f3])) (h : DataW.trod enc P W base spare held fuel t cs = some x) :
    ∃ y0 y1 y2 y3 n, cs.length = P.cellsOf t ∧ DataW.trod enc P W base spare held n f0.type ((cs.drop f0.offset).take (P.cellsOf f0.type)) = some y0 ∧
      DataW.trod enc P W base spare held n f1.type ((cs.drop f1.offset).take (P.cellsOf f1.type)) = some y1 ∧ DataW.trod enc P W base spare held n f2.type ((cs.drop f2.offset).take (P.cellsOf f2.type)) = some y2 ∧
      DataW.trod enc P W base spare held n f3.type ((cs.drop f3.offset).take (P.cellsOf f3.type)) = some y3 := by
  obtain ⟨xs, n, _, rfl, hl, hlen, hf⟩ := DataW.trod_struct ht h
  match xs, hlen with
  | [y0, y1, y2, y3], _ => exact ⟨y0, y1, y2, y3, n, hl, by simpa using hf 0 f0 rfl, by simpa using hf 1 f1 rfl, by simpa using hf 2 f2 rfl, by simpa using hf 3 f3 rfl⟩
theorem tr5 {t : TypeId} {f0 f1 f2 f3 f4 : Field} {cs : List Value} {x : DataW H × List MemPlace} (ht : P.underlying t = some (.struct #[f0, f1, f2, f3, f4])) (h : DataW.trod enc P W base spare held fuel t cs = some x) :
    ∃ y0 y1 y2 y3 y4 n, cs.length = P.cellsOf t ∧ DataW.trod enc P W base spare held n f0.type ((cs.drop f0.offset).take (P.cellsOf f0.type)) = some y0 ∧
      DataW.trod enc P W base spare held n f1.type ((cs.drop f1.offset).take (P.cellsOf f1.type)) = some y1 ∧ DataW.trod enc P W base spare held n f2.type ((cs.drop f2.offset).take (P.cellsOf f2.type)) = some y2 ∧
      DataW.trod enc P W base spare held n f3.type ((cs.drop f3.offset).take (P.cellsOf f3.type)) = some y3 ∧ DataW.trod enc P W base spare held n f4.type ((cs.drop f4.offset).take (P.cellsOf f4.type)) = some y4 := by
  obtain ⟨xs, n, _, rfl, hl, hlen, hf⟩ := DataW.trod_struct ht h
  match xs, hlen with
  | [y0, y1, y2, y3, y4], _ => exact ⟨y0, y1, y2, y3, y4, n, hl, by simpa using hf 0 f0 rfl, by simpa using hf 1 f1 rfl, by simpa using hf 2 f2 rfl, by simpa using hf 3 f3 rfl, by simpa using hf 4 f4 rfl⟩
end
set_option maxRecDepth 100000 in
theorem op_cellsA {H : Type} {enc : TypeId × Value → H} {W : World} {base : Nat} {spare : Nat → Bool} {held : Bool} {fuel : Nat} {cs : List Value} {x : DataW H × List MemPlace} (h : DataW.trod enc Tryz.prog W base spare held fuel 50 cs = some x) :
    ∃ o : OpT, (I64 o.2.1 ∧ I64 o.2.2.1 ∧ I64 o.2.2.2.2) ∧ cs = [.int .i64 o.1, .int .i64 o.2.1, .int .i64 o.2.2.1, .int .i64 o.2.2.2.1, .int .i64 o.2.2.2.2] := by
  obtain ⟨y0, y1, y2, y3, n, hl, h0, h1, h2, h3⟩ := tr4 Tryz.underlying50 h
  obtain ⟨c0, c1, c2, c3, c4, rfl⟩ := list5 (hl.trans cells_opM)
  simp only [cells_i, cells_rt, List.drop_zero, List.drop_succ_cons, List.take_succ_cons, List.take_zero] at h0 h1 h2 h3
  obtain ⟨kd, e0, _, w0⟩ := DataW.trod_int Tryz.underlying3 h0
  obtain ⟨a, e1, _, w1⟩ := DataW.trod_int Tryz.underlying3 h1
  obtain ⟨b, e2, _, w2⟩ := DataW.trod_int Tryz.underlying3 h2
  obtain ⟨y4, y5, m, _, _, h4, h5⟩ := trod_struct2 Tryz.underlying48 h3
  simp only [cells_i, List.drop_zero, List.drop_succ_cons, List.take_succ_cons, List.take_zero] at h4 h5
  obtain ⟨k, e4, _, w4⟩ := DataW.trod_int Tryz.underlying3 h4
  obtain ⟨n', e5, _, w5⟩ := DataW.trod_int Tryz.underlying3 h5
  simp at e0 e1 e2 e4 e5
  subst e0 e1 e2 e4 e5
  exact ⟨(kd, a, b, k, n'), ⟨small_wf w1, small_wf w2, small_wf w5⟩, rfl⟩
set_option maxRecDepth 100000 in
theorem st_cellsA {H : Type} {enc : TypeId × Value → H} {W : World} {base : Nat} {held : Bool} {fuel : Nat} {cs : List Value} {x : DataW H × List MemPlace} (h : DataW.trod enc Tryz.prog W base (fun _ => true) held fuel 53 cs = some x) :
    ∃ (s : StT) (A : Option Addr) (c : Nat), cs = [.int .i64 s.1, .int .i64 s.2.1, .slice A s.2.2.length c] ∧ Small s.2.1 ∧ Ints W A s.2.2 ∧ (∀ x ∈ s.2.2, Small x) := by
  obtain ⟨y0, y1, y2, n, _, hl, h0, h1, h2⟩ := Go.Deep.trod_struct3 Tryz.underlying53 h
  obtain ⟨c0, c1, c2, rfl⟩ := list3 (hl.trans cells_st)
  simp only [cells_i, cells_sl, List.drop_zero, List.drop_succ_cons, List.take_succ_cons, List.take_zero] at h0 h1 h2
  obtain ⟨t, e0, _, w0⟩ := DataW.trod_int Tryz.underlying3 h0
  obtain ⟨m, e1, _, w1⟩ := DataW.trod_int Tryz.underlying3 h1
  simp at e0 e1
  subst e0 e1
  rcases open_ints Tryz.underlying51 Tryz.underlying3 (by kernel_rfl) h2 with ⟨hcs, _⟩ | ⟨x, len, c, zs, hcs, _, hll, hm, hz, _, hcell, hwz⟩
  · simp at hcs
    subst hcs
    exact ⟨(t, m, []), none, 0, rfl, small_wf w1, (fun h => by simp at h), (fun _ h => by cases h)⟩
  · simp at hcs
    subst hcs
    obtain ⟨l, rfl, hA, hs, hm'⟩ := row_ints (w := W) (A := some x) (len := len) (cap := c) (zs := zs) (.inr ⟨x, rfl, hll, hm, by simpa using hz, hcell, hwz⟩)
    exact ⟨(t, m, l), some x, c, rfl, small_wf w1, hA, hs⟩
set_option maxRecDepth 100000 in
theorem ev_cellsA {H : Type} {enc : TypeId × Value → H} {W : World} {base : Nat} {held : Bool} {fuel : Nat} {cs : List Value} {x : DataW H × List MemPlace} (h : DataW.trod enc Tryz.prog W base (fun _ => true) held fuel 55 cs = some x) :
    ∃ z : EvZ, cs = evL z ∧ EvW z.1 ∧ Ints W z.2.1 z.1.st.2.2 := by
  obtain ⟨y0, y1, y2, y3, y4, n, hl, h0, h1, h2, h3, h4⟩ := tr5 Tryz.underlying55 h
  obtain ⟨c0, c1, c2, c3, c4, c5, c6, c7, c8, c9, c10, rfl⟩ := list11 (hl.trans cells_evM)
  simp only [cells_i, cells_str, cells_opM, cells_st, List.drop_zero, List.drop_succ_cons, List.take_succ_cons, List.take_zero] at h0 h1 h2 h3 h4
  obtain ⟨kd, e0, _, w0⟩ := DataW.trod_int Tryz.underlying3 h0
  obtain ⟨nm, e1, _, _⟩ := DataW.trod_string Tryz.underlying9 h1
  obtain ⟨ob, e2, _, _⟩ := DataW.trod_string Tryz.underlying9 h2
  obtain ⟨o, ⟨wa, wb, wr⟩, e3⟩ := op_cellsA h3
  obtain ⟨s, A, c, e4, wn, hA, ws⟩ := st_cellsA h4
  simp at e0 e1 e2 e3 e4
  obtain ⟨rfl, rfl, rfl, rfl, rfl⟩ := e3
  obtain ⟨rfl, rfl, rfl⟩ := e4
  subst e0 e1 e2
  exact ⟨(⟨kd, nm, ob, o, s⟩, A, c), rfl, ⟨ws, wn, wa, wb, wr⟩, hA⟩
instance : Inhabited EvZ := ⟨(evD, none, 0)⟩
set_option maxRecDepth 100000 in
theorem open_evs {H : Type} {enc : TypeId × Value → H} {W : World} {base : Nat} {held : Bool} {r : Reach} {b0 : Nat} {v : Value} {d : DataW H} {p : List MemPlace} (hv : Value.okWide Tryz.prog W r b0 22 v) (h : DataW.Trod enc Tryz.prog W base (fun _ => true) held 22 v d p) :
    ∃ (A : Option Addr) (c : Nat) (l : List EvZ), v = .slice A l.length c ∧ ReadEvs W.heap.size W A l ∧ ReadNums W l ∧ (∀ z ∈ l, EvW z.1) ∧ l.length ≤ c ∧ c ≤ maxLen := by
  obtain ⟨A, len, c, rfl⟩ := okWide_slice Tryz.underlying22 hv
  obtain ⟨fuel, hf⟩ := h
  rcases DataW.trod_slice Tryz.underlying22 hf with ⟨hcs, _⟩ | ⟨x, len', c', elems, rest, n, _, hcs, _, _, hl, hm, hlen, hel, _⟩
  · simp [Value.cells] at hcs
    obtain ⟨rfl, rfl, rfl⟩ := hcs
    exact ⟨none, 0, [], rfl, (fun h => by simp at h), (fun _ h => by cases h), (fun _ h => by cases h), Nat.zero_le _, Nat.zero_le _⟩
  · simp [Value.cells] at hcs
    obtain ⟨rfl, rfl, rfl⟩ := hcs
    rcases Nat.eq_zero_or_pos len with rfl | hp
    · exact ⟨some x, c, [], rfl, (fun h => by simp at h), (fun _ h => by cases h), (fun _ h => by cases h), Nat.zero_le _, hm⟩
    have raw : ∀ i, i < len → ∃ z : EvZ, (EvW z.1 ∧ Ints W z.2.1 z.1.st.2.2) ∧ ∀ k, k < 11 → W.cell? ((x.add (i * 11)).add k) = (evL z)[k]? := fun i hi => by
      have h1 := hel i hi
      rw [List.getElem?_eq_getElem (by omega), Option.bind_eq_some_iff, cells_evM] at h1
      obtain ⟨cs, hcs, ht⟩ := h1
      obtain ⟨z, rfl, hz, hi⟩ := ev_cellsA ht
      exact ⟨z, ⟨hz, hi⟩, (World.cells?_some hcs).2.2⟩
    obtain ⟨f, hf'⟩ := Go.Deep.choose_lt raw
    obtain ⟨b, off, spot⟩ := x
    have hspot : spot = none := by
      have h0 := World.cell?_spot ((hf' 0 hp).2 0 (by omega))
      simpa [Addr.add] using h0
    subst hspot
    have cell : ∀ j, j < len → ∀ k, k < 11 → W.cell? ⟨b, off + j * 11 + k, none⟩ = (evL (f j))[k]? := fun j hj k hk => by
      have := (hf' j hj).2 k hk
      rwa [Go.WideShapes.add_plain, Go.WideShapes.add_plain] at this
    refine ⟨some ⟨b, off, none⟩, c, (List.range len).map f, by simp, fun _ => ⟨b, off, rfl, ?_, fun k hk j hj => ?_⟩, fun z hz => ?_, fun z hz => ?_, by simpa using hl, hm⟩
    · have h0 := cell 0 hp 0 (by omega)
      rcases Nat.lt_or_ge b W.heap.size with hlt | hge
      · exact hlt
      · rw [World.cell?, Array.getElem?_eq_none hge] at h0; cases h0
    · have hk' : k < len := by simpa using hk
      rw [List.getElem?_map, List.getElem?_range hk']
      exact cell k hk' j hj
    · obtain ⟨i, hi, rfl⟩ := List.mem_map.1 hz
      exact (hf' i (by simpa using hi)).1.2
    · obtain ⟨i, hi, rfl⟩ := List.mem_map.1 hz
      exact (hf' i (by simpa using hi)).1.1
end Go.Proofs.YtpdbkjnaicjfdaaGreatDoor
