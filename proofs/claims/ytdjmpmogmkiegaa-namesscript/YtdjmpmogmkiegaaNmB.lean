/- Tables of names, as the world has them; New, made, Len, Of. -/
import Derived.Test.YtdjmpmogmkiegaaNmA
import Derived.Maps.OwnSet
import Derived.Maps.AppendAt
import Derived.StringKeys
import Derived.LaidEql
namespace Go.Proofs.Ytdjmpmogmkiegaa
open Go.RowKit Go.Maps
set_option linter.unusedVariables false

/-- How an element of the map reads. -/
def entElem : Value → Option (DataW Unit × List MemPlace)
  | .agg a => match a.toList with
    | [.int .i64 n] => some (.lit (.int .i64 n), [])
    | _ => none
  | _ => none
theorem entElem_mk (n : Int) : entElem (.agg #[.int .i64 n]) = some (.lit (.int .i64 n), []) := rfl
theorem entElem_inv {v : Value} {z : DataW Unit × List MemPlace} (h : entElem v = some z) : ∃ n, v = .agg #[.int .i64 n] ∧ z = (.lit (.int .i64 n), []) := by
  unfold entElem at h
  split at h
  · rename_i a
    split at h
    · rename_i n e
      refine ⟨n, ?_, (Option.some.inj h).symm⟩
      congr 1
      apply Array.ext'
      rw [e]
    · cases h
  · cases h

theorem keyLaw : Keyed Try.prog 9 := string_keyed Try.underlying9
theorem zeroEnt (w : World) : (zeroValue 51).run Try.prog w = .ok (.agg #[.int .i64 0]) w := by kernel_rfl
theorem keyName {s : ByteArray} (h : s.size ≤ maxLen) : keyOf Try.prog 9 (.string s) = some (.string s.data.toList) := Go.WideMaps.keyOf_string_mk Try.underlying9 h

def key (s : ByteArray) : Lit := .string s.data.toList
theorem key_inj {s t : ByteArray} (h : key s = key t) : s = t := by
  apply ByteArray.ext
  apply Array.ext'
  exact Lit.string.inj h

/-- The map's datum has just these names, each with its number. -/
def Keeps (D : DataW Unit) (ns : List ByteArray) : Prop :=
  (∀ s, Maps.has D (key s) = ns.contains s) ∧ ∀ (i : Nat) s, ns[i]? = some s → ∀ z, D.atKey (key s) z = .lit (.int .i64 i)

def texts (ns : List ByteArray) : List Value := ns.map Value.string

/-- Block B is a table with the names ns: its map lies in M, its names in v. -/
structure Tab (w : World) (lo B M : Nat) (v : Value) (ns : List ByteArray) : Prop where
  c0 : w.cell? ⟨B, 0, none⟩ = some (.pointer (some ⟨B, 0, none⟩))
  c1 : w.cell? ⟨B, 1, none⟩ = some (.map (some M))
  c2 : w.cell? ⟨B, 2, none⟩ = some v
  f2 : w.frozen? ⟨B, 2, none⟩ = false
  hB : lo ≤ B
  hM : lo ≤ M
  hBM : B ≠ M
  hvB : v.ownBlock ≠ some B
  hvM : v.ownBlock ≠ some M
  row : w.ownsRow lo 9 1 v ns.length (texts ns)
  map : ∃ D, w.ownsMap Try.prog 9 entElem M ns.length D ∧ Keeps D ns
  nodup : ns.Nodup
  names : ∀ s ∈ ns, nameB s = true

/-- What a table's call may turn. -/
def foot (B M : Nat) (v : Value) (k : Nat) : Prop := k = B ∨ k = M ∨ v.ownBlock = some k

/-- But for F the world is as it was. -/
structure But (F : Nat → Prop) (w w' : World) : Prop where
  os : w'.os = w.os
  tape : w'.tape = w.tape
  output : w'.output = w.output
  size : w.heap.size ≤ w'.heap.size
  block : ∀ k, k < w.heap.size → ¬ F k → w'.heap[k]? = w.heap[k]?

theorem But.refl (F : Nat → Prop) (w : World) : But F w w := ⟨rfl, rfl, rfl, Nat.le_refl _, fun _ _ _ => rfl⟩
theorem But.trans {F : Nat → Prop} {a b c : World} (h : But F a b) (k : But F b c) : But F a c :=
  ⟨k.os.trans h.os, k.tape.trans h.tape, k.output.trans h.output, Nat.le_trans h.size k.size, fun i hi hF => (k.block i (Nat.lt_of_lt_of_le hi h.size) hF).trans (h.block i hi hF)⟩
theorem But.below {F : Nat → Prop} {w w' : World} (h : But F w w') {lo : Nat} (hlo : ∀ k, F k → lo ≤ k) (hle : lo ≤ w.heap.size) : Below lo w w' :=
  ⟨h.os, h.tape, h.output, h.size, fun k hk => h.block k (by omega) (fun hF => by have := hlo k hF; omega)⟩
theorem but_of_below {F : Nat → Prop} {w w' : World} (h : Below w.heap.size w w') : But F w w' := ⟨h.os, h.tape, h.output, h.size, fun k hk _ => h.block k hk⟩
theorem but_of_grown {F : Nat → Prop} {w w' : World} {row : Option Nat} (h : w.grownBy w' row) (hr : ∀ k, row = some k → F k) : But F w w' :=
  ⟨h.os, h.tape, h.output, h.size, fun k hk hF => h.block k hk (fun e => hF (hr k e.symm))⟩
theorem but_setCell {F : Nat → Prop} (w : World) (a : Addr) (u : Value) (h : F a.block) : But F w (w.setCell a u) :=
  ⟨rfl, rfl, rfl, by simp [World.setCell], fun k hk hF => Below.heap_setCell _ _ _ _ (fun e => hF (e ▸ h))⟩

theorem lt_of_cell {w : World} {a : Addr} {v : Value} (h : w.cell? a = some v) : a.block < w.heap.size := World.block_lt_of_cell? w a h

theorem Tab.kept {w w' : World} {lo B M : Nat} {v : Value} {ns : List ByteArray} (h : Tab w lo B M v ns) (hk : ∀ k, k < w.heap.size → foot B M v k → w'.heap[k]? = w.heap[k]?) : Tab w' lo B M v ns := by
  have eB : w'.heap[B]? = w.heap[B]? := hk B (lt_of_cell h.c0) (.inl rfl)
  refine ⟨(World.cell?_of_block (a := ⟨B, 0, none⟩) eB).trans h.c0, (World.cell?_of_block (a := ⟨B, 1, none⟩) eB).trans h.c1, (World.cell?_of_block (a := ⟨B, 2, none⟩) eB).trans h.c2, (World.frozen?_of_block (a := ⟨B, 2, none⟩) eB).trans h.f2, h.hB, h.hM, h.hBM, h.hvB, h.hvM, ?_, ?_, h.nodup, h.names⟩
  · refine ⟨h.row.1, ?_⟩
    rcases h.row.2 with hn | ⟨g, cap, cur, e, hb, hg, rest⟩
    · exact .inl hn
    · exact .inr ⟨g, cap, cur, e, hb, (hk g (Array.getElem?_eq_some_iff.1 hg).1 (.inr (.inr (by rw [e]; rfl)))).trans hg, rest⟩
  · obtain ⟨D, ⟨es, clock, hb, r⟩, hD⟩ := h.map
    exact ⟨D, ⟨es, clock, (hk M (Array.getElem?_eq_some_iff.1 hb).1 (.inr (.inl rfl))).trans hb, r⟩, hD⟩

theorem Tab.below {w w' : World} {lo B M : Nat} {v : Value} {ns : List ByteArray} (h : Tab w lo B M v ns) (hk : Below w.heap.size w w') : Tab w' lo B M v ns :=
  h.kept fun k hl _ => hk.block k hl

theorem Tab.foot_lt {w : World} {lo B M : Nat} {v : Value} {ns : List ByteArray} (h : Tab w lo B M v ns) : ∀ k, foot B M v k → lo ≤ k ∧ k < w.heap.size := by
  rintro k (rfl | rfl | e)
  · exact ⟨h.hB, lt_of_cell h.c0⟩
  · obtain ⟨D, hD, _⟩ := h.map
    exact ⟨h.hM, hD.lt⟩
  · exact h.row.lt k e

theorem Tab.shape {w : World} {lo B M : Nat} {v : Value} {ns : List ByteArray} (h : Tab w lo B M v ns) : ∃ A c, v = .slice A ns.length c := by
  rcases h.row.2 with ⟨e, hn⟩ | ⟨g, cap, cur, e, _⟩
  · exact ⟨none, 0, by rw [e, hn]⟩
  · exact ⟨_, _, e⟩

def NewPost (w : World) (e : Ending) (w' : World) : Prop := ∃ B M, e = .returned (.pointer (some ⟨B, 0, none⟩)) ∧ Tab w' w.heap.size B M (.slice none 0 0) [] ∧ Below w.heap.size w w'

theorem keeps_nil : Keeps (.map []) [] := ⟨fun s => rfl, fun i s h => by simp at h⟩

set_option maxHeartbeats 1000000 in
theorem new_any (w : World) : Calls Try.prog 10 #[] w (NewPost w) := by
  have hmm := @run_makeMap Try.prog
  go_enter Try.func10, Try.ntmps10
  go_wp2
  go_ret
  refine ⟨w.heap.size + 1, w.heap.size, rfl, ⟨?_, ?_, ?_, ?_, by omega, by omega, by omega, by simp [Value.ownBlock], by simp [Value.ownBlock], World.ownsRow_nil _ _ _ _, ⟨.map [], ?_, keeps_nil⟩, List.nodup_nil, fun _ h => by cases h⟩, ?_⟩
  · simp
  · simp
  · simp
  · simp [go_sem]
  · exact (World.ownsMap_made w Try.prog 9 entElem).alloc _
  · exact ((Below.refl _ w).alloc (Nat.le_refl _) _).alloc (by simp) _

theorem eql_same (w : World) (a : Addr) : (binOp .eql 25 (.pointer (some a)) (.pointer (some a))).run Try.prog w = .ok (.bool true) w := by
  have hz : (Go.sizeOf 44).run Try.prog w = .ok 3 w := by kernel_rfl
  have hu : (underlying 25).run Try.prog w = .ok (.pointer 44) w := run_underlying Try.underlying25 w
  have h1 : (Op.equalIn (9999 + 1) 25 (.pointer (some a)) (.pointer (some a))).run Try.prog w = .ok true w := by
    rw [Op.equalIn]
    simp [hu, hz, run_sameAddr_same]
  have h2 : (Op.equal 25 (.pointer (some a)) (.pointer (some a))).run Try.prog w = .ok true w := h1
  simp only [binOp]
  simp [h2]
theorem eql_none (w : World) (a : Addr) : (binOp .eql 25 (.pointer none) (.pointer (some a))).run Try.prog w = .ok (.bool false) w := by
  have hu : (underlying 25).run Try.prog w = .ok (.pointer 44) w := run_underlying Try.underlying25 w
  have h1 : (Op.equalIn (9999 + 1) 25 (.pointer none) (.pointer (some a))).run Try.prog w = .ok false w := by
    rw [Op.equalIn]
    simp [hu]
  have h2 : (Op.equal 25 (.pointer none) (.pointer (some a))).run Try.prog w = .ok false w := h1
  simp only [binOp]
  simp [h2]

def Made (b : Bool) (w : World) (e : Ending) (w' : World) : Prop := e = .returned (.bool b) ∧ w = w'

theorem made_yes (B : Nat) (w : World) (h : w.cell? ⟨B, 0, none⟩ = some (.pointer (some ⟨B, 0, none⟩))) : Calls Try.prog 28 #[.pointer (some ⟨B, 0, none⟩)] w (Made true w) := by
  have he := eql_same
  go_enter Try.func28, Try.ntmps28
  go_wp2
  go_ret
  exact ⟨rfl, rfl⟩

theorem made_nil (w : World) : Calls Try.prog 28 #[.pointer none] w (Made false w) := by
  go_enter Try.func28, Try.ntmps28
  go_wp2
  go_ret
  exact ⟨rfl, rfl⟩

theorem made_no (B : Nat) (w : World) (h : w.cell? ⟨B, 0, none⟩ = some (.pointer none)) : Calls Try.prog 28 #[.pointer (some ⟨B, 0, none⟩)] w (Made false w) := by
  have he := eql_none
  go_enter Try.func28, Try.ntmps28
  go_wp2
  go_ret
  exact ⟨rfl, rfl⟩

theorem len_any {lo B M : Nat} {v : Value} {ns : List ByteArray} (w : World) (h : Tab w lo B M v ns) : Calls Try.prog 11 #[.pointer (some ⟨B, 0, none⟩)] w fun e w' => e = .returned (.int .i64 ns.length) ∧ w = w' := by
  obtain ⟨A, c, rfl⟩ := h.shape
  have h0 := made_yes B w h.c0
  have h2 := h.c2
  clear h
  go_enter Try.func11, Try.ntmps11
  go_wp2_with fail
  refine h0.mono ?_
  rintro e w1 ⟨rfl, rfl⟩
  go_wp2
  go_ret
  exact ⟨rfl, rfl⟩
end Go.Proofs.Ytdjmpmogmkiegaa
