/- Registries, desks, askers. -/
import Derived.Test.YtpdbkjnaicjfdaaGreatDoorGrK
import Derived.Test.YtpdbkjnaicjfdaaGreatDoorHsShA
import Derived.Maps.OwnSet
import Derived.Maps.AppendAt
import Derived.Maps.OwnOps
import Derived.StringKeys
import Derived.LaidEql
import Derived.OneCell
import Derived.Deep.Cut
import Derived.Test.YtpdbkjnaicjfdaaGreatDoorHsPl
import Derived.Test.YtpdbkjnaicjfdaaGreatDoorGs
import Derived.Test.YtpdbkjnaicjfdaaGreatDoorGrJ
import Derived.BigQuiet
namespace Go.Proofs.YtpdbkjnaicjfdaaGreatDoor
open Go.RowKit Go.Maps
set_option linter.unusedVariables false

/-- But for F the world is as it was. -/
structure But (F : Nat → Prop) (w w' : World) : Prop where
  os : w'.os = w.os
  tape : w'.tape = w.tape
  output : w'.output = w.output
  size : w.heap.size ≤ w'.heap.size
  block : ∀ k, k < w.heap.size → ¬ F k → w'.heap[k]? = w.heap[k]?
theorem But.refl (F : Nat → Prop) (w : World) : But F w w := ⟨rfl, rfl, rfl, Nat.le_refl _, fun _ _ _ => rfl⟩
theorem But.trans {F : Nat → Prop} {a b c : World} (h : But F a b) (k : But F b c) : But F a c :=
  ⟨k.os.trans h.os, k.tape.trans h.tape, k.output.trans h.output, Nat.le_trans h.size k.size, fun i hi hF => (k.block i (Nat.lt_of_lt_of_le hi h.size) hF).trans (h.block i hi hF)⟩
/-- The later one may turn what is new. -/
theorem But.next {F G : Nat → Prop} {a b c : World} (h : But F a b) (k : But G b c) (hG : ∀ i, G i → F i ∨ a.heap.size ≤ i) : But F a c :=
  ⟨k.os.trans h.os, k.tape.trans h.tape, k.output.trans h.output, Nat.le_trans h.size k.size, fun i hi hF => (k.block i (Nat.lt_of_lt_of_le hi h.size) (fun g => by rcases hG i g with x | x; exact hF x; omega)).trans (h.block i hi hF)⟩
theorem But.wider {F G : Nat → Prop} {w w' : World} (h : But F w w') (hG : ∀ i, F i → G i) : But G w w' := ⟨h.os, h.tape, h.output, h.size, fun k hk hF => h.block k hk (fun f => hF (hG k f))⟩
theorem But.below {F : Nat → Prop} {w w' : World} (h : But F w w') {lo : Nat} (hlo : ∀ k, F k → lo ≤ k) (hle : lo ≤ w.heap.size) : Below lo w w' :=
  ⟨h.os, h.tape, h.output, h.size, fun k hk => h.block k (by omega) (fun hF => by have := hlo k hF; omega)⟩
theorem but_of_below {F : Nat → Prop} {w w' : World} (h : Below w.heap.size w w') : But F w w' := ⟨h.os, h.tape, h.output, h.size, fun k hk _ => h.block k hk⟩
theorem but_of_grown {F : Nat → Prop} {w w' : World} {row : Option Nat} (h : w.grownBy w' row) (hr : ∀ k, row = some k → F k) : But F w w' :=
  ⟨h.os, h.tape, h.output, h.size, fun k hk hF => h.block k hk (fun e => hF (hr k e.symm))⟩
theorem but_setCell {F : Nat → Prop} (w : World) (a : Addr) (u : Value) (h : F a.block) : But F w (w.setCell a u) :=
  ⟨rfl, rfl, rfl, by simp [World.setCell], fun k hk hF => Below.heap_setCell _ _ _ _ (fun e => hF (e ▸ h))⟩

/-- A pointer to a block's begin; nil. -/
def ptrO : Option Nat → Value
  | none => .pointer none
  | some b => .pointer (some ⟨b, 0, none⟩)
/-- How an element of the map reads. -/
def pElem : Value → Option (DataW Unit × List MemPlace)
  | .pointer none => some (.lit (.int .i64 (-1)), [])
  | .pointer (some ⟨b, 0, none⟩) => some (.lit (.int .i64 b), [])
  | _ => none
theorem pElem_none : pElem (.pointer none) = some (.lit (.int .i64 (-1)), []) := rfl
theorem pElem_some (b : Nat) : pElem (.pointer (some ⟨b, 0, none⟩)) = some (.lit (.int .i64 b), []) := rfl
theorem pElem_inv {v : Value} {z : DataW Unit × List MemPlace} (h : pElem v = some z) : (v = ptrO none ∧ z = (.lit (.int .i64 (-1)), [])) ∨ ∃ b : Nat, v = ptrO (some b) ∧ z = (.lit (.int .i64 b), []) := by
  unfold pElem at h
  split at h
  · exact .inl ⟨rfl, (Option.some.inj h).symm⟩
  · exact .inr ⟨_, rfl, (Option.some.inj h).symm⟩
  · cases h
def atO : Option Nat → Int
  | none => -1
  | some b => b
/-- The map's datum has just these names, each with its thing's block. -/
def Keeps (D : DataW Unit) (ns : List ByteArray) (bs : List Nat) : Prop :=
  (∀ s, Maps.has D (key s) = ns.contains s) ∧ ∀ (i : Nat) s b, ns[i]? = some s → bs[i]? = some b → ∀ z, D.atKey (key s) z = .lit (.int .i64 b)
theorem Keeps.at {D : DataW Unit} {ns : List ByteArray} {bs : List Nat} (h : Keeps D ns bs) (hl : ns.length = bs.length) (s : ByteArray) : D.atKey (key s) (.lit (.int .i64 (-1))) = .lit (.int .i64 (atO bs[ns.idxOf s]?)) := by
  cases hc : ns.contains s with
  | true =>
    have hm : s ∈ ns := by simpa using hc
    have hi := List.idxOf_lt_length_of_mem hm
    have e1 : ns[ns.idxOf s]? = some s := by rw [List.getElem?_eq_getElem hi, List.getElem_idxOf]
    have e2 : bs[ns.idxOf s]? = some (bs[ns.idxOf s]'(by omega)) := List.getElem?_eq_getElem _
    rw [h.2 _ s _ e1 e2, e2]; rfl
  | false =>
    have hm : s ∉ ns := fun k => by have : ns.contains s = true := by simpa using k
                                    rw [this] at hc; cases hc
    rw [atKey_of_not_has ((h.1 s).trans hc), List.idxOf_eq_length hm, List.getElem?_eq_none (by omega)]; rfl
theorem keeps_nil : Keeps (.map []) [] [] := ⟨fun s => rfl, fun i s b h => by simp at h⟩
theorem keeps_add {D : DataW Unit} {ns : List ByteArray} {bs : List Nat} {s : ByteArray} {b : Nat} (h : Keeps D ns bs) (hl : ns.length = bs.length) (hD : IsMap D) (hc : ns.contains s = false) : Keeps (D.put (key s) (.lit (.int .i64 b))) (ns ++ [s]) (bs ++ [b]) := by
  refine ⟨fun t => ?_, fun i t c hi hb z => ?_⟩
  · by_cases e : t = s
    · subst e
      rw [has_put_same hD (by simp [WideAt.IsKeyLit, key])]
      simp
    · rw [has_put_other (fun e' => e (key_inj e')), h.1 t]
      simp [e]
  · rcases Nat.lt_or_ge i ns.length with hll | hll
    · rw [List.getElem?_append_left hll] at hi
      rw [List.getElem?_append_left (by omega)] at hb
      have hm : t ∈ ns := List.mem_of_getElem? hi
      have hne : t ≠ s := fun e => by
        subst e
        have : ns.contains t = true := by simpa using hm
        rw [this] at hc; cases hc
      rw [atKey_put_other (fun e' => hne (key_inj e'))]
      exact h.2 i t c hi hb z
    · rw [List.getElem?_append_right hll] at hi
      rw [List.getElem?_append_right (by omega)] at hb
      have h0 : i - ns.length = 0 := by
        rcases Nat.eq_zero_or_pos (i - ns.length) with h0 | h0
        · exact h0
        · rw [List.getElem?_eq_none (by simp; omega)] at hi; cases hi
      rw [h0] at hi
      rw [← hl, h0] at hb
      have hs : s = t := by simpa using hi
      have hbb : b = c := by simpa using hb
      subst hs
      subst hbb
      exact atKey_put_same hD (by simp [WideAt.IsKeyLit, key]) _ _

/-- A registry's things: its map M, its order v, the things' names, blocks and cells. -/
structure Reg (w : World) (lo : Nat) (pt tt : TypeId) (M : Nat) (v : Value) (ns : List ByteArray) (bs : List Nat) (cs : List (Array Value)) : Prop where
  row : w.ownsRow lo pt 1 v bs.length (bs.map fun b => ptrO (some b))
  map : ∃ D, w.ownsMap Tryz.prog 9 pElem M bs.length D ∧ Keeps D ns bs
  hM : lo ≤ M
  nl : ns.length = bs.length
  cl : cs.length = bs.length
  nd : ns.Nodup
  bd : bs.Nodup
  box : ∀ (i b : Nat) (c : Array Value), bs[i]? = some b → cs[i]? = some c → lo ≤ b ∧ Holds w b tt c
def regF (M : Nat) (v : Value) (bs : List Nat) (k : Nat) : Prop := k = M ∨ v.ownBlock = some k ∨ k ∈ bs
theorem Reg.boxB {w : World} {lo : Nat} {pt tt : TypeId} {M : Nat} {v : Value} {ns : List ByteArray} {bs : List Nat} {cs : List (Array Value)} (h : Reg w lo pt tt M v ns bs cs) {b : Nat} (hb : b ∈ bs) : ∃ (i : Nat) (c : Array Value), bs[i]? = some b ∧ cs[i]? = some c ∧ lo ≤ b ∧ Holds w b tt c := by
  obtain ⟨i, hi, e⟩ := List.getElem_of_mem hb
  have hbi : bs[i]? = some b := by rw [List.getElem?_eq_getElem hi, e]
  have hci : cs[i]? = some (cs[i]'(by rw [h.cl]; exact hi)) := List.getElem?_eq_getElem _
  exact ⟨i, _, hbi, hci, h.box i b _ hbi hci⟩
theorem Reg.mapAt {w : World} {lo : Nat} {pt tt : TypeId} {M : Nat} {v : Value} {ns : List ByteArray} {bs : List Nat} {cs : List (Array Value)} (h : Reg w lo pt tt M v ns bs cs) : ∃ es clock, w.heap[M]? = some (.map es clock) := by
  obtain ⟨D, ⟨es, clock, hb, _⟩, _⟩ := h.map
  exact ⟨es, clock, hb⟩
theorem Reg.lt {w : World} {lo : Nat} {pt tt : TypeId} {M : Nat} {v : Value} {ns : List ByteArray} {bs : List Nat} {cs : List (Array Value)} (h : Reg w lo pt tt M v ns bs cs) : ∀ k, regF M v bs k → lo ≤ k ∧ k < w.heap.size := by
  rintro k (rfl | e | hk)
  · obtain ⟨es, clock, hb⟩ := h.mapAt
    exact ⟨h.hM, (Array.getElem?_eq_some_iff.1 hb).1⟩
  · exact h.row.lt k e
  · obtain ⟨i, c, _, _, hl, hH⟩ := h.boxB hk
    exact ⟨hl, hH.lt⟩
theorem Reg.kept {w w' : World} {lo : Nat} {pt tt : TypeId} {M : Nat} {v : Value} {ns : List ByteArray} {bs : List Nat} {cs : List (Array Value)} (h : Reg w lo pt tt M v ns bs cs) (hk : ∀ k, k < w.heap.size → regF M v bs k → w'.heap[k]? = w.heap[k]?) : Reg w' lo pt tt M v ns bs cs := by
  refine ⟨⟨h.row.1, ?_⟩, ?_, h.hM, h.nl, h.cl, h.nd, h.bd, fun i b c hb hc => ?_⟩
  · rcases h.row.2 with hn | ⟨g, cap, cur, e, hb, hg, rest⟩
    · exact .inl hn
    · exact .inr ⟨g, cap, cur, e, hb, (hk g (Array.getElem?_eq_some_iff.1 hg).1 (.inr (.inl (by rw [e]; rfl)))).trans hg, rest⟩
  · obtain ⟨D, ⟨es, clock, hb, r⟩, hD⟩ := h.map
    exact ⟨D, ⟨es, clock, (hk M (Array.getElem?_eq_some_iff.1 hb).1 (.inl rfl)).trans hb, r⟩, hD⟩
  · obtain ⟨hl, hH⟩ := h.box i b c hb hc
    exact ⟨hl, hH.of (hk b hH.lt (.inr (.inr (List.mem_of_getElem? hb))))⟩
theorem Reg.below {w w' : World} {lo : Nat} {pt tt : TypeId} {M : Nat} {v : Value} {ns : List ByteArray} {bs : List Nat} {cs : List (Array Value)} (h : Reg w lo pt tt M v ns bs cs) (hk : Below w.heap.size w w') : Reg w' lo pt tt M v ns bs cs :=
  h.kept fun k hl _ => hk.block k hl
theorem Reg.shape {w : World} {lo : Nat} {pt tt : TypeId} {M : Nat} {v : Value} {ns : List ByteArray} {bs : List Nat} {cs : List (Array Value)} (h : Reg w lo pt tt M v ns bs cs) : ∃ A c, v = .slice A bs.length c := by
  rcases h.row.2 with ⟨e, hn⟩ | ⟨g, cap, cur, e, _⟩
  · exact ⟨none, 0, by rw [e, hn]⟩
  · exact ⟨_, _, e⟩
/-- A block of another kind is none of the registry's. -/
theorem Reg.apart {w : World} {lo : Nat} {pt tt dt : TypeId} {M : Nat} {v : Value} {ns : List ByteArray} {bs : List Nat} {cs : List (Array Value)} (h : Reg w lo pt tt M v ns bs cs) {B : Nat} {dc : Array Value} (hB : Holds w B dt dc) (h1 : dt ≠ pt) (h2 : dt ≠ tt) : ¬ regF M v bs B := by
  rintro (rfl | e | hk)
  · obtain ⟨es, clock, hb⟩ := h.mapAt
    rw [show w.heap[B]? = _ from hB] at hb; cases hb
  · exact hB.not_row h.row h1 e.symm
  · obtain ⟨i, c, _, _, _, hH⟩ := h.boxB hk
    have e := (show w.heap[B]? = _ from hB).symm.trans (show w.heap[B]? = _ from hH)
    exact h2 (by injection e with e; injection e)
theorem Reg.new (w : World) (lo : Nat) (pt tt : TypeId) (M : Nat) (hM : lo ≤ M) (h : w.ownsMap Tryz.prog 9 pElem M 0 (.map [])) : Reg w lo pt tt M (.slice none 0 0) [] [] [] :=
  ⟨World.ownsRow_nil _ _ _ _, ⟨_, h, keeps_nil⟩, hM, rfl, rfl, List.nodup_nil, List.nodup_nil, fun i b c hb => by simp at hb⟩
/-- A thing turns. -/
theorem Reg.set {w : World} {lo : Nat} {pt tt : TypeId} {M : Nat} {v : Value} {ns : List ByteArray} {bs : List Nat} {cs : List (Array Value)} (h : Reg w lo pt tt M v ns bs cs) (hpt : tt ≠ pt) {i b : Nat} {c : Array Value} (hb : bs[i]? = some b) (hc : cs[i]? = some c) {w' : World} {c' : Array Value}
    (hO : Only b w w') (hH : Holds w' b tt c') : Reg w' lo pt tt M v ns bs (cs.set i c') := by
  obtain ⟨hlb, hHb⟩ := h.box i b c hb hc
  have hbM : M ≠ b := fun e => by
    obtain ⟨es, clock, hm⟩ := h.mapAt
    rw [e, show w.heap[b]? = _ from hHb] at hm; cases hm
  refine ⟨⟨h.row.1, ?_⟩, ?_, h.hM, h.nl, by rw [List.length_set, h.cl], h.nd, h.bd, fun j b2 c2 hb2 hc2 => ?_⟩
  · rcases h.row.2 with hn | ⟨g, cap, cur, e, hg0, hg, rest⟩
    · exact .inl hn
    · refine .inr ⟨g, cap, cur, e, hg0, (hO.block g (Array.getElem?_eq_some_iff.1 hg).1 (fun k => ?_)).trans hg, rest⟩
      exact hHb.not_row h.row hpt (by rw [e, ← k]; rfl)
  · obtain ⟨D, ⟨es, clock, hm, r⟩, hD⟩ := h.map
    exact ⟨D, ⟨es, clock, (hO.block M (Array.getElem?_eq_some_iff.1 hm).1 hbM).trans hm, r⟩, hD⟩
  · have hil := (List.getElem?_eq_some_iff.1 hb).1
    rw [List.getElem?_set] at hc2
    by_cases e : i = j
    · subst e
      rw [hb] at hb2
      cases hb2
      rw [if_pos rfl, if_pos (by rw [h.cl]; exact hil)] at hc2
      cases hc2
      exact ⟨hlb, hH⟩
    · rw [if_neg e] at hc2
      obtain ⟨hl2, hH2⟩ := h.box j b2 c2 hb2 hc2
      refine ⟨hl2, hH2.of (hO.block b2 hH2.lt (fun k => ?_))⟩
      subst k
      exact e ((List.getElem?_inj hil h.bd).1 (hb.trans hb2.symm))

/-- The world behind add's steps: the map's store, the append, the store of the slice. -/
theorem reg_added {w1 w4 w5 : World} {lo : Nat} {pt tt dt : TypeId} {M : Nat} {v v' : Value} {ns : List ByteArray} {bs : List Nat} {cs : List (Array Value)} (h : Reg w1 lo pt tt M v ns bs cs) {s : ByteArray} {b B off : Nat} {c dc : Array Value}
    (hX : Holds w1 b tt c) (hbn : b ∉ bs) (hlb : lo ≤ b) (hD : Holds w1 B dt dc) (hdp : dt ≠ pt) (hdt : dt ≠ tt) (htp : tt ≠ pt) (hv : dc[off]? = some v) (hc : ns.contains s = false)
    (hm : ∃ D, w4.ownsMap Tryz.prog 9 pElem M (bs.length + 1) D ∧ Keeps D (ns ++ [s]) (bs ++ [b])) (hg4 : w1.grownBy w4 (some M))
    (hr : w5.ownsRow lo pt 1 v' (bs.length + 1) ((bs.map fun b => ptrO (some b)) ++ [ptrO (some b)])) (hg5 : (w4.alloc (.cells #[ptrO (some b)] pt)).grownBy w5 v.ownBlock) (hat : v'.ownBlock = v.ownBlock ∨ v'.ownBlock = some (w4.alloc (.cells #[ptrO (some b)] pt)).heap.size) :
    Reg (w5.setCell ⟨B, off, none⟩ v') lo pt tt M v' (ns ++ [s]) (bs ++ [b]) (cs ++ [c]) ∧ Holds (w5.setCell ⟨B, off, none⟩ v') B dt (dc.setIfInBounds off v') ∧ But (fun k => k = B ∨ k = M ∨ v.ownBlock = some k) w1 (w5.setCell ⟨B, off, none⟩ v') ∧
      (v'.ownBlock = v.ownBlock ∨ ∃ g, v'.ownBlock = some g ∧ w1.heap.size ≤ g) ∧ w5.cell? ⟨B, off, none⟩ = some v ∧ w5.frozen? ⟨B, off, none⟩ = false := by
  have hsz : (w4.alloc (.cells #[ptrO (some b)] pt)).heap.size = w4.heap.size + 1 := by simp
  have h14 := hg4.size
  have hap := h.apart hD hdp hdt
  have hMl := h.lt M (.inl rfl)
  have hBM : B ≠ M := fun e => hap (.inl e)
  have hBv : v.ownBlock ≠ some B := fun e => hap (.inr (.inl e))
  have hMv : v.ownBlock ≠ some M := fun e => by
    obtain ⟨es, clock, hmm⟩ := h.mapAt
    rcases h.row.2 with ⟨e', _⟩ | ⟨g, cap, cur, e', _, hg, _⟩
    · rw [e'] at e; cases e
    · rw [e'] at e
      have : g = M := Option.some.inj e
      subst this
      rw [hg] at hmm; cases hmm
  have eA : ∀ k, k < w4.heap.size → (w4.alloc (.cells #[ptrO (some b)] pt)).heap[k]? = w4.heap[k]? := fun k hk => Below.heap_alloc _ _ _ hk
  have e5 : ∀ k, k < w1.heap.size → k ≠ M → v.ownBlock ≠ some k → w5.heap[k]? = w1.heap[k]? := fun k hk h1 h2 => by
    rw [hg5.block k (by omega) (fun e => h2 e.symm), eA k (by omega), hg4.block k hk (fun e => h1 (Option.some.inj e))]
  have hD5 : Holds w5 B dt dc := hD.of (e5 B hD.lt hBM hBv)
  have hvl : ∀ k, v'.ownBlock = some k → k < w1.heap.size → v.ownBlock = some k := fun k e hk => by
    rcases hat with e' | e'
    · rw [← e', e]
    · rw [e'] at e; have := Option.some.inj e; omega
  have eF : ∀ k, k ≠ B → (w5.setCell ⟨B, off, none⟩ v').heap[k]? = w5.heap[k]? := fun k hk => Below.heap_setCell _ _ _ _ (fun e => hk e)
  have hbx : ∀ (k : Nat) (ck : Array Value), Holds w1 k tt ck → Holds (w5.setCell ⟨B, off, none⟩ v') k tt ck := fun k ck hH => by
    have hkB : k ≠ B := fun e => by
      subst e
      have e := (show w1.heap[k]? = _ from hD).symm.trans (show w1.heap[k]? = _ from hH)
      exact hdt (by injection e with e; injection e)
    have hkM : k ≠ M := fun e => by
      subst e
      obtain ⟨es, clock, hmm⟩ := h.mapAt
      rw [show w1.heap[k]? = _ from hH] at hmm; cases hmm
    exact hH.of ((eF k hkB).trans (e5 k hH.lt hkM (fun e => hH.not_row h.row htp e.symm)))
  refine ⟨⟨?_, ?_, h.hM, ?_, ?_, ?_, ?_, fun i b2 c2 hb2 hc2 => ?_⟩, hD5.set off v', ?_, ?_, hD5.c hv, hD5.frozen off⟩
  · rw [List.map_append, List.length_append]
    refine ownsRow_setCell_other hr (fun e => ?_) _
    exact hBv (hvl B e hD.lt)
  · obtain ⟨D, ⟨es, clock, hb4, r⟩, hK⟩ := hm
    refine ⟨D, ⟨es, clock, ?_, ?_⟩, hK⟩
    · rw [eF M (fun e => hBM e.symm), hg5.block M (by omega) (fun e => hMv e.symm), eA M (by omega)]; exact hb4
    · rw [List.length_append]; exact r
  · rw [List.length_append, List.length_append, h.nl]; rfl
  · rw [List.length_append, List.length_append, h.cl]; rfl
  · rw [List.nodup_append]
    refine ⟨h.nd, by simp, fun a ha b' hb' e => ?_⟩
    have hb2 : b' = s := by simpa using hb'
    subst hb2
    subst e
    have : ns.contains a = true := by simpa using ha
    rw [this] at hc; cases hc
  · rw [List.nodup_append]
    refine ⟨h.bd, by simp, fun a ha b' hb' e => ?_⟩
    have hb2 : b' = b := by simpa using hb'
    subst hb2
    subst e
    exact hbn ha
  · rcases Nat.lt_or_ge i bs.length with hl | hl
    · rw [List.getElem?_append_left hl] at hb2
      rw [List.getElem?_append_left (by rw [h.cl]; exact hl)] at hc2
      obtain ⟨hl2, hH2⟩ := h.box i b2 c2 hb2 hc2
      exact ⟨hl2, hbx b2 c2 hH2⟩
    · rw [List.getElem?_append_right hl] at hb2
      rw [List.getElem?_append_right (by rw [h.cl]; exact hl), h.cl] at hc2
      have h0 : i - bs.length = 0 := by
        rcases Nat.eq_zero_or_pos (i - bs.length) with h0 | h0
        · exact h0
        · rw [List.getElem?_eq_none (by simp; omega)] at hb2; cases hb2
      rw [h0] at hb2 hc2
      have e1 : b = b2 := by simpa using hb2
      have e2 : c = c2 := by simpa using hc2
      subst e1
      subst e2
      exact ⟨hlb, hbx b c hX⟩
  · refine (But.trans (but_of_grown hg4 (fun k e => .inr (.inl (Option.some.inj e).symm))) ?_).trans (but_setCell _ _ _ (.inl rfl))
    have hb : But (fun k => k = B ∨ k = M ∨ v.ownBlock = some k) w4 (w4.alloc (.cells #[ptrO (some b)] pt)) := but_of_below ((Below.refl _ _).alloc (Nat.le_refl _) _)
    exact hb.trans (but_of_grown hg5 (fun k e => .inr (.inr e)))
  · exact hat.imp id (fun e => ⟨_, e, by omega⟩)
/-- One look into the map. -/
theorem wpList_lookup_reg (w : World) {ops : Array Oper} {rest : List Oper} {o : Oper} {a : Act} {Q : Exit → Act → World → Prop}
    (hg : o.guard = none) (m x : Operand) (t vt : TypeId) (hop : o.op = Op.lookup t m x false) (ht : Tryz.prog.underlying t = some (.map 9 vt)) (hz : ∀ w : World, (zeroValue vt).run Tryz.prog w = .ok (.pointer none) w)
    {lo : Nat} {pt tt : TypeId} {v : Value} {cs : List (Array Value)}
    (M : Nat) (ns : List ByteArray) (bs : List Nat) (hm : a.eval m = .map (some M)) (hown : Reg w lo pt tt M v ns bs cs)
    (s : ByteArray) (hx : a.eval x = .string s) (hs : s.size ≤ maxLen)
    (hK : wpList Tryz.prog ops Q rest (a.put o.dst (ptrO bs[ns.idxOf s]?)) w) :
    wpList Tryz.prog ops Q (o :: rest) a w := by
  obtain ⟨D, hD, hKp⟩ := hown.map
  refine wpList_plain hg fun K' hK' => ?_
  obtain ⟨u, ps, hrun, hv⟩ := hD.lookup keyLaw ht (hz w) pElem_none (keyName hs)
  have e1 := hKp.at hown.nl s
  have hu : u = ptrO bs[ns.idxOf s]? := by
    rcases pElem_inv hv with ⟨rfl, e⟩ | ⟨b, rfl, e⟩
    · have e3 : D.atKey (key s) (.lit (.int .i64 (-1))) = .lit (.int .i64 (-1)) := congrArg Prod.fst e
      rw [e3] at e1
      have e2 : (-1 : Int) = atO bs[ns.idxOf s]? := (Lit.int.inj (DataW.lit.inj e1)).2
      cases hb : bs[ns.idxOf s]? with
      | none => rfl
      | some b => rw [hb] at e2; simp only [atO] at e2; omega
    · have e3 : D.atKey (key s) (.lit (.int .i64 (-1))) = .lit (.int .i64 b) := congrArg Prod.fst e
      rw [e3] at e1
      have e2 : (b : Int) = atO bs[ns.idxOf s]? := (Lit.int.inj (DataW.lit.inj e1)).2
      cases hb : bs[ns.idxOf s]? with
      | none => rw [hb] at e2; simp only [atO] at e2; omega
      | some b2 =>
        rw [hb] at e2
        simp only [atO] at e2
        have : b = b2 := by omega
        rw [this]
  subst hu
  unfold Oper.wp
  simp [execOp, hop, hm, hx, hrun, Result.andThen]
  exact hK' _ _ hK
theorem clone_any (s : ByteArray) (w : World) (hs : s.size ≤ 281474976710656) : Calls Tryz.prog 49 #[.string s] w (Says (.string s) w) := by
  have h := Any.stringslite_Clone Tryz.clonL s w hs
  change Calls Tryz.prog 69 _ _ _ at h
  go_enter Tryz.func49, Tryz.ntmps49
  go_wp2_with fail
  refine h.mono ?_
  rintro e w1 ⟨rfl, hB⟩
  go_wp2
  go_ret
  exact ⟨rfl, hB⟩
end Go.Proofs.YtpdbkjnaicjfdaaGreatDoor
namespace Go.Proofs.YtpdbkjnaicjfdaaGreatDoor
open Go.RowKit Go.Maps
set_option linter.unusedVariables false

abbrev tOb : TypeId := 91
abbrev tLf : TypeId := 58
abbrev pOb : TypeId := 95
abbrev pLf : TypeId := 89
abbrev tDk : TypeId := 71
theorem info_pOb : (Tryz.prog.info? 95).map (fun i => (i.zero, i.size, i.bytes)) = some (some (.pointer none), 1, 8) := by kernel_rfl
theorem info_pLf : (Tryz.prog.info? 89).map (fun i => (i.zero, i.size, i.bytes)) = some (some (.pointer none), 1, 8) := by kernel_rfl
theorem zero_pOb (w : World) : (zeroValue 95).run Tryz.prog w = .ok (.pointer none) w := by kernel_rfl
theorem zero_pLf (w : World) : (zeroValue 89).run Tryz.prog w = .ok (.pointer none) w := by kernel_rfl
def AddRPost (lo : Nat) (pt tt : TypeId) (M : Nat) (v : Value) (ns : List ByteArray) (bs : List Nat) (cs : List (Array Value)) (B off : Nat) (dc : Array Value) (s : ByteArray) (c : Array Value) (w : World) (e : Ending) (w' : World) : Prop :=
  e = .returned (.tuple #[]) ∧ ∃ v', Reg w' lo pt tt M v' (ns ++ [s]) (bs ++ [w.heap.size]) (cs ++ [c]) ∧ Holds w' B tDk (dc.setIfInBounds off v') ∧ But (fun k => k = B ∨ k = M ∨ v.ownBlock = some k) w w' ∧ (v'.ownBlock = v.ownBlock ∨ ∃ g, v'.ownBlock = some g ∧ w.heap.size ≤ g)
def OpenPost (pt tt : TypeId) (w : World) (e : Ending) (w' : World) : Prop := ∃ M, e = .returned (.agg #[.map (some M), .slice none 0 0]) ∧ Reg w' w.heap.size pt tt M (.slice none 0 0) [] [] [] ∧ Below w.heap.size w w'
theorem reg_row {w4 w1 : World} {lo : Nat} {pt tt : TypeId} {M : Nat} {v : Value} {ns : List ByteArray} {bs : List Nat} {cs : List (Array Value)} (h : Reg w1 lo pt tt M v ns bs cs) (hg4 : w1.grownBy w4 (some M)) : w4.ownsRow lo pt 1 v bs.length (bs.map fun b => ptrO (some b)) := by
  refine h.row.kept hg4 (.inr (fun e => ?_))
  obtain ⟨es, clock, hmm⟩ := h.mapAt
  rcases h.row.2 with ⟨e', _⟩ | ⟨g, cap, cur, e', _, hg, _⟩
  · rw [e'] at e; cases e
  · rw [e'] at e
    have : g = M := Option.some.inj e
    subst this
    rw [hg] at hmm; cases hmm
theorem map_added {w4 : World} {M : Nat} {D : DataW Unit} {ns : List ByteArray} {bs : List Nat} {s : ByteArray} {b : Nat} (hK : Keeps D ns bs) (hl : ns.length = bs.length) (hD : IsMap D) (hc : ns.contains s = false) (h : w4.ownsMap Tryz.prog 9 pElem M (bs.length + 1) (D.put (key s) (.lit (.int .i64 b)))) :
    ∃ D, w4.ownsMap Tryz.prog 9 pElem M (bs.length + 1) D ∧ Keeps D (ns ++ [s]) (bs ++ [b]) := ⟨_, h, keeps_add hK hl hD hc⟩
theorem form1 {w : World} {base m : Nat} {e : TypeId} {v v0 : Value} {xs : List Value} (h : w.ownsRow base e 1 v m xs) (hn : v = .slice none 0 0 ↔ v0 = .slice none 0 0 ∧ 1 = 0) : ∃ g cap, v = .slice (some ⟨g, 0, none⟩) m cap := by
  rcases h.2 with ⟨e', _⟩ | ⟨g', cap', cur, e', _⟩
  · have := (hn.1 e').2; cases this
  · exact ⟨g', cap', e'⟩

set_option maxHeartbeats 1000000 in
theorem open_O (w : World) : Calls Tryz.prog 46 #[] w (OpenPost pOb tOb w) := by
  have hmm := @run_makeMap Tryz.prog
  go_enter Tryz.func46, Tryz.ntmps46
  go_wp2
  refine bodyPost_ret (v := .agg #[.map (some (w.heap.size + 1)), .slice none 0 0]) (by simp [results, Tryz.f46, go_sem]) rfl ?_
  refine ⟨w.heap.size + 1, rfl, Reg.new _ _ _ _ _ (by omega) ?_, ?_⟩
  · have h := World.ownsMap_made (w.alloc (.cells #[.map (some (w.heap.size + 1)), .slice none 0 0] 65)) Tryz.prog 9 pElem
    rw [World.size_alloc] at h
    exact h
  · exact ((Below.refl _ w).alloc (Nat.le_refl _) _).alloc (by simp) _

theorem of_O {lo M : Nat} {v : Value} {ns : List ByteArray} {bs : List Nat} {cs : List (Array Value)} (B : Nat) (w : World) (hc : w.cell? ⟨B, 1, none⟩ = some (.map (some M))) (h : Reg w lo pOb tOb M v ns bs cs) (s : ByteArray) (hs : s.size ≤ maxLen) :
    Calls Tryz.prog 97 #[.pointer (some ⟨B, 1, none⟩), .string s] w fun e w' => e = .returned (ptrO bs[ns.idxOf s]?) ∧ w = w' := by
  have HR := Lib.hid h
  clear h
  obtain ⟨p, hp⟩ : ∃ p, ptrO bs[ns.idxOf s]? = p := ⟨_, rfl⟩
  have HP := Lib.hid hp
  go_enter Tryz.func97, Tryz.ntmps97
  go_wp2_with (at_lookup; refine wpList_lookup_reg _ rfl _ _ 62 pOb rfl Tryz.underlying62 zero_pOb M ns bs rfl HR.out s rfl hs ?_; rw [HP.out])
  go_ret
  rw [HP.out]
  exact ⟨rfl, rfl⟩

theorem count_O (B : Nat) (w : World) (A : Option Addr) (n c : Nat) (h : w.cell? ⟨B, 2, none⟩ = some (.slice A n c)) :
    Calls Tryz.prog 42 #[.pointer (some ⟨B, 1, none⟩)] w fun e w' => e = .returned (.int .i64 n) ∧ w = w' := by
  go_enter Tryz.func42, Tryz.ntmps42
  go_wp2
  go_ret
  exact ⟨rfl, rfl⟩

set_option maxHeartbeats 2000000 in
theorem addR_O {lo M : Nat} {v : Value} {ns : List ByteArray} {bs : List Nat} {cs : List (Array Value)} (B : Nat) (w : World) (dc : Array Value) (hD : Holds w B tDk dc) (hm : dc[1]? = some (.map (some M))) (hv : dc[2]? = some v) (h : Reg w lo pOb tOb M v ns bs cs)
    (s : ByteArray) (hc : ns.contains s = false) (hs : s.size ≤ maxLen) (hn : bs.length ≤ 1000) (hlo : lo ≤ w.heap.size) (nm : ByteArray) (kd : Int) :
    Calls Tryz.prog 75 #[.pointer (some ⟨B, 1, none⟩), .string s, .agg #[.string nm, .int .i64 kd]] w (AddRPost lo pOb tOb M v ns bs cs B 2 dc s #[.string nm, .int .i64 kd] w) := by
  obtain ⟨A0, c0, hv0⟩ := h.shape
  subst hv0
  obtain ⟨i0, hi, hz0, hz1, hz2⟩ := info_parts info_pOb
  have hBl := hD.lt
  have hbn : w.heap.size ∉ bs := fun k => by have := (h.lt _ (.inr (.inr k))).2; omega
  have HBN := Lib.hid hbn
  have hb1 : Below w.heap.size w (w.alloc (.cells #[.string nm, .int .i64 kd] tOb)) := (Below.refl _ _).alloc (Nat.le_refl _) _
  have HR1 := Lib.hid (h.below hb1)
  have HX1 := Lib.hid (Holds.new w tOb #[.string nm, .int .i64 kd])
  have HD1 := Lib.hid (hD.alloc (.cells #[.string nm, .int .i64 kd] tOb))
  have HM := Lib.hid hm
  have HV := Lib.hid hv
  have HC := Lib.hid hc
  have hs1 : (w.alloc (.cells #[.string nm, .int .i64 kd] tOb)).heap.size = w.heap.size + 1 := by simp
  clear hm hv h hc hbn hD
  go_enter Tryz.func75, Tryz.ntmps75
  go_upto_region 1 with fail
  generalize w.alloc (.cells #[.string nm, .int .i64 kd] tOb) = W1 at *
  have c1 := HD1.out.c HM.out
  have c2 := HD1.out.c HV.out
  obtain ⟨D, hDD, hKp⟩ := HR1.out.map
  have HDD := Lib.hid hDD
  have HK := Lib.hid hKp
  clear hDD hKp
  go_wp2_with (first
    | (at_mapUpdate; refine wpList_mapUpdate_own _ rfl _ _ _ 62 rfl 9 pOb keyLaw Tryz.underlying62 pElem M bs.length D rfl HDD.out (by unfold maxLen; omega) _ _ (key s) rfl rfl (keyName hs) (.lit (.int .i64 w.heap.size)) [] (pElem_some _) ?_; intro w4 hown4 hg4; have c24 := hg4.cell c2 (fun e => HR1.out.apart HD1.out (by decide) (by decide) (.inl (Option.some.inj e))); have HM4 := Lib.hid (map_added HK.out HR1.out.nl HDD.out.isMap HC.out hown4); have hrow4 := reg_row HR1.out hg4; have h34 := hg4.size; clear hown4)
    | (at_builtin; refine wpList_append_own_at _ rfl _ _ 63 rfl lo pOb i0 (.pointer none) 1 8 Tryz.underlying63 hi hz0 hz1 hz2 rfl (by decide) _ _ _ rfl (hrow4.alloc _) ⟨w4.heap.size, 0, none⟩ 1 1 [ptrO (some w.heap.size)] rfl rfl (cell_one_new _ _ _) (by intro u hu; simp at hu; subst hu; rfl) (by unfold maxLen; omega) (by omega) (by simp; omega) ?_; intro v5 w5 hown5 hg5 hnil5 hat5; have HTA := Lib.hid (reg_added (off := 2) HR1.out HX1.out HBN.out hlo HD1.out (by decide) (by decide) (by decide) HV.out HC.out HM4.out hg4 hown5 hg5 hat5); have c25 := HTA.out.2.2.2.2.1; have f25 := HTA.out.2.2.2.2.2; obtain ⟨g5, cap5, rfl⟩ := form1 hown5 hnil5))
  go_end0
  obtain ⟨hTf, hHf, hButf, hlocf, _⟩ := HTA.out
  exact ⟨rfl, _, hTf, hHf, (but_of_below hb1).trans hButf, hlocf.imp id (fun ⟨g, e, hg⟩ => ⟨g, e, by omega⟩)⟩

set_option maxHeartbeats 1000000 in
theorem open_L (w : World) : Calls Tryz.prog 47 #[] w (OpenPost pLf tLf w) := by
  have hmm := @run_makeMap Tryz.prog
  go_enter Tryz.func47, Tryz.ntmps47
  go_wp2
  refine bodyPost_ret (v := .agg #[.map (some (w.heap.size + 1)), .slice none 0 0]) (by simp [results, Tryz.f47, go_sem]) rfl ?_
  refine ⟨w.heap.size + 1, rfl, Reg.new _ _ _ _ _ (by omega) ?_, ?_⟩
  · have h := World.ownsMap_made (w.alloc (.cells #[.map (some (w.heap.size + 1)), .slice none 0 0] 69)) Tryz.prog 9 pElem
    rw [World.size_alloc] at h
    exact h
  · exact ((Below.refl _ w).alloc (Nat.le_refl _) _).alloc (by simp) _

theorem of_L {lo M : Nat} {v : Value} {ns : List ByteArray} {bs : List Nat} {cs : List (Array Value)} (B : Nat) (w : World) (hc : w.cell? ⟨B, 3, none⟩ = some (.map (some M))) (h : Reg w lo pLf tLf M v ns bs cs) (s : ByteArray) (hs : s.size ≤ maxLen) :
    Calls Tryz.prog 53 #[.pointer (some ⟨B, 3, none⟩), .string s] w fun e w' => e = .returned (ptrO bs[ns.idxOf s]?) ∧ w = w' := by
  have HR := Lib.hid h
  clear h
  obtain ⟨p, hp⟩ : ∃ p, ptrO bs[ns.idxOf s]? = p := ⟨_, rfl⟩
  have HP := Lib.hid hp
  go_enter Tryz.func53, Tryz.ntmps53
  go_wp2_with (at_lookup; refine wpList_lookup_reg _ rfl _ _ 66 pLf rfl Tryz.underlying66 zero_pLf M ns bs rfl HR.out s rfl hs ?_; rw [HP.out])
  go_ret
  rw [HP.out]
  exact ⟨rfl, rfl⟩

theorem count_L (B : Nat) (w : World) (A : Option Addr) (n c : Nat) (h : w.cell? ⟨B, 4, none⟩ = some (.slice A n c)) :
    Calls Tryz.prog 40 #[.pointer (some ⟨B, 3, none⟩)] w fun e w' => e = .returned (.int .i64 n) ∧ w = w' := by
  go_enter Tryz.func40, Tryz.ntmps40
  go_wp2
  go_ret
  exact ⟨rfl, rfl⟩

set_option maxHeartbeats 2000000 in
theorem addR_L {lo M : Nat} {v : Value} {ns : List ByteArray} {bs : List Nat} {cs : List (Array Value)} (B : Nat) (w : World) (dc : Array Value) (hD : Holds w B tDk dc) (hm : dc[3]? = some (.map (some M))) (hv : dc[4]? = some v) (h : Reg w lo pLf tLf M v ns bs cs)
    (s : ByteArray) (hc : ns.contains s = false) (hs : s.size ≤ maxLen) (hn : bs.length ≤ 1000) (hlo : lo ≤ w.heap.size) (nm : ByteArray) (bg en : Int) (cm : Bool) (ops : Int) :
    Calls Tryz.prog 76 #[.pointer (some ⟨B, 3, none⟩), .string s, .agg #[.string nm, .int .i64 bg, .int .i64 en, .bool cm, .int .i64 ops]] w (AddRPost lo pLf tLf M v ns bs cs B 4 dc s #[.string nm, .int .i64 bg, .int .i64 en, .bool cm, .int .i64 ops] w) := by
  obtain ⟨A0, c0, hv0⟩ := h.shape
  subst hv0
  obtain ⟨i0, hi, hz0, hz1, hz2⟩ := info_parts info_pLf
  have hBl := hD.lt
  have hbn : w.heap.size ∉ bs := fun k => by have := (h.lt _ (.inr (.inr k))).2; omega
  have HBN := Lib.hid hbn
  have hb1 : Below w.heap.size w (w.alloc (.cells #[.string nm, .int .i64 bg, .int .i64 en, .bool cm, .int .i64 ops] tLf)) := (Below.refl _ _).alloc (Nat.le_refl _) _
  have HR1 := Lib.hid (h.below hb1)
  have HX1 := Lib.hid (Holds.new w tLf #[.string nm, .int .i64 bg, .int .i64 en, .bool cm, .int .i64 ops])
  have HD1 := Lib.hid (hD.alloc (.cells #[.string nm, .int .i64 bg, .int .i64 en, .bool cm, .int .i64 ops] tLf))
  have HM := Lib.hid hm
  have HV := Lib.hid hv
  have HC := Lib.hid hc
  have hs1 : (w.alloc (.cells #[.string nm, .int .i64 bg, .int .i64 en, .bool cm, .int .i64 ops] tLf)).heap.size = w.heap.size + 1 := by simp
  clear hm hv h hc hbn hD
  go_enter Tryz.func76, Tryz.ntmps76
  go_upto_region 1 with fail
  generalize w.alloc (.cells #[.string nm, .int .i64 bg, .int .i64 en, .bool cm, .int .i64 ops] tLf) = W1 at *
  have c1 := HD1.out.c HM.out
  have c2 := HD1.out.c HV.out
  obtain ⟨D, hDD, hKp⟩ := HR1.out.map
  have HDD := Lib.hid hDD
  have HK := Lib.hid hKp
  clear hDD hKp
  go_wp2_with (first
    | (at_mapUpdate; refine wpList_mapUpdate_own _ rfl _ _ _ 66 rfl 9 pLf keyLaw Tryz.underlying66 pElem M bs.length D rfl HDD.out (by unfold maxLen; omega) _ _ (key s) rfl rfl (keyName hs) (.lit (.int .i64 w.heap.size)) [] (pElem_some _) ?_; intro w4 hown4 hg4; have c24 := hg4.cell c2 (fun e => HR1.out.apart HD1.out (by decide) (by decide) (.inl (Option.some.inj e))); have HM4 := Lib.hid (map_added HK.out HR1.out.nl HDD.out.isMap HC.out hown4); have hrow4 := reg_row HR1.out hg4; have h34 := hg4.size; clear hown4)
    | (at_builtin; refine wpList_append_own_at _ rfl _ _ 67 rfl lo pLf i0 (.pointer none) 1 8 Tryz.underlying67 hi hz0 hz1 hz2 rfl (by decide) _ _ _ rfl (hrow4.alloc _) ⟨w4.heap.size, 0, none⟩ 1 1 [ptrO (some w.heap.size)] rfl rfl (cell_one_new _ _ _) (by intro u hu; simp at hu; subst hu; rfl) (by unfold maxLen; omega) (by omega) (by simp; omega) ?_; intro v5 w5 hown5 hg5 hnil5 hat5; have HTA := Lib.hid (reg_added (off := 4) HR1.out HX1.out HBN.out hlo HD1.out (by decide) (by decide) (by decide) HV.out HC.out HM4.out hg4 hown5 hg5 hat5); have c25 := HTA.out.2.2.2.2.1; have f25 := HTA.out.2.2.2.2.2; obtain ⟨g5, cap5, rfl⟩ := form1 hown5 hnil5))
  go_end0
  obtain ⟨hTf, hHf, hButf, hlocf, _⟩ := HTA.out
  exact ⟨rfl, _, hTf, hHf, (but_of_below hb1).trans hButf, hlocf.imp id (fun ⟨g, e, hg⟩ => ⟨g, e, by omega⟩)⟩
end Go.Proofs.YtpdbkjnaicjfdaaGreatDoor
namespace Go.Proofs.YtpdbkjnaicjfdaaGreatDoor
open Go.RowKit Go.Maps
set_option linter.unusedVariables false
set_option maxRecDepth 100000

/-- Where a desk lies: its box, its two maps, its two orders, its things' boxes. -/
structure Lay where
  B : Nat
  M1 : Nat
  M2 : Nat
  v1 : Value
  v2 : Value
  bs : List Nat
  ls : List Nat
def foot (L : Lay) (k : Nat) : Prop := k = L.B ∨ regF L.M1 L.v1 L.bs k ∨ regF L.M2 L.v2 L.ls k
def deskC (L : Lay) (d : Dk) : Array Value := #[.pointer (some ⟨L.B, 0, none⟩), .map (some L.M1), L.v1, .map (some L.M2), L.v2, .int .i64 d.evs, .int .i64 d.ops]
def obC (x : Ob) : Array Value := #[.string x.1, .int .i64 x.2]
def lfC (x : Lf) : Array Value := #[.string x.nm, .int .i64 x.bg, .int .i64 x.en, .bool x.cm, .int .i64 x.ops]
structure DskB (w : World) (lo : Nat) (L : Lay) (d : Dk) : Prop where
  box : Holds w L.B tDk (deskC L d)
  hB : lo ≤ L.B
  ob : Reg w lo pOb tOb L.M1 L.v1 (onm d) L.bs (d.obs.map obC)
  tr : Reg w lo pLf tLf L.M2 L.v2 (tnm d) L.ls (d.trs.map lfC)
  hM : L.M1 ≠ L.M2
structure Dsk (w : World) (lo : Nat) (L : Lay) (d : Dk) : Prop extends DskB w lo L d where
  ok : DkOk d
  few : d.evs ≤ 100
theorem DskB.kept {w w' : World} {lo : Nat} {L : Lay} {d : Dk} (h : DskB w lo L d) (hk : ∀ k, k < w.heap.size → foot L k → w'.heap[k]? = w.heap[k]?) : DskB w' lo L d :=
  ⟨h.box.of (hk _ h.box.lt (.inl rfl)), h.hB, h.ob.kept (fun k hl hf => hk k hl (.inr (.inl hf))), h.tr.kept (fun k hl hf => hk k hl (.inr (.inr hf))), h.hM⟩
theorem DskB.below {w w' : World} {lo : Nat} {L : Lay} {d : Dk} (h : DskB w lo L d) (hk : Below w.heap.size w w') : DskB w' lo L d := h.kept fun k hl _ => hk.block k hl
theorem Dsk.kept {w w' : World} {lo : Nat} {L : Lay} {d : Dk} (h : Dsk w lo L d) (hk : ∀ k, k < w.heap.size → foot L k → w'.heap[k]? = w.heap[k]?) : Dsk w' lo L d := ⟨h.toDskB.kept hk, h.ok, h.few⟩
theorem Dsk.below {w w' : World} {lo : Nat} {L : Lay} {d : Dk} (h : Dsk w lo L d) (hk : Below w.heap.size w w') : Dsk w' lo L d := h.kept fun k hl _ => hk.block k hl
theorem Dsk.lt {w : World} {lo : Nat} {L : Lay} {d : Dk} (h : Dsk w lo L d) : ∀ k, foot L k → lo ≤ k ∧ k < w.heap.size := by
  rintro k (rfl | hf | hf)
  · exact ⟨h.hB, h.box.lt⟩
  · exact h.ob.lt k hf
  · exact h.tr.lt k hf
theorem Reg.mono {w : World} {lo lo' : Nat} {pt tt : TypeId} {M : Nat} {v : Value} {ns : List ByteArray} {bs : List Nat} {cs : List (Array Value)} (h : Reg w lo pt tt M v ns bs cs) (hl : lo' ≤ lo) : Reg w lo' pt tt M v ns bs cs :=
  ⟨row_mono h.row hl, h.map, Nat.le_trans hl h.hM, h.nl, h.cl, h.nd, h.bd, fun i b c hb hc => ⟨Nat.le_trans hl (h.box i b c hb hc).1, (h.box i b c hb hc).2⟩⟩
theorem Dsk.mono {w : World} {lo lo' : Nat} {L : Lay} {d : Dk} (h : Dsk w lo L d) (hl : lo' ≤ lo) : Dsk w lo' L d :=
  ⟨⟨h.box, Nat.le_trans hl h.hB, h.ob.mono hl, h.tr.mono hl, h.hM⟩, h.ok, h.few⟩
theorem desk_cells {w : World} {lo : Nat} {L : Lay} {d : Dk} (h : Dsk w lo L d) :
    w.cell? ⟨L.B, 0, none⟩ = some (.pointer (some ⟨L.B, 0, none⟩)) ∧ w.cell? ⟨L.B, 1, none⟩ = some (.map (some L.M1)) ∧ w.cell? ⟨L.B, 2, none⟩ = some L.v1 ∧ w.cell? ⟨L.B, 3, none⟩ = some (.map (some L.M2)) ∧
    w.cell? ⟨L.B, 4, none⟩ = some L.v2 ∧ w.cell? ⟨L.B, 5, none⟩ = some (.int .i64 d.evs) ∧ w.cell? ⟨L.B, 6, none⟩ = some (.int .i64 d.ops) ∧ ∀ j, w.frozen? ⟨L.B, j, none⟩ = false :=
  ⟨h.box.c rfl, h.box.c rfl, h.box.c rfl, h.box.c rfl, h.box.c rfl, h.box.c rfl, h.box.c rfl, fun j => h.box.frozen j⟩

/-- The object, the life of a name, where it lies. -/
theorem Dsk.obOf {w : World} {lo : Nat} {L : Lay} {d : Dk} (h : Dsk w lo L d) (s : ByteArray) : (obAt d s = none ∧ L.bs[(onm d).idxOf s]? = none) ∨ ∃ x b, obAt d s = some x ∧ L.bs[(onm d).idxOf s]? = some b ∧ Holds w b tOb (obC x) ∧ (onm d)[(onm d).idxOf s]? = some x.1 := by
  have e : obAt d s = d.obs[(onm d).idxOf s]? := find_idx Prod.fst s d.obs
  have hl : d.obs.length = L.bs.length := by have := h.ob.nl; unfold onm at this; rwa [List.length_map] at this
  rcases Nat.lt_or_ge ((onm d).idxOf s) d.obs.length with k | k
  · refine .inr ⟨d.obs[(onm d).idxOf s], L.bs[(onm d).idxOf s]'(by omega), by rw [e]; exact List.getElem?_eq_getElem k, List.getElem?_eq_getElem _, ?_, ?_⟩
    · exact (h.ob.box _ _ (obC d.obs[(onm d).idxOf s]) (List.getElem?_eq_getElem (by omega)) (by rw [List.getElem?_map, List.getElem?_eq_getElem k]; rfl)).2
    · conv => lhs; arg 1; unfold onm
      rw [List.getElem?_map, List.getElem?_eq_getElem k]; rfl
  · exact .inl ⟨by rw [e]; exact List.getElem?_eq_none k, List.getElem?_eq_none (by omega)⟩
theorem Dsk.lfOf {w : World} {lo : Nat} {L : Lay} {d : Dk} (h : Dsk w lo L d) (s : ByteArray) : (lfAt d s = none ∧ L.ls[(tnm d).idxOf s]? = none) ∨ ∃ x b, lfAt d s = some x ∧ L.ls[(tnm d).idxOf s]? = some b ∧ Holds w b tLf (lfC x) ∧ d.trs[(tnm d).idxOf s]? = some x ∧ x.nm = s := by
  have e : lfAt d s = d.trs[(tnm d).idxOf s]? := find_idx Lf.nm s d.trs
  have hl : d.trs.length = L.ls.length := by have := h.tr.nl; unfold tnm at this; rwa [List.length_map] at this
  rcases Nat.lt_or_ge ((tnm d).idxOf s) d.trs.length with k | k
  · refine .inr ⟨d.trs[(tnm d).idxOf s], L.ls[(tnm d).idxOf s]'(by omega), by rw [e]; exact List.getElem?_eq_getElem k, List.getElem?_eq_getElem _, ?_, List.getElem?_eq_getElem k, ?_⟩
    · exact (h.tr.box _ _ (lfC d.trs[(tnm d).idxOf s]) (List.getElem?_eq_getElem (by omega)) (by rw [List.getElem?_map, List.getElem?_eq_getElem k]; rfl)).2
    · have h2 : lfAt d s = some d.trs[(tnm d).idxOf s] := by rw [e]; exact List.getElem?_eq_getElem k
      have := List.find?_some h2
      simpa using this
  · exact .inl ⟨by rw [e]; exact List.getElem?_eq_none k, List.getElem?_eq_none (by omega)⟩

/-- What a registry's blocks are. -/
theorem Reg.kind {w : World} {lo : Nat} {pt tt : TypeId} {M : Nat} {v : Value} {ns : List ByteArray} {bs : List Nat} {cs : List (Array Value)} (h : Reg w lo pt tt M v ns bs cs) {k : Nat} (hf : regF M v bs k) :
    (k = M ∧ ∃ es clock, w.heap[k]? = some (.map es clock)) ∨ ∃ cs t m, w.heap[k]? = some (.cells cs t m) ∧ (t = pt ∨ t = tt) := by
  rcases hf with rfl | e | hk
  · exact .inl ⟨rfl, h.mapAt⟩
  · rcases h.row.2 with ⟨e', _⟩ | ⟨g, cap, cur, e', _, hg, _⟩
    · rw [e'] at e; cases e
    · rw [e'] at e
      have : g = k := Option.some.inj e
      subst this
      exact .inr ⟨_, _, _, hg, .inl rfl⟩
  · obtain ⟨i, c, _, _, _, hH⟩ := h.boxB hk
    exact .inr ⟨_, _, _, hH, .inr rfl⟩
theorem Reg.disj {w : World} {lo : Nat} {pt tt : TypeId} {M : Nat} {v : Value} {ns : List ByteArray} {bs : List Nat} {cs : List (Array Value)} (h : Reg w lo pt tt M v ns bs cs)
    {lo' : Nat} {pt' tt' : TypeId} {M' : Nat} {v' : Value} {ns' : List ByteArray} {bs' : List Nat} {cs' : List (Array Value)} (h' : Reg w lo' pt' tt' M' v' ns' bs' cs') (hM : M ≠ M') (h1 : pt ≠ pt') (h2 : pt ≠ tt') (h3 : tt ≠ pt') (h4 : tt ≠ tt') {k : Nat} (hf : regF M v bs k) : ¬ regF M' v' bs' k := by
  intro hf'
  rcases h.kind hf with ⟨e, es, clock, hm⟩ | ⟨cs1, t, m, hc, ht⟩
  · rcases h'.kind hf' with ⟨e', _⟩ | ⟨cs2, t2, m2, hc2, _⟩
    · exact hM (e.symm.trans e')
    · rw [hm] at hc2; cases hc2
  · rcases h'.kind hf' with ⟨_, es, clock, hm⟩ | ⟨cs2, t2, m2, hc2, ht2⟩
    · rw [hm] at hc; cases hc
    · rw [hc] at hc2
      have e : t = t2 := by injection hc2 with hc2; injection hc2
      subst e
      rcases ht with rfl | rfl <;> rcases ht2 with e | e
      · exact h1 e
      · exact h2 e
      · exact h3 e
      · exact h4 e
/-- An object more. -/
theorem DskB.addOb {w w' : World} {lo : Nat} {L : Lay} {d : Dk} (h : DskB w lo L d) {nm : ByteArray} {kd : Int} {v' : Value} {b : Nat} (hr : Reg w' lo pOb tOb L.M1 v' (onm d ++ [nm]) (L.bs ++ [b]) (d.obs.map obC ++ [#[.string nm, .int .i64 kd]]))
    (hH : Holds w' L.B tDk ((deskC L d).setIfInBounds 2 v')) (hbut : But (fun k => k = L.B ∨ k = L.M1 ∨ L.v1.ownBlock = some k) w w') : DskB w' lo ⟨L.B, L.M1, L.M2, v', L.v2, L.bs ++ [b], L.ls⟩ ⟨d.obs ++ [(nm, kd)], d.trs, d.evs, d.ops⟩ := by
  refine ⟨hH, h.hB, ?_, ?_, h.hM⟩
  · have e1 : onm ⟨d.obs ++ [(nm, kd)], d.trs, d.evs, d.ops⟩ = onm d ++ [nm] := by unfold onm; rw [List.map_append]; rfl
    have e2 : (d.obs ++ [(nm, kd)]).map obC = d.obs.map obC ++ [#[.string nm, .int .i64 kd]] := by rw [List.map_append]; rfl
    rw [e1]
    show Reg w' lo pOb tOb L.M1 v' (onm d ++ [nm]) (L.bs ++ [b]) ((d.obs ++ [(nm, kd)]).map obC)
    rw [e2]; exact hr
  · refine h.tr.kept fun k hl hf => hbut.block k hl ?_
    rintro (rfl | rfl | e)
    · exact h.tr.apart h.box (by decide) (by decide) hf
    · exact h.tr.disj h.ob (fun e => h.hM e.symm) (by decide) (by decide) (by decide) (by decide) hf (.inl rfl)
    · exact h.tr.disj h.ob (fun e => h.hM e.symm) (by decide) (by decide) (by decide) (by decide) hf (.inr (.inl e))
theorem DskB.addLf {w w' : World} {lo : Nat} {L : Lay} {d : Dk} (h : DskB w lo L d) {x : Lf} {v' : Value} {b : Nat} (hr : Reg w' lo pLf tLf L.M2 v' (tnm d ++ [x.nm]) (L.ls ++ [b]) (d.trs.map lfC ++ [lfC x]))
    (hH : Holds w' L.B tDk ((deskC L d).setIfInBounds 4 v')) (hbut : But (fun k => k = L.B ∨ k = L.M2 ∨ L.v2.ownBlock = some k) w w') : DskB w' lo ⟨L.B, L.M1, L.M2, L.v1, v', L.bs, L.ls ++ [b]⟩ ⟨d.obs, d.trs ++ [x], d.evs, d.ops⟩ := by
  refine ⟨hH, h.hB, ?_, ?_, h.hM⟩
  · refine h.ob.kept fun k hl hf => hbut.block k hl ?_
    rintro (rfl | rfl | e)
    · exact h.ob.apart h.box (by decide) (by decide) hf
    · exact h.ob.disj h.tr h.hM (by decide) (by decide) (by decide) (by decide) hf (.inl rfl)
    · exact h.ob.disj h.tr h.hM (by decide) (by decide) (by decide) (by decide) hf (.inr (.inl e))
  · have e1 : tnm ⟨d.obs, d.trs ++ [x], d.evs, d.ops⟩ = tnm d ++ [x.nm] := by unfold tnm; rw [List.map_append]; rfl
    have e2 : (d.trs ++ [x]).map lfC = d.trs.map lfC ++ [lfC x] := by rw [List.map_append]; rfl
    rw [e1]
    show Reg w' lo pLf tLf L.M2 v' (tnm d ++ [x.nm]) (L.ls ++ [b]) ((d.trs ++ [x]).map lfC)
    rw [e2]; exact hr
/-- A life turns. -/
theorem DskB.setLf {w w' : World} {lo : Nat} {L : Lay} {d : Dk} (h : DskB w lo L d) {i b : Nat} {x x' : Lf} (hb : L.ls[i]? = some b) (hx : d.trs[i]? = some x) (hn : x'.nm = x.nm) (hO : Only b w w') (hH : Holds w' b tLf (lfC x')) : DskB w' lo L ⟨d.obs, d.trs.set i x', d.evs, d.ops⟩ := by
  have hc : (d.trs.map lfC)[i]? = some (lfC x) := by rw [List.getElem?_map, hx]; rfl
  obtain ⟨_, hHb⟩ := h.tr.box i b _ hb hc
  have hbm : regF L.M2 L.v2 L.ls b := .inr (.inr (List.mem_of_getElem? hb))
  refine ⟨?_, h.hB, ?_, ?_, h.hM⟩
  · refine h.box.of (hO.block _ h.box.lt (fun e => ?_))
    exact h.tr.apart h.box (by decide) (by decide) (e ▸ hbm)
  · refine h.ob.kept fun k hl hf => hO.block k hl (fun e => ?_)
    exact h.ob.disj h.tr h.hM (by decide) (by decide) (by decide) (by decide) hf (e ▸ hbm)
  · have e1 : tnm ⟨d.obs, d.trs.set i x', d.evs, d.ops⟩ = tnm d := by
      unfold tnm
      apply List.ext_getElem?
      intro j
      show ((d.trs.set i x').map Lf.nm)[j]? = _
      rw [List.getElem?_map, List.getElem?_map, List.getElem?_set]
      by_cases e : i = j
      · subst e
        rw [if_pos rfl, if_pos (List.getElem?_eq_some_iff.1 hx).1, hx]; simp [hn]
      · rw [if_neg e]
    have e2 : (d.trs.set i x').map lfC = (d.trs.map lfC).set i (lfC x') := List.map_set
    rw [e1]
    show Reg w' lo pLf tLf L.M2 L.v2 (tnm d) L.ls ((d.trs.set i x').map lfC)
    rw [e2]
    exact h.tr.set (by decide) hb hc hO hH
/-- The counters turn. -/
theorem DskB.counts {w w' : World} {lo : Nat} {L : Lay} {d : Dk} (h : DskB w lo L d) (n m : Nat) (hO : Only L.B w w') (hH : Holds w' L.B tDk (deskC L ⟨d.obs, d.trs, n, m⟩)) : DskB w' lo L ⟨d.obs, d.trs, n, m⟩ := by
  refine ⟨hH, h.hB, ?_, ?_, h.hM⟩
  · exact h.ob.kept fun k hl hf => hO.block k hl (fun e => h.ob.apart h.box (by decide) (by decide) (e ▸ hf))
  · exact h.tr.kept fun k hl hf => hO.block k hl (fun e => h.tr.apart h.box (by decide) (by decide) (e ▸ hf))
def NewPost (w : World) (e : Ending) (w' : World) : Prop := ∃ L, e = .returned (.pointer (some ⟨L.B, 0, none⟩)) ∧ Dsk w' w.heap.size L dk0 ∧ Below w.heap.size w w'
set_option maxHeartbeats 1000000 in
theorem new_any (w : World) : Calls Tryz.prog 23 #[] w (NewPost w) := by
  have HO := fun W => open_O W
  have HL := fun W => open_L W
  unfold OpenPost at HO HL
  go_enter Tryz.func23, Tryz.ntmps23
  go_wp2_with fail
  refine (HO _).mono ?_
  rintro e w1 ⟨M1, rfl, hR1, hB1⟩
  go_wp2_with fail
  refine (HL _).mono ?_
  rintro e w2 ⟨M2, rfl, hR2, hB2⟩
  have HR1 := Lib.hid (hR1.below hB2)
  have HR2 := Lib.hid hR2
  have hM1 := (hR1.lt M1 (.inl rfl)).2
  have hM2 := hR2.hM
  clear hR1 hR2
  go_wp2
  go_ret
  have hB3 := hB1.trans (hB2.mono hB1.size)
  have hs : w.heap.size ≤ w2.heap.size := hB3.size
  refine ⟨⟨w2.heap.size, M1, M2, .slice none 0 0, .slice none 0 0, [], []⟩, rfl, ⟨⟨Holds.new w2 tDk _, hs, HR1.out.below ((Below.refl _ _).alloc (Nat.le_refl _) _), (HR2.out.mono hB1.size).below ((Below.refl _ _).alloc (Nat.le_refl _) _), by show M1 ≠ M2; omega⟩, dk0_ok, by decide⟩, ?_⟩
  exact hB3.alloc hs _

theorem eql_same (w : World) (a : Addr) : (binOp .eql 39 (.pointer (some a)) (.pointer (some a))).run Tryz.prog w = .ok (.bool true) w := by
  have hz : (Go.sizeOf 71).run Tryz.prog w = .ok 7 w := by kernel_rfl
  have hu : (underlying 39).run Tryz.prog w = .ok (.pointer 71) w := run_underlying Tryz.underlying39 w
  have h1 : (Op.equalIn (9999 + 1) 39 (.pointer (some a)) (.pointer (some a))).run Tryz.prog w = .ok true w := by
    rw [Op.equalIn]
    simp [hu, hz, run_sameAddr_same]
  have h2 : (Op.equal 39 (.pointer (some a)) (.pointer (some a))).run Tryz.prog w = .ok true w := h1
  simp only [binOp]
  simp [h2]
theorem eql_none (w : World) (a : Addr) : (binOp .eql 39 (.pointer none) (.pointer (some a))).run Tryz.prog w = .ok (.bool false) w := by
  have hu : (underlying 39).run Tryz.prog w = .ok (.pointer 71) w := run_underlying Tryz.underlying39 w
  have h1 : (Op.equalIn (9999 + 1) 39 (.pointer none) (.pointer (some a))).run Tryz.prog w = .ok false w := by
    rw [Op.equalIn]
    simp [hu]
  have h2 : (Op.equal 39 (.pointer none) (.pointer (some a))).run Tryz.prog w = .ok false w := h1
  simp only [binOp]
  simp [h2]
def Made (b : Bool) (w : World) (e : Ending) (w' : World) : Prop := e = .returned (.bool b) ∧ w = w'
theorem made_yes (B : Nat) (w : World) (h : w.cell? ⟨B, 0, none⟩ = some (.pointer (some ⟨B, 0, none⟩))) : Calls Tryz.prog 48 #[.pointer (some ⟨B, 0, none⟩)] w (Made true w) := by
  have he := eql_same
  go_enter Tryz.func48, Tryz.ntmps48
  go_wp2
  go_ret
  exact ⟨rfl, rfl⟩
theorem made_nil (w : World) : Calls Tryz.prog 48 #[.pointer none] w (Made false w) := by
  go_enter Tryz.func48, Tryz.ntmps48
  go_wp2
  go_ret
  exact ⟨rfl, rfl⟩
theorem made_no (B : Nat) (w : World) (h : w.cell? ⟨B, 0, none⟩ = some (.pointer none)) : Calls Tryz.prog 48 #[.pointer (some ⟨B, 0, none⟩)] w (Made false w) := by
  have he := eql_none
  go_enter Tryz.func48, Tryz.ntmps48
  go_wp2
  go_ret
  exact ⟨rfl, rfl⟩
theorem len_any {lo : Nat} {L : Lay} {d : Dk} (w : World) (h : Dsk w lo L d) : Calls Tryz.prog 24 #[.pointer (some ⟨L.B, 0, none⟩)] w fun e w' => e = .returned (.int .i64 d.evs) ∧ w = w' := by
  obtain ⟨c0, c1, c2, c3, c4, c5, c6, fz⟩ := desk_cells h
  have h0 := made_yes L.B w c0
  clear h
  go_enter Tryz.func24, Tryz.ntmps24
  go_wp2_with fail
  refine h0.mono ?_
  rintro e w1 ⟨rfl, rfl⟩
  go_wp2
  go_ret
  exact ⟨rfl, rfl⟩
theorem len_no (p : Option Addr) (w : World) (h0 : Calls Tryz.prog 48 #[.pointer p] w (Made false w)) : Calls Tryz.prog 24 #[.pointer p] w fun e w' => e = .returned (.int .i64 0) ∧ w = w' := by
  go_enter Tryz.func24, Tryz.ntmps24
  go_wp2_with fail
  refine h0.mono ?_
  rintro e w1 ⟨rfl, rfl⟩
  go_wp2
  go_ret
  exact ⟨rfl, rfl⟩
end Go.Proofs.YtpdbkjnaicjfdaaGreatDoor
namespace Go.Proofs.YtpdbkjnaicjfdaaGreatDoor
open Go.RowKit Go.Maps
set_option linter.unusedVariables false
set_option maxRecDepth 100000

theorem belowN {w w' : World} {B : Nat} (h : Below B w w') (q : Nat) : Below B w (w'.drewN q) := ⟨h.os, h.tape, h.output, h.size, h.block⟩
theorem Dsk.drewN {w : World} {lo : Nat} {L : Lay} {d : Dk} (h : Dsk w lo L d) (q : Nat) : Dsk (w.drewN q) lo L d := h.below (belowN (Below.refl _ _) q)

theorem askF_any (B : Nat) (e : Ev) (A : Option Addr) (c : Nat) (w : World) (hA : Ints w A e.st.2.2) (hlen : e.st.2.2.length ≤ 20000) (hnm : e.nm.size ≤ 8000) (hob : e.ob.size ≤ 8000) :
    Calls Tryz.prog 70 #[.pointer (some ⟨B, 0, none⟩), evV e A c] w (Says (.int .i64 (evE e)) w) := by
  obtain ⟨kd, nm, ob, ⟨o1, o2, o3, o4, o5⟩, t, n, l⟩ := e
  dsimp only at hA hlen hnm hob
  have hb1 := alloc1 w (.cells (evC ⟨kd, nm, ob, (o1, o2, o3, o4, o5), t, n, l⟩ A c) 55)
  have HC := check_ev ⟨kd, nm, ob, (o1, o2, o3, o4, o5), t, n, l⟩ A c _ (hA.below hb1) hlen hnm hob
  unfold evV evC at *
  dsimp only at HC hb1 ⊢
  clear hA hlen hnm hob
  go_enter Tryz.func70, Tryz.ntmps70
  go_wp2_with fail
  refine HC.mono ?_
  rintro e w1 ⟨rfl, hB⟩
  go_wp2
  go_ret
  exact ⟨rfl, nxt hb1 hB hb1.size⟩

theorem same_q {P : Program} {f : FuncId} {args : Array Value} {w : World} {v : Value} (h : Calls P f args w fun e w' => e = .returned v ∧ w = w') : Calls P f args w fun e w' => e = .returned v ∧ ∃ m, w' = w.drewN m :=
  h.mono (by rintro e w' ⟨rfl, rfl⟩; exact ⟨rfl, 0, rfl⟩)

theorem same_q2 {P : Program} {f : FuncId} {args : Array Value} {w : World} {v : Value} {q x : Nat} (h : Calls P f args (w.drewN (q + x)) fun e w' => e = .returned v ∧ w.drewN (q + x) = w') : Calls P f args (w.drewN (q + x)) fun e w' => e = .returned v ∧ ∃ m, w' = w.drewN (q + m) :=
  h.mono (by rintro e w' ⟨rfl, rfl⟩; exact ⟨rfl, x, rfl⟩)

set_option maxHeartbeats 4000000 in
theorem askO_any {lo : Nat} {L : Lay} {d : Dk} (e : Ev) (A : Option Addr) (c : Nat) (w : World) (h : Dsk w lo L d) (hnm : e.nm.size ≤ 8000) (hob : e.ob.size ≤ 8000) :
    Calls Tryz.prog 71 #[.pointer (some ⟨L.B, 0, none⟩), evV e A c] w (Says (.int .i64 (askO d e)) w) := by
  obtain ⟨kd, nm, ob, ⟨o1, o2, o3, o4, o5⟩, t, n, l⟩ := e
  dsimp only at hnm hob
  have hx : askO d ⟨kd, nm, ob, (o1, o2, o3, o4, o5), t, n, l⟩ = if kd ≠ 1 then 0 else if d.obs.length < d.evs then 13 else if (obAt d nm).isSome then 10 else 0 := rfl
  obtain ⟨F, hF⟩ : ∃ F, askO d ⟨kd, nm, ob, (o1, o2, o3, o4, o5), t, n, l⟩ = F := ⟨_, rfl⟩
  rw [hF] at hx ⊢
  have HF := Lib.hid hx
  have hb1 := alloc1 w (.cells (evC ⟨kd, nm, ob, (o1, o2, o3, o4, o5), t, n, l⟩ A c) 55)
  have HD1 := Lib.hid (h.below hb1)
  unfold evV evC at *
  dsimp only at HD1 hb1 ⊢
  clear hx hF h
  go_enter Tryz.func71, Tryz.ntmps71
  go_upto_region 1 with fail
  have HX := Lib.hid (Holds.new w 55 #[.int .i64 kd, .string nm, .string ob, .int .i64 o1, .int .i64 o2, .int .i64 o3, .int .i64 o4, .int .i64 o5, .int .i64 t, .int .i64 n, .slice A l.length c])
  generalize w.alloc (.cells #[.int .i64 kd, .string nm, .string ob, .int .i64 o1, .int .i64 o2, .int .i64 o3, .int .i64 o4, .int .i64 o5, .int .i64 t, .int .i64 n, .slice A l.length c] 55) = W1 at *
  obtain ⟨x0, x1, x2, x3, x4, x5, x6, x7, x8, x9, x10, y0⟩ := ev_cells HX.out
  obtain ⟨c0, c1, c2, c3, c4, c5, c6, fz⟩ := desk_cells HD1.out
  by_cases hk : kd = 1
  · subst hk
    obtain ⟨A1, k1, hv1⟩ := HD1.out.ob.shape
    have hl : d.obs.length = L.bs.length := by have := HD1.out.ob.nl; unfold onm at this; rwa [List.length_map] at this
    rw [hv1] at c2
    have HCt := fun n => count_O L.B (W1.drewN n) A1 L.bs.length k1 c2
    have HOf := fun n => of_O L.B (W1.drewN n) c1 (HD1.out.drewN n).ob nm (by unfold maxLen; omega)
    have hmany := HD1.out.ok.many
    have hfew := HD1.out.few
    by_cases k2 : d.obs.length < d.evs
    · have hd2 : decide (L.bs.length < d.evs) = true := decide_eq_true (by omega)
      have e1 : F = 13 := by rw [HF.out, if_neg (by simp), if_pos k2]
      subst e1
      go_wp2_with fail
      go_quiet ((go_at_call 42; exact Calls.quiet_of (same_q (HCt _))))
      go_wp2
      go_ret
      exact ⟨rfl, belowN hb1 _⟩
    · have hd2 : decide (L.bs.length < d.evs) = false := decide_eq_false (by omega)
      have hd3 : decide ((256 : Int) ≤ (L.bs.length : Int)) = false := decide_eq_false (by omega)
      rcases HD1.out.obOf nm with ⟨hn, hbn⟩ | ⟨x, b, hn, hbn, _⟩
      · have e1 : F = 0 := by rw [HF.out, if_neg (by simp), if_neg k2, hn]; rfl
        subst e1
        simp only [hbn, ptrO] at HOf
        clear hn hbn hl HF k2
        go_wp2_with fail
        go_quiet ((go_at_call 42; exact Calls.quiet_of (same_q (HCt _))))
        go_wp2_with fail
        go_quiet ((go_at_call 97; exact same_q2 (HOf _)))
        go_wp2_with fail
        refine (HCt _).mono ?_
        rintro e w1 ⟨rfl, rfl⟩
        go_wp2
        go_ret
        exact ⟨rfl, by first | exact belowN (belowN hb1 _) _ | exact belowN hb1 _⟩
      · have e1 : F = 10 := by rw [HF.out, if_neg (by simp), if_neg k2, hn]; rfl
        subst e1
        simp only [hbn, ptrO] at HOf
        clear hn hbn hl HF k2
        go_wp2_with fail
        go_quiet ((go_at_call 42; exact Calls.quiet_of (same_q (HCt _))))
        go_wp2_with fail
        go_quiet ((go_at_call 97; exact same_q2 (HOf _)))
        go_wp2
        go_ret
        exact ⟨rfl, by first | exact belowN (belowN hb1 _) _ | exact belowN hb1 _⟩
  · have e1 : F = 0 := by rw [HF.out, if_pos hk]
    subst e1
    have hkd : (kd == 1) = false := beq_eq_false_iff_ne.2 hk
    go_wp2
    go_ret
    exact ⟨rfl, hb1⟩

set_option maxHeartbeats 4000000 in
theorem askB_any {lo : Nat} {L : Lay} {d : Dk} (e : Ev) (A : Option Addr) (c : Nat) (w : World) (h : Dsk w lo L d) (hnm : e.nm.size ≤ 8000) (hob : e.ob.size ≤ 8000) :
    Calls Tryz.prog 72 #[.pointer (some ⟨L.B, 0, none⟩), evV e A c] w (Says (.int .i64 (askB d e)) w) := by
  obtain ⟨kd, nm, ob, ⟨o1, o2, o3, o4, o5⟩, t, n, l⟩ := e
  dsimp only at hnm hob
  have hx : askB d ⟨kd, nm, ob, (o1, o2, o3, o4, o5), t, n, l⟩ = if kd ≠ 2 then 0 else if (lfAt d nm).isSome then 10 else 0 := rfl
  obtain ⟨F, hF⟩ : ∃ F, askB d ⟨kd, nm, ob, (o1, o2, o3, o4, o5), t, n, l⟩ = F := ⟨_, rfl⟩
  rw [hF] at hx ⊢
  have HF := Lib.hid hx
  have hb1 := alloc1 w (.cells (evC ⟨kd, nm, ob, (o1, o2, o3, o4, o5), t, n, l⟩ A c) 55)
  have HD1 := Lib.hid (h.below hb1)
  unfold evV evC at *
  dsimp only at HD1 hb1 ⊢
  clear hx hF h
  go_enter Tryz.func72, Tryz.ntmps72
  go_upto_region 1 with fail
  have HX := Lib.hid (Holds.new w 55 #[.int .i64 kd, .string nm, .string ob, .int .i64 o1, .int .i64 o2, .int .i64 o3, .int .i64 o4, .int .i64 o5, .int .i64 t, .int .i64 n, .slice A l.length c])
  generalize w.alloc (.cells #[.int .i64 kd, .string nm, .string ob, .int .i64 o1, .int .i64 o2, .int .i64 o3, .int .i64 o4, .int .i64 o5, .int .i64 t, .int .i64 n, .slice A l.length c] 55) = W1 at *
  obtain ⟨x0, x1, x2, x3, x4, x5, x6, x7, x8, x9, x10, y0⟩ := ev_cells HX.out
  obtain ⟨c0, c1, c2, c3, c4, c5, c6, fz⟩ := desk_cells HD1.out
  by_cases hk : kd = 2
  · subst hk
    obtain ⟨A1, k1, hv1⟩ := HD1.out.tr.shape
    have hl : d.trs.length = L.ls.length := by have := HD1.out.tr.nl; unfold tnm at this; rwa [List.length_map] at this
    rw [hv1] at c4
    have HCt := fun n => count_L L.B (W1.drewN n) A1 L.ls.length k1 c4
    have HOf := fun n => of_L L.B (W1.drewN n) c3 (HD1.out.drewN n).tr nm (by unfold maxLen; omega)
    have hmany := HD1.out.ok.many
    have hfew := HD1.out.few
    have hd3 : decide ((4096 : Int) ≤ (L.ls.length : Int)) = false := decide_eq_false (by omega)
    rcases HD1.out.lfOf nm with ⟨hn, hbn⟩ | ⟨x, b, hn, hbn, _⟩
    · have e1 : F = 0 := by rw [HF.out, if_neg (by simp), hn]; rfl
      subst e1
      simp only [hbn, ptrO] at HOf
      clear hn hbn hl HF
      go_wp2_with fail
      go_quiet ((go_at_call 53; exact Calls.quiet_of (same_q (HOf _))))
      go_wp2_with fail
      refine (HCt _).mono ?_
      rintro e w1 ⟨rfl, rfl⟩
      go_wp2
      go_ret
      exact ⟨rfl, belowN hb1 _⟩
    · have e1 : F = 10 := by rw [HF.out, if_neg (by simp), hn]; rfl
      subst e1
      simp only [hbn, ptrO] at HOf
      clear hn hbn hl HF
      go_wp2_with fail
      go_quiet ((go_at_call 53; exact Calls.quiet_of (same_q (HOf _))))
      go_wp2
      go_ret
      exact ⟨rfl, belowN hb1 _⟩
  · have e1 : F = 0 := by rw [HF.out, if_pos hk]
    subst e1
    have hkd : (kd == 2) = false := beq_eq_false_iff_ne.2 hk
    go_wp2
    go_ret
    exact ⟨rfl, hb1⟩

set_option maxHeartbeats 4000000 in
theorem askR_any {lo : Nat} {L : Lay} {d : Dk} (e : Ev) (A : Option Addr) (c : Nat) (w : World) (h : Dsk w lo L d) (hnm : e.nm.size ≤ 8000) (hob : e.ob.size ≤ 8000) :
    Calls Tryz.prog 73 #[.pointer (some ⟨L.B, 0, none⟩), evV e A c] w (Says (.int .i64 (askR d e)) w) := by
  obtain ⟨kd, nm, ob, ⟨o1, o2, o3, o4, o5⟩, t, n, l⟩ := e
  dsimp only at hnm hob
  have hx : askR d ⟨kd, nm, ob, (o1, o2, o3, o4, o5), t, n, l⟩ = if kd = 1 ∨ kd = 2 then 0 else match lfAt d nm with
    | none => 11
    | some x => if x.en = -1 then 0 else 13 := rfl
  obtain ⟨F, hF⟩ : ∃ F, askR d ⟨kd, nm, ob, (o1, o2, o3, o4, o5), t, n, l⟩ = F := ⟨_, rfl⟩
  rw [hF] at hx ⊢
  have HF := Lib.hid hx
  have hb1 := alloc1 w (.cells (evC ⟨kd, nm, ob, (o1, o2, o3, o4, o5), t, n, l⟩ A c) 55)
  have HD1 := Lib.hid (h.below hb1)
  unfold evV evC at *
  dsimp only at HD1 hb1 ⊢
  clear hx hF h
  go_enter Tryz.func73, Tryz.ntmps73
  go_upto_region 1 with fail
  have HX := Lib.hid (Holds.new w 55 #[.int .i64 kd, .string nm, .string ob, .int .i64 o1, .int .i64 o2, .int .i64 o3, .int .i64 o4, .int .i64 o5, .int .i64 t, .int .i64 n, .slice A l.length c])
  generalize w.alloc (.cells #[.int .i64 kd, .string nm, .string ob, .int .i64 o1, .int .i64 o2, .int .i64 o3, .int .i64 o4, .int .i64 o5, .int .i64 t, .int .i64 n, .slice A l.length c] 55) = W1 at *
  obtain ⟨x0, x1, x2, x3, x4, x5, x6, x7, x8, x9, x10, y0⟩ := ev_cells HX.out
  obtain ⟨c0, c1, c2, c3, c4, c5, c6, fz⟩ := desk_cells HD1.out
  by_cases hk1 : kd = 1
  · have e1 : F = 0 := by rw [HF.out, if_pos (.inl hk1)]
    subst e1
    have hkd : (kd == 1) = true := by rw [hk1]; rfl
    clear hk1
    go_wp2
    go_ret
    exact ⟨rfl, hb1⟩
  · have hkd : (kd == 1) = false := beq_eq_false_iff_ne.2 hk1
    by_cases hk2 : kd = 2
    · have e1 : F = 0 := by rw [HF.out, if_pos (.inr hk2)]
      subst e1
      have hkd2 : (kd == 2) = true := by rw [hk2]; rfl
      clear hk1 hk2
      go_wp2
      go_ret
      exact ⟨rfl, hb1⟩
    · have hkd2 : (kd == 2) = false := beq_eq_false_iff_ne.2 hk2
      have HOf := fun n => of_L L.B (W1.drewN n) c3 (HD1.out.drewN n).tr nm (by unfold maxLen; omega)
      rcases HD1.out.lfOf nm with ⟨hn, hbn⟩ | ⟨x, b, hn, hbn, hH, _⟩
      · have e1 : F = 11 := by rw [HF.out, if_neg (by omega), hn]
        subst e1
        simp only [hbn, ptrO] at HOf
        clear hn hbn HF hk1 hk2
        go_wp2_with fail
        go_quiet ((go_at_call 53; exact Calls.quiet_of (same_q (HOf _))))
        go_wp2
        go_ret
        exact ⟨rfl, belowN hb1 _⟩
      · have e1 : F = if x.en = -1 then 0 else 13 := by rw [HF.out, if_neg (by omega), hn]
        simp only [hbn, ptrO] at HOf
        have cE : W1.cell? ⟨b, 2, none⟩ = some (.int .i64 x.en) := hH.c rfl
        generalize x.en = en at *
        clear hn hbn HF hk1 hk2 hH
        by_cases he : en = -1
        · rw [if_pos he] at e1
          subst e1
          have hee : (en == -1) = true := by rw [he]; rfl
          clear he
          go_wp2_with fail
          go_quiet ((go_at_call 53; exact Calls.quiet_of (same_q (HOf _))))
          go_wp2
          go_ret
          exact ⟨rfl, belowN hb1 _⟩
        · rw [if_neg he] at e1
          subst e1
          have hee : (en == -1) = false := beq_eq_false_iff_ne.2 he
          clear he
          go_wp2_with fail
          go_quiet ((go_at_call 53; exact Calls.quiet_of (same_q (HOf _))))
          go_wp2
          go_ret
          exact ⟨rfl, belowN hb1 _⟩

set_option maxHeartbeats 4000000 in
theorem askP_any {lo : Nat} {L : Lay} {d : Dk} (e : Ev) (A : Option Addr) (c : Nat) (w : World) (h : Dsk w lo L d) (hnm : e.nm.size ≤ 8000) (hob : e.ob.size ≤ 8000) :
    Calls Tryz.prog 74 #[.pointer (some ⟨L.B, 0, none⟩), evV e A c] w (Says (.int .i64 (askP d e)) w) := by
  obtain ⟨kd, nm, ob, ⟨o1, o2, o3, o4, o5⟩, t, n, l⟩ := e
  dsimp only at hnm hob
  have hx : askP d ⟨kd, nm, ob, (o1, o2, o3, o4, o5), t, n, l⟩ = if kd ≠ 3 then 0 else match obAt d ob with
    | none => 11
    | some x => if typeO (kindI o1) = x.2 then 0 else 8 := rfl
  obtain ⟨F, hF⟩ : ∃ F, askP d ⟨kd, nm, ob, (o1, o2, o3, o4, o5), t, n, l⟩ = F := ⟨_, rfl⟩
  rw [hF] at hx ⊢
  have HF := Lib.hid hx
  have hb1 := alloc1 w (.cells (evC ⟨kd, nm, ob, (o1, o2, o3, o4, o5), t, n, l⟩ A c) 55)
  have HD1 := Lib.hid (h.below hb1)
  unfold evV evC at *
  dsimp only at HD1 hb1 ⊢
  clear hx hF h
  go_enter Tryz.func74, Tryz.ntmps74
  go_upto_region 1 with fail
  have HX := Lib.hid (Holds.new w 55 #[.int .i64 kd, .string nm, .string ob, .int .i64 o1, .int .i64 o2, .int .i64 o3, .int .i64 o4, .int .i64 o5, .int .i64 t, .int .i64 n, .slice A l.length c])
  generalize w.alloc (.cells #[.int .i64 kd, .string nm, .string ob, .int .i64 o1, .int .i64 o2, .int .i64 o3, .int .i64 o4, .int .i64 o5, .int .i64 t, .int .i64 n, .slice A l.length c] 55) = W1 at *
  obtain ⟨x0, x1, x2, x3, x4, x5, x6, x7, x8, x9, x10, y0⟩ := ev_cells HX.out
  obtain ⟨c0, c1, c2, c3, c4, c5, c6, fz⟩ := desk_cells HD1.out
  by_cases hk : kd = 3
  · subst hk
    have HOf := fun n => of_O L.B (W1.drewN n) c1 (HD1.out.drewN n).ob ob (by unfold maxLen; omega)
    have hmany := HD1.out.ok.few
    have hfew := HD1.out.few
    have hd3 : decide ((1048576 : Int) ≤ (d.ops : Int)) = false := decide_eq_false (by omega)
    rcases HD1.out.obOf ob with ⟨hn, hbn⟩ | ⟨x, b, hn, hbn, hH, _⟩
    · have e1 : F = 11 := by rw [HF.out, if_neg (by simp), hn]
      subst e1
      simp only [hbn, ptrO] at HOf
      clear hn hbn HF
      go_wp2_with fail
      go_quiet ((go_at_call 97; exact Calls.quiet_of (same_q (HOf _))))
      go_wp2
      go_ret
      exact ⟨rfl, belowN hb1 _⟩
    · have e1 : F = if typeO (kindI o1) = x.2 then 0 else 8 := by rw [HF.out, if_neg (by simp), hn]
      simp only [hbn, ptrO] at HOf
      have HT := fun W => type_any o1 W
      generalize typeO (kindI o1) = ty at *
      generalize errOf (kindI o1) = er at *
      have cE : W1.cell? ⟨b, 1, none⟩ = some (.int .i64 x.2) := hH.c rfl
      have hbl := hH.lt
      generalize x.2 = xk at *
      clear hn hbn HF hH
      by_cases he : ty = xk
      · rw [if_pos he] at e1
        subst e1
        have hee : (ty == xk) = true := by rw [he]; simp
        clear he
        go_wp2_with fail
        go_quiet ((go_at_call 97; exact Calls.quiet_of (same_q (HOf _))))
        go_wp2_with fail
        refine (HT _).mono ?_
        rintro e w1 ⟨rfl, hB2⟩
        have hBf := nxt (belowN hb1 _) hB2 hb1.size
        have cE' := (hB2.cell (p := ⟨b, 1, none⟩) hbl).trans cE
        have c6' := (hB2.cell (p := ⟨L.B, 6, none⟩) (World.block_lt_of_cell? _ _ c6)).trans c6
        clear cE c6 HT
        go_wp2
        go_ret
        exact ⟨rfl, hBf⟩
      · rw [if_neg he] at e1
        subst e1
        have hee : (ty == xk) = false := beq_eq_false_iff_ne.2 he
        clear he
        go_wp2_with fail
        go_quiet ((go_at_call 97; exact Calls.quiet_of (same_q (HOf _))))
        go_wp2_with fail
        refine (HT _).mono ?_
        rintro e w1 ⟨rfl, hB2⟩
        have hBf := nxt (belowN hb1 _) hB2 hb1.size
        have cE' := (hB2.cell (p := ⟨b, 1, none⟩) hbl).trans cE
        clear cE HT
        go_wp2
        go_ret
        exact ⟨rfl, hBf⟩
  · have e1 : F = 0 := by rw [HF.out, if_pos hk]
    subst e1
    have hkd : (kd == 3) = false := beq_eq_false_iff_ne.2 hk
    go_wp2
    go_ret
    exact ⟨rfl, hb1⟩
end Go.Proofs.YtpdbkjnaicjfdaaGreatDoor
