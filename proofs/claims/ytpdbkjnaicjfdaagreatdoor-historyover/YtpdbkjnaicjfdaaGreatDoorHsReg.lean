/- Registries, as the world has them. -/
import Derived.Test.YtpdbkjnaicjfdaaGreatDoorGrK
import Derived.Test.YtpdbkjnaicjfdaaGreatDoorHsShA
import Derived.Maps.OwnSet
import Derived.Maps.AppendAt
import Derived.Maps.OwnOps
import Derived.StringKeys
import Derived.LaidEql
import Derived.OneCell
namespace Go.Proofs.YtpdbkjnaicjfdaaGreatDoor
open Go.RowKit Go.Maps
set_option linter.unusedVariables false

/-- But for F the world is as it was. -/
structure But (F : Nat → Prop) (w w' : World) : Prop where
  os : w'.os = w.os
  tape : w'.tape = w.tape
  output : w'.output = w.output
  size : w.heap.size ≤ w'.heap.size
  block : ∀ k, k < w.heap.size → ¬ F k → w'.heap[k]? = w.heap[k]?
theorem But.refl (F : Nat → Prop) (w : World) : But F w w := ⟨rfl, rfl, rfl, Nat.le_refl _, fun _ _ _ => rfl⟩
theorem But.trans {F : Nat → Prop} {a b c : World} (h : But F a b) (k : But F b c) : But F a c :=
  ⟨k.os.trans h.os, k.tape.trans h.tape, k.output.trans h.output, Nat.le_trans h.size k.size, fun i hi hF => (k.block i (Nat.lt_of_lt_of_le hi h.size) hF).trans (h.block i hi hF)⟩
/-- The later one may turn what is new. -/
theorem But.next {F G : Nat → Prop} {a b c : World} (h : But F a b) (k : But G b c) (hG : ∀ i, G i → F i ∨ a.heap.size ≤ i) : But F a c :=
  ⟨k.os.trans h.os, k.tape.trans h.tape, k.output.trans h.output, Nat.le_trans h.size k.size, fun i hi hF => (k.block i (Nat.lt_of_lt_of_le hi h.size) (fun g => by rcases hG i g with x | x; exact hF x; omega)).trans (h.block i hi hF)⟩
theorem But.wider {F G : Nat → Prop} {w w' : World} (h : But F w w') (hG : ∀ i, F i → G i) : But G w w' := ⟨h.os, h.tape, h.output, h.size, fun k hk hF => h.block k hk (fun f => hF (hG k f))⟩
theorem But.below {F : Nat → Prop} {w w' : World} (h : But F w w') {lo : Nat} (hlo : ∀ k, F k → lo ≤ k) (hle : lo ≤ w.heap.size) : Below lo w w' :=
  ⟨h.os, h.tape, h.output, h.size, fun k hk => h.block k (by omega) (fun hF => by have := hlo k hF; omega)⟩
theorem but_of_below {F : Nat → Prop} {w w' : World} (h : Below w.heap.size w w') : But F w w' := ⟨h.os, h.tape, h.output, h.size, fun k hk _ => h.block k hk⟩
theorem but_of_grown {F : Nat → Prop} {w w' : World} {row : Option Nat} (h : w.grownBy w' row) (hr : ∀ k, row = some k → F k) : But F w w' :=
  ⟨h.os, h.tape, h.output, h.size, fun k hk hF => h.block k hk (fun e => hF (hr k e.symm))⟩
theorem but_setCell {F : Nat → Prop} (w : World) (a : Addr) (u : Value) (h : F a.block) : But F w (w.setCell a u) :=
  ⟨rfl, rfl, rfl, by simp [World.setCell], fun k hk hF => Below.heap_setCell _ _ _ _ (fun e => hF (e ▸ h))⟩

/-- A pointer to a block's begin; nil. -/
def ptrO : Option Nat → Value
  | none => .pointer none
  | some b => .pointer (some ⟨b, 0, none⟩)
/-- How an element of the map reads. -/
def pElem : Value → Option (DataW Unit × List MemPlace)
  | .pointer none => some (.lit (.int .i64 (-1)), [])
  | .pointer (some ⟨b, 0, none⟩) => some (.lit (.int .i64 b), [])
  | _ => none
theorem pElem_none : pElem (.pointer none) = some (.lit (.int .i64 (-1)), []) := rfl
theorem pElem_some (b : Nat) : pElem (.pointer (some ⟨b, 0, none⟩)) = some (.lit (.int .i64 b), []) := rfl
theorem pElem_inv {v : Value} {z : DataW Unit × List MemPlace} (h : pElem v = some z) : (v = ptrO none ∧ z = (.lit (.int .i64 (-1)), [])) ∨ ∃ b : Nat, v = ptrO (some b) ∧ z = (.lit (.int .i64 b), []) := by
  unfold pElem at h
  split at h
  · exact .inl ⟨rfl, (Option.some.inj h).symm⟩
  · exact .inr ⟨_, rfl, (Option.some.inj h).symm⟩
  · cases h
def atO : Option Nat → Int
  | none => -1
  | some b => b
/-- The map's datum has just these names, each with its thing's block. -/
def Keeps (D : DataW Unit) (ns : List ByteArray) (bs : List Nat) : Prop :=
  (∀ s, Maps.has D (key s) = ns.contains s) ∧ ∀ (i : Nat) s b, ns[i]? = some s → bs[i]? = some b → ∀ z, D.atKey (key s) z = .lit (.int .i64 b)
theorem Keeps.at {D : DataW Unit} {ns : List ByteArray} {bs : List Nat} (h : Keeps D ns bs) (hl : ns.length = bs.length) (s : ByteArray) : D.atKey (key s) (.lit (.int .i64 (-1))) = .lit (.int .i64 (atO bs[ns.idxOf s]?)) := by
  cases hc : ns.contains s with
  | true =>
    have hm : s ∈ ns := by simpa using hc
    have hi := List.idxOf_lt_length_of_mem hm
    have e1 : ns[ns.idxOf s]? = some s := by rw [List.getElem?_eq_getElem hi, List.getElem_idxOf]
    have e2 : bs[ns.idxOf s]? = some (bs[ns.idxOf s]'(by omega)) := List.getElem?_eq_getElem _
    rw [h.2 _ s _ e1 e2, e2]; rfl
  | false =>
    have hm : s ∉ ns := fun k => by have : ns.contains s = true := by simpa using k
                                    rw [this] at hc; cases hc
    rw [atKey_of_not_has ((h.1 s).trans hc), List.idxOf_eq_length hm, List.getElem?_eq_none (by omega)]; rfl
theorem keeps_nil : Keeps (.map []) [] [] := ⟨fun s => rfl, fun i s b h => by simp at h⟩
theorem keeps_add {D : DataW Unit} {ns : List ByteArray} {bs : List Nat} {s : ByteArray} {b : Nat} (h : Keeps D ns bs) (hl : ns.length = bs.length) (hD : IsMap D) (hc : ns.contains s = false) : Keeps (D.put (key s) (.lit (.int .i64 b))) (ns ++ [s]) (bs ++ [b]) := by
  refine ⟨fun t => ?_, fun i t c hi hb z => ?_⟩
  · by_cases e : t = s
    · subst e
      rw [has_put_same hD (by simp [WideAt.IsKeyLit, key])]
      simp
    · rw [has_put_other (fun e' => e (key_inj e')), h.1 t]
      simp [e]
  · rcases Nat.lt_or_ge i ns.length with hll | hll
    · rw [List.getElem?_append_left hll] at hi
      rw [List.getElem?_append_left (by omega)] at hb
      have hm : t ∈ ns := List.mem_of_getElem? hi
      have hne : t ≠ s := fun e => by
        subst e
        have : ns.contains t = true := by simpa using hm
        rw [this] at hc; cases hc
      rw [atKey_put_other (fun e' => hne (key_inj e'))]
      exact h.2 i t c hi hb z
    · rw [List.getElem?_append_right hll] at hi
      rw [List.getElem?_append_right (by omega)] at hb
      have h0 : i - ns.length = 0 := by
        rcases Nat.eq_zero_or_pos (i - ns.length) with h0 | h0
        · exact h0
        · rw [List.getElem?_eq_none (by simp; omega)] at hi; cases hi
      rw [h0] at hi
      rw [← hl, h0] at hb
      have hs : s = t := by simpa using hi
      have hbb : b = c := by simpa using hb
      subst hs
      subst hbb
      exact atKey_put_same hD (by simp [WideAt.IsKeyLit, key]) _ _

/-- A registry's things: its map M, its order v, the things' names, blocks and cells. -/
structure Reg (w : World) (lo : Nat) (pt tt : TypeId) (M : Nat) (v : Value) (ns : List ByteArray) (bs : List Nat) (cs : List (Array Value)) : Prop where
  row : w.ownsRow lo pt 1 v bs.length (bs.map fun b => ptrO (some b))
  map : ∃ D, w.ownsMap Tryz.prog 9 pElem M bs.length D ∧ Keeps D ns bs
  hM : lo ≤ M
  nl : ns.length = bs.length
  cl : cs.length = bs.length
  nd : ns.Nodup
  bd : bs.Nodup
  box : ∀ (i b : Nat) (c : Array Value), bs[i]? = some b → cs[i]? = some c → lo ≤ b ∧ Holds w b tt c
def regF (M : Nat) (v : Value) (bs : List Nat) (k : Nat) : Prop := k = M ∨ v.ownBlock = some k ∨ k ∈ bs
theorem Reg.boxB {w : World} {lo : Nat} {pt tt : TypeId} {M : Nat} {v : Value} {ns : List ByteArray} {bs : List Nat} {cs : List (Array Value)} (h : Reg w lo pt tt M v ns bs cs) {b : Nat} (hb : b ∈ bs) : ∃ (i : Nat) (c : Array Value), bs[i]? = some b ∧ cs[i]? = some c ∧ lo ≤ b ∧ Holds w b tt c := by
  obtain ⟨i, hi, e⟩ := List.getElem_of_mem hb
  have hbi : bs[i]? = some b := by rw [List.getElem?_eq_getElem hi, e]
  have hci : cs[i]? = some (cs[i]'(by rw [h.cl]; exact hi)) := List.getElem?_eq_getElem _
  exact ⟨i, _, hbi, hci, h.box i b _ hbi hci⟩
theorem Reg.mapAt {w : World} {lo : Nat} {pt tt : TypeId} {M : Nat} {v : Value} {ns : List ByteArray} {bs : List Nat} {cs : List (Array Value)} (h : Reg w lo pt tt M v ns bs cs) : ∃ es clock, w.heap[M]? = some (.map es clock) := by
  obtain ⟨D, ⟨es, clock, hb, _⟩, _⟩ := h.map
  exact ⟨es, clock, hb⟩
theorem Reg.lt {w : World} {lo : Nat} {pt tt : TypeId} {M : Nat} {v : Value} {ns : List ByteArray} {bs : List Nat} {cs : List (Array Value)} (h : Reg w lo pt tt M v ns bs cs) : ∀ k, regF M v bs k → lo ≤ k ∧ k < w.heap.size := by
  rintro k (rfl | e | hk)
  · obtain ⟨es, clock, hb⟩ := h.mapAt
    exact ⟨h.hM, (Array.getElem?_eq_some_iff.1 hb).1⟩
  · exact h.row.lt k e
  · obtain ⟨i, c, _, _, hl, hH⟩ := h.boxB hk
    exact ⟨hl, hH.lt⟩
theorem Reg.kept {w w' : World} {lo : Nat} {pt tt : TypeId} {M : Nat} {v : Value} {ns : List ByteArray} {bs : List Nat} {cs : List (Array Value)} (h : Reg w lo pt tt M v ns bs cs) (hk : ∀ k, k < w.heap.size → regF M v bs k → w'.heap[k]? = w.heap[k]?) : Reg w' lo pt tt M v ns bs cs := by
  refine ⟨⟨h.row.1, ?_⟩, ?_, h.hM, h.nl, h.cl, h.nd, h.bd, fun i b c hb hc => ?_⟩
  · rcases h.row.2 with hn | ⟨g, cap, cur, e, hb, hg, rest⟩
    · exact .inl hn
    · exact .inr ⟨g, cap, cur, e, hb, (hk g (Array.getElem?_eq_some_iff.1 hg).1 (.inr (.inl (by rw [e]; rfl)))).trans hg, rest⟩
  · obtain ⟨D, ⟨es, clock, hb, r⟩, hD⟩ := h.map
    exact ⟨D, ⟨es, clock, (hk M (Array.getElem?_eq_some_iff.1 hb).1 (.inl rfl)).trans hb, r⟩, hD⟩
  · obtain ⟨hl, hH⟩ := h.box i b c hb hc
    exact ⟨hl, hH.of (hk b hH.lt (.inr (.inr (List.mem_of_getElem? hb))))⟩
theorem Reg.below {w w' : World} {lo : Nat} {pt tt : TypeId} {M : Nat} {v : Value} {ns : List ByteArray} {bs : List Nat} {cs : List (Array Value)} (h : Reg w lo pt tt M v ns bs cs) (hk : Below w.heap.size w w') : Reg w' lo pt tt M v ns bs cs :=
  h.kept fun k hl _ => hk.block k hl
theorem Reg.shape {w : World} {lo : Nat} {pt tt : TypeId} {M : Nat} {v : Value} {ns : List ByteArray} {bs : List Nat} {cs : List (Array Value)} (h : Reg w lo pt tt M v ns bs cs) : ∃ A c, v = .slice A bs.length c := by
  rcases h.row.2 with ⟨e, hn⟩ | ⟨g, cap, cur, e, _⟩
  · exact ⟨none, 0, by rw [e, hn]⟩
  · exact ⟨_, _, e⟩
/-- A block of another kind is none of the registry's. -/
theorem Reg.apart {w : World} {lo : Nat} {pt tt dt : TypeId} {M : Nat} {v : Value} {ns : List ByteArray} {bs : List Nat} {cs : List (Array Value)} (h : Reg w lo pt tt M v ns bs cs) {B : Nat} {dc : Array Value} (hB : Holds w B dt dc) (h1 : dt ≠ pt) (h2 : dt ≠ tt) : ¬ regF M v bs B := by
  rintro (rfl | e | hk)
  · obtain ⟨es, clock, hb⟩ := h.mapAt
    rw [show w.heap[B]? = _ from hB] at hb; cases hb
  · exact hB.not_row h.row h1 e.symm
  · obtain ⟨i, c, _, _, _, hH⟩ := h.boxB hk
    have e := (show w.heap[B]? = _ from hB).symm.trans (show w.heap[B]? = _ from hH)
    exact h2 (by injection e with e; injection e)
theorem Reg.new (w : World) (lo : Nat) (pt tt : TypeId) (M : Nat) (hM : lo ≤ M) (h : w.ownsMap Tryz.prog 9 pElem M 0 (.map [])) : Reg w lo pt tt M (.slice none 0 0) [] [] [] :=
  ⟨World.ownsRow_nil _ _ _ _, ⟨_, h, keeps_nil⟩, hM, rfl, rfl, List.nodup_nil, List.nodup_nil, fun i b c hb => by simp at hb⟩
/-- A thing turns. -/
theorem Reg.set {w : World} {lo : Nat} {pt tt : TypeId} {M : Nat} {v : Value} {ns : List ByteArray} {bs : List Nat} {cs : List (Array Value)} (h : Reg w lo pt tt M v ns bs cs) (hpt : tt ≠ pt) {i b : Nat} {c : Array Value} (hb : bs[i]? = some b) (hc : cs[i]? = some c) {w' : World} {c' : Array Value}
    (hO : Only b w w') (hH : Holds w' b tt c') : Reg w' lo pt tt M v ns bs (cs.set i c') := by
  obtain ⟨hlb, hHb⟩ := h.box i b c hb hc
  have hbM : M ≠ b := fun e => by
    obtain ⟨es, clock, hm⟩ := h.mapAt
    rw [e, show w.heap[b]? = _ from hHb] at hm; cases hm
  refine ⟨⟨h.row.1, ?_⟩, ?_, h.hM, h.nl, by rw [List.length_set, h.cl], h.nd, h.bd, fun j b2 c2 hb2 hc2 => ?_⟩
  · rcases h.row.2 with hn | ⟨g, cap, cur, e, hg0, hg, rest⟩
    · exact .inl hn
    · refine .inr ⟨g, cap, cur, e, hg0, (hO.block g (Array.getElem?_eq_some_iff.1 hg).1 (fun k => ?_)).trans hg, rest⟩
      exact hHb.not_row h.row hpt (by rw [e, ← k]; rfl)
  · obtain ⟨D, ⟨es, clock, hm, r⟩, hD⟩ := h.map
    exact ⟨D, ⟨es, clock, (hO.block M (Array.getElem?_eq_some_iff.1 hm).1 hbM).trans hm, r⟩, hD⟩
  · have hil := (List.getElem?_eq_some_iff.1 hb).1
    rw [List.getElem?_set] at hc2
    by_cases e : i = j
    · subst e
      rw [hb] at hb2
      cases hb2
      rw [if_pos rfl, if_pos (by rw [h.cl]; exact hil)] at hc2
      cases hc2
      exact ⟨hlb, hH⟩
    · rw [if_neg e] at hc2
      obtain ⟨hl2, hH2⟩ := h.box j b2 c2 hb2 hc2
      refine ⟨hl2, hH2.of (hO.block b2 hH2.lt (fun k => ?_))⟩
      subst k
      exact e ((List.getElem?_inj hil h.bd).1 (hb.trans hb2.symm))

/-- The world behind add's steps: the map's store, the append, the store of the slice. -/
theorem reg_added {w1 w4 w5 : World} {lo : Nat} {pt tt dt : TypeId} {M : Nat} {v v' : Value} {ns : List ByteArray} {bs : List Nat} {cs : List (Array Value)} (h : Reg w1 lo pt tt M v ns bs cs) {s : ByteArray} {b B off : Nat} {c dc : Array Value}
    (hX : Holds w1 b tt c) (hbn : b ∉ bs) (hlb : lo ≤ b) (hD : Holds w1 B dt dc) (hdp : dt ≠ pt) (hdt : dt ≠ tt) (htp : tt ≠ pt) (hv : dc[off]? = some v) (hc : ns.contains s = false)
    (hm : ∃ D, w4.ownsMap Tryz.prog 9 pElem M (bs.length + 1) D ∧ Keeps D (ns ++ [s]) (bs ++ [b])) (hg4 : w1.grownBy w4 (some M))
    (hr : w5.ownsRow lo pt 1 v' (bs.length + 1) ((bs.map fun b => ptrO (some b)) ++ [ptrO (some b)])) (hg5 : (w4.alloc (.cells #[ptrO (some b)] pt)).grownBy w5 v.ownBlock) (hat : v'.ownBlock = v.ownBlock ∨ v'.ownBlock = some (w4.alloc (.cells #[ptrO (some b)] pt)).heap.size) :
    Reg (w5.setCell ⟨B, off, none⟩ v') lo pt tt M v' (ns ++ [s]) (bs ++ [b]) (cs ++ [c]) ∧ Holds (w5.setCell ⟨B, off, none⟩ v') B dt (dc.setIfInBounds off v') ∧ But (fun k => k = B ∨ k = M ∨ v.ownBlock = some k) w1 (w5.setCell ⟨B, off, none⟩ v') ∧
      (v'.ownBlock = v.ownBlock ∨ ∃ g, v'.ownBlock = some g ∧ w1.heap.size ≤ g) ∧ w5.cell? ⟨B, off, none⟩ = some v ∧ w5.frozen? ⟨B, off, none⟩ = false := by
  have hsz : (w4.alloc (.cells #[ptrO (some b)] pt)).heap.size = w4.heap.size + 1 := by simp
  have h14 := hg4.size
  have hap := h.apart hD hdp hdt
  have hMl := h.lt M (.inl rfl)
  have hBM : B ≠ M := fun e => hap (.inl e)
  have hBv : v.ownBlock ≠ some B := fun e => hap (.inr (.inl e))
  have hMv : v.ownBlock ≠ some M := fun e => by
    obtain ⟨es, clock, hmm⟩ := h.mapAt
    rcases h.row.2 with ⟨e', _⟩ | ⟨g, cap, cur, e', _, hg, _⟩
    · rw [e'] at e; cases e
    · rw [e'] at e
      have : g = M := Option.some.inj e
      subst this
      rw [hg] at hmm; cases hmm
  have eA : ∀ k, k < w4.heap.size → (w4.alloc (.cells #[ptrO (some b)] pt)).heap[k]? = w4.heap[k]? := fun k hk => Below.heap_alloc _ _ _ hk
  have e5 : ∀ k, k < w1.heap.size → k ≠ M → v.ownBlock ≠ some k → w5.heap[k]? = w1.heap[k]? := fun k hk h1 h2 => by
    rw [hg5.block k (by omega) (fun e => h2 e.symm), eA k (by omega), hg4.block k hk (fun e => h1 (Option.some.inj e))]
  have hD5 : Holds w5 B dt dc := hD.of (e5 B hD.lt hBM hBv)
  have hvl : ∀ k, v'.ownBlock = some k → k < w1.heap.size → v.ownBlock = some k := fun k e hk => by
    rcases hat with e' | e'
    · rw [← e', e]
    · rw [e'] at e; have := Option.some.inj e; omega
  have eF : ∀ k, k ≠ B → (w5.setCell ⟨B, off, none⟩ v').heap[k]? = w5.heap[k]? := fun k hk => Below.heap_setCell _ _ _ _ (fun e => hk e)
  have hbx : ∀ (k : Nat) (ck : Array Value), Holds w1 k tt ck → Holds (w5.setCell ⟨B, off, none⟩ v') k tt ck := fun k ck hH => by
    have hkB : k ≠ B := fun e => by
      subst e
      have e := (show w1.heap[k]? = _ from hD).symm.trans (show w1.heap[k]? = _ from hH)
      exact hdt (by injection e with e; injection e)
    have hkM : k ≠ M := fun e => by
      subst e
      obtain ⟨es, clock, hmm⟩ := h.mapAt
      rw [show w1.heap[k]? = _ from hH] at hmm; cases hmm
    exact hH.of ((eF k hkB).trans (e5 k hH.lt hkM (fun e => hH.not_row h.row htp e.symm)))
  refine ⟨⟨?_, ?_, h.hM, ?_, ?_, ?_, ?_, fun i b2 c2 hb2 hc2 => ?_⟩, hD5.set off v', ?_, ?_, hD5.c hv, hD5.frozen off⟩
  · rw [List.map_append, List.length_append]
    refine ownsRow_setCell_other hr (fun e => ?_) _
    exact hBv (hvl B e hD.lt)
  · obtain ⟨D, ⟨es, clock, hb4, r⟩, hK⟩ := hm
    refine ⟨D, ⟨es, clock, ?_, ?_⟩, hK⟩
    · rw [eF M (fun e => hBM e.symm), hg5.block M (by omega) (fun e => hMv e.symm), eA M (by omega)]; exact hb4
    · rw [List.length_append]; exact r
  · rw [List.length_append, List.length_append, h.nl]; rfl
  · rw [List.length_append, List.length_append, h.cl]; rfl
  · rw [List.nodup_append]
    refine ⟨h.nd, by simp, fun a ha b' hb' e => ?_⟩
    have hb2 : b' = s := by simpa using hb'
    subst hb2
    subst e
    have : ns.contains a = true := by simpa using ha
    rw [this] at hc; cases hc
  · rw [List.nodup_append]
    refine ⟨h.bd, by simp, fun a ha b' hb' e => ?_⟩
    have hb2 : b' = b := by simpa using hb'
    subst hb2
    subst e
    exact hbn ha
  · rcases Nat.lt_or_ge i bs.length with hl | hl
    · rw [List.getElem?_append_left hl] at hb2
      rw [List.getElem?_append_left (by rw [h.cl]; exact hl)] at hc2
      obtain ⟨hl2, hH2⟩ := h.box i b2 c2 hb2 hc2
      exact ⟨hl2, hbx b2 c2 hH2⟩
    · rw [List.getElem?_append_right hl] at hb2
      rw [List.getElem?_append_right (by rw [h.cl]; exact hl), h.cl] at hc2
      have h0 : i - bs.length = 0 := by
        rcases Nat.eq_zero_or_pos (i - bs.length) with h0 | h0
        · exact h0
        · rw [List.getElem?_eq_none (by simp; omega)] at hb2; cases hb2
      rw [h0] at hb2 hc2
      have e1 : b = b2 := by simpa using hb2
      have e2 : c = c2 := by simpa using hc2
      subst e1
      subst e2
      exact ⟨hlb, hbx b c hX⟩
  · refine (But.trans (but_of_grown hg4 (fun k e => .inr (.inl (Option.some.inj e).symm))) ?_).trans (but_setCell _ _ _ (.inl rfl))
    have hb : But (fun k => k = B ∨ k = M ∨ v.ownBlock = some k) w4 (w4.alloc (.cells #[ptrO (some b)] pt)) := but_of_below ((Below.refl _ _).alloc (Nat.le_refl _) _)
    exact hb.trans (but_of_grown hg5 (fun k e => .inr (.inr e)))
  · exact hat.imp id (fun e => ⟨_, e, by omega⟩)
/-- One look into the map. -/
theorem wpList_lookup_reg (w : World) {ops : Array Oper} {rest : List Oper} {o : Oper} {a : Act} {Q : Exit → Act → World → Prop}
    (hg : o.guard = none) (m x : Operand) (t vt : TypeId) (hop : o.op = Op.lookup t m x false) (ht : Tryz.prog.underlying t = some (.map 9 vt)) (hz : ∀ w : World, (zeroValue vt).run Tryz.prog w = .ok (.pointer none) w)
    {lo : Nat} {pt tt : TypeId} {v : Value} {cs : List (Array Value)}
    (M : Nat) (ns : List ByteArray) (bs : List Nat) (hm : a.eval m = .map (some M)) (hown : Reg w lo pt tt M v ns bs cs)
    (s : ByteArray) (hx : a.eval x = .string s) (hs : s.size ≤ maxLen)
    (hK : wpList Tryz.prog ops Q rest (a.put o.dst (ptrO bs[ns.idxOf s]?)) w) :
    wpList Tryz.prog ops Q (o :: rest) a w := by
  obtain ⟨D, hD, hKp⟩ := hown.map
  refine wpList_plain hg fun K' hK' => ?_
  obtain ⟨u, ps, hrun, hv⟩ := hD.lookup keyLaw ht (hz w) pElem_none (keyName hs)
  have e1 := hKp.at hown.nl s
  have hu : u = ptrO bs[ns.idxOf s]? := by
    rcases pElem_inv hv with ⟨rfl, e⟩ | ⟨b, rfl, e⟩
    · have e3 : D.atKey (key s) (.lit (.int .i64 (-1))) = .lit (.int .i64 (-1)) := congrArg Prod.fst e
      rw [e3] at e1
      have e2 : (-1 : Int) = atO bs[ns.idxOf s]? := (Lit.int.inj (DataW.lit.inj e1)).2
      cases hb : bs[ns.idxOf s]? with
      | none => rfl
      | some b => rw [hb] at e2; simp only [atO] at e2; omega
    · have e3 : D.atKey (key s) (.lit (.int .i64 (-1))) = .lit (.int .i64 b) := congrArg Prod.fst e
      rw [e3] at e1
      have e2 : (b : Int) = atO bs[ns.idxOf s]? := (Lit.int.inj (DataW.lit.inj e1)).2
      cases hb : bs[ns.idxOf s]? with
      | none => rw [hb] at e2; simp only [atO] at e2; omega
      | some b2 =>
        rw [hb] at e2
        simp only [atO] at e2
        have : b = b2 := by omega
        rw [this]
  subst hu
  unfold Oper.wp
  simp [execOp, hop, hm, hx, hrun, Result.andThen]
  exact hK' _ _ hK
theorem clone_any (s : ByteArray) (w : World) (hs : s.size ≤ 281474976710656) : Calls Tryz.prog 49 #[.string s] w (Says (.string s) w) := by
  have h := Any.stringslite_Clone Tryz.clonL s w hs
  change Calls Tryz.prog 69 _ _ _ at h
  go_enter Tryz.func49, Tryz.ntmps49
  go_wp2_with fail
  refine h.mono ?_
  rintro e w1 ⟨rfl, hB⟩
  go_wp2
  go_ret
  exact ⟨rfl, hB⟩
end Go.Proofs.YtpdbkjnaicjfdaaGreatDoor
