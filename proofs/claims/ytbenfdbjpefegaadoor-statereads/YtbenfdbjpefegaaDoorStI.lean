/- A text that grows: a row of bytes of the call's own, be it a conversion's; 'append(text, s...)'. -/
import Derived.Test.YtbenfdbjpefegaaDoorStC
import Derived.Lib.ConvBytes
namespace Go.Proofs.YtbenfdbjpefegaaDoor
open Go.RowKit Go.Maps
set_option linter.unusedVariables false

def u8s (bs : List UInt8) : List Value := bs.map fun b => Value.int .u8 b.toNat
theorem strCells_u8 (s : ByteArray) : Lib.strCells s = u8s s.data.toList := by simp [Lib.strCells, u8s]
theorem u8s_append (a b : List UInt8) : u8s (a ++ b) = u8s a ++ u8s b := by simp [u8s]
theorem u8s_len (a : List UInt8) : (u8s a).length = a.length := by simp [u8s]

/-- A slice of bytes that lies in a block of the call's own, of whose places none is marked. -/
def Txt (w : World) (base : Nat) (v : Value) (bs : List UInt8) : Prop :=
  ∃ g cap cur fz, v = .slice (some ⟨g, 0, none⟩) bs.length cap ∧ base ≤ g ∧ w.heap[g]? = some (.cells cur 5 fz) ∧ (fz.2 = 0 ∨ cur.size ≤ fz.1) ∧ bs.length ≤ cap ∧ cap ≤ maxLen ∧ cur.size = cap ∧ cur.toList.take bs.length = u8s bs

theorem Txt.kept {w w' : World} {base : Nat} {v : Value} {bs : List UInt8} {row : Option Nat} (h : Txt w base v bs) (hg : w.grownBy w' row) (hne : v.ownBlock ≠ row) : Txt w' base v bs := by
  obtain ⟨g, cap, cur, fz, rfl, h1, h2, h3⟩ := h
  exact ⟨g, cap, cur, fz, rfl, h1, (hg.block g (Array.getElem?_eq_some_iff.1 h2).1 (fun e => hne e)).trans h2, h3⟩
theorem Txt.below {w w' : World} {base : Nat} {v : Value} {bs : List UInt8} (h : Txt w base v bs) (hb : Below w.heap.size w w') : Txt w' base v bs := by
  obtain ⟨g, cap, cur, fz, rfl, h1, h2, h3⟩ := h
  exact ⟨g, cap, cur, fz, rfl, h1, (hb.block g (Array.getElem?_eq_some_iff.1 h2).1).trans h2, h3⟩
theorem Txt.lt {w : World} {base : Nat} {v : Value} {bs : List UInt8} (h : Txt w base v bs) : ∀ k, v.ownBlock = some k → base ≤ k ∧ k < w.heap.size := by
  obtain ⟨g, cap, cur, fz, rfl, h1, h2, h3⟩ := h
  intro k hk
  obtain rfl : g = k := Option.some.inj hk
  exact ⟨h1, (Array.getElem?_eq_some_iff.1 h2).1⟩
theorem Txt.cellsAt {w : World} {base g cap : Nat} {bs : List UInt8} (h : Txt w base (.slice (some ⟨g, 0, none⟩) bs.length cap) bs) {j : Nat} (hj : j < bs.length) : w.cell? ⟨g, j, none⟩ = some (.int .u8 (bs[j]).toNat) := by
  obtain ⟨g', cap', cur, fz, e, h1, h2, _, _, _, _, h3⟩ := h
  cases e
  rw [cell_of_row w g j cur _ fz h2]
  have : (cur.toList.take bs.length)[j]? = (u8s bs)[j]? := by rw [h3]
  rw [List.getElem?_take, if_pos hj, Array.getElem?_toList] at this
  rw [this]; simp [u8s, hj]

/-- Cells laid one behind the other from place k on. -/
def laidC (cur : Array Value) (k : Nat) : List Value → Array Value
  | [] => cur
  | v :: r => laidC (cur.setIfInBounds k v) (k + 1) r
theorem laidC_size : ∀ (vs : List Value) (cur : Array Value) (k : Nat), (laidC cur k vs).size = cur.size
  | [], _, _ => rfl
  | v :: r, cur, k => by unfold laidC; rw [laidC_size r]; simp
theorem laidC_take : ∀ (vs : List Value) (cur : Array Value) (k : Nat), k + vs.length ≤ cur.size → (laidC cur k vs).toList.take (k + vs.length) = cur.toList.take k ++ vs
  | [], cur, k, _ => by simp [laidC]
  | v :: r, cur, k, h => by
    have hk : k < cur.size := by simp at h; omega
    have ih := laidC_take r (cur.setIfInBounds k v) (k + 1) (by simp at h ⊢; omega)
    unfold laidC
    rw [show k + (v :: r).length = k + 1 + r.length by simp; omega, ih]
    have : (cur.setIfInBounds k v).toList.take (k + 1) = cur.toList.take k ++ [v] := by
      rw [List.take_succ_eq_append_getElem (by simpa using hk)]
      simp [Array.toList_setIfInBounds, List.take_set]
      exact List.set_eq_of_length_le (by rw [List.length_take]; omega)
    rw [this]; simp

theorem stores_run (P : Program) (g o : Nat) (t : TypeId) (fz : Nat × Nat) : ∀ (vs : List Value) (i : Nat) (cur : Array Value) (w : World), w.heap[g]? = some (.cells cur t fz) → (fz.2 = 0 ∨ cur.size ≤ fz.1) → o + i + vs.length ≤ cur.size → (∀ v ∈ vs, v.oneCell' = true) →
    (storeCells ⟨g, o, none⟩ vs i).run P w = .ok () (w.setRow g (laidC cur (o + i) vs))
  | [], i, cur, w, hg, _, _, _ => by
    rw [laidC, setRow_self w g cur t fz hg]; rfl
  | v :: r, i, cur, w, hg, hf, hl, h1 => by
    have hk : o + i < cur.size := by simp at hl; omega
    have e1 : (⟨g, o, none⟩ : Addr).add i = ⟨g, o + i, none⟩ := add_flat g o i
    have hc : w.cell? ⟨g, o + i, none⟩ = some cur[o + i] := by rw [cell_of_row w g _ cur t fz hg]; simp [hk]
    have hz : w.frozen? ⟨g, o + i, none⟩ = false := by
      obtain ⟨a, b⟩ := fz
      simp only [World.frozen?, hg, Bool.and_eq_false_iff, decide_eq_false_iff_not]
      simp only at hf
      omega
    have hs : (store ((⟨g, o, none⟩ : Addr).add i) v).run P w = .ok () (w.setRow g (cur.setIfInBounds (o + i) v)) := by
      rw [e1, run_store P w _ v _ (h1 v (by simp)), hc]
      simp [hz, setCell_eq_setRow w g (o + i) cur t fz v hg]
    have ih := stores_run P g o t fz r (i + 1) (cur.setIfInBounds (o + i) v) (w.setRow g (cur.setIfInBounds (o + i) v)) (setRow_heap w g cur _ t _ hg) (by simpa using hf) (by simp at hl ⊢; omega) (fun x hx => h1 x (by simp [hx]))
    simp only [storeCells, Sem.run_bind, hs, Result.andThen_ok, ih, setRow_setRow, laidC, Nat.add_assoc]

theorem txt_append (w : World) (base : Nat) (v : Value) (bs : List UInt8) (ty : TypeId) (s : ByteArray) (h : Txt w base v bs) (hb : base ≤ w.heap.size) (hm : bs.length ≤ 1000000) (hs : s.size ≤ 1000000) :
    ∃ v' w', (Builtin.append_ #[27, 9] ty #[v, .string s]).run Tryd.prog w = .ok v' w' ∧ Txt w' base v' (bs ++ s.data.toList) ∧ w.grownBy w' v.ownBlock ∧ (v'.ownBlock = v.ownBlock ∨ v'.ownBlock = some w.heap.size) := by
  obtain ⟨i0, hi, hz0, hz1, hz2⟩ := info_parts info_u8
  have h0 := h
  obtain ⟨g, cap, cur, fz, rfl, hg1, hg2, hf, hc1, hc2, hcs, htk⟩ := h
  have hlen : (bs ++ s.data.toList).length = bs.length + s.size := by rw [List.length_append, bytes_len]
  by_cases hroom : bs.length + s.size ≤ cap
  · have hfirst := Lib.run_firstCells_string (P := Tryd.prog) w 1 s
    have hst := stores_run Tryd.prog g bs.length 5 fz (Lib.strCells s) 0 cur w hg2 hf (by rw [Lib.strCells_length]; omega) (Lib.strCells_oneCell s)
    rw [Nat.add_zero] at hst
    refine ⟨.slice (some ⟨g, 0, none⟩) (bs.length + s.size) cap, w.setRow g (laidC cur bs.length (Lib.strCells s)), ?_, ?_, ?_, .inl rfl⟩
    · simp [Builtin.append_, run_underlying Tryd.underlying27, run_underlying Tryd.underlying9, sizeOf, typeInfo, hi, hz1, Builtin.lenOf, hroom, hfirst, Addr.add_lit, hst]
    · refine ⟨g, cap, _, fz, by rw [hlen], hg1, setRow_heap w g cur _ _ _ hg2, by rw [laidC_size]; exact hf, by omega, hc2, by rw [laidC_size]; exact hcs, ?_⟩
      have := laidC_take (Lib.strCells s) cur bs.length (by rw [Lib.strCells_length]; omega)
      rw [Lib.strCells_length] at this
      rw [hlen, this, htk, u8s_append, strCells_u8]
    · exact ⟨rfl, rfl, rfl, by simp [World.setRow], fun k _ hk => setRow_other w g k _ (fun e => hk (by simp [Value.ownBlock, e]))⟩
  · have hold : ∀ j u, (u8s bs)[j]? = some u → w.cell? ((⟨g, 0, none⟩ : Addr).add j) = some u := fun j u hu => by
      rw [add_flat, Nat.zero_add]
      have hj : j < bs.length := by rw [← u8s_len bs]; exact (List.getElem?_eq_some_iff.1 hu).1
      rw [h0.cellsAt hj]; simpa [u8s, hj] using hu
    have hr := Lib.run_append_grow_string (P := Tryd.prog) w 27 9 ty 5 i0 (.int .u8 0) Tryd.underlying27 Tryd.underlying9 hi hz0 ⟨g, 0, none⟩ bs.length cap (u8s bs) (by rw [hz1, u8s_len]; omega) hold s (by omega) (by omega) (by rw [hz2]; exact growslice_fits (by omega) (by omega))
    have hge := grownCap_ge w (bs.length + s.size) cap 5
    have hle := grownCap_le_maxLen w (bs.length + s.size) cap 5 (by unfold maxLen; omega)
    refine ⟨_, _, hr, ⟨w.heap.size, _, _, (0, 0), by rw [hlen], hb, heap_alloc_new w.drew _, .inl rfl, by rw [hlen]; exact hge, hle, ?_, ?_⟩, ⟨rfl, rfl, rfl, by simp, fun k hk _ => Below.heap_alloc w.drew _ k hk⟩, .inr rfl⟩
    · have hz : (Value.int IntKind.u8 0).cells.size = 1 := rfl
      simp only [Array.size_append, List.size_toArray, size_zeroCells, hz, u8s_len, Lib.strCells_length]
      omega
    · rw [hlen, u8s_append, ← strCells_u8]
      simp only [Array.toList_append, List.append_assoc]
      rw [← List.append_assoc, show bs.length + s.size = (u8s bs ++ Lib.strCells s).length by rw [List.length_append, u8s_len, Lib.strCells_length]]
      exact List.take_left

theorem wpList_txt (w : World) {ops : Array Oper} {rest : List Oper} {o : Oper} {a : Act} {Q : Exit → Act → World → Prop} (hgd : o.guard = none) (sl x : Operand)
    (ho : o.op = .call { callee := .builtin .append, args := #[sl, x], argTypes := #[27, 9] }) (base : Nat) (v : Value) (bs : List UInt8) (hs : a.eval sl = v) (h : Txt w base v bs) (s : ByteArray) (hx : a.eval x = .string s)
    (hb : base ≤ w.heap.size) (hm : bs.length ≤ 1000000) (hm2 : s.size ≤ 1000000)
    (hK : ∀ v' w', Txt w' base v' (bs ++ s.data.toList) → w.grownBy w' v.ownBlock → (v'.ownBlock = v.ownBlock ∨ v'.ownBlock = some w.heap.size) → wpList Tryd.prog ops Q rest (a.put o.dst v') w') : wpList Tryd.prog ops Q (o :: rest) a w := by
  refine wpList_plain hgd fun K hK' => ?_
  obtain ⟨v', w', hr, h2, h3, h4⟩ := txt_append w base v bs o.type s h hb hm hm2
  unfold Oper.wp execOp
  simp only [ho, resolve, invoke, builtin, Sem.run_bind, Sem.run_pure, Result.andThen_ok, List.map_toArray, List.map_cons, List.map_nil, hs, hx, hr]
  exact hK' _ _ (hK v' w' h2 h3 h4)

theorem Txt.form {w : World} {base : Nat} {v : Value} {bs : List UInt8} (h : Txt w base v bs) : ∃ g cap, v = .slice (some ⟨g, 0, none⟩) bs.length cap := by
  obtain ⟨g, cap, _, _, e, _⟩ := h
  exact ⟨g, cap, e⟩
theorem txt_conv (w : World) (s : ByteArray) (base : Nat) (hb : base ≤ w.heap.size) (hs : s.size ≤ 1000) :
    ∃ c, (∀ src u, Tryd.prog.underlying src = some u → (convert src 27 (.string s)).run Tryd.prog w = .ok (.slice (some ⟨w.heap.size, 0, none⟩) s.size c) (Lib.bytesWorld w 5 s)) ∧ Txt (Lib.bytesWorld w 5 s) base (.slice (some ⟨w.heap.size, 0, none⟩) s.size c) s.data.toList ∧ Below w.heap.size w (Lib.bytesWorld w 5 s) := by
  have hge := grownCap_ge w s.size 0 5
  have hle := grownCap_le_maxLen w s.size 0 5 (by unfold maxLen; omega)
  refine ⟨grownCap w s.size 0 5, fun src u hu => Lib.run_convert_string_bytes w src 27 5 s hu Tryd.underlying27 Tryd.underlying5, ?_, ?_⟩
  · refine ⟨w.heap.size, _, _, _, by rw [bytes_len], hb, Lib.bytesWorld_at_new w _ s, .inr (Nat.le_refl _), by rw [bytes_len]; exact hge, hle, ?_, ?_⟩
    · simp only [Lib.bytesCells, Array.size_append, Array.size_map, Array.size_replicate]
      have : s.data.size = s.size := rfl
      omega
    · simp only [Lib.bytesCells, Array.toList_append, Array.toList_map, Array.toList_replicate]
      rw [show s.data.toList.length = (s.data.toList.map fun b => Value.int .u8 b.toNat).length by simp]
      exact List.take_left
  · refine ⟨rfl, rfl, rfl, by rw [Lib.bytesWorld_size]; omega, fun k hk => Lib.bytesWorld_at_old w _ s k hk⟩
theorem Txt.bytes {w : World} {base g cap : Nat} {bs : List UInt8} (h : Txt w base (.slice (some ⟨g, 0, none⟩) bs.length cap) bs) : BytesB w.heap.size w (some ⟨g, 0, none⟩) (bs.map fun b => (b.toNat : Int)) := fun hl => by
  refine ⟨g, 0, rfl, (h.lt g rfl).2, fun j hj => ?_⟩
  rw [List.length_map] at hj
  rw [Nat.zero_add, h.cellsAt hj]; simp [hj]
theorem str_of (bs : List UInt8) : strOfNums (bs.map fun b => (b.toNat : Int)) = ⟨bs.toArray⟩ := by
  unfold strOfNums
  congr 1
  apply Array.ext'
  simp only [List.map_map]
  refine Eq.trans (List.map_congr_left (g := id) fun b _ => ?_) (List.map_id bs)
  simp
end Go.Proofs.YtbenfdbjpefegaaDoor
