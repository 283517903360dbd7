/- What the texts of state share with those of token, names and operation: bytes, rows, blocks. -/
import Derived.Test.YtpnclppjmgeddaaOpBase
import Derived.Test.YtpnclppjmgeddaaStPlain
import Derived.Test.YtpnclppjmgeddaaWalkQ
import Derived.Test.YtpnclppjmgeddaaWalkF
import Derived.WalkSpells
import Derived.WalkLawsBesides
import Derived.Laws.Externs
import Derived.Laws.OwnMore
import Derived.Laws.BytesArg
import Derived.Laws.StructEq
import Derived.Laws.EntriesVeiled
import Derived.Deep.RegionWith
import Derived.Deep.RegionHeld3
import Derived.Deep.AppendLies
import Derived.Lib.ConvBytes
import Derived.Lib.AppendStr
import Derived.Lib.SlBytesConst
import Derived.RangeFuncBox
import Derived.OwnWalk
import Derived.Maps.AppendAt
import Derived.OneCell
namespace Go.Proofs.Ytpnclppjmgeddaa
open Go.RowKit Go.Maps
set_option linter.unusedVariables false

/-- A slice's address A, of whatever capacity, reads as the bytes l (nil let in). -/
def Bytes (w : World) (A : Option Addr) (l : List Int) : Prop :=
  0 < l.length → ∃ b off, A = some ⟨b, off, none⟩ ∧ b < w.heap.size ∧ ∀ j, j < l.length → w.cell? ⟨b, off + j, none⟩ = some (.int .u8 (l[j]?.getD 0))
theorem Bytes.below {B : Nat} {w w' : World} {A : Option Addr} {l : List Int} (h : Bytes w A l) (hb : Below w.heap.size w w') : Bytes w' A l := fun hl => by
  obtain ⟨b, off, e, hlt, hc⟩ := h hl
  exact ⟨b, off, e, Nat.lt_of_lt_of_le hlt hb.size, fun j hj => (hb.cell (p := ⟨b, off + j, none⟩) hlt).trans (hc j hj)⟩
/-- Bytes that lie below B lie on wherever what lay below B lies on. -/
def BytesB (B : Nat) (w : World) (A : Option Addr) (l : List Int) : Prop :=
  0 < l.length → ∃ b off, A = some ⟨b, off, none⟩ ∧ b < B ∧ ∀ j, j < l.length → w.cell? ⟨b, off + j, none⟩ = some (.int .u8 (l[j]?.getD 0))
theorem BytesB.below {B : Nat} {w w' : World} {A : Option Addr} {l : List Int} (h : BytesB B w A l) (hb : Below B w w') : BytesB B w' A l := fun hl => by
  obtain ⟨b, off, e, hlt, hc⟩ := h hl
  exact ⟨b, off, e, hlt, fun j hj => (hb.cell (p := ⟨b, off + j, none⟩) hlt).trans (hc j hj)⟩
theorem BytesB.mono {B B' : Nat} {w : World} {A : Option Addr} {l : List Int} (h : BytesB B w A l) (hb : B ≤ B') : BytesB B' w A l := fun hl => by
  obtain ⟨b, off, e, hlt, hc⟩ := h hl
  exact ⟨b, off, e, by omega, hc⟩
theorem Bytes.b {w : World} {A : Option Addr} {l : List Int} (h : Bytes w A l) : BytesB w.heap.size w A l := h
def Octets (l : List Int) : Prop := ∀ x ∈ l, 0 ≤ x ∧ x ≤ 255
theorem octet_at {l : List Int} (h : Octets l) (k : Nat) (hk : k < l.length) : 0 ≤ l[k]?.getD 0 ∧ l[k]?.getD 0 ≤ 255 := by
  rw [List.getElem?_eq_getElem hk]; exact h _ (List.getElem_mem hk)
theorem row_below {W W' : World} {base : Nat} {e : TypeId} {size : Nat} {v : Value} {n : Nat} {xs : List Value} (h : W.ownsRow base e size v n xs) (hb : Below W.heap.size W W') : W'.ownsRow base e size v n xs :=
  h.kept (row := none) ⟨hb.os, hb.tape, hb.output, hb.size, fun k hk _ => hb.block k hk⟩ (by
    rcases h.2 with ⟨rfl, _⟩ | ⟨g, cap, cur, rfl, _⟩
    · exact .inl rfl
    · exact .inr (by simp [Value.ownBlock]))
theorem form3 {w : World} {base g n cap m : Nat} {e : TypeId} {v : Value} {xs : List Value} {P : Prop} (h : w.ownsRow base e 1 v m xs) (hn : v = .slice none 0 0 ↔ Value.slice (some ⟨g, 0, none⟩) n cap = .slice none 0 0 ∧ P) : ∃ g' cap', v = .slice (some ⟨g', 0, none⟩) m cap' := by
  rcases h.2 with ⟨e', _⟩ | ⟨g', cap', cur, e', _⟩
  · have := (hn.1 e').1
    cases this
  · exact ⟨g', cap', e'⟩
theorem bytes_new (w : World) (l : List Int) (t : TypeId) (cs : Array Value) (fr : Nat × Nat) (h : cs = (l.map (Value.int .u8)).toArray) : Bytes (w.alloc (.cells cs t fr)) (some ⟨w.heap.size, 0, none⟩) l := by
  subst h
  intro hl
  refine ⟨w.heap.size, 0, rfl, by simp, fun j hj => ?_⟩
  rw [Nat.zero_add, World.cell?_alloc_mark]
  simp [List.getElem?_eq_getElem hj]
theorem info_parts {P : Program} {t : TypeId} {z : Option Value} {n b : Nat} (h : (P.info? t).map (fun i => (i.zero, i.size, i.bytes)) = some (z, n, b)) : ∃ i, P.info? t = some i ∧ i.zero = z ∧ i.size = n ∧ i.bytes = b := by
  cases hi : P.info? t with
  | none => rw [hi] at h; cases h
  | some i =>
    rw [hi] at h
    simp only [Option.map_some, Option.some.injEq, Prod.mk.injEq] at h
    exact ⟨i, rfl, h.1, h.2.1, h.2.2⟩
/-- Block B holds these cells, and is the program's own. -/
def Holds (W : World) (B : Nat) (t : TypeId) (cs : Array Value) : Prop := W.heap[B]? = some (.cells cs t (0, 0))
theorem Holds.lt {W : World} {B : Nat} {t : TypeId} {cs : Array Value} (h : Holds W B t cs) : B < W.heap.size := (Array.getElem?_eq_some_iff.1 h).1
theorem Holds.c {W : World} {B : Nat} {t : TypeId} {cs : Array Value} (h : Holds W B t cs) {j : Nat} {v : Value} (hj : cs[j]? = some v) : W.cell? ⟨B, j, none⟩ = some v := by simp [World.cell?, show W.heap[B]? = _ from h, hj]
theorem Holds.frozen {W : World} {B : Nat} {t : TypeId} {cs : Array Value} (h : Holds W B t cs) (j : Nat) : W.frozen? ⟨B, j, none⟩ = false := by simp [World.frozen?, show W.heap[B]? = _ from h]
theorem Holds.new (W : World) (t : TypeId) (cs : Array Value) : Holds (W.alloc (.cells cs t)) W.heap.size t cs := World.alloc_heap_new W _
theorem Holds.alloc {W : World} {B : Nat} {t : TypeId} {cs : Array Value} (h : Holds W B t cs) (o : Obj) : Holds (W.alloc o) B t cs := (Below.heap_alloc W o B h.lt).trans h
theorem Holds.of {W W' : World} {B : Nat} {t : TypeId} {cs : Array Value} (h : Holds W B t cs) (e : W'.heap[B]? = W.heap[B]?) : Holds W' B t cs := e.trans h
theorem Holds.below {W W' : World} {B n : Nat} {t : TypeId} {cs : Array Value} (h : Holds W B t cs) (hb : Below n W W') (hl : B < n) : Holds W' B t cs := h.of (hb.block B hl)
theorem Holds.not_row {W : World} {B : Nat} {t : TypeId} {cs : Array Value} (h : Holds W B t cs) {base : Nat} {e : TypeId} {size : Nat} {v : Value} {n : Nat} {xs : List Value} (hr : W.ownsRow base e size v n xs) (hne : t ≠ e) : some B ≠ v.ownBlock := by
  rcases hr.2 with ⟨rfl, _⟩ | ⟨g, cap, cur, rfl, _, hg, _⟩
  · simp [Value.ownBlock]
  · intro eq
    obtain rfl : B = g := by simpa [Value.ownBlock] using eq
    rw [show W.heap[B]? = _ from h] at hg
    simp at hg
    exact hne hg.2
theorem Holds.kept {W W' : World} {B : Nat} {t : TypeId} {cs : Array Value} (h : Holds W B t cs) {row : Option Nat} (hg : W.grownBy W' row) (hne : some B ≠ row) : Holds W' B t cs := h.of (hg.block B h.lt hne)
/-- But for block B the world is as it was. -/
structure Only (B : Nat) (w w' : World) : Prop where
  os : w'.os = w.os
  tape : w'.tape = w.tape
  output : w'.output = w.output
  size : w.heap.size ≤ w'.heap.size
  block : ∀ k, k < w.heap.size → k ≠ B → w'.heap[k]? = w.heap[k]?
theorem Only.of {B n : Nat} {w w' : World} (h : Below n w w') (hn : w.heap.size ≤ n) : Only B w w' := ⟨h.os, h.tape, h.output, h.size, fun k hk _ => h.block k (by omega)⟩
theorem Only.set {B : Nat} {w w' : World} (h : Only B w w') (off : Nat) (u : Value) : Only B w (w'.setCell ⟨B, off, none⟩ u) :=
  ⟨h.os, h.tape, h.output, by have := h.size; simpa [World.setCell] using this, fun k hk hF => (Below.heap_setCell _ _ _ _ hF).trans (h.block k hk hF)⟩
theorem Only.below {B lo : Nat} {w w' : World} (h : Only B w w') (hlo : lo ≤ B) (hle : lo ≤ w.heap.size) : Below lo w w' := ⟨h.os, h.tape, h.output, h.size, fun k hk => h.block k (by omega) (by omega)⟩
theorem Only.then {B : Nat} {a b c : World} (h : Only B a b) (k : Only B b c) : Only B a c :=
  ⟨k.os.trans h.os, k.tape.trans h.tape, k.output.trans h.output, Nat.le_trans h.size k.size, fun i hi hF => (k.block i (Nat.lt_of_lt_of_le hi h.size) hF).trans (h.block i hi hF)⟩
theorem Only.grown {B : Nat} {w w' : World} (h : Only B w w') : w.grownBy w' (some B) := ⟨h.os, h.tape, h.output, h.size, fun k hk hF => h.block k hk (fun e => hF (by rw [e]))⟩
theorem Holds.set {W : World} {B : Nat} {t : TypeId} {cs : Array Value} (h : Holds W B t cs) (off : Nat) (u : Value) : Holds (W.setCell ⟨B, off, none⟩ u) B t (cs.setIfInBounds off u) := heap_setCell_same W B off cs t u h
theorem add_flat (b off j : Nat) : (⟨b, off, none⟩ : Addr).add j = ⟨b, off + j, none⟩ := by unfold Addr.add; split <;> simp_all
theorem cell_four_new (W : World) (t : TypeId) (a b c d : Value) : ∀ j u, [a, b, c, d][j]? = some u → (W.alloc (.cells #[a, b, c, d] t)).cell? ((⟨W.heap.size, 0, none⟩ : Addr).add j) = some u := by
  intro j u h
  match j with
  | 0 => simp at h; subst h; simp [Addr.add, World.cell?_alloc_new]
  | 1 => simp at h; subst h; simp [Addr.add, World.cell?_alloc_new]
  | 2 => simp at h; subst h; simp [Addr.add, World.cell?_alloc_new]
  | 3 => simp at h; subst h; simp [Addr.add, World.cell?_alloc_new]
  | j + 4 => simp at h
theorem bytes_src {w : World} {ad : Addr} {bs : List Int} (hA : Bytes w (some ad) bs) : ∀ j u, (bytesOf bs)[j]? = some u → (w.alloc (.cells #[] 5)).cell? (ad.add j) = some u := by
  intro j u hu
  have hj : j < bs.length := by
    rcases Nat.lt_or_ge j bs.length with h | h
    · exact h
    · rw [List.getElem?_eq_none (by simp [bytesOf]; omega)] at hu; cases hu
  obtain ⟨b, off, e, hb, hc⟩ := hA (by omega)
  injection e with e
  subst e
  rw [add_flat, World.cell?_alloc_lt _ _ _ hb, hc j hj]
  simp [bytesOf, List.getElem?_eq_getElem hj] at hu ⊢
  exact hu
theorem bytes_none {w : World} {bs : List Int} (hA : Bytes w none bs) : bs = [] := by
  cases bs with
  | nil => rfl
  | cons x r => obtain ⟨b, off, e, _⟩ := hA (by simp); cases e
theorem row_cap {W : World} {base : Nat} {e : TypeId} {size g n cap : Nat} {xs : List Value} (h : W.ownsRow base e size (.slice (some ⟨g, 0, none⟩) n cap) n xs) : n ≤ cap := by
  rcases h.2 with ⟨e', _⟩ | ⟨g', cap', cur, e', _, _, hn, _⟩
  · cases e'
  · cases e'; exact hn
theorem bytes_row {W : World} {base g n cap : Nat} {l : List Int} (h : W.ownsRow base 5 1 (.slice (some ⟨g, 0, none⟩) n cap) n (bytesOf l)) (a k : Nat) (hk : a + k ≤ n) : BytesB W.heap.size W (some ⟨g, a, none⟩) ((l.drop a).take k) := by
  have hl : l.length = n := by have := h.1; simpa [bytesOf] using this
  intro hp
  rw [List.length_take, List.length_drop] at hp
  refine ⟨g, a, rfl, (h.lt g rfl).2, fun j hj => ?_⟩
  rw [List.length_take, List.length_drop] at hj
  rw [h.cellAt (a + j) (by omega), bytesOf, List.getElem?_map, List.getElem?_take, if_pos (by omega), List.getElem?_drop, List.getElem?_eq_getElem (by omega)]
  rfl
end Go.Proofs.Ytpnclppjmgeddaa
