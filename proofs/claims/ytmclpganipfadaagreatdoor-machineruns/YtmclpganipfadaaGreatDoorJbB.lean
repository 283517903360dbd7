/- Texts of earlier stages over this seat, joined: StPlain StBase StA StB StC StR StV StQ. -/
import Derived.Test.YtmclpganipfadaaGreatDoorJbA
import Derived.WalkSpells
import Derived.WalkLawsBesides
import Derived.Laws.Externs
import Derived.Laws.OwnMore
import Derived.Laws.BytesArg
import Derived.Laws.StructEq
import Derived.Laws.EntriesVeiled
import Derived.Deep.RegionWith
import Derived.Deep.RegionHeld3
import Derived.Deep.AppendLies
import Derived.Lib.ConvBytes
import Derived.Lib.AppendStr
import Derived.Lib.SlBytesConst
import Derived.RangeFuncBox
import Derived.OwnWalk
import Derived.Maps.AppendAt
import Derived.OneCell
import Derived.Shelf.Abstract
import Derived.ProofKit
import Derived.OpenShut
import Derived.ChangeOld
import Derived.Deep.Strs
set_option maxRecDepth 100000
namespace Go.Proofs.YtmclpganipfadaaGreatDoor
open Go.RowKit
set_option linter.unusedVariables false

theorem all_range_succ (p : Nat → Bool) (k : Nat) : (List.range (k + 1)).all p = ((List.range k).all p && p k) := by
  rw [List.range_succ, List.all_append]; simp

/-- Do the first k steps of l, s apart, rise? -/
def riseTo (s : Nat) (l : List Int) (k : Nat) : Bool := (List.range k).all fun j => decide (l.length ≤ (j + 1) * s) || decide (l[j * s]?.getD 0 < l[(j + 1) * s]?.getD 0)
def riseB (s : Nat) (l : List Int) : Bool := riseTo s l l.length

theorem rise_step {s : Nat} {l : List Int} {k : Nat} (h : riseTo s l k = true) (h1 : l[k * s]?.getD 0 < l[(k + 1) * s]?.getD 0) : riseTo s l (k + 1) = true := by
  unfold riseTo at h ⊢
  rw [all_range_succ, h]; simp [h1]
theorem rise_end {s : Nat} {l : List Int} {k : Nat} (h : riseTo s l k = true) (h1 : l.length ≤ (k + 1) * s) : riseB s l = true := by
  unfold riseB riseTo at *
  rw [List.all_eq_true] at h ⊢
  intro j hj
  by_cases hk : j < k
  · exact h j (List.mem_range.2 hk)
  · have : (k + 1) * s ≤ (j + 1) * s := Nat.mul_le_mul_right s (by omega)
    simp [show l.length ≤ (j + 1) * s by omega]
theorem rise_no {s : Nat} {l : List Int} {k : Nat} (hs : 1 ≤ s) (h1 : (k + 1) * s < l.length) (h2 : l[(k + 1) * s]?.getD 0 ≤ l[k * s]?.getD 0) : riseB s l = false := by
  unfold riseB riseTo
  rw [List.all_eq_false]
  have hle : (k + 1) * 1 ≤ (k + 1) * s := Nat.mul_le_mul_left _ hs
  refine ⟨k, List.mem_range.2 (by omega), ?_⟩
  simp [show ¬ l.length ≤ (k + 1) * s by omega, Int.not_lt.2 h2]

def fitsB (t n : Int) (l : List Int) : Bool :=
  if t = 1 then decide (l.length = 0)
  else if t = 2 then (n == 0) && riseB 1 l
  else if t = 3 then (n == 0) && decide (l.length % 2 = 0) && riseB 2 l
  else if t = 4 then (n == 0)
  else decide (l.length = 0) && decide (0 ≤ n) && decide (n ≤ 4611686018427387904)
def checkE (t n : Int) (l : List Int) : Int := if t < 1 ∨ 5 < t then 8 else if fitsB t n l = true then 0 else 5
theorem check_type {t n : Int} {l : List Int} (h : t < 1 ∨ 5 < t) : checkE t n l = 8 := by unfold checkE; rw [if_pos h]
theorem check_in {t n : Int} {l : List Int} (h : ¬ (t < 1 ∨ 5 < t)) : checkE t n l = if fitsB t n l = true then 0 else 5 := by unfold checkE; rw [if_neg h]
theorem check_ok {t n : Int} {l : List Int} (h : checkE t n l = 0) : 1 ≤ t ∧ t ≤ 5 ∧ fitsB t n l = true := by
  unfold checkE at h
  split at h
  · cases h
  · split at h
    · next h1 h2 => exact ⟨by omega, by omega, h2⟩
    · cases h
theorem check_cases (t n : Int) (l : List Int) : checkE t n l = 0 ∨ checkE t n l = 5 ∨ checkE t n l = 8 := by
  unfold checkE; split
  · exact .inr (.inr rfl)
  · split
    · exact .inl rfl
    · exact .inr (.inl rfl)

def wordB : Nat → ByteArray
  | 1 => ⟨#[99, 111, 117, 110, 116, 101, 114]⟩
  | 2 => ⟨#[115, 101, 116]⟩
  | 3 => ⟨#[109, 97, 112]⟩
  | 4 => ⟨#[113, 117, 101, 117, 101]⟩
  | 5 => ⟨#[101, 115, 99, 114, 111, 119]⟩
  | _ => ⟨#[]⟩
def wordL (t : Nat) : List UInt8 := (wordB t).data.toList
/-- The type of a word; 0, if it is none's. -/
def typeL (l : List UInt8) : Nat := if l = wordL 1 then 1 else if l = wordL 2 then 2 else if l = wordL 3 then 3 else if l = wordL 4 then 4 else if l = wordL 5 then 5 else 0

/-- The k-th of s bytes of n, the highest first. -/
def beB (s : Nat) (n : Int) (k : Nat) : Int := n / 256 ^ (s - 1 - k) % 256
def be (s : Nat) (n : Int) : List Int := (List.range s).map (beB s n)
def encL (t n : Int) (l : List Int) : List Int := be 1 t ++ be 8 n ++ be 4 l.length ++ l.flatMap (be 8)
theorem be_len (s : Nat) (n : Int) : (be s n).length = s := by simp [be]
theorem be_take {s k : Nat} (n : Int) (h : k < s) : (be s n).take (k + 1) = (be s n).take k ++ [beB s n k] := by
  rw [List.take_succ_eq_append_getElem (by rw [be_len]; exact h)]; simp [be]
theorem flat_len (l : List Int) : (l.flatMap (be 8)).length = 8 * l.length := by
  induction l with
  | nil => rfl
  | cons x r ih => rw [List.flatMap_cons, List.length_append, ih, be_len, List.length_cons]; omega
theorem enc_len (t n : Int) (l : List Int) : (encL t n l).length = 13 + 8 * l.length := by
  unfold encL; rw [List.length_append, List.length_append, List.length_append, be_len, be_len, be_len, flat_len]

def unN (l : List Int) : Int := l.foldl (fun m x => m * 256 + x) 0
theorem un_snoc (l : List Int) (x : Int) : unN (l ++ [x]) = unN l * 256 + x := by simp [unN]
theorem unF_bd : ∀ (l : List Int) (m : Int), 0 ≤ m → (∀ x ∈ l, 0 ≤ x ∧ x ≤ 255) → 0 ≤ l.foldl (fun m x => m * 256 + x) m ∧ l.foldl (fun m x => m * 256 + x) m + 1 ≤ (m + 1) * 256 ^ l.length
  | [], m, hm, _ => by simp; exact hm
  | x :: r, m, hm, h => by
    obtain ⟨h1, h2⟩ := h x (by simp)
    have ih := unF_bd r (m * 256 + x) (by omega) (fun y hy => h y (List.mem_cons_of_mem _ hy))
    refine ⟨ih.1, Int.le_trans ih.2 ?_⟩
    rw [List.length_cons, Int.pow_succ, Int.mul_comm (256 ^ r.length) 256, ← Int.mul_assoc]
    exact Int.mul_le_mul_of_nonneg_right (by omega) (Int.pow_nonneg (by omega))
theorem un_bd (l : List Int) (h : ∀ x ∈ l, 0 ≤ x ∧ x ≤ 255) : 0 ≤ unN l ∧ unN l < 256 ^ l.length := by
  have := unF_bd l 0 (by omega) h
  unfold unN
  exact ⟨this.1, by have := this.2; omega⟩
def numAt (b : List Int) (at' k : Nat) : Int := wrap64 (unN ((b.drop at').take k))
def measB (b : List Int) : Bool := decide (13 ≤ b.length) && decide ((b.length : Int) - 13 = 8 * numAt b 9 4)
def decT (b : List Int) : Int := numAt b 0 1
def decN (b : List Int) : Int := numAt b 1 8
def decTo (b : List Int) (k : Nat) : List Int := (List.range k).map fun i => numAt b (13 + 8 * i) 8
def decL (b : List Int) : List Int := decTo b ((b.length - 13) / 8)
def decOk (b : List Int) : Bool := measB b && (checkE (decT b) (decN b) (decL b) == 0)
def decE (b : List Int) : Int := if decOk b = true then 0 else 5
theorem decTo_succ (b : List Int) (k : Nat) : decTo b (k + 1) = decTo b k ++ [numAt b (13 + 8 * k) 8] := by
  unfold decTo; rw [List.range_succ, List.map_append]; rfl
theorem decTo_len (b : List Int) (k : Nat) : (decTo b k).length = k := by simp [decTo]

def singB (t : Int) : Bool := (t == 1) || (t == 5)
def txtOf (l : List Int) : List UInt8 := l.flatMap fun x => 32 :: putL x
def numsOf (t n : Int) (l : List Int) : List Int := if singB t = true then [n] else l
def txtL (t n : Int) (l : List Int) : List UInt8 := wordL t.toNat ++ txtOf (numsOf t n l)
theorem txtOf_take {l : List Int} {k : Nat} (h : k < l.length) : txtOf (l.take (k + 1)) = txtOf (l.take k) ++ (32 :: putL (l[k]?.getD 0)) := by
  unfold txtOf
  rw [List.take_succ_eq_append_getElem h, List.flatMap_append, List.getElem?_eq_getElem h]
  simp

def partL (s : List UInt8) : List UInt8 := s.takeWhile (· != 32)
theorem part_le (s : List UInt8) : (partL s).length ≤ s.length := takeWhile_le _ _
/-- The numbers of the parts from here on (each behind a space), or what is wrong and where. -/
def behindL : Nat → List UInt8 → Nat → List Int → List Int × Int × Int
  | 0, _, _, acc => (acc, 0, 0)
  | _ + 1, [], _, acc => (acc, 0, 0)
  | f + 1, _ :: r, k, acc => if getE (partL r) = 0 then behindL f (r.drop (partL r).length) (k + 1 + (partL r).length) (acc ++ [getN (partL r)]) else ([], getE (partL r), (k : Int) + 1 + getP (partL r))
def behindR (s : List UInt8) (k : Nat) : List Int × Int × Int := behindL (s.length + 1) (s.drop k) k []

abbrev St := Int × Int × List Int
def st0 : St := (0, 0, [])
/-- The state that a type and numbers make, and whether it is one in its form. -/
def ofNums (t : Int) (l : List Int) : St × Bool :=
  if singB t = true then (if l.length = 1 then ((t, l[0]?.getD 0, []), checkE t (l[0]?.getD 0) [] == 0) else (st0, false))
  else ((t, 0, l), checkE t 0 l == 0)
def readL (s : List UInt8) : St × Int × Int :=
  if typeL (partL s) = 0 then (st0, 6, 0)
  else if (behindR s (partL s).length).2.1 = 0 then
    (if (ofNums (typeL (partL s)) (behindR s (partL s).length).1).2 = true then ((ofNums (typeL (partL s)) (behindR s (partL s).length).1).1, 0, 0) else (st0, 5, 0))
  else (st0, (behindR s (partL s).length).2.1, (behindR s (partL s).length).2.2)
end Go.Proofs.YtmclpganipfadaaGreatDoor

namespace Go.Proofs.YtmclpganipfadaaGreatDoor
open Go.RowKit Go.Maps
set_option linter.unusedVariables false

/-- A slice's address A, of whatever capacity, reads as the bytes l (nil let in). -/
def Bytes (w : World) (A : Option Addr) (l : List Int) : Prop :=
  0 < l.length → ∃ b off, A = some ⟨b, off, none⟩ ∧ b < w.heap.size ∧ ∀ j, j < l.length → w.cell? ⟨b, off + j, none⟩ = some (.int .u8 (l[j]?.getD 0))
theorem Bytes.below {B : Nat} {w w' : World} {A : Option Addr} {l : List Int} (h : Bytes w A l) (hb : Below w.heap.size w w') : Bytes w' A l := fun hl => by
  obtain ⟨b, off, e, hlt, hc⟩ := h hl
  exact ⟨b, off, e, Nat.lt_of_lt_of_le hlt hb.size, fun j hj => (hb.cell (p := ⟨b, off + j, none⟩) hlt).trans (hc j hj)⟩
/-- Bytes that lie below B lie on wherever what lay below B lies on. -/
def BytesB (B : Nat) (w : World) (A : Option Addr) (l : List Int) : Prop :=
  0 < l.length → ∃ b off, A = some ⟨b, off, none⟩ ∧ b < B ∧ ∀ j, j < l.length → w.cell? ⟨b, off + j, none⟩ = some (.int .u8 (l[j]?.getD 0))
theorem BytesB.below {B : Nat} {w w' : World} {A : Option Addr} {l : List Int} (h : BytesB B w A l) (hb : Below B w w') : BytesB B w' A l := fun hl => by
  obtain ⟨b, off, e, hlt, hc⟩ := h hl
  exact ⟨b, off, e, hlt, fun j hj => (hb.cell (p := ⟨b, off + j, none⟩) hlt).trans (hc j hj)⟩
theorem BytesB.mono {B B' : Nat} {w : World} {A : Option Addr} {l : List Int} (h : BytesB B w A l) (hb : B ≤ B') : BytesB B' w A l := fun hl => by
  obtain ⟨b, off, e, hlt, hc⟩ := h hl
  exact ⟨b, off, e, by omega, hc⟩
theorem Bytes.b {w : World} {A : Option Addr} {l : List Int} (h : Bytes w A l) : BytesB w.heap.size w A l := h
def Octets (l : List Int) : Prop := ∀ x ∈ l, 0 ≤ x ∧ x ≤ 255
theorem octet_at {l : List Int} (h : Octets l) (k : Nat) (hk : k < l.length) : 0 ≤ l[k]?.getD 0 ∧ l[k]?.getD 0 ≤ 255 := by
  rw [List.getElem?_eq_getElem hk]; exact h _ (List.getElem_mem hk)
theorem row_below {W W' : World} {base : Nat} {e : TypeId} {size : Nat} {v : Value} {n : Nat} {xs : List Value} (h : W.ownsRow base e size v n xs) (hb : Below W.heap.size W W') : W'.ownsRow base e size v n xs :=
  h.kept (row := none) ⟨hb.os, hb.tape, hb.output, hb.size, fun k hk _ => hb.block k hk⟩ (by
    rcases h.2 with ⟨rfl, _⟩ | ⟨g, cap, cur, rfl, _⟩
    · exact .inl rfl
    · exact .inr (by simp [Value.ownBlock]))
theorem form3 {w : World} {base g n cap m : Nat} {e : TypeId} {v : Value} {xs : List Value} {P : Prop} (h : w.ownsRow base e 1 v m xs) (hn : v = .slice none 0 0 ↔ Value.slice (some ⟨g, 0, none⟩) n cap = .slice none 0 0 ∧ P) : ∃ g' cap', v = .slice (some ⟨g', 0, none⟩) m cap' := by
  rcases h.2 with ⟨e', _⟩ | ⟨g', cap', cur, e', _⟩
  · have := (hn.1 e').1
    cases this
  · exact ⟨g', cap', e'⟩
theorem bytes_new (w : World) (l : List Int) (t : TypeId) (cs : Array Value) (fr : Nat × Nat) (h : cs = (l.map (Value.int .u8)).toArray) : Bytes (w.alloc (.cells cs t fr)) (some ⟨w.heap.size, 0, none⟩) l := by
  subst h
  intro hl
  refine ⟨w.heap.size, 0, rfl, by simp, fun j hj => ?_⟩
  rw [Nat.zero_add, World.cell?_alloc_mark]
  simp [List.getElem?_eq_getElem hj]
theorem info_parts {P : Program} {t : TypeId} {z : Option Value} {n b : Nat} (h : (P.info? t).map (fun i => (i.zero, i.size, i.bytes)) = some (z, n, b)) : ∃ i, P.info? t = some i ∧ i.zero = z ∧ i.size = n ∧ i.bytes = b := by
  cases hi : P.info? t with
  | none => rw [hi] at h; cases h
  | some i =>
    rw [hi] at h
    simp only [Option.map_some, Option.some.injEq, Prod.mk.injEq] at h
    exact ⟨i, rfl, h.1, h.2.1, h.2.2⟩
/-- Block B holds these cells, and is the program's own. -/
def Holds (W : World) (B : Nat) (t : TypeId) (cs : Array Value) : Prop := W.heap[B]? = some (.cells cs t (0, 0))
theorem Holds.lt {W : World} {B : Nat} {t : TypeId} {cs : Array Value} (h : Holds W B t cs) : B < W.heap.size := (Array.getElem?_eq_some_iff.1 h).1
theorem Holds.c {W : World} {B : Nat} {t : TypeId} {cs : Array Value} (h : Holds W B t cs) {j : Nat} {v : Value} (hj : cs[j]? = some v) : W.cell? ⟨B, j, none⟩ = some v := by simp [World.cell?, show W.heap[B]? = _ from h, hj]
theorem Holds.frozen {W : World} {B : Nat} {t : TypeId} {cs : Array Value} (h : Holds W B t cs) (j : Nat) : W.frozen? ⟨B, j, none⟩ = false := by simp [World.frozen?, show W.heap[B]? = _ from h]
theorem Holds.new (W : World) (t : TypeId) (cs : Array Value) : Holds (W.alloc (.cells cs t)) W.heap.size t cs := World.alloc_heap_new W _
theorem Holds.alloc {W : World} {B : Nat} {t : TypeId} {cs : Array Value} (h : Holds W B t cs) (o : Obj) : Holds (W.alloc o) B t cs := (Below.heap_alloc W o B h.lt).trans h
theorem Holds.of {W W' : World} {B : Nat} {t : TypeId} {cs : Array Value} (h : Holds W B t cs) (e : W'.heap[B]? = W.heap[B]?) : Holds W' B t cs := e.trans h
theorem Holds.below {W W' : World} {B n : Nat} {t : TypeId} {cs : Array Value} (h : Holds W B t cs) (hb : Below n W W') (hl : B < n) : Holds W' B t cs := h.of (hb.block B hl)
theorem Holds.not_row {W : World} {B : Nat} {t : TypeId} {cs : Array Value} (h : Holds W B t cs) {base : Nat} {e : TypeId} {size : Nat} {v : Value} {n : Nat} {xs : List Value} (hr : W.ownsRow base e size v n xs) (hne : t ≠ e) : some B ≠ v.ownBlock := by
  rcases hr.2 with ⟨rfl, _⟩ | ⟨g, cap, cur, rfl, _, hg, _⟩
  · simp [Value.ownBlock]
  · intro eq
    obtain rfl : B = g := by simpa [Value.ownBlock] using eq
    rw [show W.heap[B]? = _ from h] at hg
    simp at hg
    exact hne hg.2
theorem Holds.kept {W W' : World} {B : Nat} {t : TypeId} {cs : Array Value} (h : Holds W B t cs) {row : Option Nat} (hg : W.grownBy W' row) (hne : some B ≠ row) : Holds W' B t cs := h.of (hg.block B h.lt hne)
/-- But for block B the world is as it was. -/
structure Only (B : Nat) (w w' : World) : Prop where
  os : w'.os = w.os
  tape : w'.tape = w.tape
  output : w'.output = w.output
  size : w.heap.size ≤ w'.heap.size
  block : ∀ k, k < w.heap.size → k ≠ B → w'.heap[k]? = w.heap[k]?
theorem Only.of {B n : Nat} {w w' : World} (h : Below n w w') (hn : w.heap.size ≤ n) : Only B w w' := ⟨h.os, h.tape, h.output, h.size, fun k hk _ => h.block k (by omega)⟩
theorem Only.set {B : Nat} {w w' : World} (h : Only B w w') (off : Nat) (u : Value) : Only B w (w'.setCell ⟨B, off, none⟩ u) :=
  ⟨h.os, h.tape, h.output, by have := h.size; simpa [World.setCell] using this, fun k hk hF => (Below.heap_setCell _ _ _ _ hF).trans (h.block k hk hF)⟩
theorem Only.below {B lo : Nat} {w w' : World} (h : Only B w w') (hlo : lo ≤ B) (hle : lo ≤ w.heap.size) : Below lo w w' := ⟨h.os, h.tape, h.output, h.size, fun k hk => h.block k (by omega) (by omega)⟩
theorem Only.then {B : Nat} {a b c : World} (h : Only B a b) (k : Only B b c) : Only B a c :=
  ⟨k.os.trans h.os, k.tape.trans h.tape, k.output.trans h.output, Nat.le_trans h.size k.size, fun i hi hF => (k.block i (Nat.lt_of_lt_of_le hi h.size) hF).trans (h.block i hi hF)⟩
theorem Only.grown {B : Nat} {w w' : World} (h : Only B w w') : w.grownBy w' (some B) := ⟨h.os, h.tape, h.output, h.size, fun k hk hF => h.block k hk (fun e => hF (by rw [e]))⟩
theorem Holds.set {W : World} {B : Nat} {t : TypeId} {cs : Array Value} (h : Holds W B t cs) (off : Nat) (u : Value) : Holds (W.setCell ⟨B, off, none⟩ u) B t (cs.setIfInBounds off u) := heap_setCell_same W B off cs t u h
theorem add_flat (b off j : Nat) : (⟨b, off, none⟩ : Addr).add j = ⟨b, off + j, none⟩ := by unfold Addr.add; split <;> simp_all
theorem cell_four_new (W : World) (t : TypeId) (a b c d : Value) : ∀ j u, [a, b, c, d][j]? = some u → (W.alloc (.cells #[a, b, c, d] t)).cell? ((⟨W.heap.size, 0, none⟩ : Addr).add j) = some u := by
  intro j u h
  match j with
  | 0 => simp at h; subst h; simp [Addr.add, World.cell?_alloc_new]
  | 1 => simp at h; subst h; simp [Addr.add, World.cell?_alloc_new]
  | 2 => simp at h; subst h; simp [Addr.add, World.cell?_alloc_new]
  | 3 => simp at h; subst h; simp [Addr.add, World.cell?_alloc_new]
  | j + 4 => simp at h
theorem bytes_src {w : World} {ad : Addr} {bs : List Int} (hA : Bytes w (some ad) bs) : ∀ j u, (bytesOf bs)[j]? = some u → (w.alloc (.cells #[] 5)).cell? (ad.add j) = some u := by
  intro j u hu
  have hj : j < bs.length := by
    rcases Nat.lt_or_ge j bs.length with h | h
    · exact h
    · rw [List.getElem?_eq_none (by simp [bytesOf]; omega)] at hu; cases hu
  obtain ⟨b, off, e, hb, hc⟩ := hA (by omega)
  injection e with e
  subst e
  rw [add_flat, World.cell?_alloc_lt _ _ _ hb, hc j hj]
  simp [bytesOf, List.getElem?_eq_getElem hj] at hu ⊢
  exact hu
theorem bytes_none {w : World} {bs : List Int} (hA : Bytes w none bs) : bs = [] := by
  cases bs with
  | nil => rfl
  | cons x r => obtain ⟨b, off, e, _⟩ := hA (by simp); cases e
theorem row_cap {W : World} {base : Nat} {e : TypeId} {size g n cap : Nat} {xs : List Value} (h : W.ownsRow base e size (.slice (some ⟨g, 0, none⟩) n cap) n xs) : n ≤ cap := by
  rcases h.2 with ⟨e', _⟩ | ⟨g', cap', cur, e', _, _, hn, _⟩
  · cases e'
  · cases e'; exact hn
theorem bytes_row {W : World} {base g n cap : Nat} {l : List Int} (h : W.ownsRow base 5 1 (.slice (some ⟨g, 0, none⟩) n cap) n (bytesOf l)) (a k : Nat) (hk : a + k ≤ n) : BytesB W.heap.size W (some ⟨g, a, none⟩) ((l.drop a).take k) := by
  have hl : l.length = n := by have := h.1; simpa [bytesOf] using this
  intro hp
  rw [List.length_take, List.length_drop] at hp
  refine ⟨g, a, rfl, (h.lt g rfl).2, fun j hj => ?_⟩
  rw [List.length_take, List.length_drop] at hj
  rw [h.cellAt (a + j) (by omega), bytesOf, List.getElem?_map, List.getElem?_take, if_pos (by omega), List.getElem?_drop, List.getElem?_eq_getElem (by omega)]
  rfl
end Go.Proofs.YtmclpganipfadaaGreatDoor

namespace Go.Proofs.YtmclpganipfadaaGreatDoor
open Go.RowKit Go.Maps
set_option linter.unusedVariables false

def Says (v : Value) (w : World) (e : Ending) (w' : World) : Prop := e = .returned v ∧ Below w.heap.size w w'
theorem ret_bool {a b : Bool} (h : a = b) : Ending.returned (.bool a) = .returned (.bool b) := by rw [h]
theorem below_drew0 (w : World) (n : Nat) : Below w.heap.size w (w.drewN n) := below_drewN (Below.refl _ _) n

def knownB (t : Int) : Bool := decide (1 ≤ t) && decide (t ≤ 5)
theorem known_any (t : Int) (w : World) : Calls Tryz.prog 67 #[.int .i64 t] w fun e w' => e = .returned (.bool (knownB t)) ∧ w' = w := by
  by_cases h1 : 1 ≤ t
  · by_cases h2 : t ≤ 5
    · have e : knownB t = true := by simp [knownB, h1, h2]
      rw [e]
      go_enter Tryz.func67, Tryz.ntmps67
      go_wp2
      go_ret
      exact ⟨rfl, rfl⟩
    · have e : knownB t = false := by simp [knownB, h2]
      rw [e]
      go_enter Tryz.func67, Tryz.ntmps67
      go_wp2
      go_ret
      exact ⟨rfl, rfl⟩
  · have e : knownB t = false := by simp [knownB, h1]
    rw [e]
    go_enter Tryz.func67, Tryz.ntmps67
    go_wp2
    go_ret
    exact ⟨rfl, rfl⟩

set_option maxHeartbeats 1000000 in
theorem rises_any (A : Option Addr) (c s : Nat) (l : List Int) (w : World) (hA : Ints w A l) (hs : 1 ≤ s) (hs2 : s ≤ 2) (hlen : l.length ≤ 1000) :
    Calls Tryz.prog 103 #[.slice A l.length c, .int .i64 s] w (Says (.bool (riseB s l)) w) := by
  go_enter Tryz.func103, Tryz.ntmps103
  go_wp2
  go_loopw [5] (fun i wr => ∃ (k m n : Nat), m = (k + 1) * s ∧ i = .int .i64 m ∧ m ≤ l.length + 2 ∧ riseTo s l k = true ∧ wr = w.drewN n) (fun i wr => l.length + 2 - (intOf i).toNat)
  case atStart => exact ⟨0, s, 0, by omega, rfl, by omega, rfl, rfl⟩
  case round =>
    obtain ⟨k, m, n, hm, rfl, hml, hr, rfl⟩ := hrel
    have HR := Lib.hid hr
    have HM := Lib.hid hm
    have hsm : s ≤ m := by rw [hm]; exact Nat.le_mul_of_pos_left _ (by omega)
    obtain ⟨m0, hm0⟩ : ∃ m0, m0 = k * s := ⟨_, rfl⟩
    have hmm : m = m0 + s := by rw [hm, hm0, Nat.succ_mul]
    have HM0 := Lib.hid hm0
    clear hr hm hm0
    by_cases hlt : m < l.length
    · obtain ⟨b, off, rfl, hb, hc⟩ := hA (by omega)
      have hck := hc m hlt
      have hck' := hc m0 (by omega)
      clear hc
      obtain ⟨x, hx⟩ : ∃ x, l[m]?.getD 0 = x := ⟨_, rfl⟩
      obtain ⟨y, hy⟩ : ∃ y, l[m0]?.getD 0 = y := ⟨_, rfl⟩
      rw [hx] at hck
      rw [hy] at hck'
      have HX := Lib.hid hx
      have HY := Lib.hid hy
      have hq : (m : Int) - (s : Int) = (m0 : Int) := by omega
      have HMM := Lib.hid hmm
      have hk0 : (0 : Int) ≤ (m : Int) := by omega
      have hk1 : (m : Int) < (l.length : Int) := by omega
      have hk2 : (m0 : Int) < (l.length : Int) := by omega
      have hk3 : (0 : Int) ≤ (m0 : Int) := by omega
      clear hx hy hmm
      by_cases hxy : x ≤ y
      · go_wp2_with fail
        go_quiet (fail)
        go_wp2
        go_ret
        refine ⟨ret_bool (rise_no (k := k) hs (by rw [← HM.out]; exact hlt) (by rw [← HM.out, ← HM0.out, HX.out, HY.out]; exact hxy)).symm, below_drewN (below_drew0 w n) _⟩
      · go_wp2_with fail
        go_quiet (fail)
        go_wp2
        go_roundw
        case rel => exact ⟨k + 1, m + s, _, by rw [HM.out, Nat.succ_mul (k + 1)], by go_num, by have := HMM.out; omega, rise_step HR.out (by rw [← HM.out, ← HM0.out, HX.out, HY.out]; omega), rfl⟩
        case measure => simp [intOf]; omega
    · go_wp2
      go_ret
      exact ⟨ret_bool (rise_end HR.out (by rw [← HM.out]; omega)).symm, below_drew0 w n⟩
set_option maxHeartbeats 1000000 in
theorem rrises_any (A : Option Addr) (c s : Nat) (l : List Int) (w : World) (hA : Ints w A l) (hs : 1 ≤ s) (hs2 : s ≤ 2) (hlen : l.length ≤ 1000) :
    Calls Tryz.prog 64 #[.slice A l.length c, .int .i64 s] w (Says (.bool (riseB s l)) w) := by
  go_enter Tryz.func64, Tryz.ntmps64
  go_wp2
  go_loopw [5] (fun i wr => ∃ (k m n : Nat), m = (k + 1) * s ∧ i = .int .i64 m ∧ m ≤ l.length + 2 ∧ riseTo s l k = true ∧ wr = w.drewN n) (fun i wr => l.length + 2 - (intOf i).toNat)
  case atStart => exact ⟨0, s, 0, by omega, rfl, by omega, rfl, rfl⟩
  case round =>
    obtain ⟨k, m, n, hm, rfl, hml, hr, rfl⟩ := hrel
    have HR := Lib.hid hr
    have HM := Lib.hid hm
    have hsm : s ≤ m := by rw [hm]; exact Nat.le_mul_of_pos_left _ (by omega)
    obtain ⟨m0, hm0⟩ : ∃ m0, m0 = k * s := ⟨_, rfl⟩
    have hmm : m = m0 + s := by rw [hm, hm0, Nat.succ_mul]
    have HM0 := Lib.hid hm0
    clear hr hm hm0
    by_cases hlt : m < l.length
    · obtain ⟨b, off, rfl, hb, hc⟩ := hA (by omega)
      have hck := hc m hlt
      have hck' := hc m0 (by omega)
      clear hc
      obtain ⟨x, hx⟩ : ∃ x, l[m]?.getD 0 = x := ⟨_, rfl⟩
      obtain ⟨y, hy⟩ : ∃ y, l[m0]?.getD 0 = y := ⟨_, rfl⟩
      rw [hx] at hck
      rw [hy] at hck'
      have HX := Lib.hid hx
      have HY := Lib.hid hy
      have hq : (m : Int) - (s : Int) = (m0 : Int) := by omega
      have HMM := Lib.hid hmm
      have hk0 : (0 : Int) ≤ (m : Int) := by omega
      have hk1 : (m : Int) < (l.length : Int) := by omega
      have hk2 : (m0 : Int) < (l.length : Int) := by omega
      have hk3 : (0 : Int) ≤ (m0 : Int) := by omega
      clear hx hy hmm
      by_cases hxy : x ≤ y
      · go_wp2_with fail
        go_quiet (fail)
        go_wp2
        go_ret
        refine ⟨ret_bool (rise_no (k := k) hs (by rw [← HM.out]; exact hlt) (by rw [← HM.out, ← HM0.out, HX.out, HY.out]; exact hxy)).symm, below_drewN (below_drew0 w n) _⟩
      · go_wp2_with fail
        go_quiet (fail)
        go_wp2
        go_roundw
        case rel => exact ⟨k + 1, m + s, _, by rw [HM.out, Nat.succ_mul (k + 1)], by go_num, by have := HMM.out; omega, rise_step HR.out (by rw [← HM.out, ← HM0.out, HX.out, HY.out]; omega), rfl⟩
        case measure => simp [intOf]; omega
    · go_wp2
      go_ret
      exact ⟨ret_bool (rise_end HR.out (by rw [← HM.out]; omega)).symm, below_drew0 w n⟩

def stV (t n : Int) (A : Option Addr) (k c : Nat) : Value := .agg #[.int .i64 t, .int .i64 n, .slice A k c]
theorem nxt {a b c : World} {B n : Nat} (h : Below B a b) (k : Below n b c) (hn : B ≤ n) : Below B a c := h.trans (k.mono hn)
theorem alloc1 (w : World) (o : Obj) : Below w.heap.size w (w.alloc o) := (Below.refl _ _).alloc (Nat.le_refl _) _

theorem fit1 (t n : Int) (A : Option Addr) (c : Nat) (l : List Int) (w : World) : Calls Tryz.prog 86 #[stV t n A l.length c] w (Says (.bool (decide (l.length = 0))) w) := by
  unfold stV
  by_cases h : l.length = 0
  · have e : ((l.length : Int) == 0) = true := by simp [h]
    rw [decide_eq_true h]
    go_enter Tryz.func86, Tryz.ntmps86
    go_wp2
    go_ret
    exact ⟨rfl, alloc1 w _⟩
  · have e : ((l.length : Int) == 0) = false := by rw [beq_eq_false_iff_ne]; omega
    rw [decide_eq_false h]
    go_enter Tryz.func86, Tryz.ntmps86
    go_wp2
    go_ret
    exact ⟨rfl, alloc1 w _⟩
theorem fit4 (t n : Int) (A : Option Addr) (c : Nat) (l : List Int) (w : World) : Calls Tryz.prog 89 #[stV t n A l.length c] w (Says (.bool (n == 0)) w) := by
  unfold stV
  go_enter Tryz.func89, Tryz.ntmps89
  go_wp2
  go_ret
  exact ⟨rfl, alloc1 w _⟩
theorem fit2 (t n : Int) (A : Option Addr) (c : Nat) (l : List Int) (w : World) (hA : Ints w A l) (hlen : l.length ≤ 1000) : Calls Tryz.prog 87 #[stV t n A l.length c] w (Says (.bool ((n == 0) && riseB 1 l)) w) := by
  have H := rises_any A c 1 l (w.alloc (.cells #[.int .i64 t, .int .i64 n, .slice A l.length c] 103)) (hA.below (alloc1 w _)) (by omega) (by omega) hlen
  unfold stV
  generalize riseB 1 l = r at *
  cases h : (n == 0)
  · go_enter Tryz.func87, Tryz.ntmps87
    go_wp2
    go_ret
    exact ⟨rfl, alloc1 w _⟩
  · go_enter Tryz.func87, Tryz.ntmps87
    go_wp2_with fail
    refine H.mono ?_
    rintro e w1 ⟨rfl, hB⟩
    go_wp2
    go_ret
    exact ⟨rfl, nxt (alloc1 w _) hB (by simp)⟩
theorem fit3 (t n : Int) (A : Option Addr) (c : Nat) (l : List Int) (w : World) (hA : Ints w A l) (hlen : l.length ≤ 1000) : Calls Tryz.prog 88 #[stV t n A l.length c] w (Says (.bool ((n == 0) && decide (l.length % 2 = 0) && riseB 2 l)) w) := by
  have H := rises_any A c 2 l (w.alloc (.cells #[.int .i64 t, .int .i64 n, .slice A l.length c] 103)) (hA.below (alloc1 w _)) (by omega) (by omega) hlen
  unfold stV
  generalize riseB 2 l = r at *
  cases h : (n == 0)
  · go_enter Tryz.func88, Tryz.ntmps88
    go_wp2
    go_ret
    exact ⟨rfl, alloc1 w _⟩
  · have hm : Int.tmod (l.length : Int) 2 = ((l.length % 2 : Nat) : Int) := rfl
    by_cases h2 : l.length % 2 = 0
    · have e2 : ((Int.tmod (l.length : Int) 2) == 0) = true := by rw [hm, h2]; rfl
      rw [decide_eq_true h2]
      go_enter Tryz.func88, Tryz.ntmps88
      go_wp2_with fail
      refine H.mono ?_
      rintro e w1 ⟨rfl, hB⟩
      go_wp2
      go_ret
      exact ⟨rfl, nxt (alloc1 w _) hB (by simp)⟩
    · have e2 : ((Int.tmod (l.length : Int) 2) == 0) = false := by rw [hm, beq_eq_false_iff_ne]; omega
      rw [decide_eq_false h2]
      go_enter Tryz.func88, Tryz.ntmps88
      go_wp2
      go_ret
      exact ⟨rfl, alloc1 w _⟩
theorem fit5 (t n : Int) (A : Option Addr) (c : Nat) (l : List Int) (w : World) : Calls Tryz.prog 90 #[stV t n A l.length c] w (Says (.bool (decide (l.length = 0) && decide (0 ≤ n) && decide (n ≤ 4611686018427387904))) w) := by
  unfold stV
  by_cases h : l.length = 0
  · have e : ((l.length : Int) == 0) = true := by simp [h]
    rw [decide_eq_true h]
    cases h1 : decide (0 ≤ n) <;> cases h2 : decide (n ≤ 4611686018427387904)
    all_goals go_enter Tryz.func90, Tryz.ntmps90
    all_goals go_wp2
    all_goals go_ret
    all_goals exact ⟨rfl, alloc1 w _⟩
  · have e : ((l.length : Int) == 0) = false := by rw [beq_eq_false_iff_ne]; omega
    rw [decide_eq_false h]
    go_enter Tryz.func90, Tryz.ntmps90
    go_wp2
    go_ret
    exact ⟨rfl, alloc1 w _⟩
def fnV (k : Nat) : Value := .func (.func k) #[] #[]
def askedV : Value := .agg #[.nilFunc, .func (.func 86) #[] #[], .func (.func 87) #[] #[], .func (.func 88) #[] #[], .func (.func 89) #[] #[], .func (.func 90) #[] #[]]
theorem asked_any (w : World) : Calls Tryz.prog 68 #[] w (Says askedV w) := by
  go_enter Tryz.func68, Tryz.ntmps68
  go_wp2
  refine bodyPost_ret (v := askedV) (by simp [results, Tryz.f68, go_sem, askedV]) rfl ?_
  exact ⟨rfl, alloc1 w _⟩
end Go.Proofs.YtmclpganipfadaaGreatDoor

namespace Go.Proofs.YtmclpganipfadaaGreatDoor
open Go.RowKit Go.Maps
set_option linter.unusedVariables false

/-- The words lie where the program's text lays them. -/
def Wds (w : World) : Prop := ∀ i, i < 6 → w.cell? ⟨0, i, none⟩ = some (.string (wordB i))
theorem Wds.pos {w : World} (h : Wds w) : 0 < w.heap.size := by
  have := h 0 (by omega)
  rcases Nat.eq_zero_or_pos w.heap.size with e | e
  · unfold World.cell? at this
    rw [Array.getElem?_eq_none (by omega)] at this
    cases this
  · exact e
theorem Wds.below {w w' : World} {n : Nat} (h : Wds w) (hb : Below n w w') (hn : 0 < n) : Wds w' := fun i hi => (hb.cell (p := ⟨0, i, none⟩) hn).trans (h i hi)
theorem Wds.on {w w' : World} (h : Wds w) (hb : Below w.heap.size w w') : Wds w' := h.below hb h.pos

theorem type_yes {t : Int} (h : ¬ (t < 1 ∨ 5 < t)) : knownB t = true := by simp [knownB]; omega
theorem type_no {t : Int} (h : t < 1 ∨ 5 < t) : knownB t = false := by simp [knownB]; omega

theorem check_none (t n : Int) (A : Option Addr) (c : Nat) (l : List Int) (w : World) (h : t < 1 ∨ 5 < t) : Calls Tryz.prog 52 #[stV t n A l.length c] w (Says (.int .i64 8) w) := by
  have hk := type_no h
  clear h
  unfold stV
  go_enter Tryz.func52, Tryz.ntmps52
  go_wp2_with fail
  refine (known_any _ _).mono ?_
  rintro e w1 ⟨rfl, rfl⟩
  rw [hk]
  go_wp2
  go_ret
  exact ⟨rfl, alloc1 w _⟩

theorem ints_cell {w : World} {x : Int} {W : World} {B : Nat} (h : W.cell? ⟨B, 0, none⟩ = some (.int .i64 x)) (hB : Below W.heap.size W w) (hl : B < W.heap.size) : w.cell? ⟨B, 0, none⟩ = some (.int .i64 x) := (hB.cell (p := ⟨B, 0, none⟩) hl).trans h

set_option maxHeartbeats 1000000 in
theorem check_with (t n : Int) (A : Option Addr) (k c : Nat) (w : World) (g : Nat) (b : Bool) (r : Int) (hk : knownB t = true)
    (hix : ∀ W : World, (Instr.index 101 askedV (.int .i64 t)).run Tryz.prog W = .ok (.func (.func g) #[] #[]) W)
    (eg : ∀ args w, (callFunc g args).run Tryz.prog w = .ok (.enter g args) w) (H : ∀ W, Below w.heap.size w W → Calls Tryz.prog g #[stV t n A k c] W (Says (.bool b) W)) (hr : r = if b = true then 0 else 5) :
    Calls Tryz.prog 52 #[stV t n A k c] w (Says (.int .i64 r) w) := by
  unfold stV at *
  obtain ⟨va, hva⟩ : ∃ va, askedV = va := ⟨_, rfl⟩
  rw [hva] at hix
  have HA : ∀ W : World, Calls Tryz.prog 68 #[] W (Says va W) := fun W => hva ▸ asked_any W
  have HR := Lib.hid hr
  clear hva hr
  go_enter Tryz.func52, Tryz.ntmps52
  go_wp2_with fail
  refine (known_any _ _).mono ?_
  rintro e w1 ⟨rfl, rfl⟩
  rw [hk]
  have HW := Lib.hid (Holds.new w 24 #[.int .i64 t, .int .i64 n, .slice A k c])
  have hB0 : Below w.heap.size w (w.alloc (.cells #[.int .i64 t, .int .i64 n, .slice A k c] 24)) := alloc1 w _
  have hlt0 : w.heap.size < (w.alloc (.cells #[.int .i64 t, .int .i64 n, .slice A k c] 24)).heap.size := by simp
  go_wp2_with fail
  generalize w.alloc (.cells #[.int .i64 t, .int .i64 n, .slice A k c] 24) = W0 at *
  have c0 := HW.out.c (j := 0) rfl
  go_region_held3 (fun w' => w'.cell? ⟨w.heap.size, 0, none⟩ = some (.int .i64 t) ∧ Below W0.heap.size W0 w') (first | exact ⟨c0, (Below.refl _ W0).drew⟩ | exact ⟨(hB6.cell (p := ⟨w.heap.size, 0, none⟩) hlt0).trans c0, (Below.refl _ W0).drew.trans hB6⟩ | go_keep) (first | (go_at_call 68; refine (HA _).mono ?_; rintro e w6 ⟨rfl, hB6⟩))
  have hB6' : Below W0.heap.size W0 w6 := ((Below.refl _ W0).drew).trans hB6
  have HW6 := HW.out.below hB6' hlt0
  have c06 := HW6.c (j := 0) rfl
  have c16 := HW6.c (j := 1) rfl
  have c26 := HW6.c (j := 2) rfl
  have hB : Below w.heap.size w w6 := nxt hB0 hB6' (by omega)
  cases b
  · go_wp2_with fail
    refine (H w6 hB).mono ?_
    rintro e w7 ⟨rfl, hB7⟩
    go_wp2
    go_ret
    exact ⟨ret_int HR.out.symm, nxt hB hB7 hB.size⟩
  · go_wp2_with fail
    refine (H w6 hB).mono ?_
    rintro e w7 ⟨rfl, hB7⟩
    go_wp2
    go_ret
    exact ⟨ret_int HR.out.symm, nxt hB hB7 hB.size⟩

theorem check_any (t n : Int) (A : Option Addr) (c : Nat) (l : List Int) (w : World) (hA : Ints w A l) (hlen : l.length ≤ 1000) :
    Calls Tryz.prog 52 #[stV t n A l.length c] w (Says (.int .i64 (checkE t n l)) w) := by
  by_cases h : t < 1 ∨ 5 < t
  · rw [check_type h]; exact check_none t n A c l w h
  · have hk := type_yes h
    have hc := check_in (n := n) (l := l) h
    obtain rfl | rfl | rfl | rfl | rfl : t = 1 ∨ t = 2 ∨ t = 3 ∨ t = 4 ∨ t = 5 := by omega
    · exact check_with _ n A _ c w 86 _ _ hk (fun W => by kernel_rfl) (Go.Proofs.enters_of Tryz.func86 (by kernel_rfl) rfl) (fun W hB => fit1 _ n A c l W) hc
    · exact check_with _ n A _ c w 87 _ _ hk (fun W => by kernel_rfl) (Go.Proofs.enters_of Tryz.func87 (by kernel_rfl) rfl) (fun W hB => fit2 _ n A c l W (hA.below hB) hlen) hc
    · exact check_with _ n A _ c w 88 _ _ hk (fun W => by kernel_rfl) (Go.Proofs.enters_of Tryz.func88 (by kernel_rfl) rfl) (fun W hB => fit3 _ n A c l W (hA.below hB) hlen) hc
    · exact check_with _ n A _ c w 89 _ _ hk (fun W => by kernel_rfl) (Go.Proofs.enters_of Tryz.func89 (by kernel_rfl) rfl) (fun W hB => fit4 _ n A c l W) hc
    · exact check_with _ n A _ c w 90 _ _ hk (fun W => by kernel_rfl) (Go.Proofs.enters_of Tryz.func90 (by kernel_rfl) rfl) (fun W hB => fit5 _ n A c l W) hc
end Go.Proofs.YtmclpganipfadaaGreatDoor

namespace Go.Proofs.YtmclpganipfadaaGreatDoor
open Go.RowKit Go.Maps
set_option linter.unusedVariables false

/-- The first k numbers are the same. -/
def AlikeTo (l m : List Int) (k : Nat) : Prop := ∀ j, j < k → l[j]?.getD 0 = m[j]?.getD 0
theorem AlikeTo.step {l m : List Int} {k : Nat} (h : AlikeTo l m k) (e : l[k]?.getD 0 = m[k]?.getD 0) : AlikeTo l m (k + 1) := fun j hj => by
  rcases Nat.lt_or_ge j k with h1 | h1
  · exact h j h1
  · rw [show j = k by omega]; exact e
theorem AlikeTo.eq {l m : List Int} {k : Nat} (h : AlikeTo l m k) (h1 : l.length = m.length) (h2 : l.length ≤ k) : l = m := by
  apply List.ext_getElem h1
  intro i h3 h4
  have := h i (by omega)
  rwa [List.getElem?_eq_getElem h3, List.getElem?_eq_getElem h4] at this
theorem unlike {l m : List Int} {k : Nat} {x y : Int} (hx : l[k]?.getD 0 = x) (hy : m[k]?.getD 0 = y) (h : x ≠ y) : (l == m) = false := by
  rw [beq_eq_false_iff_ne]; intro e; subst e; exact h (hx.symm.trans hy)
theorem unlike_len {l m : List Int} (h : l.length ≠ m.length) : (l == m) = false := by
  rw [beq_eq_false_iff_ne]; intro e; subst e; exact h rfl

set_option maxHeartbeats 1000000 in
theorem sameints_any (A B : Option Addr) (c d : Nat) (l m : List Int) (w : World) (hA : Ints w A l) (hB : Ints w B m) (hlen : l.length ≤ 1000) :
    Calls Tryz.prog 30 #[.slice A l.length c, .slice B m.length d] w (Says (.bool (l == m)) w) := by
  by_cases hl : l.length = m.length
  · have k0 : ((l.length : Int) != (m.length : Int)) = false := by rw [hl]; simp
    have HL := Lib.hid hl
    have hA' := Lib.hid hA
    have hB' := Lib.hid hB
    clear hl hA hB
    go_enter Tryz.func30, Tryz.ntmps30
    go_wp2
    go_loopw [5] (fun i wr => ∃ (k n : Nat), k ≤ l.length ∧ i = .int .i64 k ∧ AlikeTo l m k ∧ wr = w.drewN n) (fun i wr => l.length - (intOf i).toNat)
    case atStart => exact ⟨0, 0, Nat.zero_le _, rfl, fun j h => absurd h (Nat.not_lt_zero _), rfl⟩
    case round =>
      obtain ⟨k, n, hk, rfl, hal, rfl⟩ := hrel
      have HAL := Lib.hid hal
      clear hal
      by_cases hlt : k < l.length
      · obtain ⟨b, off, rfl, hb, hc⟩ := hA'.out (by omega)
        obtain ⟨b', off', rfl, hb', hc'⟩ := hB'.out (by have := HL.out; omega)
        have hck := hc k hlt
        have hck' := hc' k (by have := HL.out; omega)
        have hk0 : (0 : Int) ≤ (k : Int) := by omega
        have hk1 : (k : Int) < (l.length : Int) := by omega
        have hk2 : (k : Int) < (m.length : Int) := by have := HL.out; omega
        obtain ⟨x, hx⟩ : ∃ x, l[k]?.getD 0 = x := ⟨_, rfl⟩
        obtain ⟨y, hy⟩ : ∃ y, m[k]?.getD 0 = y := ⟨_, rfl⟩
        rw [hx] at hck
        rw [hy] at hck'
        have HX := Lib.hid hx
        have HY := Lib.hid hy
        clear hc hc' hx hy
        by_cases hxy : x = y
        · have HXY := Lib.hid hxy
          have kx : (x != y) = false := by rw [hxy]; simp
          clear hxy
          go_wp2_with fail
          go_quiet (fail)
          go_wp2
          go_roundw
          case rel => exact ⟨k + 1, _, by omega, by go_num, HAL.out.step (by rw [HX.out, HY.out, HXY.out]), rfl⟩
          case measure => simp [intOf]; omega
        · have HXY := Lib.hid hxy
          have kx : (x != y) = true := by rw [bne_iff_ne]; exact hxy
          clear hxy
          go_wp2_with fail
          go_quiet (fail)
          go_wp2
          go_ret
          exact ⟨ret_bool (unlike HX.out HY.out HXY.out).symm, below_drewN (below_drew0 w n) _⟩
      · go_wp2
        go_ret
        exact ⟨ret_bool (by rw [HAL.out.eq HL.out (by omega)]; exact (beq_self_eq_true m).symm), below_drew0 w n⟩
  · have k0 : ((l.length : Int) != (m.length : Int)) = true := by rw [bne_iff_ne]; omega
    have hf := unlike_len hl
    rw [hf]
    clear hl
    go_enter Tryz.func30, Tryz.ntmps30
    go_wp2
    go_ret
    exact ⟨rfl, Below.refl _ _⟩

def sameB (t n : Int) (l : List Int) (t' n' : Int) (l' : List Int) : Bool := (t == t') && (n == n') && (l == l')
theorem same_iff {t n t' n' : Int} {l l' : List Int} : sameB t n l t' n' l' = true ↔ t = t' ∧ n = n' ∧ l = l' := by
  unfold sameB; rw [Bool.and_eq_true, Bool.and_eq_true, beq_iff_eq, beq_iff_eq, beq_iff_eq]; exact and_assoc

set_option maxHeartbeats 1000000 in
theorem samest_any (t n t' n' : Int) (A B : Option Addr) (c d : Nat) (l m : List Int) (w : World) (hA : Ints w A l) (hB : Ints w B m) (hlen : l.length ≤ 1000) :
    Calls Tryz.prog 13 #[stV t n A l.length c, stV t' n' B m.length d] w (Says (.bool (sameB t n l t' n' m)) w) := by
  have hB0 : Below w.heap.size w ((w.alloc (.cells #[.int .i64 t, .int .i64 n, .slice A l.length c] 24)).alloc (.cells #[.int .i64 t', .int .i64 n', .slice B m.length d] 24)) := (alloc1 w _).alloc (by simp) _
  have H := sameints_any A B c d l m _ (hA.below hB0) (hB.below hB0) hlen
  unfold stV sameB
  cases h1 : (t == t')
  · go_enter Tryz.func13, Tryz.ntmps13
    go_wp2
    go_ret
    exact ⟨rfl, hB0⟩
  · cases h2 : (n == n')
    · go_enter Tryz.func13, Tryz.ntmps13
      go_wp2
      go_ret
      exact ⟨rfl, hB0⟩
    · generalize (l == m) = r at *
      go_enter Tryz.func13, Tryz.ntmps13
      go_wp2_with fail
      refine H.mono ?_
      rintro e w1 ⟨rfl, hB1⟩
      go_wp2
      go_ret
      exact ⟨rfl, nxt hB0 hB1 (by simp; omega)⟩

def emptyV (t : Int) : Value := .tuple #[stV (if t < 1 ∨ 5 < t then 0 else t) 0 none 0 0, .int .i64 (if t < 1 ∨ 5 < t then 8 else 0)]
end Go.Proofs.YtmclpganipfadaaGreatDoor

namespace Go.Proofs.YtmclpganipfadaaGreatDoor
open Go.RowKit Go.Maps
set_option linter.unusedVariables false

theorem rcheck_none (t n : Int) (A : Option Addr) (c : Nat) (l : List Int) (w : World) (h : t < 1 ∨ 5 < t) : Calls Tryz.prog 39 #[stV t n A l.length c] w (Says (.int .i64 8) w) := by
  unfold stV
  by_cases h1 : t < 1
  · go_enter Tryz.func39, Tryz.ntmps39
    go_wp2
    go_ret
    exact ⟨rfl, alloc1 w _⟩
  · have h2 : 5 < t := by omega
    clear h
    go_enter Tryz.func39, Tryz.ntmps39
    go_wp2
    go_ret
    exact ⟨rfl, alloc1 w _⟩
theorem rcheck1 (n : Int) (A : Option Addr) (c : Nat) (l : List Int) (w : World)  : Calls Tryz.prog 39 #[stV 1 n A l.length c] w (Says (.int .i64 (if decide (l.length = 0) = true then 0 else 5)) w) := by
  unfold stV
  by_cases h : l.length = 0
  · have e : ((l.length : Int) == 0) = true := by simp [h]
    rw [decide_eq_true h]
    simp only [if_true]
    go_enter Tryz.func39, Tryz.ntmps39
    go_wp2
    go_ret
    exact ⟨rfl, alloc1 w _⟩
  · have e : ((l.length : Int) == 0) = false := by rw [beq_eq_false_iff_ne]; omega
    rw [decide_eq_false h]
    simp only [Bool.false_eq_true, if_false]
    go_enter Tryz.func39, Tryz.ntmps39
    go_wp2
    go_ret
    exact ⟨rfl, alloc1 w _⟩
theorem rcheck4 (n : Int) (A : Option Addr) (c : Nat) (l : List Int) (w : World)  : Calls Tryz.prog 39 #[stV 4 n A l.length c] w (Says (.int .i64 (if (n == 0) = true then 0 else 5)) w) := by
  unfold stV
  cases h : (n == 0)
  · simp only [Bool.false_eq_true, if_false]
    go_enter Tryz.func39, Tryz.ntmps39
    go_wp2
    go_ret
    exact ⟨rfl, alloc1 w _⟩
  · simp only [if_true]
    go_enter Tryz.func39, Tryz.ntmps39
    go_wp2
    go_ret
    exact ⟨rfl, alloc1 w _⟩
theorem rcheck2 (n : Int) (A : Option Addr) (c : Nat) (l : List Int) (w : World) (hA : Ints w A l) (hlen : l.length ≤ 1000) : Calls Tryz.prog 39 #[stV 2 n A l.length c] w (Says (.int .i64 (if ((n == 0) && riseB 1 l) = true then 0 else 5)) w) := by
  unfold stV
  have H := rrises_any A c 1 l (w.alloc (.cells #[.int .i64 2, .int .i64 n, .slice A l.length c] 24)) (hA.below (alloc1 w _)) (by omega) (by omega) hlen
  generalize riseB 1 l = r at *
  cases h : (n == 0)
  · simp only [Bool.false_and, Bool.false_eq_true, if_false]
    go_enter Tryz.func39, Tryz.ntmps39
    go_wp2
    go_ret
    exact ⟨rfl, alloc1 w _⟩
  · cases r
    · simp only [Bool.and_false, Bool.false_eq_true, if_false]
      go_enter Tryz.func39, Tryz.ntmps39
      go_wp2_with fail
      refine H.mono ?_
      rintro e w1 ⟨rfl, hB⟩
      go_wp2
      go_ret
      exact ⟨rfl, nxt (alloc1 w _) hB (by simp)⟩
    · simp only [Bool.and_true, if_true]
      go_enter Tryz.func39, Tryz.ntmps39
      go_wp2_with fail
      refine H.mono ?_
      rintro e w1 ⟨rfl, hB⟩
      go_wp2
      go_ret
      exact ⟨rfl, nxt (alloc1 w _) hB (by simp)⟩
theorem rcheck3 (n : Int) (A : Option Addr) (c : Nat) (l : List Int) (w : World) (hA : Ints w A l) (hlen : l.length ≤ 1000) : Calls Tryz.prog 39 #[stV 3 n A l.length c] w (Says (.int .i64 (if ((n == 0) && decide (l.length % 2 = 0) && riseB 2 l) = true then 0 else 5)) w) := by
  unfold stV
  have H := rrises_any A c 2 l (w.alloc (.cells #[.int .i64 3, .int .i64 n, .slice A l.length c] 24)) (hA.below (alloc1 w _)) (by omega) (by omega) hlen
  generalize riseB 2 l = r at *
  cases h : (n == 0)
  · simp only [Bool.false_and, Bool.false_eq_true, if_false]
    go_enter Tryz.func39, Tryz.ntmps39
    go_wp2
    go_ret
    exact ⟨rfl, alloc1 w _⟩
  · have hm : Int.tmod (l.length : Int) 2 = ((l.length % 2 : Nat) : Int) := rfl
    by_cases h2 : l.length % 2 = 0
    · have e2 : ((Int.tmod (l.length : Int) 2) == 0) = true := by rw [hm, h2]; rfl
      rw [decide_eq_true h2]
      cases r
      · simp only [Bool.and_false, Bool.false_eq_true, if_false]
        go_enter Tryz.func39, Tryz.ntmps39
        go_wp2_with fail
        refine H.mono ?_
        rintro e w1 ⟨rfl, hB⟩
        go_wp2
        go_ret
        exact ⟨rfl, nxt (alloc1 w _) hB (by simp)⟩
      · simp only [Bool.and_true, if_true]
        go_enter Tryz.func39, Tryz.ntmps39
        go_wp2_with fail
        refine H.mono ?_
        rintro e w1 ⟨rfl, hB⟩
        go_wp2
        go_ret
        exact ⟨rfl, nxt (alloc1 w _) hB (by simp)⟩
    · have e2 : ((Int.tmod (l.length : Int) 2) == 0) = false := by rw [hm, beq_eq_false_iff_ne]; omega
      rw [decide_eq_false h2]
      simp only [Bool.and_false, Bool.false_and, Bool.false_eq_true, if_false]
      go_enter Tryz.func39, Tryz.ntmps39
      go_wp2
      go_ret
      exact ⟨rfl, alloc1 w _⟩
theorem rcheck5 (n : Int) (A : Option Addr) (c : Nat) (l : List Int) (w : World)  : Calls Tryz.prog 39 #[stV 5 n A l.length c] w (Says (.int .i64 (if (decide (l.length = 0) && decide (0 ≤ n) && decide (n ≤ 4611686018427387904)) = true then 0 else 5)) w) := by
  unfold stV
  by_cases h : l.length = 0
  · have e : ((l.length : Int) == 0) = true := by simp [h]
    rw [decide_eq_true h]
    by_cases h1 : 0 ≤ n
    · rw [decide_eq_true h1]
      by_cases h2 : n ≤ 4611686018427387904
      · rw [decide_eq_true h2]
        simp only [Bool.and_true, if_true]
        go_enter Tryz.func39, Tryz.ntmps39
        go_wp2
        go_ret
        exact ⟨rfl, alloc1 w _⟩
      · rw [decide_eq_false h2]
        simp only [Bool.and_false, Bool.false_eq_true, if_false]
        go_enter Tryz.func39, Tryz.ntmps39
        go_wp2
        go_ret
        exact ⟨rfl, alloc1 w _⟩
    · rw [decide_eq_false h1]
      simp only [Bool.and_false, Bool.false_and, Bool.false_eq_true, if_false]
      go_enter Tryz.func39, Tryz.ntmps39
      go_wp2
      go_ret
      exact ⟨rfl, alloc1 w _⟩
  · have e : ((l.length : Int) == 0) = false := by rw [beq_eq_false_iff_ne]; omega
    rw [decide_eq_false h]
    simp only [Bool.false_and, Bool.false_eq_true, if_false]
    go_enter Tryz.func39, Tryz.ntmps39
    go_wp2
    go_ret
    exact ⟨rfl, alloc1 w _⟩
theorem rcheck_any (t n : Int) (A : Option Addr) (c : Nat) (l : List Int) (w : World) (hA : Ints w A l) (hlen : l.length ≤ 1000) :
    Calls Tryz.prog 39 #[stV t n A l.length c] w (Says (.int .i64 (checkE t n l)) w) := by
  by_cases h : t < 1 ∨ 5 < t
  · rw [check_type h]; exact rcheck_none t n A c l w h
  · rw [check_in h]
    obtain rfl | rfl | rfl | rfl | rfl : t = 1 ∨ t = 2 ∨ t = 3 ∨ t = 4 ∨ t = 5 := by omega
    · exact rcheck1 n A c l w
    · exact rcheck2 n A c l w hA hlen
    · exact rcheck3 n A c l w hA hlen
    · exact rcheck4 n A c l w
    · exact rcheck5 n A c l w

def wordsO : Obj := .cells #[.string ⟨#[99, 111, 117, 110, 116, 101, 114]⟩, .string ⟨#[115, 101, 116]⟩, .string ⟨#[109, 97, 112]⟩, .string ⟨#[113, 117, 101, 117, 101]⟩, .string ⟨#[101, 115, 99, 114, 111, 119]⟩] 9
theorem rwords_cell (w : World) : ∀ k, k < 5 → (w.alloc wordsO).cell? ⟨w.heap.size, k, none⟩ = some (.string (wordB (k + 1)))
  | 0, _ => by rw [wordsO, World.cell?_alloc_new]; rfl
  | 1, _ => by rw [wordsO, World.cell?_alloc_new]; rfl
  | 2, _ => by rw [wordsO, World.cell?_alloc_new]; rfl
  | 3, _ => by rw [wordsO, World.cell?_alloc_new]; rfl
  | 4, _ => by rw [wordsO, World.cell?_alloc_new]; rfl
  | k + 5, h => by omega
end Go.Proofs.YtmclpganipfadaaGreatDoor

namespace Go.Proofs.YtmclpganipfadaaGreatDoor
open Go.RowKit
set_option linter.unusedVariables false

def LentPost (bs : List Int) (w : World) (e : Ending) (w' : World) : Prop :=
  ∃ g cap, e = .returned (.slice (some ⟨g, 0, none⟩) bs.length cap) ∧ bs.length + 4 ≤ cap ∧ w'.ownsRow w.heap.size 5 1 (.slice (some ⟨g, 0, none⟩) (bs.length + 4) cap) (bs.length + 4) (bytesOf (bs ++ [201, 202, 203, 204])) ∧ Below w.heap.size w w'
end Go.Proofs.YtmclpganipfadaaGreatDoor

namespace Go.Proofs.YtmclpganipfadaaGreatDoor
open Go.ChangeShapes Go.WideShapes Go.ChangeAt Go.RowKit
set_option linter.unusedVariables false

theorem cell_lt {w : World} {a : Addr} {v : Value} (h : w.cell? a = some v) : a.block < w.heap.size := by
  rcases Nat.lt_or_ge a.block w.heap.size with hlt | hge
  · exact hlt
  · rw [World.cell?, Array.getElem?_eq_none hge] at h; cases h
theorem octet_wf {x : Int} (h : (Lit.int .u8 x).wf = true) : 0 ≤ x ∧ x ≤ 255 := by
  simp [Lit.wf, IntKind.min, IntKind.max, IntKind.signed, IntKind.bits] at h
  omega
/-- What a row tells of a slice of bytes. -/
theorem row_bytes {w : World} {A : Option Addr} {len cap : Nat} {zs : List Int}
    (h : (A = none ∧ len = 0 ∧ cap = 0 ∧ zs = []) ∨ ∃ x, A = some x ∧ len ≤ cap ∧ cap ≤ maxLen ∧ zs.length = cap ∧ (∀ i, i < zs.length → w.cell? (x.add i) = some (.int .u8 (zs.getD i 0))) ∧ ∀ n ∈ zs, (Lit.int .u8 n).wf = true) :
    ∃ l : List Int, l.length = len ∧ Bytes w A l ∧ Octets l ∧ len ≤ cap ∧ len ≤ maxLen ∧ (A = none → cap = 0) := by
  rcases h with ⟨rfl, rfl, rfl, rfl⟩ | ⟨x, rfl, hl, hm, hz, hc, hw⟩
  · exact ⟨[], rfl, fun h => absurd h (by simp), (fun _ h => by cases h), Nat.zero_le _, Nat.zero_le _, fun _ => rfl⟩
  · refine ⟨zs.take len, by rw [List.length_take]; omega, ?_, fun y hy => octet_wf (hw y (List.mem_of_mem_take hy)), hl, by omega, fun e => by cases e⟩
    intro hp
    rw [List.length_take] at hp
    obtain ⟨b, off, rfl, hc'⟩ := ints_at hc (by omega)
    refine ⟨b, off, rfl, cell_lt (hc' 0 (by omega)), fun j hj => ?_⟩
    rw [List.length_take] at hj
    rw [hc' j (by omega), List.getElem?_take, if_pos (by omega)]
    rfl
/-- What a row tells of a slice of numbers. -/
theorem row_ints {w : World} {A : Option Addr} {len cap : Nat} {zs : List Int}
    (h : (A = none ∧ len = 0 ∧ cap = 0 ∧ zs = []) ∨ ∃ x, A = some x ∧ len ≤ cap ∧ cap ≤ maxLen ∧ zs.length = cap ∧ (∀ i, i < zs.length → w.cell? (x.add i) = some (.int .i64 (zs.getD i 0))) ∧ ∀ n ∈ zs, (Lit.int .i64 n).wf = true) :
    ∃ l : List Int, l.length = len ∧ Ints w A l ∧ (∀ x ∈ l, Small x) ∧ len ≤ maxLen := by
  rcases h with ⟨rfl, rfl, _, rfl⟩ | ⟨x, rfl, hl, hm, hz, hc, hw⟩
  · exact ⟨[], rfl, fun h => absurd h (by simp), (fun _ h => by cases h), Nat.zero_le _⟩
  · refine ⟨zs.take len, by rw [List.length_take]; omega, ?_, fun y hy => bounds_i64 (hw y (List.mem_of_mem_take hy)), by omega⟩
    intro hp
    rw [List.length_take] at hp
    obtain ⟨b, off, rfl, hc'⟩ := ints_at hc (by omega)
    refine ⟨b, off, rfl, cell_lt (hc' 0 (by omega)), fun j hj => ?_⟩
    rw [List.length_take] at hj
    rw [hc' j (by omega), List.getElem?_take, if_pos (by omega)]
    rfl

theorem array3 {α : Type} {cs : Array α} (h : cs.size = 3) : ∃ c0 c1 c2, cs = #[c0, c1, c2] := by
  obtain ⟨l⟩ := cs
  match l, h with
  | [a, b, c], _ => exact ⟨a, b, c, rfl⟩
theorem small_wf {n : Int} (h : (Lit.int .i64 n).wf = true) : Small n := ⟨(bounds_i64 h).1, (bounds_i64 h).2⟩
theorem cells_st : Tryz.prog.cellsOf 24 = 3 := by kernel_rfl
theorem cells_i : Tryz.prog.cellsOf 3 = 1 := by kernel_rfl
theorem cells_sl : Tryz.prog.cellsOf 22 = 1 := by kernel_rfl

set_option maxRecDepth 100000 in
theorem open_st {H : Type} {enc : TypeId × Value → H} {W : World} {base : Nat} {held : Bool} {r : Reach} {b0 : Nat} {v : Value} {d : DataW H} {p : List MemPlace} (hv : Value.okWide Tryz.prog W r b0 24 v) (h : DataW.Trod enc Tryz.prog W base (fun _ => true) held 24 v d p) :
    ∃ (t n : Int) (A : Option Addr) (c : Nat) (l : List Int), v = stV t n A l.length c ∧ Small t ∧ Small n ∧ Ints W A l ∧ (∀ x ∈ l, Small x) ∧ l.length ≤ maxLen := by
  obtain ⟨cs, rfl, hsz⟩ := okWide_struct Tryz.underlying24 hv
  obtain ⟨c0, c1, c2, rfl⟩ := array3 (hsz.trans cells_st)
  obtain ⟨fuel, hf⟩ := h
  obtain ⟨y0, y1, y2, n, hx, _, h0, h1, h2⟩ := Go.Deep.trod_struct3 Tryz.underlying24 hf
  simp only [cells_i, cells_sl, Value.cells, List.drop_zero, List.drop_succ_cons, List.take_succ_cons, List.take_zero] at h0 h1 h2
  obtain ⟨t, e0, _, w0⟩ := DataW.trod_int Tryz.underlying3 h0
  obtain ⟨m, e1, _, w1⟩ := DataW.trod_int Tryz.underlying3 h1
  simp at e0 e1
  subst e0 e1
  rcases open_ints Tryz.underlying22 Tryz.underlying3 (by kernel_rfl) h2 with ⟨hcs, _⟩ | ⟨x, len, c, zs, hcs, _, hl, hm, hz, _, hcell, hwz⟩
  · simp at hcs
    subst hcs
    exact ⟨t, m, none, 0, [], rfl, small_wf w0, small_wf w1, (fun h => by simp at h), (fun _ h => by cases h), by simp⟩
  · simp at hcs
    subst hcs
    obtain ⟨l, rfl, hA, hs, hm'⟩ := row_ints (w := W) (A := some x) (len := len) (cap := c) (zs := zs) (.inr ⟨x, rfl, hl, hm, by simpa using hz, hcell, hwz⟩)
    exact ⟨t, m, some x, c, l, rfl, small_wf w0, small_wf w1, hA, hs, hm'⟩
end Go.Proofs.YtmclpganipfadaaGreatDoor
