/- The iterator of parts: cut. -/
import Derived.Test.YtmpglmepmdpjoaaOpBase
import Derived.Test.YtmpglmepmdpjoaaTkA
import Derived.RangeFuncNested
import Derived.RangeFuncBound
import Derived.RangeFuncCalls
import Derived.RangeFuncLeaves
import Derived.RangeFuncBox
import Derived.Shelf.Abstract
import Derived.Shelf.RegionOpen
import Derived.OwnWalkIn
import Derived.TacticsInMore
import Derived.LoopNIn
import Derived.LoopIn
import Derived.Maps.AppendAt
namespace Go.Proofs.Ytmpglmepmdpjoaa
open Go.RowKit Go.Shelf
set_option linter.unusedVariables false

attribute [local go_sem] Oper.semAt_some

/-- A part of the bytes at A: where it begins, its bytes, and the slice that is told. -/
structure Piece (A : Option Addr) (bs : List Int) where
  f : Nat
  p : List Int
  a : Option Addr
  k : Nat
  inn : ∃ u v, bs = u ++ (p ++ v) ∧ f = u.length
  addr : 0 < p.length → ∃ b off, A = some ⟨b, off, none⟩ ∧ a = some ⟨b, off + f, none⟩
  cap : p.length ≤ k

def Piece.pr {A : Option Addr} {bs : List Int} (x : Piece A bs) : Nat × List Int := (x.f, x.p)
def Piece.enc {A : Option Addr} {bs : List Int} (x : Piece A bs) : Array Value := #[.int .i64 (x.f : Int), .slice x.a x.p.length x.k]

theorem Piece.len {A : Option Addr} {bs : List Int} (x : Piece A bs) : x.f + x.p.length ≤ bs.length := by
  obtain ⟨u, v, e1, e2⟩ := x.inn
  have := congrArg List.length e1
  simp at this; omega

theorem Piece.bytes {B : Nat} {w : World} {A : Option Addr} {bs : List Int} (x : Piece A bs) (h : BytesB B w A bs) : BytesB B w x.a x.p := fun hl => by
  obtain ⟨b, off, e, ea⟩ := x.addr hl
  have hlen := x.len
  obtain ⟨b', off', e', hlt, hc⟩ := h (by omega)
  rw [e] at e'
  cases e'
  refine ⟨b, off + x.f, ea, hlt, fun j hj => ?_⟩
  rw [Nat.add_assoc, hc (x.f + j) (by omega)]
  obtain ⟨u, v, e1, e2⟩ := x.inn
  have e3 : bs[x.f + j]? = x.p[j]? := by
    have this : bs[x.f + j]? = (u ++ (x.p ++ v))[x.f + j]? := congrArg (fun z => z[x.f + j]?) e1
    rw [this, List.getElem?_append_right (by omega), e2, Nat.add_sub_cancel_left, List.getElem?_append_left hj]
  rw [e3]

theorem Piece.octets {A : Option Addr} {bs : List Int} (x : Piece A bs) (h : Octets bs) : Octets x.p := fun y hy => by
  obtain ⟨u, v, e1, _⟩ := x.inn
  exact h y (by rw [e1]; simp [hy])

/-- What a round of a loop over cut keeps: all below n₀, and cut's two boxes. -/
structure KeptB (n₀ B1 B2 : Nat) (W W' : World) : Prop where
  below : Below n₀ W W'
  b1 : W'.heap[B1]? = W.heap[B1]?
  b2 : W'.heap[B2]? = W.heap[B2]?

theorem KeptB.refl (n₀ B1 B2 : Nat) (W : World) : KeptB n₀ B1 B2 W W := ⟨Below.refl _ _, rfl, rfl⟩
theorem KeptB.trans {n₀ B1 B2 : Nat} {a b c : World} (h : KeptB n₀ B1 B2 a b) (k : KeptB n₀ B1 B2 b c) : KeptB n₀ B1 B2 a c := ⟨h.below.trans k.below, k.b1.trans h.b1, k.b2.trans h.b2⟩
theorem KeptB.alloc (n₀ B1 B2 : Nat) (W : World) (o : Obj) (h0 : n₀ ≤ W.heap.size) (h1 : B1 < W.heap.size) (h2 : B2 < W.heap.size) : KeptB n₀ B1 B2 W (W.alloc o) :=
  ⟨(Below.refl _ W).alloc h0 o, Below.heap_alloc W o B1 h1, Below.heap_alloc W o B2 h2⟩
theorem KeptB.put {n₀ B1 B2 : Nat} {w : World} (h0 : n₀ ≤ w.heap.size) (h1 : B1 < w.heap.size) (h2 : B2 < w.heap.size) (W : World) (l : Nat) (o o' : Obj) (hl : w.heap.size ≤ l) (h : W.heap[l]? = some o) (hc : o.isCells = false) (hw : o.isWalk = false) : KeptB n₀ B1 B2 W (W.putObj l o') :=
  ⟨belowK_b (w := w) h0 W l o o' hl h hc hw, World.putObj_heap_other (by omega), World.putObj_heap_other (by omega)⟩
theorem KeptB.of_below {n n₀ B1 B2 : Nat} {W W' : World} (h : Below n W W') (h0 : n₀ ≤ n) (h1 : B1 < n) (h2 : B2 < n) : KeptB n₀ B1 B2 W W' := ⟨h.mono h0, h.block _ h1, h.block _ h2⟩
theorem KeptB.set (n₀ B1 B2 : Nat) (W : World) (p : Addr) (v : Value) (h0 : n₀ ≤ p.block) (h1 : B1 ≠ p.block) (h2 : B2 ≠ p.block) : KeptB n₀ B1 B2 W (W.setCell p v) :=
  ⟨(Below.refl _ W).setCell h0 v, Below.heap_setCell _ _ _ _ h1, Below.heap_setCell _ _ _ _ h2⟩

theorem cell_of_heap {W W' : World} {B : Nat} {o : Nat} {v : Value} (h : W'.heap[B]? = W.heap[B]?) (hc : W.cell? ⟨B, o, none⟩ = some v) : W'.cell? ⟨B, o, none⟩ = some v :=
  (World.cell?_of_block (a := ⟨B, o, none⟩) h).trans hc

set_option maxHeartbeats 1000000 in
theorem cut_in (F : Fence) (n : Nat) (h21 : F.fn 57) (hro : F.round = none) (A : Option Addr) (m c : Nat) (sep : Int) (w : World) :
    CallsIn F n Try.prog 57 #[.slice A m c, .int .u8 sep] w fun e w' => e = .returned (.func (.func 71) #[] #[.pointer (some ⟨w.heap.size, 0, none⟩), .pointer (some ⟨w.heap.size + 1, 0, none⟩)]) ∧ w' = (w.alloc (.cells #[.slice A m c] 85)).alloc (.cells #[.int .u8 sep] 5) := by
  refine callsIn_of_wp Try.func57 rfl h21 ?_ hro
  simp only [Try.ntmps57, List.size_toArray, List.length_cons, List.length_nil, Nat.reduceAdd, Nat.reduceSub, Array.replicate_succ, Array.replicate_zero, List.push_toArray, List.append_toArray, List.nil_append, List.cons_append]
  gi_wp2
  go_ret
  exact ⟨rfl, rfl⟩

theorem sub_addr (A : Option Addr) (c f : Nat) (bs p v u : List Int) (W : World) (n₀ : Nat) (hA : BytesB n₀ W A bs) (hc : bs.length ≤ c) (e : bs = u ++ (p ++ v)) (hf : f = u.length) (hp : 0 < p.length) :
    ∃ b off, A = some ⟨b, off, none⟩ ∧ (if c = f then A else A.map (·.add f)) = some ⟨b, off + f, none⟩ := by
  have hl : 0 < bs.length := by rw [e]; simp; omega
  obtain ⟨b, off, rfl, _, _⟩ := hA hl
  refine ⟨b, off, rfl, ?_⟩
  have : c ≠ f := by
    have : bs.length = u.length + (p.length + v.length) := by rw [e]; simp
    omega
  rw [if_neg this]
  simp [Addr.add]

set_option maxRecDepth 100000 in
set_option maxHeartbeats 1000000 in
theorem cut1_in (F : Fence) (n : Nat) (h28 : F.fn 71) (hro : F.round = none) (hn : 1 ≤ n) (l Bb Bs n₀ : Nat) (A : Option Addr) (c : Nat) (bs : List Int) (sep : Int) (hc : bs.length ≤ c) (hm : bs.length ≤ maxLen)
    (J Jx : List (Piece A bs) → World → Prop)
    (hY : ∀ pre x W, J pre W → pre.length < (cuts sep 0 bs).length → YieldAt F (n - 1) Try.prog l (Piece.enc x) W fun e W' =>
      (e = .returned (.bool true) ∧ J (pre ++ [x]) W' ∧ KeptB n₀ Bb Bs W W') ∨ (e = .returned (.bool false) ∧ Jx (pre ++ [x]) W'))
    (W : World) (hBb : W.cell? ⟨Bb, 0, none⟩ = some (.slice A bs.length c)) (hBs : W.cell? ⟨Bs, 0, none⟩ = some (.int .u8 sep)) (hA : BytesB n₀ W A bs) (h0 : J [] W) :
    CallsIn F n Try.prog 71 #[.func (.yield l) #[] #[], .pointer (some ⟨Bb, 0, none⟩), .pointer (some ⟨Bs, 0, none⟩)] W fun e W' => (∃ v, e = .returned v) ∧
      ((∃ ys, ys.map Piece.pr = cuts sep 0 bs ∧ J ys W') ∨ (∃ pre, pre.map Piece.pr <+: cuts sep 0 bs ∧ Jx pre W')) := by
  unfold maxLen at hm
  refine callsIn_of_wp Try.func71 rfl h28 ?_ hro
  simp only [Try.ntmps71, List.size_toArray, List.length_cons, List.length_nil, Nat.reduceAdd, Nat.reduceSub, Array.replicate_succ, Array.replicate_zero, List.push_toArray, List.append_toArray, List.nil_append, List.cons_append]
  gi_wp2
  gi_loopw [4, 9] (fun s4 i wr => ∃ (pre : List (Piece A bs)) (u p r : List Int) (f k : Nat), s4 = .int .i64 f ∧ i = .int .i64 k ∧ f = u.length ∧ k = f + p.length ∧ bs = u ++ (p ++ r) ∧ sep ∉ p ∧ cuts sep 0 bs = pre.map Piece.pr ++ cuts sep f (p ++ r) ∧ J pre wr ∧ KeptB n₀ Bb Bs W wr) (fun s4 i wr => bs.length - (intOf i).toNat)
  case atStart => exact ⟨[], [], [], bs, 0, 0, rfl, rfl, rfl, rfl, rfl, by simp, rfl, h0, KeptB.refl _ _ _ _⟩
  case round =>
    obtain ⟨pre, u, p, r, f, k, rfl, rfl, hfu, hkf, hbs, hsep, hcut, hJs, hkp⟩ := hrel
    have cB := cell_of_heap hkp.b1 hBb
    have cS := cell_of_heap hkp.b2 hBs
    have hlen : bs.length = u.length + p.length + r.length := by rw [hbs]; simp; omega
    cases r with
    | nil =>
      rw [List.append_nil] at hcut
      rw [cuts_none p _ hsep] at hcut
      simp at hlen
      have hp : p.length = bs.length - f := by omega
      obtain ⟨x, hxe, hxp⟩ : ∃ x : Piece A bs, x.enc = #[.int .i64 (f : Int), .slice (if c = f then A else A.map (·.add f)) (bs.length - f) (c - f)] ∧ x.pr = (f, p) :=
        ⟨⟨f, p, if c = f then A else A.map (·.add f), c - f, ⟨u, [], hbs, hfu⟩, sub_addr A c _ bs p [] u W n₀ hA hc hbs hfu, by omega⟩, by rw [← hp]; rfl, rfl⟩
      have hYx := hY pre x wr hJs (by rw [hcut]; simp)
      rw [hxe] at hYx
      obtain ⟨fn, tmps, assign, body, hy, hR⟩ := hYx
      have HC := Lib.hid hcut
      have HX := Lib.hid hxp
      have l1 : f ≤ bs.length := by omega
      have hd : decide (k < bs.length) = false := decide_eq_false (by omega)
      clear hcut hsep hbs hlen hkp hkf hfu hp hxe hxp
      gi_wp2
      all_goals
        refine hR.mono ?_
        rintro e W3 (⟨rfl, hJ3, hk3⟩ | ⟨rfl, hJx3⟩)
        · gi_wp2
          go_end0
          exact ⟨⟨_, rfl⟩, .inl ⟨_, by rw [List.map_append, List.map_cons, List.map_nil, HX.out]; exact HC.out.symm, hJ3⟩⟩
        · gi_wp2
          go_end0
          exact ⟨⟨_, rfl⟩, .inr ⟨_, by rw [List.map_append, List.map_cons, List.map_nil, HX.out, HC.out]; exact List.prefix_refl _, hJx3⟩⟩
    | cons y r =>
      have hlk : k < bs.length := by simp at hlen; omega
      obtain ⟨b, off, rfl, hb, hcs⟩ := hA (by omega)
      have hck := (hkp.below.cell (p := ⟨b, off + k, none⟩) hb).trans (hcs k hlk)
      have hy0 : bs[k]?.getD 0 = y := by
        rw [hbs, List.getElem?_append_right (by omega), List.getElem?_append_right (by omega), show k - u.length - p.length = 0 by omega]; rfl
      rw [hy0] at hck
      have HBS := Lib.hid hbs
      have HLE := Lib.hid hlen
      have HKP := Lib.hid hkp
      have HKF := Lib.hid hkf
      have HFU := Lib.hid hfu
      have HSP := Lib.hid hsep
      have HCT := Lib.hid hcut
      by_cases hys : y = sep
      · subst hys
        rw [cuts_sep p r _ hsep] at hcut
        have hp : p.length = k - f := by omega
        obtain ⟨x, hxe, hxp⟩ : ∃ x : Piece (some ⟨b, off, none⟩) bs, x.enc = #[.int .i64 (f : Int), .slice (some ⟨b, off + f, none⟩) (k - f) (c - f)] ∧ x.pr = (f, p) :=
          ⟨⟨f, p, some ⟨b, off + f, none⟩, c - f, ⟨u, y :: r, hbs, hfu⟩, fun _ => ⟨b, off, rfl, rfl⟩, by omega⟩, by rw [← hp]; rfl, rfl⟩
        have hYx := hY pre x wr hJs (by rw [hcut]; simp)
        rw [hxe] at hYx
        obtain ⟨fn, tmps, assign, body, hy, hR⟩ := hYx
        have HC := Lib.hid hcut
        have HX := Lib.hid hxp
        have l1 : f ≤ k := by omega
        have l2 : k ≤ c := by omega
        have hyy : (y == y) = true := by simp
        clear hcut hsep hbs hlen hkp hkf hfu hp hxe hxp hcs hy0
        gi_wp2
        refine hR.mono ?_
        rintro e W3 (⟨rfl, hJ3, hk3⟩ | ⟨rfl, hJx3⟩)
        · gi_wp2
          go_roundw
          case rel =>
            refine ⟨pre ++ [x], u ++ p ++ [y], [], r, k + 1, k + 1, by go_num, by go_num, ?_, rfl, ?_, by simp, ?_, hJ3, HKP.out.trans hk3⟩
            · have := HKF.out; have := HFU.out; simp; omega
            · rw [HBS.out]; simp
            · rw [HC.out, List.map_append, List.map_cons, List.map_nil, HX.out, HKF.out]; simp
          case measure => simp [intOf]; omega
        · gi_wp2
          refine bodyPost_ret (results_none rfl _ _ _) rfl ?_
          exact ⟨⟨_, rfl⟩, .inr ⟨_, by rw [List.map_append, List.map_cons, List.map_nil, HX.out, HC.out]; exact ⟨_, by rw [List.append_assoc]; rfl⟩, hJx3⟩⟩
      · have hyy : (y == sep) = false := beq_eq_false_iff_ne.2 hys
        clear hcut hsep hbs hlen hkp hkf hfu hcs hy0
        gi_wp2
        go_roundw
        case rel =>
          refine ⟨pre, u, p ++ [y], r, f, k + 1, rfl, by go_num, HFU.out, ?_, ?_, ?_, ?_, hJs, HKP.out⟩
          · have := HKF.out; simp; omega
          · rw [HBS.out]; simp
          · have := HSP.out; simp [this]; exact fun e => hys e.symm
          · rw [HCT.out]; simp
        case measure => simp [intOf]; omega

/-- cut hands back a value that goes through all parts, in their order. -/
theorem cut_stops (F : Fence) (n : Nat) (h28 : F.fn 71) (hro : F.round = none) (hn : 1 ≤ n) (Bb Bs n₀ : Nat) (A : Option Addr) (c : Nat) (bs : List Int) (sep : Int) (hc : bs.length ≤ c) (hm : bs.length ≤ maxLen) (w : World)
    (hBb : Bb < w.heap.size) (hBs : Bs < w.heap.size) (hn₀ : n₀ ≤ w.heap.size) (cBb : w.cell? ⟨Bb, 0, none⟩ = some (.slice A bs.length c)) (cBs : w.cell? ⟨Bs, 0, none⟩ = some (.int .u8 sep)) (hA : BytesB n₀ w A bs) :
    SeqStopsK F n Try.prog 71 #[.pointer (some ⟨Bb, 0, none⟩), .pointer (some ⟨Bs, 0, none⟩)] (Piece.enc (A := A) (bs := bs)) (KeptB n₀ Bb Bs) (fun ys => ys.map Piece.pr = cuts sep 0 bs) (fun pre => pre.map Piece.pr <+: cuts sep 0 bs) (cuts sep 0 bs).length w := fun l J Jx W hW _ _ hY h0 =>
  cut1_in F n h28 hro hn l Bb Bs n₀ A c bs sep hc hm J Jx hY W ((hW.cell (p := ⟨Bb, 0, none⟩) hBb).trans cBb) ((hW.cell (p := ⟨Bs, 0, none⟩) hBs).trans cBs) (hA.below (hW.mono hn₀)) h0
end Go.Proofs.Ytmpglmepmdpjoaa
