/- Contracts of the layer mapping: the iterator entries. -/
import Derived.Test.YtdanihadkchbbaaMpPlain
import Derived.Test.YtdanihadkchbbaaMaS
import Derived.RangeFuncNested
import Derived.RangeFuncBound
import Derived.RangeFuncCalls
import Derived.RangeFuncLeaves
import Derived.RangeFuncBox
import Derived.Shelf.Abstract
import Derived.Shelf.RegionOpen
import Derived.OwnWalkIn
import Derived.TacticsInMore
import Derived.LoopNIn
import Derived.LoopIn
namespace Go.Proofs.Ytdanihadkchbbaa
open Go.RowKit Go.Shelf Go.Maps
set_option linter.unusedVariables false
set_option linter.unusedSimpArgs false

attribute [local go_sem] Oper.semAt_some

/-- Numbers that lie below B. -/
def IntsB (B : Nat) (w : World) (A : Option Addr) (l : List Int) : Prop :=
  0 < l.length → ∃ b off, A = some ⟨b, off, none⟩ ∧ b < B ∧ ∀ j, j < l.length → w.cell? ⟨b, off + j, none⟩ = some (.int .i64 (l[j]?.getD 0))
theorem IntsB.below {B : Nat} {w w' : World} {A : Option Addr} {l : List Int} (h : IntsB B w A l) (hb : Below B w w') : IntsB B w' A l := fun hl => by
  obtain ⟨b, off, e, hlt, hc⟩ := h hl
  exact ⟨b, off, e, hlt, fun j hj => (hb.cell (p := ⟨b, off + j, none⟩) hlt).trans (hc j hj)⟩

/-- What lies below n₀ lies as it lay, and so does block B. -/
structure KeptO (n₀ B : Nat) (W W' : World) : Prop where
  below : Below n₀ W W'
  box : W'.heap[B]? = W.heap[B]?
theorem KeptO.refl (n₀ B : Nat) (W : World) : KeptO n₀ B W W := ⟨Below.refl _ _, rfl⟩
theorem KeptO.trans {n₀ B : Nat} {a b c : World} (h : KeptO n₀ B a b) (k : KeptO n₀ B b c) : KeptO n₀ B a c := ⟨h.below.trans k.below, k.box.trans h.box⟩
theorem KeptO.put {n₀ B : Nat} {w : World} (h0 : n₀ ≤ w.heap.size) (h1 : B < w.heap.size) (W : World) (l : Nat) (o o' : Obj) (hl : w.heap.size ≤ l) (h : W.heap[l]? = some o) (hc : o.isCells = false) (hw : o.isWalk = false) : KeptO n₀ B W (W.putObj l o') :=
  ⟨belowK_b (w := w) h0 W l o o' hl h hc hw, World.putObj_heap_other (by omega)⟩
theorem KeptO.set (n₀ B : Nat) (W : World) (p : Addr) (v : Value) (h0 : n₀ ≤ p.block) (h1 : B ≠ p.block) : KeptO n₀ B W (W.setCell p v) :=
  ⟨(Below.refl _ W).setCell h0 v, Below.heap_setCell _ _ _ _ h1⟩
theorem KeptO.drew {n₀ B : Nat} {W W' : World} (h : KeptO n₀ B W W') : KeptO n₀ B W W'.drew := ⟨h.below.drew, h.box⟩
theorem cell_of_heap {W W' : World} {B : Nat} {o : Nat} {v : Value} (h : W'.heap[B]? = W.heap[B]?) (hc : W.cell? ⟨B, o, none⟩ = some v) : W'.cell? ⟨B, o, none⟩ = some v :=
  (World.cell?_of_block (a := ⟨B, o, none⟩) h).trans hc

section
variable {F : Fence} {n : Nat} {P : Program} {md : Region.Mode} {ops : Array Oper} {Q : Exit → Act → World → Prop}
theorem any_suff {T G : Prop} (h : T) (k : T → G) : G := k h
theorem op_reads {i : Nat} {o : Oper} {v : Value} {K : Act → World → Prop} {a : Act} {w : World} (hro : F.round = none) (hi : ops[i]? = some o) (hw : Region.wanted o (yielded ops a.tmps) = true) (hb : o.about P w a.eval = none)
    (hx : (execOp a.eval o).run P w = .ok (.value v) w) (h : K (a.put o.dst v) w) : wpOpIn F n P ops Q i K a w := by
  unfold wpOpIn
  simp only [hi, hw, if_true, Oper.wpIn, hro, Oper.semAt_none, hx, Oper.uponIn]
  exact ⟨fun f hf => (by rw [hb] at hf; cases hf), h⟩
/-- One operation alone may come up, and it reads. -/
theorem any_one {i : Nat} {o : Oper} {v : Value} {fuel : Nat} {listed : Array Bool} {a : Act} {w : World} (hro : F.round = none) (hr : Region.ready md ops listed = [i]) (hi : ops[i]? = some o) (hw : Region.wanted o (yielded ops a.tmps) = true) (hb : o.about P w a.eval = none)
    (hx : (execOp a.eval o).run P w = .ok (.value v) w) (h : wpAnyIn F n P md ops Q fuel (listed.setIfInBounds i true) (a.put o.dst v) w) : wpAnyIn F n P md ops Q (fuel + 1) listed a w :=
  wpAnyIn_all hr (by simp) fun k hk => by
    obtain rfl : k = i := by simpa using hk
    exact op_reads hro hi hw hb hx h
/-- Either of two operations may come up, and both read. -/
theorem any_two {i j : Nat} {o p : Oper} {v u : Value} {fuel : Nat} {listed : Array Bool} {a : Act} {w : World} (hro : F.round = none) (hr : Region.ready md ops listed = [i, j]) (hi : ops[i]? = some o) (hw : Region.wanted o (yielded ops a.tmps) = true) (hb : o.about P w a.eval = none)
    (hx : (execOp a.eval o).run P w = .ok (.value v) w) (hj : ops[j]? = some p) (hw2 : Region.wanted p (yielded ops a.tmps) = true) (hb2 : p.about P w a.eval = none) (hx2 : (execOp a.eval p).run P w = .ok (.value u) w)
    (h : wpAnyIn F n P md ops Q fuel (listed.setIfInBounds i true) (a.put o.dst v) w) (h2 : wpAnyIn F n P md ops Q fuel (listed.setIfInBounds j true) (a.put p.dst u) w) : wpAnyIn F n P md ops Q (fuel + 1) listed a w :=
  wpAnyIn_all hr (by simp) fun k hk => by
    simp only [List.mem_cons, List.not_mem_nil, or_false] at hk
    rcases hk with rfl | rfl
    · exact op_reads hro hi hw hb hx h
    · exact op_reads hro hj hw2 hb2 hx2 h2
end

theorem entries_in (F : Fence) (m : Nat) (h1 : F.fn 43) (hro : F.round = none) (A : Option Addr) (k c : Nat) (w : World) :
    CallsIn F m Try.prog 43 #[.slice A k c] w fun e w' => e = .returned (.func (.func 50) #[] #[.pointer (some ⟨w.heap.size, 0, none⟩)]) ∧ w' = w.alloc (.cells #[.slice A k c] 22) := by
  refine callsIn_of_wp Try.func43 rfl h1 ?_ hro
  simp only [Try.ntmps43, List.size_toArray, List.length_cons, List.length_nil, Nat.reduceAdd, Nat.reduceSub, Array.replicate_succ, Array.replicate_zero, List.push_toArray, List.append_toArray, List.nil_append, List.cons_append]
  gi_wp2
  go_ret
  exact ⟨rfl, rfl⟩

set_option maxRecDepth 100000 in
set_option maxHeartbeats 1000000 in
theorem entries1_in (m : Nat) (hm : 1 ≤ m) (lp Bl n₀ : Nat) (A : Option Addr) (c : Nat) (l : List Int) (hlen : l.length ≤ 1000) (J Jx : List (Int × Int) → World → Prop)
    (hJd : ∀ pre W, J pre W → J pre W.drew)
    (hY : ∀ pre (x : Int × Int) W, J pre W → pre.length < (duos l).length → YieldAt Fence.wide (m - 1) Try.prog lp #[.int .i64 x.1, .int .i64 x.2] W fun e W' =>
      (e = .returned (.bool true) ∧ J (pre ++ [x]) W' ∧ KeptO n₀ Bl W W') ∨ (e = .returned (.bool false) ∧ Jx (pre ++ [x]) W'))
    (W : World) (hBl : W.cell? ⟨Bl, 0, none⟩ = some (.slice A l.length c)) (hA : IntsB n₀ W A l) (h0 : J [] W) :
    CallsIn Fence.wide m Try.prog 50 #[.func (.yield lp) #[] #[], .pointer (some ⟨Bl, 0, none⟩)] W fun e W' => (∃ v, e = .returned v) ∧
      ((∃ ys, ys = duos l ∧ J ys W') ∨ (∃ pre, pre <+: duos l ∧ Jx pre W')) := by
  refine callsIn_of_wp Try.func50 rfl trivial ?_ rfl
  simp only [Try.ntmps50, List.size_toArray, List.length_cons, List.length_nil, Nat.reduceAdd, Nat.reduceSub, Array.replicate_succ, Array.replicate_zero, List.push_toArray, List.append_toArray, List.nil_append, List.cons_append]
  have HBl := Lib.hid hBl
  have hdl := duos_len l
  gi_wp2
  gi_loopw [3] (fun s3 wr => ∃ (k n : Nat), n = 2 * k ∧ k ≤ (duos l).length ∧ s3 = .int .i64 n ∧ J ((duos l).take k) wr ∧ KeptO n₀ Bl W wr) (fun s3 wr => l.length - (intOf s3).toNat)
  case atStart => exact ⟨0, 0, rfl, Nat.zero_le _, rfl, h0, KeptO.refl _ _ _⟩
  case round =>
    obtain ⟨k, n, hn, hk, rfl, hJ, hK⟩ := hrel
    have HJ := Lib.hid hJ
    have HK := Lib.hid hK
    have HA := Lib.hid (hA.below hK.below)
    have cl := cell_of_heap hK.box HBl.out
    clear hJ hK
    by_cases hlt : n + 1 < l.length
    · obtain ⟨b, off, rfl, hb, hc⟩ := HA.out (by omega)
      have ck := hc n (by omega)
      have cv := hc (n + 1) hlt
      have hg := duos_get l k (by omega)
      rw [← hn] at hg
      obtain ⟨x, hx⟩ : ∃ x, l[n]?.getD 0 = x := ⟨_, rfl⟩
      obtain ⟨y, hy⟩ : ∃ y, l[n + 1]?.getD 0 = y := ⟨_, rfl⟩
      rw [hx, hy] at hg
      rw [hx] at ck
      rw [hy] at cv
      have hst : (duos l).take (k + 1) = (duos l).take k ++ [(x, y)] := by rw [List.take_add_one, hg]; rfl
      have g0 : (0 : Int) ≤ (n : Int) := by omega
      have g1 : (n : Int) < (l.length : Int) := by omega
      have g2 : decide ((n : Int) + 1 < (l.length : Int)) = true := decide_eq_true (by omega)
      have g3 : (0 : Int) ≤ (n : Int) + 1 := by omega
      have g4 : (n : Int) + 1 < (l.length : Int) := by omega
      obtain ⟨n1, hn1⟩ : ∃ n1, n1 = n + 1 := ⟨_, rfl⟩
      rw [← hn1] at cv
      have g5 : IntKind.i64.wrap ((n : Int) + 1) = (n1 : Int) := by rw [IntWalk.i64_left]; unfold wrap64; omega
      have g6 : (0 : Int) ≤ (n1 : Int) := by omega
      have g7 : (n1 : Int) < (l.length : Int) := by omega
      have g8 : decide ((n1 : Int) < (l.length : Int)) = true := decide_eq_true (by omega)
      have mixed : Try.prog.follows .mixedOrders = true := by kernel_rfl
      obtain ⟨fn, tmps, assign, body, hy2, hR⟩ := hY ((duos l).take k) (x, y) wr.drew (hJd _ _ HJ.out) (by rw [List.length_take]; omega)
      rw [← hst] at hR
      dsimp only at hy2
      have HST := Lib.hid hst
      have HN := Lib.hid hn
      have HN1 := Lib.hid hn1
      clear hst hg hx hy hc hn hn1
      gi_wp2_with fail
      refine wpIn_region_any mixed ?_
      show wpAnyIn Fence.wide m Try.prog .any _ _ 12 #[false, false, false, false, false, false, false, false, false, false, false, false] _ wr.drew
      refine any_suff (T := ?T) ?leaf (fun key => ?tree)
      case tree =>
        -- TREE
        refine wpAnyIn_take (i := 0) (v := ?qv1) rfl rfl (by kernel_rfl) (by kernel_rfl) (by kernel_rfl) (fun _ _ _ h => h) ⟨Or.inl ⟨by rfl, ?qx1⟩, fun _ => rfl⟩ ?qn1
        case qx1 => intro w'; go_simp; try with_reducible rfl
        simp only [Act.put, List.getElem_toArray, List.getElem_cons_zero, List.getElem_cons_succ, List.setIfInBounds_toArray, List.set_cons_zero, List.set_cons_succ]
        refine wpAnyIn_take (i := 2) (v := ?qv2) rfl rfl (by kernel_rfl) (by kernel_rfl) (by kernel_rfl) (fun _ _ _ h => h) ⟨Or.inl ⟨by rfl, ?qx2⟩, fun _ => rfl⟩ ?qn2
        case qx2 => intro w'; go_simp; try with_reducible rfl
        simp only [Act.put, List.getElem_toArray, List.getElem_cons_zero, List.getElem_cons_succ, List.setIfInBounds_toArray, List.set_cons_zero, List.set_cons_succ]
        refine wpAnyIn_take (i := 6) (v := ?qv3) rfl rfl (by kernel_rfl) (by kernel_rfl) (by kernel_rfl) (fun _ _ _ h => h) ⟨Or.inl ⟨by rfl, ?qx3⟩, fun _ => rfl⟩ ?qn3
        case qx3 => intro w'; go_simp; try with_reducible rfl
        simp only [Act.put, List.getElem_toArray, List.getElem_cons_zero, List.getElem_cons_succ, List.setIfInBounds_toArray, List.set_cons_zero, List.set_cons_succ]
        refine wpAnyIn_take (i := 7) (v := ?qv4) rfl rfl (by kernel_rfl) (by kernel_rfl) (by kernel_rfl) (fun _ _ _ h => h) ⟨Or.inl ⟨by rfl, ?qx4⟩, fun _ => rfl⟩ ?qn4
        case qx4 => intro w'; go_simp; try with_reducible rfl
        simp only [Act.put, List.getElem_toArray, List.getElem_cons_zero, List.getElem_cons_succ, List.setIfInBounds_toArray, List.set_cons_zero, List.set_cons_succ]
        refine any_two (i := 1) (j := 5) (v := ?qv5) (u := ?qu5) rfl (by kernel_rfl) rfl (by rfl) rfl ?qx5 rfl (by rfl) rfl ?qy5 ?qn5 ?qm5
        case qx5 => go_simp; try with_reducible rfl
        case qy5 => go_simp; try with_reducible rfl
        case qn5 =>
          simp only [Act.put, List.getElem_toArray, List.getElem_cons_zero, List.getElem_cons_succ, List.setIfInBounds_toArray, List.set_cons_zero, List.set_cons_succ]
          refine wpAnyIn_take (i := 3) (v := ?qv6) rfl rfl (by kernel_rfl) (by kernel_rfl) (by kernel_rfl) (fun _ _ _ h => h) ⟨Or.inl ⟨by rfl, ?qx6⟩, fun _ => rfl⟩ ?qn6
          case qx6 => intro w'; go_simp; try with_reducible rfl
          simp only [Act.put, List.getElem_toArray, List.getElem_cons_zero, List.getElem_cons_succ, List.setIfInBounds_toArray, List.set_cons_zero, List.set_cons_succ]
          refine any_two (i := 4) (j := 5) (v := ?qv7) (u := ?qu7) rfl (by kernel_rfl) rfl (by rfl) rfl ?qx7 rfl (by rfl) rfl ?qy7 ?qn7 ?qm7
          case qx7 => go_simp; try with_reducible rfl
          case qy7 => go_simp; try with_reducible rfl
          case qn7 =>
            simp only [Act.put, List.getElem_toArray, List.getElem_cons_zero, List.getElem_cons_succ, List.setIfInBounds_toArray, List.set_cons_zero, List.set_cons_succ]
            refine any_one (i := 5) (v := ?qv8) rfl (by kernel_rfl) rfl (by rfl) rfl ?qx8 ?qn8
            case qx8 => go_simp; try with_reducible rfl
            simp only [Act.put, List.getElem_toArray, List.getElem_cons_zero, List.getElem_cons_succ, List.setIfInBounds_toArray, List.set_cons_zero, List.set_cons_succ]
            refine wpAnyIn_take (i := 8) (v := ?qv9) rfl rfl (by kernel_rfl) (by kernel_rfl) (by kernel_rfl) (fun _ _ _ h => h) ⟨Or.inl ⟨by rfl, ?qx9⟩, fun _ => rfl⟩ ?qn9
            case qx9 => intro w'; go_simp; try with_reducible rfl
            simp only [Act.put, List.getElem_toArray, List.getElem_cons_zero, List.getElem_cons_succ, List.setIfInBounds_toArray, List.set_cons_zero, List.set_cons_succ]
            refine any_one (i := 9) (v := ?qv10) rfl (by kernel_rfl) rfl (by rfl) rfl ?qx10 ?qn10
            case qx10 => go_simp; try with_reducible rfl
            simp only [Act.put, List.getElem_toArray, List.getElem_cons_zero, List.getElem_cons_succ, List.setIfInBounds_toArray, List.set_cons_zero, List.set_cons_succ]
            exact key
          case qm7 =>
            simp only [Act.put, List.getElem_toArray, List.getElem_cons_zero, List.getElem_cons_succ, List.setIfInBounds_toArray, List.set_cons_zero, List.set_cons_succ]
            refine wpAnyIn_take (i := 8) (v := ?qv12) rfl rfl (by kernel_rfl) (by kernel_rfl) (by kernel_rfl) (fun _ _ _ h => h) ⟨Or.inl ⟨by rfl, ?qx12⟩, fun _ => rfl⟩ ?qn12
            case qx12 => intro w'; go_simp; try with_reducible rfl
            simp only [Act.put, List.getElem_toArray, List.getElem_cons_zero, List.getElem_cons_succ, List.setIfInBounds_toArray, List.set_cons_zero, List.set_cons_succ]
            refine any_two (i := 4) (j := 9) (v := ?qv13) (u := ?qu13) rfl (by kernel_rfl) rfl (by rfl) rfl ?qx13 rfl (by rfl) rfl ?qy13 ?qn13 ?qm13
            case qx13 => go_simp; try with_reducible rfl
            case qy13 => go_simp; try with_reducible rfl
            case qn13 =>
              simp only [Act.put, List.getElem_toArray, List.getElem_cons_zero, List.getElem_cons_succ, List.setIfInBounds_toArray, List.set_cons_zero, List.set_cons_succ]
              refine any_one (i := 9) (v := ?qv14) rfl (by kernel_rfl) rfl (by rfl) rfl ?qx14 ?qn14
              case qx14 => go_simp; try with_reducible rfl
              simp only [Act.put, List.getElem_toArray, List.getElem_cons_zero, List.getElem_cons_succ, List.setIfInBounds_toArray, List.set_cons_zero, List.set_cons_succ]
              exact key
            case qm13 =>
              simp only [Act.put, List.getElem_toArray, List.getElem_cons_zero, List.getElem_cons_succ, List.setIfInBounds_toArray, List.set_cons_zero, List.set_cons_succ]
              refine any_one (i := 4) (v := ?qv16) rfl (by kernel_rfl) rfl (by rfl) rfl ?qx16 ?qn16
              case qx16 => go_simp; try with_reducible rfl
              simp only [Act.put, List.getElem_toArray, List.getElem_cons_zero, List.getElem_cons_succ, List.setIfInBounds_toArray, List.set_cons_zero, List.set_cons_succ]
              exact key
        case qm5 =>
          simp only [Act.put, List.getElem_toArray, List.getElem_cons_zero, List.getElem_cons_succ, List.setIfInBounds_toArray, List.set_cons_zero, List.set_cons_succ]
          refine wpAnyIn_take (i := 8) (v := ?qv18) rfl rfl (by kernel_rfl) (by kernel_rfl) (by kernel_rfl) (fun _ _ _ h => h) ⟨Or.inl ⟨by rfl, ?qx18⟩, fun _ => rfl⟩ ?qn18
          case qx18 => intro w'; go_simp; try with_reducible rfl
          simp only [Act.put, List.getElem_toArray, List.getElem_cons_zero, List.getElem_cons_succ, List.setIfInBounds_toArray, List.set_cons_zero, List.set_cons_succ]
          refine any_two (i := 1) (j := 9) (v := ?qv19) (u := ?qu19) rfl (by kernel_rfl) rfl (by rfl) rfl ?qx19 rfl (by rfl) rfl ?qy19 ?qn19 ?qm19
          case qx19 => go_simp; try with_reducible rfl
          case qy19 => go_simp; try with_reducible rfl
          case qn19 =>
            simp only [Act.put, List.getElem_toArray, List.getElem_cons_zero, List.getElem_cons_succ, List.setIfInBounds_toArray, List.set_cons_zero, List.set_cons_succ]
            refine wpAnyIn_take (i := 3) (v := ?qv20) rfl rfl (by kernel_rfl) (by kernel_rfl) (by kernel_rfl) (fun _ _ _ h => h) ⟨Or.inl ⟨by rfl, ?qx20⟩, fun _ => rfl⟩ ?qn20
            case qx20 => intro w'; go_simp; try with_reducible rfl
            simp only [Act.put, List.getElem_toArray, List.getElem_cons_zero, List.getElem_cons_succ, List.setIfInBounds_toArray, List.set_cons_zero, List.set_cons_succ]
            refine any_two (i := 4) (j := 9) (v := ?qv21) (u := ?qu21) rfl (by kernel_rfl) rfl (by rfl) rfl ?qx21 rfl (by rfl) rfl ?qy21 ?qn21 ?qm21
            case qx21 => go_simp; try with_reducible rfl
            case qy21 => go_simp; try with_reducible rfl
            case qn21 =>
              simp only [Act.put, List.getElem_toArray, List.getElem_cons_zero, List.getElem_cons_succ, List.setIfInBounds_toArray, List.set_cons_zero, List.set_cons_succ]
              refine any_one (i := 9) (v := ?qv22) rfl (by kernel_rfl) rfl (by rfl) rfl ?qx22 ?qn22
              case qx22 => go_simp; try with_reducible rfl
              simp only [Act.put, List.getElem_toArray, List.getElem_cons_zero, List.getElem_cons_succ, List.setIfInBounds_toArray, List.set_cons_zero, List.set_cons_succ]
              exact key
            case qm21 =>
              simp only [Act.put, List.getElem_toArray, List.getElem_cons_zero, List.getElem_cons_succ, List.setIfInBounds_toArray, List.set_cons_zero, List.set_cons_succ]
              refine any_one (i := 4) (v := ?qv24) rfl (by kernel_rfl) rfl (by rfl) rfl ?qx24 ?qn24
              case qx24 => go_simp; try with_reducible rfl
              simp only [Act.put, List.getElem_toArray, List.getElem_cons_zero, List.getElem_cons_succ, List.setIfInBounds_toArray, List.set_cons_zero, List.set_cons_succ]
              exact key
          case qm19 =>
            simp only [Act.put, List.getElem_toArray, List.getElem_cons_zero, List.getElem_cons_succ, List.setIfInBounds_toArray, List.set_cons_zero, List.set_cons_succ]
            refine any_one (i := 1) (v := ?qv26) rfl (by kernel_rfl) rfl (by rfl) rfl ?qx26 ?qn26
            case qx26 => go_simp; try with_reducible rfl
            simp only [Act.put, List.getElem_toArray, List.getElem_cons_zero, List.getElem_cons_succ, List.setIfInBounds_toArray, List.set_cons_zero, List.set_cons_succ]
            refine wpAnyIn_take (i := 3) (v := ?qv27) rfl rfl (by kernel_rfl) (by kernel_rfl) (by kernel_rfl) (fun _ _ _ h => h) ⟨Or.inl ⟨by rfl, ?qx27⟩, fun _ => rfl⟩ ?qn27
            case qx27 => intro w'; go_simp; try with_reducible rfl
            simp only [Act.put, List.getElem_toArray, List.getElem_cons_zero, List.getElem_cons_succ, List.setIfInBounds_toArray, List.set_cons_zero, List.set_cons_succ]
            refine any_one (i := 4) (v := ?qv28) rfl (by kernel_rfl) rfl (by rfl) rfl ?qx28 ?qn28
            case qx28 => go_simp; try with_reducible rfl
            simp only [Act.put, List.getElem_toArray, List.getElem_cons_zero, List.getElem_cons_succ, List.setIfInBounds_toArray, List.set_cons_zero, List.set_cons_succ]
            exact key
        -- END
      case leaf =>
        refine wpAnyIn_ready (rs := [10]) (by kernel_rfl) (by simp) (AllReadyIn.cons rfl (fun K hK => ?_) AllReadyIn.nil)
        go_simp
        refine hR.mono ?_
        rintro e W3 (⟨rfl, hJ3, hk3⟩ | ⟨rfl, hJx3⟩)
        · refine hK _ _ ?_
          clear hK K
          refine wpAnyIn_take (i := 11) (v := ?_) rfl rfl (by kernel_rfl) (by kernel_rfl) (by kernel_rfl) (fun _ _ _ h => h) ⟨Or.inl ⟨by rfl, fun w' => by go_simp; try with_reducible rfl⟩, fun _ => rfl⟩ ?_
          refine wpAnyIn_done (by kernel_rfl) ?_ _
          simp only [Act.put, List.getElem_toArray, List.getElem_cons_zero, List.getElem_cons_succ, List.setIfInBounds_toArray, List.set_cons_zero, List.set_cons_succ]
          gi_wp2
          go_roundw
          case rel => exact ⟨k + 1, n + 2, by have := HN.out; omega, by have := HN.out; omega, by go_num, hJ3, HK.out.trans ((KeptO.refl _ _ _).drew.trans hk3)⟩
          case measure => simp [intOf]; omega
        · refine hK _ _ ?_
          clear hK K
          refine wpAnyIn_take (i := 11) (v := ?_) rfl rfl (by kernel_rfl) (by kernel_rfl) (by kernel_rfl) (fun _ _ _ h => h) ⟨Or.inl ⟨by rfl, fun w' => by go_simp; try with_reducible rfl⟩, fun _ => rfl⟩ ?_
          refine wpAnyIn_done (by kernel_rfl) ?_ _
          simp only [Act.put, List.getElem_toArray, List.getElem_cons_zero, List.getElem_cons_succ, List.setIfInBounds_toArray, List.set_cons_zero, List.set_cons_succ]
          gi_wp2
          refine bodyPost_ret (results_none rfl _ _ _) rfl ?_
          exact ⟨⟨_, rfl⟩, .inr ⟨_, List.take_prefix _ _, hJx3⟩⟩
    · have g2 : decide ((n : Int) + 1 < (l.length : Int)) = false := decide_eq_false (by omega)
      gi_wp2
      go_end0
      refine ⟨⟨_, rfl⟩, .inl ⟨_, rfl, ?_⟩⟩
      have := HJ.out
      rwa [List.take_of_length_le (by omega)] at this

theorem entries_stops (m : Nat) (hm : 1 ≤ m) (Bl n₀ : Nat) (A : Option Addr) (c : Nat) (l : List Int) (hlen : l.length ≤ 1000) (w : World) (hBl : Bl < w.heap.size) (hn₀ : n₀ ≤ w.heap.size)
    (hcl : w.cell? ⟨Bl, 0, none⟩ = some (.slice A l.length c)) (hA : IntsB n₀ w A l) :
    SeqStopsK Fence.wide m Try.prog 50 #[.pointer (some ⟨Bl, 0, none⟩)] (fun x : Int × Int => #[Value.int .i64 x.1, Value.int .i64 x.2]) (KeptO n₀ Bl) (fun ys => ys = duos l) (fun pre => pre <+: duos l) (duos l).length w := fun lp J Jx W hW hJ _ hY h0 =>
  entries1_in m hm lp Bl n₀ A c l hlen J Jx (fun pre W h => hJ pre W _ none h ⟨rfl, rfl, rfl, Nat.le_refl _, fun _ _ _ => rfl⟩ (fun r e => by cases e)) hY W ((hW.cell (p := ⟨Bl, 0, none⟩) hBl).trans hcl) (hA.below (hW.mono hn₀)) h0
end Go.Proofs.Ytdanihadkchbbaa
