/- The layer machine: the iterator of states. -/
import Derived.Test.YtmclpganipfadaaGreatDoorMcD
namespace Go.Proofs.YtmclpganipfadaaGreatDoor
open Go.RowKit Go.Shelf Go.Maps
set_option linter.unusedVariables false

attribute [local go_sem] Oper.semAt_some

/-- What the iterator hands over: a state (its list) and what an operation came to. -/
structure Yd where
  A : Option Addr
  c : Nat
  p : Ans
def Yd.encs (x : Yd) : Array Value := #[.agg #[.int .i64 x.p.t, .int .i64 x.p.n, .slice x.A x.p.l.length x.c], .agg #[.int .i64 x.p.k, .int .i64 x.p.r, .int .i64 x.p.e]]
def Yd.rx (n₀ : Nat) (x : Yd) (W : World) : Prop := W.ownsRow n₀ 3 1 (.slice x.A x.p.l.length x.c) x.p.l.length (intsOf x.p.l)

theorem states_in (F : Fence) (m : Nat) (h1 : F.fn 33) (hro : F.round = none) (t n : Int) (A : Option Addr) (k c : Nat) (Ao : Option Addr) (no co : Nat) (w : World) :
    CallsIn F m Tryz.prog 33 #[.agg #[.int .i64 t, .int .i64 n, .slice A k c], .slice Ao no co] w fun e w' => e = .returned (.func (.func 51) #[] #[.pointer (some ⟨w.heap.size, 0, none⟩), .pointer (some ⟨w.heap.size + 1, 0, none⟩)]) ∧ w' = (w.alloc (.cells #[.int .i64 t, .int .i64 n, .slice A k c] 24)).alloc (.cells #[.slice Ao no co] 41) := by
  refine callsIn_of_wp Tryz.func33 rfl h1 ?_ hro
  simp only [Tryz.ntmps33, List.size_toArray, List.length_cons, List.length_nil, Nat.reduceAdd, Nat.reduceSub, Array.replicate_succ, Array.replicate_zero, List.push_toArray, List.append_toArray, List.nil_append, List.cons_append]
  gi_wp2
  go_ret
  exact ⟨rfl, rfl⟩

set_option maxRecDepth 100000 in
set_option maxHeartbeats 2000000 in
theorem states1_in (m : Nat) (hm : 1 ≤ m) (lp Bs Bl n₀ hi : Nat) (s : Sta) (A : Option Addr) (c : Nat) (Ao : Option Addr) (co : Nat) (ops : List Opr) (hlen : s.l.length + 2 * ops.length ≤ 800) (hc : s.l.length ≤ c) (hsm : ∀ o ∈ ops, Small o.a)
    (J Jx : List Yd → World → Prop) (W : World) (hJ : AfarT W.heap.size 24 J) (hJx : AfarT W.heap.size 24 Jx) (hn : n₀ ≤ hi) (hh : hi ≤ W.heap.size) (hs1 : hi ≤ Bs) (hs2 : hi ≤ Bl)
    (hY : ∀ pre (x : Yd) W1, J pre W1 → x.rx hi W1 → pre.length < ops.length → YieldAt Fence.wide (m - 1) Tryz.prog lp x.encs W1 fun e W' => (e = .returned (.bool true) ∧ J (pre ++ [x]) W' ∧ KeptM n₀ hi W1 W') ∨ (e = .returned (.bool false) ∧ Jx (pre ++ [x]) W'))
    (hBs : Holds W Bs 24 #[.int .i64 s.t, .int .i64 s.n, .slice A s.l.length c]) (hBl : Holds W Bl 41 #[.slice Ao ops.length co]) (hA : IntsB n₀ W A s.l) (hO : OprsB n₀ W Ao ops) (h0 : J [] W) :
    CallsIn Fence.wide m Tryz.prog 51 #[.func (.yield lp) #[] #[], .pointer (some ⟨Bs, 0, none⟩), .pointer (some ⟨Bl, 0, none⟩)] W fun e W' => (∃ v, e = .returned v) ∧ ((∃ xs : List Yd, xs.map (·.p) = answers s ops ∧ J xs W') ∨ ∃ pre : List Yd, pre.map (·.p) <+: answers s ops ∧ Jx pre W') := by
  refine callsIn_of_wp Tryz.func51 rfl trivial ?_ rfl
  simp only [Tryz.ntmps51, List.size_toArray, List.length_cons, List.length_nil, Nat.reduceAdd, Nat.reduceSub, Array.replicate_succ, Array.replicate_zero, List.push_toArray, List.append_toArray, List.nil_append, List.cons_append]
  have b0 : W.cell? ⟨Bs, 0, none⟩ = some (.int .i64 s.t) := hBs.c rfl
  have b1 : W.cell? ⟨Bs, 1, none⟩ = some (.int .i64 s.n) := hBs.c rfl
  have b2 : W.cell? ⟨Bs, 2, none⟩ = some (.slice A s.l.length c) := hBs.c rfl
  have l0 : W.cell? ⟨Bl, 0, none⟩ = some (.slice Ao ops.length co) := hBl.c rfl
  have lBl := hBl.lt
  have l1 : (W.alloc (.cells #[.int .i64 s.t, .int .i64 s.n, .slice A s.l.length c] 24)).cell? ⟨Bl, 0, none⟩ = some (.slice Ao ops.length co) := (hBl.alloc _).c rfl
  gi_wp2
  have HH := Holds.new W 24 #[.int .i64 s.t, .int .i64 s.n, .slice A s.l.length c]
  have hK0 := KeptM.alloc n₀ hi W (.cells #[.int .i64 s.t, .int .i64 s.n, .slice A s.l.length c] 24)
  have hJ0 := hJ.new (.cells #[.int .i64 s.t, .int .i64 s.n, .slice A s.l.length c] 24) h0
  have hC0 : CurL n₀ hi (W.alloc (.cells #[.int .i64 s.t, .int .i64 s.n, .slice A s.l.length c] 24)) A s.l := (curL_intsB hA (by omega)).below (alloc1 W _)
  gi_loopw [13] (fun i wr => ∃ (k : Nat) (pre : List Yd) (Ak : Option Addr) (ck : Nat), k ≤ ops.length ∧ i = .int .i64 k ∧ pre.map (·.p) = (answers s ops).take k ∧ Holds wr W.heap.size 24 #[.int .i64 (stAt s ops k).t, .int .i64 (stAt s ops k).n, .slice Ak (stAt s ops k).l.length ck] ∧ (stAt s ops k).l.length ≤ ck ∧ CurL n₀ hi wr Ak (stAt s ops k).l ∧ J pre wr ∧ KeptM n₀ hi W wr) (fun i wr => ops.length - (intOf i).toNat)
  case atStart =>
    refine ⟨0, [], A, c, Nat.zero_le _, rfl, rfl, ?_⟩
    rw [stAt_zero]
    exact ⟨HH, hc, hC0, hJ0, hK0⟩
  case round =>
    obtain ⟨k, pre, Ak, ck, hk, rfl, hpre, hHk, hck, hCk, hJk, hKk⟩ := hrel
    by_cases hlt : k < ops.length
    · obtain ⟨o, ho⟩ : ∃ o, ops[k]? = some o := ⟨_, List.getElem?_eq_getElem hlt⟩
      have hsl := stAt_len s ops k
      have hnx := stAt_succ s ops k o ho
      have hat := answers_take s ops k o ho
      have hso : Small o.a := hsm o (List.mem_of_getElem? ho)
      obtain ⟨bo, offo, rfl, hbo, hco⟩ := (hKk.oprs hO) (by omega)
      obtain ⟨c0, c1, c2, c3, c4⟩ := hco k o ho
      generalize stAt s ops k = sk at *
      obtain ⟨st, n, l⟩ := sk
      obtain ⟨kd, a, b, rk, rn⟩ := o
      dsimp only at *
      have s0 : wr.cell? ⟨W.heap.size, 0, none⟩ = some (.int .i64 st) := hHk.c rfl
      have s1 : wr.cell? ⟨W.heap.size, 1, none⟩ = some (.int .i64 n) := hHk.c rfl
      have s2 : wr.cell? ⟨W.heap.size, 2, none⟩ = some (.slice Ak l.length ck) := hHk.c rfl
      have g0 : (0 : Int) ≤ (k : Int) := by omega
      have g1 : (k : Int) < (ops.length : Int) := by omega
      have q2 : decide (k < ops.length) = true := decide_eq_true hlt
      have HC := Lib.hid hCk
      have HP := fun W' (h : Below wr.heap.size wr W') => mcapply_any st n Ak ck l kd a b W' (HC.out.ints.below h) (by omega) hck hso
      have HK := Lib.hid hKk
      have HHk := Lib.hid hHk
      have HJk := Lib.hid hJk
      have HPR := Lib.hid hpre
      have HNX := Lib.hid hnx
      have HAT := Lib.hid hat
      have HSL := Lib.hid hsl
      have hsw := hHk.lt
      clear hKk hHk hJk hpre hnx hat hsl hco hCk
      unfold MPost at HP
      gi_wp2_with fail
      refine ⟨trivial, ?_⟩
      refine (callsIn_wide.2 (HP _ (alloc1 wr _))).mono ?_
      rintro e w2 ⟨A2, c2', rfl, ho2, hB2⟩
      have hpe : stepA ⟨st, n, l⟩ ⟨kd, a, b, rk, rn⟩ = mA st n l kd a b := rfl
      rw [hpe] at HNX HAT
      clear hpe HP
      generalize mA st n l kd a b = p at *
      have hBw2 : Below wr.heap.size wr w2 := onto (alloc1 wr _) hB2
      have hKm2 := hBw2.size
      have hwk := HK.out.size
      have HX4 := Lib.hid ((Holds.new w2 24 #[.int .i64 p.t, .int .i64 p.n, .slice A2 p.l.length c2']).alloc (.cells #[.int .i64 p.k, .int .i64 p.r] 26))
      have hB4 := gro_alloc (gro_alloc hBw2 (.cells #[.int .i64 p.t, .int .i64 p.n, .slice A2 p.l.length c2'] 24)) (.cells #[.int .i64 p.k, .int .i64 p.r] 26)
      have HH4 := Lib.hid (HHk.out.below hB4 hsw)
      have HK4 := Lib.hid (HK.out.below hB4)
      have hJ4 := hJ.below HJk.out hB4
      have ho4 : Yd.rx hi ⟨A2, c2', p⟩ ((w2.alloc (.cells #[.int .i64 p.t, .int .i64 p.n, .slice A2 p.l.length c2'] 24)).alloc (.cells #[.int .i64 p.k, .int .i64 p.r] 26)) := row_more (row_below (row_below ho2 (alloc1 w2 _)) (alloc1 _ _)) (by simp; omega)
      have HO4 := Lib.hid (show CurL n₀ hi ((w2.alloc (.cells #[.int .i64 p.t, .int .i64 p.n, .slice A2 p.l.length c2'] 24)).alloc (.cells #[.int .i64 p.k, .int .i64 p.r] 26)) A2 p.l from curL_row (row_below (row_below ho2 (alloc1 w2 _)) (alloc1 _ _)) (by simp; omega))
      have hfit := row_fit ho2
      have hpl : pre.length = k := by
        have := congrArg List.length HPR.out
        rw [List.length_map, List.length_take, answers_len] at this
        omega
      obtain ⟨fn, tmps, assign, body, hy, hR⟩ := hY pre ⟨A2, c2', p⟩ _ hJ4 ho4 (by omega)
      unfold Yd.encs at hy
      dsimp only at hy
      unfold stV retV
      clear hJ4 ho4 ho2
      gi_wp2_with fail
      have hpx : (pre ++ [(⟨A2, c2', p⟩ : Yd)]).map (·.p) = (answers s ops).take (k + 1) := by rw [List.map_append, HPR.out, HAT.out]; rfl
      refine hR.mono ?_
      rintro e W5 (⟨rfl, hJ5, hk5⟩ | ⟨rfl, hJx5⟩)
      · have hs5 := hk5.size
        have HX5 := hk5.holds (.inr (by omega)) (by decide) HX4.out
        have HH5 := hk5.holds (.inr (by omega)) (by decide) HH4.out
        have HO5 := HO4.out.kept hk5
        have HK5 := HK4.out.trans hk5
        have x0 : W5.cell? ⟨w2.heap.size, 0, none⟩ = some (.int .i64 p.t) := HX5.c rfl
        have x1 : W5.cell? ⟨w2.heap.size, 1, none⟩ = some (.int .i64 p.n) := HX5.c rfl
        have x2 : W5.cell? ⟨w2.heap.size, 2, none⟩ = some (.slice A2 p.l.length c2') := HX5.c rfl
        have h0 : W5.cell? ⟨W.heap.size, 0, none⟩ = some (.int .i64 st) := HH5.c rfl
        have h1 : W5.cell? ⟨W.heap.size, 1, none⟩ = some (.int .i64 n) := HH5.c rfl
        have h2 : W5.cell? ⟨W.heap.size, 2, none⟩ = some (.slice Ak l.length ck) := HH5.c rfl
        have y0 := HH5.frozen 0
        have y1 := HH5.frozen 1
        have y2 := HH5.frozen 2
        have HH6 := HH5.set 0 (.int .i64 p.t)
        have HH7 := HH6.set 1 (.int .i64 p.n)
        have HH8 := Lib.hid (HH7.set 2 (.slice A2 p.l.length c2'))
        have HJ8 := Lib.hid (hJ.set 2 (.slice A2 p.l.length c2') (hJ.set 1 (.int .i64 p.n) (hJ.set 0 (.int .i64 p.t) hJ5 (Nat.le_refl _) HH5) (Nat.le_refl _) HH6) (Nat.le_refl _) HH7)
        have HK8 := Lib.hid (((HK5.own 0 (.int .i64 p.t) (Nat.le_refl _)).own 1 (.int .i64 p.n) (Nat.le_refl _)).own 2 (.slice A2 p.l.length c2') (Nat.le_refl _))
        have HO8 := Lib.hid (((HO5.set 0 (.int .i64 p.t) (by omega) HH5).set 1 (.int .i64 p.n) (by omega) HH6).set 2 (.slice A2 p.l.length c2') (by omega) HH7)
        have HPX := Lib.hid hpx
        clear HX5 HH5 HO5 HK5 HH6 HH7 hpx hJ5 HX4 HH4 HO4
        gi_wp2_with fail
        go_roundw
        case rel =>
          refine ⟨k + 1, pre ++ [⟨A2, c2', p⟩], A2, c2', by omega, rfl, HPX.out, ?_⟩
          rw [HNX.out]
          exact ⟨HH8.out, hfit, HO8.out, HJ8.out, HK8.out⟩
        case measure => simp only [intOf]; omega
      · gi_wp2
        refine bodyPost_ret (results_none rfl _ _ _) rfl ?_
        exact ⟨⟨_, rfl⟩, .inr ⟨pre ++ [⟨A2, c2', p⟩], by rw [hpx]; exact List.take_prefix _ _, hJx5⟩⟩
    · have q2 : decide (k < ops.length) = false := decide_eq_false hlt
      have HPR := Lib.hid hpre
      clear hpre
      gi_wp2
      go_end0
      exact ⟨⟨_, rfl⟩, .inl ⟨pre, by rw [HPR.out, List.take_of_length_le (by rw [answers_len]; omega)], hJk⟩⟩
end Go.Proofs.YtmclpganipfadaaGreatDoor
