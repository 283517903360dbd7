/- Run: the state that it begins with, copied (the copy's box may be made ahead of the copying or behind it). -/
import Derived.Test.YtmclpganipfadaaGreatDoorMcF
namespace Go.Proofs.YtmclpganipfadaaGreatDoor
open Go.RowKit Go.Shelf Go.Maps
set_option linter.unusedVariables false

/-- A list of lists is laid, the copy is asked for, the state is built; its box may be made at any time; it is stored. -/
def Plan.copied (k : Nat) : Plan :=
  .two k (.two (k + 1) (.take (k + 2) (.one (k + 3) (.one (k + 4) .done))) (k + 3) (.one (k + 1) (.take (k + 2) (.one (k + 4) .done)))) (k + 3) (.one k (.one (k + 1) (.take (k + 2) (.one (k + 4) .done))))

theorem exec_list {o : Oper} {a : Act} {dL : Tmp} {A : Option Addr} {m c : Nat} (w : World) (h : o.op = .buildSlice 74 1 #[(0, .tmp dL)]) (hL : a.eval (.tmp dL) = .slice A m c) :
    (execOp a.eval o).run Tryz.prog w = .ok (.value (.slice (some ⟨w.heap.size, 0, none⟩) 1 1)) (w.alloc (.cells #[.slice A m c] 22)) := by
  unfold execOp
  simp only [h, List.map_toArray, List.map_cons, List.map_nil, hL]
  go_simp
theorem exec_state {o : Oper} {a : Act} {d0 d1 d2 : Tmp} {t n : Int} {A : Option Addr} {m c : Nat} (w : World) (h : o.op = .build 24 #[(0, .tmp d0), (1, .tmp d1), (2, .tmp d2)]) (h0 : a.eval (.tmp d0) = .int .i64 t) (h1 : a.eval (.tmp d1) = .int .i64 n) (h2 : a.eval (.tmp d2) = .slice A m c) :
    (execOp a.eval o).run Tryz.prog w = .ok (.value (stV t n A m c)) w := by
  unfold execOp stV
  simp only [h, List.map_toArray, List.map_cons, List.map_nil, h0, h1, h2]
  go_simp
theorem exec_concat {o : Oper} {a : Act} {dB : Tmp} {A : Option Addr} {m c : Nat} (w : World) (h : o.op = .call { callee := .value (.func 32), args := #[.tmp dB], argTypes := #[74] }) (hB : a.eval (.tmp dB) = .slice A m c) :
    (execOp a.eval o).run Tryz.prog w = .ok (.enter 32 #[.slice A m c]) w := by
  unfold execOp
  simp only [h, resolve, List.map_toArray, List.map_cons, List.map_nil, hB]
  go_simp

section
variable {ops : Array Oper} {Q : Exit → Act → World → Prop}
variable {a : Act} {w0 w : World} {k d0 d1 dL dB dC dU dS : Nat} {ob oc ou oa os : Oper}

theorem copied5 {t n : Int} {A : Option Addr} {c : Nat} {l : List Int}
    (h0 : ops[k]? = some ob) (h1 : ops[k + 1]? = some oc) (h2 : ops[k + 2]? = some ou) (h3 : ops[k + 3]? = some oa) (h4 : ops[k + 4]? = some os)
    (g0 : ob.guard = none) (g1 : oc.guard = none) (g2 : ou.guard = none) (g3 : oa.guard = none) (g4 : os.guard = none)
    (t0 : ob.dst = some dB) (t1 : oc.dst = some dC) (t2 : ou.dst = some dU) (t3 : oa.dst = some dS) (t4 : os.dst = none)
    (q0 : ob.op = .buildSlice 74 1 #[(0, .tmp dL)]) (q1 : oc.op = .call { callee := .value (.func 32), args := #[.tmp dB], argTypes := #[74] }) (q2 : ou.op = .build 24 #[(0, .tmp d0), (1, .tmp d1), (2, .tmp dC)]) (q3 : oa.op = .alloc 24) (q4 : os.op = .store 24 (.tmp dS) (.tmp dU))
    (e0 : a.eval (.tmp d0) = .int .i64 t) (e1 : a.eval (.tmp d1) = .int .i64 n) (eL : a.eval (.tmp dL) = .slice A l.length c)
    (hne : [d0, d1, dL, dB, dC, dU, dS].Nodup) (hsz : ∀ d ∈ [dB, dC, dU, dS], d < a.tmps.size)
    (hA : Ints w0 A l) (hlen : l.length ≤ 1000) (hB : Below w0.heap.size w0 w)
    (hend : ∀ (Bst : Nat) vB A' c' W', w0.heap.size ≤ Bst → Holds W' Bst 24 #[.int .i64 t, .int .i64 n, .slice A' l.length c'] → W'.ownsRow w0.heap.size 3 1 (.slice A' l.length c') l.length (intsOf l) → Below w0.heap.size w0 W' →
      Q .normal ((((a.put (some dB) vB).put (some dC) (.slice A' l.length c')).put (some dU) (stV t n A' l.length c')).put (some dS) (.pointer (some ⟨Bst, 0, none⟩))) W') :
    Forked Tryz.prog ops Q (fun W => Below w0.heap.size w0 W) (.copied k) a w := by
  simp only [List.nodup_cons, List.mem_cons, List.not_mem_nil, or_false, not_or, not_false_eq_true, List.nodup_nil, and_true] at hne
  obtain ⟨⟨n01, n0L, n0B, n0C, n0U, n0S⟩, ⟨n1L, n1B, n1C, n1U, n1S⟩, ⟨nLB, nLC, nLU, nLS⟩, ⟨nBC, nBU, nBS⟩, ⟨nCU, nCS⟩, nUS⟩ := hne
  have sB := hsz dB (by simp)
  have sC := hsz dC (by simp)
  have sU := hsz dU (by simp)
  have sS := hsz dS (by simp)
  have hneq : ∀ {x y : Tmp}, x ≠ y → ∀ z, (some x : Option Tmp) = some z → (some y : Option Tmp) ≠ some z := fun h z e e' => h (by injection e with e; injection e' with e'; exact e.trans e'.symm)
  -- the store
  have L : ∀ W X A' c' vB, w0.heap.size ≤ X → Holds W X 24 #[.int .i64 0, .int .i64 0, .slice none 0 0] → W.ownsRow w0.heap.size 3 1 (.slice A' l.length c') l.length (intsOf l) → Below w0.heap.size w0 W →
      Forked Tryz.prog ops Q (fun W => Below w0.heap.size w0 W) (.one (k + 4) .done) ((((a.put (some dB) vB).put (some dC) (.slice A' l.length c')).put (some dU) (stV t n A' l.length c')).put (some dS) (.pointer (some ⟨X, 0, none⟩))) W := by
    intro W X A' c' vB hX HX hr hW
    have eX : ((((a.put (some dB) vB).put (some dC) (.slice A' l.length c')).put (some dU) (stV t n A' l.length c')).put (some dS) (.pointer (some ⟨X, 0, none⟩))).eval (.tmp dS) = .pointer (some ⟨X, 0, none⟩) := eval_same _ (by simp only [put_size]; exact sS)
    have eU : ((((a.put (some dB) vB).put (some dC) (.slice A' l.length c')).put (some dU) (stV t n A' l.length c')).put (some dS) (.pointer (some ⟨X, 0, none⟩))).eval (.tmp dU) = stV t n A' l.length c' := by
      rw [eval_far _ (Ne.symm nUS), eval_same _ (by simp only [put_size]; exact sU)]
    have HX0 := HX.set 0 (.int .i64 t)
    have HX1 := HX0.set 1 (.int .i64 n)
    have HX2 := HX1.set 2 (.slice A' l.length c')
    have LR := lasts_row w0.heap.size A' l.length c' (intsOf l)
    have hr0 := LR.st _ _ _ 0 (.int .i64 t) HX hr
    have hr1 := LR.st _ _ _ 1 (.int .i64 n) HX0 hr0
    have hr2 := LR.st _ _ _ 2 (.slice A' l.length c') HX1 hr1
    have hBs := gro_set (gro_set (gro_set hW 0 (.int .i64 t) hX) 1 (.int .i64 n) hX) 2 (.slice A' l.length c') hX
    refine Goes.skip h4 g4 t4 (exec_storeSt q4 eX eU HX) hBs ?_
    exact hend X vB A' c' _ hX HX2 hr2 hBs
  -- the list of lists
  have Bu : ∀ (a' : Act) (K : Plan) W, a'.eval (.tmp dL) = .slice A l.length c → Below w0.heap.size w0 W → (Below w0.heap.size w0 (W.alloc (.cells #[.slice A l.length c] 22)) → Forked Tryz.prog ops Q (fun W => Below w0.heap.size w0 W) K (a'.put (some dB) (.slice (some ⟨W.heap.size, 0, none⟩) 1 1)) (W.alloc (.cells #[.slice A l.length c] 22))) → Goes Tryz.prog ops Q (fun W => Below w0.heap.size w0 W) k (Forked Tryz.prog ops Q (fun W => Below w0.heap.size w0 W) K) a' W := fun a' K W he hW hK =>
    Goes.value h0 g0 (exec_list W q0 he) (gro_alloc hW _) (by rw [t0]; exact hK (gro_alloc hW _))
  -- the box
  have BX : ∀ (a' : Act) (K : Plan) W, Below w0.heap.size w0 W → (Below w0.heap.size w0 (W.alloc stZ) → Forked Tryz.prog ops Q (fun W => Below w0.heap.size w0 W) K (a'.put (some dS) (.pointer (some ⟨W.heap.size, 0, none⟩))) (W.alloc stZ)) → Goes Tryz.prog ops Q (fun W => Below w0.heap.size w0 W) (k + 3) (Forked Tryz.prog ops Q (fun W => Below w0.heap.size w0 W) K) a' W := fun a' K W hW hK =>
    Goes.value h3 g3 (exec_boxSt a' W q3) (gro_alloc hW _) (by rw [t3]; exact hK (gro_alloc hW _))
  -- the copy
  have C : ∀ (a' : Act) (K : Act → World → Prop) W (B : Nat), a'.eval (.tmp dB) = .slice (some ⟨B, 0, none⟩) 1 1 → Holds W B 22 #[.slice A l.length c] → Below w0.heap.size w0 W → (∀ A' c' W', W'.ownsRow w0.heap.size 3 1 (.slice A' l.length c') l.length (intsOf l) → Below W.heap.size W W' → Below w0.heap.size w0 W' → K (a'.put (some dC) (.slice A' l.length c')) W') → Goes Tryz.prog ops Q (fun W => Below w0.heap.size w0 W) (k + 1) K a' W := by
    intro a' K W B he hb hW hK
    have HS : catP [⟨A, c, l⟩] = l := by simp [catP]
    have hc := concat_any B 1 [⟨A, c, l⟩] W hb.lt (by simp) (by simp [sumP]; omega) (fun j p hj => by
      match j with
      | 0 => simp at hj; subst hj; exact hb.c rfl
      | j + 1 => simp at hj) (fun p hp => by simp only [List.mem_cons, List.not_mem_nil, or_false] at hp; subst hp; exact hA.below hW)
    rw [HS] at hc
    refine Goes.enter h1 g1 (exec_concat W q1 he) (hc.mono ?_)
    rintro e W' ⟨A', c', rfl, ho, hb'⟩
    have hb2 := onto hW hb'
    exact ⟨_, rfl, hb2, by rw [t1]; exact hK A' c' W' (row_more ho hW.size) hb' hb2⟩
  -- the state
  have U : ∀ (a' : Act) (K : Plan) W A' c', a'.eval (.tmp d0) = .int .i64 t → a'.eval (.tmp d1) = .int .i64 n → a'.eval (.tmp dC) = .slice A' l.length c' → Forked Tryz.prog ops Q (fun W => Below w0.heap.size w0 W) K (a'.put (some dU) (stV t n A' l.length c')) W → Forked Tryz.prog ops Q (fun W => Below w0.heap.size w0 W) (.take (k + 2) K) a' W := fun a' K W A' c' h0 h1 hC hK =>
    Forked.ask _ h2 g2 (fun W' _ => exec_state W' q2 h0 h1 hC) (by rw [t2]; exact hK)
  have x0 : ∀ {b : Act} {d : Tmp} {v : Value}, d ≠ d0 → (b.put (some d) v).eval (.tmp d0) = b.eval (.tmp d0) := fun h => eval_far _ h
  refine ⟨Bu a _ w eL hB fun hW => ⟨?_, ?_⟩, BX a _ w hB fun hW => ?_⟩
  · -- list, copy, box
    refine C _ _ _ w.heap.size (eval_same _ sB) (Holds.new _ _ _) hW fun A' c' W hr hb hW2 => ?_
    refine U _ _ _ A' c' (by rw [eval_far _ (Ne.symm n0C), eval_far _ (Ne.symm n0B), e0]) (by rw [eval_far _ (Ne.symm n1C), eval_far _ (Ne.symm n1B), e1]) (eval_same _ (by rw [put_size]; exact sC)) ?_
    refine BX _ _ W hW2 fun hW3 => ?_
    exact L _ _ _ _ _ hW2.size (Holds.new _ _ _) (row_below hr (alloc1 W _)) hW3
  · -- list, box, copy
    refine BX _ _ _ hW fun hW1 => ?_
    refine C _ _ _ w.heap.size (by rw [eval_far _ (Ne.symm nBS), eval_same _ sB]) ((Holds.new _ _ _).alloc _) hW1 fun A' c' W hr hb hW2 => ?_
    refine U _ _ _ A' c' (by rw [eval_far _ (Ne.symm n0C), eval_far _ (Ne.symm n0S), eval_far _ (Ne.symm n0B), e0]) (by rw [eval_far _ (Ne.symm n1C), eval_far _ (Ne.symm n1S), eval_far _ (Ne.symm n1B), e1]) (eval_same _ (by simp only [put_size]; exact sC)) ?_
    rw [Act.put_comm _ _ _ (hneq (Ne.symm nCS)), Act.put_comm _ _ _ (hneq (Ne.symm nUS))]
    exact L _ _ _ _ _ hW.size ((Holds.new _ _ _).below hb (by simp)) hr hW2
  · -- box, list, copy
    refine Bu _ _ _ (by rw [eval_far _ (Ne.symm nLS), eL]) hW fun hW1 => ?_
    refine C _ _ _ (w.alloc stZ).heap.size (eval_same _ (by rw [put_size]; exact sB)) (Holds.new _ _ _) hW1 fun A' c' W hr hb hW2 => ?_
    refine U _ _ _ A' c' (by rw [eval_far _ (Ne.symm n0C), eval_far _ (Ne.symm n0B), eval_far _ (Ne.symm n0S), e0]) (by rw [eval_far _ (Ne.symm n1C), eval_far _ (Ne.symm n1B), eval_far _ (Ne.symm n1S), e1]) (eval_same _ (by simp only [put_size]; exact sC)) ?_
    rw [Act.put_comm _ _ _ (hneq (Ne.symm nBS)), Act.put_comm _ _ _ (hneq (Ne.symm nCS)), Act.put_comm _ _ _ (hneq (Ne.symm nUS))]
    exact L _ _ _ _ _ hB.size (((Holds.new w _ _).alloc _).below hb (by simp; omega)) hr hW2
end
end Go.Proofs.YtmclpganipfadaaGreatDoor
