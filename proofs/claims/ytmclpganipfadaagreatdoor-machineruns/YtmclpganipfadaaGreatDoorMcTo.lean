/- 'x, u, v := f(..)' in a region that draws its order: a state into a box (made ahead of the call or behind it), two values into temporaries. -/
import Derived.Test.YtmclpganipfadaaGreatDoorMcTd
namespace Go.Proofs.YtmclpganipfadaaGreatDoor
open Go Go.RowKit Go.Maps
set_option linter.unusedVariables false

def Plan.told1 (k : Nat) : Plan :=
  let parts := fun q : Plan => .take (k + 1) (.take (k + 2) (.take (k + 3) (.take (k + 4) q)))
  let tail : Plan := .one (k + 6) (.one (k + 7) (.one (k + 8) .done))
  .two k (parts (.one (k + 5) tail)) (k + 5) (.one k (parts tail))

section
variable {ops : Array Oper} {Q : Exit → Act → World → Prop}
variable {a : Act} {w0 w : World} {k dT dM d0 d1 d2 dX dU dV : Nat} {oc om o0 o1 o2 ox sx ou ov : Oper} {f : FuncId} {args : Array Value}

theorem told1
    (h0 : ops[k]? = some oc) (h1 : ops[k + 1]? = some om) (h2 : ops[k + 2]? = some o0) (h3 : ops[k + 3]? = some o1) (h4 : ops[k + 4]? = some o2) (h5 : ops[k + 5]? = some ox) (h6 : ops[k + 6]? = some sx) (h7 : ops[k + 7]? = some ou) (h8 : ops[k + 8]? = some ov)
    (g0 : oc.guard = none) (g1 : om.guard = none) (g2 : o0.guard = none) (g3 : o1.guard = none) (g4 : o2.guard = none) (g5 : ox.guard = none) (g6 : sx.guard = none) (g7 : ou.guard = none) (g8 : ov.guard = none)
    (t0 : oc.dst = some dT) (t1 : om.dst = some dM) (t2 : o0.dst = some d0) (t3 : o1.dst = some d1) (t4 : o2.dst = some d2) (t5 : ox.dst = some dX) (t6 : sx.dst = none) (t7 : ou.dst = some dU) (t8 : ov.dst = some dV)
    (q1 : om.op = .move (.tmp dT)) (q2 : o0.op = .extract (.tmp dM) 0) (q3 : o1.op = .extract (.tmp dM) 1) (q4 : o2.op = .extract (.tmp dM) 2) (q5 : ox.op = .alloc 24) (q6 : sx.op = .store 24 (.tmp dX) (.tmp d0)) (q7 : ou.op = .assign (.tmp d1)) (q8 : ov.op = .assign (.tmp d2))
    (hsel : ∀ cs b, oc.op ≠ .select cs b) (hlook : (oc.looksAt ops).contains dX = false)
    (hne : [dT, dM, d0, d1, d2, dX, dU].Nodup) (hsz : ∀ d ∈ [dT, dM, d0, d1, d2, dX], d < a.tmps.size)
    (hx : ∀ W, (execOp a.eval oc).run Tryz.prog W = .ok (.enter f args) W)
    {t n : Int} {m : Nat} {u v : Value} {R : Option Addr → Nat → World → Prop} (hR : ∀ A c, Lasts (R A c))
    (hB : Below w0.heap.size w0 w)
    (hcall : ∀ W, Below w0.heap.size w0 W → Calls Tryz.prog f args W fun e W' => ∃ A c, e = .returned (.tuple #[stV t n A m c, u, v]) ∧ R A c W' ∧ Below W.heap.size W W')
    (hend : ∀ (X : Nat) A c W', w0.heap.size ≤ X → Holds W' X 24 #[.int .i64 t, .int .i64 n, .slice A m c] → R A c W' → Below w0.heap.size w0 W' →
      Q .normal ((((parts5 a dT dM d0 d1 d2 (.tuple #[stV t n A m c, u, v]) (stV t n A m c) u v).put (some dX) (.pointer (some ⟨X, 0, none⟩))).put (some dU) u).put (some dV) v) W') :
    Forked Tryz.prog ops Q (fun W => Below w0.heap.size w0 W) (.told1 k) a w := by
  simp only [List.nodup_cons, List.mem_cons, List.not_mem_nil, or_false, not_or, not_false_eq_true, List.nodup_nil, and_true] at hne
  obtain ⟨⟨nTM, nT0, nT1, nT2, nTX, nTU⟩, ⟨nM0, nM1, nM2, nMX, nMU⟩, ⟨n01, n02, n0X, n0U⟩, ⟨n12, n1X, n1U⟩, ⟨n2X, n2U⟩, nXU⟩ := hne
  have sT := hsz dT (by simp)
  have sM := hsz dM (by simp)
  have s0 := hsz d0 (by simp)
  have s1 := hsz d1 (by simp)
  have s2 := hsz d2 (by simp)
  have sX := hsz dX (by simp)
  have lX : ∀ d, (some dX : Option Tmp) = some d → d ∉ oc.looksAt ops := fun d e h => by injection e with e; subst e; rw [List.contains_iff_mem.2 h] at hlook; cases hlook
  -- the store and the values
  have L : ∀ W X A c, w0.heap.size ≤ X → Holds W X 24 #[.int .i64 0, .int .i64 0, .slice none 0 0] → R A c W → Below w0.heap.size w0 W →
      Forked Tryz.prog ops Q (fun W => Below w0.heap.size w0 W) (.one (k + 6) (.one (k + 7) (.one (k + 8) .done))) ((parts5 a dT dM d0 d1 d2 (.tuple #[stV t n A m c, u, v]) (stV t n A m c) u v).put (some dX) (.pointer (some ⟨X, 0, none⟩))) W := by
    intro W X A c hX HX HR hW
    have z := parts5_size a dT dM d0 d1 d2 (.tuple #[stV t n A m c, u, v]) (stV t n A m c) u v
    have eX : ((parts5 a dT dM d0 d1 d2 (.tuple #[stV t n A m c, u, v]) (stV t n A m c) u v).put (some dX) (.pointer (some ⟨X, 0, none⟩))).eval (.tmp dX) = .pointer (some ⟨X, 0, none⟩) := eval_same _ (by rw [z]; exact sX)
    have e0 : ((parts5 a dT dM d0 d1 d2 (.tuple #[stV t n A m c, u, v]) (stV t n A m c) u v).put (some dX) (.pointer (some ⟨X, 0, none⟩))).eval (.tmp d0) = stV t n A m c := by
      rw [eval_far _ (Ne.symm n0X)]; unfold parts5; rw [eval_far _ (Ne.symm n02), eval_far _ (Ne.symm n01), eval_same _ (by simp only [put_size]; exact s0)]
    have e1 : ((parts5 a dT dM d0 d1 d2 (.tuple #[stV t n A m c, u, v]) (stV t n A m c) u v).put (some dX) (.pointer (some ⟨X, 0, none⟩))).eval (.tmp d1) = u := by
      rw [eval_far _ (Ne.symm n1X)]; unfold parts5; rw [eval_far _ (Ne.symm n12), eval_same _ (by simp only [put_size]; exact s1)]
    have e2 : (((parts5 a dT dM d0 d1 d2 (.tuple #[stV t n A m c, u, v]) (stV t n A m c) u v).put (some dX) (.pointer (some ⟨X, 0, none⟩))).put (some dU) u).eval (.tmp d2) = v := by
      rw [eval_far _ (Ne.symm n2U), eval_far _ (Ne.symm n2X)]; unfold parts5; rw [eval_same _ (by simp only [put_size]; exact s2)]
    have HX0 := (HX.set 0 (.int .i64 t))
    have HX1 := (HX0.set 1 (.int .i64 n))
    have HX2 := (HX1.set 2 (.slice A m c))
    have hR0 := (hR A c).st _ _ _ 0 (.int .i64 t) HX HR
    have hR1 := (hR A c).st _ _ _ 1 (.int .i64 n) HX0 hR0
    have hR2 := (hR A c).st _ _ _ 2 (.slice A m c) HX1 hR1
    have hBs := gro_set (gro_set (gro_set hW 0 (.int .i64 t) hX) 1 (.int .i64 n) hX) 2 (.slice A m c) hX
    refine Goes.skip h6 g6 t6 (exec_storeSt q6 eX e0 HX) hBs ?_
    refine Goes.value (v := u) h7 g7 (by unfold execOp; simp only [q7, e1]; rfl) hBs ?_
    rw [t7]
    refine Goes.value (v := v) h8 g8 (by unfold execOp; simp only [q8, e2]; rfl) hBs ?_
    rw [t8]
    exact hend X A c _ hX HX2 hR2 hBs
  -- the parts
  have F : ∀ (a' : Act) (K : Plan) W A c, a'.tmps.size = a.tmps.size → Forked Tryz.prog ops Q (fun W => Below w0.heap.size w0 W) K (parts5 a' dT dM d0 d1 d2 (.tuple #[stV t n A m c, u, v]) (stV t n A m c) u v) W →
      Forked Tryz.prog ops Q (fun W => Below w0.heap.size w0 W) (.take (k + 1) (.take (k + 2) (.take (k + 3) (.take (k + 4) K)))) (a'.put oc.dst (.tuple #[stV t n A m c, u, v])) W := by
    intro a' K W A c hz hK
    rw [t0]
    refine Forked.ask (.tuple #[stV t n A m c, u, v]) h1 g1 (fun W' _ => by unfold execOp; simp only [q1, eval_same _ (show dT < a'.tmps.size by rw [hz]; exact sT)]; rfl) ?_
    rw [t1]
    have eM : ∀ x : Act, x = (a'.put (some dT) (.tuple #[stV t n A m c, u, v])).put (some dM) (.tuple #[stV t n A m c, u, v]) → x.eval (.tmp dM) = .tuple #[stV t n A m c, u, v] := fun x e => by
      rw [e, eval_same _ (by rw [put_size, hz]; exact sM)]
    refine Forked.ask (stV t n A m c) h2 g2 (fun W' _ => by unfold execOp; simp only [q2, eM _ rfl]; go_simp) ?_
    rw [t2]
    refine Forked.ask u h3 g3 (fun W' _ => by unfold execOp; simp only [q3, eval_far _ (Ne.symm nM0), eM _ rfl]; go_simp) ?_
    rw [t3]
    refine Forked.ask v h4 g4 (fun W' _ => by unfold execOp; simp only [q4, eval_far _ (Ne.symm nM1), eval_far _ (Ne.symm nM0), eM _ rfl]; go_simp) ?_
    rw [t4]
    exact hK
  have BX : ∀ (a' : Act) (K : Plan) W, Below w0.heap.size w0 W → (Below w0.heap.size w0 (W.alloc stZ) → Forked Tryz.prog ops Q (fun W => Below w0.heap.size w0 W) K (a'.put (some dX) (.pointer (some ⟨W.heap.size, 0, none⟩))) (W.alloc stZ)) → Goes Tryz.prog ops Q (fun W => Below w0.heap.size w0 W) (k + 5) (Forked Tryz.prog ops Q (fun W => Below w0.heap.size w0 W) K) a' W := fun a' K W hW hK =>
    Goes.value h5 g5 (exec_boxSt a' W q5) (gro_alloc hW _) (by rw [t5]; exact hK (gro_alloc hW _))
  have C : ∀ (a' : Act) (K : Act → World → Prop) W, execOp a'.eval oc = execOp a.eval oc → Below w0.heap.size w0 W → (∀ A c W', R A c W' → Below W.heap.size W W' → Below w0.heap.size w0 W' → K (a'.put oc.dst (.tuple #[stV t n A m c, u, v])) W') → Goes Tryz.prog ops Q (fun W => Below w0.heap.size w0 W) k K a' W := by
    intro a' K W he hW hK
    refine Goes.enter h0 g0 (by rw [he]; exact hx W) ((hcall W hW).mono ?_)
    rintro e W' ⟨A, c, rfl, hr, hb⟩
    have hb2 := onto hW hb
    exact ⟨_, rfl, hb2, hK _ _ _ hr hb hb2⟩
  have xX : ∀ u, execOp (a.put (some dX) u).eval oc = execOp a.eval oc := fun u => execOp_put (ops := ops) oc hsel a _ u lX
  have pX := fun (b : Act) (v s r e u : Value) => parts5_put b dT dM d0 d1 d2 dX v s r e u (Ne.symm nTX) (Ne.symm nMX) (Ne.symm n0X) (Ne.symm n1X) (Ne.symm n2X)
  refine ⟨C a _ w rfl hB fun A c W hr hb hW => F a _ W _ _ rfl ?_, BX a _ w hB fun hW => ?_⟩
  · refine BX _ _ W hW fun hW1 => ?_
    exact L _ _ _ _ hW.size (Holds.new W _ _) ((hR _ _).new _ _ hr) hW1
  · refine C _ _ _ (xX _) hW fun A c W hr hb hW2 => F _ _ W _ _ (put_size _ _ _) ?_
    rw [pX]
    have HX := (Holds.new w 24 #[.int .i64 0, .int .i64 0, .slice none 0 0]).below hb (by simp)
    exact L _ _ _ _ hB.size HX hr hW2
end
end Go.Proofs.YtmclpganipfadaaGreatDoor
