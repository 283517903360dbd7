/- 'x, r, e := f(..)' in a region that draws its order: the boxes of x and r may be made ahead of the call or behind it; what is told lies in two boxes of the call's own and in a temporary. -/
import Derived.Test.YtmclpganipfadaaGreatDoorMcFk
namespace Go.Proofs.YtmclpganipfadaaGreatDoor
open Go Go.RowKit Go.Maps
set_option linter.unusedVariables false

abbrev stZ : Obj := .cells #[.int .i64 0, .int .i64 0, .slice none 0 0] 24
abbrev rtZ : Obj := .cells #[.int .i64 0, .int .i64 0] 26
theorem exec_boxSt {o : Oper} (a : Act) (w : World) (h : o.op = .alloc 24) : (execOp a.eval o).run Tryz.prog w = .ok (.value (.pointer (some ⟨w.heap.size, 0, none⟩))) (w.alloc stZ) := by
  unfold execOp
  simp only [h]
  go_simp
theorem exec_boxRt {o : Oper} (a : Act) (w : World) (h : o.op = .alloc 26) : (execOp a.eval o).run Tryz.prog w = .ok (.value (.pointer (some ⟨w.heap.size, 0, none⟩))) (w.alloc rtZ) := by
  unfold execOp
  simp only [h]
  go_simp
theorem exec_storeSt {o : Oper} {a : Act} {w : World} {X : Nat} {z0 z1 z2 : Value} {t n : Int} {A : Option Addr} {k c : Nat} {dX d0 : Tmp} (h : o.op = .store 24 (.tmp dX) (.tmp d0)) (hX : a.eval (.tmp dX) = .pointer (some ⟨X, 0, none⟩)) (h0 : a.eval (.tmp d0) = stV t n A k c) (HX : Holds w X 24 #[z0, z1, z2]) :
    (execOp a.eval o).run Tryz.prog w = .ok .skip (((w.setCell ⟨X, 0, none⟩ (.int .i64 t)).setCell ⟨X, 1, none⟩ (.int .i64 n)).setCell ⟨X, 2, none⟩ (.slice A k c)) := by
  have c0 : w.cell? ⟨X, 0, none⟩ = some z0 := HX.c rfl
  have c1 : w.cell? ⟨X, 1, none⟩ = some z1 := HX.c rfl
  have c2 : w.cell? ⟨X, 2, none⟩ = some z2 := HX.c rfl
  have f0 := HX.frozen 0
  have f1 := HX.frozen 1
  have f2 := HX.frozen 2
  unfold execOp stV at *
  simp only [h, hX, h0]
  go_simp
theorem exec_storeRt {o : Oper} {a : Act} {w : World} {X : Nat} {z0 z1 : Value} {k r : Int} {dX d0 : Tmp} (h : o.op = .store 26 (.tmp dX) (.tmp d0)) (hX : a.eval (.tmp dX) = .pointer (some ⟨X, 0, none⟩)) (h0 : a.eval (.tmp d0) = retV k r) (HX : Holds w X 26 #[z0, z1]) :
    (execOp a.eval o).run Tryz.prog w = .ok .skip ((w.setCell ⟨X, 0, none⟩ (.int .i64 k)).setCell ⟨X, 1, none⟩ (.int .i64 r)) := by
  have c0 : w.cell? ⟨X, 0, none⟩ = some z0 := HX.c rfl
  have c1 : w.cell? ⟨X, 1, none⟩ = some z1 := HX.c rfl
  have f0 := HX.frozen 0
  have f1 := HX.frozen 1
  unfold execOp retV at *
  simp only [h, hX, h0]
  go_simp

/-- A list of numbers that lies in a block of numbers. -/
def RowT (w : World) (A : Option Addr) (l : List Int) : Prop :=
  0 < l.length → ∃ b off cs fr, A = some ⟨b, off, none⟩ ∧ w.heap[b]? = some (.cells cs 3 fr) ∧ ∀ j, j < l.length → w.cell? ⟨b, off + j, none⟩ = some (.int .i64 (l[j]?.getD 0))
theorem RowT.ints {w : World} {A : Option Addr} {l : List Int} (h : RowT w A l) : Ints w A l := fun hl => by
  obtain ⟨b, off, cs, fr, e, hb, hc⟩ := h hl
  exact ⟨b, off, e, (Array.getElem?_eq_some_iff.1 hb).1, hc⟩
theorem RowT.of {w w' : World} {A : Option Addr} {l : List Int} (h : RowT w A l) (hw : ∀ (b : Nat) (cs : Array Value) (fr : Nat × Nat), w.heap[b]? = some (Obj.cells cs 3 fr) → w'.heap[b]? = w.heap[b]?) : RowT w' A l := fun hl => by
  obtain ⟨b, off, cs, fr, e, hb, hc⟩ := h hl
  have hb' := hw b cs fr hb
  exact ⟨b, off, cs, fr, e, hb'.trans hb, fun j hj => (World.cell?_of_block hb').trans (hc j hj)⟩
theorem RowT.below {w w' : World} {A : Option Addr} {l : List Int} (h : RowT w A l) (hb : Below w.heap.size w w') : RowT w' A l :=
  h.of fun b cs fr hh => hb.block b (Array.getElem?_eq_some_iff.1 hh).1
theorem rowT_own {W : World} {base : Nat} {A : Option Addr} {c n : Nat} {l : List Int} (hn : l.length = n) (h : W.ownsRow base 3 1 (.slice A n c) n (intsOf l)) : RowT W A l := fun hl => by
  have hI := own_ints hn h hl
  obtain ⟨b, off, e, hb, hc⟩ := hI
  rcases h.2 with ⟨e1, e2⟩ | ⟨g, cap, cur, e1, h2, h3, _⟩
  · omega
  · injection e1 with e1 e2 e3
    rw [e] at e1
    injection e1 with e1
    injection e1 with e1
    subst e1
    exact ⟨b, off, _, _, e, h3, hc⟩

section
variable {ops : Array Oper} {Q : Exit → Act → World → Prop}

/-- What the call has told: R lasts while others' blocks are made and written. -/
structure Lasts (R : World → Prop) : Prop where
  new : ∀ W o, R W → R (W.alloc o)
  st : ∀ W X cs off u, Holds W X 24 cs → R W → R (W.setCell ⟨X, off, none⟩ u)
  rt : ∀ W X cs off u, Holds W X 26 cs → R W → R (W.setCell ⟨X, off, none⟩ u)

theorem lasts_row (base : Nat) (A : Option Addr) (k c : Nat) (xs : List Value) : Lasts (fun W => W.ownsRow base 3 1 (.slice A k c) k xs) where
  new := fun W o h => row_below h (alloc1 W o)
  st := fun W X cs off u hX h => row_set h X off u fun g e e' => hX.not_row h (by decide) (by rw [e, e'])
  rt := fun W X cs off u hX h => row_set h X off u fun g e e' => hX.not_row h (by decide) (by rw [e, e'])
theorem lasts_rowT (A : Option Addr) (l : List Int) : Lasts (fun W => RowT W A l) where
  new := fun W o h => h.below (alloc1 W o)
  st := fun W X cs off u hX h => h.of fun b cs' fr hb => Below.heap_setCell _ _ _ _ (show b ≠ X from fun e => by subst e; rw [show W.heap[b]? = _ from hX] at hb; simp at hb)
  rt := fun W X cs off u hX h => h.of fun b cs' fr hb => Below.heap_setCell _ _ _ _ (show b ≠ X from fun e => by subst e; rw [show W.heap[b]? = _ from hX] at hb; simp at hb)

/-- The state behind the parts: the call's value, its copy, its three parts. -/
def parts5 (a : Act) (dT dM d0 d1 d2 : Tmp) (v s r e : Value) : Act := ((((a.put (some dT) v).put (some dM) v).put (some d0) s).put (some d1) r).put (some d2) e
theorem parts5_size (a : Act) (dT dM d0 d1 d2 : Tmp) (v s r e : Value) : (parts5 a dT dM d0 d1 d2 v s r e).tmps.size = a.tmps.size := by unfold parts5; simp only [put_size]
theorem parts5_put (a : Act) (dT dM d0 d1 d2 d : Tmp) (v s r e u : Value) (hT : d ≠ dT) (hM : d ≠ dM) (h0 : d ≠ d0) (h1 : d ≠ d1) (h2 : d ≠ d2) :
    parts5 (a.put (some d) u) dT dM d0 d1 d2 v s r e = (parts5 a dT dM d0 d1 d2 v s r e).put (some d) u := by
  have hne : ∀ {x y : Tmp}, x ≠ y → ∀ z, (some x : Option Tmp) = some z → (some y : Option Tmp) ≠ some z := fun h z e e' => h (by injection e with e; injection e' with e'; exact e.trans e'.symm)
  unfold parts5
  rw [Act.put_comm a u v (hne hT), Act.put_comm _ u v (hne hM), Act.put_comm _ u s (hne h0), Act.put_comm _ u r (hne h1), Act.put_comm _ u e (hne h2)]

section
variable {a : Act} {w0 w : World} {k dT dM d0 d1 d2 dX dR dE : Nat} {oc om o0 o1 o2 ox or sx sr oe : Oper} {f : FuncId} {args : Array Value}

/-- 'x, r, e := f(..)': the call comes up, or one of the boxes. -/
theorem told3
    (h0 : ops[k]? = some oc) (h1 : ops[k + 1]? = some om) (h2 : ops[k + 2]? = some o0) (h3 : ops[k + 3]? = some o1) (h4 : ops[k + 4]? = some o2) (h5 : ops[k + 5]? = some ox) (h6 : ops[k + 6]? = some or) (h7 : ops[k + 7]? = some sx) (h8 : ops[k + 8]? = some sr) (h9 : ops[k + 9]? = some oe)
    (g0 : oc.guard = none) (g1 : om.guard = none) (g2 : o0.guard = none) (g3 : o1.guard = none) (g4 : o2.guard = none) (g5 : ox.guard = none) (g6 : or.guard = none) (g7 : sx.guard = none) (g8 : sr.guard = none) (g9 : oe.guard = none)
    (t0 : oc.dst = some dT) (t1 : om.dst = some dM) (t2 : o0.dst = some d0) (t3 : o1.dst = some d1) (t4 : o2.dst = some d2) (t5 : ox.dst = some dX) (t6 : or.dst = some dR) (t7 : sx.dst = none) (t8 : sr.dst = none) (t9 : oe.dst = some dE)
    (q1 : om.op = .move (.tmp dT)) (q2 : o0.op = .extract (.tmp dM) 0) (q3 : o1.op = .extract (.tmp dM) 1) (q4 : o2.op = .extract (.tmp dM) 2) (q5 : ox.op = .alloc 24) (q6 : or.op = .alloc 26) (q7 : sx.op = .store 24 (.tmp dX) (.tmp d0)) (q8 : sr.op = .store 26 (.tmp dR) (.tmp d1)) (q9 : oe.op = .assign (.tmp d2))
    (hsel : ∀ cs b, oc.op ≠ .select cs b) (hlook : ((oc.looksAt ops).contains dX || (oc.looksAt ops).contains dR) = false)
    (hne : [dT, dM, d0, d1, d2, dX, dR].Nodup) (hsz : ∀ d ∈ [dT, dM, d0, d1, d2, dX, dR], d < a.tmps.size)
    (hx : ∀ W, (execOp a.eval oc).run Tryz.prog W = .ok (.enter f args) W)
    {R : Int → Int → Option Addr → Nat → Nat → Int → Int → Int → World → Prop} (hR : ∀ t n A m c kr r e, Lasts (R t n A m c kr r e))
    (hB : Below w0.heap.size w0 w)
    (hcall : ∀ W, Below w0.heap.size w0 W → Calls Tryz.prog f args W fun e W' => ∃ t n A m c kr r er, e = .returned (.tuple #[stV t n A m c, retV kr r, .int .i64 er]) ∧ R t n A m c kr r er W' ∧ Below W.heap.size W W')
    (hend : ∀ (X Y : Nat) t n A m c kr r er W', w0.heap.size ≤ X → w0.heap.size ≤ Y → X ≠ Y → Holds W' X 24 #[.int .i64 t, .int .i64 n, .slice A m c] → Holds W' Y 26 #[.int .i64 kr, .int .i64 r] → R t n A m c kr r er W' → Below w0.heap.size w0 W' →
      Q .normal ((((parts5 a dT dM d0 d1 d2 (.tuple #[stV t n A m c, retV kr r, .int .i64 er]) (stV t n A m c) (retV kr r) (.int .i64 er)).put (some dX) (.pointer (some ⟨X, 0, none⟩))).put (some dR) (.pointer (some ⟨Y, 0, none⟩))).put (some dE) (.int .i64 er)) W') :
    Forked Tryz.prog ops Q (fun W => Below w0.heap.size w0 W) (.told k) a w := by
  simp only [List.nodup_cons, List.mem_cons, List.not_mem_nil, or_false, not_or, not_false_eq_true, List.nodup_nil, and_true] at hne
  obtain ⟨⟨nTM, nT0, nT1, nT2, nTX, nTR⟩, ⟨nM0, nM1, nM2, nMX, nMR⟩, ⟨n01, n02, n0X, n0R⟩, ⟨n12, n1X, n1R⟩, ⟨n2X, n2R⟩, nXR⟩ := hne
  have sT := hsz dT (by simp)
  have sM := hsz dM (by simp)
  have s0 := hsz d0 (by simp)
  have s1 := hsz d1 (by simp)
  have s2 := hsz d2 (by simp)
  have sX := hsz dX (by simp)
  have sR := hsz dR (by simp)
  have hneq : ∀ {x y : Tmp}, x ≠ y → ∀ z, (some x : Option Tmp) = some z → (some y : Option Tmp) ≠ some z := fun h z e e' => h (by injection e with e; injection e' with e'; exact e.trans e'.symm)
  rw [Bool.or_eq_false_iff] at hlook
  have lX : ∀ d, (some dX : Option Tmp) = some d → d ∉ oc.looksAt ops := fun d e h => by injection e with e; subst e; have := hlook.1; rw [List.contains_iff_mem.2 h] at this; cases this
  have lR : ∀ d, (some dR : Option Tmp) = some d → d ∉ oc.looksAt ops := fun d e h => by injection e with e; subst e; have := hlook.2; rw [List.contains_iff_mem.2 h] at this; cases this
  -- the two stores and the error
  have L : ∀ W X Y t n A m c kr r er, w0.heap.size ≤ X → w0.heap.size ≤ Y → X ≠ Y → Holds W X 24 #[.int .i64 0, .int .i64 0, .slice none 0 0] → Holds W Y 26 #[.int .i64 0, .int .i64 0] → R t n A m c kr r er W → Below w0.heap.size w0 W →
      Forked Tryz.prog ops Q (fun W => Below w0.heap.size w0 W) (.one (k + 7) (.one (k + 8) (.one (k + 9) .done))) (((parts5 a dT dM d0 d1 d2 (.tuple #[stV t n A m c, retV kr r, .int .i64 er]) (stV t n A m c) (retV kr r) (.int .i64 er)).put (some dX) (.pointer (some ⟨X, 0, none⟩))).put (some dR) (.pointer (some ⟨Y, 0, none⟩))) W := by
    intro W X Y t n A m c kr r er hX hY hXY HX HY HR hW
    have z := parts5_size a dT dM d0 d1 d2 (.tuple #[stV t n A m c, retV kr r, .int .i64 er]) (stV t n A m c) (retV kr r) (.int .i64 er)
    have eX : (((parts5 a dT dM d0 d1 d2 (.tuple #[stV t n A m c, retV kr r, .int .i64 er]) (stV t n A m c) (retV kr r) (.int .i64 er)).put (some dX) (.pointer (some ⟨X, 0, none⟩))).put (some dR) (.pointer (some ⟨Y, 0, none⟩))).eval (.tmp dX) = .pointer (some ⟨X, 0, none⟩) := by
      rw [eval_far _ (Ne.symm nXR), eval_same _ (by rw [z]; exact sX)]
    have eR : (((parts5 a dT dM d0 d1 d2 (.tuple #[stV t n A m c, retV kr r, .int .i64 er]) (stV t n A m c) (retV kr r) (.int .i64 er)).put (some dX) (.pointer (some ⟨X, 0, none⟩))).put (some dR) (.pointer (some ⟨Y, 0, none⟩))).eval (.tmp dR) = .pointer (some ⟨Y, 0, none⟩) := by
      rw [eval_same _ (by rw [put_size, z]; exact sR)]
    have e0 : (((parts5 a dT dM d0 d1 d2 (.tuple #[stV t n A m c, retV kr r, .int .i64 er]) (stV t n A m c) (retV kr r) (.int .i64 er)).put (some dX) (.pointer (some ⟨X, 0, none⟩))).put (some dR) (.pointer (some ⟨Y, 0, none⟩))).eval (.tmp d0) = stV t n A m c := by
      rw [eval_far _ (Ne.symm n0R), eval_far _ (Ne.symm n0X)]; unfold parts5; rw [eval_far _ (Ne.symm n02), eval_far _ (Ne.symm n01), eval_same _ (by simp only [put_size]; exact s0)]
    have e1 : (((parts5 a dT dM d0 d1 d2 (.tuple #[stV t n A m c, retV kr r, .int .i64 er]) (stV t n A m c) (retV kr r) (.int .i64 er)).put (some dX) (.pointer (some ⟨X, 0, none⟩))).put (some dR) (.pointer (some ⟨Y, 0, none⟩))).eval (.tmp d1) = retV kr r := by
      rw [eval_far _ (Ne.symm n1R), eval_far _ (Ne.symm n1X)]; unfold parts5; rw [eval_far _ (Ne.symm n12), eval_same _ (by simp only [put_size]; exact s1)]
    have e2 : (((parts5 a dT dM d0 d1 d2 (.tuple #[stV t n A m c, retV kr r, .int .i64 er]) (stV t n A m c) (retV kr r) (.int .i64 er)).put (some dX) (.pointer (some ⟨X, 0, none⟩))).put (some dR) (.pointer (some ⟨Y, 0, none⟩))).eval (.tmp d2) = .int .i64 er := by
      rw [eval_far _ (Ne.symm n2R), eval_far _ (Ne.symm n2X)]; unfold parts5; rw [eval_same _ (by simp only [put_size]; exact s2)]
    have HX0 := (HX.set 0 (.int .i64 t))
    have HX1 := (HX0.set 1 (.int .i64 n))
    have HX2 := (HX1.set 2 (.slice A m c))
    have hR0 := (hR t n A m c kr r er).st _ _ _ 0 (.int .i64 t) HX HR
    have hR1 := (hR t n A m c kr r er).st _ _ _ 1 (.int .i64 n) HX0 hR0
    have hR2 := (hR t n A m c kr r er).st _ _ _ 2 (.slice A m c) HX1 hR1
    have HYs := set_other (set_other (set_other HY 0 (.int .i64 t) hXY.symm) 1 (.int .i64 n) hXY.symm) 2 (.slice A m c) hXY.symm
    have hBs := gro_set (gro_set (gro_set hW 0 (.int .i64 t) hX) 1 (.int .i64 n) hX) 2 (.slice A m c) hX
    refine Goes.skip h7 g7 t7 (exec_storeSt q7 eX e0 HX) hBs ?_
    have HY0 := (HYs.set 0 (.int .i64 kr))
    have HY1 := (HY0.set 1 (.int .i64 r))
    have hR3 := (hR t n A m c kr r er).rt _ _ _ 0 (.int .i64 kr) HYs hR2
    have hR4 := (hR t n A m c kr r er).rt _ _ _ 1 (.int .i64 r) HY0 hR3
    have hBt := gro_set (gro_set hBs 0 (.int .i64 kr) hY) 1 (.int .i64 r) hY
    refine Goes.skip h8 g8 t8 (exec_storeRt q8 eR e1 HYs) hBt ?_
    refine Goes.value (v := .int .i64 er) h9 g9 (by unfold execOp; simp only [q9, e2]; rfl) hBt ?_
    rw [t9]
    exact hend X Y t n A m c kr r er _ hX hY hXY (set_other (set_other HX2 _ _ hXY) _ _ hXY) HY1 hR4 hBt
  -- the parts
  have F : ∀ (a' : Act) (K : Plan) W t n A m c kr r er, a'.tmps.size = a.tmps.size → Forked Tryz.prog ops Q (fun W => Below w0.heap.size w0 W) K (parts5 a' dT dM d0 d1 d2 (.tuple #[stV t n A m c, retV kr r, .int .i64 er]) (stV t n A m c) (retV kr r) (.int .i64 er)) W →
      Forked Tryz.prog ops Q (fun W => Below w0.heap.size w0 W) (.take (k + 1) (.take (k + 2) (.take (k + 3) (.take (k + 4) K)))) (a'.put oc.dst (.tuple #[stV t n A m c, retV kr r, .int .i64 er])) W := by
    intro a' K W t n A m c kr r er hz hK
    rw [t0]
    refine Forked.ask (.tuple #[stV t n A m c, retV kr r, .int .i64 er]) h1 g1 (fun W' _ => by unfold execOp; simp only [q1, eval_same _ (show dT < a'.tmps.size by rw [hz]; exact sT)]; rfl) ?_
    rw [t1]
    have eM : ∀ x : Act, x = (a'.put (some dT) (.tuple #[stV t n A m c, retV kr r, .int .i64 er])).put (some dM) (.tuple #[stV t n A m c, retV kr r, .int .i64 er]) → x.eval (.tmp dM) = .tuple #[stV t n A m c, retV kr r, .int .i64 er] := fun x e => by
      rw [e, eval_same _ (by rw [put_size, hz]; exact sM)]
    refine Forked.ask (stV t n A m c) h2 g2 (fun W' _ => by unfold execOp; simp only [q2, eM _ rfl]; go_simp) ?_
    rw [t2]
    refine Forked.ask (retV kr r) h3 g3 (fun W' _ => by unfold execOp; simp only [q3, eval_far _ (Ne.symm nM0), eM _ rfl]; go_simp) ?_
    rw [t3]
    refine Forked.ask (.int .i64 er) h4 g4 (fun W' _ => by unfold execOp; simp only [q4, eval_far _ (Ne.symm nM1), eval_far _ (Ne.symm nM0), eM _ rfl]; go_simp) ?_
    rw [t4]
    exact hK
  -- one box
  have BX : ∀ (a' : Act) (K : Plan) W, Below w0.heap.size w0 W → (Below w0.heap.size w0 (W.alloc stZ) → Forked Tryz.prog ops Q (fun W => Below w0.heap.size w0 W) K (a'.put (some dX) (.pointer (some ⟨W.heap.size, 0, none⟩))) (W.alloc stZ)) → Goes Tryz.prog ops Q (fun W => Below w0.heap.size w0 W) (k + 5) (Forked Tryz.prog ops Q (fun W => Below w0.heap.size w0 W) K) a' W := fun a' K W hW hK =>
    Goes.value h5 g5 (exec_boxSt a' W q5) (gro_alloc hW _) (by rw [t5]; exact hK (gro_alloc hW _))
  have BR : ∀ (a' : Act) (K : Plan) W, Below w0.heap.size w0 W → (Below w0.heap.size w0 (W.alloc rtZ) → Forked Tryz.prog ops Q (fun W => Below w0.heap.size w0 W) K (a'.put (some dR) (.pointer (some ⟨W.heap.size, 0, none⟩))) (W.alloc rtZ)) → Goes Tryz.prog ops Q (fun W => Below w0.heap.size w0 W) (k + 6) (Forked Tryz.prog ops Q (fun W => Below w0.heap.size w0 W) K) a' W := fun a' K W hW hK =>
    Goes.value h6 g6 (exec_boxRt a' W q6) (gro_alloc hW _) (by rw [t6]; exact hK (gro_alloc hW _))
  -- the call
  have C : ∀ (a' : Act) (K : Act → World → Prop) W, execOp a'.eval oc = execOp a.eval oc → Below w0.heap.size w0 W → (∀ t n A m c kr r er W', R t n A m c kr r er W' → Below W.heap.size W W' → Below w0.heap.size w0 W' → K (a'.put oc.dst (.tuple #[stV t n A m c, retV kr r, .int .i64 er])) W') → Goes Tryz.prog ops Q (fun W => Below w0.heap.size w0 W) k K a' W := by
    intro a' K W he hW hK
    refine Goes.enter h0 g0 (by rw [he]; exact hx W) ((hcall W hW).mono ?_)
    rintro e W' ⟨t, n, A, m, c, kr, r, er, rfl, hr, hb⟩
    have hb2 := onto hW hb
    exact ⟨_, rfl, hb2, hK _ _ _ _ _ _ _ _ _ hr hb hb2⟩
  have xX : ∀ u, execOp (a.put (some dX) u).eval oc = execOp a.eval oc := fun u => execOp_put (ops := ops) oc hsel a _ u lX
  have xR : ∀ u, execOp (a.put (some dR) u).eval oc = execOp a.eval oc := fun u => execOp_put (ops := ops) oc hsel a _ u lR
  have xXR : ∀ u v, execOp ((a.put (some dX) u).put (some dR) v).eval oc = execOp a.eval oc := fun u v => (execOp_put (ops := ops) oc hsel _ _ v lR).trans (xX u)
  have xRX : ∀ u v, execOp ((a.put (some dR) u).put (some dX) v).eval oc = execOp a.eval oc := fun u v => (execOp_put (ops := ops) oc hsel _ _ v lX).trans (xR u)
  have pX := fun (b : Act) (v s r e u : Value) => parts5_put b dT dM d0 d1 d2 dX v s r e u (Ne.symm nTX) (Ne.symm nMX) (Ne.symm n0X) (Ne.symm n1X) (Ne.symm n2X)
  have pR := fun (b : Act) (v s r e u : Value) => parts5_put b dT dM d0 d1 d2 dR v s r e u (Ne.symm nTR) (Ne.symm nMR) (Ne.symm n0R) (Ne.symm n1R) (Ne.symm n2R)
  refine ⟨C a _ w rfl hB fun t n A m c kr r er W hr hb hW => F a _ W _ _ _ _ _ _ _ _ rfl ⟨?_, ?_⟩, BX a _ w hB fun hW => ⟨?_, ?_⟩, BR a _ w hB fun hW => ⟨?_, ?_⟩⟩
  · -- call, X, R
    refine BX _ _ W hW fun hW1 => BR _ _ _ hW1 fun hW2 => ?_
    exact L _ _ _ _ _ _ _ _ _ _ _ hW.size hW1.size (by simp) ((Holds.new W _ _).alloc _) (Holds.new _ _ _) ((hR _ _ _ _ _ _ _ _).new _ _ ((hR _ _ _ _ _ _ _ _).new _ _ hr)) hW2
  · -- call, R, X
    refine BR _ _ W hW fun hW1 => BX _ _ _ hW1 fun hW2 => ?_
    rw [Act.put_comm _ _ _ (hneq (Ne.symm nXR))]
    exact L _ _ _ _ _ _ _ _ _ _ _ hW1.size hW.size (by simp) (Holds.new _ _ _) ((Holds.new W _ _).alloc _) ((hR _ _ _ _ _ _ _ _).new _ _ ((hR _ _ _ _ _ _ _ _).new _ _ hr)) hW2
  · -- X, call, R
    refine C _ _ _ (xX _) hW fun t n A m c kr r er W hr hb hW2 => F _ _ W _ _ _ _ _ _ _ _ (put_size _ _ _) ?_
    rw [pX]
    refine BR _ _ W hW2 fun hW3 => ?_
    have HX := (Holds.new w 24 #[.int .i64 0, .int .i64 0, .slice none 0 0]).below hb (by simp)
    exact L _ _ _ _ _ _ _ _ _ _ _ hB.size hW2.size (by have := HX.lt; omega) (HX.alloc _) (Holds.new _ _ _) ((hR _ _ _ _ _ _ _ _).new _ _ hr) hW3
  · -- X, R, call
    refine BR _ _ _ hW fun hW1 => ?_
    refine C _ _ _ (xXR _ _) hW1 fun t n A m c kr r er W hr hb hW2 => F _ _ W _ _ _ _ _ _ _ _ (by simp only [put_size]) ?_
    rw [pR, pX]
    have HX := ((Holds.new w 24 #[.int .i64 0, .int .i64 0, .slice none 0 0]).alloc rtZ).below hb (by simp; omega)
    have HY := (Holds.new (w.alloc stZ) 26 #[.int .i64 0, .int .i64 0]).below hb (by simp)
    exact L _ _ _ _ _ _ _ _ _ _ _ hB.size hW.size (by simp) HX HY hr hW2
  · -- R, call, X
    refine C _ _ _ (xR _) hW fun t n A m c kr r er W hr hb hW2 => F _ _ W _ _ _ _ _ _ _ _ (put_size _ _ _) ?_
    rw [pR]
    refine BX _ _ W hW2 fun hW3 => ?_
    rw [Act.put_comm _ _ _ (hneq (Ne.symm nXR))]
    have HY := (Holds.new w 26 #[.int .i64 0, .int .i64 0]).below hb (by simp)
    exact L _ _ _ _ _ _ _ _ _ _ _ hW2.size hB.size (by have := HY.lt; omega) (Holds.new _ _ _) (HY.alloc _) ((hR _ _ _ _ _ _ _ _).new _ _ hr) hW3
  · -- R, X, call
    refine BX _ _ _ hW fun hW1 => ?_
    refine C _ _ _ (xRX _ _) hW1 fun t n A m c kr r er W hr hb hW2 => F _ _ W _ _ _ _ _ _ _ _ (by simp only [put_size]) ?_
    rw [pX, pR, Act.put_comm _ _ _ (hneq (Ne.symm nXR))]
    have HY := ((Holds.new w 26 #[.int .i64 0, .int .i64 0]).alloc stZ).below hb (by simp; omega)
    have HX := (Holds.new (w.alloc rtZ) 24 #[.int .i64 0, .int .i64 0, .slice none 0 0]).below hb (by simp)
    exact L _ _ _ _ _ _ _ _ _ _ _ hW.size hB.size (by simp) HX HY hr hW2
end
end
end Go.Proofs.YtmclpganipfadaaGreatDoor
