/- awake. (Written by wip/tools/gen_mck.py.) -/
import Derived.Test.YtmclpganipfadaaGreatDoorMcJ
namespace Go.Proofs.YtmclpganipfadaaGreatDoor
open Go.RowKit Go.Maps
set_option linter.unusedVariables false
set_option linter.unusedSimpArgs false

theorem Goes.valueW {P : Program} {ops : Array Oper} {Q : Exit → Act → World → Prop} {S : World → Prop} {k : Nat} {K : Act → World → Prop} {o : Oper} {a : Act} {w w' : World} {v : Value} (h0 : ops[k]? = some o) (hg : Region.wanted o (yielded ops a.tmps) = true) (h : (execOp a.eval o).run P w = .ok (.value v) w') (hS : S w') (hK : K (a.put o.dst v) w') : Goes P ops Q S k K a w :=
  ⟨o, h0, hg, by unfold Oper.wp; rw [h]; exact ⟨hS, hK⟩⟩
theorem Goes.enterW {P : Program} {ops : Array Oper} {Q : Exit → Act → World → Prop} {S : World → Prop} {k : Nat} {K : Act → World → Prop} {o : Oper} {a : Act} {w : World} {f : FuncId} {args : Array Value} (h0 : ops[k]? = some o) (hg : Region.wanted o (yielded ops a.tmps) = true) (h : (execOp a.eval o).run P w = .ok (.enter f args) w)
    (hc : Calls P f args w fun e w' => ∃ v, e = .returned v ∧ S w' ∧ K (a.put o.dst v) w') : Goes P ops Q S k K a w :=
  ⟨o, h0, hg, by unfold Oper.wp; rw [h]; refine hc.mono ?_; rintro e w' ⟨v, rfl, h1, h2⟩; exact ⟨h1, h2⟩⟩
/-- Two lists are laid and handed on, the first call ahead of the second; each list is laid at any time ahead of its call. -/
def Plan.lists (k : Nat) (p : Plan) : Plan :=
  .two k (.two (k + 1) (.one (k + 2) (.one (k + 3) p)) (k + 2) (.one (k + 1) (.one (k + 3) p))) (k + 2) (.one k (.one (k + 1) (.one (k + 3) p)))
section
variable {P : Program} {ops : Array Oper} {Q : Exit → Act → World → Prop} {S : World → Prop} {a : Act} {w : World}
theorem forked_one {k : Nat} {p : Plan} (h : Goes P ops Q S k (Forked P ops Q S p) a w) : Forked P ops Q S (.one k p) a w := h
theorem forked_two {k k' : Nat} {p p' : Plan} (h : Goes P ops Q S k (Forked P ops Q S p) a w) (h' : Goes P ops Q S k' (Forked P ops Q S p') a w) : Forked P ops Q S (.two k p k' p') a w := ⟨h, h'⟩
theorem forked_lists {k : Nat} {p : Plan} (h : Goes P ops Q S k (Forked P ops Q S (.two (k + 1) (.one (k + 2) (.one (k + 3) p)) (k + 2) (.one (k + 1) (.one (k + 3) p)))) a w) (h' : Goes P ops Q S (k + 2) (Forked P ops Q S (.one k (.one (k + 1) (.one (k + 3) p)))) a w) : Forked P ops Q S (.lists k p) a w := ⟨h, h'⟩
end
def aw3 : Plan := .one 29 (.one 30 (.one 31 (.one 32 (Plan.takes [33, 34] .done))))
def aw2 : Plan := Plan.takes [22, 23, 28] (.lists 24 aw3)
def aw1 : Plan := .one 11 (Plan.takes [12, 13, 18] (.one 14 (.one 15 (.one 16 (.one 17 (.one 19 (.one 20 (.one 21 aw2))))))))
/-- What follows, proved once for whatever is left open. -/
theorem forked_cut {β : Type} {P : Program} {ops : Array Oper} {Q : Exit → Act → World → Prop} {S : World → Prop} {G : Prop} (A : β → Act) (C : β → World → Prop) (p : Plan) (rest : ∀ b W, C b W → Forked P ops Q S p (A b) W) (first : (∀ b W, C b W → Forked P ops Q S p (A b) W) → G) : G := first rest
theorem lit_cell (w : World) (x : Int) (l : List Int) : (w.alloc (.cells #[.int .i64 x] 3)).cell? ⟨w.heap.size, 0, none⟩ = some (.int .i64 x) := by rw [World.cell?_alloc_new]; rfl
theorem lit_cell1 (w : World) (x : Int) (o : Obj) : ((w.alloc (.cells #[.int .i64 x] 3)).alloc o).cell? ⟨w.heap.size, 0, none⟩ = some (.int .i64 x) := ((alloc1 _ o).cell (p := ⟨w.heap.size, 0, none⟩) (by simp)).trans (lit_cell w x [])
theorem lit_cell2 (w : World) (o : Obj) (x : Int) : ((w.alloc o).alloc (.cells #[.int .i64 x] 3)).cell? ⟨w.heap.size + 1, 0, none⟩ = some (.int .i64 x) := by
  have := lit_cell (w.alloc o) x []
  rwa [World.size_alloc] at this
/-- Operations as a literal. -/
def opCells (ops : List Opr) : List Value := ops.flatMap fun o => [.int .i64 o.kd, .int .i64 o.a, .int .i64 o.b, .int .i64 o.rk, .int .i64 o.rn]
theorem opCells_at : ∀ (ops : List Opr) (j : Nat) (o : Opr), ops[j]? = some o → (opCells ops)[j * 5]? = some (.int .i64 o.kd) ∧ (opCells ops)[j * 5 + 1]? = some (.int .i64 o.a) ∧ (opCells ops)[j * 5 + 2]? = some (.int .i64 o.b) ∧ (opCells ops)[j * 5 + 3]? = some (.int .i64 o.rk) ∧ (opCells ops)[j * 5 + 4]? = some (.int .i64 o.rn)
  | [], j, o, h => by simp at h
  | x :: r, 0, o, h => by simp at h; subst h; exact ⟨rfl, rfl, rfl, rfl, rfl⟩
  | x :: r, j + 1, o, h => by
    obtain ⟨h0, h1, h2, h3, h4⟩ := opCells_at r j o (by simpa using h)
    have e : ∀ q, (opCells (x :: r))[(j + 1) * 5 + q]? = (opCells r)[j * 5 + q]? := fun q => by
      show ([.int .i64 x.kd, .int .i64 x.a, .int .i64 x.b, .int .i64 x.rk, .int .i64 x.rn] ++ opCells r)[(j + 1) * 5 + q]? = _
      rw [List.getElem?_append_right (by simp; omega)]
      congr 1
      simp
      omega
    exact ⟨(e 0).trans h0, (e 1).trans h1, (e 2).trans h2, (e 3).trans h3, (e 4).trans h4⟩
theorem oprs_lit (w : World) (ops : List Opr) (t : TypeId) (cs : Array Value) (h : cs = (opCells ops).toArray) : Oprs (w.alloc (.cells cs t)) (some ⟨w.heap.size, 0, none⟩) ops := by
  subst h
  intro hl
  refine ⟨w.heap.size, 0, rfl, by simp, fun j o ho => ?_⟩
  obtain ⟨h0, h1, h2, h3, h4⟩ := opCells_at ops j o ho
  refine ⟨?_, ?_, ?_, ?_, ?_⟩ <;> rw [World.cell?_alloc_new, Nat.zero_add, List.getElem?_toArray] <;> assumption

set_option maxRecDepth 100000 in
set_option maxHeartbeats 20000000 in
theorem mcawake_yes (w : World) (hw : Tys w) : Calls Tryz.prog 5 #[] w (Yes w) := by
  have H0 := mctype_any 11 w hw
  rw [show typeP 11 = (4, 0) by decide] at H0
  dsimp only at H0
  go_enter Tryz.func5, Tryz.ntmps5
  go_wp2_with fail
  refine H0.mono ?_
  rintro e w1 ⟨rfl, hB1⟩
  go_wp2_with fail
  have HB1 := Holds.new w1 28 #[.int .i64 11, .int .i64 0, .int .i64 0, .int .i64 1, .int .i64 0]
  have hC0 := gro_alloc hB1 (.cells #[.int .i64 11, .int .i64 0, .int .i64 0, .int .i64 1, .int .i64 0] 28)
  have hsz : (w1.alloc (.cells #[.int .i64 11, .int .i64 0, .int .i64 0, .int .i64 1, .int .i64 0] 28)).heap.size = w1.heap.size + 1 := by simp
  generalize w1.alloc (.cells #[.int .i64 11, .int .i64 0, .int .i64 0, .int .i64 1, .int .i64 0] 28) = W0 at *
  have hlt1 : w1.heap.size < W0.heap.size := by omega
  refine wp_region_noPanic ?_
  refine wp_region_forked (Plan.takes [0, 1, 2, 3, 4, 5, 6] (.lists 7 aw1)) (fun W' => Below W0.heap.size W0 W') (by kernel_rfl) (by kernel_rfl) (fun _ _ _ _ _ h => h) (Below.refl _ _).drew ?_
  refine Forked.take ?_ (by rfl) (by rfl) ?_ ?_
  rotate_left
  · intro w' hw'
    go_simp
    try with_reducible rfl
  simp only [Act.put, List.getElem_toArray, List.getElem_cons_zero, List.getElem_cons_succ, List.setIfInBounds_toArray, List.set_cons_zero, List.set_cons_succ]
  refine Forked.take ?_ (by rfl) (by rfl) ?_ ?_
  rotate_left
  · intro w' hw'
    go_simp
    try with_reducible rfl
  simp only [Act.put, List.getElem_toArray, List.getElem_cons_zero, List.getElem_cons_succ, List.setIfInBounds_toArray, List.set_cons_zero, List.set_cons_succ]
  refine Forked.take ?_ (by rfl) (by rfl) ?_ ?_
  rotate_left
  · intro w' hw'
    go_simp
    try with_reducible rfl
  simp only [Act.put, List.getElem_toArray, List.getElem_cons_zero, List.getElem_cons_succ, List.setIfInBounds_toArray, List.set_cons_zero, List.set_cons_succ]
  refine Forked.take ?_ (by rfl) (by rfl) ?_ ?_
  rotate_left
  · intro w' hw'
    go_simp
    try with_reducible rfl
  simp only [Act.put, List.getElem_toArray, List.getElem_cons_zero, List.getElem_cons_succ, List.setIfInBounds_toArray, List.set_cons_zero, List.set_cons_succ]
  refine Forked.take ?_ (by rfl) (by rfl) ?_ ?_
  rotate_left
  · intro w' hw'
    go_simp
    try with_reducible rfl
  simp only [Act.put, List.getElem_toArray, List.getElem_cons_zero, List.getElem_cons_succ, List.setIfInBounds_toArray, List.set_cons_zero, List.set_cons_succ]
  refine Forked.take ?_ (by rfl) (by rfl) ?_ ?_
  rotate_left
  · intro w' hw'
    go_simp
    try with_reducible rfl
  simp only [Act.put, List.getElem_toArray, List.getElem_cons_zero, List.getElem_cons_succ, List.setIfInBounds_toArray, List.set_cons_zero, List.set_cons_succ]
  refine Forked.take ?_ (by rfl) (by rfl) ?_ ?_
  rotate_left
  · intro w' hw'
    go_simp
    try with_reducible rfl
  simp only [Act.put, List.getElem_toArray, List.getElem_cons_zero, List.getElem_cons_succ, List.setIfInBounds_toArray, List.set_cons_zero, List.set_cons_succ]
  have HS := (Below.refl W0.heap.size W0).drew
  have hDs : W0.drew.heap.size = W0.heap.size := rfl
  refine forked_cut (β := Nat × Nat) (ops := ?opsOne) (Q := ?qOne) (P := Tryz.prog) (S := fun W' => Below W0.heap.size W0 W') (fun b => ({ tmps := #[.bool false, .int .i64 4, .int .i64 0, .pointer (some ⟨w1.heap.size, 0, none⟩), .tuple #[.int .i64 4, .int .i64 0], .tuple #[.int .i64 4, .int .i64 0], .int .i64 4, .int .i64 0, .agg #[.int .i64 1, .int .i64 0], .agg #[.int .i64 11, .int .i64 0, .int .i64 0, .int .i64 1, .int .i64 0], .int .i64 4, .bool true, .bool true, .int .i64 0, .bool true, .bool true, .bool true, .slice (some ⟨b.1, 0, none⟩) 1 1, .agg #[.int .i64 2, .int .i64 0, .slice (some ⟨b.1, 0, none⟩) 1 1], .slice (some ⟨b.2, 0, none⟩) 2 2, .agg #[.int .i64 2, .int .i64 0, .slice (some ⟨b.2, 0, none⟩) 2 2], undef, undef, undef, undef, undef, undef, undef, undef, undef, undef, undef, undef, undef, undef, undef, undef, undef, undef, undef, undef, undef, undef, undef], defers := [] } : Act)) (fun b W => Below W0.heap.size W0 W ∧ Ints W (some ⟨b.1, 0, none⟩) [1] ∧ Ints W (some ⟨b.2, 0, none⟩) [1, 2]) aw1 ?rest1 (fun key1 => ?first1)
  case first1 =>
    refine forked_lists ?_ ?_
    · refine Goes.valueW (v := .slice (some ⟨W0.heap.size, 0, none⟩) 1 1) (w' := W0.drew.alloc (.cells #[.int .i64 1] 3)) (by rfl) (by rfl) (by go_simp) (gro_alloc HS _) ?_
      simp only [Act.put, List.getElem_toArray, List.getElem_cons_zero, List.getElem_cons_succ, List.setIfInBounds_toArray, List.set_cons_zero, List.set_cons_succ]
      replace HS := gro_alloc HS (.cells #[.int .i64 1] 3)
      refine forked_two ?_ ?_
      · have J1 := ints_lit W0.drew [1] 3 _ rfl
        refine Goes.enterW (f := 20) (args := #[.int .i64 2, .slice (some ⟨W0.heap.size, 0, none⟩) 1 1]) (by rfl) (by rfl) (by go_simp) ((mcof_list 2 (some ⟨W0.heap.size, 0, none⟩) 1 1 _ rfl rfl).mono ?_)
        rintro e w20 ⟨rfl, hB20⟩
        replace HS := onto HS hB20
        refine ⟨_, rfl, HS, ?_⟩
        simp only [Act.put, List.getElem_toArray, List.getElem_cons_zero, List.getElem_cons_succ, List.setIfInBounds_toArray, List.set_cons_zero, List.set_cons_succ]
        replace J1 := J1.below hB20
        refine forked_one ?_
        refine Goes.valueW (v := .slice (some ⟨w20.heap.size, 0, none⟩) 2 2) (w' := w20.alloc (.cells #[.int .i64 1, .int .i64 2] 3)) (by rfl) (by rfl) (by go_simp) (gro_alloc HS _) ?_
        simp only [Act.put, List.getElem_toArray, List.getElem_cons_zero, List.getElem_cons_succ, List.setIfInBounds_toArray, List.set_cons_zero, List.set_cons_succ]
        replace HS := gro_alloc HS (.cells #[.int .i64 1, .int .i64 2] 3)
        have J2 := ints_lit w20 [1, 2] 3 _ rfl
        refine forked_one ?_
        refine Goes.enterW (f := 20) (args := #[.int .i64 2, .slice (some ⟨w20.heap.size, 0, none⟩) 2 2]) (by rfl) (by rfl) (by go_simp) ((mcof_list 2 (some ⟨w20.heap.size, 0, none⟩) 2 2 _ rfl rfl).mono ?_)
        rintro e w21 ⟨rfl, hB21⟩
        replace HS := onto HS hB21
        refine ⟨_, rfl, HS, ?_⟩
        simp only [Act.put, List.getElem_toArray, List.getElem_cons_zero, List.getElem_cons_succ, List.setIfInBounds_toArray, List.set_cons_zero, List.set_cons_succ]
        exact key1 (W0.heap.size, w20.heap.size) _ ⟨HS, (J1.below (alloc1 w20 _)).below hB21, J2.below hB21⟩
      · have J1 := ints_lit W0.drew [1] 3 _ rfl
        refine Goes.valueW (v := .slice (some ⟨(W0.heap.size + 1), 0, none⟩) 2 2) (w' := (W0.drew.alloc (.cells #[.int .i64 1] 3)).alloc (.cells #[.int .i64 1, .int .i64 2] 3)) (by rfl) (by rfl) (by go_simp) (gro_alloc HS _) ?_
        simp only [Act.put, List.getElem_toArray, List.getElem_cons_zero, List.getElem_cons_succ, List.setIfInBounds_toArray, List.set_cons_zero, List.set_cons_succ]
        replace HS := gro_alloc HS (.cells #[.int .i64 1, .int .i64 2] 3)
        have J2 := ints_lit (W0.drew.alloc (.cells #[.int .i64 1] 3)) [1, 2] 3 _ rfl
        have J3 := J1.below (alloc1 (W0.drew.alloc (.cells #[.int .i64 1] 3)) (.cells #[.int .i64 1, .int .i64 2] 3))
        refine forked_one ?_
        refine Goes.enterW (f := 20) (args := #[.int .i64 2, .slice (some ⟨W0.heap.size, 0, none⟩) 1 1]) (by rfl) (by rfl) (by go_simp) ((mcof_list 2 (some ⟨W0.heap.size, 0, none⟩) 1 1 _ rfl rfl).mono ?_)
        rintro e w20 ⟨rfl, hB20⟩
        replace HS := onto HS hB20
        refine ⟨_, rfl, HS, ?_⟩
        simp only [Act.put, List.getElem_toArray, List.getElem_cons_zero, List.getElem_cons_succ, List.setIfInBounds_toArray, List.set_cons_zero, List.set_cons_succ]
        refine forked_one ?_
        refine Goes.enterW (f := 20) (args := #[.int .i64 2, .slice (some ⟨(W0.heap.size + 1), 0, none⟩) 2 2]) (by rfl) (by rfl) (by go_simp) ((mcof_list 2 (some ⟨(W0.heap.size + 1), 0, none⟩) 2 2 _ rfl rfl).mono ?_)
        rintro e w21 ⟨rfl, hB21⟩
        replace HS := onto HS hB21
        refine ⟨_, rfl, HS, ?_⟩
        simp only [Act.put, List.getElem_toArray, List.getElem_cons_zero, List.getElem_cons_succ, List.setIfInBounds_toArray, List.set_cons_zero, List.set_cons_succ]
        rw [World.size_alloc] at J2
        exact key1 (W0.heap.size, W0.heap.size + 1) _ ⟨HS, (J3.below hB20).below hB21, (J2.below hB20).below hB21⟩
    · refine Goes.valueW (v := .slice (some ⟨W0.heap.size, 0, none⟩) 2 2) (w' := W0.drew.alloc (.cells #[.int .i64 1, .int .i64 2] 3)) (by rfl) (by rfl) (by go_simp) (gro_alloc HS _) ?_
      simp only [Act.put, List.getElem_toArray, List.getElem_cons_zero, List.getElem_cons_succ, List.setIfInBounds_toArray, List.set_cons_zero, List.set_cons_succ]
      replace HS := gro_alloc HS (.cells #[.int .i64 1, .int .i64 2] 3)
      have J2 := ints_lit W0.drew [1, 2] 3 _ rfl
      refine forked_one ?_
      refine Goes.valueW (v := .slice (some ⟨(W0.heap.size + 1), 0, none⟩) 1 1) (w' := (W0.drew.alloc (.cells #[.int .i64 1, .int .i64 2] 3)).alloc (.cells #[.int .i64 1] 3)) (by rfl) (by rfl) (by go_simp) (gro_alloc HS _) ?_
      simp only [Act.put, List.getElem_toArray, List.getElem_cons_zero, List.getElem_cons_succ, List.setIfInBounds_toArray, List.set_cons_zero, List.set_cons_succ]
      replace HS := gro_alloc HS (.cells #[.int .i64 1] 3)
      have J1 := ints_lit (W0.drew.alloc (.cells #[.int .i64 1, .int .i64 2] 3)) [1] 3 _ rfl
      have J3 := J2.below (alloc1 (W0.drew.alloc (.cells #[.int .i64 1, .int .i64 2] 3)) (.cells #[.int .i64 1] 3))
      refine forked_one ?_
      refine Goes.enterW (f := 20) (args := #[.int .i64 2, .slice (some ⟨(W0.heap.size + 1), 0, none⟩) 1 1]) (by rfl) (by rfl) (by go_simp) ((mcof_list 2 (some ⟨(W0.heap.size + 1), 0, none⟩) 1 1 _ rfl rfl).mono ?_)
      rintro e w20 ⟨rfl, hB20⟩
      replace HS := onto HS hB20
      refine ⟨_, rfl, HS, ?_⟩
      simp only [Act.put, List.getElem_toArray, List.getElem_cons_zero, List.getElem_cons_succ, List.setIfInBounds_toArray, List.set_cons_zero, List.set_cons_succ]
      refine forked_one ?_
      refine Goes.enterW (f := 20) (args := #[.int .i64 2, .slice (some ⟨W0.heap.size, 0, none⟩) 2 2]) (by rfl) (by rfl) (by go_simp) ((mcof_list 2 (some ⟨W0.heap.size, 0, none⟩) 2 2 _ rfl rfl).mono ?_)
      rintro e w21 ⟨rfl, hB21⟩
      replace HS := onto HS hB21
      refine ⟨_, rfl, HS, ?_⟩
      simp only [Act.put, List.getElem_toArray, List.getElem_cons_zero, List.getElem_cons_succ, List.setIfInBounds_toArray, List.set_cons_zero, List.set_cons_succ]
      rw [World.size_alloc] at J1
      exact key1 (W0.heap.size + 1, W0.heap.size) _ ⟨HS, (J1.below hB20).below hB21, (J3.below hB20).below hB21⟩
  case rest1 =>
    rintro ⟨b1, b2⟩ W ⟨HS, I1, I2⟩
    dsimp only
    refine forked_one ?_
    refine Goes.enterW (f := 19) (args := #[.agg #[.int .i64 2, .int .i64 0, .slice (some ⟨b1, 0, none⟩) 1 1], .int .i64 3, .int .i64 2, .agg #[.int .i64 2, .int .i64 0, .slice (some ⟨b2, 0, none⟩) 2 2], .int .i64 1]) (by rfl) (by rfl) (by go_simp) ((mcapplies_yes 2 0 (some ⟨b1, 0, none⟩) (some ⟨b2, 0, none⟩) 1 2 [1] [1, 2] 2 0 3 2 1 W (by kernel_rfl) I1 I2 (by simp) (by simp) (by simp) (by constructor <;> omega)).mono ?_)
    rintro e w11 ⟨rfl, hB11⟩
    replace HS := onto HS hB11
    refine ⟨_, rfl, HS, ?_⟩
    simp only [Act.put, List.getElem_toArray, List.getElem_cons_zero, List.getElem_cons_succ, List.setIfInBounds_toArray, List.set_cons_zero, List.set_cons_succ]
    refine Forked.take ?_ (by rfl) (by rfl) ?_ ?_
    rotate_left
    · intro w' hw'
      go_simp
      try with_reducible rfl
    simp only [Act.put, List.getElem_toArray, List.getElem_cons_zero, List.getElem_cons_succ, List.setIfInBounds_toArray, List.set_cons_zero, List.set_cons_succ]
    refine Forked.take ?_ (by rfl) (by rfl) ?_ ?_
    rotate_left
    · intro w' hw'
      go_simp
      try with_reducible rfl
    simp only [Act.put, List.getElem_toArray, List.getElem_cons_zero, List.getElem_cons_succ, List.setIfInBounds_toArray, List.set_cons_zero, List.set_cons_succ]
    refine Forked.take ?_ (by rfl) (by rfl) ?_ ?_
    rotate_left
    · intro w' hw'
      have o0 : w'.cell? ⟨w1.heap.size, 0, none⟩ = _ := (hw'.cell (p := ⟨w1.heap.size, 0, none⟩) hlt1).trans (HB1.c rfl)
      have o1 : w'.cell? ⟨w1.heap.size, 1, none⟩ = _ := (hw'.cell (p := ⟨w1.heap.size, 1, none⟩) hlt1).trans (HB1.c rfl)
      have o2 : w'.cell? ⟨w1.heap.size, 2, none⟩ = _ := (hw'.cell (p := ⟨w1.heap.size, 2, none⟩) hlt1).trans (HB1.c rfl)
      have o3 : w'.cell? ⟨w1.heap.size, 3, none⟩ = _ := (hw'.cell (p := ⟨w1.heap.size, 3, none⟩) hlt1).trans (HB1.c rfl)
      have o4 : w'.cell? ⟨w1.heap.size, 4, none⟩ = _ := (hw'.cell (p := ⟨w1.heap.size, 4, none⟩) hlt1).trans (HB1.c rfl)
      go_simp
      try with_reducible rfl
    simp only [Act.put, List.getElem_toArray, List.getElem_cons_zero, List.getElem_cons_succ, List.setIfInBounds_toArray, List.set_cons_zero, List.set_cons_succ]
    refine forked_one ?_
    refine Goes.valueW (v := .slice (some ⟨w11.heap.size, 0, none⟩) 1 1) (w' := w11.alloc (.cells #[.int .i64 3] 3)) (by rfl) (by rfl) (by go_simp) (gro_alloc HS _) ?_
    simp only [Act.put, List.getElem_toArray, List.getElem_cons_zero, List.getElem_cons_succ, List.setIfInBounds_toArray, List.set_cons_zero, List.set_cons_succ]
    replace HS := gro_alloc HS (.cells #[.int .i64 3] 3)
    have J1 := ints_lit w11 [3] 3 _ rfl
    refine forked_one ?_
    refine Goes.enterW (f := 20) (args := #[.int .i64 4, .slice (some ⟨w11.heap.size, 0, none⟩) 1 1]) (by rfl) (by rfl) (by go_simp) ((mcof_list 4 (some ⟨w11.heap.size, 0, none⟩) 1 1 _ rfl rfl).mono ?_)
    rintro e w12 ⟨rfl, hB12⟩
    replace HS := onto HS hB12
    refine ⟨_, rfl, HS, ?_⟩
    simp only [Act.put, List.getElem_toArray, List.getElem_cons_zero, List.getElem_cons_succ, List.setIfInBounds_toArray, List.set_cons_zero, List.set_cons_succ]
    replace J1 := J1.below hB12
    refine forked_one ?_
    refine Goes.enterW (f := 20) (args := #[.int .i64 4, .slice none 0 0]) (by rfl) (by rfl) (by go_simp) ((mcof_list 4 none 0 0 _ rfl rfl).mono ?_)
    rintro e w13 ⟨rfl, hB13⟩
    replace HS := onto HS hB13
    refine ⟨_, rfl, HS, ?_⟩
    simp only [Act.put, List.getElem_toArray, List.getElem_cons_zero, List.getElem_cons_succ, List.setIfInBounds_toArray, List.set_cons_zero, List.set_cons_succ]
    replace J1 := J1.below hB13
    unfold stV
    refine forked_one ?_
    refine Goes.enterW (f := 22) (args := #[.int .i64 11, .int .i64 0, .int .i64 3]) (by rfl) (by rfl) (by go_simp) ((mcop_any 11 0 3 _).mono ?_)
    rintro e w14 ⟨rfl, hB14⟩
    replace HS := onto HS hB14
    refine ⟨_, rfl, HS, ?_⟩
    simp only [Act.put, List.getElem_toArray, List.getElem_cons_zero, List.getElem_cons_succ, List.setIfInBounds_toArray, List.set_cons_zero, List.set_cons_succ]
    unfold opV
    replace J1 := J1.below hB14
    refine forked_one ?_
    refine Goes.enterW (f := 22) (args := #[.int .i64 12, .int .i64 0, .int .i64 0]) (by rfl) (by rfl) (by go_simp) ((mcop_any 12 0 0 _).mono ?_)
    rintro e w15 ⟨rfl, hB15⟩
    replace HS := onto HS hB15
    refine ⟨_, rfl, HS, ?_⟩
    simp only [Act.put, List.getElem_toArray, List.getElem_cons_zero, List.getElem_cons_succ, List.setIfInBounds_toArray, List.set_cons_zero, List.set_cons_succ]
    unfold opV
    replace J1 := J1.below hB15
    refine forked_one ?_
    refine Goes.valueW (v := .slice (some ⟨w15.heap.size, 0, none⟩) 3 3) (w' := w15.alloc (.cells #[.int .i64 11, .int .i64 0, .int .i64 0, .int .i64 2, .int .i64 3, .int .i64 11, .int .i64 0, .int .i64 0, .int .i64 1, .int .i64 0, .int .i64 12, .int .i64 0, .int .i64 0, .int .i64 2, .int .i64 0] 28)) (by rfl) (by rfl) (by go_simp) (gro_alloc HS _) ?_
    simp only [Act.put, List.getElem_toArray, List.getElem_cons_zero, List.getElem_cons_succ, List.setIfInBounds_toArray, List.set_cons_zero, List.set_cons_succ]
    replace HS := gro_alloc HS (.cells #[.int .i64 11, .int .i64 0, .int .i64 0, .int .i64 2, .int .i64 3, .int .i64 11, .int .i64 0, .int .i64 0, .int .i64 1, .int .i64 0, .int .i64 12, .int .i64 0, .int .i64 0, .int .i64 2, .int .i64 0] 28)
    have JO := oprs_lit w15 [⟨11, 0, 0, 2, 3⟩, ⟨11, 0, 0, 1, 0⟩, ⟨12, 0, 0, 2, 0⟩] 28 _ rfl
    replace J1 := J1.below (alloc1 w15 (.cells #[.int .i64 11, .int .i64 0, .int .i64 0, .int .i64 2, .int .i64 3, .int .i64 11, .int .i64 0, .int .i64 0, .int .i64 1, .int .i64 0, .int .i64 12, .int .i64 0, .int .i64 0, .int .i64 2, .int .i64 0] 28))
    refine forked_one ?_
    refine Goes.enterW (f := 21) (args := #[.agg #[.int .i64 4, .int .i64 0, .slice (some ⟨w11.heap.size, 0, none⟩) 1 1], .agg #[.int .i64 4, .int .i64 0, .slice none 0 0], .int .i64 3, .int .i64 0, .slice (some ⟨w15.heap.size, 0, none⟩) 3 3]) (by rfl) (by rfl) (by go_simp) ((mcruns_yes ⟨4, 0, [3]⟩ (some ⟨w11.heap.size, 0, none⟩) none (some ⟨w15.heap.size, 0, none⟩) 1 0 3 [⟨11, 0, 0, 2, 3⟩, ⟨11, 0, 0, 1, 0⟩, ⟨12, 0, 0, 2, 0⟩] 4 0 [] 3 0 _ (by kernel_rfl) J1 (ints_nil _ _) JO (by simp) (by simp) (by simp) (by simp [Small])).mono ?_)
    rintro e w16 ⟨rfl, hB16⟩
    replace HS := onto HS hB16
    refine ⟨_, rfl, HS, ?_⟩
    simp only [Act.put, List.getElem_toArray, List.getElem_cons_zero, List.getElem_cons_succ, List.setIfInBounds_toArray, List.set_cons_zero, List.set_cons_succ]
    refine Forked.take ?_ (by rfl) (by rfl) ?_ ?_
    rotate_left
    · intro w' hw'
      go_simp
      try with_reducible rfl
    simp only [Act.put, List.getElem_toArray, List.getElem_cons_zero, List.getElem_cons_succ, List.setIfInBounds_toArray, List.set_cons_zero, List.set_cons_succ]
    refine Forked.take ?_ (by rfl) (by rfl) ?_ ?_
    rotate_left
    · intro w' hw'
      go_simp
      try with_reducible rfl
    simp only [Act.put, List.getElem_toArray, List.getElem_cons_zero, List.getElem_cons_succ, List.setIfInBounds_toArray, List.set_cons_zero, List.set_cons_succ]
    refine Forked.take ?_ (by rfl) (by rfl) ?_ ?_
    rotate_left
    · intro w' hw'
      go_simp
      try with_reducible rfl
    simp only [Act.put, List.getElem_toArray, List.getElem_cons_zero, List.getElem_cons_succ, List.setIfInBounds_toArray, List.set_cons_zero, List.set_cons_succ]
    have HSk := Lib.hid HS
    clear J1 JO I1 I2
    refine forked_cut (β := Nat × Nat) (ops := ?opsTwo) (Q := ?qTwo) (P := Tryz.prog) (S := fun W' => Below W0.heap.size W0 W') (fun b => ({ tmps := #[.bool false, .int .i64 4, .int .i64 0, .pointer (some ⟨w1.heap.size, 0, none⟩), .tuple #[.int .i64 4, .int .i64 0], .tuple #[.int .i64 4, .int .i64 0], .int .i64 4, .int .i64 0, .agg #[.int .i64 1, .int .i64 0], .agg #[.int .i64 11, .int .i64 0, .int .i64 0, .int .i64 1, .int .i64 0], .int .i64 4, .bool true, .bool true, .int .i64 0, .bool true, .bool true, .bool true, .slice (some ⟨b1, 0, none⟩) 1 1, .agg #[.int .i64 2, .int .i64 0, .slice (some ⟨b1, 0, none⟩) 1 1], .slice (some ⟨b2, 0, none⟩) 2 2, .agg #[.int .i64 2, .int .i64 0, .slice (some ⟨b2, 0, none⟩) 2 2], .bool true, .bool true, .bool true, .slice (some ⟨w11.heap.size, 0, none⟩) 1 1, .agg #[.int .i64 4, .int .i64 0, .slice (some ⟨w11.heap.size, 0, none⟩) 1 1], .agg #[.int .i64 4, .int .i64 0, .slice none 0 0], .agg #[.int .i64 11, .int .i64 0, .int .i64 0, .int .i64 2, .int .i64 3], .agg #[.int .i64 11, .int .i64 0, .int .i64 0, .int .i64 1, .int .i64 0], .agg #[.int .i64 12, .int .i64 0, .int .i64 0, .int .i64 2, .int .i64 0], .slice (some ⟨w15.heap.size, 0, none⟩) 3 3, .bool true, .bool true, .bool true, .slice (some ⟨b.1, 0, none⟩) 1 1, .agg #[.int .i64 1, .int .i64 1, .slice none 0 0], .slice (some ⟨b.2, 0, none⟩) 1 1, .agg #[.int .i64 1, .int .i64 3, .slice none 0 0], .agg #[.int .i64 1, .int .i64 2, .int .i64 0, .int .i64 0, .int .i64 0], undef, undef, undef, undef, undef], defers := [] } : Act)) (fun b W => Below W0.heap.size W0 W ∧ Ints W (some ⟨b.1, 0, none⟩) [1] ∧ Ints W (some ⟨b.2, 0, none⟩) [3]) aw3 ?rest2 (fun key2 => ?first2)
    case first2 =>
      refine forked_lists ?_ ?_
      · refine Goes.valueW (v := .slice (some ⟨w16.heap.size, 0, none⟩) 1 1) (w' := w16.alloc (.cells #[.int .i64 1] 3)) (by rfl) (by rfl) (by go_simp) (gro_alloc HS _) ?_
        simp only [Act.put, List.getElem_toArray, List.getElem_cons_zero, List.getElem_cons_succ, List.setIfInBounds_toArray, List.set_cons_zero, List.set_cons_succ]
        replace HS := gro_alloc HS (.cells #[.int .i64 1] 3)
        refine forked_two ?_ ?_
        · have J1 := ints_lit w16 [1] 3 _ rfl
          refine Goes.enterW (f := 20) (args := #[.int .i64 1, .slice (some ⟨w16.heap.size, 0, none⟩) 1 1]) (by rfl) (by rfl) (by go_simp) ((mcof_num 1 1 w16.heap.size 1 _ (by decide) (lit_cell w16 1 [])).mono ?_)
          rintro e w20 ⟨rfl, hB20⟩
          replace HS := onto HS hB20
          refine ⟨_, rfl, HS, ?_⟩
          simp only [Act.put, List.getElem_toArray, List.getElem_cons_zero, List.getElem_cons_succ, List.setIfInBounds_toArray, List.set_cons_zero, List.set_cons_succ]
          replace J1 := J1.below hB20
          refine forked_one ?_
          refine Goes.valueW (v := .slice (some ⟨w20.heap.size, 0, none⟩) 1 1) (w' := w20.alloc (.cells #[.int .i64 3] 3)) (by rfl) (by rfl) (by go_simp) (gro_alloc HS _) ?_
          simp only [Act.put, List.getElem_toArray, List.getElem_cons_zero, List.getElem_cons_succ, List.setIfInBounds_toArray, List.set_cons_zero, List.set_cons_succ]
          replace HS := gro_alloc HS (.cells #[.int .i64 3] 3)
          have J2 := ints_lit w20 [3] 3 _ rfl
          refine forked_one ?_
          refine Goes.enterW (f := 20) (args := #[.int .i64 1, .slice (some ⟨w20.heap.size, 0, none⟩) 1 1]) (by rfl) (by rfl) (by go_simp) ((mcof_num 1 3 w20.heap.size 1 _ (by decide) (lit_cell w20 3 [])).mono ?_)
          rintro e w21 ⟨rfl, hB21⟩
          replace HS := onto HS hB21
          refine ⟨_, rfl, HS, ?_⟩
          simp only [Act.put, List.getElem_toArray, List.getElem_cons_zero, List.getElem_cons_succ, List.setIfInBounds_toArray, List.set_cons_zero, List.set_cons_succ]
          exact key2 (w16.heap.size, w20.heap.size) _ ⟨HS, (J1.below (alloc1 w20 _)).below hB21, J2.below hB21⟩
        · have J1 := ints_lit w16 [1] 3 _ rfl
          refine Goes.valueW (v := .slice (some ⟨(w16.heap.size + 1), 0, none⟩) 1 1) (w' := (w16.alloc (.cells #[.int .i64 1] 3)).alloc (.cells #[.int .i64 3] 3)) (by rfl) (by rfl) (by go_simp) (gro_alloc HS _) ?_
          simp only [Act.put, List.getElem_toArray, List.getElem_cons_zero, List.getElem_cons_succ, List.setIfInBounds_toArray, List.set_cons_zero, List.set_cons_succ]
          replace HS := gro_alloc HS (.cells #[.int .i64 3] 3)
          have J2 := ints_lit (w16.alloc (.cells #[.int .i64 1] 3)) [3] 3 _ rfl
          have J3 := J1.below (alloc1 (w16.alloc (.cells #[.int .i64 1] 3)) (.cells #[.int .i64 3] 3))
          refine forked_one ?_
          refine Goes.enterW (f := 20) (args := #[.int .i64 1, .slice (some ⟨w16.heap.size, 0, none⟩) 1 1]) (by rfl) (by rfl) (by go_simp) ((mcof_num 1 1 w16.heap.size 1 _ (by decide) (lit_cell1 w16 1 _)).mono ?_)
          rintro e w20 ⟨rfl, hB20⟩
          replace HS := onto HS hB20
          refine ⟨_, rfl, HS, ?_⟩
          simp only [Act.put, List.getElem_toArray, List.getElem_cons_zero, List.getElem_cons_succ, List.setIfInBounds_toArray, List.set_cons_zero, List.set_cons_succ]
          refine forked_one ?_
          refine Goes.enterW (f := 20) (args := #[.int .i64 1, .slice (some ⟨(w16.heap.size + 1), 0, none⟩) 1 1]) (by rfl) (by rfl) (by go_simp) ((mcof_num 1 3 (w16.heap.size + 1) 1 _ (by decide) ((hB20.cell (p := ⟨w16.heap.size + 1, 0, none⟩) (by simp)).trans (lit_cell2 w16 _ 3))).mono ?_)
          rintro e w21 ⟨rfl, hB21⟩
          replace HS := onto HS hB21
          refine ⟨_, rfl, HS, ?_⟩
          simp only [Act.put, List.getElem_toArray, List.getElem_cons_zero, List.getElem_cons_succ, List.setIfInBounds_toArray, List.set_cons_zero, List.set_cons_succ]
          rw [World.size_alloc] at J2
          exact key2 (w16.heap.size, w16.heap.size + 1) _ ⟨HS, (J3.below hB20).below hB21, (J2.below hB20).below hB21⟩
      · refine Goes.valueW (v := .slice (some ⟨w16.heap.size, 0, none⟩) 1 1) (w' := w16.alloc (.cells #[.int .i64 3] 3)) (by rfl) (by rfl) (by go_simp) (gro_alloc HS _) ?_
        simp only [Act.put, List.getElem_toArray, List.getElem_cons_zero, List.getElem_cons_succ, List.setIfInBounds_toArray, List.set_cons_zero, List.set_cons_succ]
        replace HS := gro_alloc HS (.cells #[.int .i64 3] 3)
        have J2 := ints_lit w16 [3] 3 _ rfl
        refine forked_one ?_
        refine Goes.valueW (v := .slice (some ⟨(w16.heap.size + 1), 0, none⟩) 1 1) (w' := (w16.alloc (.cells #[.int .i64 3] 3)).alloc (.cells #[.int .i64 1] 3)) (by rfl) (by rfl) (by go_simp) (gro_alloc HS _) ?_
        simp only [Act.put, List.getElem_toArray, List.getElem_cons_zero, List.getElem_cons_succ, List.setIfInBounds_toArray, List.set_cons_zero, List.set_cons_succ]
        replace HS := gro_alloc HS (.cells #[.int .i64 1] 3)
        have J1 := ints_lit (w16.alloc (.cells #[.int .i64 3] 3)) [1] 3 _ rfl
        have J3 := J2.below (alloc1 (w16.alloc (.cells #[.int .i64 3] 3)) (.cells #[.int .i64 1] 3))
        refine forked_one ?_
        refine Goes.enterW (f := 20) (args := #[.int .i64 1, .slice (some ⟨(w16.heap.size + 1), 0, none⟩) 1 1]) (by rfl) (by rfl) (by go_simp) ((mcof_num 1 1 (w16.heap.size + 1) 1 _ (by decide) (lit_cell2 w16 _ 1)).mono ?_)
        rintro e w20 ⟨rfl, hB20⟩
        replace HS := onto HS hB20
        refine ⟨_, rfl, HS, ?_⟩
        simp only [Act.put, List.getElem_toArray, List.getElem_cons_zero, List.getElem_cons_succ, List.setIfInBounds_toArray, List.set_cons_zero, List.set_cons_succ]
        refine forked_one ?_
        refine Goes.enterW (f := 20) (args := #[.int .i64 1, .slice (some ⟨w16.heap.size, 0, none⟩) 1 1]) (by rfl) (by rfl) (by go_simp) ((mcof_num 1 3 w16.heap.size 1 _ (by decide) ((hB20.cell (p := ⟨w16.heap.size, 0, none⟩) (by simp; omega)).trans (lit_cell1 w16 3 _))).mono ?_)
        rintro e w21 ⟨rfl, hB21⟩
        replace HS := onto HS hB21
        refine ⟨_, rfl, HS, ?_⟩
        simp only [Act.put, List.getElem_toArray, List.getElem_cons_zero, List.getElem_cons_succ, List.setIfInBounds_toArray, List.set_cons_zero, List.set_cons_succ]
        rw [World.size_alloc] at J1
        exact key2 (w16.heap.size + 1, w16.heap.size) _ ⟨HS, (J1.below hB20).below hB21, (J3.below hB20).below hB21⟩
    case rest2 =>
      rintro ⟨b3, b4⟩ W ⟨HS, _, _⟩
      dsimp only
      refine forked_one ?_
      refine Goes.enterW (f := 22) (args := #[.int .i64 2, .int .i64 0, .int .i64 4]) (by rfl) (by rfl) (by go_simp) ((mcop_any 2 0 4 _).mono ?_)
      rintro e w17 ⟨rfl, hB17⟩
      replace HS := onto HS hB17
      refine ⟨_, rfl, HS, ?_⟩
      simp only [Act.put, List.getElem_toArray, List.getElem_cons_zero, List.getElem_cons_succ, List.setIfInBounds_toArray, List.set_cons_zero, List.set_cons_succ]
      unfold opV
      refine forked_one ?_
      refine Goes.enterW (f := 22) (args := #[.int .i64 2, .int .i64 0, .int .i64 3]) (by rfl) (by rfl) (by go_simp) ((mcop_any 2 0 3 _).mono ?_)
      rintro e w18 ⟨rfl, hB18⟩
      replace HS := onto HS hB18
      refine ⟨_, rfl, HS, ?_⟩
      simp only [Act.put, List.getElem_toArray, List.getElem_cons_zero, List.getElem_cons_succ, List.setIfInBounds_toArray, List.set_cons_zero, List.set_cons_succ]
      unfold opV
      refine forked_one ?_
      refine Goes.valueW (v := .slice (some ⟨w18.heap.size, 0, none⟩) 3 3) (w' := w18.alloc (.cells #[.int .i64 1, .int .i64 2, .int .i64 0, .int .i64 0, .int .i64 0, .int .i64 2, .int .i64 0, .int .i64 0, .int .i64 2, .int .i64 4, .int .i64 2, .int .i64 0, .int .i64 0, .int .i64 2, .int .i64 3] 28)) (by rfl) (by rfl) (by go_simp) (gro_alloc HS _) ?_
      simp only [Act.put, List.getElem_toArray, List.getElem_cons_zero, List.getElem_cons_succ, List.setIfInBounds_toArray, List.set_cons_zero, List.set_cons_succ]
      replace HS := gro_alloc HS (.cells #[.int .i64 1, .int .i64 2, .int .i64 0, .int .i64 0, .int .i64 0, .int .i64 2, .int .i64 0, .int .i64 0, .int .i64 2, .int .i64 4, .int .i64 2, .int .i64 0, .int .i64 0, .int .i64 2, .int .i64 3] 28)
      have JO := oprs_lit w18 [⟨1, 2, 0, 0, 0⟩, ⟨2, 0, 0, 2, 4⟩, ⟨2, 0, 0, 2, 3⟩] 28 _ rfl
      refine forked_one ?_
      refine Goes.enterW (f := 21) (args := #[.agg #[.int .i64 1, .int .i64 1, .slice none 0 0], .agg #[.int .i64 1, .int .i64 3, .slice none 0 0], .int .i64 1, .int .i64 9, .slice (some ⟨w18.heap.size, 0, none⟩) 3 3]) (by rfl) (by rfl) (by go_simp) ((mcruns_yes ⟨1, 1, []⟩ none none (some ⟨w18.heap.size, 0, none⟩) 0 0 3 [⟨1, 2, 0, 0, 0⟩, ⟨2, 0, 0, 2, 4⟩, ⟨2, 0, 0, 2, 3⟩] 1 3 [] 1 9 _ (by kernel_rfl) (ints_nil _ _) (ints_nil _ _) JO (by simp) (by simp) (by simp) (by simp [Small])).mono ?_)
      rintro e w19 ⟨rfl, hB19⟩
      replace HS := onto HS hB19
      refine ⟨_, rfl, HS, ?_⟩
      simp only [Act.put, List.getElem_toArray, List.getElem_cons_zero, List.getElem_cons_succ, List.setIfInBounds_toArray, List.set_cons_zero, List.set_cons_succ]
      refine Forked.take ?_ (by rfl) (by rfl) ?_ ?_
      rotate_left
      · intro w' hw'
        go_simp
        try with_reducible rfl
      simp only [Act.put, List.getElem_toArray, List.getElem_cons_zero, List.getElem_cons_succ, List.setIfInBounds_toArray, List.set_cons_zero, List.set_cons_succ]
      refine Forked.take ?_ (by rfl) (by rfl) ?_ ?_
      rotate_left
      · intro w' hw'
        go_simp
        try with_reducible rfl
      simp only [Act.put, List.getElem_toArray, List.getElem_cons_zero, List.getElem_cons_succ, List.setIfInBounds_toArray, List.set_cons_zero, List.set_cons_succ]
      refine NoPanic.normal ?_
      go_wp2
      go_ret
      exact ⟨rfl, onto hC0 HS⟩
end Go.Proofs.YtmclpganipfadaaGreatDoor
