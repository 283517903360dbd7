/- The layer machine: Legal. -/
import Derived.Test.YtmclpganipfadaaGreatDoorMcB
namespace Go.Proofs.YtmclpganipfadaaGreatDoor
open Go.RowKit Go.Maps
set_option linter.unusedVariables false

theorem Picked.pass {P : Program} {ops : Array Oper} {Q : Exit → Act → World → Prop} {S : World → Prop} {ms : List (Nat × Bool)} {k : Nat} {o : Oper} {a : Act} {w : World} (h0 : ops[k]? = some o) (h1 : Region.wanted o (yielded ops a.tmps) = false)
    (h : Picked P ops Q S ms (a.put o.dst undef) w) : Picked P ops Q S ((k, true) :: ms) a w := ⟨o, undef, h0, .inr ⟨h1, rfl⟩, h⟩
theorem Picked.store {P : Program} {ops : Array Oper} {Q : Exit → Act → World → Prop} {S : World → Prop} {ms : List (Nat × Bool)} {k : Nat} {o : Oper} {a : Act} {w w1 : World} (h0 : ops[k]? = some o) (h1 : Region.wanted o (yielded ops a.tmps) = true) (hd : o.dst = none) (h2 : (execOp a.eval o).run P w = .ok .skip w1) (hS : S w1)
    (h : Picked P ops Q S ms a w1) : Picked P ops Q S ((k, false) :: ms) a w := by
  refine ⟨o, h0, h1, ?_⟩
  simp only [Oper.wp, h2, Oper.upon]
  exact ⟨hS, by rw [hd]; exact h⟩

/-- An operation that was recorded. -/
structure Opr where
  kd : Int
  a : Int
  b : Int
  rk : Int
  rn : Int
def opV (o : Opr) : Value := .agg #[.int .i64 o.kd, .int .i64 o.a, .int .i64 o.b, .int .i64 o.rk, .int .i64 o.rn]
def mO (t n : Int) (l : List Int) (o : Opr) : Ans := mA t n l o.kd o.a o.b
theorem mO_len (t n : Int) (l : List Int) (o : Opr) : (mO t n l o).l.length ≤ l.length + 2 := mA_len ..
/-- Does it return what was recorded? -/
def okB (p : Ans) (o : Opr) : Bool := p.e == 0 && sameRet p.k p.r o.rk o.rn

def LPost (p : Ans) (b : Bool) (w : World) (e : Ending) (w' : World) : Prop :=
  ∃ A c, e = .returned (.tuple #[stV p.t p.n A p.l.length c, .bool b, .int .i64 p.e]) ∧ w'.ownsRow w.heap.size 3 1 (.slice A p.l.length c) p.l.length (intsOf p.l) ∧ Below w.heap.size w w'

set_option maxRecDepth 100000 in
set_option maxHeartbeats 2000000 in
theorem legal_any (t n : Int) (A : Option Addr) (c : Nat) (l : List Int) (o : Opr) (w : World) (hA : Ints w A l) (hlen : l.length ≤ 800) (hc : l.length ≤ c) (hs : Small o.a) :
    Calls Tryz.prog 9 #[stV t n A l.length c, opV o] w (LPost (mO t n l o) (okB (mO t n l o) o) w) := by
  have H := fun W (h : Below w.heap.size w W) => mcapply_any t n A c l o.kd o.a o.b W (hA.below h) hlen hc hs
  unfold okB
  have hmo : mA t n l o.kd o.a o.b = mO t n l o := rfl
  rw [hmo] at H
  generalize mO t n l o = p at *
  obtain ⟨pt, pn, pl, pk, pr, pe⟩ := p
  obtain ⟨kd, a, b, rk, rn⟩ := o
  unfold MPost at H
  unfold LPost
  dsimp only at *
  have hB0 : Below w.heap.size w (((w.alloc (.cells #[.int .i64 t, .int .i64 n, .slice A l.length c] 24)).alloc (.cells #[.int .i64 kd, .int .i64 a, .int .i64 b, .int .i64 rk, .int .i64 rn] 28)).alloc (.cells #[.int .i64 0, .int .i64 0, .slice none 0 0] 24)) := gro_alloc (gro_alloc (alloc1 w _) _) _
  have HS := Lib.hid (((Holds.new w 24 #[.int .i64 t, .int .i64 n, .slice A l.length c]).alloc (.cells #[.int .i64 kd, .int .i64 a, .int .i64 b, .int .i64 rk, .int .i64 rn] 28)).alloc (.cells #[.int .i64 0, .int .i64 0, .slice none 0 0] 24))
  have HO := Lib.hid ((new_second w (.cells #[.int .i64 t, .int .i64 n, .slice A l.length c] 24) 28 #[.int .i64 kd, .int .i64 a, .int .i64 b, .int .i64 rk, .int .i64 rn]).alloc (.cells #[.int .i64 0, .int .i64 0, .slice none 0 0] 24))
  have HZ := Lib.hid (new_second (w.alloc (.cells #[.int .i64 t, .int .i64 n, .slice A l.length c] 24)) (.cells #[.int .i64 kd, .int .i64 a, .int .i64 b, .int .i64 rk, .int .i64 rn] 28) 24 #[.int .i64 0, .int .i64 0, .slice none 0 0])
  rw [World.size_alloc] at HZ
  have hsz : (((w.alloc (.cells #[.int .i64 t, .int .i64 n, .slice A l.length c] 24)).alloc (.cells #[.int .i64 kd, .int .i64 a, .int .i64 b, .int .i64 rk, .int .i64 rn] 28)).alloc (.cells #[.int .i64 0, .int .i64 0, .slice none 0 0] 24)).heap.size = w.heap.size + 3 := by simp
  unfold stV retV opV at *
  go_enter Tryz.func9, Tryz.ntmps9
  go_wp2_with fail
  generalize ((w.alloc (.cells #[.int .i64 t, .int .i64 n, .slice A l.length c] 24)).alloc (.cells #[.int .i64 kd, .int .i64 a, .int .i64 b, .int .i64 rk, .int .i64 rn] 28)).alloc (.cells #[.int .i64 0, .int .i64 0, .slice none 0 0] 24) = W0 at *
  have s0 : W0.cell? ⟨w.heap.size, 0, none⟩ = _ := HS.out.c rfl
  have s1 : W0.cell? ⟨w.heap.size, 1, none⟩ = _ := HS.out.c rfl
  have s2 : W0.cell? ⟨w.heap.size, 2, none⟩ = _ := HS.out.c rfl
  have o0 : W0.cell? ⟨w.heap.size + 1, 0, none⟩ = _ := HO.out.c rfl
  have o1 : W0.cell? ⟨w.heap.size + 1, 1, none⟩ = _ := HO.out.c rfl
  have o2 : W0.cell? ⟨w.heap.size + 1, 2, none⟩ = _ := HO.out.c rfl
  go_wp2_with fail
  refine (H W0 hB0).mono ?_
  rintro e w1 ⟨A1, c1, rfl, ho1, hB1⟩
  have HO1 := Lib.hid (HO.out.below hB1 (by omega))
  have HZ1 := Lib.hid (HZ.out.below hB1 (by omega))
  have hBw1 := onto hB0 hB1
  have hlt1 := HZ1.out.lt
  go_wp2_with fail
  have HX2 := Lib.hid ((Holds.new w1 24 #[.int .i64 pt, .int .i64 pn, .slice A1 pl.length c1]).alloc (.cells #[.int .i64 pk, .int .i64 pr] 26))
  have HR2 := Lib.hid (new_second w1 (.cells #[.int .i64 pt, .int .i64 pn, .slice A1 pl.length c1] 24) 26 #[.int .i64 pk, .int .i64 pr])
  have HO2 := Lib.hid ((HO1.out.alloc (.cells #[.int .i64 pt, .int .i64 pn, .slice A1 pl.length c1] 24)).alloc (.cells #[.int .i64 pk, .int .i64 pr] 26))
  have HZ2 := Lib.hid ((HZ1.out.alloc (.cells #[.int .i64 pt, .int .i64 pn, .slice A1 pl.length c1] 24)).alloc (.cells #[.int .i64 pk, .int .i64 pr] 26))
  have ho2 := row_more (b' := w.heap.size) (row_below (row_below ho1 (alloc1 w1 (.cells #[.int .i64 pt, .int .i64 pn, .slice A1 pl.length c1] 24))) (alloc1 _ (.cells #[.int .i64 pk, .int .i64 pr] 26))) hB0.size
  have hB2 := gro_alloc (gro_alloc hBw1 (.cells #[.int .i64 pt, .int .i64 pn, .slice A1 pl.length c1] 24)) (.cells #[.int .i64 pk, .int .i64 pr] 26)
  generalize (w1.alloc (.cells #[.int .i64 pt, .int .i64 pn, .slice A1 pl.length c1] 24)).alloc (.cells #[.int .i64 pk, .int .i64 pr] 26) = W2 at *
  have hnz : ∀ g, (Value.slice A1 pl.length c1).ownBlock = some g → g ≠ w.heap.size + 1 + 1 := fun g e e' => HZ2.out.not_row ho2 (by decide) (by rw [e, e'])
  have nX : w1.heap.size ≠ w.heap.size + 1 + 1 := by omega
  have nR : w1.heap.size + 1 ≠ w.heap.size + 1 + 1 := by omega
  have nO : w.heap.size + 1 ≠ w.heap.size + 1 + 1 := by omega
  refine wp_region_noPanic ?_
  cases he : (pe == 0)
  · refine wp_region_picked [(0, true), (1, true), (2, true), (3, true), (4, true), (5, true), (6, true), (7, true), (8, true), (9, true), (10, false), (11, true), (12, true)] (fun W' => Holds W' w1.heap.size 24 #[.int .i64 pt, .int .i64 pn, .slice A1 pl.length c1] ∧ Holds W' (w1.heap.size + 1) 26 #[.int .i64 pk, .int .i64 pr] ∧ Holds W' (w.heap.size + 1) 28 #[.int .i64 kd, .int .i64 a, .int .i64 b, .int .i64 rk, .int .i64 rn]) (by kernel_rfl) (by kernel_rfl) (fun _ _ _ _ _ h => h) ⟨HX2.out, HR2.out, HO2.out⟩ ?_
    iterate 4
      refine Picked.take ?_ (by rfl) (by rfl) ?_ ?_
      rotate_left
      · rintro w' ⟨hwX, hwR, hwO⟩
        have x0 : w'.cell? ⟨w1.heap.size, 0, none⟩ = _ := hwX.c rfl
        have x1 : w'.cell? ⟨w1.heap.size, 1, none⟩ = _ := hwX.c rfl
        have x2 : w'.cell? ⟨w1.heap.size, 2, none⟩ = _ := hwX.c rfl
        have r0 : w'.cell? ⟨w1.heap.size + 1, 0, none⟩ = _ := hwR.c rfl
        have r1 : w'.cell? ⟨w1.heap.size + 1, 1, none⟩ = _ := hwR.c rfl
        have o3 : w'.cell? ⟨w.heap.size + 1, 3, none⟩ = _ := hwO.c rfl
        have o4 : w'.cell? ⟨w.heap.size + 1, 4, none⟩ = _ := hwO.c rfl
        go_simp
        try with_reducible rfl
      simp only [Act.put, List.getElem_toArray, List.getElem_cons_zero, List.getElem_cons_succ, List.setIfInBounds_toArray, List.set_cons_zero, List.set_cons_succ]
    iterate 4
      refine Picked.pass (by rfl) (by rfl) ?_
      simp only [Act.put, List.getElem_toArray, List.getElem_cons_zero, List.getElem_cons_succ, List.setIfInBounds_toArray, List.set_cons_zero, List.set_cons_succ]
    iterate 2
      refine Picked.take ?_ (by rfl) (by rfl) ?_ ?_
      rotate_left
      · rintro w' ⟨hwX, hwR, hwO⟩
        have x0 : w'.cell? ⟨w1.heap.size, 0, none⟩ = _ := hwX.c rfl
        have x1 : w'.cell? ⟨w1.heap.size, 1, none⟩ = _ := hwX.c rfl
        have x2 : w'.cell? ⟨w1.heap.size, 2, none⟩ = _ := hwX.c rfl
        have r0 : w'.cell? ⟨w1.heap.size + 1, 0, none⟩ = _ := hwR.c rfl
        have r1 : w'.cell? ⟨w1.heap.size + 1, 1, none⟩ = _ := hwR.c rfl
        have o3 : w'.cell? ⟨w.heap.size + 1, 3, none⟩ = _ := hwO.c rfl
        have o4 : w'.cell? ⟨w.heap.size + 1, 4, none⟩ = _ := hwO.c rfl
        go_simp
        try with_reducible rfl
      simp only [Act.put, List.getElem_toArray, List.getElem_cons_zero, List.getElem_cons_succ, List.setIfInBounds_toArray, List.set_cons_zero, List.set_cons_succ]
    refine Picked.store (by rfl) (by rfl) rfl (exec_storeSt rfl rfl rfl (show Holds W2.drew (w.heap.size + 1 + 1) 24 _ from HZ2.out)) ⟨set_other (set_other (set_other HX2.out _ _ nX) _ _ nX) _ _ nX, set_other (set_other (set_other HR2.out _ _ nR) _ _ nR) _ _ nR, set_other (set_other (set_other HO2.out _ _ nO) _ _ nO) _ _ nO⟩ ?_
    iterate 2
      refine Picked.take ?_ (by rfl) (by rfl) ?_ ?_
      rotate_left
      · rintro w' _
        go_simp
        try with_reducible rfl
      simp only [Act.put, List.getElem_toArray, List.getElem_cons_zero, List.getElem_cons_succ, List.setIfInBounds_toArray, List.set_cons_zero, List.set_cons_succ]
    refine NoPanic.normal ?_
    go_wp2
    have HF := set_three (a' := .int .i64 pt) (b' := .int .i64 pn) (c' := .slice A1 pl.length c1) (show Holds W2.drew (w.heap.size + 1 + 1) 24 _ from HZ2.out)
    have hod : W2.drew.ownsRow w.heap.size 3 1 (.slice A1 pl.length c1) pl.length (intsOf pl) := ho2
    have hrow := row_set (row_set (row_set hod (w.heap.size + 1 + 1) 0 (.int .i64 pt) hnz) (w.heap.size + 1 + 1) 1 (.int .i64 pn) hnz) (w.heap.size + 1 + 1) 2 (.slice A1 pl.length c1) hnz
    have hbf := gro_set (gro_set (gro_set hB2.drew (b := w.heap.size + 1 + 1) 0 (.int .i64 pt) (by omega)) (b := w.heap.size + 1 + 1) 1 (.int .i64 pn) (by omega)) (b := w.heap.size + 1 + 1) 2 (.slice A1 pl.length c1) (by omega)
    generalize ((W2.drew.setCell ⟨w.heap.size + 1 + 1, 0, none⟩ (.int .i64 pt)).setCell ⟨w.heap.size + 1 + 1, 1, none⟩ (.int .i64 pn)).setCell ⟨w.heap.size + 1 + 1, 2, none⟩ (.slice A1 pl.length c1) = W3 at *
    have k0 : W3.cell? ⟨w.heap.size + 1 + 1, 0, none⟩ = _ := HF.c rfl
    have k1 : W3.cell? ⟨w.heap.size + 1 + 1, 1, none⟩ = _ := HF.c rfl
    have k2 : W3.cell? ⟨w.heap.size + 1 + 1, 2, none⟩ = _ := HF.c rfl
    refine bodyPost_ret (v := .tuple #[.agg #[.int .i64 pt, .int .i64 pn, .slice A1 pl.length c1], .bool false, .int .i64 pe]) (by simp [results, Tryz.f9, go_sem, k0, k1, k2]) rfl ?_
    exact ⟨A1, c1, by rw [he]; rfl, hrow, hbf⟩
  · refine wp_region_picked [(0, true), (1, true), (2, true), (3, true), (4, true), (5, true), (6, true), (7, true), (8, true), (9, true), (10, false), (11, true), (12, true)] (fun W' => Holds W' w1.heap.size 24 #[.int .i64 pt, .int .i64 pn, .slice A1 pl.length c1] ∧ Holds W' (w1.heap.size + 1) 26 #[.int .i64 pk, .int .i64 pr] ∧ Holds W' (w.heap.size + 1) 28 #[.int .i64 kd, .int .i64 a, .int .i64 b, .int .i64 rk, .int .i64 rn]) (by kernel_rfl) (by kernel_rfl) (fun _ _ _ _ _ h => h) ⟨HX2.out, HR2.out, HO2.out⟩ ?_
    have heq := fun W => eql_ret W pk pr rk rn
    iterate 10
      refine Picked.take ?_ (by rfl) (by rfl) ?_ ?_
      rotate_left
      · rintro w' ⟨hwX, hwR, hwO⟩
        have x0 : w'.cell? ⟨w1.heap.size, 0, none⟩ = _ := hwX.c rfl
        have x1 : w'.cell? ⟨w1.heap.size, 1, none⟩ = _ := hwX.c rfl
        have x2 : w'.cell? ⟨w1.heap.size, 2, none⟩ = _ := hwX.c rfl
        have r0 : w'.cell? ⟨w1.heap.size + 1, 0, none⟩ = _ := hwR.c rfl
        have r1 : w'.cell? ⟨w1.heap.size + 1, 1, none⟩ = _ := hwR.c rfl
        have o3 : w'.cell? ⟨w.heap.size + 1, 3, none⟩ = _ := hwO.c rfl
        have o4 : w'.cell? ⟨w.heap.size + 1, 4, none⟩ = _ := hwO.c rfl
        go_simp
        try with_reducible rfl
      simp only [Act.put, List.getElem_toArray, List.getElem_cons_zero, List.getElem_cons_succ, List.setIfInBounds_toArray, List.set_cons_zero, List.set_cons_succ]
    refine Picked.store (by rfl) (by rfl) rfl (exec_storeSt rfl rfl rfl (show Holds W2.drew (w.heap.size + 1 + 1) 24 _ from HZ2.out)) ⟨set_other (set_other (set_other HX2.out _ _ nX) _ _ nX) _ _ nX, set_other (set_other (set_other HR2.out _ _ nR) _ _ nR) _ _ nR, set_other (set_other (set_other HO2.out _ _ nO) _ _ nO) _ _ nO⟩ ?_
    iterate 2
      refine Picked.take ?_ (by rfl) (by rfl) ?_ ?_
      rotate_left
      · rintro w' _
        go_simp
        try with_reducible rfl
      simp only [Act.put, List.getElem_toArray, List.getElem_cons_zero, List.getElem_cons_succ, List.setIfInBounds_toArray, List.set_cons_zero, List.set_cons_succ]
    refine NoPanic.normal ?_
    go_wp2
    have HF := set_three (a' := .int .i64 pt) (b' := .int .i64 pn) (c' := .slice A1 pl.length c1) (show Holds W2.drew (w.heap.size + 1 + 1) 24 _ from HZ2.out)
    have hod : W2.drew.ownsRow w.heap.size 3 1 (.slice A1 pl.length c1) pl.length (intsOf pl) := ho2
    have hrow := row_set (row_set (row_set hod (w.heap.size + 1 + 1) 0 (.int .i64 pt) hnz) (w.heap.size + 1 + 1) 1 (.int .i64 pn) hnz) (w.heap.size + 1 + 1) 2 (.slice A1 pl.length c1) hnz
    have hbf := gro_set (gro_set (gro_set hB2.drew (b := w.heap.size + 1 + 1) 0 (.int .i64 pt) (by omega)) (b := w.heap.size + 1 + 1) 1 (.int .i64 pn) (by omega)) (b := w.heap.size + 1 + 1) 2 (.slice A1 pl.length c1) (by omega)
    generalize ((W2.drew.setCell ⟨w.heap.size + 1 + 1, 0, none⟩ (.int .i64 pt)).setCell ⟨w.heap.size + 1 + 1, 1, none⟩ (.int .i64 pn)).setCell ⟨w.heap.size + 1 + 1, 2, none⟩ (.slice A1 pl.length c1) = W3 at *
    have k0 : W3.cell? ⟨w.heap.size + 1 + 1, 0, none⟩ = _ := HF.c rfl
    have k1 : W3.cell? ⟨w.heap.size + 1 + 1, 1, none⟩ = _ := HF.c rfl
    have k2 : W3.cell? ⟨w.heap.size + 1 + 1, 2, none⟩ = _ := HF.c rfl
    refine bodyPost_ret (v := .tuple #[.agg #[.int .i64 pt, .int .i64 pn, .slice A1 pl.length c1], .bool (sameRet pk pr rk rn), .int .i64 pe]) (by simp [results, Tryz.f9, go_sem, k0, k1, k2]) rfl ?_
    exact ⟨A1, c1, by rw [he]; rfl, hrow, hbf⟩
end Go.Proofs.YtmclpganipfadaaGreatDoor
