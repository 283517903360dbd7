/- The document's Legal. -/
import Derived.Test.YtmclpganipfadaaGreatDoorMcS
import Derived.Test.YtmclpganipfadaaGreatDoorMcC
namespace Go.Proofs.YtmclpganipfadaaGreatDoor
open Go.RowKit Go.Maps
set_option linter.unusedVariables false
set_option linter.unusedSimpArgs false

theorem cntA_fault (n : Int) (l : List Int) (kd a b : Int) : (cntA n l kd a b).e ≠ 0 → cntA n l kd a b = noA (cntA n l kd a b).e := by
  unfold cntA
  repeat' (first | (intro h; first | rfl | exact absurd rfl h) | split)
theorem setA_fault (n : Int) (l : List Int) (kd a b : Int) : (setA n l kd a b).e ≠ 0 → setA n l kd a b = noA (setA n l kd a b).e := by
  unfold setA
  repeat' (first | (intro h; first | rfl | exact absurd rfl h) | split)
theorem mapA_fault (n : Int) (l : List Int) (kd a b : Int) : (mapA n l kd a b).e ≠ 0 → mapA n l kd a b = noA (mapA n l kd a b).e := by
  unfold mapA
  repeat' (first | (intro h; first | rfl | exact absurd rfl h) | split)
theorem fifA_fault (n : Int) (l : List Int) (kd a b : Int) : (fifA n l kd a b).e ≠ 0 → fifA n l kd a b = noA (fifA n l kd a b).e := by
  unfold fifA
  repeat' (first | (intro h; first | rfl | exact absurd rfl h) | split)
theorem accA_fault (n : Int) (l : List Int) (kd a b : Int) : (accA n l kd a b).e ≠ 0 → accA n l kd a b = noA (accA n l kd a b).e := by
  unfold accA
  repeat' (first | (intro h; first | rfl | exact absurd rfl h) | split)
theorem mA_fault (t n : Int) (l : List Int) (kd a b : Int) : (mA t n l kd a b).e ≠ 0 → mA t n l kd a b = noA (mA t n l kd a b).e := by
  unfold mA
  by_cases h1 : t = 1
  · simp only [if_pos h1]; exact cntA_fault n l kd a b
  · simp only [if_neg h1]
    by_cases h2 : t = 2
    · simp only [if_pos h2]; exact setA_fault n l kd a b
    · simp only [if_neg h2]
      by_cases h3 : t = 3
      · simp only [if_pos h3]; exact mapA_fault n l kd a b
      · simp only [if_neg h3]
        by_cases h4 : t = 4
        · simp only [if_pos h4]; exact fifA_fault n l kd a b
        · simp only [if_neg h4]
          by_cases h5 : t = 5
          · simp only [if_pos h5]; exact accA_fault n l kd a b
          · simp only [if_neg h5]; intro _; rfl
theorem mO_fault (t n : Int) (l : List Int) (o : Opr) (h : (mO t n l o).e ≠ 0) : mO t n l o = noA (mO t n l o).e := mA_fault _ _ _ _ _ _ h

def RLPost (p : Ans) (b : Bool) (w : World) (e : Ending) (w' : World) : Prop :=
  ∃ A c, e = .returned (.tuple #[stV p.t p.n A p.l.length c, .bool b, .int .i64 p.e]) ∧ RowT w' A p.l ∧ Below w.heap.size w w'

set_option maxRecDepth 100000 in
set_option maxHeartbeats 2000000 in
theorem rlegal_any (t n : Int) (A : Option Addr) (c : Nat) (l : List Int) (o : Opr) (w : World) (hA : Ints w A l) (hlen : l.length ≤ 800) :
    Calls Tryz.prog 10 #[stV t n A l.length c, opV o] w (RLPost (mO t n l o) (okB (mO t n l o) o) w) := by
  have H := fun W (h : Below w.heap.size w W) => rmapply_all t n A c l o.kd o.a o.b W (hA.below h) hlen
  have hfl := mO_fault t n l o
  unfold okB
  have hmo : mA t n l o.kd o.a o.b = mO t n l o := rfl
  rw [hmo] at H
  generalize mO t n l o = p at *
  obtain ⟨pt, pn, pl, pk, pr, pe⟩ := p
  obtain ⟨kd, a, b, rk, rn⟩ := o
  unfold RPost at H
  unfold RLPost
  dsimp only at *
  have hB0 : Below w.heap.size w (((w.alloc (.cells #[.int .i64 t, .int .i64 n, .slice A l.length c] 24)).alloc (.cells #[.int .i64 kd, .int .i64 a, .int .i64 b, .int .i64 rk, .int .i64 rn] 28)).alloc (.cells #[.int .i64 0, .int .i64 0, .slice none 0 0] 24)) := gro_alloc (gro_alloc (alloc1 w _) _) _
  have HS := Lib.hid (((Holds.new w 24 #[.int .i64 t, .int .i64 n, .slice A l.length c]).alloc (.cells #[.int .i64 kd, .int .i64 a, .int .i64 b, .int .i64 rk, .int .i64 rn] 28)).alloc (.cells #[.int .i64 0, .int .i64 0, .slice none 0 0] 24))
  have HO := Lib.hid ((new_second w (.cells #[.int .i64 t, .int .i64 n, .slice A l.length c] 24) 28 #[.int .i64 kd, .int .i64 a, .int .i64 b, .int .i64 rk, .int .i64 rn]).alloc (.cells #[.int .i64 0, .int .i64 0, .slice none 0 0] 24))
  have HZ := Lib.hid (new_second (w.alloc (.cells #[.int .i64 t, .int .i64 n, .slice A l.length c] 24)) (.cells #[.int .i64 kd, .int .i64 a, .int .i64 b, .int .i64 rk, .int .i64 rn] 28) 24 #[.int .i64 0, .int .i64 0, .slice none 0 0])
  rw [World.size_alloc] at HZ
  have hsz : (((w.alloc (.cells #[.int .i64 t, .int .i64 n, .slice A l.length c] 24)).alloc (.cells #[.int .i64 kd, .int .i64 a, .int .i64 b, .int .i64 rk, .int .i64 rn] 28)).alloc (.cells #[.int .i64 0, .int .i64 0, .slice none 0 0] 24)).heap.size = w.heap.size + 3 := by simp
  have Hfl := Lib.hid hfl
  clear hfl
  unfold stV retV opV at *
  go_enter Tryz.func10, Tryz.ntmps10
  go_wp2_with fail
  generalize ((w.alloc (.cells #[.int .i64 t, .int .i64 n, .slice A l.length c] 24)).alloc (.cells #[.int .i64 kd, .int .i64 a, .int .i64 b, .int .i64 rk, .int .i64 rn] 28)).alloc (.cells #[.int .i64 0, .int .i64 0, .slice none 0 0] 24) = W0 at *
  have s0 : W0.cell? ⟨w.heap.size, 0, none⟩ = _ := HS.out.c rfl
  have s1 : W0.cell? ⟨w.heap.size, 1, none⟩ = _ := HS.out.c rfl
  have s2 : W0.cell? ⟨w.heap.size, 2, none⟩ = _ := HS.out.c rfl
  have o0 : W0.cell? ⟨w.heap.size + 1, 0, none⟩ = _ := HO.out.c rfl
  have o1 : W0.cell? ⟨w.heap.size + 1, 1, none⟩ = _ := HO.out.c rfl
  have o2 : W0.cell? ⟨w.heap.size + 1, 2, none⟩ = _ := HO.out.c rfl
  go_wp2_with fail
  refine (H W0 hB0).mono ?_
  rintro e w1 ⟨A1, c1, rfl, ho1, hB1⟩
  have HO1 := Lib.hid (HO.out.below hB1 (by omega))
  have HZ1 := Lib.hid (HZ.out.below hB1 (by omega))
  have hBw1 := onto hB0 hB1
  have hlt1 := HZ1.out.lt
  have HRow1 := Lib.hid ho1
  cases he : (pe != 0)
  · go_upto_region 4 with fail
    have HX2 := Lib.hid ((Holds.new w1 24 #[.int .i64 pt, .int .i64 pn, .slice A1 pl.length c1]).alloc (.cells #[.int .i64 pk, .int .i64 pr] 26))
    have HR2 := Lib.hid (new_second w1 (.cells #[.int .i64 pt, .int .i64 pn, .slice A1 pl.length c1] 24) 26 #[.int .i64 pk, .int .i64 pr])
    have HO2 := Lib.hid ((HO1.out.alloc (.cells #[.int .i64 pt, .int .i64 pn, .slice A1 pl.length c1] 24)).alloc (.cells #[.int .i64 pk, .int .i64 pr] 26))
    have HZ2 := Lib.hid ((HZ1.out.alloc (.cells #[.int .i64 pt, .int .i64 pn, .slice A1 pl.length c1] 24)).alloc (.cells #[.int .i64 pk, .int .i64 pr] 26))
    have ho2 : RowT _ A1 pl := (HRow1.out.below (alloc1 w1 (.cells #[.int .i64 pt, .int .i64 pn, .slice A1 pl.length c1] 24))).below (alloc1 _ (.cells #[.int .i64 pk, .int .i64 pr] 26))
    have hB2 := gro_alloc (gro_alloc hBw1 (.cells #[.int .i64 pt, .int .i64 pn, .slice A1 pl.length c1] 24)) (.cells #[.int .i64 pk, .int .i64 pr] 26)
    generalize (w1.alloc (.cells #[.int .i64 pt, .int .i64 pn, .slice A1 pl.length c1] 24)).alloc (.cells #[.int .i64 pk, .int .i64 pr] 26) = W2 at *
    have nX : w1.heap.size ≠ w.heap.size + 1 + 1 := by omega
    have nR : w1.heap.size + 1 ≠ w.heap.size + 1 + 1 := by omega
    have nO : w.heap.size + 1 ≠ w.heap.size + 1 + 1 := by omega
    have hpe : pe = 0 := by simpa using he
    refine wp_region_noPanic ?_
    refine wp_region_picked [(0, true), (1, true), (2, true), (3, true), (4, true), (5, false), (6, true), (7, true)] (fun W' => Holds W' w1.heap.size 24 #[.int .i64 pt, .int .i64 pn, .slice A1 pl.length c1] ∧ Holds W' (w1.heap.size + 1) 26 #[.int .i64 pk, .int .i64 pr] ∧ Holds W' (w.heap.size + 1) 28 #[.int .i64 kd, .int .i64 a, .int .i64 b, .int .i64 rk, .int .i64 rn]) (by kernel_rfl) (by kernel_rfl) (fun _ _ _ _ _ h => h) ⟨HX2.out, HR2.out, HO2.out⟩ ?_
    have heq := fun W => eql_ret W pk pr rk rn
    iterate 5
      refine Picked.take ?_ (by rfl) (by rfl) ?_ ?_
      rotate_left
      · rintro w' ⟨hwX, hwR, hwO⟩
        have x0 : w'.cell? ⟨w1.heap.size, 0, none⟩ = _ := hwX.c rfl
        have x1 : w'.cell? ⟨w1.heap.size, 1, none⟩ = _ := hwX.c rfl
        have x2 : w'.cell? ⟨w1.heap.size, 2, none⟩ = _ := hwX.c rfl
        have r0 : w'.cell? ⟨w1.heap.size + 1, 0, none⟩ = _ := hwR.c rfl
        have r1 : w'.cell? ⟨w1.heap.size + 1, 1, none⟩ = _ := hwR.c rfl
        have o3 : w'.cell? ⟨w.heap.size + 1, 3, none⟩ = _ := hwO.c rfl
        have o4 : w'.cell? ⟨w.heap.size + 1, 4, none⟩ = _ := hwO.c rfl
        go_simp
        try with_reducible rfl
      simp only [Act.put, List.getElem_toArray, List.getElem_cons_zero, List.getElem_cons_succ, List.setIfInBounds_toArray, List.set_cons_zero, List.set_cons_succ]
    refine Picked.store (by rfl) (by rfl) rfl (exec_storeSt rfl rfl rfl (show Holds W2.drew (w.heap.size + 1 + 1) 24 _ from HZ2.out)) ⟨set_other (set_other (set_other HX2.out _ _ nX) _ _ nX) _ _ nX, set_other (set_other (set_other HR2.out _ _ nR) _ _ nR) _ _ nR, set_other (set_other (set_other HO2.out _ _ nO) _ _ nO) _ _ nO⟩ ?_
    iterate 2
      refine Picked.take ?_ (by rfl) (by rfl) ?_ ?_
      rotate_left
      · rintro w' _
        go_simp
        try with_reducible rfl
      simp only [Act.put, List.getElem_toArray, List.getElem_cons_zero, List.getElem_cons_succ, List.setIfInBounds_toArray, List.set_cons_zero, List.set_cons_succ]
    refine NoPanic.normal ?_
    have HF0 : Holds W2.drew (w.heap.size + 1 + 1) 24 _ := HZ2.out
    have HF1 := HF0.set 0 (.int .i64 pt)
    have HF2 := HF1.set 1 (.int .i64 pn)
    have HF3 := HF2.set 2 (.slice A1 pl.length c1)
    have L := lasts_rowT A1 pl
    have hrow := L.st _ _ _ 2 (.slice A1 pl.length c1) HF2 (L.st _ _ _ 1 (.int .i64 pn) HF1 (L.st _ _ _ 0 (.int .i64 pt) HF0 (show RowT W2.drew A1 pl from ho2)))
    have hbf := gro_set (gro_set (gro_set hB2.drew (b := w.heap.size + 1 + 1) 0 (.int .i64 pt) (by omega)) (b := w.heap.size + 1 + 1) 1 (.int .i64 pn) (by omega)) (b := w.heap.size + 1 + 1) 2 (.slice A1 pl.length c1) (by omega)
    generalize ((W2.drew.setCell ⟨w.heap.size + 1 + 1, 0, none⟩ (.int .i64 pt)).setCell ⟨w.heap.size + 1 + 1, 1, none⟩ (.int .i64 pn)).setCell ⟨w.heap.size + 1 + 1, 2, none⟩ (.slice A1 pl.length c1) = W3 at *
    have k0 : W3.cell? ⟨w.heap.size + 1 + 1, 0, none⟩ = _ := HF3.c rfl
    have k1 : W3.cell? ⟨w.heap.size + 1 + 1, 1, none⟩ = _ := HF3.c rfl
    have k2 : W3.cell? ⟨w.heap.size + 1 + 1, 2, none⟩ = _ := HF3.c rfl
    go_wp2
    refine bodyPost_ret (v := .tuple #[.agg #[.int .i64 pt, .int .i64 pn, .slice A1 pl.length c1], .bool (sameRet pk pr rk rn), .int .i64 0]) (by simp [results, Tryz.f10, go_sem, k0, k1, k2]) rfl ?_
    subst hpe
    exact ⟨A1, c1, rfl, hrow, hbf⟩
  · have HZ2 := Lib.hid ((HZ1.out.alloc (.cells #[.int .i64 pt, .int .i64 pn, .slice A1 pl.length c1] 24)).alloc (.cells #[.int .i64 pk, .int .i64 pr] 26))
    have hB2 := gro_alloc (gro_alloc hBw1 (.cells #[.int .i64 pt, .int .i64 pn, .slice A1 pl.length c1] 24)) (.cells #[.int .i64 pk, .int .i64 pr] 26)
    have z0 := HZ2.out.c (j := 0) rfl
    have z1 := HZ2.out.c (j := 1) rfl
    have z2 := HZ2.out.c (j := 2) rfl
    have y0 := HZ2.out.frozen 0
    have y1 := HZ2.out.frozen 1
    have y2 := HZ2.out.frozen 2
    have hne : pe ≠ 0 := by simpa using he
    have hp := Lib.hid (Hfl.out hne)
    go_wp2
    have HF0 := HZ2.out
    have HF3 := ((HF0.set 0 (.int .i64 0)).set 1 (.int .i64 0)).set 2 (.slice none 0 0)
    have hbf := gro_set (gro_set (gro_set hB2 (b := w.heap.size + 1 + 1) 0 (.int .i64 0) (by omega)) (b := w.heap.size + 1 + 1) 1 (.int .i64 0) (by omega)) (b := w.heap.size + 1 + 1) 2 (.slice none 0 0) (by omega)
    have k0 := HF3.c (j := 0) rfl
    have k1 := HF3.c (j := 1) rfl
    have k2 := HF3.c (j := 2) rfl
    refine bodyPost_ret (v := .tuple #[.agg #[.int .i64 0, .int .i64 0, .slice none 0 0], .bool false, .int .i64 pe]) (by simp [results, Tryz.f10, go_sem, k0, k1, k2]) rfl ?_
    obtain ⟨rfl, rfl, rfl, rfl, rfl, -⟩ := Ans.mk.inj hp.out
    exact ⟨none, 0, by simp [noA, hne], rowT_nil _ _, hbf⟩
end Go.Proofs.YtmclpganipfadaaGreatDoor
