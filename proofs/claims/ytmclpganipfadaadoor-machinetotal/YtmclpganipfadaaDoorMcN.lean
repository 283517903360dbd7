/- MachineTotal. -/
import Derived.Test.YtmclpganipfadaaDoorMcM
import Derived.Test.YtmclpganipfadaaDoorMcL
namespace Go.Proofs.YtmclpganipfadaaDoor
open Go.RowKit Go.Maps
set_option linter.unusedVariables false

theorem sameRet_comm (a b c d : Int) : sameRet a b c d = sameRet c d a b := by
  unfold sameRet
  rw [show (a == c) = (c == a) from Bool.beq_comm, show (b == d) = (d == b) from Bool.beq_comm]

set_option maxRecDepth 100000 in
set_option maxHeartbeats 4000000 in
theorem total_long (t n : Int) (A : Option Addr) (c : Nat) (l : List Int) (wh a b rk rn : Int) (w : World) (hw : Tys w) (hlen : 60 < l.length) :
    Calls Tryd.prog 4 #[stV t n A l.length c, .int .i64 wh, .int .i64 a, .int .i64 b, .agg #[.int .i64 rk, .int .i64 rn]] w (Yes w) := by
  have hB0 : Below w.heap.size w ((w.alloc (.cells #[.int .i64 t, .int .i64 n, .slice A l.length c] 27)).alloc (.cells #[.int .i64 rk, .int .i64 rn] 29)) := (alloc1 w _).alloc (by simp) _
  have HS0 := Lib.hid ((Holds.new w 27 #[.int .i64 t, .int .i64 n, .slice A l.length c]).alloc (.cells #[.int .i64 rk, .int .i64 rn] 29))
  have HK := mcknown_all _ (hw.on hB0)
  have k0 : decide ((60 : Int) < (l.length : Int)) = true := decide_eq_true (by omega)
  unfold stV
  clear hw hlen
  go_enter Tryd.func4, Tryd.ntmps4
  go_wp2_with fail
  refine HK.mono ?_
  generalize (w.alloc (.cells #[.int .i64 t, .int .i64 n, .slice A l.length c] 27)).alloc (.cells #[.int .i64 rk, .int .i64 rn] 29) = W0 at *
  rintro e w1 ⟨rfl, hB1⟩
  have hC1 := onto hB0 hB1
  have s2 : w1.cell? ⟨w.heap.size, 2, none⟩ = _ := (HS0.out.below hB1 HS0.out.lt).c rfl
  go_wp2
  go_ret
  exact ⟨rfl, hC1⟩

set_option maxRecDepth 100000 in
set_option maxHeartbeats 4000000 in
theorem total_formless (t n : Int) (A : Option Addr) (c : Nat) (l : List Int) (wh a b rk rn : Int) (w : World) (hw : Tys w) (hA : Ints w A l) (hlen : l.length ≤ 60) (hk : checkE t n l ≠ 0) :
    Calls Tryd.prog 4 #[stV t n A l.length c, .int .i64 wh, .int .i64 a, .int .i64 b, .agg #[.int .i64 rk, .int .i64 rn]] w (Yes w) := by
  have hB0 : Below w.heap.size w ((w.alloc (.cells #[.int .i64 t, .int .i64 n, .slice A l.length c] 27)).alloc (.cells #[.int .i64 rk, .int .i64 rn] 29)) := (alloc1 w _).alloc (by simp) _
  have HS0 := Lib.hid ((Holds.new w 27 #[.int .i64 t, .int .i64 n, .slice A l.length c]).alloc (.cells #[.int .i64 rk, .int .i64 rn] 29))
  have HK := mcknown_all _ (hw.on hB0)
  have k0 : decide ((60 : Int) < (l.length : Int)) = false := decide_eq_false (by omega)
  have HC := fun W (h : Below w.heap.size w W) => check_any t n A c l W (hA.below h) (by omega)
  have k1 : (checkE t n l != 0) = true := by simpa using hk
  generalize checkE t n l = ce at *
  unfold stV at *
  clear hw hlen hk hA
  go_enter Tryd.func4, Tryd.ntmps4
  go_wp2_with fail
  refine HK.mono ?_
  generalize (w.alloc (.cells #[.int .i64 t, .int .i64 n, .slice A l.length c] 27)).alloc (.cells #[.int .i64 rk, .int .i64 rn] 29) = W0 at *
  rintro e w1 ⟨rfl, hB1⟩
  have hC1 := onto hB0 hB1
  have HS1 := HS0.out.below hB1 HS0.out.lt
  have s0 : w1.cell? ⟨w.heap.size, 0, none⟩ = _ := HS1.c rfl
  have s1 : w1.cell? ⟨w.heap.size, 1, none⟩ = _ := HS1.c rfl
  have s2 : w1.cell? ⟨w.heap.size, 2, none⟩ = _ := HS1.c rfl
  go_wp2_with fail
  refine (HC _ hC1).mono ?_
  rintro e w2 ⟨rfl, hB2⟩
  have hC2 := onto hC1 hB2
  go_wp2
  go_ret
  exact ⟨rfl, hC2⟩

set_option maxRecDepth 100000 in
set_option maxHeartbeats 4000000 in
theorem total_form (t n : Int) (A : Option Addr) (c : Nat) (l : List Int) (wh a b rk rn : Int) (w : World) (hw : Tys w) (hA : Ints w A l) (hlen : l.length ≤ 60) (hc : l.length ≤ c) (hwh : Small wh) (ha : Small a) (hk : checkE t n l = 0) :
    Calls Tryd.prog 4 #[stV t n A l.length c, .int .i64 wh, .int .i64 a, .int .i64 b, .agg #[.int .i64 rk, .int .i64 rn]] w (Yes w) := by
  obtain ⟨ht1, ht5, _⟩ := check_ok hk
  obtain ⟨⟨kd, oa, ob, ok, on⟩, hm, HM⟩ := may_any t wh a b hwh ha ht1 ht5
  obtain ⟨he, htt, hck⟩ := may_form hm hk
  have hty := may_type hm
  obtain ⟨hsm, hk0, hn0, -⟩ := hm
  dsimp only at hk0 hn0 hsm hty
  subst hk0 hn0
  have HC := fun W (h : Below w.heap.size w W) => check_any t n A c l W (hA.below h) (by omega)
  rw [hk] at HC
  have HT := fun W (h : Tys W) => mctype_any kd W h
  rw [hty] at HT
  dsimp only at HT
  have HAp := fun W (h : Below w.heap.size w W) => mcapply_any t n A c l kd oa ob W (hA.below h) (by omega) hc hsm
  have HL := fun rk rn W (h : Below w.heap.size w W) => legal_any t n A c l ⟨kd, oa, ob, rk, rn⟩ W (hA.below h) (by omega) hc hsm
  have hmo : ∀ rk rn, mO t n l ⟨kd, oa, ob, rk, rn⟩ = mA t n l kd oa ob := fun _ _ => rfl
  have hplen := mA_len t n l kd oa ob
  simp only [hmo] at HL he htt hck
  clear hmo hty
  generalize mA t n l kd oa ob = p at *
  obtain ⟨pt, pn, pl, pk, pr, pe⟩ := p
  dsimp only at he htt hck hplen
  subst he htt
  have HC2 := fun A' c' W (h : Ints W A' pl) => check_any pt pn A' c' pl W h (by omega)
  rw [hck] at HC2
  have HQ := fun A' B' c' d' W (h : Ints W A' pl) (h' : Ints W B' pl) => samest_any pt pn pt pn A' B' c' d' pl pl W h h' (by omega)
  rw [same_iff.2 ⟨rfl, rfl, rfl⟩] at HQ
  have HLs := HL pk pr
  have HLo := HL rk rn
  rw [show okB ⟨pt, pn, pl, pk, pr, 0⟩ ⟨kd, oa, ob, pk, pr⟩ = true by simp [okB, sameRet]] at HLs
  rw [show okB ⟨pt, pn, pl, pk, pr, 0⟩ ⟨kd, oa, ob, rk, rn⟩ = sameRet rk rn pk pr by rw [sameRet_comm rk rn pk pr]; simp [okB]] at HLo
  have HE := Lib.hid (eql_ret · rk rn pk pr)
  generalize hsr : sameRet rk rn pk pr = sr at *
  replace hsr := Lib.hid hsr
  clear HL hck hk ht1 ht5
  unfold MPost at HAp
  unfold LPost at HLs HLo
  dsimp only at HAp HLs HLo
  have hB0 : Below w.heap.size w ((w.alloc (.cells #[.int .i64 pt, .int .i64 n, .slice A l.length c] 27)).alloc (.cells #[.int .i64 rk, .int .i64 rn] 29)) := (alloc1 w _).alloc (by simp) _
  have HS0 := Lib.hid ((Holds.new w 27 #[.int .i64 pt, .int .i64 n, .slice A l.length c]).alloc (.cells #[.int .i64 rk, .int .i64 rn] 29))
  have HO0 := Lib.hid (new_second w (.cells #[.int .i64 pt, .int .i64 n, .slice A l.length c] 27) 29 #[.int .i64 rk, .int .i64 rn])
  have HK := mcknown_all _ (hw.on hB0)
  have k0 : decide ((60 : Int) < (l.length : Int)) = false := decide_eq_false (by omega)
  have k1 : (pt != pt) = false := by simp
  unfold stV retV opV at *
  clear hlen hc hplen hA hsm hwh ha
  go_enter Tryd.func4, Tryd.ntmps4
  go_wp2_with fail
  refine HK.mono ?_
  generalize (w.alloc (.cells #[.int .i64 pt, .int .i64 n, .slice A l.length c] 27)).alloc (.cells #[.int .i64 rk, .int .i64 rn] 29) = W0 at *
  rintro e w1 ⟨rfl, hB1⟩
  clear HK
  have hC1 := onto hB0 hB1
  have HS1 := Lib.hid (HS0.out.below hB1 HS0.out.lt)
  have HO1 := Lib.hid (HO0.out.below hB1 HO0.out.lt)
  have s0 : w1.cell? ⟨w.heap.size, 0, none⟩ = _ := HS1.out.c rfl
  have s1 : w1.cell? ⟨w.heap.size, 1, none⟩ = _ := HS1.out.c rfl
  have s2 : w1.cell? ⟨w.heap.size, 2, none⟩ = _ := HS1.out.c rfl
  clear hB0 hB1 HS0 HO0
  go_wp2_with fail
  refine (HC _ hC1).mono ?_
  rintro e w2 ⟨rfl, hB2⟩
  have hC2 := onto hC1 hB2
  have HS2 := Lib.hid (HS1.out.below hB2 HS1.out.lt)
  have HO2 := Lib.hid (HO1.out.below hB2 HO1.out.lt)
  clear HC s0 s1 s2 HS1 HO1 hC1 hB2 k0
  have s0 : w2.cell? ⟨w.heap.size, 0, none⟩ = _ := HS2.out.c rfl
  go_wp2_with fail
  refine (HM _).mono ?_
  rintro e w3 ⟨rfl, hB3⟩
  have hC3 := onto hC2 hB3
  have HS3 := Lib.hid ((HS2.out.below hB3 HS2.out.lt).alloc (.cells #[.int .i64 kd, .int .i64 oa, .int .i64 ob, .int .i64 0, .int .i64 0] 37))
  have HO3 := Lib.hid ((HO2.out.below hB3 HO2.out.lt).alloc (.cells #[.int .i64 kd, .int .i64 oa, .int .i64 ob, .int .i64 0, .int .i64 0] 37))
  have HX3 := Lib.hid (Holds.new w3 37 #[.int .i64 kd, .int .i64 oa, .int .i64 ob, .int .i64 0, .int .i64 0])
  have hD3 := gro_alloc hC3 (.cells #[.int .i64 kd, .int .i64 oa, .int .i64 ob, .int .i64 0, .int .i64 0] 37)
  have hsz3 := hC3.size
  have hl3 : w.heap.size + 1 < w3.heap.size := (HO2.out.below hB3 HO2.out.lt).lt
  clear HM s0 HS2 HO2 hC2 hB3 hC3
  go_wp2_with fail
  generalize w3.alloc (.cells #[.int .i64 kd, .int .i64 oa, .int .i64 ob, .int .i64 0, .int .i64 0] 37) = W3 at *
  have x0 : W3.cell? ⟨w3.heap.size, 0, none⟩ = _ := HX3.out.c rfl
  go_wp2_with fail
  refine (HT _ (hw.on hD3)).mono ?_
  rintro e w4 ⟨rfl, hB4⟩
  have hC4 := onto hD3 hB4
  have HS4 := Lib.hid (HS3.out.below hB4 HS3.out.lt)
  have HO4 := Lib.hid (HO3.out.below hB4 HO3.out.lt)
  have HX4 := Lib.hid (HX3.out.below hB4 HX3.out.lt)
  clear HT x0 HS3 HO3 HX3 hB4 hD3
  have s0 : w4.cell? ⟨w.heap.size, 0, none⟩ = _ := HS4.out.c rfl
  have s1 : w4.cell? ⟨w.heap.size, 1, none⟩ = _ := HS4.out.c rfl
  have s2 : w4.cell? ⟨w.heap.size, 2, none⟩ = _ := HS4.out.c rfl
  have x0 : w4.cell? ⟨w3.heap.size, 0, none⟩ = _ := HX4.out.c rfl
  have x1 : w4.cell? ⟨w3.heap.size, 1, none⟩ = _ := HX4.out.c rfl
  have x2 : w4.cell? ⟨w3.heap.size, 2, none⟩ = _ := HX4.out.c rfl
  go_wp2_with fail
  refine (HAp _ hC4).mono ?_
  rintro e w5 ⟨A5, c5, rfl, ho5, hB5⟩
  have hC5 := onto hC4 hB5
  have HS5 := Lib.hid (((HS4.out.below hB5 HS4.out.lt).alloc (.cells #[.int .i64 pt, .int .i64 pn, .slice A5 pl.length c5] 27)).alloc (.cells #[.int .i64 pk, .int .i64 pr] 29))
  have HO5 := Lib.hid (((HO4.out.below hB5 HO4.out.lt).alloc (.cells #[.int .i64 pt, .int .i64 pn, .slice A5 pl.length c5] 27)).alloc (.cells #[.int .i64 pk, .int .i64 pr] 29))
  have HX5 := Lib.hid (((HX4.out.below hB5 HX4.out.lt).alloc (.cells #[.int .i64 pt, .int .i64 pn, .slice A5 pl.length c5] 27)).alloc (.cells #[.int .i64 pk, .int .i64 pr] 29))
  have HT5 := Lib.hid ((Holds.new w5 27 #[.int .i64 pt, .int .i64 pn, .slice A5 pl.length c5]).alloc (.cells #[.int .i64 pk, .int .i64 pr] 29))
  have HR5 := Lib.hid (new_second w5 (.cells #[.int .i64 pt, .int .i64 pn, .slice A5 pl.length c5] 27) 29 #[.int .i64 pk, .int .i64 pr])
  have hD5 := gro_alloc (gro_alloc hC5 (.cells #[.int .i64 pt, .int .i64 pn, .slice A5 pl.length c5] 27)) (.cells #[.int .i64 pk, .int .i64 pr] 29)
  have I5 := Lib.hid (row_below ho5 (gro_alloc (alloc1 w5 (.cells #[.int .i64 pt, .int .i64 pn, .slice A5 pl.length c5] 27)) (.cells #[.int .i64 pk, .int .i64 pr] 29)))
  have hl4 : w3.heap.size < w4.heap.size := HX4.out.lt
  have hl5 : w3.heap.size < w5.heap.size := (HX4.out.below hB5 HX4.out.lt).lt
  clear HAp s0 s1 s2 x0 x1 x2 HS4 HO4 HX4 hB5 hC4 hC5 ho5
  have s0 := HS5.out.c (j := 0) rfl
  have t0 := HT5.out.c (j := 0) rfl
  have t1 := HT5.out.c (j := 1) rfl
  have t2 := HT5.out.c (j := 2) rfl
  go_wp2_with fail
  refine (HC2 _ _ _ (own_ints rfl I5.out)).mono ?_
  generalize (w5.alloc (.cells #[.int .i64 pt, .int .i64 pn, .slice A5 pl.length c5] 27)).alloc (.cells #[.int .i64 pk, .int .i64 pr] 29) = W5 at *
  rintro e w6 ⟨rfl, hB6⟩
  have hC6 := onto hD5 hB6
  have HS6 := Lib.hid (HS5.out.below hB6 HS5.out.lt)
  have HO6 := Lib.hid (HO5.out.below hB6 HO5.out.lt)
  have HX6 := Lib.hid (HX5.out.below hB6 HX5.out.lt)
  have HT6 := Lib.hid (HT5.out.below hB6 HT5.out.lt)
  have HR6 := Lib.hid (HR5.out.below hB6 HR5.out.lt)
  have I6 := Lib.hid (row_below I5.out hB6)
  clear HC2 s0 t0 t1 t2 HS5 HO5 HX5 HT5 HR5 I5 hB6 hD5
  have r0 : w6.cell? ⟨w5.heap.size + 1, 0, none⟩ = _ := HR6.out.c rfl
  have r1 : w6.cell? ⟨w5.heap.size + 1, 1, none⟩ = _ := HR6.out.c rfl
  have c3 := HX6.out.c (j := 3) rfl
  have c4 := HX6.out.c (j := 4) rfl
  have f3 := HX6.out.frozen 3
  have f4 := HX6.out.frozen 4
  have hl6 : w5.heap.size + 1 < w6.heap.size := HR6.out.lt
  have HS7 := Lib.hid (set_other (set_other HS6.out 3 (.int .i64 pk) (show w.heap.size ≠ w3.heap.size by omega)) 4 (.int .i64 pr) (show w.heap.size ≠ w3.heap.size by omega))
  have HO7 := Lib.hid (set_other (set_other HO6.out 3 (.int .i64 pk) (show w.heap.size + 1 ≠ w3.heap.size by omega)) 4 (.int .i64 pr) (show w.heap.size + 1 ≠ w3.heap.size by omega))
  have HT7 := Lib.hid (set_other (set_other HT6.out 3 (.int .i64 pk) (show w5.heap.size ≠ w3.heap.size by omega)) 4 (.int .i64 pr) (show w5.heap.size ≠ w3.heap.size by omega))
  have HR7 := Lib.hid (set_other (set_other HR6.out 3 (.int .i64 pk) (show w5.heap.size + 1 ≠ w3.heap.size by omega)) 4 (.int .i64 pr) (show w5.heap.size + 1 ≠ w3.heap.size by omega))
  have HX7 : Hid (Holds _ _ 37 #[.int .i64 kd, .int .i64 oa, .int .i64 ob, .int .i64 pk, .int .i64 pr]) := Lib.hid ((HX6.out.set 3 (.int .i64 pk)).set 4 (.int .i64 pr))
  have hD7 := gro_set (gro_set hC6 3 (.int .i64 pk) hsz3) 4 (.int .i64 pr) hsz3
  have I7 := Lib.hid (ownsRow_setCell_below (ownsRow_setCell_below I6.out (a := ⟨w3.heap.size, 3, none⟩) hl4 (.int .i64 pk)) (a := ⟨w3.heap.size, 4, none⟩) hl4 (.int .i64 pr))
  have s0 := HS7.out.c (j := 0) rfl
  have s1 := HS7.out.c (j := 1) rfl
  have s2 := HS7.out.c (j := 2) rfl
  have x0 := HX7.out.c (j := 0) rfl
  have x1 := HX7.out.c (j := 1) rfl
  have x2 := HX7.out.c (j := 2) rfl
  have x3 := HX7.out.c (j := 3) rfl
  have x4 := HX7.out.c (j := 4) rfl
  go_wp2_with fail
  refine (HLs _ hD7).mono ?_
  generalize (w6.setCell ⟨w3.heap.size, 3, none⟩ (.int .i64 pk)).setCell ⟨w3.heap.size, 4, none⟩ (.int .i64 pr) = W7 at *
  rintro e w8 ⟨A8, c8, rfl, ho8, hB8⟩
  have hC8 := onto hD7 hB8
  have hl7 : w5.heap.size + 1 < W7.heap.size := HR7.out.lt
  have hl8 : w5.heap.size + 1 < w8.heap.size := (HR7.out.below hB8 HR7.out.lt).lt
  have HS8 := Lib.hid ((HS7.out.below hB8 HS7.out.lt).alloc (.cells #[.int .i64 pt, .int .i64 pn, .slice A8 pl.length c8] 27))
  have HO8 := Lib.hid ((HO7.out.below hB8 HO7.out.lt).alloc (.cells #[.int .i64 pt, .int .i64 pn, .slice A8 pl.length c8] 27))
  have HX8 := Lib.hid ((HX7.out.below hB8 HX7.out.lt).alloc (.cells #[.int .i64 pt, .int .i64 pn, .slice A8 pl.length c8] 27))
  have HT8 := Lib.hid ((HT7.out.below hB8 HT7.out.lt).alloc (.cells #[.int .i64 pt, .int .i64 pn, .slice A8 pl.length c8] 27))
  have HR8 := Lib.hid ((HR7.out.below hB8 HR7.out.lt).alloc (.cells #[.int .i64 pt, .int .i64 pn, .slice A8 pl.length c8] 27))
  have HU8 := Lib.hid (Holds.new w8 27 #[.int .i64 pt, .int .i64 pn, .slice A8 pl.length c8])
  have hD8 := gro_alloc hC8 (.cells #[.int .i64 pt, .int .i64 pn, .slice A8 pl.length c8] 27)
  have I8 := Lib.hid (row_below (row_below I7.out hB8) (alloc1 w8 (.cells #[.int .i64 pt, .int .i64 pn, .slice A8 pl.length c8] 27)))
  have J8 := Lib.hid (row_below ho8 (alloc1 w8 (.cells #[.int .i64 pt, .int .i64 pn, .slice A8 pl.length c8] 27)))
  clear HLs s0 s1 s2 x0 x1 x2 x3 x4 r0 r1 c3 c4 f3 f4 HS6 HO6 HX6 HT6 HR6 I6 HS7 HO7 HX7 HT7 HR7 I7 hB8 hC8 hC6 hD7 ho8
  have o0 := HO8.out.c (j := 0) rfl
  have o1 := HO8.out.c (j := 1) rfl
  have c3 := HX8.out.c (j := 3) rfl
  have c4 := HX8.out.c (j := 4) rfl
  have f3 := HX8.out.frozen 3
  have f4 := HX8.out.frozen 4
  have HS9 := Lib.hid (set_other (set_other HS8.out 3 (.int .i64 rk) (show w.heap.size ≠ w3.heap.size by omega)) 4 (.int .i64 rn) (show w.heap.size ≠ w3.heap.size by omega))
  have HO9 := Lib.hid (set_other (set_other HO8.out 3 (.int .i64 rk) (show w.heap.size + 1 ≠ w3.heap.size by omega)) 4 (.int .i64 rn) (show w.heap.size + 1 ≠ w3.heap.size by omega))
  have HT9 := Lib.hid (set_other (set_other HT8.out 3 (.int .i64 rk) (show w5.heap.size ≠ w3.heap.size by omega)) 4 (.int .i64 rn) (show w5.heap.size ≠ w3.heap.size by omega))
  have HR9 := Lib.hid (set_other (set_other HR8.out 3 (.int .i64 rk) (show w5.heap.size + 1 ≠ w3.heap.size by omega)) 4 (.int .i64 rn) (show w5.heap.size + 1 ≠ w3.heap.size by omega))
  have HU9 := Lib.hid (set_other (set_other HU8.out 3 (.int .i64 rk) (show w8.heap.size ≠ w3.heap.size by omega)) 4 (.int .i64 rn) (show w8.heap.size ≠ w3.heap.size by omega))
  have HX9 : Hid (Holds _ _ 37 #[.int .i64 kd, .int .i64 oa, .int .i64 ob, .int .i64 rk, .int .i64 rn]) := Lib.hid ((HX8.out.set 3 (.int .i64 rk)).set 4 (.int .i64 rn))
  have hD9 := gro_set (gro_set hD8 3 (.int .i64 rk) hsz3) 4 (.int .i64 rn) hsz3
  have I9 := Lib.hid (ownsRow_setCell_below (ownsRow_setCell_below I8.out (a := ⟨w3.heap.size, 3, none⟩) hl4 (.int .i64 rk)) (a := ⟨w3.heap.size, 4, none⟩) hl4 (.int .i64 rn))
  have J9 := Lib.hid (ownsRow_setCell_below (ownsRow_setCell_below J8.out (a := ⟨w3.heap.size, 3, none⟩) (show w3.heap.size < W7.heap.size by omega) (.int .i64 rk)) (a := ⟨w3.heap.size, 4, none⟩) (show w3.heap.size < W7.heap.size by omega) (.int .i64 rn))
  have s0 := HS9.out.c (j := 0) rfl
  have s1 := HS9.out.c (j := 1) rfl
  have s2 := HS9.out.c (j := 2) rfl
  have x0 := HX9.out.c (j := 0) rfl
  have x1 := HX9.out.c (j := 1) rfl
  have x2 := HX9.out.c (j := 2) rfl
  have x3 := HX9.out.c (j := 3) rfl
  have x4 := HX9.out.c (j := 4) rfl
  go_wp2_with fail
  refine (HLo _ hD9).mono ?_
  generalize ((w8.alloc (.cells #[.int .i64 pt, .int .i64 pn, .slice A8 pl.length c8] 27)).setCell ⟨w3.heap.size, 3, none⟩ (.int .i64 rk)).setCell ⟨w3.heap.size, 4, none⟩ (.int .i64 rn) = W9 at *
  rintro e w10 ⟨A10, c10, rfl, ho10, hB10⟩
  have hC10 := onto hD9 hB10
  have HO10 := Lib.hid ((HO9.out.below hB10 HO9.out.lt).alloc (.cells #[.int .i64 pt, .int .i64 pn, .slice A10 pl.length c10] 27))
  have HT10 := Lib.hid ((HT9.out.below hB10 HT9.out.lt).alloc (.cells #[.int .i64 pt, .int .i64 pn, .slice A10 pl.length c10] 27))
  have HR10 := Lib.hid ((HR9.out.below hB10 HR9.out.lt).alloc (.cells #[.int .i64 pt, .int .i64 pn, .slice A10 pl.length c10] 27))
  have HU10 := Lib.hid ((HU9.out.below hB10 HU9.out.lt).alloc (.cells #[.int .i64 pt, .int .i64 pn, .slice A10 pl.length c10] 27))
  have hD10 := gro_alloc hC10 (.cells #[.int .i64 pt, .int .i64 pn, .slice A10 pl.length c10] 27)
  have I10 := Lib.hid (row_below (row_below I9.out hB10) (alloc1 w10 (.cells #[.int .i64 pt, .int .i64 pn, .slice A10 pl.length c10] 27)))
  have J10 := Lib.hid (row_below (row_below J9.out hB10) (alloc1 w10 (.cells #[.int .i64 pt, .int .i64 pn, .slice A10 pl.length c10] 27)))
  clear HLo s0 s1 s2 x0 x1 x2 x3 x4 o0 o1 c3 c4 f3 f4 HS8 HO8 HX8 HT8 HR8 HU8 I8 J8 HS9 HO9 HX9 HT9 HR9 HU9 I9 J9 hB10 hC10 hD8 hD9 ho10
  have t0 := HT10.out.c (j := 0) rfl
  have t1 := HT10.out.c (j := 1) rfl
  have t2 := HT10.out.c (j := 2) rfl
  have u0 := HU10.out.c (j := 0) rfl
  have u1 := HU10.out.c (j := 1) rfl
  have u2 := HU10.out.c (j := 2) rfl
  go_wp2_with fail
  refine (HQ _ _ _ _ _ (own_ints rfl J10.out) (own_ints rfl I10.out)).mono ?_
  generalize w10.alloc (.cells #[.int .i64 pt, .int .i64 pn, .slice A10 pl.length c10] 27) = W10 at *
  rintro e w11 ⟨rfl, hB11⟩
  have hC11 := onto hD10 hB11
  have HO11 := Lib.hid (HO10.out.below hB11 HO10.out.lt)
  have HR11 := Lib.hid (HR10.out.below hB11 HR10.out.lt)
  clear t0 t1 t2 u0 u1 u2 HQ hB11 hD10 HO10 HT10 HR10 HU10 I10 J10
  have o0 := HO11.out.c (j := 0) rfl
  have o1 := HO11.out.c (j := 1) rfl
  have r0 := HR11.out.c (j := 0) rfl
  have r1 := HR11.out.c (j := 1) rfl
  have he := HE.out w11
  have hsr := hsr.out
  unfold sameRet at hsr
  subst hsr
  go_wp2
  all_goals go_ret
  all_goals exact ⟨ret_bool (by simp_all), hC11⟩

theorem total_all (t n : Int) (A : Option Addr) (c : Nat) (l : List Int) (wh a b rk rn : Int) (w : World) (hw : Tys w) (hA : Ints w A l) (hc : l.length ≤ c) (hwh : Small wh) (ha : Small a) :
    Calls Tryd.prog 4 #[stV t n A l.length c, .int .i64 wh, .int .i64 a, .int .i64 b, .agg #[.int .i64 rk, .int .i64 rn]] w (Yes w) := by
  by_cases h : l.length ≤ 60
  · by_cases hk : checkE t n l = 0
    · exact total_form t n A c l wh a b rk rn w hw hA h hc hwh ha hk
    · exact total_formless t n A c l wh a b rk rn w hw hA h hk
  · exact total_long t n A c l wh a b rk rn w hw (by omega)
end Go.Proofs.YtmclpganipfadaaDoor
