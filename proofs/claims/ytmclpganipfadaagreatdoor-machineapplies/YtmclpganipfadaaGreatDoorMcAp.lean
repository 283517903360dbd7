/- MachineApplies: what an operation makes of a state, beside the document's answer. -/
import Derived.Test.YtmclpganipfadaaGreatDoorMcAo
namespace Go.Proofs.YtmclpganipfadaaGreatDoor
open Go.RowKit Go.Maps
set_option linter.unusedVariables false
set_option linter.unusedSimpArgs false

set_option maxRecDepth 100000 in
set_option maxHeartbeats 4000000 in
theorem applies_law (t n : Int) (A : Option Addr) (c : Nat) (l : List Int) (o : Opr) (w : World) (hw : Tys w) (hA : Ints w A l) (hc : l.length ≤ c) (hm : l.length ≤ maxLen) (hs : Small o.a) :
    Calls Tryz.prog 3 #[stV t n A l.length c, opV o] w (Yes w) := by
  have hB0 : Below w.heap.size w ((w.alloc (.cells #[.int .i64 t, .int .i64 n, .slice A l.length c] 24)).alloc (.cells #[.int .i64 o.kd, .int .i64 o.a, .int .i64 o.b, .int .i64 o.rk, .int .i64 o.rn] 28)) := gro_alloc (alloc1 w _) _
  have hT0 := hw.on hB0
  unfold maxLen at hm
  by_cases hl : 60 < l.length
  · unfold stV opV
    obtain ⟨kd, a, b, rk, rn⟩ := o
    go_enter Tryz.func3, Tryz.ntmps3
    go_wp2_with fail
    refine (mcawake_yes _ hT0).mono ?_
    rintro e w1 ⟨rfl, hB1⟩
    go_wp2
    go_ret
    exact ⟨rfl, onto hB0 hB1⟩
  · have HP := fun A1 c1 W (h : Ints W A1 l) (h2 : l.length ≤ c1) => mcapply_any t n A1 c1 l o.kd o.a o.b W h (by omega) h2 hs
    have HR := fun W (h : Ints W A l) => rmapply_all t n A c l o.kd o.a o.b W h (by omega)
    have HPL : ∀ A1 c1 W, Ints W A1 l → l.length ≤ c1 → Calls Tryz.prog 9 #[stV t n A1 l.length c1, opV o] W (LPost (mA t n l o.kd o.a o.b) (okB (mA t n l o.kd o.a o.b) o) W) := fun A1 c1 W h h2 => legal_any t n A1 c1 l o W h (by omega) h2 hs
    have HRL : ∀ W, Ints W A l → Calls Tryz.prog 10 #[stV t n A l.length c, opV o] W (RLPost (mA t n l o.kd o.a o.b) (okB (mA t n l o.kd o.a o.b) o) W) := fun W h => rlegal_any t n A c l o W h (by omega)
    have HT := fun W (h : Tys W) => mctype_any o.kd W h
    have HRT := fun W => rmtype_any o.kd W
    have hpl := mA_len t n l o.kd o.a o.b
    generalize mA t n l o.kd o.a o.b = p at *
    generalize okB p o = bb at *
    generalize typeP o.kd = ty at *
    obtain ⟨pt, pn, pl, pk, pr, pe⟩ := p
    obtain ⟨ty1, ty2⟩ := ty
    have HS0 := (Holds.new w 24 #[.int .i64 t, .int .i64 n, .slice A l.length c]).alloc (.cells #[.int .i64 o.kd, .int .i64 o.a, .int .i64 o.b, .int .i64 o.rk, .int .i64 o.rn] 28)
    have HO0 := new_second w (.cells #[.int .i64 t, .int .i64 n, .slice A l.length c] 24) 28 #[.int .i64 o.kd, .int .i64 o.a, .int .i64 o.b, .int .i64 o.rk, .int .i64 o.rn]
    have HC := copyst_any t n A c l _ (hA.below hB0) (by omega)
    have hA0 := hA.below hB0
    obtain ⟨kd, a, b, rk, rn⟩ := o
    unfold CopyStPost at HC
    unfold MPost at HP
    unfold RPost at HR
    unfold LPost at HPL
    unfold RLPost at HRL
    unfold stV opV retV at *
    dsimp only at *
    have HS0 := Lib.hid HS0
    have HO0 := Lib.hid HO0
    have HA0 := Lib.hid hA0
    have HT0 := Lib.hid hT0
    clear hA hA0 hT0
    go_enter Tryz.func3, Tryz.ntmps3
    go_wp2_with fail
    refine HC.mono ?_
    generalize (w.alloc (.cells #[.int .i64 t, .int .i64 n, .slice A l.length c] 24)).alloc (.cells #[.int .i64 kd, .int .i64 a, .int .i64 b, .int .i64 rk, .int .i64 rn] 28) = W0 at *
    rintro e w1 ⟨A1, c1, rfl, hr1, hB1⟩
    have hfit := row_fit hr1
    -- the copy in its box: W1
    have hD1 := gro_alloc hB1 (.cells #[.int .i64 t, .int .i64 n, .slice A1 l.length c1] 24)
    have hI1 := Lib.hid ((own_ints rfl hr1).below (alloc1 w1 (.cells #[.int .i64 t, .int .i64 n, .slice A1 l.length c1] 24)))
    have hc1 := Lib.hid (HA0.out.below hD1)
    have HS1 := Lib.hid (HS0.out.below hD1 HS0.out.lt)
    have HO1 := Lib.hid (HO0.out.below hD1 HO0.out.lt)
    have HT1 := Lib.hid (HT0.out.on hD1)
    have HI1 := Lib.hid (Holds.new w1 24 #[.int .i64 t, .int .i64 n, .slice A1 l.length c1])
    have hC1 := onto hB0 hD1
    have o0 := HO1.out.c (j := 0) rfl
    have o1 := HO1.out.c (j := 1) rfl
    have o2 := HO1.out.c (j := 2) rfl
    clear hr1 HC hB1 hD1 HS0 HO0 HA0 HT0 hB0
    go_wp2_with fail
    generalize w1.alloc (.cells #[.int .i64 t, .int .i64 n, .slice A1 l.length c1] 24) = W1 at *
    refine (HP A1 c1 W1 hI1.out hfit).mono ?_
    rintro e w2 ⟨X, cX, rfl, hX, hB2⟩
    -- x, r: W2
    have hE2 := gro_alloc (gro_alloc hB2 (.cells #[.int .i64 pt, .int .i64 pn, .slice X pl.length cX] 24)) (.cells #[.int .i64 pk, .int .i64 pr] 26)
    have HX2 := Lib.hid ((Holds.new w2 24 #[.int .i64 pt, .int .i64 pn, .slice X pl.length cX]).alloc (.cells #[.int .i64 pk, .int .i64 pr] 26))
    have HR2 := Lib.hid (new_second w2 (.cells #[.int .i64 pt, .int .i64 pn, .slice X pl.length cX] 24) 26 #[.int .i64 pk, .int .i64 pr])
    have hX2 := Lib.hid (row_below (row_below hX (alloc1 w2 (.cells #[.int .i64 pt, .int .i64 pn, .slice X pl.length cX] 24))) (alloc1 _ (.cells #[.int .i64 pk, .int .i64 pr] 26)))
    have s20 := (HS1.out.below hE2 HS1.out.lt).c (j := 0) rfl
    have s21 := (HS1.out.below hE2 HS1.out.lt).c (j := 1) rfl
    have s22 := (HS1.out.below hE2 HS1.out.lt).c (j := 2) rfl
    have o20 := (HO1.out.below hE2 HO1.out.lt).c (j := 0) rfl
    have o21 := (HO1.out.below hE2 HO1.out.lt).c (j := 1) rfl
    have o22 := (HO1.out.below hE2 HO1.out.lt).c (j := 2) rfl
    clear hX hB2 o0 o1 o2 HP
    go_wp2_with fail
    generalize (w2.alloc (.cells #[.int .i64 pt, .int .i64 pn, .slice X pl.length cX] 24)).alloc (.cells #[.int .i64 pk, .int .i64 pr] 26) = W2 at *
    refine (HR W2 (hc1.out.below hE2)).mono ?_
    rintro e w3 ⟨Y, cY, rfl, hY, hB3⟩
    -- y, q: W3
    have hD3 := gro_alloc (gro_alloc hB3 (.cells #[.int .i64 pt, .int .i64 pn, .slice Y pl.length cY] 24)) (.cells #[.int .i64 pk, .int .i64 pr] 26)
    have hE3 := onto hE2 hD3
    have HX3 := Lib.hid (HX2.out.below hD3 HX2.out.lt)
    have HR3 := Lib.hid (HR2.out.below hD3 HR2.out.lt)
    have hX3 := Lib.hid (row_below hX2.out hD3)
    have HY3 := Lib.hid ((Holds.new w3 24 #[.int .i64 pt, .int .i64 pn, .slice Y pl.length cY]).alloc (.cells #[.int .i64 pk, .int .i64 pr] 26))
    have HQ3 := Lib.hid (new_second w3 (.cells #[.int .i64 pt, .int .i64 pn, .slice Y pl.length cY] 24) 26 #[.int .i64 pk, .int .i64 pr])
    have hY3 := Lib.hid ((hY.below (alloc1 w3 (.cells #[.int .i64 pt, .int .i64 pn, .slice Y pl.length cY] 24))).below (alloc1 _ (.cells #[.int .i64 pk, .int .i64 pr] 26)))
    have i30 := (HI1.out.below hE3 HI1.out.lt).c (j := 0) rfl
    have i31 := (HI1.out.below hE3 HI1.out.lt).c (j := 1) rfl
    have i32 := (HI1.out.below hE3 HI1.out.lt).c (j := 2) rfl
    have o30 := (HO1.out.below hE3 HO1.out.lt).c (j := 0) rfl
    have o31 := (HO1.out.below hE3 HO1.out.lt).c (j := 1) rfl
    have o32 := (HO1.out.below hE3 HO1.out.lt).c (j := 2) rfl
    have o33 := (HO1.out.below hE3 HO1.out.lt).c (j := 3) rfl
    have o34 := (HO1.out.below hE3 HO1.out.lt).c (j := 4) rfl
    have hXlt := Lib.hid (show ∀ g, (Value.slice X pl.length cX).ownBlock = some g → g < W2.heap.size from fun g e => (hX2.out.lt g e).2)
    have z23 := Lib.hid hD3.size
    clear hY hB3 HX2 HR2 hX2 s20 s21 s22 o20 o21 o22 HR hD3
    go_wp2_with fail
    generalize (w3.alloc (.cells #[.int .i64 pt, .int .i64 pn, .slice Y pl.length cY] 24)).alloc (.cells #[.int .i64 pk, .int .i64 pr] 26) = W3 at *
    refine (HPL A1 c1 W3 (hI1.out.below hE3) hfit).mono ?_
    rintro e w4 ⟨Z, cZ, rfl, hZ, hB4⟩
    -- a: W4
    have hD4 := gro_alloc hB4 (.cells #[.int .i64 pt, .int .i64 pn, .slice Z pl.length cZ] 24)
    have hE4 := onto hE3 hD4
    have HX4 := Lib.hid (HX3.out.below hD4 HX3.out.lt)
    have HR4 := Lib.hid (HR3.out.below hD4 HR3.out.lt)
    have hX4 := Lib.hid (row_below hX3.out hD4)
    have HY4 := Lib.hid (HY3.out.below hD4 HY3.out.lt)
    have HQ4 := Lib.hid (HQ3.out.below hD4 HQ3.out.lt)
    have hY4 := Lib.hid (hY3.out.below hD4)
    have HZ4 := Lib.hid (Holds.new w4 24 #[.int .i64 pt, .int .i64 pn, .slice Z pl.length cZ])
    have hZ4 := Lib.hid (row_below hZ (alloc1 w4 (.cells #[.int .i64 pt, .int .i64 pn, .slice Z pl.length cZ] 24)))
    have s40 := (HS1.out.below hE4 HS1.out.lt).c (j := 0) rfl
    have s41 := (HS1.out.below hE4 HS1.out.lt).c (j := 1) rfl
    have s42 := (HS1.out.below hE4 HS1.out.lt).c (j := 2) rfl
    have o40 := (HO1.out.below hE4 HO1.out.lt).c (j := 0) rfl
    have o41 := (HO1.out.below hE4 HO1.out.lt).c (j := 1) rfl
    have o42 := (HO1.out.below hE4 HO1.out.lt).c (j := 2) rfl
    have o43 := (HO1.out.below hE4 HO1.out.lt).c (j := 3) rfl
    have o44 := (HO1.out.below hE4 HO1.out.lt).c (j := 4) rfl
    have z34 := Lib.hid hD4.size
    clear hZ hB4 HX3 HR3 hX3 HY3 HQ3 hY3 i30 i31 i32 o30 o31 o32 o33 o34 HPL
    go_wp2_with fail
    generalize w4.alloc (.cells #[.int .i64 pt, .int .i64 pn, .slice Z pl.length cZ] 24) = W4 at *
    refine (HRL W4 (hc1.out.below hE4)).mono ?_
    rintro e w5 ⟨V, cV, rfl, hV, hB5⟩
    -- b: W5
    have hD5 := gro_alloc hB5 (.cells #[.int .i64 pt, .int .i64 pn, .slice V pl.length cV] 24)
    have hE5 := onto hE4 hD5
    have HX5 := Lib.hid (HX4.out.below hD5 HX4.out.lt)
    have HR5 := Lib.hid (HR4.out.below hD5 HR4.out.lt)
    have hX5 := Lib.hid (row_below hX4.out hD5)
    have HY5 := Lib.hid (HY4.out.below hD5 HY4.out.lt)
    have HQ5 := Lib.hid (HQ4.out.below hD5 HQ4.out.lt)
    have hY5 := Lib.hid (hY4.out.below hD5)
    have HZ5 := Lib.hid (HZ4.out.below hD5 HZ4.out.lt)
    have hZ5 := Lib.hid (row_below hZ4.out hD5)
    have HV5 := Lib.hid (Holds.new w5 24 #[.int .i64 pt, .int .i64 pn, .slice V pl.length cV])
    have hV5 := Lib.hid (hV.below (alloc1 w5 (.cells #[.int .i64 pt, .int .i64 pn, .slice V pl.length cV] 24)))
    have o50 := (HO1.out.below hE5 HO1.out.lt).c (j := 0) rfl
    have hlt4 := HX4.out.lt
    have hlt5 := HX5.out.lt
    have z45 := Lib.hid hD5.size
    clear hV hB5 HX4 HR4 hX4 HY4 HQ4 hY4 HZ4 hZ4 s40 s41 s42 o40 o41 o42 o43 o44 HRL
    go_wp2_with fail
    generalize w5.alloc (.cells #[.int .i64 pt, .int .i64 pn, .slice V pl.length cV] 24) = W5 at *
    refine (HT W5 (HT1.out.on hE5)).mono ?_
    rintro e w6 ⟨rfl, hB6⟩
    have hE6 := onto hE5 hB6
    have o60 := (HO1.out.below hE6 HO1.out.lt).c (j := 0) rfl
    clear o50 HT
    go_wp2_with fail
    refine (HRT w6).mono ?_
    rintro e w7 ⟨rfl, hB7⟩
    have hE7 := onto hE6 hB7
    have hB57 := onto hB6 hB7
    have z57 := Lib.hid hB57.size
    have HX7 := Lib.hid (HX5.out.below hB57 HX5.out.lt)
    have HR7 := Lib.hid (HR5.out.below hB57 HR5.out.lt)
    have hX7 := Lib.hid (row_below hX5.out hB57)
    have HY7 := Lib.hid (HY5.out.below hB57 HY5.out.lt)
    have HQ7 := Lib.hid (HQ5.out.below hB57 HQ5.out.lt)
    have hY7 := Lib.hid (hY5.out.below hB57)
    have HZ7 := Lib.hid (HZ5.out.below hB57 HZ5.out.lt)
    have hZ7 := Lib.hid (row_below hZ5.out hB57)
    have HV7 := Lib.hid (HV5.out.below hB57 HV5.out.lt)
    have hV7 := Lib.hid (hV5.out.below hB57)
    have x0 := HX7.out.c (j := 0) rfl
    have x1 := HX7.out.c (j := 1) rfl
    have x2 := HX7.out.c (j := 2) rfl
    have y0 := HY7.out.c (j := 0) rfl
    have y1 := HY7.out.c (j := 1) rfl
    have y2 := HY7.out.c (j := 2) rfl
    have H8 := samest_any pt pn pt pn X Y cX cY pl pl w7 (own_ints rfl hX7.out) hY7.out.ints (by omega)
    rw [same_iff.2 ⟨rfl, rfl, rfl⟩] at H8
    unfold stV at H8
    clear o60 HRT hE6 hE5 HX5 HR5 hX5 HY5 HQ5 hY5 HZ5 hZ5 HV5 hV5 hB6 hB7 hB57
    go_wp2_with fail
    refine H8.mono ?_
    rintro e w8 ⟨rfl, hB8⟩
    have hE8 := onto hE7 hB8
    have z78 := Lib.hid hB8.size
    have HX8 := Lib.hid (HX7.out.below hB8 HX7.out.lt)
    have hX8 := Lib.hid (row_below hX7.out hB8)
    have HZ8 := Lib.hid (HZ7.out.below hB8 HZ7.out.lt)
    have hZ8 := Lib.hid (row_below hZ7.out hB8)
    have HV8 := Lib.hid (HV7.out.below hB8 HV7.out.lt)
    have hV8 := Lib.hid (hV7.out.below hB8)
    have HR8 := Lib.hid (HR7.out.below hB8 HR7.out.lt)
    have HQ8 := Lib.hid (HQ7.out.below hB8 HQ7.out.lt)
    have r0 := HR8.out.c (j := 0) rfl
    have r1 := HR8.out.c (j := 1) rfl
    have q0 := HQ8.out.c (j := 0) rfl
    have q1 := HQ8.out.c (j := 1) rfl
    have z0 := HZ8.out.c (j := 0) rfl
    have z1 := HZ8.out.c (j := 1) rfl
    have z2 := HZ8.out.c (j := 2) rfl
    have v0 := HV8.out.c (j := 0) rfl
    have v1 := HV8.out.c (j := 1) rfl
    have v2 := HV8.out.c (j := 2) rfl
    have he := eql_ret w8 pk pr pk pr
    rw [sameRet_self] at he
    have g1 : (pe == pe) = true := by simp
    have g2 : (bb == bb) = true := by simp
    have g3 : (ty1 == ty1) = true := by simp
    have g4 : (ty2 == ty2) = true := by simp
    have H9 := samest_any pt pn pt pn Z V cZ cV pl pl w8 (own_ints rfl hZ8.out) hV8.out.ints (by omega)
    rw [same_iff.2 ⟨rfl, rfl, rfl⟩] at H9
    unfold stV at H9
    clear x0 x1 x2 y0 y1 y2 H8 hE7 HX7 HR7 hX7 HY7 HQ7 hY7 HZ7 hZ7 HV7 hV7 hB8
    go_wp2_with fail
    refine H9.mono ?_
    rintro e w9 ⟨rfl, hB9⟩
    have hE9 := onto hE8 hB9
    have z89 := Lib.hid hB9.size
    have HX9 := Lib.hid (HX8.out.below hB9 HX8.out.lt)
    have hX9 := Lib.hid (row_below hX8.out hB9)
    have HZ9 := Lib.hid (HZ8.out.below hB9 HZ8.out.lt)
    have hZ9 := Lib.hid (row_below hZ8.out hB9)
    have x0 := HX9.out.c (j := 0) rfl
    have x1 := HX9.out.c (j := 1) rfl
    have x2 := HX9.out.c (j := 2) rfl
    have HOV := overstate_blk pt pn X cX pl.length _ _ w9 hX9.out (by omega)
    clear HX8 hX8 HZ8 hZ8 HV8 hV8 HR8 HQ8 r0 r1 q0 q1 z0 z1 z2 v0 v1 v2 he H9 hE8 hB9
    go_wp2_with fail
    refine HOV.mono ?_
    rintro e w10 ⟨rfl, hg⟩
    have hXa := row_below hX9.out (alloc1 w9 (.cells #[.int .i64 pt, .int .i64 pn, .slice X pl.length cX] 24))
    have hZa := row_below hZ9.out (alloc1 w9 (.cells #[.int .i64 pt, .int .i64 pn, .slice X pl.length cX] 24))
    have HZa := HZ9.out.alloc (.cells #[.int .i64 pt, .int .i64 pn, .slice X pl.length cX] 24)
    have HZ10 := Lib.hid (HZa.kept hg (HZa.not_row hXa (by decide)))
    have hZ10 := Lib.hid (row_apart hZa hXa hg (fun g e => Nat.lt_of_lt_of_le (hXlt.out g e) z23.out))
    have hE10 := (hE9.alloc hE9.size (.cells #[.int .i64 pt, .int .i64 pn, .slice X pl.length cX] 24)).grown hg (by have := hE9.size; simp; omega) (fun g e => (hX9.out.lt g e).1)
    have z910 : w9.heap.size + 1 ≤ w10.heap.size := by have := hg.size; simpa using this
    have hsz10 := Lib.hid (show W3.heap.size ≤ w10.heap.size by have := z34.out; have := z45.out; have := z57.out; have := z78.out; have := z89.out; omega)
    have z0 := HZ10.out.c (j := 0) rfl
    have z1 := HZ10.out.c (j := 1) rfl
    have z2 := HZ10.out.c (j := 2) rfl
    have HOV2 := overstate_any pt pn Z cZ pl.length W3.heap.size _ w10 hZ10.out (by omega) hsz10.out
    have hW13 := Lib.hid (show W1.heap.size ≤ W3.heap.size from hE3.size)
    clear HOV hg hXa hZa HZa hE9 HX9 hX9 HZ9 hZ9 x0 x1 x2 z910
    go_wp2_with fail
    refine HOV2.mono ?_
    rintro e w11 ⟨rfl, hB11⟩
    have hE11 := hE10.trans (hB11.mono hW13.out)
    have s0 := (HS1.out.below hE11 HS1.out.lt).c (j := 0) rfl
    have s1 := (HS1.out.below hE11 HS1.out.lt).c (j := 1) rfl
    have s2 := (HS1.out.below hE11 HS1.out.lt).c (j := 2) rfl
    have i0 := (HI1.out.below hE11 HI1.out.lt).c (j := 0) rfl
    have i1 := (HI1.out.below hE11 HI1.out.lt).c (j := 1) rfl
    have i2 := (HI1.out.below hE11 HI1.out.lt).c (j := 2) rfl
    have H12 := samest_any t n t n A1 A c1 c l l w11 (hI1.out.below hE11) (hc1.out.below hE11) (by omega)
    rw [same_iff.2 ⟨rfl, rfl, rfl⟩] at H12
    unfold stV at H12
    have hC11 := nxt hC1 hE11 hC1.size
    have hT11 := Lib.hid (HT1.out.on hE11)
    clear HOV2 hB11 z0 z1 z2 HZ10 hZ10 hE10
    go_wp2_with fail
    refine H12.mono ?_
    rintro e w12 ⟨rfl, hB12⟩
    have hC12 := onto hC11 hB12
    have hT12 := hT11.out.on hB12
    clear H12 s0 s1 s2 i0 i1 i2
    go_wp2_with fail
    refine (mcawake_yes _ hT12).mono ?_
    rintro e w13 ⟨rfl, hB13⟩
    go_wp2
    go_ret
    exact ⟨rfl, onto hC12 hB13⟩
end Go.Proofs.YtmclpganipfadaaGreatDoor
