/- StateTells. -/
import Derived.Test.YtbenfdbjpefegaaDoorStX
namespace Go.Proofs.YtbenfdbjpefegaaDoor
open Go.RowKit Go.Maps
set_option linter.unusedVariables false

set_option maxRecDepth 100000 in
set_option maxHeartbeats 8000000 in
theorem tells_law (t n t' n' kd : Int) (A B : Option Addr) (c d : Nat) (l m : List Int) (w : World) (hw : Wds w) (hA : Ints w A l) (hB : Ints w B m) (hsl : ∀ x ∈ l, Small x) (hn : Small n) :
    Calls Tryd.prog 3 #[stV t n A l.length c, stV t' n' B m.length d, .int .i64 kd] w (Yes w) := by
  have hpos := hw.pos
  have hB0 : Below w.heap.size w ((w.alloc (.cells #[.int .i64 t, .int .i64 n, .slice A l.length c] 24)).alloc (.cells #[.int .i64 t', .int .i64 n', .slice B m.length d] 24)) := (alloc1 w _).alloc (by simp) _
  have HX := (Holds.new w 24 #[.int .i64 t, .int .i64 n, .slice A l.length c]).alloc (.cells #[.int .i64 t', .int .i64 n', .slice B m.length d] 24)
  have HY := Holds.new (w.alloc (.cells #[.int .i64 t, .int .i64 n, .slice A l.length c] 24)) 24 #[.int .i64 t', .int .i64 n', .slice B m.length d]
  rw [World.size_alloc] at HY
  have hs0 : w.heap.size + 1 < ((w.alloc (.cells #[.int .i64 t, .int .i64 n, .slice A l.length c] 24)).alloc (.cells #[.int .i64 t', .int .i64 n', .slice B m.length d] 24)).heap.size := by simp
  by_cases hl : l.length ≤ 60 ∧ m.length ≤ 60
  · obtain ⟨hl1, hl2⟩ := hl
    have q1 : decide (60 < (l.length : Int)) = false := decide_eq_false (by omega)
    have q2 : decide (60 < (m.length : Int)) = false := decide_eq_false (by omega)
    unfold stV
    go_enter Tryd.func3, Tryd.ntmps3
    go_wp2_with fail
    have HC := copyst_any t n A c l _ (hA.below hB0) (by omega)
    unfold stV at HC
    refine HC.mono ?_
    clear HC
    generalize (w.alloc (.cells #[.int .i64 t, .int .i64 n, .slice A l.length c] 24)).alloc (.cells #[.int .i64 t', .int .i64 n', .slice B m.length d] 24) = W0 at *
    rintro e w1 ⟨A1, c1, rfl, hr1, hB1⟩
    have hs1 := hB1.size
    have HX1 := HX.below hB1 (by omega)
    have HY1 := HY.below hB1 hs0
    have hW1 := nxt hB0 hB1 (by omega)
    unfold stV
    have hB2 := alloc1 w1 (.cells #[.int .i64 t, .int .i64 n, .slice A1 l.length c1] 24)
    have HZ2 := Holds.new w1 24 #[.int .i64 t, .int .i64 n, .slice A1 l.length c1]
    have hw1l : w1.heap.size < (w1.alloc (.cells #[.int .i64 t, .int .i64 n, .slice A1 l.length c1] 24)).heap.size := by simp
    have hr2 := row_below hr1 hB2
    have HX2 := HX1.below hB2 (by omega)
    have HY2 := HY1.below hB2 (by omega)
    have hW2 := nxt hW1 hB2 (by omega)
    go_upto_region 4 with fail
    generalize w1.alloc (.cells #[.int .i64 t, .int .i64 n, .slice A1 l.length c1] 24) = W2 at *
    have hi1 : Ints W2 A1 l := own_ints rfl hr2
    have hi2 : Ints W2 A l := hA.below hW2
    have hi3 : Ints W2 B m := hB.below hW2
    have HWD : Wds W2 := hw.on hW2
    have HS : ∀ w', Below W2.heap.size W2 w' → w'.cell? ⟨w1.heap.size, 0, none⟩ = some (.int .i64 t) ∧ w'.cell? ⟨w1.heap.size, 1, none⟩ = some (.int .i64 n) ∧ w'.cell? ⟨w1.heap.size, 2, none⟩ = some (.slice A1 l.length c1) ∧ w'.cell? ⟨w.heap.size, 0, none⟩ = some (.int .i64 t) ∧ w'.cell? ⟨w.heap.size, 1, none⟩ = some (.int .i64 n) ∧ w'.cell? ⟨w.heap.size, 2, none⟩ = some (.slice A l.length c) ∧ w'.cell? ⟨w.heap.size + 1, 0, none⟩ = some (.int .i64 t') ∧ w'.cell? ⟨w.heap.size + 1, 1, none⟩ = some (.int .i64 n') ∧ w'.cell? ⟨w.heap.size + 1, 2, none⟩ = some (.slice B m.length d) := fun w' h => by
      have a1 := HZ2.below h hw1l
      have a2 := HX2.below h (by omega)
      have a3 := HY2.below h (by omega)
      exact ⟨a1.c (j := 0) rfl, a1.c (j := 1) rfl, a1.c (j := 2) rfl, a2.c (j := 0) rfl, a2.c (j := 1) rfl, a2.c (j := 2) rfl, a3.c (j := 0) rfl, a3.c (j := 1) rfl, a3.c (j := 2) rfl⟩
    have HKS := Lib.hid HS
    have HE := Lib.hid (fun W (h : Below W2.heap.size W2 W) => enc_any t n A1 c1 l W (hi1.below h) (by omega))
    have HRE := Lib.hid (fun W (h : Below W2.heap.size W2 W) => renc_any t n A c l W (hi2.below h) (by omega))
    have HT := Lib.hid (fun W (h : Below W2.heap.size W2 W) => text_any t n A1 c1 l W (HWD.on h) (hi1.below h) (by omega) hsl hn)
    have HRT := Lib.hid (fun W (h : Below W2.heap.size W2 W) => rtext_any t n A c l W (hi2.below h) (by omega) hsl hn)
    have HCK := Lib.hid (fun W (h : Below W2.heap.size W2 W) => check_any t n A1 c1 l W (hi1.below h) (by omega))
    have HRCK := Lib.hid (fun W (h : Below W2.heap.size W2 W) => rcheck_any t n A c l W (hi2.below h) (by omega))
    have HSM := Lib.hid (fun W (h : Below W2.heap.size W2 W) => same_st t n t' n' A1 B c1 d l m W (hi1.below h) (hi3.below h) (by omega))
    have HRSM := Lib.hid (fun W (h : Below W2.heap.size W2 W) => rsame_any t n t' n' A B c d l m W (hi2.below h) (hi3.below h) (by omega))
    have HSS := Lib.hid (fun W (h : Below W2.heap.size W2 W) => samest_any t n t n A1 A c1 c l l W (hi1.below h) (hi2.below h) (by omega))
    have HAW := Lib.hid (fun W (h : Below W2.heap.size W2 W) => awake_any W (HWD.on h))
    have HWO := Lib.hid (fun W (h : Below W2.heap.size W2 W) => word_any kd W (HWD.on h))
    have hse : sameB t n l t n l = true := same_iff.2 ⟨rfl, rfl, rfl⟩
    rw [hse] at HSS
    have hel := encR_len t n l
    have HEO := Lib.hid (encR_octets t n l)
    unfold stV at HE HRE HT HRT HCK HRCK HSM HRSM HSS
    have HSZ := hW2.size
    generalize checkE t n l = E at *
    generalize encR t n l = ys at *
    generalize sameB t n l t' n' m = sb at *
    obtain ⟨tx, htx⟩ : ∃ tx, (⟨(txtR t n l).toArray⟩ : ByteArray) = tx := ⟨_, rfl⟩
    unfold TextP at HT HRT
    rw [htx] at HT HRT
    have kE : (E == E) = true := by simp
    have kT : (tx.toList == tx.toList) = true := by simp
    have kS : (sb == sb) = true := by simp
    clear HS hr1 hr2 HX HX1 HY HY1 HX2 HY2 HZ2 hi1 hi2 hi3 hA hB hsl hn hw HWD hB2 hB1 hB0 hW1 htx hse
    obtain ⟨d0, d1, d2, d3, d4, d5, d6, d7, d8⟩ := HKS.out W2 (Below.refl _ _)
    go_wp2_with fail
    refine (HE.out W2 (Below.refl _ _)).mono ?_
    rintro e w3 ⟨A3, c3, rfl, hr3, hB3⟩
    have HR3 := Lib.hid hr3
    have hs3 := hB3.size
    obtain ⟨d0, d1, d2, d3, d4, d5, d6, d7, d8⟩ := HKS.out w3 hB3
    clear hr3
    go_wp2_with fail
    refine (HRE.out w3 hB3).mono ?_
    rintro e w4 ⟨A4, c4, rfl, hr4, hB4⟩
    have h4 := nxt hB3 hB4 hs3
    have HR4 := Lib.hid hr4
    have HR3' := Lib.hid (row_below HR3.out hB4)
    have hs4 := h4.size
    obtain ⟨d0, d1, d2, d3, d4, d5, d6, d7, d8⟩ := HKS.out w4 h4
    clear hr4 hB4 HR3
    go_wp2_with fail
    refine (HT.out w4 h4).mono ?_
    rintro e w5 ⟨rfl, hB5⟩
    have h5 := nxt h4 hB5 hs4
    have HR4' := Lib.hid (row_below HR4.out hB5)
    have HR3 := Lib.hid (row_below HR3'.out hB5)
    have hs5 := h5.size
    obtain ⟨d0, d1, d2, d3, d4, d5, d6, d7, d8⟩ := HKS.out w5 h5
    clear hB5 HR3' HR4
    go_wp2_with fail
    refine (HRT.out w5 h5).mono ?_
    rintro e w6 ⟨rfl, hB6⟩
    have h6 := nxt h5 hB6 hs5
    have HR4 := Lib.hid (row_below HR4'.out hB6)
    have HR3' := Lib.hid (row_below HR3.out hB6)
    have hs6 := h6.size
    clear hB6 HR3 HR4'
    obtain ⟨ek, er, hev⟩ := emptyV_form kd
    have EM := fun W => empty_any kd W
    have REM := fun W => rempty_any kd W
    have RWO := fun W => rword_any kd W
    obtain ⟨ws, wr', hwv⟩ := wordV_form kd
    rw [hev] at EM REM
    rw [hwv] at RWO HWO
    have kW : (ws.toList == ws.toList) = true := by simp
    have kR : (wr' == wr') = true := by simp
    have kEr : (er == er) = true := by simp
    clear hev hwv
    go_wp2_with fail
    refine (EM w6).mono ?_
    rintro e w7 ⟨rfl, hB7⟩
    have hB78 := nxt hB7 (alloc1 w7 (.cells #[.int .i64 ek, .int .i64 0, .slice none 0 0] 24)) hB7.size
    have P7 := Holds.new w7 24 #[.int .i64 ek, .int .i64 0, .slice none 0 0]
    have hl7 : w7.heap.size < (w7.alloc (.cells #[.int .i64 ek, .int .i64 0, .slice none 0 0] 24)).heap.size := by simp
    go_upto_region 9 with fail
    generalize w7.alloc (.cells #[.int .i64 ek, .int .i64 0, .slice none 0 0] 24) = W7 at *
    have h7 := nxt h6 hB78 hs6
    have hs7 := h7.size
    have HR4' := Lib.hid (row_below HR4.out hB78)
    have HR3 := Lib.hid (row_below HR3'.out hB78)
    clear HR3' HR4 hB7 hB78
    go_wp2_with fail
    refine (REM W7).mono ?_
    rintro e w8 ⟨rfl, hB8⟩
    have hB89 := nxt hB8 (alloc1 w8 (.cells #[.int .i64 ek, .int .i64 0, .slice none 0 0] 24)) hB8.size
    have P8 := Holds.new w8 24 #[.int .i64 ek, .int .i64 0, .slice none 0 0]
    have hl8 : w8.heap.size < (w8.alloc (.cells #[.int .i64 ek, .int .i64 0, .slice none 0 0] 24)).heap.size := by simp
    go_upto_region 10 with fail
    generalize w8.alloc (.cells #[.int .i64 ek, .int .i64 0, .slice none 0 0] 24) = W8 at *
    have h8 := nxt h7 hB89 hs7
    have hs8 := h8.size
    have P7' := P7.below hB89 hl7
    have HR4 := Lib.hid (row_below HR4'.out hB89)
    have HR3' := Lib.hid (row_below HR3.out hB89)
    have hl78 : w7.heap.size < W8.heap.size := P7'.lt
    clear HR3 HR4' hB8 hB89 P7
    go_wp2_with fail
    refine (HWO.out W8 h8).mono ?_
    rintro e w9 ⟨rfl, hB9⟩
    have h9 := nxt h8 hB9 hs8
    have hs9 := h9.size
    go_wp2_with fail
    refine (RWO w9).mono ?_
    rintro e w10 ⟨rfl, hB10⟩
    have hB910 := nxt hB9 hB10 hB9.size
    have h10 := nxt h9 hB10 hs9
    have hs10 := h10.size
    have HR4' := Lib.hid (row_below HR4.out hB910)
    have HR3 := Lib.hid (row_below HR3'.out hB910)
    have P7 := P7'.below hB910 hl78
    have P8' := P8.below hB910 hl8
    clear HR3' HR4 hB9 hB10 hB910 P7' P8
    have SB := samebytes_any A3 A4 c3 c4 ys ys w10 _ _ (own_bytes HR3.out) (own_bytes HR4'.out) HEO.out HEO.out
    have kY : (ys == ys) = true := by simp
    rw [kY] at SB
    go_wp2_with fail
    refine SB.mono ?_
    rintro e w11 ⟨rfl, hB11⟩
    have h11 := nxt h10 hB11 hs10
    have hs11 := h11.size
    have P7' := P7.below hB11 P7.lt
    have P8 := P8'.below hB11 P8'.lt
    have p0 := P7'.c (j := 0) rfl
    have p1 := P7'.c (j := 1) rfl
    have p2 := P7'.c (j := 2) rfl
    have q0 := P8.c (j := 0) rfl
    have q1' := P8.c (j := 1) rfl
    have q2' := P8.c (j := 2) rfl
    have HR3' := Lib.hid (row_below HR3.out hB11)
    have hek : sameB ek 0 [] ek 0 [] = true := same_iff.2 ⟨rfl, rfl, rfl⟩
    have S12 : Calls Tryd.prog 20 #[.agg #[.int .i64 ek, .int .i64 0, .slice none 0 0], .agg #[.int .i64 ek, .int .i64 0, .slice none 0 0]] w11 (Says (.bool true) w11) := hek ▸ samest_any ek 0 ek 0 none none 0 0 [] [] w11 (fun h => by simp at h) (fun h => by simp at h) (by simp)
    clear SB P7 P8' HR3 HR4' hB11 hek
    go_wp2_with fail
    refine S12.mono ?_
    rintro e w12 ⟨rfl, hB12⟩
    have h12 := nxt h11 hB12 hs11
    have hs12 := h12.size
    have HR3 := Lib.hid (row_below HR3'.out hB12)
    clear S12 HR3' p0 p1 p2 q0 q1' q2' P7' P8 hB12
    have OV := overb_all W2.heap.size A3 c3 ys w12 HR3.out HEO.out (by omega) hs12
    go_wp2_with fail
    refine OV.mono ?_
    rintro e w13 ⟨rfl, hB13⟩
    have h13 := nxt h12 hB13 (Nat.le_refl _)
    have hs13 := h13.size
    have hb13 : Below W2.heap.size W2 w13.drew := h13.drew
    clear OV HR3 hB13
    go_wp2_with fail
    clear d0 d1 d2 d3 d4 d5 d6 d7 d8 HE HRE HT HRT HWO
    go_region_held3 (fun w' => w'.cell? ⟨w1.heap.size, 0, none⟩ = some (.int .i64 t) ∧ w'.cell? ⟨w1.heap.size, 1, none⟩ = some (.int .i64 n) ∧ w'.cell? ⟨w1.heap.size, 2, none⟩ = some (.slice A1 l.length c1) ∧ w'.cell? ⟨w.heap.size, 0, none⟩ = some (.int .i64 t) ∧ w'.cell? ⟨w.heap.size, 1, none⟩ = some (.int .i64 n) ∧ w'.cell? ⟨w.heap.size, 2, none⟩ = some (.slice A l.length c) ∧ w'.cell? ⟨w.heap.size + 1, 0, none⟩ = some (.int .i64 t') ∧ w'.cell? ⟨w.heap.size + 1, 1, none⟩ = some (.int .i64 n') ∧ w'.cell? ⟨w.heap.size + 1, 2, none⟩ = some (.slice B m.length d)) (first | exact HKS.out _ b19 | exact HKS.out _ b18 | exact HKS.out _ b17 | exact HKS.out _ b16 | exact HKS.out _ b15 | exact HKS.out _ b14 | exact HKS.out _ hb13 | go_keep) (first | (go_at_call 22; refine (HCK.out _ hb13).mono ?_; rintro e w14 ⟨rfl, hB14⟩; have b14 := nxt hb13 hB14 hb13.size) | (go_at_call 23; refine (HRCK.out _ b14).mono ?_; rintro e w15 ⟨rfl, hB15⟩; have b15 := nxt b14 hB15 b14.size) | (go_at_call 24; refine (HSM.out _ b15).mono ?_; rintro e w16 ⟨rfl, hB16⟩; have b16 := nxt b15 hB16 b15.size) | (go_at_call 25; refine (HRSM.out _ b16).mono ?_; rintro e w17 ⟨rfl, hB17⟩; have b17 := nxt b16 hB17 b16.size) | (go_at_call 20; refine (HSS.out _ b17).mono ?_; rintro e w18 ⟨rfl, hB18⟩; have b18 := nxt b17 hB18 b17.size) | (go_at_call 9; refine (HAW.out _ b18).mono ?_; rintro e w19 ⟨rfl, hB19⟩; have b19 := nxt b18 hB19 b18.size))
    go_wp2
    go_ret
    exact ⟨rfl, nxt hW2 b19 HSZ⟩
  · unfold stV
    have hAW := awake_any _ (hw.on hB0)
    by_cases h1 : l.length ≤ 60
    · have q1 : decide (60 < (l.length : Int)) = false := decide_eq_false (by omega)
      have q2 : decide (60 < (m.length : Int)) = true := decide_eq_true (by omega)
      go_enter Tryd.func3, Tryd.ntmps3
      go_wp2_with fail
      refine hAW.mono ?_
      rintro e w1 ⟨rfl, hB1⟩
      go_wp2
      go_ret
      exact ⟨rfl, nxt hB0 hB1 (by omega)⟩
    · have q1 : decide (60 < (l.length : Int)) = true := decide_eq_true (by omega)
      go_enter Tryd.func3, Tryd.ntmps3
      go_wp2_with fail
      refine hAW.mono ?_
      rintro e w1 ⟨rfl, hB1⟩
      go_wp2
      go_ret
      exact ⟨rfl, nxt hB0 hB1 (by omega)⟩
end Go.Proofs.YtbenfdbjpefegaaDoor
