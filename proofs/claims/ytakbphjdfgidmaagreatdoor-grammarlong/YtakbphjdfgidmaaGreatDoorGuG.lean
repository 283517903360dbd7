/- The document's functions of the layer grammar: line. Written by wip/tools/gen_gu.py. -/
import Derived.Test.YtakbphjdfgidmaaGreatDoorGuF
import Derived.Test.YtakbphjdfgidmaaGreatDoorGrN
namespace Go.Proofs.YtakbphjdfgidmaaGreatDoor
open Go.RowKit Go.Maps
set_option linter.unusedVariables false
set_option maxRecDepth 100000

/-- The kind that the loop has come to ahead of k. -/
def kdTo (s : ByteArray) (k : Nat) : Nat := if kwI s < k then kwI s else 0
theorem kdTo_one (s : ByteArray) : kdTo s 1 = 0 := by unfold kdTo; split <;> omega
theorem kdTo_six (s : ByteArray) : kdTo s 6 = kwI s := by
  unfold kdTo
  split
  · rfl
  · have : kwI s ≤ 5 := by
      by_cases h : kwI s = 0
      · omega
      · exact (kwI_of rfl (by omega)).1
    omega
theorem kdTo_yes {s : ByteArray} {k : Nat} (h1 : 1 ≤ k) (h5 : k ≤ 5) (h : kwB k = s) : kdTo s (k + 1) = k := by
  subst h
  unfold kdTo
  rw [kwI_kw k h1 h5, if_pos (by omega)]
theorem kdTo_no {s : ByteArray} {k : Nat} (h1 : 1 ≤ k) (h5 : k ≤ 5) (h : ¬ kwB k = s) : kdTo s (k + 1) = kdTo s k := by
  have hne : kwI s ≠ k := fun e => h (kwI_of e (by omega)).2.symm
  unfold kdTo
  by_cases h2 : kwI s < k
  · rw [if_pos h2, if_pos (by omega)]
  · rw [if_neg h2, if_neg (by omega)]
/-- A line's event by the document's way. -/
def lineR (ws : List Wd) : Rx Ev := if kwI (wdS ws 0) = 0 then stopX ws 6 0 else match nameX ws 1 with
  | .error f => .error f
  | .ok s => if kwI (wdS ws 0) = 1 then objR ws else if kwI (wdS ws 0) = 3 then opR ws else if 2 < ws.length then stopX ws 5 2 else .ok ⟨(kwI (wdS ws 0) : Int), s, emB, op0, stz⟩
theorem nameX_is {ws : List Wd} {n : Nat} {s : ByteArray} (h : nameX ws n = .ok s) : s = wdS ws n := by
  unfold nameX wordX at h
  split at h
  · rename_i e; split at e <;> cases h
  · rename_i t e
    split at e
    · unfold stopX at e; cases e
    · cases e
      split at h
      · cases h; rfl
      · unfold stopX at h; cases h
theorem lineR_is (ws : List Wd) : lineR ws = lineX ws := by
  unfold lineR
  rw [line_kind ws _ rfl]
  generalize kwI (wdS ws 0) = k
  by_cases h0 : k = 0
  · subst h0; rfl
  · rw [if_neg h0]
    by_cases h1 : k = 1
    · subst h1
      show _ = objX ws
      unfold objX objR
      cases hn : nameX ws 1 with
      | error f => rfl
      | ok s => rw [nameX_is hn]; rfl
    · by_cases h3 : k = 3
      · subst h3
        show _ = opX ws
        unfold opX opR
        cases hn : nameX ws 1 with
        | error f => rfl
        | ok s => rw [nameX_is hn]; rfl
      · have e : lineK ws k = namedX ws (k : Int) := by
          unfold lineK
          split
          · exact absurd rfl h0
          · exact absurd rfl h1
          · exact absurd rfl h3
          · rfl
        rw [e]
        unfold namedX
        cases hn : nameX ws 1 with
        | error f => rfl
        | ok s => simp only [if_neg h1, if_neg h3]

set_option maxHeartbeats 2000000 in
theorem rln_any (at0 : Int) (AW : Option Addr) (cw : Nat) (ws : List Wd) (bs : List Int) (w : World) (hA : ReadWords w.heap.size w AW ws) (hf : Fine ws) (hl : Lined bs ws) :
    Calls Tryz.prog 49 #[.agg #[.int .i64 at0, .slice AW ws.length cw]] w (RefPost (lineX ws) w) := by
  rw [← lineR_is]
  obtain ⟨b, off, rfl, hb, hc⟩ := hA hf.pos
  have hfew := hf.few
  have hpos := hf.pos
  have w01 := hc 0 hpos
  have HEND := Lib.hid (fun W (hB : Below w.heap.size w W) => rend_any at0 (some ⟨b, off, none⟩) cw ws W ((hA.below hB).mono hB.size) hf)
  have HOB := Lib.hid (fun W (hB : Below w.heap.size w W) (h2 : 2 ≤ ws.length) => robject_any at0 (some ⟨b, off, none⟩) cw ws bs W ((hA.below hB).mono hB.size) hf hl h2)
  have HOP := Lib.hid (fun W (hB : Below w.heap.size w W) (h2 : 2 ≤ ws.length) => rop_any at0 (some ⟨b, off, none⟩) cw ws bs W ((hA.below hB).mono hB.size) hf hl h2)
  have HC := Lib.hid hc
  have hx : lineR ws = if kwI (wdS ws 0) = 0 then .error (6, (wdP ws 0 : Int)) else match nameX ws 1 with
    | .error f => .error f
    | .ok s => if kwI (wdS ws 0) = 1 then objR ws else if kwI (wdS ws 0) = 3 then opR ws else if 2 < ws.length then stopX ws 5 2 else .ok ⟨(kwI (wdS ws 0) : Int), s, emB, op0, stz⟩ := by
    unfold lineR stopX
    rw [place_at hpos]
  have hnx : nameX ws 1 = if ws.length ≤ 1 then .error (5, (endP ws : Int)) else if nm_checkE (wdS ws 1) = 0 then .ok (wdS ws 1) else .error (nm_checkE (wdS ws 1), (wdP ws 1 : Int)) := by
    unfold nameX wordX stopX
    by_cases h1 : ws.length ≤ 1
    · rw [if_pos h1, if_pos h1]
      have e2 : placeP ws 1 = endP ws := by unfold placeP; rw [if_neg (by omega)]
      rw [e2]
    · rw [if_neg h1, if_neg h1, place_at (by omega)]
  have hw0 : wdS ws 0 = strOfNums (ws[0]?.getD (0, [])).2 := rfl
  have hp0 : wdP ws 0 = (ws[0]?.getD (0, [])).1 := rfl
  rw [hp0] at hx
  rw [← hw0] at w01
  obtain ⟨w00, w0p⟩ := w01
  rw [Nat.zero_mul, Nat.add_zero] at w00 w0p
  have hk6 := kdTo_six (wdS ws 0)
  have hk1' := kdTo_one (wdS ws 0)
  have HYES := Lib.hid (fun k h1 h5 h => kdTo_yes (s := wdS ws 0) (k := k) h1 h5 h)
  have HNO := Lib.hid (fun k h1 h5 h => kdTo_no (s := wdS ws 0) (k := k) h1 h5 h)
  have hsz1 := wdS_size (i := 1) hf
  have HNM := Lib.hid (fun W => nm_rcheck_any (wdS ws 1) W hsz1)
  have hct := nm_check_two (wdS ws 1)
  have hw1 : wdS ws 1 = strOfNums (ws[1]?.getD (0, [])).2 := rfl
  have hp1 : wdP ws 1 = (ws[1]?.getD (0, [])).1 := rfl
  rw [hp1] at hnx
  clear hw0 hp0 hp1
  generalize (ws[0]?.getD (0, [])).1 = pa at *
  generalize hkk : kdTo (wdS ws 0) = kf at *
  generalize kwI (wdS ws 0) = K at *
  generalize wdS ws 0 = sa at *
  have HW1 := Lib.hid hw1
  generalize wdS ws 1 = sb at *
  generalize nm_checkE sb = ne at *
  have HK6 := Lib.hid hk6
  have HCT := Lib.hid hct
  have HXX := Lib.hid hx
  have HNX := Lib.hid hnx
  clear hkk hk6 hct hx hnx hw1 hA hf hl hc hsz1
  have hB0 := ((alloc1 w (.cells #[.int .i64 at0, .slice (some ⟨b, off, none⟩) ws.length cw] 80)).alloc (by simp) (.cells #[.int .i64 0, .string ⟨#[]⟩, .string ⟨#[]⟩, .int .i64 0, .int .i64 0, .int .i64 0, .int .i64 0, .int .i64 0, .int .i64 0, .int .i64 0, .slice none 0 0] 38)).alloc (by simp; omega) (.cells #[.int .i64 0, .int .i64 0] 44)
  have HL0 := Lib.hid (((Holds.new w 80 #[.int .i64 at0, .slice (some ⟨b, off, none⟩) ws.length cw]).alloc (.cells #[.int .i64 0, .string ⟨#[]⟩, .string ⟨#[]⟩, .int .i64 0, .int .i64 0, .int .i64 0, .int .i64 0, .int .i64 0, .int .i64 0, .int .i64 0, .slice none 0 0] 38)).alloc (.cells #[.int .i64 0, .int .i64 0] 44))
  have HE0 := Lib.hid (show Holds (((w.alloc (.cells #[.int .i64 at0, .slice (some ⟨b, off, none⟩) ws.length cw] 80)).alloc (.cells #[.int .i64 0, .string ⟨#[]⟩, .string ⟨#[]⟩, .int .i64 0, .int .i64 0, .int .i64 0, .int .i64 0, .int .i64 0, .int .i64 0, .int .i64 0, .slice none 0 0] 38)).alloc (.cells #[.int .i64 0, .int .i64 0] 44)) (w.heap.size + 1) 38 #[.int .i64 0, .string ⟨#[]⟩, .string ⟨#[]⟩, .int .i64 0, .int .i64 0, .int .i64 0, .int .i64 0, .int .i64 0, .int .i64 0, .int .i64 0, .slice none 0 0] from by have := (Holds.new (w.alloc (.cells #[.int .i64 at0, .slice (some ⟨b, off, none⟩) ws.length cw] 80)) 38 #[.int .i64 0, .string ⟨#[]⟩, .string ⟨#[]⟩, .int .i64 0, .int .i64 0, .int .i64 0, .int .i64 0, .int .i64 0, .int .i64 0, .int .i64 0, .slice none 0 0]).alloc (.cells #[.int .i64 0, .int .i64 0] 44); rwa [World.size_alloc] at this)
  have HF0 := Lib.hid (show Holds (((w.alloc (.cells #[.int .i64 at0, .slice (some ⟨b, off, none⟩) ws.length cw] 80)).alloc (.cells #[.int .i64 0, .string ⟨#[]⟩, .string ⟨#[]⟩, .int .i64 0, .int .i64 0, .int .i64 0, .int .i64 0, .int .i64 0, .int .i64 0, .int .i64 0, .slice none 0 0] 38)).alloc (.cells #[.int .i64 0, .int .i64 0] 44)) (w.heap.size + 2) 44 #[.int .i64 0, .int .i64 0] from by have := Holds.new ((w.alloc (.cells #[.int .i64 at0, .slice (some ⟨b, off, none⟩) ws.length cw] 80)).alloc (.cells #[.int .i64 0, .string ⟨#[]⟩, .string ⟨#[]⟩, .int .i64 0, .int .i64 0, .int .i64 0, .int .i64 0, .int .i64 0, .int .i64 0, .int .i64 0, .slice none 0 0] 38)) 44 #[.int .i64 0, .int .i64 0]; rwa [World.size_alloc, World.size_alloc] at this)
  generalize hn : ws.length = n at *
  have HN := Lib.hid hn
  clear hn
  go_enter Tryz.func49, Tryz.ntmps49
  go_upto_region 1 with fail
  generalize ((w.alloc (.cells #[.int .i64 at0, .slice (some ⟨b, off, none⟩) n cw] 80)).alloc (.cells #[.int .i64 0, .string ⟨#[]⟩, .string ⟨#[]⟩, .int .i64 0, .int .i64 0, .int .i64 0, .int .i64 0, .int .i64 0, .int .i64 0, .int .i64 0, .slice none 0 0] 38)).alloc (.cells #[.int .i64 0, .int .i64 0] 44) = W0 at *
  have l0 := HL0.out.c (j := 0) rfl
  have l1 := HL0.out.c (j := 1) rfl
  have hlL := HL0.out.lt
  go_wp2
  clear l0 l1
  go_loopw [4, 5] (fun s4 i5 wr => ∃ k : Nat, 1 ≤ k ∧ k ≤ 6 ∧ i5 = .int .i64 (k : Int) ∧ s4 = .int .i64 (kf k : Int) ∧ Below W0.heap.size W0 wr) (fun s4 i5 wr => 7 - (intOf i5).toNat)
  case atStart => exact ⟨1, by omega, by omega, rfl, by rw [hk1']; rfl, Below.refl _ _⟩
  case round =>
    obtain ⟨k, hk1, hk6, rfl, rfl, hBr⟩ := hrel
    have hB1 := nxt hB0 hBr hB0.size
    have HLr := Lib.hid (HL0.out.below hBr HL0.out.lt)
    have l0 := HLr.out.c (j := 0) rfl
    have l1 := HLr.out.c (j := 1) rfl
    have hlr := HLr.out.lt
    by_cases hk5 : k ≤ 5
    · have hkd : decide ((k : Int) ≤ 5) = true := decide_eq_true (by omega)
      have hkd' : decide (k ≤ 5) = true := decide_eq_true hk5
      have c0 := (hB1.cell (p := ⟨b, off, none⟩) hb).trans w00
      have hbr : b < wr.heap.size := Nat.lt_of_lt_of_le hb hB1.size
      have HKW := Lib.hid (fun W => kword_any (k : Int) W)
      have hrk : rkwB (k : Int) = kwB k := by unfold rkwB; rw [if_neg (by omega)]; rfl
      rw [hrk] at HKW
      have hy := HYES.out k hk1 hk5
      have hno := HNO.out k hk1 hk5
      have hsb := str_beq (kwB k) sa
      generalize kwB k = kb at *
      obtain ⟨be, hbe⟩ : ∃ be, (kb.toList == sa.toList) = be := ⟨_, rfl⟩
      have hib : kb = sa ↔ be = true := by rw [← hbe, ← hsb, beq_iff_eq]
      have hnn0 : (0 : Int) < (n : Int) := by omega
      have HY := Lib.hid hy
      have HNN := Lib.hid hno
      have HIB := Lib.hid hib
      clear hrk hsb hy hno hib
      go_wp2_with fail
      refine wp_region_noPanic ?_
      refine wp_region_picked [(0, true), (2, true), (3, true), (4, true), (5, true), (6, true), (1, false), (7, true)] (fun W' => Below wr.heap.size wr W') (by kernel_rfl) (by kernel_rfl) (fun _ _ _ _ _ h => h) (Below.refl _ wr).drew ?_
      iterate 6
        refine Picked.take ?_ (by rfl) (by rfl) ?_ ?_
        rotate_left
        · intro w' hw'
          have f1 := (hw'.cell (p := ⟨w.heap.size, 1, none⟩) hlr).trans l1
          have f2 := (hw'.cell (p := ⟨b, off, none⟩) hbr).trans c0
          go_simp
          try with_reducible rfl
        simp only [Act.put, List.getElem_toArray, List.getElem_cons_zero, List.getElem_cons_succ, List.setIfInBounds_toArray, List.set_cons_zero, List.set_cons_succ]
      refine Picked.call 32 _ (by rfl) (by rfl) (by go_simp; with_reducible rfl) ?_
      refine (HKW.out _).mono ?_
      rintro e w2 ⟨rfl, hB2⟩
      have hB2' : Below wr.heap.size wr w2 := nxt (Below.refl _ wr).drew hB2 (Nat.le_refl _)
      refine ⟨_, rfl, hB2', ?_⟩
      simp only [Act.put, List.getElem_toArray, List.getElem_cons_zero, List.getElem_cons_succ, List.setIfInBounds_toArray, List.set_cons_zero, List.set_cons_succ]
      iterate 1
        refine Picked.take ?_ (by rfl) (by rfl) ?_ ?_
        rotate_left
        · intro w' hw'
          go_simp
          try with_reducible rfl
        simp only [Act.put, List.getElem_toArray, List.getElem_cons_zero, List.getElem_cons_succ, List.setIfInBounds_toArray, List.set_cons_zero, List.set_cons_succ]
      refine NoPanic.normal ?_
      have hB3 := nxt hBr hB2' hBr.size
      cases be
      · have hkf := HNN.out (fun e => by have := HIB.out.1 e; cases this)
        have HKF := Lib.hid hkf
        clear hkf
        go_wp2
        go_roundw
        case rel => exact ⟨k + 1, by omega, by omega, by go_num, by rw [HKF.out], hB3⟩
        case measure => simp [intOf]; omega
      · have hkf := HY.out (HIB.out.2 rfl)
        have HKF := Lib.hid hkf
        clear hkf
        go_wp2
        go_roundw
        case rel => exact ⟨k + 1, by omega, by omega, by go_num, by rw [HKF.out], hB3⟩
        case measure => simp [intOf]; omega
    · obtain rfl : k = 6 := by omega
      rw [HK6.out]
      have HE1 := Lib.hid (HE0.out.below hBr HE0.out.lt)
      have HF1 := Lib.hid (HF0.out.below hBr HF0.out.lt)
      clear HYES HNO HK6
      by_cases hK0 : K = 0
      · subst hK0
        have c1 := (hB1.cell (p := ⟨b, off + 1, none⟩) hb).trans w0p
        have hx : lineR ws = .error (6, (pa : Int)) := by rw [HXX.out, if_pos rfl]
        have HX := Lib.hid hx
        have hnn0 : (0 : Int) < (n : Int) := by omega
        clear hx
        go_wp2_with fail
        refine (rfault_any _ _ _).mono ?_
        rintro e wF ⟨rfl, hBF⟩
        unfold FaultV evZ
        have HEF := HE1.out.below hBF HE1.out.lt
        have HFF := HF1.out.below hBF HF1.out.lt
        obtain ⟨p0, p1, p2, p3, p4, p5, p6, p7, p8, p9, p10, q0⟩ := ev_cells HEF
        have s0 := HFF.c (j := 0) rfl
        have s1 := HFF.c (j := 1) rfl
        have q1 := HFF.frozen
        have hlE := HEF.lt
        have hlF := HFF.lt
        have hBx := nxt hB1 hBF hB1.size
        go_wp2
        obtain ⟨W9, hW9, g9, h9, b9, r9⟩ := res_stored (.int .i64 0) (.string ⟨#[]⟩) (.string ⟨#[]⟩) (.int .i64 0) (.int .i64 0) (.int .i64 0) (.int .i64 0) (.int .i64 0) (.int .i64 0) (.int .i64 0) (.slice none 0 0) (.int .i64 6) (.int .i64 (pa : Int)) HEF rfl HFF rfl (by omega)
        rw [← hW9]
        have hb9 := hBx.trans (b9 w.heap.size (by omega) (by omega))
        obtain ⟨k0, k1, k2, k3, k4, k5, k6, k7, k8, k9, k10, _⟩ := ev_cells g9
        have m0 := h9.c (j := 0) rfl
        have m1 := h9.c (j := 1) rfl
        refine bodyPost_ret (v := .tuple #[.agg #[.int .i64 0, .string ⟨#[]⟩, .string ⟨#[]⟩, .int .i64 0, .int .i64 0, .int .i64 0, .int .i64 0, .int .i64 0, .int .i64 0, .int .i64 0, .slice none 0 0], .agg #[.int .i64 6, .int .i64 (pa : Int)]]) (by simp [results, Tryz.f49, go_sem, k0, k1, k2, k3, k4, k5, k6, k7, k8, k9, k10, m0, m1]) rfl ?_
        rw [HX.out]
        exact ⟨rfl, hb9⟩
      · have hKb : ((K : Int) == 0) = false := by rw [beq_eq_false_iff_ne]; omega
        have hx : lineR ws = match nameX ws 1 with
          | .error f => .error f
          | .ok s => if K = 1 then objR ws else if K = 3 then opR ws else if 2 < n then stopX ws 5 2 else .ok ⟨(K : Int), s, emB, op0, stz⟩ := by rw [HXX.out, if_neg hK0]
        by_cases h1 : n ≤ 1
        · have d3 : decide ((n : Int) < 2) = true := decide_eq_true (by omega)
          have d3' : decide (n < 2) = true := decide_eq_true (by omega)
          rw [HNX.out, if_pos h1] at hx
          have HX := Lib.hid hx
          clear hx
          go_wp2_with fail
          refine (HEND.out _ hB1).mono ?_
          rintro e w4 ⟨rfl, hB4⟩
          have HE4 := Lib.hid (HE1.out.below hB4 HE1.out.lt)
          have HF4 := Lib.hid (HF1.out.below hB4 HF1.out.lt)
          have hB4' := nxt hB1 hB4 hB1.size
          generalize (endP ws : Int) = ep at *
          go_wp2_with fail
          refine (rfault_any _ _ _).mono ?_
          rintro e wF ⟨rfl, hBF⟩
          unfold FaultV evZ
          have HEF := HE4.out.below hBF HE4.out.lt
          have HFF := HF4.out.below hBF HF4.out.lt
          obtain ⟨p0, p1, p2, p3, p4, p5, p6, p7, p8, p9, p10, q0⟩ := ev_cells HEF
          have s0 := HFF.c (j := 0) rfl
          have s1 := HFF.c (j := 1) rfl
          have q1 := HFF.frozen
          have hlE := HEF.lt
          have hlF := HFF.lt
          have hBx := nxt hB4' hBF hB4'.size
          go_wp2
          obtain ⟨W9, hW9, g9, h9, b9, r9⟩ := res_stored (.int .i64 0) (.string ⟨#[]⟩) (.string ⟨#[]⟩) (.int .i64 0) (.int .i64 0) (.int .i64 0) (.int .i64 0) (.int .i64 0) (.int .i64 0) (.int .i64 0) (.slice none 0 0) (.int .i64 5) (.int .i64 ep) HEF rfl HFF rfl (by omega)
          rw [← hW9]
          have hb9 := hBx.trans (b9 w.heap.size (by omega) (by omega))
          obtain ⟨k0, k1, k2, k3, k4, k5, k6, k7, k8, k9, k10, _⟩ := ev_cells g9
          have m0 := h9.c (j := 0) rfl
          have m1 := h9.c (j := 1) rfl
          refine bodyPost_ret (v := .tuple #[.agg #[.int .i64 0, .string ⟨#[]⟩, .string ⟨#[]⟩, .int .i64 0, .int .i64 0, .int .i64 0, .int .i64 0, .int .i64 0, .int .i64 0, .int .i64 0, .slice none 0 0], .agg #[.int .i64 5, .int .i64 ep]]) (by simp [results, Tryz.f49, go_sem, k0, k1, k2, k3, k4, k5, k6, k7, k8, k9, k10, m0, m1]) rfl ?_
          rw [HX.out]
          exact ⟨rfl, hb9⟩
        · have d3 : decide ((n : Int) < 2) = false := decide_eq_false (by omega)
          have d3' : decide (n < 2) = false := decide_eq_false (by omega)
          rw [HNX.out, if_neg h1] at hx
          obtain ⟨w10, w1p⟩ := HC.out 1 (by omega)
          rw [Nat.one_mul] at w10 w1p
          rw [← HW1.out] at w10
          generalize (ws[1]?.getD (0, [])).1 = pb at *
          have c2 := (hB1.cell (p := ⟨b, off + 2, none⟩) hb).trans w10
          have c3 := (hB1.cell (p := ⟨b, off + 3, none⟩) hb).trans w1p
          have i1 : (1 : Int) < (n : Int) := by omega
          rcases HCT.out with hne | hne
          · rw [hne] at HNM hx
            rw [if_pos rfl] at hx
            by_cases hK1 : K = 1
            · subst hK1
              have hx1 : lineR ws = objR ws := by rw [hx]; dsimp only; rw [if_pos rfl]
              have HX1 := Lib.hid hx1
              clear hx hx1
              go_wp2_with fail
              refine (HNM.out _).mono ?_
              rintro e u1 ⟨rfl, rfl⟩
              have HO := HOB.out wr hB1 (by omega)
              unfold RefPost at HO
              generalize objR ws = X at *
              go_wp2_with fail
              cases X with
              | error f =>
                refine HO.mono ?_
                rintro e wF ⟨rfl, hBF⟩
                unfold FaultV evZ
                have HEF := HE1.out.below hBF HE1.out.lt
                have HFF := HF1.out.below hBF HF1.out.lt
                obtain ⟨p0, p1, p2, p3, p4, p5, p6, p7, p8, p9, p10, q0⟩ := ev_cells HEF
                have s0 := HFF.c (j := 0) rfl
                have s1 := HFF.c (j := 1) rfl
                have q1 := HFF.frozen
                have hlE := HEF.lt
                have hlF := HFF.lt
                have hBx := nxt hB1 hBF hB1.size
                go_wp2
                obtain ⟨W9, hW9, g9, h9, b9, r9⟩ := res_stored (.int .i64 0) (.string ⟨#[]⟩) (.string ⟨#[]⟩) (.int .i64 0) (.int .i64 0) (.int .i64 0) (.int .i64 0) (.int .i64 0) (.int .i64 0) (.int .i64 0) (.slice none 0 0) (.int .i64 f.1) (.int .i64 f.2) HEF rfl HFF rfl (by omega)
                rw [← hW9]
                have hb9 := hBx.trans (b9 w.heap.size (by omega) (by omega))
                obtain ⟨k0, k1, k2, k3, k4, k5, k6, k7, k8, k9, k10, _⟩ := ev_cells g9
                have m0 := h9.c (j := 0) rfl
                have m1 := h9.c (j := 1) rfl
                refine bodyPost_ret (v := .tuple #[.agg #[.int .i64 0, .string ⟨#[]⟩, .string ⟨#[]⟩, .int .i64 0, .int .i64 0, .int .i64 0, .int .i64 0, .int .i64 0, .int .i64 0, .int .i64 0, .slice none 0 0], .agg #[.int .i64 f.1, .int .i64 f.2]]) (by simp [results, Tryz.f49, go_sem, k0, k1, k2, k3, k4, k5, k6, k7, k8, k9, k10, m0, m1]) rfl ?_
                rw [HX1.out]
                exact ⟨rfl, hb9⟩
              | ok ev =>
                obtain ⟨kd', nm', ob', ⟨o1, o2, o3, o4, o5⟩, t', n', l'⟩ := ev
                refine HO.mono ?_
                rintro e wF ⟨A, c, rfl, ho, hBF⟩
                unfold evV evC
                dsimp only at ho ⊢
                have HEF := HE1.out.below hBF HE1.out.lt
                have HFF := HF1.out.below hBF HF1.out.lt
                obtain ⟨p0, p1, p2, p3, p4, p5, p6, p7, p8, p9, p10, q0⟩ := ev_cells HEF
                have s0 := HFF.c (j := 0) rfl
                have s1 := HFF.c (j := 1) rfl
                have q1 := HFF.frozen
                have hlE := HEF.lt
                have hlF := HFF.lt
                have hBx := nxt hB1 hBF hB1.size
                have HOO := Lib.hid ho
                clear ho
                go_wp2
                obtain ⟨W9, hW9, g9, h9, b9, r9⟩ := res_stored (.int .i64 kd') (.string nm') (.string ob') (.int .i64 o1) (.int .i64 o2) (.int .i64 o3) (.int .i64 o4) (.int .i64 o5) (.int .i64 t') (.int .i64 n') (.slice A l'.length c) (.int .i64 0) (.int .i64 0) HEF rfl HFF rfl (by omega)
                rw [← hW9]
                have hb9 := hBx.trans (b9 w.heap.size (by omega) (by omega))
                obtain ⟨k0, k1, k2, k3, k4, k5, k6, k7, k8, k9, k10, _⟩ := ev_cells g9
                have m0 := h9.c (j := 0) rfl
                have m1 := h9.c (j := 1) rfl
                refine bodyPost_ret (v := .tuple #[.agg #[.int .i64 kd', .string nm', .string ob', .int .i64 o1, .int .i64 o2, .int .i64 o3, .int .i64 o4, .int .i64 o5, .int .i64 t', .int .i64 n', .slice A l'.length c], .agg #[.int .i64 0, .int .i64 0]]) (by simp [results, Tryz.f49, go_sem, k0, k1, k2, k3, k4, k5, k6, k7, k8, k9, k10, m0, m1]) rfl ?_
                rw [HX1.out]
                exact ⟨A, c, rfl, row_mono (r9 _ _ _ HOO.out) hB1.size, hb9⟩
            · have hKb1 : ((K : Int) == 1) = false := by rw [beq_eq_false_iff_ne]; omega
              by_cases hK3 : K = 3
              · subst hK3
                have hx1 : lineR ws = opR ws := by rw [hx]; dsimp only; rw [if_neg (by decide), if_pos rfl]
                have HX1 := Lib.hid hx1
                clear hx hx1
                go_wp2_with fail
                refine (HNM.out _).mono ?_
                rintro e u1 ⟨rfl, rfl⟩
                have HO := HOP.out wr hB1 (by omega)
                unfold RefPost at HO
                generalize opR ws = X at *
                go_wp2_with fail
                cases X with
                | error f =>
                  refine HO.mono ?_
                  rintro e wF ⟨rfl, hBF⟩
                  unfold FaultV evZ
                  have HEF := HE1.out.below hBF HE1.out.lt
                  have HFF := HF1.out.below hBF HF1.out.lt
                  obtain ⟨p0, p1, p2, p3, p4, p5, p6, p7, p8, p9, p10, q0⟩ := ev_cells HEF
                  have s0 := HFF.c (j := 0) rfl
                  have s1 := HFF.c (j := 1) rfl
                  have q1 := HFF.frozen
                  have hlE := HEF.lt
                  have hlF := HFF.lt
                  have hBx := nxt hB1 hBF hB1.size
                  go_wp2
                  obtain ⟨W9, hW9, g9, h9, b9, r9⟩ := res_stored (.int .i64 0) (.string ⟨#[]⟩) (.string ⟨#[]⟩) (.int .i64 0) (.int .i64 0) (.int .i64 0) (.int .i64 0) (.int .i64 0) (.int .i64 0) (.int .i64 0) (.slice none 0 0) (.int .i64 f.1) (.int .i64 f.2) HEF rfl HFF rfl (by omega)
                  rw [← hW9]
                  have hb9 := hBx.trans (b9 w.heap.size (by omega) (by omega))
                  obtain ⟨k0, k1, k2, k3, k4, k5, k6, k7, k8, k9, k10, _⟩ := ev_cells g9
                  have m0 := h9.c (j := 0) rfl
                  have m1 := h9.c (j := 1) rfl
                  refine bodyPost_ret (v := .tuple #[.agg #[.int .i64 0, .string ⟨#[]⟩, .string ⟨#[]⟩, .int .i64 0, .int .i64 0, .int .i64 0, .int .i64 0, .int .i64 0, .int .i64 0, .int .i64 0, .slice none 0 0], .agg #[.int .i64 f.1, .int .i64 f.2]]) (by simp [results, Tryz.f49, go_sem, k0, k1, k2, k3, k4, k5, k6, k7, k8, k9, k10, m0, m1]) rfl ?_
                  rw [HX1.out]
                  exact ⟨rfl, hb9⟩
                | ok ev =>
                  obtain ⟨kd', nm', ob', ⟨o1, o2, o3, o4, o5⟩, t', n', l'⟩ := ev
                  refine HO.mono ?_
                  rintro e wF ⟨A, c, rfl, ho, hBF⟩
                  unfold evV evC
                  dsimp only at ho ⊢
                  have HEF := HE1.out.below hBF HE1.out.lt
                  have HFF := HF1.out.below hBF HF1.out.lt
                  obtain ⟨p0, p1, p2, p3, p4, p5, p6, p7, p8, p9, p10, q0⟩ := ev_cells HEF
                  have s0 := HFF.c (j := 0) rfl
                  have s1 := HFF.c (j := 1) rfl
                  have q1 := HFF.frozen
                  have hlE := HEF.lt
                  have hlF := HFF.lt
                  have hBx := nxt hB1 hBF hB1.size
                  have HOO := Lib.hid ho
                  clear ho
                  go_wp2
                  obtain ⟨W9, hW9, g9, h9, b9, r9⟩ := res_stored (.int .i64 kd') (.string nm') (.string ob') (.int .i64 o1) (.int .i64 o2) (.int .i64 o3) (.int .i64 o4) (.int .i64 o5) (.int .i64 t') (.int .i64 n') (.slice A l'.length c) (.int .i64 0) (.int .i64 0) HEF rfl HFF rfl (by omega)
                  rw [← hW9]
                  have hb9 := hBx.trans (b9 w.heap.size (by omega) (by omega))
                  obtain ⟨k0, k1, k2, k3, k4, k5, k6, k7, k8, k9, k10, _⟩ := ev_cells g9
                  have m0 := h9.c (j := 0) rfl
                  have m1 := h9.c (j := 1) rfl
                  refine bodyPost_ret (v := .tuple #[.agg #[.int .i64 kd', .string nm', .string ob', .int .i64 o1, .int .i64 o2, .int .i64 o3, .int .i64 o4, .int .i64 o5, .int .i64 t', .int .i64 n', .slice A l'.length c], .agg #[.int .i64 0, .int .i64 0]]) (by simp [results, Tryz.f49, go_sem, k0, k1, k2, k3, k4, k5, k6, k7, k8, k9, k10, m0, m1]) rfl ?_
                  rw [HX1.out]
                  exact ⟨A, c, rfl, row_mono (r9 _ _ _ HOO.out) hB1.size, hb9⟩
              · have hKb3 : ((K : Int) == 3) = false := by rw [beq_eq_false_iff_ne]; omega
                have hx1 : lineR ws = if 2 < n then stopX ws 5 2 else .ok ⟨(K : Int), sb, emB, op0, stz⟩ := by rw [hx]; dsimp only; rw [if_neg hK1, if_neg hK3]
                by_cases hn2 : 2 < n
                · have d4 : decide ((2 : Int) < (n : Int)) = true := decide_eq_true (by omega)
                  have d4' : decide (2 < n) = true := decide_eq_true hn2
                  obtain ⟨_, w2p⟩ := HC.out 2 hn2
                  have hpl : placeP ws 2 = (ws[2]?.getD (0, [])).1 := place_at (by rw [HN.out]; exact hn2)
                  rw [if_pos hn2] at hx1
                  unfold stopX at hx1
                  rw [hpl] at hx1
                  clear hpl
                  generalize (ws[2]?.getD (0, [])).1 = pc at *
                  have c5 := (hB1.cell (p := ⟨b, off + 5, none⟩) hb).trans w2p
                  have i2 : (2 : Int) < (n : Int) := by omega
                  have HX := Lib.hid hx1
                  clear hx hx1
                  go_wp2_with fail
                  refine (HNM.out _).mono ?_
                  rintro e u1 ⟨rfl, rfl⟩
                  go_wp2_with fail
                  refine (rfault_any _ _ _).mono ?_
                  rintro e wF ⟨rfl, hBF⟩
                  unfold FaultV evZ
                  have HEF := HE1.out.below hBF HE1.out.lt
                  have HFF := HF1.out.below hBF HF1.out.lt
                  obtain ⟨p0, p1, p2, p3, p4, p5, p6, p7, p8, p9, p10, q0⟩ := ev_cells HEF
                  have s0 := HFF.c (j := 0) rfl
                  have s1 := HFF.c (j := 1) rfl
                  have q1 := HFF.frozen
                  have hlE := HEF.lt
                  have hlF := HFF.lt
                  have hBx := nxt hB1 hBF hB1.size
                  go_wp2
                  obtain ⟨W9, hW9, g9, h9, b9, r9⟩ := res_stored (.int .i64 0) (.string ⟨#[]⟩) (.string ⟨#[]⟩) (.int .i64 0) (.int .i64 0) (.int .i64 0) (.int .i64 0) (.int .i64 0) (.int .i64 0) (.int .i64 0) (.slice none 0 0) (.int .i64 5) (.int .i64 (pc : Int)) HEF rfl HFF rfl (by omega)
                  rw [← hW9]
                  have hb9 := hBx.trans (b9 w.heap.size (by omega) (by omega))
                  obtain ⟨k0, k1, k2, k3, k4, k5, k6, k7, k8, k9, k10, _⟩ := ev_cells g9
                  have m0 := h9.c (j := 0) rfl
                  have m1 := h9.c (j := 1) rfl
                  refine bodyPost_ret (v := .tuple #[.agg #[.int .i64 0, .string ⟨#[]⟩, .string ⟨#[]⟩, .int .i64 0, .int .i64 0, .int .i64 0, .int .i64 0, .int .i64 0, .int .i64 0, .int .i64 0, .slice none 0 0], .agg #[.int .i64 5, .int .i64 (pc : Int)]]) (by simp [results, Tryz.f49, go_sem, k0, k1, k2, k3, k4, k5, k6, k7, k8, k9, k10, m0, m1]) rfl ?_
                  rw [HX.out]
                  exact ⟨rfl, hb9⟩
                · have d4 : decide ((2 : Int) < (n : Int)) = false := decide_eq_false (by omega)
                  have d4' : decide (2 < n) = false := decide_eq_false hn2
                  rw [if_neg hn2] at hx1
                  have HX := Lib.hid hx1
                  clear hx hx1
                  obtain ⟨p0, p1, p2, p3, p4, p5, p6, p7, p8, p9, p10, q0⟩ := ev_cells HE1.out
                  have s0 := HF1.out.c (j := 0) rfl
                  have s1 := HF1.out.c (j := 1) rfl
                  have q1 := HF1.out.frozen
                  have hlE := HE1.out.lt
                  have hlF := HF1.out.lt
                  go_wp2_with fail
                  refine (HNM.out _).mono ?_
                  rintro e u1 ⟨rfl, rfl⟩
                  have hBx := hB1
                  go_wp2
                  obtain ⟨W9, hW9, g9, h9, b9, r9⟩ := res_stored (.int .i64 (K : Int)) (.string sb) (.string ⟨#[]⟩) (.int .i64 0) (.int .i64 0) (.int .i64 0) (.int .i64 0) (.int .i64 0) (.int .i64 0) (.int .i64 0) (.slice none 0 0) (.int .i64 0) (.int .i64 0) HE1.out rfl HF1.out rfl (by omega)
                  rw [← hW9]
                  have hb9 := hBx.trans (b9 w.heap.size (by omega) (by omega))
                  obtain ⟨k0, k1, k2, k3, k4, k5, k6, k7, k8, k9, k10, _⟩ := ev_cells g9
                  have m0 := h9.c (j := 0) rfl
                  have m1 := h9.c (j := 1) rfl
                  refine bodyPost_ret (v := .tuple #[.agg #[.int .i64 (K : Int), .string sb, .string ⟨#[]⟩, .int .i64 0, .int .i64 0, .int .i64 0, .int .i64 0, .int .i64 0, .int .i64 0, .int .i64 0, .slice none 0 0], .agg #[.int .i64 0, .int .i64 0]]) (by simp [results, Tryz.f49, go_sem, k0, k1, k2, k3, k4, k5, k6, k7, k8, k9, k10, m0, m1]) rfl ?_
                  rw [HX.out]
                  exact ⟨none, 0, rfl, nil_row _ _, hb9⟩
          · rw [hne] at HNM hx
            rw [if_neg (by decide)] at hx
            have HX := Lib.hid hx
            clear hx
            go_wp2_with fail
            refine (HNM.out _).mono ?_
            rintro e u1 ⟨rfl, rfl⟩
            go_wp2_with fail
            refine (rfault_any _ _ _).mono ?_
            rintro e wF ⟨rfl, hBF⟩
            unfold FaultV evZ
            have HEF := HE1.out.below hBF HE1.out.lt
            have HFF := HF1.out.below hBF HF1.out.lt
            obtain ⟨p0, p1, p2, p3, p4, p5, p6, p7, p8, p9, p10, q0⟩ := ev_cells HEF
            have s0 := HFF.c (j := 0) rfl
            have s1 := HFF.c (j := 1) rfl
            have q1 := HFF.frozen
            have hlE := HEF.lt
            have hlF := HFF.lt
            have hBx := nxt hB1 hBF hB1.size
            go_wp2
            obtain ⟨W9, hW9, g9, h9, b9, r9⟩ := res_stored (.int .i64 0) (.string ⟨#[]⟩) (.string ⟨#[]⟩) (.int .i64 0) (.int .i64 0) (.int .i64 0) (.int .i64 0) (.int .i64 0) (.int .i64 0) (.int .i64 0) (.slice none 0 0) (.int .i64 7) (.int .i64 (pb : Int)) HEF rfl HFF rfl (by omega)
            rw [← hW9]
            have hb9 := hBx.trans (b9 w.heap.size (by omega) (by omega))
            obtain ⟨k0, k1, k2, k3, k4, k5, k6, k7, k8, k9, k10, _⟩ := ev_cells g9
            have m0 := h9.c (j := 0) rfl
            have m1 := h9.c (j := 1) rfl
            refine bodyPost_ret (v := .tuple #[.agg #[.int .i64 0, .string ⟨#[]⟩, .string ⟨#[]⟩, .int .i64 0, .int .i64 0, .int .i64 0, .int .i64 0, .int .i64 0, .int .i64 0, .int .i64 0, .slice none 0 0], .agg #[.int .i64 7, .int .i64 (pb : Int)]]) (by simp [results, Tryz.f49, go_sem, k0, k1, k2, k3, k4, k5, k6, k7, k8, k9, k10, m0, m1]) rfl ?_
            rw [HX.out]
            exact ⟨rfl, hb9⟩
end Go.Proofs.YtakbphjdfgidmaaGreatDoor
