/- The document's functions of the layer grammar: operation. Written by wip/tools/gen_gu.py. -/
import Derived.Test.YtakbphjdfgidmaaGreatDoorGuE
import Derived.Test.YtakbphjdfgidmaaGreatDoorGor
namespace Go.Proofs.YtakbphjdfgidmaaGreatDoor
open Go.RowKit Go.Maps
set_option linter.unusedVariables false
set_option maxRecDepth 100000

def opR (ws : List Wd) : Rx Ev := match nameX ws 2 with
  | .error f => .error f
  | .ok o => match doneX ws 3 with
    | .error f => .error f
    | .ok p => .ok ⟨3, wdS ws 1, o, p, stz⟩

set_option maxHeartbeats 2000000 in
theorem rop_any (at0 : Int) (AW : Option Addr) (cw : Nat) (ws : List Wd) (bs : List Int) (w : World) (hA : ReadWords w.heap.size w AW ws) (hf : Fine ws) (hl : Lined bs ws) (h2 : 2 ≤ ws.length) :
    Calls Tryz.prog 87 #[.agg #[.int .i64 at0, .slice AW ws.length cw]] w (RefPost (opR ws) w) := by
  obtain ⟨b, off, rfl, hb, hc⟩ := hA hf.pos
  have hfew := hf.few
  have w1 := (hc 1 (by omega)).1
  have HEND := Lib.hid (fun W (hB : Below w.heap.size w W) => rend_any at0 (some ⟨b, off, none⟩) cw ws W ((hA.below hB).mono hB.size) hf)
  have HFI := Lib.hid hf
  have HC := Lib.hid hc
  have hn1 : wdS ws 1 = strOfNums (ws[1]?.getD (0, [])).2 := rfl
  have hx : opR ws = match nameX ws 2 with | .error f => .error f | .ok o => match doneX ws 3 with | .error f => .error f | .ok p => .ok ⟨3, wdS ws 1, o, p, stz⟩ := rfl
  rw [hn1] at hx
  generalize hs1 : strOfNums (ws[1]?.getD (0, [])).2 = nm at *
  clear hn1 hs1
  have hB0 := ((alloc1 w (.cells #[.int .i64 at0, .slice (some ⟨b, off, none⟩) ws.length cw] 80)).alloc (by simp) (.cells #[.int .i64 0, .string ⟨#[]⟩, .string ⟨#[]⟩, .int .i64 0, .int .i64 0, .int .i64 0, .int .i64 0, .int .i64 0, .int .i64 0, .int .i64 0, .slice none 0 0] 38)).alloc (by simp; omega) (.cells #[.int .i64 0, .int .i64 0] 44)
  have HL0 := Lib.hid (((Holds.new w 80 #[.int .i64 at0, .slice (some ⟨b, off, none⟩) ws.length cw]).alloc (.cells #[.int .i64 0, .string ⟨#[]⟩, .string ⟨#[]⟩, .int .i64 0, .int .i64 0, .int .i64 0, .int .i64 0, .int .i64 0, .int .i64 0, .int .i64 0, .slice none 0 0] 38)).alloc (.cells #[.int .i64 0, .int .i64 0] 44))
  have HE0 := Lib.hid (show Holds (((w.alloc (.cells #[.int .i64 at0, .slice (some ⟨b, off, none⟩) ws.length cw] 80)).alloc (.cells #[.int .i64 0, .string ⟨#[]⟩, .string ⟨#[]⟩, .int .i64 0, .int .i64 0, .int .i64 0, .int .i64 0, .int .i64 0, .int .i64 0, .int .i64 0, .slice none 0 0] 38)).alloc (.cells #[.int .i64 0, .int .i64 0] 44)) (w.heap.size + 1) 38 #[.int .i64 0, .string ⟨#[]⟩, .string ⟨#[]⟩, .int .i64 0, .int .i64 0, .int .i64 0, .int .i64 0, .int .i64 0, .int .i64 0, .int .i64 0, .slice none 0 0] from by have := (Holds.new (w.alloc (.cells #[.int .i64 at0, .slice (some ⟨b, off, none⟩) ws.length cw] 80)) 38 #[.int .i64 0, .string ⟨#[]⟩, .string ⟨#[]⟩, .int .i64 0, .int .i64 0, .int .i64 0, .int .i64 0, .int .i64 0, .int .i64 0, .int .i64 0, .slice none 0 0]).alloc (.cells #[.int .i64 0, .int .i64 0] 44); rwa [World.size_alloc] at this)
  have HF0 := Lib.hid (show Holds (((w.alloc (.cells #[.int .i64 at0, .slice (some ⟨b, off, none⟩) ws.length cw] 80)).alloc (.cells #[.int .i64 0, .string ⟨#[]⟩, .string ⟨#[]⟩, .int .i64 0, .int .i64 0, .int .i64 0, .int .i64 0, .int .i64 0, .int .i64 0, .int .i64 0, .slice none 0 0] 38)).alloc (.cells #[.int .i64 0, .int .i64 0] 44)) (w.heap.size + 2) 44 #[.int .i64 0, .int .i64 0] from by have := Holds.new ((w.alloc (.cells #[.int .i64 at0, .slice (some ⟨b, off, none⟩) ws.length cw] 80)).alloc (.cells #[.int .i64 0, .string ⟨#[]⟩, .string ⟨#[]⟩, .int .i64 0, .int .i64 0, .int .i64 0, .int .i64 0, .int .i64 0, .int .i64 0, .int .i64 0, .slice none 0 0] 38)) 44 #[.int .i64 0, .int .i64 0]; rwa [World.size_alloc, World.size_alloc] at this)
  by_cases h3 : ws.length < 3
  · have d3 : decide ((ws.length : Int) < 3) = true := decide_eq_true (by omega)
    have hx1 : opR ws = .error (5, (endP ws : Int)) := by
      have e1 : nameX ws 2 = .error (5, (placeP ws 2 : Int)) := by unfold nameX wordX; rw [if_pos (by omega)]; rfl
      rw [hx, e1]
      have e2 : placeP ws 2 = endP ws := by unfold placeP; rw [if_neg (by omega)]
      rw [e2]
    have HX := Lib.hid hx1
    clear hx hx1 hA hc hf hl
    go_enter Tryz.func87, Tryz.ntmps87
    go_upto_region 1 with fail
    generalize ((w.alloc (.cells #[.int .i64 at0, .slice (some ⟨b, off, none⟩) ws.length cw] 80)).alloc (.cells #[.int .i64 0, .string ⟨#[]⟩, .string ⟨#[]⟩, .int .i64 0, .int .i64 0, .int .i64 0, .int .i64 0, .int .i64 0, .int .i64 0, .int .i64 0, .slice none 0 0] 38)).alloc (.cells #[.int .i64 0, .int .i64 0] 44) = W0 at *
    have l0 := HL0.out.c (j := 0) rfl
    have l1 := HL0.out.c (j := 1) rfl
    have hlL := HL0.out.lt
    go_wp2_with fail
    refine (HEND.out _ hB0).mono ?_
    rintro e w1 ⟨rfl, hB1⟩
    have HE1 := Lib.hid (HE0.out.below hB1 HE0.out.lt)
    have HF1 := Lib.hid (HF0.out.below hB1 HF0.out.lt)
    have hB2 := nxt hB0 hB1 hB0.size
    generalize (endP ws : Int) = ep at *
    go_wp2_with fail
    refine (rfault_any _ _ _).mono ?_
    rintro e wF ⟨rfl, hBF⟩
    unfold FaultV evZ
    have HEF := HE1.out.below hBF HE1.out.lt
    have HFF := HF1.out.below hBF HF1.out.lt
    obtain ⟨p0, p1, p2, p3, p4, p5, p6, p7, p8, p9, p10, q0⟩ := ev_cells HEF
    have s0 := HFF.c (j := 0) rfl
    have s1 := HFF.c (j := 1) rfl
    have q1 := HFF.frozen
    have hlE := HEF.lt
    have hlF := HFF.lt
    have hBx := nxt hB2 hBF hB2.size
    go_wp2
    obtain ⟨W9, hW9, g9, h9, b9, r9⟩ := res_stored (.int .i64 0) (.string ⟨#[]⟩) (.string ⟨#[]⟩) (.int .i64 0) (.int .i64 0) (.int .i64 0) (.int .i64 0) (.int .i64 0) (.int .i64 0) (.int .i64 0) (.slice none 0 0) (.int .i64 5) (.int .i64 ep) HEF rfl HFF rfl (by omega)
    rw [← hW9]
    have hb9 := hBx.trans (b9 w.heap.size (by omega) (by omega))
    obtain ⟨k0, k1, k2, k3, k4, k5, k6, k7, k8, k9, k10, _⟩ := ev_cells g9
    have m0 := h9.c (j := 0) rfl
    have m1 := h9.c (j := 1) rfl
    refine bodyPost_ret (v := .tuple #[.agg #[.int .i64 0, .string ⟨#[]⟩, .string ⟨#[]⟩, .int .i64 0, .int .i64 0, .int .i64 0, .int .i64 0, .int .i64 0, .int .i64 0, .int .i64 0, .slice none 0 0], .agg #[.int .i64 5, .int .i64 ep]]) (by simp [results, Tryz.f87, go_sem, k0, k1, k2, k3, k4, k5, k6, k7, k8, k9, k10, m0, m1]) rfl ?_
    rw [HX.out]
    exact ⟨rfl, hb9⟩
  · have d3 : decide ((ws.length : Int) < 3) = false := decide_eq_false (by omega)
    have h3' : 2 < ws.length := by omega
    have w2 := (hc 2 h3').1
    have w3 := (hc 2 h3').2
    have hp2 : wdP ws 2 = (ws[2]?.getD (0, [])).1 := rfl
    have hs2 : wdS ws 2 = strOfNums (ws[2]?.getD (0, [])).2 := rfl
    have hsz2 := wdS_size (i := 2) hf
    have HNM := Lib.hid (fun W => nm_rcheck_any (wdS ws 2) W hsz2)
    have hnx : nameX ws 2 = if nm_checkE (wdS ws 2) = 0 then .ok (wdS ws 2) else .error (nm_checkE (wdS ws 2), (wdP ws 2 : Int)) := by
      unfold nameX wordX stopX
      rw [if_neg (by omega), place_at h3']
    rw [hnx] at hx
    have hct := nm_check_two (wdS ws 2)
    rw [hp2] at hx
    rw [← hs2] at w2
    clear hnx hs2 hp2
    generalize (ws[2]?.getD (0, [])).1 = p at *
    generalize wdS ws 2 = ob at *
    have i2 : (2 : Int) < (ws.length : Int) := by omega
    rcases hct with hne | hne
    · rw [hne] at HNM hx
      have hx1 : opR ws = match doneX ws 3 with | .error f => .error f | .ok p => .ok ⟨3, nm, ob, p, stz⟩ := by rw [hx, if_pos rfl]
      have hx2 : doneX ws 3 = if (rdO ws 3).2.2 ≠ 0 then stopX ws (rdO ws 3).2.2 (3 + (rdO ws 3).2.1.toNat) else .ok (rdO ws 3).1 := rfl
      rw [hx2] at hx1
      have HX := Lib.hid hx1
      clear hx hx1 hx2
      have hRO : readP (wdsS (ws.drop 3)) = rdO ws 3 := rfl
      have hfail := read_fail (wdsS (ws.drop 3))
      rw [hRO] at hfail
      have hml : (wdsS (ws.drop 3)).length = ws.length - 3 := by rw [wdsS_len, List.length_drop]
      have hsz : ∀ s ∈ wdsS (ws.drop 3), s.size ≤ maxLen := by
        intro s hs
        obtain ⟨x, hx, rfl⟩ := List.mem_map.1 hs
        rw [strOfNums_size]
        have := hf.size x (List.mem_of_mem_drop hx)
        unfold maxLen; omega
      have HRD := Lib.hid (fun A c W hA => op_rread_any A c (wdsS (ws.drop 3)) W hA (by rw [hml]; omega) hsz)
      rw [hRO] at HRD
      have hget : ∀ k, k < ws.length - 3 → (wdsS (ws.drop 3))[k]?.getD ⟨#[]⟩ = strOfNums (ws[k + 3]?.getD (0, [])).2 := by
        intro k hk
        unfold wdsS
        rw [List.getElem?_map, List.getElem?_drop, Nat.add_comm 3 k, List.getElem?_eq_getElem (by omega)]
        rfl
      have HGET := Lib.hid hget
      generalize hss : wdsS (ws.drop 3) = ss at *
      obtain ⟨⟨⟨o1, o2, o3, o4, o5⟩, op, oe⟩, hr⟩ : ∃ r : Res, rdO ws 3 = r := ⟨_, rfl⟩
      rw [hr] at HX HRD hfail
      dsimp only at HX hfail
      have HFAIL := Lib.hid hfail
      obtain ⟨i0, hi, hz0, hz1, hz2⟩ := info_parts info_str
      have hplace := fun (k : Nat) (hk : k < ws.length) => place_at hk
      have hpend := fun (k : Nat) (hk : ¬ k < ws.length) => (show placeP ws k = endP ws by unfold placeP; rw [if_neg hk])
      have HPL := Lib.hid hplace
      have HPE := Lib.hid hpend
      clear hRO hr hss hget hsz hfail hc hA hf hl hplace hpend
      unfold stopX at HX
      generalize hn : ws.length = n at *
      have HN := Lib.hid hn
      clear hn
      go_enter Tryz.func87, Tryz.ntmps87
      go_upto_region 1 with fail
      generalize ((w.alloc (.cells #[.int .i64 at0, .slice (some ⟨b, off, none⟩) n cw] 80)).alloc (.cells #[.int .i64 0, .string ⟨#[]⟩, .string ⟨#[]⟩, .int .i64 0, .int .i64 0, .int .i64 0, .int .i64 0, .int .i64 0, .int .i64 0, .int .i64 0, .slice none 0 0] 38)).alloc (.cells #[.int .i64 0, .int .i64 0] 44) = W0 at *
      have w2' := (hB0.cell (p := ⟨b, off + 4, none⟩) hb).trans w2
      have w3' := (hB0.cell (p := ⟨b, off + 5, none⟩) hb).trans w3
      have l0 := HL0.out.c (j := 0) rfl
      have l1 := HL0.out.c (j := 1) rfl
      have hlL := HL0.out.lt
      go_wp2_with fail
      refine (HNM.out _).mono ?_
      rintro e u1 ⟨rfl, rfl⟩
      go_wp2
      clear w2' w3' l0 l1
      go_loopw [4, 5] (fun s4 i5 wr => ∃ (k j : Nat) (q : Value), k = j + 3 ∧ k ≤ n ∧ i5 = .int .i64 (k : Int) ∧ s4 = q ∧ wr.ownsRow W0.heap.size 9 1 q j (texts (ss.take j)) ∧ Below W0.heap.size W0 wr) (fun s4 i5 wr => n - (intOf i5).toNat)
      case atStart => exact ⟨3, 0, .slice none 0 0, by omega, by omega, rfl, rfl, World.ownsRow_nil _ _ _ _, Below.refl _ _⟩
      case round =>
        obtain ⟨k, j, q, hkj, hk, rfl, rfl, hrow, hBr⟩ := hrel
        have HKJ := Lib.hid hkj
        obtain ⟨A', c', rfl⟩ := row_one hrow
        have HROW := Lib.hid hrow
        have hB1 := nxt hB0 hBr hB0.size
        have HLr := Lib.hid (HL0.out.below hBr HL0.out.lt)
        have l0 := HLr.out.c (j := 0) rfl
        have l1 := HLr.out.c (j := 1) rfl
        have hlr := HLr.out.lt
        have hwr := hBr.size
        have hjb : j ≤ 8000 := by omega
        clear hrow
        by_cases hlt : k < n
        · have hkd : decide (k < n) = true := decide_eq_true hlt
          have ck := (hB1.cell (p := ⟨b, off + k * 2, none⟩) hb).trans (HC.out k hlt).1
          have hgj := HGET.out j (by omega)
          rw [show j + 3 = k by omega] at hgj
          rw [← hgj] at ck
          have hst := texts_take2 (show j < ss.length by omega)
          generalize ss[j]?.getD ⟨#[]⟩ = sk at *
          have HST2 := Lib.hid hst
          have k0 : (0 : Int) ≤ (k : Int) := by omega
          have k1 : (k : Int) < (n : Int) := by omega
          clear hst hgj hkj
          go_wp2_with (at_builtin; refine wpList_append_own_at _ rfl _ _ 50 rfl W0.heap.size 9 i0 (.string ⟨#[]⟩) 1 16 Tryz.underlying50 hi hz0 hz1 hz2 rfl (by decide) _ _ _ rfl (HROW.out.alloc _) ⟨wr.heap.size, 0, none⟩ 1 1 [.string sk] rfl rfl (cell_one wr 9 (.string sk)) (by intro u hu; simp at hu; subst hu; rfl) (by unfold maxLen; omega) (by omega) (by simp; omega) ?_; intro v5 w5 hown5 hg5 hnil5 hat5)
          go_roundw
          case rel =>
            refine ⟨k + 1, j + 1, v5, by have := HKJ.out; omega, by omega, by go_num, rfl, ?_, ?_⟩
            · rw [HST2.out]; exact hown5
            · exact (hBr.alloc hwr _).grown hg5 (by simp; omega) (fun k e => ((HROW.out.lt k e).1))
          case measure => simp [intOf]; omega
        · have hkd : decide (k < n) = false := decide_eq_false hlt
          have hS : Strs wr.heap.size wr A' ss := by
            have hr := HROW.out
            rw [List.take_of_length_le (by omega)] at hr
            have e : ss.length = j := by omega
            rw [← e] at hr
            exact strs_of_row hr
          have HRD1 := Lib.hid (HRD.out A' c' wr hS)
          rw [show ss.length = j by omega] at HRD1
          clear hS hkj
          go_wp2_with fail
          refine HRD1.out.mono ?_
          rintro e w4 ⟨rfl, hB4⟩
          unfold resV
          dsimp only
          unfold opV
          have hB4' := nxt hB1 hB4 hB1.size
          have hB5 := alloc1 w4 (.cells #[.int .i64 o1, .int .i64 o2, .int .i64 o3, .int .i64 o4, .int .i64 o5] 33)
          have HS5 := Lib.hid (Holds.new w4 33 #[.int .i64 o1, .int .i64 o2, .int .i64 o3, .int .i64 o4, .int .i64 o5])
          have hB5' := nxt hB4' hB5 hB4'.size
          have hB05 := nxt (nxt hBr hB4 hBr.size) hB5 (nxt hBr hB4 hBr.size).size
          have HL5 := Lib.hid (HL0.out.below hB05 HL0.out.lt)
          have HE5 := Lib.hid (HE0.out.below hB05 HE0.out.lt)
          have HF5 := Lib.hid (HF0.out.below hB05 HF0.out.lt)
          have w15 := (hB5'.cell (p := ⟨b, off + 2, none⟩) hb).trans w1
          have w25 := (hB5'.cell (p := ⟨b, off + 4, none⟩) hb).trans w2
          clear l0 l1 hB4 hB5
          go_upto_region 11 with fail
          generalize w4.alloc (.cells #[.int .i64 o1, .int .i64 o2, .int .i64 o3, .int .i64 o4, .int .i64 o5] 33) = W5 at *
          have u0 := HS5.out.c (j := 0) rfl
          have u1 := HS5.out.c (j := 1) rfl
          have u2 := HS5.out.c (j := 2) rfl
          have u3 := HS5.out.c (j := 3) rfl
          have u4 := HS5.out.c (j := 4) rfl
          have l50 := HL5.out.c (j := 0) rfl
          have l51 := HL5.out.c (j := 1) rfl
          have hlS := HS5.out.lt
          have hlL5 := HL5.out.lt
          by_cases hoe : oe = 0
          · subst hoe
            have hx2 : opR ws = .ok ⟨3, nm, ob, (o1, o2, o3, o4, o5), stz⟩ := by rw [HX.out, if_neg (by simp)]
            have HX2 := Lib.hid hx2
            have i1 : (1 : Int) < (n : Int) := by omega
            clear hx2
            obtain ⟨p0, p1, p2, p3, p4, p5, p6, p7, p8, p9, p10, q0⟩ := ev_cells HE5.out
            have s0 := HF5.out.c (j := 0) rfl
            have s1 := HF5.out.c (j := 1) rfl
            have q1 := HF5.out.frozen
            have hlE := HE5.out.lt
            have hlF := HF5.out.lt
            go_upto_region 15 with fail
            go_region
            have hBx := hB5'
            go_wp2
            obtain ⟨W9, hW9, g9, h9, b9, r9⟩ := res_stored (.int .i64 3) (.string nm) (.string ob) (.int .i64 o1) (.int .i64 o2) (.int .i64 o3) (.int .i64 o4) (.int .i64 o5) (.int .i64 0) (.int .i64 0) (.slice none 0 0) (.int .i64 0) (.int .i64 0) HE5.out rfl HF5.out rfl (by omega)
            rw [← hW9]
            have hb9 := (hBx.trans (b9 w.heap.size (by omega) (by omega))).drew
            have hD9 := (Below.refl W9.heap.size W9).drew
            obtain ⟨k0, k1, k2, k3, k4, k5, k6, k7, k8, k9, k10, _⟩ := ev_cells (g9.below hD9 g9.lt)
            have m0 := (h9.below hD9 h9.lt).c (j := 0) rfl
            have m1 := (h9.below hD9 h9.lt).c (j := 1) rfl
            refine bodyPost_ret (v := .tuple #[.agg #[.int .i64 3, .string nm, .string ob, .int .i64 o1, .int .i64 o2, .int .i64 o3, .int .i64 o4, .int .i64 o5, .int .i64 0, .int .i64 0, .slice none 0 0], .agg #[.int .i64 0, .int .i64 0]]) (by simp [results, Tryz.f87, go_sem, k0, k1, k2, k3, k4, k5, k6, k7, k8, k9, k10, m0, m1]) rfl ?_
            rw [HX2.out]
            exact ⟨none, 0, rfl, nil_row _ _, hb9⟩
          · have hbn : (oe != 0) = true := by rw [bne_iff_ne]; exact hoe
            obtain ⟨_, a1, a2⟩ := HFAIL.out hoe
            obtain ⟨at', rfl⟩ := Int.eq_ofNat_of_zero_le a1
            have hx2 : opR ws = .error (oe, (placeP ws (3 + at') : Int)) := by simp only [HX.out, ne_eq, hoe, not_false_eq_true, if_true, Int.toNat_natCast]
            obtain ⟨na, hna⟩ : ∃ na, na = at' + 3 := ⟨_, rfl⟩
            rw [show 3 + at' = na by omega] at hx2
            have hwn : wrap64 ((at' : Int) + 3) = (na : Int) := by unfold wrap64; omega
            have HWN := Lib.hid hwn
            clear hwn
            have n0 : (0 : Int) ≤ (na : Int) := by omega
            by_cases hlt2 : na < n
            · have hd1 : decide (na < n) = true := decide_eq_true hlt2
              have hd2 : decide ((na : Int) < (n : Int)) = true := decide_eq_true (by omega)
              have n1 : (na : Int) < (n : Int) := by omega
              have wk := (hB5'.cell (p := ⟨b, off + na * 2 + 1, none⟩) hb).trans (HC.out na hlt2).2
              rw [HPL.out na hlt2] at hx2
              unfold wdP at hx2
              generalize (ws[na]?.getD (0, [])).1 = pk at *
              have HX2 := Lib.hid hx2
              have hwn := HWN.out
              clear hx2 hna a1 a2
              go_wp2_with fail
              clear hwn
              refine (rfault_any _ _ _).mono ?_
              rintro e wF ⟨rfl, hBF⟩
              unfold FaultV evZ
              have HEF := HE5.out.below hBF HE5.out.lt
              have HFF := HF5.out.below hBF HF5.out.lt
              obtain ⟨p0, p1, p2, p3, p4, p5, p6, p7, p8, p9, p10, q0⟩ := ev_cells HEF
              have s0 := HFF.c (j := 0) rfl
              have s1 := HFF.c (j := 1) rfl
              have q1 := HFF.frozen
              have hlE := HEF.lt
              have hlF := HFF.lt
              have hBx := nxt hB5' hBF hB5'.size
              go_wp2
              obtain ⟨W9, hW9, g9, h9, b9, r9⟩ := res_stored (.int .i64 0) (.string ⟨#[]⟩) (.string ⟨#[]⟩) (.int .i64 0) (.int .i64 0) (.int .i64 0) (.int .i64 0) (.int .i64 0) (.int .i64 0) (.int .i64 0) (.slice none 0 0) (.int .i64 oe) (.int .i64 (pk : Int)) HEF rfl HFF rfl (by omega)
              rw [← hW9]
              have hb9 := hBx.trans (b9 w.heap.size (by omega) (by omega))
              obtain ⟨k0, k1, k2, k3, k4, k5, k6, k7, k8, k9, k10, _⟩ := ev_cells g9
              have m0 := h9.c (j := 0) rfl
              have m1 := h9.c (j := 1) rfl
              refine bodyPost_ret (v := .tuple #[.agg #[.int .i64 0, .string ⟨#[]⟩, .string ⟨#[]⟩, .int .i64 0, .int .i64 0, .int .i64 0, .int .i64 0, .int .i64 0, .int .i64 0, .int .i64 0, .slice none 0 0], .agg #[.int .i64 oe, .int .i64 (pk : Int)]]) (by simp [results, Tryz.f87, go_sem, k0, k1, k2, k3, k4, k5, k6, k7, k8, k9, k10, m0, m1]) rfl ?_
              rw [HX2.out]
              exact ⟨rfl, hb9⟩
            · have hd1 : decide (na < n) = false := decide_eq_false hlt2
              have hd2 : decide ((na : Int) < (n : Int)) = false := decide_eq_false (by omega)
              rw [HPE.out na hlt2] at hx2
              have HX2 := Lib.hid hx2
              have hwn := HWN.out
              clear hx2 hna a1 a2
              go_wp2_with fail
              clear hwn
              refine (HEND.out _ hB5').mono ?_
              rintro e w6 ⟨rfl, hB6⟩
              have HE6 := Lib.hid (HE5.out.below hB6 HE5.out.lt)
              have HF6 := Lib.hid (HF5.out.below hB6 HF5.out.lt)
              have hB6' := nxt hB5' hB6 hB5'.size
              generalize (endP ws : Int) = ep at *
              go_wp2_with fail
              refine (rfault_any _ _ _).mono ?_
              rintro e wF ⟨rfl, hBF⟩
              unfold FaultV evZ
              have HEF := HE6.out.below hBF HE6.out.lt
              have HFF := HF6.out.below hBF HF6.out.lt
              obtain ⟨p0, p1, p2, p3, p4, p5, p6, p7, p8, p9, p10, q0⟩ := ev_cells HEF
              have s0 := HFF.c (j := 0) rfl
              have s1 := HFF.c (j := 1) rfl
              have q1 := HFF.frozen
              have hlE := HEF.lt
              have hlF := HFF.lt
              have hBx := nxt hB6' hBF hB6'.size
              go_wp2
              obtain ⟨W9, hW9, g9, h9, b9, r9⟩ := res_stored (.int .i64 0) (.string ⟨#[]⟩) (.string ⟨#[]⟩) (.int .i64 0) (.int .i64 0) (.int .i64 0) (.int .i64 0) (.int .i64 0) (.int .i64 0) (.int .i64 0) (.slice none 0 0) (.int .i64 oe) (.int .i64 ep) HEF rfl HFF rfl (by omega)
              rw [← hW9]
              have hb9 := hBx.trans (b9 w.heap.size (by omega) (by omega))
              obtain ⟨k0, k1, k2, k3, k4, k5, k6, k7, k8, k9, k10, _⟩ := ev_cells g9
              have m0 := h9.c (j := 0) rfl
              have m1 := h9.c (j := 1) rfl
              refine bodyPost_ret (v := .tuple #[.agg #[.int .i64 0, .string ⟨#[]⟩, .string ⟨#[]⟩, .int .i64 0, .int .i64 0, .int .i64 0, .int .i64 0, .int .i64 0, .int .i64 0, .int .i64 0, .slice none 0 0], .agg #[.int .i64 oe, .int .i64 ep]]) (by simp [results, Tryz.f87, go_sem, k0, k1, k2, k3, k4, k5, k6, k7, k8, k9, k10, m0, m1]) rfl ?_
              rw [HX2.out]
              exact ⟨rfl, hb9⟩
    · rw [hne] at HNM hx
      have hx1 : opR ws = .error (7, (p : Int)) := by rw [hx, if_neg (by decide)]
      have HX := Lib.hid hx1
      clear hx hx1 hA hc hf hl
      go_enter Tryz.func87, Tryz.ntmps87
      go_upto_region 1 with fail
      generalize ((w.alloc (.cells #[.int .i64 at0, .slice (some ⟨b, off, none⟩) ws.length cw] 80)).alloc (.cells #[.int .i64 0, .string ⟨#[]⟩, .string ⟨#[]⟩, .int .i64 0, .int .i64 0, .int .i64 0, .int .i64 0, .int .i64 0, .int .i64 0, .int .i64 0, .slice none 0 0] 38)).alloc (.cells #[.int .i64 0, .int .i64 0] 44) = W0 at *
      have w2' := (hB0.cell (p := ⟨b, off + 4, none⟩) hb).trans w2
      have w3' := (hB0.cell (p := ⟨b, off + 5, none⟩) hb).trans w3
      have l0 := HL0.out.c (j := 0) rfl
      have l1 := HL0.out.c (j := 1) rfl
      have hlL := HL0.out.lt
      go_wp2_with fail
      refine (HNM.out _).mono ?_
      rintro e u1 ⟨rfl, rfl⟩
      go_wp2_with fail
      refine (rfault_any _ _ _).mono ?_
      rintro e wF ⟨rfl, hBF⟩
      unfold FaultV evZ
      have HEF := HE0.out.below hBF HE0.out.lt
      have HFF := HF0.out.below hBF HF0.out.lt
      obtain ⟨p0, p1, p2, p3, p4, p5, p6, p7, p8, p9, p10, q0⟩ := ev_cells HEF
      have s0 := HFF.c (j := 0) rfl
      have s1 := HFF.c (j := 1) rfl
      have q1 := HFF.frozen
      have hlE := HEF.lt
      have hlF := HFF.lt
      have hBx := nxt hB0 hBF hB0.size
      go_wp2
      obtain ⟨W9, hW9, g9, h9, b9, r9⟩ := res_stored (.int .i64 0) (.string ⟨#[]⟩) (.string ⟨#[]⟩) (.int .i64 0) (.int .i64 0) (.int .i64 0) (.int .i64 0) (.int .i64 0) (.int .i64 0) (.int .i64 0) (.slice none 0 0) (.int .i64 7) (.int .i64 (p : Int)) HEF rfl HFF rfl (by omega)
      rw [← hW9]
      have hb9 := hBx.trans (b9 w.heap.size (by omega) (by omega))
      obtain ⟨k0, k1, k2, k3, k4, k5, k6, k7, k8, k9, k10, _⟩ := ev_cells g9
      have m0 := h9.c (j := 0) rfl
      have m1 := h9.c (j := 1) rfl
      refine bodyPost_ret (v := .tuple #[.agg #[.int .i64 0, .string ⟨#[]⟩, .string ⟨#[]⟩, .int .i64 0, .int .i64 0, .int .i64 0, .int .i64 0, .int .i64 0, .int .i64 0, .int .i64 0, .slice none 0 0], .agg #[.int .i64 7, .int .i64 (p : Int)]]) (by simp [results, Tryz.f87, go_sem, k0, k1, k2, k3, k4, k5, k6, k7, k8, k9, k10, m0, m1]) rfl ?_
      rw [HX.out]
      exact ⟨rfl, hb9⟩
end Go.Proofs.YtakbphjdfgidmaaGreatDoor
