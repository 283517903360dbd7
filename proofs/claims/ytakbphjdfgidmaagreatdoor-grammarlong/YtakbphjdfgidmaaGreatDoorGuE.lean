/- The document's functions of the layer grammar: object. Written by wip/tools/gen_gu.py. -/
import Derived.Test.YtakbphjdfgidmaaGreatDoorGuD
import Derived.Test.YtakbphjdfgidmaaGreatDoorGsr
namespace Go.Proofs.YtakbphjdfgidmaaGreatDoor
open Go.RowKit Go.Maps
set_option linter.unusedVariables false
set_option maxRecDepth 100000

/-- What a line is, told as an event and a fault. -/
def RefPost (x : Rx Ev) (w : World) (e : Ending) (w' : World) : Prop :=
  match x with
  | .error f => e = .returned (FaultV f.1 f.2) ∧ Below w.heap.size w w'
  | .ok ev => ∃ A c, e = .returned (.tuple #[evV ev A c, .agg #[.int .i64 0, .int .i64 0]]) ∧ OwnInts w.heap.size w' (.slice A ev.st.2.2.length c) ev.st.2.2 ∧ Below w.heap.size w w'
def objR (ws : List Wd) : Rx Ev := match firstX ws 2 with
  | .error f => .error f
  | .ok t => .ok ⟨1, wdS ws 1, emB, op0, t⟩
/-- The text from the third word on, of so many words. -/
def jt (ws : List Wd) (j : Nat) : List Int := joined (((ws.drop 2).take (j + 1)).map Prod.snd)
theorem jt_zero {ws : List Wd} (h : 2 < ws.length) : jt ws 0 = (ws[2]?.getD (0, [])).2 := by
  unfold jt
  rw [List.drop_eq_getElem_cons h, List.getElem?_eq_getElem h]
  rfl
theorem jt_succ {ws : List Wd} {j : Nat} (h : j + 3 < ws.length) : jt ws (j + 1) = jt ws j ++ 32 :: (ws[j + 3]?.getD (0, [])).2 := by
  unfold jt
  have h1 : j + 1 < (ws.drop 2).length := by rw [List.length_drop]; omega
  rw [List.take_succ_eq_append_getElem h1, List.map_append, List.map_cons, List.map_nil, joined_snoc _ _ (by
    intro e
    have := congrArg List.length e
    rw [List.length_map, List.length_take, List.length_nil] at this
    omega), List.getElem_drop, List.getElem?_eq_getElem h]
  have e : 2 + (j + 1) = j + 3 := by omega
  simp only [e, Option.getD_some]
theorem jt_end {ws : List Wd} {j : Nat} (h : ws.length ≤ j + 3) : jt ws j = restT ws 2 := by
  unfold jt restT
  rw [List.take_of_length_le (by rw [List.length_drop]; omega)]

set_option maxHeartbeats 8000000 in
theorem robject_any (at0 : Int) (AW : Option Addr) (cw : Nat) (ws : List Wd) (bs : List Int) (w : World) (hA : ReadWords w.heap.size w AW ws) (hf : Fine ws) (hl : Lined bs ws) (h2 : 2 ≤ ws.length) :
    Calls Tryz.prog 86 #[.agg #[.int .i64 at0, .slice AW ws.length cw]] w (RefPost (objR ws) w) := by
  obtain ⟨b, off, rfl, hb, hc⟩ := hA hf.pos
  have hfew := hf.few
  have w1 := (hc 1 (by omega)).1
  have HEND := Lib.hid (fun W (hB : Below w.heap.size w W) => rend_any at0 (some ⟨b, off, none⟩) cw ws W ((hA.below hB).mono hB.size) hf)
  have HFI := Lib.hid hf
  have HC := Lib.hid hc
  have hn1 : wdS ws 1 = strOfNums (ws[1]?.getD (0, [])).2 := rfl
  have hx : objR ws = match firstX ws 2 with | .error f => .error f | .ok t => .ok ⟨1, wdS ws 1, emB, op0, t⟩ := rfl
  rw [hn1] at hx
  generalize hs1 : strOfNums (ws[1]?.getD (0, [])).2 = nm at *
  clear hn1 hs1
  have hB0 := ((alloc1 w (.cells #[.int .i64 at0, .slice (some ⟨b, off, none⟩) ws.length cw] 80)).alloc (by simp) (.cells #[.int .i64 0, .string ⟨#[]⟩, .string ⟨#[]⟩, .int .i64 0, .int .i64 0, .int .i64 0, .int .i64 0, .int .i64 0, .int .i64 0, .int .i64 0, .slice none 0 0] 38)).alloc (by simp; omega) (.cells #[.int .i64 0, .int .i64 0] 44)
  have HL0 := Lib.hid (((Holds.new w 80 #[.int .i64 at0, .slice (some ⟨b, off, none⟩) ws.length cw]).alloc (.cells #[.int .i64 0, .string ⟨#[]⟩, .string ⟨#[]⟩, .int .i64 0, .int .i64 0, .int .i64 0, .int .i64 0, .int .i64 0, .int .i64 0, .int .i64 0, .slice none 0 0] 38)).alloc (.cells #[.int .i64 0, .int .i64 0] 44))
  have HE0 := Lib.hid (show Holds (((w.alloc (.cells #[.int .i64 at0, .slice (some ⟨b, off, none⟩) ws.length cw] 80)).alloc (.cells #[.int .i64 0, .string ⟨#[]⟩, .string ⟨#[]⟩, .int .i64 0, .int .i64 0, .int .i64 0, .int .i64 0, .int .i64 0, .int .i64 0, .int .i64 0, .slice none 0 0] 38)).alloc (.cells #[.int .i64 0, .int .i64 0] 44)) (w.heap.size + 1) 38 #[.int .i64 0, .string ⟨#[]⟩, .string ⟨#[]⟩, .int .i64 0, .int .i64 0, .int .i64 0, .int .i64 0, .int .i64 0, .int .i64 0, .int .i64 0, .slice none 0 0] from by have := (Holds.new (w.alloc (.cells #[.int .i64 at0, .slice (some ⟨b, off, none⟩) ws.length cw] 80)) 38 #[.int .i64 0, .string ⟨#[]⟩, .string ⟨#[]⟩, .int .i64 0, .int .i64 0, .int .i64 0, .int .i64 0, .int .i64 0, .int .i64 0, .int .i64 0, .slice none 0 0]).alloc (.cells #[.int .i64 0, .int .i64 0] 44); rwa [World.size_alloc] at this)
  have HF0 := Lib.hid (show Holds (((w.alloc (.cells #[.int .i64 at0, .slice (some ⟨b, off, none⟩) ws.length cw] 80)).alloc (.cells #[.int .i64 0, .string ⟨#[]⟩, .string ⟨#[]⟩, .int .i64 0, .int .i64 0, .int .i64 0, .int .i64 0, .int .i64 0, .int .i64 0, .int .i64 0, .slice none 0 0] 38)).alloc (.cells #[.int .i64 0, .int .i64 0] 44)) (w.heap.size + 2) 44 #[.int .i64 0, .int .i64 0] from by have := Holds.new ((w.alloc (.cells #[.int .i64 at0, .slice (some ⟨b, off, none⟩) ws.length cw] 80)).alloc (.cells #[.int .i64 0, .string ⟨#[]⟩, .string ⟨#[]⟩, .int .i64 0, .int .i64 0, .int .i64 0, .int .i64 0, .int .i64 0, .int .i64 0, .int .i64 0, .slice none 0 0] 38)) 44 #[.int .i64 0, .int .i64 0]; rwa [World.size_alloc, World.size_alloc] at this)
  by_cases h3 : ws.length < 3
  · have d3 : decide ((ws.length : Int) < 3) = true := decide_eq_true (by omega)
    have hx1 : objR ws = .error (5, (endP ws : Int)) := by
      have e1 : firstX ws 2 = .error (5, (placeP ws 2 : Int)) := by unfold firstX wordX; rw [if_pos (by omega)]; rfl
      rw [hx, e1]
      have e2 : placeP ws 2 = endP ws := by unfold placeP; rw [if_neg (by omega)]
      rw [e2]
    have HX := Lib.hid hx1
    clear hx hx1 hA hc hf hl
    go_enter Tryz.func86, Tryz.ntmps86
    go_upto_region 1 with fail
    generalize ((w.alloc (.cells #[.int .i64 at0, .slice (some ⟨b, off, none⟩) ws.length cw] 80)).alloc (.cells #[.int .i64 0, .string ⟨#[]⟩, .string ⟨#[]⟩, .int .i64 0, .int .i64 0, .int .i64 0, .int .i64 0, .int .i64 0, .int .i64 0, .int .i64 0, .slice none 0 0] 38)).alloc (.cells #[.int .i64 0, .int .i64 0] 44) = W0 at *
    have l0 := HL0.out.c (j := 0) rfl
    have l1 := HL0.out.c (j := 1) rfl
    have hlL := HL0.out.lt
    go_wp2_with fail
    refine (HEND.out _ hB0).mono ?_
    rintro e w1 ⟨rfl, hB1⟩
    have HE1 := Lib.hid (HE0.out.below hB1 HE0.out.lt)
    have HF1 := Lib.hid (HF0.out.below hB1 HF0.out.lt)
    have hB2 := nxt hB0 hB1 hB0.size
    generalize (endP ws : Int) = ep at *
    go_wp2_with fail
    refine (rfault_any _ _ _).mono ?_
    rintro e wF ⟨rfl, hBF⟩
    unfold FaultV evZ
    have HEF := HE1.out.below hBF HE1.out.lt
    have HFF := HF1.out.below hBF HF1.out.lt
    obtain ⟨p0, p1, p2, p3, p4, p5, p6, p7, p8, p9, p10, q0⟩ := ev_cells HEF
    have s0 := HFF.c (j := 0) rfl
    have s1 := HFF.c (j := 1) rfl
    have q1 := HFF.frozen
    have hlE := HEF.lt
    have hlF := HFF.lt
    have hBx := nxt hB2 hBF hB2.size
    go_wp2
    obtain ⟨W9, hW9, g9, h9, b9, r9⟩ := res_stored (.int .i64 0) (.string ⟨#[]⟩) (.string ⟨#[]⟩) (.int .i64 0) (.int .i64 0) (.int .i64 0) (.int .i64 0) (.int .i64 0) (.int .i64 0) (.int .i64 0) (.slice none 0 0) (.int .i64 5) (.int .i64 ep) HEF rfl HFF rfl (by omega)
    rw [← hW9]
    have hb9 := hBx.trans (b9 w.heap.size (by omega) (by omega))
    obtain ⟨k0, k1, k2, k3, k4, k5, k6, k7, k8, k9, k10, _⟩ := ev_cells g9
    have m0 := h9.c (j := 0) rfl
    have m1 := h9.c (j := 1) rfl
    refine bodyPost_ret (v := .tuple #[.agg #[.int .i64 0, .string ⟨#[]⟩, .string ⟨#[]⟩, .int .i64 0, .int .i64 0, .int .i64 0, .int .i64 0, .int .i64 0, .int .i64 0, .int .i64 0, .slice none 0 0], .agg #[.int .i64 5, .int .i64 ep]]) (by simp [results, Tryz.f86, go_sem, k0, k1, k2, k3, k4, k5, k6, k7, k8, k9, k10, m0, m1]) rfl ?_
    rw [HX.out]
    exact ⟨rfl, hb9⟩
  · have d3 : decide ((ws.length : Int) < 3) = false := decide_eq_false (by omega)
    have h3' : 2 < ws.length := by omega
    have w2 := (hc 2 h3').1
    have w3 := (hc 2 h3').2
    have hz := jt_zero h3'
    have hsz2 := hf.size _ (wd_mem h3')
    have hat2 := hf.at' _ (wd_mem h3')
    have hrest := (hl.rest 2 h3').2.2
    have hp2 : wdP ws 2 = (ws[2]?.getD (0, [])).1 := rfl
    have e9 : readL (strOfNums (restT ws 2)).data.toList = rdS ws 2 := rfl
    have hat : (rdS ws 2).2.1 ≠ 0 → 0 ≤ (rdS ws 2).2.2 ∧ (rdS ws 2).2.2 ≤ 8000 := by
      intro hne
      have h1 := read_at (s := (strOfNums (restT ws 2)).data.toList) hne
      have h2 : (strOfNums (restT ws 2)).data.toList.length = (restT ws 2).length := by rw [← strOfNums_size (restT ws 2)]; rfl
      rw [h2] at h1
      exact ⟨h1.1, Int.le_trans h1.2 (by omega)⟩
    have hx1 : objR ws = if (rdS ws 2).2.1 ≠ 0 then .error ((rdS ws 2).2.1, (wdP ws 2 : Int) + (rdS ws 2).2.2) else if 1000 < (rdS ws 2).1.2.2.length then .error (4, (wdP ws 2 : Int)) else .ok ⟨1, nm, emB, op0, (rdS ws 2).1⟩ := by
      rw [hx]
      unfold firstX wordX stopX
      rw [if_neg (by omega), place_at h3']
      dsimp only
      by_cases c1 : (rdS ws 2).2.1 ≠ 0
      · rw [if_pos c1, if_pos c1]
      · rw [if_neg c1, if_neg c1]
        by_cases c2 : 1000 < (rdS ws 2).1.2.2.length
        · rw [if_pos c2, if_pos c2]
        · rw [if_neg c2, if_neg c2]
    have HRD := fun W => st_rread_any (strOfNums (restT ws 2)) W (by rw [strOfNums_size]; omega)
    rw [e9] at HRD
    obtain ⟨⟨⟨st, sn, sl⟩, se, sp⟩, hrd2⟩ : ∃ x, rdS ws 2 = x := ⟨_, rfl⟩
    rw [hrd2] at HRD hx1 hat
    unfold ReadPost stV at HRD
    dsimp only at HRD hx1 hat
    rw [hp2] at hx1
    generalize hpp : (ws[2]?.getD (0, [])).1 = p at *
    rw [← strOfNums_size] at hsz2
    have hat3 : p ≤ 100000000 := by omega
    generalize hs2 : strOfNums (ws[2]?.getD (0, [])).2 = t2 at *
    have HJ0 := Lib.hid (show t2 = strOfNums (jt ws 0) by rw [hz, hs2])
    have HX := Lib.hid hx1
    have HAT := Lib.hid hat
    have HRDS := Lib.hid HRD
    clear hx hx1 hA hc hf hl hz hp2 e9 hat hrd2 hpp hs2 HRD hat2
    generalize hn : ws.length = n at *
    have HN := Lib.hid hn
    clear hn
    go_enter Tryz.func86, Tryz.ntmps86
    go_upto_region 1 with fail
    generalize ((w.alloc (.cells #[.int .i64 at0, .slice (some ⟨b, off, none⟩) n cw] 80)).alloc (.cells #[.int .i64 0, .string ⟨#[]⟩, .string ⟨#[]⟩, .int .i64 0, .int .i64 0, .int .i64 0, .int .i64 0, .int .i64 0, .int .i64 0, .int .i64 0, .slice none 0 0] 38)).alloc (.cells #[.int .i64 0, .int .i64 0] 44) = W0 at *
    have w1' := (hB0.cell (p := ⟨b, off + 2, none⟩) hb).trans w1
    have w2' := (hB0.cell (p := ⟨b, off + 4, none⟩) hb).trans w2
    have w3' := (hB0.cell (p := ⟨b, off + 5, none⟩) hb).trans w3
    have l0 := HL0.out.c (j := 0) rfl
    have l1 := HL0.out.c (j := 1) rfl
    have hlL := HL0.out.lt
    have i2 : (2 : Int) < (n : Int) := by omega
    go_wp2
    clear w2' w3' w2 w3 l0 l1
    go_loopw [5, 6] (fun s5 i6 wr => ∃ (k : Nat) (out : ByteArray), 3 ≤ k ∧ k ≤ n ∧ i6 = .int .i64 (k : Int) ∧ s5 = .string out ∧ out = strOfNums (jt ws (k - 3)) ∧ out.size ≤ k * 8001 ∧ Below W0.heap.size W0 wr) (fun s5 i6 wr => n - (intOf i6).toNat)
    case atStart => exact ⟨3, t2, by omega, by omega, rfl, rfl, HJ0.out, by omega, Below.refl _ _⟩
    case round =>
      obtain ⟨k, out, hk3, hk, rfl, rfl, hout, hsz, hBr⟩ := hrel
      have HOUT := Lib.hid hout
      have hB1 := nxt hB0 hBr hB0.size
      have HLr := Lib.hid (HL0.out.below hBr HL0.out.lt)
      have l0 := HLr.out.c (j := 0) rfl
      have l1 := HLr.out.c (j := 1) rfl
      have hlr := HLr.out.lt
      clear hout
      by_cases hlt : k < n
      · have hkd : decide (k < n) = true := decide_eq_true hlt
        have ck := (hB1.cell (p := ⟨b, off + k * 2, none⟩) hb).trans (HC.out k hlt).1
        have hjs := jt_succ (ws := ws) (j := k - 3) (by rw [HN.out]; omega)
        rw [show k - 3 + 3 = k by omega, show k - 3 + 1 = k + 1 - 3 by omega] at hjs
        have hsk := HFI.out.size _ (wd_mem (ws := ws) (i := k) (by rw [HN.out]; exact hlt))
        rw [← strOfNums_size] at hsk
        have hsn : strOfNums (jt ws (k + 1 - 3)) = out ++ ⟨#[32]⟩ ++ strOfNums (ws[k]?.getD (0, [])).2 := by
          rw [hjs, strOf_app, ← HOUT.out, show (32 :: (ws[k]?.getD (0, [])).2) = [32] ++ (ws[k]?.getD (0, [])).2 from rfl, strOf_app, ByteArray.append_assoc]
          rfl
        generalize strOfNums (ws[k]?.getD (0, [])).2 = sk at *
        have HSN := Lib.hid hsn
        have k0 : (0 : Int) ≤ (k : Int) := by omega
        have k1 : (k : Int) < (n : Int) := by omega
        have hj8 : k * 8001 ≤ 8000 * 8001 := Nat.mul_le_mul_right _ (by omega)
        have q1 : ¬ 9223372036854775807 < out.size + 1 := by omega
        have q2 : ¬ 9223372036854775807 < out.size + 1 + sk.size := by omega
        have HSZ := Lib.hid hsz
        have HSK := Lib.hid hsk
        clear hjs hsn hj8 hsz hsk
        go_wp2
        go_roundw
        case rel =>
          refine ⟨k + 1, _, by omega, by omega, by go_num, rfl, HSN.out.symm, ?_, hBr⟩
          rw [app_size, app_size]
          show out.size + 1 + sk.size ≤ _
          have := HSZ.out
          have := HSK.out
          omega
        case measure => simp [intOf]; omega
      · have hkd : decide (k < n) = false := decide_eq_false hlt
        have ho : out = strOfNums (restT ws 2) := by rw [HOUT.out, jt_end (by rw [HN.out]; omega)]
        subst ho
        have HR := HRDS.out wr
        generalize strOfNums (restT ws 2) = out at *
        clear HOUT hsz
        go_wp2_with fail
        refine HR.mono ?_
        rintro e w4 ⟨A4, c4, rfl, ho4, hB4⟩
        have hs4 := hB4.size
        have hB4' := nxt hB1 hB4 hB1.size
        have hB5 := (alloc1 w4 (.cells #[.int .i64 st, .int .i64 sn, .slice A4 sl.length c4] 36)).alloc (by simp) (.cells #[.int .i64 se, .int .i64 sp] 44)
        have HS5 := Lib.hid ((Holds.new w4 36 #[.int .i64 st, .int .i64 sn, .slice A4 sl.length c4]).alloc (.cells #[.int .i64 se, .int .i64 sp] 44))
        have HG5 := Lib.hid (show Holds ((w4.alloc (.cells #[.int .i64 st, .int .i64 sn, .slice A4 sl.length c4] 36)).alloc (.cells #[.int .i64 se, .int .i64 sp] 44)) (w4.heap.size + 1) 44 #[.int .i64 se, .int .i64 sp] from by have := Holds.new (w4.alloc (.cells #[.int .i64 st, .int .i64 sn, .slice A4 sl.length c4] 36)) 44 #[.int .i64 se, .int .i64 sp]; rwa [World.size_alloc] at this)
        have hB5' := nxt hB4' hB5 hB4'.size
        have hB05 := nxt (nxt hBr hB4 hBr.size) hB5 (nxt hBr hB4 hBr.size).size
        have HO5 := Lib.hid (row_below ho4 hB5)
        have HL5 := Lib.hid (HL0.out.below hB05 HL0.out.lt)
        have HE5 := Lib.hid (HE0.out.below hB05 HE0.out.lt)
        have HF5 := Lib.hid (HF0.out.below hB05 HF0.out.lt)
        have w15 := (hB5'.cell (p := ⟨b, off + 2, none⟩) hb).trans w1
        have hw4 := hBr.size
        clear ho4 l0 l1 hB4 hB5 w1'
        go_upto_region 10 with fail
        generalize (w4.alloc (.cells #[.int .i64 st, .int .i64 sn, .slice A4 sl.length c4] 36)).alloc (.cells #[.int .i64 se, .int .i64 sp] 44) = W5 at *
        have g0 := HG5.out.c (j := 0) rfl
        have g1 := HG5.out.c (j := 1) rfl
        have u0 := HS5.out.c (j := 0) rfl
        have u1 := HS5.out.c (j := 1) rfl
        have u2 := HS5.out.c (j := 2) rfl
        have hlG := HG5.out.lt
        have hlS := HS5.out.lt
        by_cases hse : se = 0
        · subst hse
          have hx2 : objR ws = if 1000 < sl.length then .error (4, (p : Int)) else .ok ⟨1, nm, emB, op0, st, sn, sl⟩ := HX.out
          have HX2 := Lib.hid hx2
          clear hx2
          by_cases hm : 1000 < sl.length
          · have hd : decide ((1000 : Int) < (sl.length : Int)) = true := decide_eq_true (by omega)
            have hd' : decide (1000 < sl.length) = true := decide_eq_true hm
            have hx3 : objR ws = .error (4, (p : Int)) := HX2.out.trans (if_pos hm)
            have HX3 := Lib.hid hx3
            clear hx3
            go_wp2_with fail
            refine (rfault_any _ _ _).mono ?_
            rintro e wF ⟨rfl, hBF⟩
            unfold FaultV evZ
            have HEF := HE5.out.below hBF HE5.out.lt
            have HFF := HF5.out.below hBF HF5.out.lt
            obtain ⟨p0, p1, p2, p3, p4, p5, p6, p7, p8, p9, p10, q0⟩ := ev_cells HEF
            have s0 := HFF.c (j := 0) rfl
            have s1 := HFF.c (j := 1) rfl
            have q1 := HFF.frozen
            have hlE := HEF.lt
            have hlF := HFF.lt
            have hBx := nxt hB5' hBF hB5'.size
            go_wp2
            obtain ⟨W9, hW9, g9, h9, b9, r9⟩ := res_stored (.int .i64 0) (.string ⟨#[]⟩) (.string ⟨#[]⟩) (.int .i64 0) (.int .i64 0) (.int .i64 0) (.int .i64 0) (.int .i64 0) (.int .i64 0) (.int .i64 0) (.slice none 0 0) (.int .i64 4) (.int .i64 (p : Int)) HEF rfl HFF rfl (by omega)
            rw [← hW9]
            have hb9 := hBx.trans (b9 w.heap.size (by omega) (by omega))
            obtain ⟨k0, k1, k2, k3, k4, k5, k6, k7, k8, k9, k10, _⟩ := ev_cells g9
            have m0 := h9.c (j := 0) rfl
            have m1 := h9.c (j := 1) rfl
            refine bodyPost_ret (v := .tuple #[.agg #[.int .i64 0, .string ⟨#[]⟩, .string ⟨#[]⟩, .int .i64 0, .int .i64 0, .int .i64 0, .int .i64 0, .int .i64 0, .int .i64 0, .int .i64 0, .slice none 0 0], .agg #[.int .i64 4, .int .i64 (p : Int)]]) (by simp [results, Tryz.f86, go_sem, k0, k1, k2, k3, k4, k5, k6, k7, k8, k9, k10, m0, m1]) rfl ?_
            rw [HX3.out]
            exact ⟨rfl, hb9⟩
          · have hd : decide ((1000 : Int) < (sl.length : Int)) = false := decide_eq_false (by omega)
            have hd' : decide (1000 < sl.length) = false := decide_eq_false hm
            have hx3 : objR ws = .ok ⟨1, nm, emB, op0, st, sn, sl⟩ := HX2.out.trans (if_neg hm)
            have HX3 := Lib.hid hx3
            have l50 := HL5.out.c (j := 0) rfl
            have l51 := HL5.out.c (j := 1) rfl
            have i1 : (1 : Int) < (n : Int) := by omega
            have hlL5 := HL5.out.lt
            obtain ⟨p0, p1, p2, p3, p4, p5, p6, p7, p8, p9, p10, q0⟩ := ev_cells HE5.out
            have s0 := HF5.out.c (j := 0) rfl
            have s1 := HF5.out.c (j := 1) rfl
            have q1 := HF5.out.frozen
            have hlE := HE5.out.lt
            have hlF := HF5.out.lt
            clear hx3
            go_upto_region 14 with fail
            go_region
            have hBx := hB5'
            go_wp2
            obtain ⟨W9, hW9, g9, h9, b9, r9⟩ := res_stored (.int .i64 1) (.string nm) (.string ⟨#[]⟩) (.int .i64 0) (.int .i64 0) (.int .i64 0) (.int .i64 0) (.int .i64 0) (.int .i64 st) (.int .i64 sn) (.slice A4 sl.length c4) (.int .i64 0) (.int .i64 0) HE5.out rfl HF5.out rfl (by omega)
            rw [← hW9]
            have hb9 := (hBx.trans (b9 w.heap.size (by omega) (by omega))).drew
            have hD9 := (Below.refl W9.heap.size W9).drew
            obtain ⟨k0, k1, k2, k3, k4, k5, k6, k7, k8, k9, k10, _⟩ := ev_cells (g9.below hD9 g9.lt)
            have m0 := (h9.below hD9 h9.lt).c (j := 0) rfl
            have m1 := (h9.below hD9 h9.lt).c (j := 1) rfl
            refine bodyPost_ret (v := .tuple #[.agg #[.int .i64 1, .string nm, .string ⟨#[]⟩, .int .i64 0, .int .i64 0, .int .i64 0, .int .i64 0, .int .i64 0, .int .i64 st, .int .i64 sn, .slice A4 sl.length c4], .agg #[.int .i64 0, .int .i64 0]]) (by simp [results, Tryz.f86, go_sem, k0, k1, k2, k3, k4, k5, k6, k7, k8, k9, k10, m0, m1]) rfl ?_
            rw [HX3.out]
            exact ⟨A4, c4, rfl, row_mono (row_below (r9 _ _ _ HO5.out) hD9) hB1.size, hb9⟩
        · have hbn : (se != 0) = true := by rw [bne_iff_ne]; exact hse
          obtain ⟨a1, a2⟩ := HAT.out hse
          have hw64 : wrap64 ((p : Int) + sp) = (p : Int) + sp := by unfold wrap64; omega
          have hx2 : objR ws = .error (se, (p : Int) + sp) := HX.out.trans (if_pos hse)
          have HX2 := Lib.hid hx2
          clear hx2
          go_wp2_with fail
          refine (rfault_any _ _ _).mono ?_
          rintro e wF ⟨rfl, hBF⟩
          unfold FaultV evZ
          have HEF := HE5.out.below hBF HE5.out.lt
          have HFF := HF5.out.below hBF HF5.out.lt
          obtain ⟨p0, p1, p2, p3, p4, p5, p6, p7, p8, p9, p10, q0⟩ := ev_cells HEF
          have s0 := HFF.c (j := 0) rfl
          have s1 := HFF.c (j := 1) rfl
          have q1 := HFF.frozen
          have hlE := HEF.lt
          have hlF := HFF.lt
          have hBx := nxt hB5' hBF hB5'.size
          go_wp2
          obtain ⟨W9, hW9, g9, h9, b9, r9⟩ := res_stored (.int .i64 0) (.string ⟨#[]⟩) (.string ⟨#[]⟩) (.int .i64 0) (.int .i64 0) (.int .i64 0) (.int .i64 0) (.int .i64 0) (.int .i64 0) (.int .i64 0) (.slice none 0 0) (.int .i64 se) (.int .i64 ((p : Int) + sp)) HEF rfl HFF rfl (by omega)
          rw [← hW9]
          have hb9 := hBx.trans (b9 w.heap.size (by omega) (by omega))
          obtain ⟨k0, k1, k2, k3, k4, k5, k6, k7, k8, k9, k10, _⟩ := ev_cells g9
          have m0 := h9.c (j := 0) rfl
          have m1 := h9.c (j := 1) rfl
          refine bodyPost_ret (v := .tuple #[.agg #[.int .i64 0, .string ⟨#[]⟩, .string ⟨#[]⟩, .int .i64 0, .int .i64 0, .int .i64 0, .int .i64 0, .int .i64 0, .int .i64 0, .int .i64 0, .slice none 0 0], .agg #[.int .i64 se, .int .i64 ((p : Int) + sp)]]) (by simp [results, Tryz.f86, go_sem, k0, k1, k2, k3, k4, k5, k6, k7, k8, k9, k10, m0, m1]) rfl ?_
          rw [HX2.out]
          exact ⟨rfl, hb9⟩
end Go.Proofs.YtakbphjdfgidmaaGreatDoor
