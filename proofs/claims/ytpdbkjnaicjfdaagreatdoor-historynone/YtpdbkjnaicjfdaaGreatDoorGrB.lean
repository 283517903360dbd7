/- Contracts of the layer grammar: the reader; first, named. -/
import Derived.Test.YtpdbkjnaicjfdaaGreatDoorGrA
import Derived.Test.YtpdbkjnaicjfdaaGreatDoorGq
namespace Go.Proofs.YtpdbkjnaicjfdaaGreatDoor
open Go.RowKit Go.Maps
set_option linter.unusedVariables false
set_option maxRecDepth 100000

/-- A line's words lie in a text. -/
structure Lined (bs : List Int) (ws : List Wd) : Prop where
  rest : ∀ n, n < ws.length → wdP ws n < endP ws ∧ (bs.drop (wdP ws n)).take (endP ws - wdP ws n) = restT ws n ∧ (restT ws n).length ≤ 8000
  fin : endP ws ≤ bs.length
  cap : bs.length ≤ 100000000

theorem place_end (ws : List Wd) : placeP ws ws.length = endP ws := by unfold placeP; rw [if_neg (by omega)]
theorem place_at {ws : List Wd} {n : Nat} (h : n < ws.length) : placeP ws n = wdP ws n := by unfold placeP; rw [if_pos h]

def FirstPost (x : Rx StT) (w : World) : Ending → World → Prop := RxPost x (fun st e w' => ∃ A c, e = .returned (stV st.1 st.2.1 A st.2.2.length c) ∧ OwnInts w.heap.size w' (.slice A st.2.2.length c) st.2.2 ∧ Below w.heap.size w w') w

set_option maxHeartbeats 2000000 in
theorem many_any (t n : Int) (A : Option Addr) (c : Nat) (k : Nat) (w : World) : Calls Tryz.prog 124 #[.agg #[.int .i64 t, .int .i64 n, .slice A k c]] w fun e w' => e = .returned (.bool (decide ((1000 : Int) < (k : Int)))) ∧ w' = w.alloc (.cells #[.int .i64 t, .int .i64 n, .slice A k c] 53) := by
  go_enter Tryz.func124, Tryz.ntmps124
  go_wp2
  go_ret
  exact ⟨rfl, rfl⟩

set_option maxHeartbeats 4000000 in
theorem first_any (R : Nat) (AT : Option Addr) (cT : Nat) (bs : List Int) (ws : List Wd) (n : Nat) (w : World) (h : Rdr w R AT cT bs ws) (hl : Lined bs ws) (hcT : bs.length ≤ cT) (hw : Wds w) :
    Calls Tryz.prog 103 #[.pointer (some ⟨R, 0, none⟩), .int .i64 n] w (FirstPost (firstX ws n) w) := by
  unfold FirstPost
  have hB0 := alloc1 w (.cells #[.int .i64 0, .int .i64 0, .slice none 0 0] 53)
  have HZ := Lib.hid (Holds.new w 53 #[.int .i64 0, .int .i64 0, .slice none 0 0])
  have hs0 : (w.alloc (.cells #[.int .i64 0, .int .i64 0, .slice none 0 0] 53)).heap.size = w.heap.size + 1 := by simp
  have HW := Lib.hid (fun W (hB : Below w.heap.size w W) => word_any R AT cT bs ws n W (h.below hB))
  have HWD := Lib.hid hw
  have HR := Lib.hid h
  have hx : firstX ws n = match wordX ws n with | .error f => .error f | .ok _ => if (rdS ws n).2.1 ≠ 0 then .error ((rdS ws n).2.1, (placeP ws n : Int) + (rdS ws n).2.2) else if 1000 < (rdS ws n).1.2.2.length then stopX ws 4 n else .ok (rdS ws n).1 := rfl
  cases hwx : wordX ws n with
  | error f =>
    rw [hwx] at HW hx
    rw [hx]
    clear hw h
    go_enter Tryz.func103, Tryz.ntmps103
    go_wp2_with fail
    refine (HW.out _ hB0).mono ?_
    rintro e w1 ⟨rfl, hB⟩
    go_wp2
    exact ⟨rfl, rfl, nxt hB0 hB hB0.size⟩
  | ok s =>
    rw [hwx] at HW hx
    have hn : n < ws.length := by
      unfold wordX at hwx
      split at hwx
      · cases hwx
      · omega
    obtain ⟨r1, r2, r3⟩ := hl.rest n hn
    have hfin := hl.fin
    have hcap := hl.cap
    obtain ⟨AW, cW, hbox, hrd⟩ := h.box
    have c0 : w.cell? ⟨R, 0, none⟩ = some (.slice AT bs.length cT) := hbox.c (j := 0) rfl
    have c1 : w.cell? ⟨R, 1, none⟩ = some (.slice AW ws.length cW) := hbox.c (j := 1) rfl
    have hR := h.lt
    have hfew := h.fine.few
    have HP := Lib.hid (fun W (hB : Below w.heap.size w W) => place_any R AT cT bs ws n W (h.below hB))
    have HQ := Lib.hid (fun W (hB : Below w.heap.size w W) => place_any R AT cT bs ws ws.length W (h.below hB))
    have HST := Lib.hid (fun W (hB : Below w.heap.size w W) => stop_any R AT cT bs ws 4 n W (h.below hB))
    rw [place_end] at HQ
    rw [place_at hn] at HP HST hx
    obtain ⟨b, off, rfl, hb, hc⟩ := h.text (by omega)
    generalize hf : wdP ws n = f at *
    generalize hto : endP ws = to' at *
    generalize hL : ws.length = L at *
    have hrl : (restT ws n).length = to' - f := by rw [← r2, List.length_take, List.length_drop]; omega
    have HX := Lib.hid hx
    clear hx
    go_enter Tryz.func103, Tryz.ntmps103
    go_wp2_with fail
    refine (HW.out _ hB0).mono ?_
    rintro e w1 ⟨rfl, hB⟩
    go_wp2_with fail
    have hB1 := nxt hB0 hB hB0.size
    refine wp_region_noPanic ?_
    refine wp_region_picked [(0, true), (1, true), (3, true), (4, true), (5, true), (6, true), (7, true), (8, true), (2, false), (9, false), (10, true), (11, true)] (fun W' => Below w.heap.size w W') (by kernel_rfl) (by kernel_rfl) (fun _ _ _ _ _ h => h) hB1.drew ?_
    iterate 8
      refine Picked.take ?_ (by rfl) (by rfl) ?_ ?_
      rotate_left
      · intro w' hw'
        have f1 := (hw'.cell (p := ⟨R, 1, none⟩) hR).trans c1
        go_simp
        try with_reducible rfl
      simp only [Act.put, List.getElem_toArray, List.getElem_cons_zero, List.getElem_cons_succ, List.setIfInBounds_toArray, List.set_cons_zero, List.set_cons_succ]
    refine Picked.call 106 #[.pointer (some ⟨R, 0, none⟩), .int .i64 n] (by rfl) (by rfl) (by go_simp) ?_
    refine (HP.out _ hB1.drew).mono ?_
    rintro e w2 ⟨rfl, hB2⟩
    have hB2' := nxt hB1.drew hB2 hB1.drew.size
    refine ⟨_, rfl, hB2', ?_⟩
    simp only [Act.put, List.getElem_toArray, List.getElem_cons_zero, List.getElem_cons_succ, List.setIfInBounds_toArray, List.set_cons_zero, List.set_cons_succ]
    refine Picked.call 106 #[.pointer (some ⟨R, 0, none⟩), .int .i64 L] (by rfl) (by rfl) (by go_simp) ?_
    refine (HQ.out _ hB2').mono ?_
    rintro e w3 ⟨rfl, hB3⟩
    have hB3' := nxt hB2' hB3 hB2'.size
    refine ⟨_, rfl, hB3', ?_⟩
    simp only [Act.put, List.getElem_toArray, List.getElem_cons_zero, List.getElem_cons_succ, List.setIfInBounds_toArray, List.set_cons_zero, List.set_cons_succ]
    iterate 2
      refine Picked.take ?_ (by rfl) (by rfl) ?_ ?_
      rotate_left
      · intro w' hw'
        go_simp
        try with_reducible rfl
      simp only [Act.put, List.getElem_toArray, List.getElem_cons_zero, List.getElem_cons_succ, List.setIfInBounds_toArray, List.set_cons_zero, List.set_cons_succ]
    refine NoPanic.normal ?_
    have d0 := (hB3'.cell (p := ⟨R, 0, none⟩) hR).trans c0
    have hbb : BytesB w.heap.size w (some ⟨b, off + f, none⟩) (restT ws n) := by
      intro hp
      refine ⟨b, off + f, rfl, hb, fun j hj => ?_⟩
      rw [hrl] at hj
      have e1 := hc (f + j) (by omega)
      rw [show off + f + j = off + (f + j) by omega, e1, ← r2, List.getElem?_take, if_pos hj, List.getElem?_drop]
    have hcv := conv_some w3.heap.size w3 (some ⟨b, off + f, none⟩) (cT - f) (restT ws n) ((hbb.below hB3').mono hB3'.size) (by intro e; rw [e] at hrl; simp at hrl; omega)
    rw [hrl] at hcv
    have HRD := Lib.hid (fun W hW => st_read_any (strOfNums (restT ws n)) W hW (by rw [strOfNums_size]; omega))
    have hat : (rdS ws n).2.1 ≠ 0 → 0 ≤ (rdS ws n).2.2 ∧ (rdS ws n).2.2 ≤ 8000 := by
      intro hne
      have h1 := read_at (s := (strOfNums (restT ws n)).data.toList) hne
      have h2 : (strOfNums (restT ws n)).data.toList.length = (restT ws n).length := by rw [← strOfNums_size (restT ws n)]; rfl
      rw [h2] at h1
      exact ⟨h1.1, Int.le_trans h1.2 (by omega)⟩
    have e9 : readL (strOfNums (restT ws n)).data.toList = rdS ws n := rfl
    rw [e9] at HRD
    generalize strOfNums (restT ws n) = sx at *
    obtain ⟨⟨⟨st, sn, sl⟩, se, sp⟩, hrd2⟩ : ∃ x, rdS ws n = x := ⟨_, rfl⟩
    rw [hrd2] at HRD HX hat
    dsimp only at HRD HX hat
    have hC3 := nxt (nxt hB.drew hB2 hB.drew.size) hB3 (nxt hB.drew hB2 hB.drew.size).size
    have HZ3 := Lib.hid (HZ.out.below hC3 (by rw [hs0]; omega))
    have HAT := Lib.hid hat
    have HRW := Lib.hid h.lt
    clear hat hrd2 e9 hbb hrl r2 r3 hc hrd hbox hB h hw c1 hl hC3 hs0
    go_wp2_with fail
    refine (HRD.out w3 (HWD.out.on hB3')).mono ?_
    rintro e w4 ⟨A4, c4, rfl, ho4, hB4⟩
    have hs4 := hB4.size
    have hB4' := nxt hB3' hB4 hB3'.size
    have HO4 := Lib.hid ho4
    have HZ4 := Lib.hid (HZ3.out.below hB4 HZ3.out.lt)
    clear ho4
    unfold stV
    by_cases hse : se = 0
    · subst hse
      have hx2 : firstX ws n = if 1000 < sl.length then stopX ws 4 n else .ok (st, sn, sl) := HX.out
      have HX2 := Lib.hid hx2
      have hB5 := (alloc1 w4 (.cells #[.int .i64 st, .int .i64 sn, .slice A4 sl.length c4] 53)).alloc (by simp) (.cells #[.int .i64 0, .int .i64 sp] 29)
      have HX5 := Lib.hid ((Holds.new w4 53 #[.int .i64 st, .int .i64 sn, .slice A4 sl.length c4]).alloc (.cells #[.int .i64 0, .int .i64 sp] 29))
      have hB5' := nxt hB4' hB5 hB4'.size
      have HZ5 := Lib.hid (HZ4.out.below hB5 HZ4.out.lt)
      have HO5 := Lib.hid (row_below HO4.out hB5)
      have hl4 := HZ4.out.lt
      go_wp2_with fail
      refine (many_any st sn A4 c4 sl.length _).mono ?_
      rintro e w6 ⟨rfl, rfl⟩
      generalize (w4.alloc (.cells #[.int .i64 st, .int .i64 sn, .slice A4 sl.length c4] 53)).alloc (.cells #[.int .i64 0, .int .i64 sp] 29) = W5 at *
      have hB6 := alloc1 W5 (.cells #[.int .i64 st, .int .i64 sn, .slice A4 sl.length c4] 53)
      have hB6' := nxt hB5' hB6 hB5'.size
      have HX6 := Lib.hid (HX5.out.alloc (.cells #[.int .i64 st, .int .i64 sn, .slice A4 sl.length c4] 53))
      have HZ6 := Lib.hid (HZ5.out.alloc (.cells #[.int .i64 st, .int .i64 sn, .slice A4 sl.length c4] 53))
      have HO6 := Lib.hid (row_below HO5.out hB6)
      generalize W5.alloc (.cells #[.int .i64 st, .int .i64 sn, .slice A4 sl.length c4] 53) = W6 at *
      by_cases hm : 1000 < sl.length
      · have hd : decide ((1000 : Int) < (sl.length : Int)) = true := decide_eq_true (by omega)
        have hx3 : firstX ws n = stopX ws 4 n := HX2.out.trans (if_pos hm)
        have HX3 := Lib.hid hx3
        rw [hd]
        clear hx2 hx3
        go_wp2_with fail
        refine (HST.out _ hB6').mono ?_
        rintro e w7 ⟨rfl, hB7⟩
        go_wp2
        rw [HX3.out]
        unfold stopX
        rw [place_at (by omega), hf]
        exact ⟨rfl, rfl, nxt hB6' hB7 hB6'.size⟩
      · have hd : decide ((1000 : Int) < (sl.length : Int)) = false := decide_eq_false (by omega)
        have hx3 : firstX ws n = .ok (st, sn, sl) := HX2.out.trans (if_neg hm)
        have HX3 := Lib.hid hx3
        rw [hd]
        have z0 := HZ6.out.c (j := 0) rfl
        have z1 := HZ6.out.c (j := 1) rfl
        have z2 := HZ6.out.c (j := 2) rfl
        have y0 := HZ6.out.frozen 0
        have y1 := HZ6.out.frozen 1
        have y2 := HZ6.out.frozen 2
        have x0 := HX6.out.c (j := 0) rfl
        have x1 := HX6.out.c (j := 1) rfl
        have x2 := HX6.out.c (j := 2) rfl
        clear hx2 hx3
        go_wp2
        have g := ((HZ6.out.set 0 (.int .i64 st)).set 1 (.int .i64 sn)).set 2 (.slice A4 sl.length c4)
        have o : Only w.heap.size W6 (((W6.setCell ⟨w.heap.size, 0, none⟩ (.int .i64 st)).setCell ⟨w.heap.size, 1, none⟩ (.int .i64 sn)).setCell ⟨w.heap.size, 2, none⟩ (.slice A4 sl.length c4)) := (((Only.of (Below.refl W6.heap.size W6) (Nat.le_refl _)).set 0 _).set 1 _).set 2 _
        have r := HO6.out.kept o.grown (.inr (HZ6.out.not_row HO6.out (by decide)).symm)
        have hb9 : Below w.heap.size w _ := hB6'.trans (o.below (Nat.le_refl _) hB6'.size)
        generalize ((W6.setCell ⟨w.heap.size, 0, none⟩ (.int .i64 st)).setCell ⟨w.heap.size, 1, none⟩ (.int .i64 sn)).setCell ⟨w.heap.size, 2, none⟩ (.slice A4 sl.length c4) = W9 at *
        have k0 := g.c (j := 0) rfl
        have k1 := g.c (j := 1) rfl
        have k2 := g.c (j := 2) rfl
        refine bodyPost_ret (v := .agg #[.int .i64 st, .int .i64 sn, .slice A4 sl.length c4]) (by simp [results, Tryz.f103, go_sem, k0, k1, k2]) rfl ?_
        rw [HX3.out]
        exact ⟨A4, c4, rfl, row_mono r hB3'.size, hb9⟩
    · have hbn : (se != 0) = true := by rw [bne_iff_ne]; exact hse
      obtain ⟨a1, a2⟩ := HAT.out hse
      have hw64 : wrap64 ((f : Int) + sp) = (f : Int) + sp := by unfold wrap64; omega
      have hx2 : firstX ws n = .error (se, (f : Int) + sp) := HX.out.trans (if_pos hse)
      have HX2 := Lib.hid hx2
      clear hx2
      go_wp2
      rw [HX2.out]
      exact ⟨rfl, rfl, (nxt hB4' (alloc1 w4 _) hB4'.size).alloc (Nat.le_trans hB4'.size (by simp)) _⟩
end Go.Proofs.YtpdbkjnaicjfdaaGreatDoor
