/- The document's functions of the layer grammar: Line. -/
import Derived.Test.YtakbphjdfgidmaaGreatDoorGrZ
import Derived.Test.YtakbphjdfgidmaaGreatDoorGrM
namespace Go.Proofs.YtakbphjdfgidmaaGreatDoor
open Go.RowKit Go.Maps
set_option linter.unusedVariables false
set_option maxRecDepth 100000

theorem evS_1 (nm ob : ByteArray) (o : OpT) (s : StT) : evS ⟨1, nm, ob, o, s⟩ = kwB 1 ++ blB ++ nm ++ blB ++ stS s := by
  show kwB 1 ++ blB ++ nm ++ (blB ++ stS s) = _
  rw [← ByteArray.append_assoc]
theorem evS_3 (nm ob : ByteArray) (o : OpT) (s : StT) : evS ⟨3, nm, ob, o, s⟩ = kwB 3 ++ blB ++ nm ++ blB ++ ob ++ blB ++ opS o := by
  show kwB 3 ++ blB ++ nm ++ (blB ++ ob ++ blB ++ opS o) = _
  rw [← ByteArray.append_assoc, ← ByteArray.append_assoc, ← ByteArray.append_assoc]
theorem evS_0 (kd : Int) (nm ob : ByteArray) (o : OpT) (s : StT) (h1 : kd ≠ 1) (h3 : kd ≠ 3) : evS ⟨kd, nm, ob, o, s⟩ = kwB kd.toNat ++ blB ++ nm := by
  unfold evS
  dsimp only
  rw [if_neg h1, if_neg h3]; rfl

set_option maxHeartbeats 4000000 in
theorem rline_no (e : Ev) (A : Option Addr) (c : Nat) (w : World) (hA : Ints w A e.st.2.2) (hok : EvOk e) (hE : evE e ≠ 0) :
    Calls Tryz.prog 16 #[evV e A c] w (LinePost e w) := by
  have HC := fun W hA => rcheck_ev e A c W hA (Nat.le_trans hok.len (by omega)) hok.nm hok.ob
  have hT : evT e = emB := by unfold evT; rw [if_neg hE]
  unfold LinePost
  rw [hT]
  obtain ⟨kd, nm, ob, ⟨o1, o2, o3, o4, o5⟩, t, n, l⟩ := e
  dsimp only at hA
  generalize evE ⟨kd, nm, ob, (o1, o2, o3, o4, o5), t, n, l⟩ = F at *
  unfold evV evC at *
  dsimp only at HC ⊢
  have hB0 := alloc1 w (.cells #[.int .i64 kd, .string nm, .string ob, .int .i64 o1, .int .i64 o2, .int .i64 o3, .int .i64 o4, .int .i64 o5, .int .i64 t, .int .i64 n, .slice A l.length c] 38)
  have HX := Lib.hid (Holds.new w 38 #[.int .i64 kd, .string nm, .string ob, .int .i64 o1, .int .i64 o2, .int .i64 o3, .int .i64 o4, .int .i64 o5, .int .i64 t, .int .i64 n, .slice A l.length c])
  have HA := Lib.hid hA
  have hnn : (F != 0) = true := by rw [bne_iff_ne]; exact hE
  clear hA hok hT
  go_enter Tryz.func16, Tryz.ntmps16
  go_upto_region 1 with fail
  generalize w.alloc (.cells #[.int .i64 kd, .string nm, .string ob, .int .i64 o1, .int .i64 o2, .int .i64 o3, .int .i64 o4, .int .i64 o5, .int .i64 t, .int .i64 n, .slice A l.length c] 38) = W0 at *
  obtain ⟨x0, x1, x2, x3, x4, x5, x6, x7, x8, x9, x10, y0⟩ := ev_cells HX.out
  go_wp2_with fail
  refine (HC _ (HA.out.below hB0)).mono ?_
  rintro e w1 ⟨rfl, hB1⟩
  go_wp2
  go_ret2
  exact ⟨rfl, nxt hB0 hB1 hB0.size⟩

set_option maxHeartbeats 4000000 in
theorem rline_1 (e : Ev) (A : Option Addr) (c : Nat) (w : World) (hA : Ints w A e.st.2.2) (hok : EvOk e) (hE : evE e = 0) (hkd : e.kd = 1) :
    Calls Tryz.prog 16 #[evV e A c] w (LinePost e w) := by
  have HC := fun W hA => rcheck_ev e A c W hA (Nat.le_trans hok.len (by omega)) hok.nm hok.ob
  obtain ⟨_, _, _, hf1, hf3⟩ := evE_cases hE
  have hT : evT e = evS e := by unfold evT; rw [if_pos hE]
  unfold LinePost
  rw [hT, hE]
  rw [hE] at HC
  clear hE hT
  obtain ⟨kd, nm, ob, ⟨o1, o2, o3, o4, o5⟩, t, n, l⟩ := e
  obtain ⟨hnm, hob, hlen, hsm, hn, ha, hb, hr⟩ := hok
  dsimp only at hA hkd hnm hob hlen hsm hn ha hb hr hf1 hf3
  subst hkd
  obtain ⟨hst, _⟩ := firstE_zero (hf1 rfl)
  dsimp only at hst
  have HT := Lib.hid (fun W hA => rtext_yes t n A c l W hA hlen hsm hn hst)
  unfold stV at HT
  rw [evS_1]
  unfold stS
  dsimp only
  have hsx := txt_size hlen hsm hn hst
  unfold TextYes at HT
  generalize (⟨(txtL t n l).toArray⟩ : ByteArray) = sx at *
  have hrk : rkwB 1 = kwB 1 := rfl
  have hkb : (kwB 1).size ≤ 8 := by decide
  have HW := fun W => kword_any 1 W
  rw [hrk] at HW
  clear hrk
  generalize kwB 1 = kb at *
  unfold evV evC at *
  dsimp only at HC ⊢
  have hB0 := alloc1 w (.cells #[.int .i64 1, .string nm, .string ob, .int .i64 o1, .int .i64 o2, .int .i64 o3, .int .i64 o4, .int .i64 o5, .int .i64 t, .int .i64 n, .slice A l.length c] 38)
  have HX := Lib.hid (Holds.new w 38 #[.int .i64 1, .string nm, .string ob, .int .i64 o1, .int .i64 o2, .int .i64 o3, .int .i64 o4, .int .i64 o5, .int .i64 t, .int .i64 n, .slice A l.length c])
  have HA := Lib.hid hA
  clear hA hf1 hf3
  go_enter Tryz.func16, Tryz.ntmps16
  go_upto_region 1 with fail
  generalize w.alloc (.cells #[.int .i64 1, .string nm, .string ob, .int .i64 o1, .int .i64 o2, .int .i64 o3, .int .i64 o4, .int .i64 o5, .int .i64 t, .int .i64 n, .slice A l.length c] 38) = W0 at *
  obtain ⟨x0, x1, x2, x3, x4, x5, x6, x7, x8, x9, x10, y0⟩ := ev_cells HX.out
  go_wp2_with fail
  refine (HC _ (HA.out.below hB0)).mono ?_
  rintro e w1 ⟨rfl, hB1⟩
  have hB2 := nxt hB0 hB1 hB0.size
  have HX1 := Lib.hid (HX.out.below hB1 HX.out.lt)
  clear x0 x1 x2 x3 x4 x5 x6 x7 x8 x9 x10 y0
  obtain ⟨x0, x1, x2, x3, x4, x5, x6, x7, x8, x9, x10, y0⟩ := ev_cells HX1.out
  have q1 : ¬ 9223372036854775807 < kb.size + 1 := by omega
  have q2 : ¬ 9223372036854775807 < kb.size + 1 + nm.size := by omega
  have q3 : ¬ 9223372036854775807 < kb.size + 1 + nm.size + 1 := by omega
  have q4 : ¬ 9223372036854775807 < kb.size + 1 + nm.size + 1 + sx.size := by omega
  go_wp2_with fail
  refine wp_region_noPanic ?_
  refine wp_region_picked [(0, true), (1, true), (4, true), (5, true), (2, false), (3, true), (6, true), (7, true)] (fun W' => Below w1.heap.size w1 W') (by kernel_rfl) (by kernel_rfl) (fun _ _ _ _ _ h => h) (Below.refl _ w1).drew ?_
  iterate 4
    refine Picked.take ?_ (by rfl) (by rfl) ?_ ?_
    rotate_left
    · intro w' hw'
      have f0 := (hw'.cell (p := ⟨w.heap.size, 0, none⟩) HX1.out.lt).trans x0
      have f1 := (hw'.cell (p := ⟨w.heap.size, 1, none⟩) HX1.out.lt).trans x1
      go_simp
      try with_reducible rfl
    simp only [Act.put, List.getElem_toArray, List.getElem_cons_zero, List.getElem_cons_succ, List.setIfInBounds_toArray, List.set_cons_zero, List.set_cons_succ]
  refine Picked.call 32 _ (by rfl) (by rfl) (by go_simp; with_reducible rfl) ?_
  refine (HW _).mono ?_
  rintro e w2 ⟨rfl, hB3⟩
  have hB3' : Below w1.heap.size w1 w2 := nxt (Below.refl _ w1).drew hB3 (Nat.le_refl _)
  refine ⟨_, rfl, hB3', ?_⟩
  simp only [Act.put, List.getElem_toArray, List.getElem_cons_zero, List.getElem_cons_succ, List.setIfInBounds_toArray, List.set_cons_zero, List.set_cons_succ]
  iterate 3
    refine Picked.take ?_ (by rfl) (by rfl) ?_ ?_
    rotate_left
    · intro w' hw'
      have f0 := (hw'.cell (p := ⟨w.heap.size, 0, none⟩) HX1.out.lt).trans x0
      have f1 := (hw'.cell (p := ⟨w.heap.size, 1, none⟩) HX1.out.lt).trans x1
      go_simp
      try with_reducible rfl
    simp only [Act.put, List.getElem_toArray, List.getElem_cons_zero, List.getElem_cons_succ, List.setIfInBounds_toArray, List.set_cons_zero, List.set_cons_succ]
  refine NoPanic.normal ?_
  have hB4 := nxt hB2 hB3' hB2.size
  have HX2 := Lib.hid (HX1.out.below hB3' HX1.out.lt)
  clear x0 x1 x2 x3 x4 x5 x6 x7 x8 x9 x10 y0
  obtain ⟨x0, x1, x2, x3, x4, x5, x6, x7, x8, x9, x10, y0⟩ := ev_cells HX2.out
  go_wp2_with fail
  refine (HT.out _ (HA.out.below hB4)).mono ?_
  rintro e w4 ⟨rfl, hB5⟩
  have hB6 := nxt hB4 hB5 hB4.size
  have HX4 := Lib.hid (HX2.out.below hB5 HX2.out.lt)
  clear x0 x1 x2 x3 x4 x5 x6 x7 x8 x9 x10 y0
  obtain ⟨x0, x1, x2, x3, x4, x5, x6, x7, x8, x9, x10, y0⟩ := ev_cells HX4.out
  go_wp2
  go_ret2
  exact ⟨rfl, hB6⟩

set_option maxHeartbeats 4000000 in
theorem rline_3 (e : Ev) (A : Option Addr) (c : Nat) (w : World) (hA : Ints w A e.st.2.2) (hok : EvOk e) (hE : evE e = 0) (hkd : e.kd = 3) :
    Calls Tryz.prog 16 #[evV e A c] w (LinePost e w) := by
  have HC := fun W hA => rcheck_ev e A c W hA (Nat.le_trans hok.len (by omega)) hok.nm hok.ob
  obtain ⟨_, _, _, hf1, hf3⟩ := evE_cases hE
  have hT : evT e = evS e := by unfold evT; rw [if_pos hE]
  unfold LinePost
  rw [hT, hE]
  rw [hE] at HC
  clear hE hT
  obtain ⟨kd, nm, ob, ⟨o1, o2, o3, o4, o5⟩, t, n, l⟩ := e
  obtain ⟨hnm, hob, hlen, hsm, hn, ha, hb, hr⟩ := hok
  dsimp only at hA hkd hnm hob hlen hsm hn ha hb hr hf1 hf3
  subst hkd
  have hop : checkP o1 o2 o3 o4 o5 = 0 := (doneE_zero (hf3 rfl)).2
  have HT := Lib.hid (fun W => op_rtext_any o1 o2 o3 o4 o5 W ha hb hr)
  rw [hop] at HT
  unfold opV at HT
  rw [evS_3]
  unfold opS
  dsimp only
  have hsx := op_size o1 o2 o3 o4 o5
  generalize textS o1 o2 o3 o4 o5 = sx at *
  have hrk : rkwB 3 = kwB 3 := rfl
  have hkb : (kwB 3).size ≤ 8 := by decide
  have HW := fun W => kword_any 3 W
  rw [hrk] at HW
  clear hrk
  generalize kwB 3 = kb at *
  unfold evV evC at *
  dsimp only at HC ⊢
  have hB0 := alloc1 w (.cells #[.int .i64 3, .string nm, .string ob, .int .i64 o1, .int .i64 o2, .int .i64 o3, .int .i64 o4, .int .i64 o5, .int .i64 t, .int .i64 n, .slice A l.length c] 38)
  have HX := Lib.hid (Holds.new w 38 #[.int .i64 3, .string nm, .string ob, .int .i64 o1, .int .i64 o2, .int .i64 o3, .int .i64 o4, .int .i64 o5, .int .i64 t, .int .i64 n, .slice A l.length c])
  have HA := Lib.hid hA
  clear hA hf1 hf3
  go_enter Tryz.func16, Tryz.ntmps16
  go_upto_region 1 with fail
  generalize w.alloc (.cells #[.int .i64 3, .string nm, .string ob, .int .i64 o1, .int .i64 o2, .int .i64 o3, .int .i64 o4, .int .i64 o5, .int .i64 t, .int .i64 n, .slice A l.length c] 38) = W0 at *
  obtain ⟨x0, x1, x2, x3, x4, x5, x6, x7, x8, x9, x10, y0⟩ := ev_cells HX.out
  go_wp2_with fail
  refine (HC _ (HA.out.below hB0)).mono ?_
  rintro e w1 ⟨rfl, hB1⟩
  have hB2 := nxt hB0 hB1 hB0.size
  have HX1 := Lib.hid (HX.out.below hB1 HX.out.lt)
  clear x0 x1 x2 x3 x4 x5 x6 x7 x8 x9 x10 y0
  obtain ⟨x0, x1, x2, x3, x4, x5, x6, x7, x8, x9, x10, y0⟩ := ev_cells HX1.out
  have q1 : ¬ 9223372036854775807 < kb.size + 1 := by omega
  have q2 : ¬ 9223372036854775807 < kb.size + 1 + nm.size := by omega
  have q3 : ¬ 9223372036854775807 < kb.size + 1 + nm.size + 1 := by omega
  have q4 : ¬ 9223372036854775807 < kb.size + 1 + nm.size + 1 + ob.size := by omega
  have q5 : ¬ 9223372036854775807 < kb.size + 1 + nm.size + 1 + ob.size + 1 := by omega
  have q6 : ¬ 9223372036854775807 < kb.size + 1 + nm.size + 1 + ob.size + 1 + sx.size := by omega
  go_wp2_with fail
  refine wp_region_noPanic ?_
  refine wp_region_picked [(0, true), (1, true), (4, true), (5, true), (2, false), (3, true), (6, true), (7, true)] (fun W' => Below w1.heap.size w1 W') (by kernel_rfl) (by kernel_rfl) (fun _ _ _ _ _ h => h) (Below.refl _ w1).drew ?_
  iterate 4
    refine Picked.take ?_ (by rfl) (by rfl) ?_ ?_
    rotate_left
    · intro w' hw'
      have f0 := (hw'.cell (p := ⟨w.heap.size, 0, none⟩) HX1.out.lt).trans x0
      have f1 := (hw'.cell (p := ⟨w.heap.size, 1, none⟩) HX1.out.lt).trans x1
      go_simp
      try with_reducible rfl
    simp only [Act.put, List.getElem_toArray, List.getElem_cons_zero, List.getElem_cons_succ, List.setIfInBounds_toArray, List.set_cons_zero, List.set_cons_succ]
  refine Picked.call 32 _ (by rfl) (by rfl) (by go_simp; with_reducible rfl) ?_
  refine (HW _).mono ?_
  rintro e w2 ⟨rfl, hB3⟩
  have hB3' : Below w1.heap.size w1 w2 := nxt (Below.refl _ w1).drew hB3 (Nat.le_refl _)
  refine ⟨_, rfl, hB3', ?_⟩
  simp only [Act.put, List.getElem_toArray, List.getElem_cons_zero, List.getElem_cons_succ, List.setIfInBounds_toArray, List.set_cons_zero, List.set_cons_succ]
  iterate 3
    refine Picked.take ?_ (by rfl) (by rfl) ?_ ?_
    rotate_left
    · intro w' hw'
      have f0 := (hw'.cell (p := ⟨w.heap.size, 0, none⟩) HX1.out.lt).trans x0
      have f1 := (hw'.cell (p := ⟨w.heap.size, 1, none⟩) HX1.out.lt).trans x1
      go_simp
      try with_reducible rfl
    simp only [Act.put, List.getElem_toArray, List.getElem_cons_zero, List.getElem_cons_succ, List.setIfInBounds_toArray, List.set_cons_zero, List.set_cons_succ]
  refine NoPanic.normal ?_
  have hB4 := nxt hB2 hB3' hB2.size
  have HX2 := Lib.hid (HX1.out.below hB3' HX1.out.lt)
  clear x0 x1 x2 x3 x4 x5 x6 x7 x8 x9 x10 y0
  obtain ⟨x0, x1, x2, x3, x4, x5, x6, x7, x8, x9, x10, y0⟩ := ev_cells HX2.out
  go_wp2_with fail
  refine (HT.out _).mono ?_
  rintro e w4 ⟨rfl, hB5⟩
  have hB6 := nxt hB4 hB5 hB4.size
  have HX4 := Lib.hid (HX2.out.below hB5 HX2.out.lt)
  clear x0 x1 x2 x3 x4 x5 x6 x7 x8 x9 x10 y0
  obtain ⟨x0, x1, x2, x3, x4, x5, x6, x7, x8, x9, x10, y0⟩ := ev_cells HX4.out
  go_wp2
  go_ret2
  exact ⟨rfl, hB6⟩

set_option maxHeartbeats 4000000 in
theorem rline_0 (e : Ev) (A : Option Addr) (c : Nat) (w : World) (hA : Ints w A e.st.2.2) (hok : EvOk e) (hE : evE e = 0) (hkd : 1 ≤ e.kd ∧ e.kd ≤ 5 ∧ e.kd ≠ 1 ∧ e.kd ≠ 3) :
    Calls Tryz.prog 16 #[evV e A c] w (LinePost e w) := by
  have HC := fun W hA => rcheck_ev e A c W hA (Nat.le_trans hok.len (by omega)) hok.nm hok.ob
  obtain ⟨_, _, _, hf1, hf3⟩ := evE_cases hE
  have hT : evT e = evS e := by unfold evT; rw [if_pos hE]
  unfold LinePost
  rw [hT, hE]
  rw [hE] at HC
  clear hE hT
  obtain ⟨kd, nm, ob, ⟨o1, o2, o3, o4, o5⟩, t, n, l⟩ := e
  obtain ⟨hnm, hob, hlen, hsm, hn, ha, hb, hr⟩ := hok
  dsimp only at hA hkd hnm hob hlen hsm hn ha hb hr hf1 hf3
  obtain ⟨hk1, hk5, hn1, hn3⟩ := hkd
  rw [evS_0 _ _ _ _ _ hn1 hn3]
  have hrk : rkwB kd = kwB kd.toNat := by unfold rkwB; rw [if_neg (by omega)]
  have hkb := kwB_size8 kd.toNat
  have b1 : (kd == 1) = false := by simpa using hn1
  have b3 : (kd == 3) = false := by simpa using hn3
  have HW := fun W => kword_any kd W
  rw [hrk] at HW
  clear hrk
  generalize kwB kd.toNat = kb at *
  unfold evV evC at *
  dsimp only at HC ⊢
  have hB0 := alloc1 w (.cells #[.int .i64 kd, .string nm, .string ob, .int .i64 o1, .int .i64 o2, .int .i64 o3, .int .i64 o4, .int .i64 o5, .int .i64 t, .int .i64 n, .slice A l.length c] 38)
  have HX := Lib.hid (Holds.new w 38 #[.int .i64 kd, .string nm, .string ob, .int .i64 o1, .int .i64 o2, .int .i64 o3, .int .i64 o4, .int .i64 o5, .int .i64 t, .int .i64 n, .slice A l.length c])
  have HA := Lib.hid hA
  clear hA hf1 hf3
  go_enter Tryz.func16, Tryz.ntmps16
  go_upto_region 1 with fail
  generalize w.alloc (.cells #[.int .i64 kd, .string nm, .string ob, .int .i64 o1, .int .i64 o2, .int .i64 o3, .int .i64 o4, .int .i64 o5, .int .i64 t, .int .i64 n, .slice A l.length c] 38) = W0 at *
  obtain ⟨x0, x1, x2, x3, x4, x5, x6, x7, x8, x9, x10, y0⟩ := ev_cells HX.out
  go_wp2_with fail
  refine (HC _ (HA.out.below hB0)).mono ?_
  rintro e w1 ⟨rfl, hB1⟩
  have hB2 := nxt hB0 hB1 hB0.size
  have HX1 := Lib.hid (HX.out.below hB1 HX.out.lt)
  clear x0 x1 x2 x3 x4 x5 x6 x7 x8 x9 x10 y0
  obtain ⟨x0, x1, x2, x3, x4, x5, x6, x7, x8, x9, x10, y0⟩ := ev_cells HX1.out
  have q1 : ¬ 9223372036854775807 < kb.size + 1 := by omega
  have q2 : ¬ 9223372036854775807 < kb.size + 1 + nm.size := by omega
  go_wp2_with fail
  refine wp_region_noPanic ?_
  refine wp_region_picked [(0, true), (1, true), (4, true), (5, true), (2, false), (3, true), (6, true), (7, true)] (fun W' => Below w1.heap.size w1 W') (by kernel_rfl) (by kernel_rfl) (fun _ _ _ _ _ h => h) (Below.refl _ w1).drew ?_
  iterate 4
    refine Picked.take ?_ (by rfl) (by rfl) ?_ ?_
    rotate_left
    · intro w' hw'
      have f0 := (hw'.cell (p := ⟨w.heap.size, 0, none⟩) HX1.out.lt).trans x0
      have f1 := (hw'.cell (p := ⟨w.heap.size, 1, none⟩) HX1.out.lt).trans x1
      go_simp
      try with_reducible rfl
    simp only [Act.put, List.getElem_toArray, List.getElem_cons_zero, List.getElem_cons_succ, List.setIfInBounds_toArray, List.set_cons_zero, List.set_cons_succ]
  refine Picked.call 32 _ (by rfl) (by rfl) (by go_simp; with_reducible rfl) ?_
  refine (HW _).mono ?_
  rintro e w2 ⟨rfl, hB3⟩
  have hB3' : Below w1.heap.size w1 w2 := nxt (Below.refl _ w1).drew hB3 (Nat.le_refl _)
  refine ⟨_, rfl, hB3', ?_⟩
  simp only [Act.put, List.getElem_toArray, List.getElem_cons_zero, List.getElem_cons_succ, List.setIfInBounds_toArray, List.set_cons_zero, List.set_cons_succ]
  iterate 3
    refine Picked.take ?_ (by rfl) (by rfl) ?_ ?_
    rotate_left
    · intro w' hw'
      have f0 := (hw'.cell (p := ⟨w.heap.size, 0, none⟩) HX1.out.lt).trans x0
      have f1 := (hw'.cell (p := ⟨w.heap.size, 1, none⟩) HX1.out.lt).trans x1
      go_simp
      try with_reducible rfl
    simp only [Act.put, List.getElem_toArray, List.getElem_cons_zero, List.getElem_cons_succ, List.setIfInBounds_toArray, List.set_cons_zero, List.set_cons_succ]
  refine NoPanic.normal ?_
  have hB4 := nxt hB2 hB3' hB2.size
  have HX2 := Lib.hid (HX1.out.below hB3' HX1.out.lt)
  clear x0 x1 x2 x3 x4 x5 x6 x7 x8 x9 x10 y0
  obtain ⟨x0, x1, x2, x3, x4, x5, x6, x7, x8, x9, x10, y0⟩ := ev_cells HX2.out
  go_wp2
  go_ret2
  exact ⟨rfl, hB4⟩

theorem rline_any (e : Ev) (A : Option Addr) (c : Nat) (w : World) (hA : Ints w A e.st.2.2) (hok : EvOk e) :
    Calls Tryz.prog 16 #[evV e A c] w (LinePost e w) := by
  by_cases hE : evE e = 0
  · have hk := (evE_cases hE).1
    by_cases h1 : e.kd = 1
    · exact rline_1 e A c w hA hok hE h1
    · by_cases h3 : e.kd = 3
      · exact rline_3 e A c w hA hok hE h3
      · exact rline_0 e A c w hA hok hE (by omega)
  · exact rline_no e A c w hA hok hE
end Go.Proofs.YtakbphjdfgidmaaGreatDoor
