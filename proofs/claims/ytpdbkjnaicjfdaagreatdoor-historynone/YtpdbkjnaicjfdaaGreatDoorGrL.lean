/- Contracts of the layer grammar: Line. Written by wip/tools/gen_grk2.py. -/
import Derived.Test.YtpdbkjnaicjfdaaGreatDoorGrJ
import Derived.Test.YtpdbkjnaicjfdaaGreatDoorGpk
namespace Go.Proofs.YtpdbkjnaicjfdaaGreatDoor
open Go.RowKit Go.Maps
set_option linter.unusedVariables false
set_option maxRecDepth 100000

/-- An event whose numbers and texts are no more than is gone through. -/
structure EvOk (e : Ev) : Prop where
  nm : e.nm.size ≤ 8000
  ob : e.ob.size ≤ 8000
  len : e.st.2.2.length ≤ 8000
  small : ∀ x ∈ e.st.2.2, Small x
  n : Small e.st.2.1
  a : I64 e.op.2.1
  b : I64 e.op.2.2.1
  r : I64 e.op.2.2.2.2

theorem evE_cases {e : Ev} (h : evE e = 0) : (e.kd = 1 ∨ e.kd = 2 ∨ e.kd = 3 ∨ e.kd = 4 ∨ e.kd = 5) ∧ bareB e = true ∧ nm_checkE e.nm = 0 ∧ (e.kd = 1 → firstE e.st = 0) ∧ (e.kd = 3 → doneE e.ob e.op = 0) := by
  unfold evE at h
  by_cases h1 : e.kd < 1 ∨ 5 < e.kd
  · rw [if_pos h1] at h; cases h
  · rw [if_neg h1] at h
    cases hb : bareB e
    · rw [hb, if_pos rfl] at h; cases h
    · rw [hb, if_neg (by simp)] at h
      by_cases hn : nm_checkE e.nm = 0
      · rw [if_neg (by simpa using hn)] at h
        refine ⟨by omega, rfl, hn, fun e1 => ?_, fun e3 => ?_⟩
        · rwa [if_pos e1] at h
        · rwa [if_neg (by omega), if_pos e3] at h
      · rw [if_pos hn] at h; exact absurd h hn
theorem firstE_zero {s : StT} (h : firstE s = 0) : st_checkE s.1 s.2.1 s.2.2 = 0 ∧ s.2.2.length ≤ 1000 := by
  unfold firstE at h
  by_cases h1 : st_checkE s.1 s.2.1 s.2.2 = 0
  · rw [if_neg (by simpa using h1)] at h
    refine ⟨h1, ?_⟩
    by_cases h2 : 1000 < s.2.2.length
    · rw [if_pos h2] at h; cases h
    · omega
  · rw [if_pos h1] at h; exact absurd h h1
theorem doneE_zero {ob : ByteArray} {o : OpT} (h : doneE ob o = 0) : nm_checkE ob = 0 ∧ opE o = 0 := by
  unfold doneE at h
  by_cases h1 : nm_checkE ob = 0
  · rw [if_neg (by simpa using h1)] at h
    exact ⟨h1, h⟩
  · rw [if_pos h1] at h; exact absurd h h1

theorem txt_size {t n : Int} {l : List Int} (hlen : l.length ≤ 8000) (hsm : ∀ x ∈ l, Small x) (hn : Small n) (h : st_checkE t n l = 0) : (⟨(txtL t n l).toArray⟩ : ByteArray).size ≤ 200000 := by
  obtain ⟨h1, h5, _⟩ := check_ok h
  have e : (⟨(txtL t n l).toArray⟩ : ByteArray).size = (txtL t n l).length := by simp [ByteArray.size]
  rw [e]
  unfold txtL
  rw [List.length_append]
  have hw := word_len t.toNat
  have hw2 : (wordL t.toNat).length = (st_wordB t.toNat).size := rfl
  have := txtOf_len (numsOf t n l) (nums_small hn hsm)
  have hl : (numsOf t n l).length ≤ 8001 := by
    unfold numsOf; split
    · simp
    · omega
  omega
theorem op_size (kd a b k n : Int) : (textS kd a b k n).size ≤ 200 := by
  unfold textS
  split
  · exact Nat.zero_le _
  · rename_i i hi
    split
    · rw [strOfNums_size]
      exact (opW_join i (kindI_lt hi).1 a b k n).2
    · exact Nat.zero_le _

def LinePost (e : Ev) (w : World) (en : Ending) (w' : World) : Prop := en = .returned (.tuple #[.string (evT e), .int .i64 (evE e)]) ∧ Below w.heap.size w w'

set_option maxHeartbeats 4000000 in
theorem line_no (e : Ev) (A : Option Addr) (c : Nat) (w : World) (hA : Ints w A e.st.2.2) (hok : EvOk e) (hE : evE e ≠ 0) :
    Calls Tryz.prog 78 #[evV e A c] w (LinePost e w) := by
  have HC := fun W hA => check_ev e A c W hA (Nat.le_trans hok.len (by omega)) hok.nm hok.ob
  have hT : evT e = emB := by unfold evT; rw [if_neg hE]
  unfold LinePost
  rw [hT]
  obtain ⟨kd, nm, ob, ⟨o1, o2, o3, o4, o5⟩, t, n, l⟩ := e
  dsimp only at hA
  generalize evE ⟨kd, nm, ob, (o1, o2, o3, o4, o5), t, n, l⟩ = F at *
  unfold evV evC at *
  dsimp only at HC ⊢
  have hB0 := alloc1 w (.cells #[.int .i64 kd, .string nm, .string ob, .int .i64 o1, .int .i64 o2, .int .i64 o3, .int .i64 o4, .int .i64 o5, .int .i64 t, .int .i64 n, .slice A l.length c] 55)
  have HX := Lib.hid (Holds.new w 55 #[.int .i64 kd, .string nm, .string ob, .int .i64 o1, .int .i64 o2, .int .i64 o3, .int .i64 o4, .int .i64 o5, .int .i64 t, .int .i64 n, .slice A l.length c])
  have HA := Lib.hid hA
  have hnn : (F != 0) = true := by rw [bne_iff_ne]; exact hE
  clear hA hok hT
  go_enter Tryz.func78, Tryz.ntmps78
  go_upto_region 1 with fail
  generalize w.alloc (.cells #[.int .i64 kd, .string nm, .string ob, .int .i64 o1, .int .i64 o2, .int .i64 o3, .int .i64 o4, .int .i64 o5, .int .i64 t, .int .i64 n, .slice A l.length c] 55) = W0 at *
  obtain ⟨x0, x1, x2, x3, x4, x5, x6, x7, x8, x9, x10, y0⟩ := ev_cells HX.out
  go_wp2_with fail
  refine (HC _ (HA.out.below hB0)).mono ?_
  rintro e w1 ⟨rfl, hB1⟩
  go_wp2
  go_ret2
  exact ⟨rfl, nxt hB0 hB1 hB0.size⟩

set_option maxHeartbeats 4000000 in
theorem line_1 (e : Ev) (A : Option Addr) (c : Nat) (w : World) (hA : Ints w A e.st.2.2) (hok : EvOk e) (hE : evE e = 0) (hkd : e.kd = 1) (hw : Wds w) (hk : KWds w) :
    Calls Tryz.prog 78 #[evV e A c] w (LinePost e w) := by
  have HC := fun W hA => check_ev e A c W hA (Nat.le_trans hok.len (by omega)) hok.nm hok.ob
  obtain ⟨_, _, _, hf1, hf3⟩ := evE_cases hE
  have hT : evT e = evS e := by unfold evT; rw [if_pos hE]
  unfold LinePost
  rw [hT, hE]
  rw [hE] at HC
  clear hE hT
  obtain ⟨kd, nm, ob, ⟨o1, o2, o3, o4, o5⟩, t, n, l⟩ := e
  obtain ⟨hnm, hob, hlen, hsm, hn, ha, hb, hr⟩ := hok
  dsimp only at hA hkd hnm hob hlen hsm hn ha hb hr hf1 hf3
  subst hkd
  obtain ⟨hst, _⟩ := firstE_zero (hf1 rfl)
  dsimp only at hst
  have HT := Lib.hid (fun W hW hA => text_yes t n A c l W hW hA hlen hsm hn hst)
  unfold stV at HT
  have hS : evS ⟨1, nm, ob, (o1, o2, o3, o4, o5), t, n, l⟩ = kwB 1 ++ blB ++ nm ++ (blB ++ ⟨(txtL t n l).toArray⟩) := rfl
  have hsx := txt_size hlen hsm hn hst
  unfold TextYes at HT
  generalize (⟨(txtL t n l).toArray⟩ : ByteArray) = sx at *
  rw [hS]
  unfold evV evC at *
  dsimp only at HC ⊢
  have hB0 := alloc1 w (.cells #[.int .i64 1, .string nm, .string ob, .int .i64 o1, .int .i64 o2, .int .i64 o3, .int .i64 o4, .int .i64 o5, .int .i64 t, .int .i64 n, .slice A l.length c] 55)
  have HX := Lib.hid (Holds.new w 55 #[.int .i64 1, .string nm, .string ob, .int .i64 o1, .int .i64 o2, .int .i64 o3, .int .i64 o4, .int .i64 o5, .int .i64 t, .int .i64 n, .slice A l.length c])
  have HA := Lib.hid hA
  have HW := Lib.hid hw
  have HK := Lib.hid hk
  have HKW := Lib.hid (fun W (hB : Below w.heap.size w W) => (hk.on hB) 1 (by omega))
  have hkb : (kwB 1).size ≤ 8 := by decide
  generalize kwB 1 = kb at *
  clear hA hw hk hf1 hf3 hS
  go_enter Tryz.func78, Tryz.ntmps78
  go_upto_region 1 with fail
  generalize w.alloc (.cells #[.int .i64 1, .string nm, .string ob, .int .i64 o1, .int .i64 o2, .int .i64 o3, .int .i64 o4, .int .i64 o5, .int .i64 t, .int .i64 n, .slice A l.length c] 55) = W0 at *
  obtain ⟨x0, x1, x2, x3, x4, x5, x6, x7, x8, x9, x10, y0⟩ := ev_cells HX.out
  go_wp2_with fail
  refine (HC _ (HA.out.below hB0)).mono ?_
  rintro e w1 ⟨rfl, hB1⟩
  have hB2 := nxt hB0 hB1 hB0.size
  have HX1 := Lib.hid (HX.out.below hB1 HX.out.lt)
  clear x0 x1 x2 x3 x4 x5 x6 x7 x8 x9 x10 y0
  obtain ⟨x0, x1, x2, x3, x4, x5, x6, x7, x8, x9, x10, y0⟩ := ev_cells HX1.out
  have hkw := HKW.out _ hB2
  have q1 : ¬ 9223372036854775807 < kb.size + 1 := by omega
  have q2 : ¬ 9223372036854775807 < kb.size + 1 + nm.size := by omega
  have q3 : ¬ 9223372036854775807 < 1 + sx.size := by omega
  have q4 : ¬ 9223372036854775807 < kb.size + 1 + nm.size + (1 + sx.size) := by omega
  go_wp2_with fail
  refine wp_region_noPanic ?_
  refine wp_region_picked [(0, true), (1, true), (2, true), (3, true), (4, true), (5, true), (6, true), (7, true), (8, true)] (fun W' => Below w1.heap.size w1 W') (by kernel_rfl) (by kernel_rfl) (fun _ _ _ _ _ h => h) (Below.refl _ w1).drew ?_
  iterate 9
    refine Picked.take ?_ (by rfl) (by rfl) ?_ ?_
    rotate_left
    · intro w' hw'
      have f0 := (hw'.cell (p := ⟨w.heap.size, 0, none⟩) HX1.out.lt).trans x0
      have f1 := (hw'.cell (p := ⟨w.heap.size, 1, none⟩) HX1.out.lt).trans x1
      have f2 := (hw'.cell (p := ⟨0, 1, none⟩) (HK.out.on hB2).pos).trans hkw
      go_simp
      try with_reducible rfl
    simp only [Act.put, List.getElem_toArray, List.getElem_cons_zero, List.getElem_cons_succ, List.setIfInBounds_toArray, List.set_cons_zero, List.set_cons_succ]
  refine NoPanic.normal ?_
  have hB3 := (Below.refl w1.heap.size w1).drew
  have hB3' := nxt hB2 hB3 hB2.size
  go_wp2_with fail
  refine (HT.out _ (HW.out.on hB3') (HA.out.below hB3')).mono ?_
  rintro e w4 ⟨rfl, hB4⟩
  have hB5 := nxt hB3' hB4 hB3'.size
  have HX4 := Lib.hid (HX1.out.below (nxt hB3 hB4 hB3.size) HX1.out.lt)
  clear x0 x1 x2 x3 x4 x5 x6 x7 x8 x9 x10 y0
  obtain ⟨x0, x1, x2, x3, x4, x5, x6, x7, x8, x9, x10, y0⟩ := ev_cells HX4.out
  go_wp2
  go_ret2
  exact ⟨rfl, hB5⟩

set_option maxHeartbeats 4000000 in
theorem line_2 (e : Ev) (A : Option Addr) (c : Nat) (w : World) (hA : Ints w A e.st.2.2) (hok : EvOk e) (hE : evE e = 0) (hkd : e.kd = 2) (hw : Wds w) (hk : KWds w) :
    Calls Tryz.prog 78 #[evV e A c] w (LinePost e w) := by
  have HC := fun W hA => check_ev e A c W hA (Nat.le_trans hok.len (by omega)) hok.nm hok.ob
  obtain ⟨_, _, _, hf1, hf3⟩ := evE_cases hE
  have hT : evT e = evS e := by unfold evT; rw [if_pos hE]
  unfold LinePost
  rw [hT, hE]
  rw [hE] at HC
  clear hE hT
  obtain ⟨kd, nm, ob, ⟨o1, o2, o3, o4, o5⟩, t, n, l⟩ := e
  obtain ⟨hnm, hob, hlen, hsm, hn, ha, hb, hr⟩ := hok
  dsimp only at hA hkd hnm hob hlen hsm hn ha hb hr hf1 hf3
  subst hkd
  have hS : evS ⟨2, nm, ob, (o1, o2, o3, o4, o5), t, n, l⟩ = kwB 2 ++ blB ++ nm := rfl
  rw [hS]
  unfold evV evC at *
  dsimp only at HC ⊢
  have hB0 := alloc1 w (.cells #[.int .i64 2, .string nm, .string ob, .int .i64 o1, .int .i64 o2, .int .i64 o3, .int .i64 o4, .int .i64 o5, .int .i64 t, .int .i64 n, .slice A l.length c] 55)
  have HX := Lib.hid (Holds.new w 55 #[.int .i64 2, .string nm, .string ob, .int .i64 o1, .int .i64 o2, .int .i64 o3, .int .i64 o4, .int .i64 o5, .int .i64 t, .int .i64 n, .slice A l.length c])
  have HA := Lib.hid hA
  have HW := Lib.hid hw
  have HK := Lib.hid hk
  have HKW := Lib.hid (fun W (hB : Below w.heap.size w W) => (hk.on hB) 2 (by omega))
  have hkb : (kwB 2).size ≤ 8 := by decide
  generalize kwB 2 = kb at *
  clear hA hw hk hf1 hf3 hS
  go_enter Tryz.func78, Tryz.ntmps78
  go_upto_region 1 with fail
  generalize w.alloc (.cells #[.int .i64 2, .string nm, .string ob, .int .i64 o1, .int .i64 o2, .int .i64 o3, .int .i64 o4, .int .i64 o5, .int .i64 t, .int .i64 n, .slice A l.length c] 55) = W0 at *
  obtain ⟨x0, x1, x2, x3, x4, x5, x6, x7, x8, x9, x10, y0⟩ := ev_cells HX.out
  go_wp2_with fail
  refine (HC _ (HA.out.below hB0)).mono ?_
  rintro e w1 ⟨rfl, hB1⟩
  have hB2 := nxt hB0 hB1 hB0.size
  have HX1 := Lib.hid (HX.out.below hB1 HX.out.lt)
  clear x0 x1 x2 x3 x4 x5 x6 x7 x8 x9 x10 y0
  obtain ⟨x0, x1, x2, x3, x4, x5, x6, x7, x8, x9, x10, y0⟩ := ev_cells HX1.out
  have hkw := HKW.out _ hB2
  have q1 : ¬ 9223372036854775807 < kb.size + 1 := by omega
  have q2 : ¬ 9223372036854775807 < kb.size + 1 + nm.size := by omega
  go_wp2_with fail
  refine wp_region_noPanic ?_
  refine wp_region_picked [(0, true), (1, true), (2, true), (3, true), (4, true), (5, true), (6, true), (7, true), (8, true)] (fun W' => Below w1.heap.size w1 W') (by kernel_rfl) (by kernel_rfl) (fun _ _ _ _ _ h => h) (Below.refl _ w1).drew ?_
  iterate 9
    refine Picked.take ?_ (by rfl) (by rfl) ?_ ?_
    rotate_left
    · intro w' hw'
      have f0 := (hw'.cell (p := ⟨w.heap.size, 0, none⟩) HX1.out.lt).trans x0
      have f1 := (hw'.cell (p := ⟨w.heap.size, 1, none⟩) HX1.out.lt).trans x1
      have f2 := (hw'.cell (p := ⟨0, 2, none⟩) (HK.out.on hB2).pos).trans hkw
      go_simp
      try with_reducible rfl
    simp only [Act.put, List.getElem_toArray, List.getElem_cons_zero, List.getElem_cons_succ, List.setIfInBounds_toArray, List.set_cons_zero, List.set_cons_succ]
  refine NoPanic.normal ?_
  go_wp2
  go_ret2
  exact ⟨rfl, hB2.drew⟩

set_option maxHeartbeats 4000000 in
theorem line_3 (e : Ev) (A : Option Addr) (c : Nat) (w : World) (hA : Ints w A e.st.2.2) (hok : EvOk e) (hE : evE e = 0) (hkd : e.kd = 3) (hw : Wds w) (hk : KWds w) :
    Calls Tryz.prog 78 #[evV e A c] w (LinePost e w) := by
  have HC := fun W hA => check_ev e A c W hA (Nat.le_trans hok.len (by omega)) hok.nm hok.ob
  obtain ⟨_, _, _, hf1, hf3⟩ := evE_cases hE
  have hT : evT e = evS e := by unfold evT; rw [if_pos hE]
  unfold LinePost
  rw [hT, hE]
  rw [hE] at HC
  clear hE hT
  obtain ⟨kd, nm, ob, ⟨o1, o2, o3, o4, o5⟩, t, n, l⟩ := e
  obtain ⟨hnm, hob, hlen, hsm, hn, ha, hb, hr⟩ := hok
  dsimp only at hA hkd hnm hob hlen hsm hn ha hb hr hf1 hf3
  subst hkd
  obtain ⟨_, hop⟩ := doneE_zero (hf3 rfl)
  have hop2 : checkP o1 o2 o3 o4 o5 = 0 := hop
  have HT := Lib.hid (fun W => op_text_any o1 o2 o3 o4 o5 W ha hb hr)
  rw [hop2] at HT
  unfold opV at HT
  have hS : evS ⟨3, nm, ob, (o1, o2, o3, o4, o5), t, n, l⟩ = kwB 3 ++ blB ++ nm ++ (blB ++ ob ++ blB ++ textS o1 o2 o3 o4 o5) := rfl
  have hso := op_size o1 o2 o3 o4 o5
  generalize textS o1 o2 o3 o4 o5 = so at *
  rw [hS]
  unfold evV evC at *
  dsimp only at HC ⊢
  have hB0 := alloc1 w (.cells #[.int .i64 3, .string nm, .string ob, .int .i64 o1, .int .i64 o2, .int .i64 o3, .int .i64 o4, .int .i64 o5, .int .i64 t, .int .i64 n, .slice A l.length c] 55)
  have HX := Lib.hid (Holds.new w 55 #[.int .i64 3, .string nm, .string ob, .int .i64 o1, .int .i64 o2, .int .i64 o3, .int .i64 o4, .int .i64 o5, .int .i64 t, .int .i64 n, .slice A l.length c])
  have HA := Lib.hid hA
  have HW := Lib.hid hw
  have HK := Lib.hid hk
  have HKW := Lib.hid (fun W (hB : Below w.heap.size w W) => (hk.on hB) 3 (by omega))
  have hkb : (kwB 3).size ≤ 8 := by decide
  generalize kwB 3 = kb at *
  clear hA hw hk hf1 hf3 hS
  go_enter Tryz.func78, Tryz.ntmps78
  go_upto_region 1 with fail
  generalize w.alloc (.cells #[.int .i64 3, .string nm, .string ob, .int .i64 o1, .int .i64 o2, .int .i64 o3, .int .i64 o4, .int .i64 o5, .int .i64 t, .int .i64 n, .slice A l.length c] 55) = W0 at *
  obtain ⟨x0, x1, x2, x3, x4, x5, x6, x7, x8, x9, x10, y0⟩ := ev_cells HX.out
  go_wp2_with fail
  refine (HC _ (HA.out.below hB0)).mono ?_
  rintro e w1 ⟨rfl, hB1⟩
  have hB2 := nxt hB0 hB1 hB0.size
  have HX1 := Lib.hid (HX.out.below hB1 HX.out.lt)
  clear x0 x1 x2 x3 x4 x5 x6 x7 x8 x9 x10 y0
  obtain ⟨x0, x1, x2, x3, x4, x5, x6, x7, x8, x9, x10, y0⟩ := ev_cells HX1.out
  have hkw := HKW.out _ hB2
  have q1 : ¬ 9223372036854775807 < kb.size + 1 := by omega
  have q2 : ¬ 9223372036854775807 < kb.size + 1 + nm.size := by omega
  have q3 : ¬ 9223372036854775807 < 1 + ob.size := by omega
  have q4 : ¬ 9223372036854775807 < 1 + ob.size + 1 := by omega
  have q5 : ¬ 9223372036854775807 < 1 + ob.size + 1 + so.size := by omega
  have q6 : ¬ 9223372036854775807 < kb.size + 1 + nm.size + (1 + ob.size + 1 + so.size) := by omega
  go_wp2_with fail
  refine wp_region_noPanic ?_
  refine wp_region_picked [(0, true), (1, true), (2, true), (3, true), (4, true), (5, true), (6, true), (7, true), (8, true)] (fun W' => Below w1.heap.size w1 W') (by kernel_rfl) (by kernel_rfl) (fun _ _ _ _ _ h => h) (Below.refl _ w1).drew ?_
  iterate 9
    refine Picked.take ?_ (by rfl) (by rfl) ?_ ?_
    rotate_left
    · intro w' hw'
      have f0 := (hw'.cell (p := ⟨w.heap.size, 0, none⟩) HX1.out.lt).trans x0
      have f1 := (hw'.cell (p := ⟨w.heap.size, 1, none⟩) HX1.out.lt).trans x1
      have f2 := (hw'.cell (p := ⟨0, 3, none⟩) (HK.out.on hB2).pos).trans hkw
      go_simp
      try with_reducible rfl
    simp only [Act.put, List.getElem_toArray, List.getElem_cons_zero, List.getElem_cons_succ, List.setIfInBounds_toArray, List.set_cons_zero, List.set_cons_succ]
  refine NoPanic.normal ?_
  have hB3 := (Below.refl w1.heap.size w1).drew
  have hB3' := nxt hB2 hB3 hB2.size
  go_wp2_with fail
  refine (HT.out _).mono ?_
  rintro e w4 ⟨rfl, hB4⟩
  have hB5 := nxt hB3' hB4 hB3'.size
  have HX4 := Lib.hid (HX1.out.below (nxt hB3 hB4 hB3.size) HX1.out.lt)
  clear x0 x1 x2 x3 x4 x5 x6 x7 x8 x9 x10 y0
  obtain ⟨x0, x1, x2, x3, x4, x5, x6, x7, x8, x9, x10, y0⟩ := ev_cells HX4.out
  go_wp2
  go_ret2
  exact ⟨rfl, hB5⟩

set_option maxHeartbeats 4000000 in
theorem line_4 (e : Ev) (A : Option Addr) (c : Nat) (w : World) (hA : Ints w A e.st.2.2) (hok : EvOk e) (hE : evE e = 0) (hkd : e.kd = 4) (hw : Wds w) (hk : KWds w) :
    Calls Tryz.prog 78 #[evV e A c] w (LinePost e w) := by
  have HC := fun W hA => check_ev e A c W hA (Nat.le_trans hok.len (by omega)) hok.nm hok.ob
  obtain ⟨_, _, _, hf1, hf3⟩ := evE_cases hE
  have hT : evT e = evS e := by unfold evT; rw [if_pos hE]
  unfold LinePost
  rw [hT, hE]
  rw [hE] at HC
  clear hE hT
  obtain ⟨kd, nm, ob, ⟨o1, o2, o3, o4, o5⟩, t, n, l⟩ := e
  obtain ⟨hnm, hob, hlen, hsm, hn, ha, hb, hr⟩ := hok
  dsimp only at hA hkd hnm hob hlen hsm hn ha hb hr hf1 hf3
  subst hkd
  have hS : evS ⟨4, nm, ob, (o1, o2, o3, o4, o5), t, n, l⟩ = kwB 4 ++ blB ++ nm := rfl
  rw [hS]
  unfold evV evC at *
  dsimp only at HC ⊢
  have hB0 := alloc1 w (.cells #[.int .i64 4, .string nm, .string ob, .int .i64 o1, .int .i64 o2, .int .i64 o3, .int .i64 o4, .int .i64 o5, .int .i64 t, .int .i64 n, .slice A l.length c] 55)
  have HX := Lib.hid (Holds.new w 55 #[.int .i64 4, .string nm, .string ob, .int .i64 o1, .int .i64 o2, .int .i64 o3, .int .i64 o4, .int .i64 o5, .int .i64 t, .int .i64 n, .slice A l.length c])
  have HA := Lib.hid hA
  have HW := Lib.hid hw
  have HK := Lib.hid hk
  have HKW := Lib.hid (fun W (hB : Below w.heap.size w W) => (hk.on hB) 4 (by omega))
  have hkb : (kwB 4).size ≤ 8 := by decide
  generalize kwB 4 = kb at *
  clear hA hw hk hf1 hf3 hS
  go_enter Tryz.func78, Tryz.ntmps78
  go_upto_region 1 with fail
  generalize w.alloc (.cells #[.int .i64 4, .string nm, .string ob, .int .i64 o1, .int .i64 o2, .int .i64 o3, .int .i64 o4, .int .i64 o5, .int .i64 t, .int .i64 n, .slice A l.length c] 55) = W0 at *
  obtain ⟨x0, x1, x2, x3, x4, x5, x6, x7, x8, x9, x10, y0⟩ := ev_cells HX.out
  go_wp2_with fail
  refine (HC _ (HA.out.below hB0)).mono ?_
  rintro e w1 ⟨rfl, hB1⟩
  have hB2 := nxt hB0 hB1 hB0.size
  have HX1 := Lib.hid (HX.out.below hB1 HX.out.lt)
  clear x0 x1 x2 x3 x4 x5 x6 x7 x8 x9 x10 y0
  obtain ⟨x0, x1, x2, x3, x4, x5, x6, x7, x8, x9, x10, y0⟩ := ev_cells HX1.out
  have hkw := HKW.out _ hB2
  have q1 : ¬ 9223372036854775807 < kb.size + 1 := by omega
  have q2 : ¬ 9223372036854775807 < kb.size + 1 + nm.size := by omega
  go_wp2_with fail
  refine wp_region_noPanic ?_
  refine wp_region_picked [(0, true), (1, true), (2, true), (3, true), (4, true), (5, true), (6, true), (7, true), (8, true)] (fun W' => Below w1.heap.size w1 W') (by kernel_rfl) (by kernel_rfl) (fun _ _ _ _ _ h => h) (Below.refl _ w1).drew ?_
  iterate 9
    refine Picked.take ?_ (by rfl) (by rfl) ?_ ?_
    rotate_left
    · intro w' hw'
      have f0 := (hw'.cell (p := ⟨w.heap.size, 0, none⟩) HX1.out.lt).trans x0
      have f1 := (hw'.cell (p := ⟨w.heap.size, 1, none⟩) HX1.out.lt).trans x1
      have f2 := (hw'.cell (p := ⟨0, 4, none⟩) (HK.out.on hB2).pos).trans hkw
      go_simp
      try with_reducible rfl
    simp only [Act.put, List.getElem_toArray, List.getElem_cons_zero, List.getElem_cons_succ, List.setIfInBounds_toArray, List.set_cons_zero, List.set_cons_succ]
  refine NoPanic.normal ?_
  go_wp2
  go_ret2
  exact ⟨rfl, hB2.drew⟩

set_option maxHeartbeats 4000000 in
theorem line_5 (e : Ev) (A : Option Addr) (c : Nat) (w : World) (hA : Ints w A e.st.2.2) (hok : EvOk e) (hE : evE e = 0) (hkd : e.kd = 5) (hw : Wds w) (hk : KWds w) :
    Calls Tryz.prog 78 #[evV e A c] w (LinePost e w) := by
  have HC := fun W hA => check_ev e A c W hA (Nat.le_trans hok.len (by omega)) hok.nm hok.ob
  obtain ⟨_, _, _, hf1, hf3⟩ := evE_cases hE
  have hT : evT e = evS e := by unfold evT; rw [if_pos hE]
  unfold LinePost
  rw [hT, hE]
  rw [hE] at HC
  clear hE hT
  obtain ⟨kd, nm, ob, ⟨o1, o2, o3, o4, o5⟩, t, n, l⟩ := e
  obtain ⟨hnm, hob, hlen, hsm, hn, ha, hb, hr⟩ := hok
  dsimp only at hA hkd hnm hob hlen hsm hn ha hb hr hf1 hf3
  subst hkd
  have hS : evS ⟨5, nm, ob, (o1, o2, o3, o4, o5), t, n, l⟩ = kwB 5 ++ blB ++ nm := rfl
  rw [hS]
  unfold evV evC at *
  dsimp only at HC ⊢
  have hB0 := alloc1 w (.cells #[.int .i64 5, .string nm, .string ob, .int .i64 o1, .int .i64 o2, .int .i64 o3, .int .i64 o4, .int .i64 o5, .int .i64 t, .int .i64 n, .slice A l.length c] 55)
  have HX := Lib.hid (Holds.new w 55 #[.int .i64 5, .string nm, .string ob, .int .i64 o1, .int .i64 o2, .int .i64 o3, .int .i64 o4, .int .i64 o5, .int .i64 t, .int .i64 n, .slice A l.length c])
  have HA := Lib.hid hA
  have HW := Lib.hid hw
  have HK := Lib.hid hk
  have HKW := Lib.hid (fun W (hB : Below w.heap.size w W) => (hk.on hB) 5 (by omega))
  have hkb : (kwB 5).size ≤ 8 := by decide
  generalize kwB 5 = kb at *
  clear hA hw hk hf1 hf3 hS
  go_enter Tryz.func78, Tryz.ntmps78
  go_upto_region 1 with fail
  generalize w.alloc (.cells #[.int .i64 5, .string nm, .string ob, .int .i64 o1, .int .i64 o2, .int .i64 o3, .int .i64 o4, .int .i64 o5, .int .i64 t, .int .i64 n, .slice A l.length c] 55) = W0 at *
  obtain ⟨x0, x1, x2, x3, x4, x5, x6, x7, x8, x9, x10, y0⟩ := ev_cells HX.out
  go_wp2_with fail
  refine (HC _ (HA.out.below hB0)).mono ?_
  rintro e w1 ⟨rfl, hB1⟩
  have hB2 := nxt hB0 hB1 hB0.size
  have HX1 := Lib.hid (HX.out.below hB1 HX.out.lt)
  clear x0 x1 x2 x3 x4 x5 x6 x7 x8 x9 x10 y0
  obtain ⟨x0, x1, x2, x3, x4, x5, x6, x7, x8, x9, x10, y0⟩ := ev_cells HX1.out
  have hkw := HKW.out _ hB2
  have q1 : ¬ 9223372036854775807 < kb.size + 1 := by omega
  have q2 : ¬ 9223372036854775807 < kb.size + 1 + nm.size := by omega
  go_wp2_with fail
  refine wp_region_noPanic ?_
  refine wp_region_picked [(0, true), (1, true), (2, true), (3, true), (4, true), (5, true), (6, true), (7, true), (8, true)] (fun W' => Below w1.heap.size w1 W') (by kernel_rfl) (by kernel_rfl) (fun _ _ _ _ _ h => h) (Below.refl _ w1).drew ?_
  iterate 9
    refine Picked.take ?_ (by rfl) (by rfl) ?_ ?_
    rotate_left
    · intro w' hw'
      have f0 := (hw'.cell (p := ⟨w.heap.size, 0, none⟩) HX1.out.lt).trans x0
      have f1 := (hw'.cell (p := ⟨w.heap.size, 1, none⟩) HX1.out.lt).trans x1
      have f2 := (hw'.cell (p := ⟨0, 5, none⟩) (HK.out.on hB2).pos).trans hkw
      go_simp
      try with_reducible rfl
    simp only [Act.put, List.getElem_toArray, List.getElem_cons_zero, List.getElem_cons_succ, List.setIfInBounds_toArray, List.set_cons_zero, List.set_cons_succ]
  refine NoPanic.normal ?_
  go_wp2
  go_ret2
  exact ⟨rfl, hB2.drew⟩

theorem line_any (e : Ev) (A : Option Addr) (c : Nat) (w : World) (hA : Ints w A e.st.2.2) (hok : EvOk e) (hw : Wds w) (hk : KWds w) :
    Calls Tryz.prog 78 #[evV e A c] w (LinePost e w) := by
  by_cases hE : evE e = 0
  · rcases (evE_cases hE).1 with h | h | h | h | h
    · exact line_1 e A c w hA hok hE h hw hk
    · exact line_2 e A c w hA hok hE h hw hk
    · exact line_3 e A c w hA hok hE h hw hk
    · exact line_4 e A c w hA hok hE h hw hk
    · exact line_5 e A c w hA hok hE h hw hk
  · exact line_no e A c w hA hok hE
end Go.Proofs.YtpdbkjnaicjfdaaGreatDoor
