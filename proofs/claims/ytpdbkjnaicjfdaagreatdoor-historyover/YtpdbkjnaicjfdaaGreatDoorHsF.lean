/- An event that may follow is taken: an operation, an end. Written by wip/tools/gen_hse.py. -/
import Derived.Test.YtpdbkjnaicjfdaaGreatDoorHsE
namespace Go.Proofs.YtpdbkjnaicjfdaaGreatDoor
open Go.RowKit Go.Maps
set_option linter.unusedVariables false
set_option maxRecDepth 100000

set_option maxHeartbeats 4000000 in
theorem take_op {lo : Nat} {L : Lay} {d : Dk} (kd : Int) (nm ob : ByteArray) (o1 o2 o3 o4 o5 t n : Int) (l : List Int) (A : Option Addr) (c : Nat) (w : World) (h : Dsk w lo L d) (hfew : d.evs < 100) (hlo : lo ≤ w.heap.size) (hnm : nm.size ≤ 8000) (hag : agE d ⟨kd, nm, ob, (o1, o2, o3, o4, o5), t, n, l⟩ = 0) (hk : kd = 3) :
    Calls Tryz.prog 51 #[.pointer (some ⟨L.B, 0, none⟩), .agg #[.int .i64 kd, .string nm, .string ob, .int .i64 o1, .int .i64 o2, .int .i64 o3, .int .i64 o4, .int .i64 o5, .int .i64 t, .int .i64 n, .slice A l.length c]] w (TookPost lo L (takeD d ⟨kd, nm, ob, (o1, o2, o3, o4, o5), t, n, l⟩) w) := by
  have HOK := Lib.hid (h.ok.add hag)
  have HEV := Lib.hid (take_evs d ⟨kd, nm, ob, (o1, o2, o3, o4, o5), t, n, l⟩)
  have hb1 := alloc1 w (.cells #[.int .i64 kd, .string nm, .string ob, .int .i64 o1, .int .i64 o2, .int .i64 o3, .int .i64 o4, .int .i64 o5, .int .i64 t, .int .i64 n, .slice A l.length c] 55)
  have HX := Lib.hid (Holds.new w 55 #[.int .i64 kd, .string nm, .string ob, .int .i64 o1, .int .i64 o2, .int .i64 o3, .int .i64 o4, .int .i64 o5, .int .i64 t, .int .i64 n, .slice A l.length c])
  have HD1 := Lib.hid (h.below hb1)
  have HLT := Lib.hid h.lt
  obtain ⟨z, hz, hr⟩ := ask_run hag (by simp [hk]) (by simp [hk])
  have hlf : ∃ b, L.ls[(tnm d).idxOf nm]? = some b ∧ Holds (w.alloc (.cells #[.int .i64 kd, .string nm, .string ob, .int .i64 o1, .int .i64 o2, .int .i64 o3, .int .i64 o4, .int .i64 o5, .int .i64 t, .int .i64 n, .slice A l.length c] 55)) b tLf (lfC z) ∧ d.trs[(tnm d).idxOf nm]? = some z ∧ z.nm = nm := by
    rcases HD1.out.lfOf nm with ⟨h0, _⟩ | ⟨x, b, h0, h1, h2, h3, h4⟩
    · rw [show lfAt d nm = some z from hz] at h0; cases h0
    · rw [show lfAt d nm = some z from hz] at h0
      cases h0
      exact ⟨b, h1, h2, h3, h4⟩
  obtain ⟨b, hb, hHb, hzi, hzn⟩ := hlf
  have HHB := Lib.hid hHb
  have HB := Lib.hid hb
  have HZI := Lib.hid hzi
  have HZN := Lib.hid hzn
  have hbf : foot L b := .inr (.inr (.inr (.inr (List.mem_of_getElem? hb))))
  have HBF := Lib.hid hbf
  have hbB : b ≠ L.B := fun e => HD1.out.tr.apart HD1.out.box (by decide) (by decide) (e ▸ (.inr (.inr (List.mem_of_getElem? hb))))
  have hzo := h.ok.ops z (List.mem_of_getElem? hzi)
  have HT := Lib.hid (show takeD d ⟨kd, nm, ob, (o1, o2, o3, o4, o5), t, n, l⟩ = ⟨d.obs, d.trs.set ((tnm d).idxOf nm) ⟨z.nm, z.bg, z.en, z.cm, z.ops + 1⟩, d.evs + 1, d.ops + 1⟩ by
    unfold takeD
    rw [if_neg (by simp [hk]), if_neg (by simp [hk]), if_pos hk]
    show (⟨d.obs, turnLs d.evs 3 nm d.trs, d.evs + 1, d.ops + 1⟩ : Dk) = _
    rw [turns_at h.ok.trs hzi hzn]
    rfl)
  have hops := h.ok.few
  rw [HT.out] at HOK HEV ⊢
  subst hk
  clear h hag hz hHb hb hzi hzn hbf
  go_enter Tryz.func51, Tryz.ntmps51
  go_upto_region 1 with fail
  generalize w.alloc (.cells #[.int .i64 3, .string nm, .string ob, .int .i64 o1, .int .i64 o2, .int .i64 o3, .int .i64 o4, .int .i64 o5, .int .i64 t, .int .i64 n, .slice A l.length c] 55) = W1 at *
  have hl1 := HX.out.lt
  obtain ⟨x0, x1, x2, x3, x4, x5, x6, x7, x8, x9, x10, y0⟩ := ev_cells HX.out
  obtain ⟨zn, zb, ze, zc, zo⟩ := z
  dsimp only at hzo hr
  have c3 := (desk_cells HD1.out).2.2.2.1
  have HOf := of_L L.B W1.drew c3 (HD1.out.below ((Below.refl _ W1).drew)).tr nm (by unfold maxLen; omega)
  have hopl : d.ops < 100 := by omega
  have hzo1 : wrap64 (zo + 1) = zo + 1 := by unfold wrap64; omega
  have HZO := Lib.hid hzo1
  have HOP := Lib.hid (up1 hopl)
  have HU := Lib.hid (up1 hfew)
  clear hzo1
  simp only [HB.out, ptrO] at HOf
  have cE : W1.cell? ⟨b, 4, none⟩ = some (.int .i64 zo) := HHB.out.c (j := 4) rfl
  have fE : W1.frozen? ⟨b, 4, none⟩ = false := HHB.out.frozen 4
  have hO1 := only_set W1.drew b 4 (.int .i64 (zo + 1))
  have hH1 := Holds.set (W := W1.drew) (show Holds W1.drew b tLf _ from HHB.out) 4 (.int .i64 (zo + 1))
  have HD2 := Lib.hid ((HD1.out.below ((Below.refl _ W1).drew)).toDskB.setLf (x' := ⟨zn, zb, ze, zc, zo + 1⟩) HB.out HZI.out rfl hO1 hH1)
  go_wp2_with fail
  refine wp_region_noPanic ?_
  refine wp_region_heads [true, true, true, true, true, false, true, true, true, true, true, true] (fun W' => W'.cell? ⟨w.heap.size, 1, none⟩ = some (.string nm) ∧ W'.cell? ⟨b, 4, none⟩ = some (.int .i64 zo)) (by kernel_rfl) (by kernel_rfl) (fun _ _ _ _ _ h => h) ⟨x1, cE⟩ ?_
  iterate 5
    refine Heads.take ?_ (by rfl) ?_ ?_
    rotate_left
    · rintro w' ⟨hw0, hw1⟩
      go_simp
      try with_reducible rfl
    simp only [Act.put, List.setIfInBounds_toArray, List.set_cons_zero, List.set_cons_succ]
  refine Heads.call 53 #[.pointer (some ⟨L.B, 3, none⟩), .string nm] (by rfl) (by go_simp) ?_
  refine HOf.mono ?_
  rintro e w3 ⟨rfl, rfl⟩
  refine ⟨_, rfl, ⟨x1, cE⟩, ?_⟩
  simp only [Act.put, List.setIfInBounds_toArray, List.set_cons_zero, List.set_cons_succ]
  iterate 6
    refine Heads.take ?_ (by rfl) ?_ ?_
    rotate_left
    · rintro w' ⟨hw0, hw1⟩
      go_simp
      try with_reducible rfl
    simp only [Act.put, List.setIfInBounds_toArray, List.set_cons_zero, List.set_cons_succ]
  refine Heads.done ?_
  have cE' : W1.drew.cell? ⟨b, 4, none⟩ = some (.int .i64 zo) := cE
  have fE' : W1.drew.frozen? ⟨b, 4, none⟩ = false := fE
  have hvb : Below w.heap.size w W1.drew := hb1.drew
  generalize W1.drew = V at *
  clear hzo HOf
  go_wp2_with fail
  refine NoPanic.normal ?_
  rw [HZO.out]
  generalize V.setCell ⟨b, 4, none⟩ (.int .i64 (zo + 1)) = W2 at *
  have q6 : W2.cell? ⟨L.B, 6, none⟩ = some (.int .i64 d.ops) := HD2.out.box.c (j := 6) rfl
  have f6 : W2.frozen? ⟨L.B, 6, none⟩ = false := HD2.out.box.frozen 6
  clear x0 x1 x2 x3 x4 x5 x6 x7 x8 x9 x10 y0 cE fE cE' fE'
  have q5 : W2.cell? ⟨L.B, 5, none⟩ = some (.int .i64 d.evs) := HD2.out.box.c (j := 5) rfl
  have f5 : W2.frozen? ⟨L.B, 5, none⟩ = false := HD2.out.box.frozen 5
  go_wp2
  go_end0
  have hO3 := only_set W2 L.B 6 (.int .i64 ((d.ops : Int) + 1))
  have HD3 := Lib.hid (HD2.out.counts d.evs (d.ops + 1) hO3 (HD2.out.box.set 6 (.int .i64 ((d.ops : Int) + 1))))
  have hO4 := only_set (W2.setCell ⟨L.B, 6, none⟩ (.int .i64 ((d.ops : Int) + 1))) L.B 5 (.int .i64 ((d.evs : Int) + 1))
  have hD4 := HD3.out.counts (d.evs + 1) (d.ops + 1) hO4 (HD3.out.box.set 5 (.int .i64 ((d.evs : Int) + 1)))
  have hv : But (foot L) w V := but_of_below hvb
  refine ⟨rfl, L, ⟨hD4, HOK.out, by show d.evs + 1 ≤ 100; omega⟩, rfl, ((hv.trans (But.only hO1 HBF.out)).trans (But.only hO3 (.inl rfl))).trans (But.only hO4 (.inl rfl)), fun k hk => .inl hk⟩

set_option maxHeartbeats 4000000 in
theorem take_en4 {lo : Nat} {L : Lay} {d : Dk} (kd : Int) (nm ob : ByteArray) (o1 o2 o3 o4 o5 t n : Int) (l : List Int) (A : Option Addr) (c : Nat) (w : World) (h : Dsk w lo L d) (hfew : d.evs < 100) (hlo : lo ≤ w.heap.size) (hnm : nm.size ≤ 8000) (hag : agE d ⟨kd, nm, ob, (o1, o2, o3, o4, o5), t, n, l⟩ = 0) (hk : kd = 4) :
    Calls Tryz.prog 51 #[.pointer (some ⟨L.B, 0, none⟩), .agg #[.int .i64 kd, .string nm, .string ob, .int .i64 o1, .int .i64 o2, .int .i64 o3, .int .i64 o4, .int .i64 o5, .int .i64 t, .int .i64 n, .slice A l.length c]] w (TookPost lo L (takeD d ⟨kd, nm, ob, (o1, o2, o3, o4, o5), t, n, l⟩) w) := by
  have HOK := Lib.hid (h.ok.add hag)
  have HEV := Lib.hid (take_evs d ⟨kd, nm, ob, (o1, o2, o3, o4, o5), t, n, l⟩)
  have hb1 := alloc1 w (.cells #[.int .i64 kd, .string nm, .string ob, .int .i64 o1, .int .i64 o2, .int .i64 o3, .int .i64 o4, .int .i64 o5, .int .i64 t, .int .i64 n, .slice A l.length c] 55)
  have HX := Lib.hid (Holds.new w 55 #[.int .i64 kd, .string nm, .string ob, .int .i64 o1, .int .i64 o2, .int .i64 o3, .int .i64 o4, .int .i64 o5, .int .i64 t, .int .i64 n, .slice A l.length c])
  have HD1 := Lib.hid (h.below hb1)
  have HLT := Lib.hid h.lt
  obtain ⟨z, hz, hr⟩ := ask_run hag (by simp [hk]) (by simp [hk])
  have hlf : ∃ b, L.ls[(tnm d).idxOf nm]? = some b ∧ Holds (w.alloc (.cells #[.int .i64 kd, .string nm, .string ob, .int .i64 o1, .int .i64 o2, .int .i64 o3, .int .i64 o4, .int .i64 o5, .int .i64 t, .int .i64 n, .slice A l.length c] 55)) b tLf (lfC z) ∧ d.trs[(tnm d).idxOf nm]? = some z ∧ z.nm = nm := by
    rcases HD1.out.lfOf nm with ⟨h0, _⟩ | ⟨x, b, h0, h1, h2, h3, h4⟩
    · rw [show lfAt d nm = some z from hz] at h0; cases h0
    · rw [show lfAt d nm = some z from hz] at h0
      cases h0
      exact ⟨b, h1, h2, h3, h4⟩
  obtain ⟨b, hb, hHb, hzi, hzn⟩ := hlf
  have HHB := Lib.hid hHb
  have HB := Lib.hid hb
  have HZI := Lib.hid hzi
  have HZN := Lib.hid hzn
  have hbf : foot L b := .inr (.inr (.inr (.inr (List.mem_of_getElem? hb))))
  have HBF := Lib.hid hbf
  have hbB : b ≠ L.B := fun e => HD1.out.tr.apart HD1.out.box (by decide) (by decide) (e ▸ (.inr (.inr (List.mem_of_getElem? hb))))
  have hzo := h.ok.ops z (List.mem_of_getElem? hzi)
  have HT := Lib.hid (show takeD d ⟨kd, nm, ob, (o1, o2, o3, o4, o5), t, n, l⟩ = ⟨d.obs, d.trs.set ((tnm d).idxOf nm) ⟨z.nm, z.bg, d.evs, true, z.ops⟩, d.evs + 1, d.ops⟩ by
    unfold takeD
    rw [if_neg (by simp [hk]), if_neg (by simp [hk]), if_neg (by simp [hk])]
    show (⟨d.obs, turnLs d.evs kd nm d.trs, d.evs + 1, d.ops⟩ : Dk) = _
    rw [hk, turns_at h.ok.trs hzi hzn]
    rfl)
  rw [HT.out] at HOK HEV ⊢
  subst hk
  clear h hag hz hHb hb hzi hzn hbf
  go_enter Tryz.func51, Tryz.ntmps51
  go_upto_region 1 with fail
  generalize w.alloc (.cells #[.int .i64 4, .string nm, .string ob, .int .i64 o1, .int .i64 o2, .int .i64 o3, .int .i64 o4, .int .i64 o5, .int .i64 t, .int .i64 n, .slice A l.length c] 55) = W1 at *
  have hl1 := HX.out.lt
  obtain ⟨x0, x1, x2, x3, x4, x5, x6, x7, x8, x9, x10, y0⟩ := ev_cells HX.out
  obtain ⟨zn, zb, ze, zc, zo⟩ := z
  dsimp only at hzo hr
  have c3 := (desk_cells HD1.out).2.2.2.1
  have HOf := fun n => of_L L.B (W1.drewN n) c3 (HD1.out.drewN n).tr nm (by unfold maxLen; omega)
  simp only [HB.out, ptrO] at HOf
  go_wp2_with fail
  go_quiet ((go_at_call 53; exact Calls.quiet_of (same_q (HOf _))))
  rename_i nq
  have cB : (W1.drewN nq).cell? ⟨b, 2, none⟩ = some (.int .i64 ze) := HHB.out.c (j := 2) rfl
  have cC : (W1.drewN nq).cell? ⟨b, 3, none⟩ = some (.bool zc) := HHB.out.c (j := 3) rfl
  have fB : (W1.drewN nq).frozen? ⟨b, 2, none⟩ = false := HHB.out.frozen 2
  have fC : (W1.drewN nq).frozen? ⟨b, 3, none⟩ = false := HHB.out.frozen 3
  have z0 : (W1.drewN nq).cell? ⟨w.heap.size, 0, none⟩ = some (.int .i64 4) := x0
  have cV : (W1.drewN nq).cell? ⟨L.B, 5, none⟩ = some (.int .i64 d.evs) := HD1.out.box.c (j := 5) rfl
  have HHV := Lib.hid (show Holds (W1.drewN nq) b tLf _ from HHB.out)
  have HXV := Lib.hid (show Holds (W1.drewN nq) w.heap.size 55 _ from HX.out)
  have HDV := Lib.hid (HD1.out.drewN nq)
  have hvb : Below w.heap.size w (W1.drewN nq) := belowN hb1 nq
  clear x0 x1 x2 x3 x4 x5 x6 x7 x8 x9 x10 y0 c3 HOf hzo
  generalize W1.drewN nq = V at *
  go_wp2_with fail
  have hbw : b ≠ w.heap.size := fun e => by
    have h1 := (show Holds V b tLf _ from HHV.out)
    have h2 := (show Holds V w.heap.size 55 _ from HXV.out)
    rw [e] at h1
    have h3 := (show V.heap[w.heap.size]? = _ from h1).symm.trans (show V.heap[w.heap.size]? = _ from h2)
    exact absurd (show tLf = 55 from by injection h3 with h3; injection h3) (by decide)
  have cB : V.drew.cell? ⟨b, 2, none⟩ = some (.int .i64 ze) := cB
  have cC : V.drew.cell? ⟨b, 3, none⟩ = some (.bool zc) := cC
  have fB : V.drew.frozen? ⟨b, 2, none⟩ = false := fB
  have fC : V.drew.frozen? ⟨b, 3, none⟩ = false := fC
  have cV : V.drew.cell? ⟨L.B, 5, none⟩ = some (.int .i64 d.evs) := cV
  have z0 : V.drew.cell? ⟨w.heap.size, 0, none⟩ = some (.int .i64 4) := z0
  have HHV := Lib.hid (show Holds V.drew b tLf _ from HHV.out)
  have HDV := Lib.hid (HDV.out.below ((Below.refl _ V).drew))
  have hvb : Below w.heap.size w V.drew := hvb.drew
  refine wp_region_noPanic ?_
  refine wp_region_picked [(0, true), (1, true), (2, true), (3, true), (4, true), (5, true), (6, true), (7, true), (8, true), (9, true), (10, true), (11, false), (12, true), (13, true), (14, false)] (fun W' => W'.cell? ⟨L.B, 5, none⟩ = some (.int .i64 d.evs) ∧ W'.cell? ⟨w.heap.size, 0, none⟩ = some (.int .i64 4)) (by kernel_rfl) (by kernel_rfl) (fun _ _ _ _ _ h => h) ⟨cV, z0⟩ ?_
  generalize V.drew = U at *
  have hO1 := only_set U b 2 (.int .i64 d.evs)
  have hO2 := only_set (U.setCell ⟨b, 2, none⟩ (.int .i64 d.evs)) b 3 (.bool true)
  have HD2 := Lib.hid (HDV.out.toDskB.setLf (x' := ⟨zn, zb, d.evs, true, zo⟩) HB.out HZI.out rfl (hO1.then hO2) ((HHV.out.set 2 (.int .i64 d.evs)).set 3 (.bool true)))
  iterate 11
    refine Picked.take ?_ (by rfl) (by rfl) ?_ ?_
    rotate_left
    · rintro w' ⟨hw0, hw1⟩
      go_simp
      try with_reducible rfl
    simp only [Act.put, List.getElem_toArray, List.getElem_cons_zero, List.getElem_cons_succ, List.setIfInBounds_toArray, List.set_cons_zero, List.set_cons_succ]
  refine ⟨_, by rfl, by rfl, ?_⟩
  go_simp
  have hS2 : (U.setCell ⟨b, 2, none⟩ (.int .i64 d.evs)).cell? ⟨L.B, 5, none⟩ = some (.int .i64 d.evs) ∧ (U.setCell ⟨b, 2, none⟩ (.int .i64 d.evs)).cell? ⟨w.heap.size, 0, none⟩ = some (.int .i64 4) :=
    ⟨by rw [World.cell?_setCell_other _ _ _ _ (by intro e; exact hbB (show b = L.B from (congrArg Addr.block e)))]; exact cV, by rw [World.cell?_setCell_other _ _ _ _ (by intro e; exact hbw (show b = w.heap.size from (congrArg Addr.block e)))]; exact z0⟩
  have cC2 : (U.setCell ⟨b, 2, none⟩ (.int .i64 d.evs)).cell? ⟨b, 3, none⟩ = some (.bool zc) := by rw [World.cell?_setCell_other _ _ _ _ (by simp)]; exact cC
  have fC2 : (U.setCell ⟨b, 2, none⟩ (.int .i64 d.evs)).frozen? ⟨b, 3, none⟩ = false := by rw [World.frozen?_setCell]; exact fC
  try refine And.intro hS2 ?_
  have hS3 : ((U.setCell ⟨b, 2, none⟩ (.int .i64 d.evs)).setCell ⟨b, 3, none⟩ (.bool true)).cell? ⟨L.B, 5, none⟩ = some (.int .i64 d.evs) ∧ ((U.setCell ⟨b, 2, none⟩ (.int .i64 d.evs)).setCell ⟨b, 3, none⟩ (.bool true)).cell? ⟨w.heap.size, 0, none⟩ = some (.int .i64 4) :=
    ⟨by rw [World.cell?_setCell_other _ _ _ _ (by intro e; exact hbB (show b = L.B from (congrArg Addr.block e)))]; exact hS2.1, by rw [World.cell?_setCell_other _ _ _ _ (by intro e; exact hbw (show b = w.heap.size from (congrArg Addr.block e)))]; exact hS2.2⟩
  clear cB cC fB fC z0 cV hS2
  generalize hU2 : U.setCell ⟨b, 2, none⟩ (.int .i64 d.evs) = U2 at *
  iterate 2
    refine Picked.take ?_ (by rfl) (by rfl) ?_ ?_
    rotate_left
    · rintro w' ⟨hw0, hw1⟩
      go_simp
      try with_reducible rfl
    simp only [Act.put, List.getElem_toArray, List.getElem_cons_zero, List.getElem_cons_succ, List.setIfInBounds_toArray, List.set_cons_zero, List.set_cons_succ]
  refine ⟨_, by rfl, by rfl, ?_⟩
  go_simp
  try refine And.intro hS3 ?_
  clear hS3 cC2 fC2
  refine NoPanic.normal ?_
  generalize U2.setCell ⟨b, 3, none⟩ (.bool true) = W2 at *
  have q5 : W2.cell? ⟨L.B, 5, none⟩ = some (.int .i64 d.evs) := HD2.out.box.c (j := 5) rfl
  have f5 : W2.frozen? ⟨L.B, 5, none⟩ = false := HD2.out.box.frozen 5
  go_wp2
  go_end0
  have hO4 := only_set W2 L.B 5 (.int .i64 ((d.evs : Int) + 1))
  have hD4 := HD2.out.counts (d.evs + 1) d.ops hO4 (HD2.out.box.set 5 (.int .i64 ((d.evs : Int) + 1)))
  have hv : But (foot L) w U := but_of_below hvb
  refine ⟨rfl, L, ⟨hD4, HOK.out, by show d.evs + 1 ≤ 100; omega⟩, rfl, (hv.trans (But.only (hO1.then hO2) HBF.out)).trans (But.only hO4 (.inl rfl)), fun k hk => .inl hk⟩

set_option maxHeartbeats 4000000 in
theorem take_en5 {lo : Nat} {L : Lay} {d : Dk} (kd : Int) (nm ob : ByteArray) (o1 o2 o3 o4 o5 t n : Int) (l : List Int) (A : Option Addr) (c : Nat) (w : World) (h : Dsk w lo L d) (hfew : d.evs < 100) (hlo : lo ≤ w.heap.size) (hnm : nm.size ≤ 8000) (hag : agE d ⟨kd, nm, ob, (o1, o2, o3, o4, o5), t, n, l⟩ = 0) (hk : kd = 5) :
    Calls Tryz.prog 51 #[.pointer (some ⟨L.B, 0, none⟩), .agg #[.int .i64 kd, .string nm, .string ob, .int .i64 o1, .int .i64 o2, .int .i64 o3, .int .i64 o4, .int .i64 o5, .int .i64 t, .int .i64 n, .slice A l.length c]] w (TookPost lo L (takeD d ⟨kd, nm, ob, (o1, o2, o3, o4, o5), t, n, l⟩) w) := by
  have HOK := Lib.hid (h.ok.add hag)
  have HEV := Lib.hid (take_evs d ⟨kd, nm, ob, (o1, o2, o3, o4, o5), t, n, l⟩)
  have hb1 := alloc1 w (.cells #[.int .i64 kd, .string nm, .string ob, .int .i64 o1, .int .i64 o2, .int .i64 o3, .int .i64 o4, .int .i64 o5, .int .i64 t, .int .i64 n, .slice A l.length c] 55)
  have HX := Lib.hid (Holds.new w 55 #[.int .i64 kd, .string nm, .string ob, .int .i64 o1, .int .i64 o2, .int .i64 o3, .int .i64 o4, .int .i64 o5, .int .i64 t, .int .i64 n, .slice A l.length c])
  have HD1 := Lib.hid (h.below hb1)
  have HLT := Lib.hid h.lt
  obtain ⟨z, hz, hr⟩ := ask_run hag (by simp [hk]) (by simp [hk])
  have hlf : ∃ b, L.ls[(tnm d).idxOf nm]? = some b ∧ Holds (w.alloc (.cells #[.int .i64 kd, .string nm, .string ob, .int .i64 o1, .int .i64 o2, .int .i64 o3, .int .i64 o4, .int .i64 o5, .int .i64 t, .int .i64 n, .slice A l.length c] 55)) b tLf (lfC z) ∧ d.trs[(tnm d).idxOf nm]? = some z ∧ z.nm = nm := by
    rcases HD1.out.lfOf nm with ⟨h0, _⟩ | ⟨x, b, h0, h1, h2, h3, h4⟩
    · rw [show lfAt d nm = some z from hz] at h0; cases h0
    · rw [show lfAt d nm = some z from hz] at h0
      cases h0
      exact ⟨b, h1, h2, h3, h4⟩
  obtain ⟨b, hb, hHb, hzi, hzn⟩ := hlf
  have HHB := Lib.hid hHb
  have HB := Lib.hid hb
  have HZI := Lib.hid hzi
  have HZN := Lib.hid hzn
  have hbf : foot L b := .inr (.inr (.inr (.inr (List.mem_of_getElem? hb))))
  have HBF := Lib.hid hbf
  have hbB : b ≠ L.B := fun e => HD1.out.tr.apart HD1.out.box (by decide) (by decide) (e ▸ (.inr (.inr (List.mem_of_getElem? hb))))
  have hzo := h.ok.ops z (List.mem_of_getElem? hzi)
  have HT := Lib.hid (show takeD d ⟨kd, nm, ob, (o1, o2, o3, o4, o5), t, n, l⟩ = ⟨d.obs, d.trs.set ((tnm d).idxOf nm) ⟨z.nm, z.bg, d.evs, false, z.ops⟩, d.evs + 1, d.ops⟩ by
    unfold takeD
    rw [if_neg (by simp [hk]), if_neg (by simp [hk]), if_neg (by simp [hk])]
    show (⟨d.obs, turnLs d.evs kd nm d.trs, d.evs + 1, d.ops⟩ : Dk) = _
    rw [hk, turns_at h.ok.trs hzi hzn]
    rfl)
  rw [HT.out] at HOK HEV ⊢
  subst hk
  clear h hag hz hHb hb hzi hzn hbf
  go_enter Tryz.func51, Tryz.ntmps51
  go_upto_region 1 with fail
  generalize w.alloc (.cells #[.int .i64 5, .string nm, .string ob, .int .i64 o1, .int .i64 o2, .int .i64 o3, .int .i64 o4, .int .i64 o5, .int .i64 t, .int .i64 n, .slice A l.length c] 55) = W1 at *
  have hl1 := HX.out.lt
  obtain ⟨x0, x1, x2, x3, x4, x5, x6, x7, x8, x9, x10, y0⟩ := ev_cells HX.out
  obtain ⟨zn, zb, ze, zc, zo⟩ := z
  dsimp only at hzo hr
  have c3 := (desk_cells HD1.out).2.2.2.1
  have HOf := fun n => of_L L.B (W1.drewN n) c3 (HD1.out.drewN n).tr nm (by unfold maxLen; omega)
  simp only [HB.out, ptrO] at HOf
  go_wp2_with fail
  go_quiet ((go_at_call 53; exact Calls.quiet_of (same_q (HOf _))))
  rename_i nq
  have cB : (W1.drewN nq).cell? ⟨b, 2, none⟩ = some (.int .i64 ze) := HHB.out.c (j := 2) rfl
  have cC : (W1.drewN nq).cell? ⟨b, 3, none⟩ = some (.bool zc) := HHB.out.c (j := 3) rfl
  have fB : (W1.drewN nq).frozen? ⟨b, 2, none⟩ = false := HHB.out.frozen 2
  have fC : (W1.drewN nq).frozen? ⟨b, 3, none⟩ = false := HHB.out.frozen 3
  have z0 : (W1.drewN nq).cell? ⟨w.heap.size, 0, none⟩ = some (.int .i64 5) := x0
  have cV : (W1.drewN nq).cell? ⟨L.B, 5, none⟩ = some (.int .i64 d.evs) := HD1.out.box.c (j := 5) rfl
  have HHV := Lib.hid (show Holds (W1.drewN nq) b tLf _ from HHB.out)
  have HXV := Lib.hid (show Holds (W1.drewN nq) w.heap.size 55 _ from HX.out)
  have HDV := Lib.hid (HD1.out.drewN nq)
  have hvb : Below w.heap.size w (W1.drewN nq) := belowN hb1 nq
  clear x0 x1 x2 x3 x4 x5 x6 x7 x8 x9 x10 y0 c3 HOf hzo
  generalize W1.drewN nq = V at *
  go_wp2_with fail
  have hbw : b ≠ w.heap.size := fun e => by
    have h1 := (show Holds V b tLf _ from HHV.out)
    have h2 := (show Holds V w.heap.size 55 _ from HXV.out)
    rw [e] at h1
    have h3 := (show V.heap[w.heap.size]? = _ from h1).symm.trans (show V.heap[w.heap.size]? = _ from h2)
    exact absurd (show tLf = 55 from by injection h3 with h3; injection h3) (by decide)
  have cB : V.drew.cell? ⟨b, 2, none⟩ = some (.int .i64 ze) := cB
  have cC : V.drew.cell? ⟨b, 3, none⟩ = some (.bool zc) := cC
  have fB : V.drew.frozen? ⟨b, 2, none⟩ = false := fB
  have fC : V.drew.frozen? ⟨b, 3, none⟩ = false := fC
  have cV : V.drew.cell? ⟨L.B, 5, none⟩ = some (.int .i64 d.evs) := cV
  have z0 : V.drew.cell? ⟨w.heap.size, 0, none⟩ = some (.int .i64 5) := z0
  have HHV := Lib.hid (show Holds V.drew b tLf _ from HHV.out)
  have HDV := Lib.hid (HDV.out.below ((Below.refl _ V).drew))
  have hvb : Below w.heap.size w V.drew := hvb.drew
  refine wp_region_noPanic ?_
  refine wp_region_picked [(0, true), (1, true), (2, true), (3, true), (4, true), (5, true), (6, true), (7, true), (8, true), (9, true), (10, true), (11, false), (12, true), (13, true), (14, false)] (fun W' => W'.cell? ⟨L.B, 5, none⟩ = some (.int .i64 d.evs) ∧ W'.cell? ⟨w.heap.size, 0, none⟩ = some (.int .i64 5)) (by kernel_rfl) (by kernel_rfl) (fun _ _ _ _ _ h => h) ⟨cV, z0⟩ ?_
  generalize V.drew = U at *
  have hO1 := only_set U b 2 (.int .i64 d.evs)
  have hO2 := only_set (U.setCell ⟨b, 2, none⟩ (.int .i64 d.evs)) b 3 (.bool false)
  have HD2 := Lib.hid (HDV.out.toDskB.setLf (x' := ⟨zn, zb, d.evs, false, zo⟩) HB.out HZI.out rfl (hO1.then hO2) ((HHV.out.set 2 (.int .i64 d.evs)).set 3 (.bool false)))
  iterate 11
    refine Picked.take ?_ (by rfl) (by rfl) ?_ ?_
    rotate_left
    · rintro w' ⟨hw0, hw1⟩
      go_simp
      try with_reducible rfl
    simp only [Act.put, List.getElem_toArray, List.getElem_cons_zero, List.getElem_cons_succ, List.setIfInBounds_toArray, List.set_cons_zero, List.set_cons_succ]
  refine ⟨_, by rfl, by rfl, ?_⟩
  go_simp
  have hS2 : (U.setCell ⟨b, 2, none⟩ (.int .i64 d.evs)).cell? ⟨L.B, 5, none⟩ = some (.int .i64 d.evs) ∧ (U.setCell ⟨b, 2, none⟩ (.int .i64 d.evs)).cell? ⟨w.heap.size, 0, none⟩ = some (.int .i64 5) :=
    ⟨by rw [World.cell?_setCell_other _ _ _ _ (by intro e; exact hbB (show b = L.B from (congrArg Addr.block e)))]; exact cV, by rw [World.cell?_setCell_other _ _ _ _ (by intro e; exact hbw (show b = w.heap.size from (congrArg Addr.block e)))]; exact z0⟩
  have cC2 : (U.setCell ⟨b, 2, none⟩ (.int .i64 d.evs)).cell? ⟨b, 3, none⟩ = some (.bool zc) := by rw [World.cell?_setCell_other _ _ _ _ (by simp)]; exact cC
  have fC2 : (U.setCell ⟨b, 2, none⟩ (.int .i64 d.evs)).frozen? ⟨b, 3, none⟩ = false := by rw [World.frozen?_setCell]; exact fC
  try refine And.intro hS2 ?_
  have hS3 : ((U.setCell ⟨b, 2, none⟩ (.int .i64 d.evs)).setCell ⟨b, 3, none⟩ (.bool false)).cell? ⟨L.B, 5, none⟩ = some (.int .i64 d.evs) ∧ ((U.setCell ⟨b, 2, none⟩ (.int .i64 d.evs)).setCell ⟨b, 3, none⟩ (.bool false)).cell? ⟨w.heap.size, 0, none⟩ = some (.int .i64 5) :=
    ⟨by rw [World.cell?_setCell_other _ _ _ _ (by intro e; exact hbB (show b = L.B from (congrArg Addr.block e)))]; exact hS2.1, by rw [World.cell?_setCell_other _ _ _ _ (by intro e; exact hbw (show b = w.heap.size from (congrArg Addr.block e)))]; exact hS2.2⟩
  clear cB cC fB fC z0 cV hS2
  generalize hU2 : U.setCell ⟨b, 2, none⟩ (.int .i64 d.evs) = U2 at *
  iterate 2
    refine Picked.take ?_ (by rfl) (by rfl) ?_ ?_
    rotate_left
    · rintro w' ⟨hw0, hw1⟩
      go_simp
      try with_reducible rfl
    simp only [Act.put, List.getElem_toArray, List.getElem_cons_zero, List.getElem_cons_succ, List.setIfInBounds_toArray, List.set_cons_zero, List.set_cons_succ]
  refine ⟨_, by rfl, by rfl, ?_⟩
  go_simp
  try refine And.intro hS3 ?_
  clear hS3 cC2 fC2
  refine NoPanic.normal ?_
  generalize U2.setCell ⟨b, 3, none⟩ (.bool false) = W2 at *
  have q5 : W2.cell? ⟨L.B, 5, none⟩ = some (.int .i64 d.evs) := HD2.out.box.c (j := 5) rfl
  have f5 : W2.frozen? ⟨L.B, 5, none⟩ = false := HD2.out.box.frozen 5
  go_wp2
  go_end0
  have hO4 := only_set W2 L.B 5 (.int .i64 ((d.evs : Int) + 1))
  have hD4 := HD2.out.counts (d.evs + 1) d.ops hO4 (HD2.out.box.set 5 (.int .i64 ((d.evs : Int) + 1)))
  have hv : But (foot L) w U := but_of_below hvb
  refine ⟨rfl, L, ⟨hD4, HOK.out, by show d.evs + 1 ≤ 100; omega⟩, rfl, (hv.trans (But.only (hO1.then hO2) HBF.out)).trans (But.only hO4 (.inl rfl)), fun k hk => .inl hk⟩
end Go.Proofs.YtpdbkjnaicjfdaaGreatDoor
