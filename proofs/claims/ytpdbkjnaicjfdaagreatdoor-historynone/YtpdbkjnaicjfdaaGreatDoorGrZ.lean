/- The document's functions of the layer grammar: Check. -/
import Derived.Test.YtpdbkjnaicjfdaaGreatDoorGrY
namespace Go.Proofs.YtpdbkjnaicjfdaaGreatDoor
open Go.RowKit Go.Maps
set_option linter.unusedVariables false
set_option maxRecDepth 100000

theorem bareB_is (kd : Int) (nm ob : ByteArray) (o : OpT) (s : StT) : bareB ⟨kd, nm, ob, o, s⟩ = (((kd == 1) || stzB s) && ((kd == 3) || ((ob == emB) && sameOpT o op0))) := rfl
theorem kw_some (k : Nat) (h : 1 ≤ k ∧ k ≤ 5) : (kwB k).toList.isEmpty = false := by
  rw [em_beq]
  have : k = 1 ∨ k = 2 ∨ k = 3 ∨ k = 4 ∨ k = 5 := by omega
  rcases this with rfl | rfl | rfl | rfl | rfl <;> decide +kernel

set_option maxHeartbeats 4000000 in
theorem rcheck_1 (kd : Int) (nm ob : ByteArray) (o1 o2 o3 o4 o5 t n : Int) (A : Option Addr) (c : Nat) (l : List Int) (w : World) (hA : Ints w A l) (hlen : l.length ≤ 20000) (hnm : nm.size ≤ 8000) (hob : ob.size ≤ 8000) (hkd : kd = 1) :
    Calls Tryz.prog 64 #[evV ⟨kd, nm, ob, (o1, o2, o3, o4, o5), t, n, l⟩ A c] w (Says (.int .i64 (evE ⟨kd, nm, ob, (o1, o2, o3, o4, o5), t, n, l⟩)) w) := by
  subst hkd
  unfold evV evC
  dsimp only
  have hB0 := alloc1 w (.cells #[.int .i64 1, .string nm, .string ob, .int .i64 o1, .int .i64 o2, .int .i64 o3, .int .i64 o4, .int .i64 o5, .int .i64 t, .int .i64 n, .slice A l.length c] 55)
  have HX := Lib.hid (Holds.new w 55 #[.int .i64 1, .string nm, .string ob, .int .i64 o1, .int .i64 o2, .int .i64 o3, .int .i64 o4, .int .i64 o5, .int .i64 t, .int .i64 n, .slice A l.length c])
  have HW := fun W => kword_any 1 W
  have hkw : rkwB 1 = kwB (Int.toNat 1) := by unfold rkwB; rw [if_neg (by decide)]
  have hks : (kwB (Int.toNat 1)).toList.isEmpty = false := kw_some _ (by decide)
  rw [hkw] at HW
  clear hkw
  generalize kwB (Int.toNat 1) = kb at *
  have HN := fun W => nm_rcheck_any nm W hnm
  have HO := fun W => nm_rcheck_any ob W hob
  have HT := Lib.hid (nm_check_two nm)
  have HTO := Lib.hid (nm_check_two ob)
  have HS := fun W hA => st_rcheck_any t n A c l W hA hlen
  have HP := fun W => op_rcheck_any o1 o2 o3 o4 o5 W
  have HE := fun W => empty_any t n A c l W
  have hneq := fun W => neq_op W o1 o2 o3 o4 o5
  unfold stV at HS
  unfold opV at HP
  have HA := Lib.hid hA
  have hx : evE ⟨1, nm, ob, (o1, o2, o3, o4, o5), t, n, l⟩ = if bareB ⟨1, nm, ob, (o1, o2, o3, o4, o5), t, n, l⟩ = false then 2 else if nm_checkE nm ≠ 0 then nm_checkE nm else if (1 : Int) = 1 then firstE (t, n, l) else if (1 : Int) = 3 then doneE ob (o1, o2, o3, o4, o5) else 0 := by
    unfold evE
    dsimp only
    rw [if_neg (by decide)]
  rw [bareB_is] at hx
  have hfe : firstE (t, n, l) = if st_checkE t n l ≠ 0 then st_checkE t n l else if 1000 < l.length then 4 else 0 := rfl
  have hde : doneE ob (o1, o2, o3, o4, o5) = if nm_checkE ob ≠ 0 then nm_checkE ob else checkP o1 o2 o3 o4 o5 := rfl
  obtain ⟨F, hF⟩ : ∃ F, evE ⟨1, nm, ob, (o1, o2, o3, o4, o5), t, n, l⟩ = F := ⟨_, rfl⟩
  rw [hF] at hx ⊢
  generalize nm_checkE nm = ne at *
  generalize nm_checkE ob = oe at *
  generalize firstE (t, n, l) = fe at *
  generalize doneE ob (o1, o2, o3, o4, o5) = de at *
  generalize st_checkE t n l = ce at *
  generalize checkP o1 o2 o3 o4 o5 = pe at *
  generalize sameOpT (o1, o2, o3, o4, o5) op0 = so at *
  generalize stzB (t, n, l) = sb at *
  have hemi := em_iff ob
  obtain ⟨be, hbe⟩ : ∃ be, (ob == emB) = be := ⟨_, rfl⟩
  rw [hbe] at hx
  have hl : (ob.toList = [] ∧ ob.toList.isEmpty = true) ∧ be = true ∨ (¬ ob.toList = [] ∧ ob.toList.isEmpty = false) ∧ be = false := by
    by_cases hh : ob = emB
    · exact .inl ⟨⟨hemi.2 hh, by rw [hemi.2 hh]; rfl⟩, by rw [← hbe]; simp [hh]⟩
    · exact .inr ⟨⟨fun e => hh (hemi.1 e), by rw [← Bool.not_eq_true, List.isEmpty_iff]; exact fun e => hh (hemi.1 e)⟩, by rw [← hbe]; simpa using hh⟩
  have HFE := Lib.hid hfe
  have HDE := Lib.hid hde
  have HXF := Lib.hid hx
  clear hx hF hA hlen hnm hob hemi hbe hfe hde
  go_enter Tryz.func64, Tryz.ntmps64
  go_upto_region 1 with fail
  generalize w.alloc (.cells #[.int .i64 1, .string nm, .string ob, .int .i64 o1, .int .i64 o2, .int .i64 o3, .int .i64 o4, .int .i64 o5, .int .i64 t, .int .i64 n, .slice A l.length c] 55) = W0 at *
  obtain ⟨x0, x1, x2, x3, x4, x5, x6, x7, x8, x9, x10, y0⟩ := ev_cells HX.out
  go_region
  have HXD := Lib.hid (HX.out.below (Below.refl _ W0).drew HX.out.lt)
  have hBD := hB0.drew
  clear x0 x1 x2 x3 x4 x5 x6 x7 x8 x9 x10 y0
  obtain ⟨x0, x1, x2, x3, x4, x5, x6, x7, x8, x9, x10, y0⟩ := ev_cells HXD.out
  go_wp2_with fail
  refine (HW _).mono ?_
  rintro e w1 ⟨rfl, hB1⟩
  have HX1 := Lib.hid (HXD.out.below hB1 HXD.out.lt)
  have hB2 := nxt hBD hB1 hBD.size
  clear x0 x1 x2 x3 x4 x5 x6 x7 x8 x9 x10 y0
  obtain ⟨x0, x1, x2, x3, x4, x5, x6, x7, x8, x9, x10, y0⟩ := ev_cells HX1.out
  rcases hl with ⟨⟨h1, h2⟩, rfl⟩ | ⟨⟨h1, h2⟩, rfl⟩
  · cases so
    · have e2 : F = 2 := HXF.out
      subst e2
      go_wp2
      go_ret
      exact ⟨rfl, hB2⟩
    · have e2 : F = if ne ≠ 0 then ne else if (1 : Int) = 1 then fe else if (1 : Int) = 3 then de else 0 := HXF.out
      have E2 := Lib.hid e2
      clear e2
      rcases HT.out with hn0 | hn0
      · rw [hn0] at HN E2
        have e3 : F = if ce ≠ 0 then ce else if 1000 < l.length then 4 else 0 := by rw [E2.out, if_neg (by simp), if_pos rfl]; exact HFE.out
        have E4 := Lib.hid e3
        clear e3
        go_wp2_with fail
        refine (HN _).mono ?_
        rintro e u1 ⟨rfl, rfl⟩
        go_wp2_with fail
        refine (HS _ (HA.out.below hB2)).mono ?_
        rintro e w7 ⟨rfl, hB7⟩
        have hB8 := nxt hB2 hB7 hB2.size
        have HX9 := Lib.hid (HX1.out.below hB7 HX1.out.lt)
        clear x0 x1 x2 x3 x4 x5 x6 x7 x8 x9 x10 y0
        obtain ⟨x0, x1, x2, x3, x4, x5, x6, x7, x8, x9, x10, y0⟩ := ev_cells HX9.out
        by_cases hce : ce = 0
        · subst hce
          by_cases hln : 1000 < l.length
          · have d1 : decide ((1000 : Int) < (l.length : Int)) = true := decide_eq_true (by omega)
            have e5 : F = 4 := by rw [E4.out, if_neg (by simp), if_pos hln]
            subst e5
            go_wp2
            go_ret
            exact ⟨rfl, hB8⟩
          · have d1 : decide ((1000 : Int) < (l.length : Int)) = false := decide_eq_false (by omega)
            have e5 : F = 0 := by rw [E4.out, if_neg (by simp), if_neg hln]
            subst e5
            go_wp2
            go_ret
            exact ⟨rfl, hB8⟩
        · have e5 : F = ce := by rw [E4.out, if_pos hce]
          subst e5
          have d1 : (F == 0) = false := by simpa using hce
          go_wp2
          go_ret
          exact ⟨rfl, hB8⟩
      · rw [hn0] at HN E2
        have e3 : F = 7 := by rw [E2.out, if_pos (by decide)]
        subst e3
        go_wp2_with fail
        refine (HN _).mono ?_
        rintro e u1 ⟨rfl, rfl⟩
        go_wp2
        go_ret
        exact ⟨rfl, hB2⟩
  · have e2 : F = 2 := HXF.out
    subst e2
    go_wp2
    go_ret
    exact ⟨rfl, hB2⟩

set_option maxHeartbeats 4000000 in
theorem rcheck_3 (kd : Int) (nm ob : ByteArray) (o1 o2 o3 o4 o5 t n : Int) (A : Option Addr) (c : Nat) (l : List Int) (w : World) (hA : Ints w A l) (hlen : l.length ≤ 20000) (hnm : nm.size ≤ 8000) (hob : ob.size ≤ 8000) (hkd : kd = 3) :
    Calls Tryz.prog 64 #[evV ⟨kd, nm, ob, (o1, o2, o3, o4, o5), t, n, l⟩ A c] w (Says (.int .i64 (evE ⟨kd, nm, ob, (o1, o2, o3, o4, o5), t, n, l⟩)) w) := by
  subst hkd
  unfold evV evC
  dsimp only
  have hB0 := alloc1 w (.cells #[.int .i64 3, .string nm, .string ob, .int .i64 o1, .int .i64 o2, .int .i64 o3, .int .i64 o4, .int .i64 o5, .int .i64 t, .int .i64 n, .slice A l.length c] 55)
  have HX := Lib.hid (Holds.new w 55 #[.int .i64 3, .string nm, .string ob, .int .i64 o1, .int .i64 o2, .int .i64 o3, .int .i64 o4, .int .i64 o5, .int .i64 t, .int .i64 n, .slice A l.length c])
  have HW := fun W => kword_any 3 W
  have hkw : rkwB 3 = kwB (Int.toNat 3) := by unfold rkwB; rw [if_neg (by decide)]
  have hks : (kwB (Int.toNat 3)).toList.isEmpty = false := kw_some _ (by decide)
  rw [hkw] at HW
  clear hkw
  generalize kwB (Int.toNat 3) = kb at *
  have HN := fun W => nm_rcheck_any nm W hnm
  have HO := fun W => nm_rcheck_any ob W hob
  have HT := Lib.hid (nm_check_two nm)
  have HTO := Lib.hid (nm_check_two ob)
  have HS := fun W hA => st_rcheck_any t n A c l W hA hlen
  have HP := fun W => op_rcheck_any o1 o2 o3 o4 o5 W
  have HE := fun W => empty_any t n A c l W
  have hneq := fun W => neq_op W o1 o2 o3 o4 o5
  unfold stV at HS
  unfold opV at HP
  have HA := Lib.hid hA
  have hx : evE ⟨3, nm, ob, (o1, o2, o3, o4, o5), t, n, l⟩ = if bareB ⟨3, nm, ob, (o1, o2, o3, o4, o5), t, n, l⟩ = false then 2 else if nm_checkE nm ≠ 0 then nm_checkE nm else if (3 : Int) = 1 then firstE (t, n, l) else if (3 : Int) = 3 then doneE ob (o1, o2, o3, o4, o5) else 0 := by
    unfold evE
    dsimp only
    rw [if_neg (by decide)]
  rw [bareB_is] at hx
  have hfe : firstE (t, n, l) = if st_checkE t n l ≠ 0 then st_checkE t n l else if 1000 < l.length then 4 else 0 := rfl
  have hde : doneE ob (o1, o2, o3, o4, o5) = if nm_checkE ob ≠ 0 then nm_checkE ob else checkP o1 o2 o3 o4 o5 := rfl
  obtain ⟨F, hF⟩ : ∃ F, evE ⟨3, nm, ob, (o1, o2, o3, o4, o5), t, n, l⟩ = F := ⟨_, rfl⟩
  rw [hF] at hx ⊢
  generalize nm_checkE nm = ne at *
  generalize nm_checkE ob = oe at *
  generalize firstE (t, n, l) = fe at *
  generalize doneE ob (o1, o2, o3, o4, o5) = de at *
  generalize st_checkE t n l = ce at *
  generalize checkP o1 o2 o3 o4 o5 = pe at *
  generalize sameOpT (o1, o2, o3, o4, o5) op0 = so at *
  generalize stzB (t, n, l) = sb at *
  have hemi := em_iff ob
  obtain ⟨be, hbe⟩ : ∃ be, (ob == emB) = be := ⟨_, rfl⟩
  rw [hbe] at hx
  have hl : (ob.toList = [] ∧ ob.toList.isEmpty = true) ∧ be = true ∨ (¬ ob.toList = [] ∧ ob.toList.isEmpty = false) ∧ be = false := by
    by_cases hh : ob = emB
    · exact .inl ⟨⟨hemi.2 hh, by rw [hemi.2 hh]; rfl⟩, by rw [← hbe]; simp [hh]⟩
    · exact .inr ⟨⟨fun e => hh (hemi.1 e), by rw [← Bool.not_eq_true, List.isEmpty_iff]; exact fun e => hh (hemi.1 e)⟩, by rw [← hbe]; simpa using hh⟩
  have HFE := Lib.hid hfe
  have HDE := Lib.hid hde
  have HXF := Lib.hid hx
  clear hx hF hA hlen hnm hob hemi hbe hfe hde
  go_enter Tryz.func64, Tryz.ntmps64
  go_upto_region 1 with fail
  generalize w.alloc (.cells #[.int .i64 3, .string nm, .string ob, .int .i64 o1, .int .i64 o2, .int .i64 o3, .int .i64 o4, .int .i64 o5, .int .i64 t, .int .i64 n, .slice A l.length c] 55) = W0 at *
  obtain ⟨x0, x1, x2, x3, x4, x5, x6, x7, x8, x9, x10, y0⟩ := ev_cells HX.out
  go_region
  have HXD := Lib.hid (HX.out.below (Below.refl _ W0).drew HX.out.lt)
  have hBD := hB0.drew
  clear x0 x1 x2 x3 x4 x5 x6 x7 x8 x9 x10 y0
  obtain ⟨x0, x1, x2, x3, x4, x5, x6, x7, x8, x9, x10, y0⟩ := ev_cells HXD.out
  go_wp2_with fail
  refine (HW _).mono ?_
  rintro e w1 ⟨rfl, hB1⟩
  have HX1 := Lib.hid (HXD.out.below hB1 HXD.out.lt)
  have hB2 := nxt hBD hB1 hBD.size
  clear x0 x1 x2 x3 x4 x5 x6 x7 x8 x9 x10 y0
  obtain ⟨x0, x1, x2, x3, x4, x5, x6, x7, x8, x9, x10, y0⟩ := ev_cells HX1.out
  go_wp2_with fail
  refine (HE _).mono ?_
  rintro e w3 ⟨rfl, hB3⟩
  have HX3 := Lib.hid (HX1.out.below hB3 HX1.out.lt)
  have hB4 := nxt hB2 hB3 hB2.size
  clear x0 x1 x2 x3 x4 x5 x6 x7 x8 x9 x10 y0
  obtain ⟨x0, x1, x2, x3, x4, x5, x6, x7, x8, x9, x10, y0⟩ := ev_cells HX3.out
  cases sb
  · have e2 : F = 2 := HXF.out
    subst e2
    go_wp2
    go_ret
    exact ⟨rfl, hB4⟩
  · have e2 : F = if ne ≠ 0 then ne else if (3 : Int) = 1 then fe else if (3 : Int) = 3 then de else 0 := HXF.out
    have E2 := Lib.hid e2
    clear e2
    rcases HT.out with hn0 | hn0
    · rw [hn0] at HN E2
      have e3 : F = de := by rw [E2.out, if_neg (by simp), if_neg (by decide), if_pos rfl]
      have e4 : F = if oe ≠ 0 then oe else pe := e3.trans HDE.out
      have E4 := Lib.hid e4
      clear e3 e4
      rcases HTO.out with ho0 | ho0
      · rw [ho0] at HO E4
        have e5 : F = pe := by rw [E4.out, if_neg (by simp)]
        subst e5
        go_wp2_with fail
        refine (HN _).mono ?_
        rintro e u1 ⟨rfl, rfl⟩
        go_wp2_with fail
        refine (HO _).mono ?_
        rintro e u2 ⟨rfl, rfl⟩
        go_wp2_with fail
        refine (HP _).mono ?_
        rintro e w7 ⟨rfl, hB7⟩
        go_wp2
        go_ret
        exact ⟨rfl, nxt hB4 hB7 hB4.size⟩
      · rw [ho0] at HO E4
        have e5 : F = 7 := by rw [E4.out, if_pos (by decide)]
        subst e5
        go_wp2_with fail
        refine (HN _).mono ?_
        rintro e u1 ⟨rfl, rfl⟩
        go_wp2_with fail
        refine (HO _).mono ?_
        rintro e u2 ⟨rfl, rfl⟩
        go_wp2
        go_ret
        exact ⟨rfl, hB4⟩
    · rw [hn0] at HN E2
      have e3 : F = 7 := by rw [E2.out, if_pos (by decide)]
      subst e3
      go_wp2_with fail
      refine (HN _).mono ?_
      rintro e u1 ⟨rfl, rfl⟩
      go_wp2
      go_ret
      exact ⟨rfl, hB4⟩

set_option maxHeartbeats 4000000 in
theorem rcheck_0 (kd : Int) (nm ob : ByteArray) (o1 o2 o3 o4 o5 t n : Int) (A : Option Addr) (c : Nat) (l : List Int) (w : World) (hA : Ints w A l) (hlen : l.length ≤ 20000) (hnm : nm.size ≤ 8000) (hob : ob.size ≤ 8000) (hkd : (1 ≤ kd ∧ kd ≤ 5) ∧ (kd == 1) = false ∧ (kd == 3) = false) :
    Calls Tryz.prog 64 #[evV ⟨kd, nm, ob, (o1, o2, o3, o4, o5), t, n, l⟩ A c] w (Says (.int .i64 (evE ⟨kd, nm, ob, (o1, o2, o3, o4, o5), t, n, l⟩)) w) := by
  obtain ⟨⟨hk15, hk16⟩, hk1, hk3⟩ := hkd
  unfold evV evC
  dsimp only
  have hB0 := alloc1 w (.cells #[.int .i64 kd, .string nm, .string ob, .int .i64 o1, .int .i64 o2, .int .i64 o3, .int .i64 o4, .int .i64 o5, .int .i64 t, .int .i64 n, .slice A l.length c] 55)
  have HX := Lib.hid (Holds.new w 55 #[.int .i64 kd, .string nm, .string ob, .int .i64 o1, .int .i64 o2, .int .i64 o3, .int .i64 o4, .int .i64 o5, .int .i64 t, .int .i64 n, .slice A l.length c])
  have HW := fun W => kword_any kd W
  have hkw : rkwB kd = kwB (Int.toNat kd) := by unfold rkwB; rw [if_neg (by omega)]
  have hks : (kwB (Int.toNat kd)).toList.isEmpty = false := kw_some _ (by omega)
  rw [hkw] at HW
  clear hkw
  generalize kwB (Int.toNat kd) = kb at *
  have HN := fun W => nm_rcheck_any nm W hnm
  have HO := fun W => nm_rcheck_any ob W hob
  have HT := Lib.hid (nm_check_two nm)
  have HTO := Lib.hid (nm_check_two ob)
  have HS := fun W hA => st_rcheck_any t n A c l W hA hlen
  have HP := fun W => op_rcheck_any o1 o2 o3 o4 o5 W
  have HE := fun W => empty_any t n A c l W
  have hneq := fun W => neq_op W o1 o2 o3 o4 o5
  unfold stV at HS
  unfold opV at HP
  have HA := Lib.hid hA
  have hx : evE ⟨kd, nm, ob, (o1, o2, o3, o4, o5), t, n, l⟩ = if bareB ⟨kd, nm, ob, (o1, o2, o3, o4, o5), t, n, l⟩ = false then 2 else if nm_checkE nm ≠ 0 then nm_checkE nm else if (kd : Int) = 1 then firstE (t, n, l) else if (kd : Int) = 3 then doneE ob (o1, o2, o3, o4, o5) else 0 := by
    unfold evE
    dsimp only
    rw [if_neg (by omega)]
  rw [bareB_is] at hx
  have hfe : firstE (t, n, l) = if st_checkE t n l ≠ 0 then st_checkE t n l else if 1000 < l.length then 4 else 0 := rfl
  have hde : doneE ob (o1, o2, o3, o4, o5) = if nm_checkE ob ≠ 0 then nm_checkE ob else checkP o1 o2 o3 o4 o5 := rfl
  obtain ⟨F, hF⟩ : ∃ F, evE ⟨kd, nm, ob, (o1, o2, o3, o4, o5), t, n, l⟩ = F := ⟨_, rfl⟩
  rw [hF] at hx ⊢
  generalize nm_checkE nm = ne at *
  generalize nm_checkE ob = oe at *
  generalize firstE (t, n, l) = fe at *
  generalize doneE ob (o1, o2, o3, o4, o5) = de at *
  generalize st_checkE t n l = ce at *
  generalize checkP o1 o2 o3 o4 o5 = pe at *
  generalize sameOpT (o1, o2, o3, o4, o5) op0 = so at *
  generalize stzB (t, n, l) = sb at *
  have hemi := em_iff ob
  obtain ⟨be, hbe⟩ : ∃ be, (ob == emB) = be := ⟨_, rfl⟩
  rw [hbe] at hx
  have hl : (ob.toList = [] ∧ ob.toList.isEmpty = true) ∧ be = true ∨ (¬ ob.toList = [] ∧ ob.toList.isEmpty = false) ∧ be = false := by
    by_cases hh : ob = emB
    · exact .inl ⟨⟨hemi.2 hh, by rw [hemi.2 hh]; rfl⟩, by rw [← hbe]; simp [hh]⟩
    · exact .inr ⟨⟨fun e => hh (hemi.1 e), by rw [← Bool.not_eq_true, List.isEmpty_iff]; exact fun e => hh (hemi.1 e)⟩, by rw [← hbe]; simpa using hh⟩
  have HFE := Lib.hid hfe
  have HDE := Lib.hid hde
  have HXF := Lib.hid hx
  clear hx hF hA hlen hnm hob hemi hbe hfe hde
  go_enter Tryz.func64, Tryz.ntmps64
  go_upto_region 1 with fail
  generalize w.alloc (.cells #[.int .i64 kd, .string nm, .string ob, .int .i64 o1, .int .i64 o2, .int .i64 o3, .int .i64 o4, .int .i64 o5, .int .i64 t, .int .i64 n, .slice A l.length c] 55) = W0 at *
  obtain ⟨x0, x1, x2, x3, x4, x5, x6, x7, x8, x9, x10, y0⟩ := ev_cells HX.out
  go_region
  have HXD := Lib.hid (HX.out.below (Below.refl _ W0).drew HX.out.lt)
  have hBD := hB0.drew
  clear x0 x1 x2 x3 x4 x5 x6 x7 x8 x9 x10 y0
  obtain ⟨x0, x1, x2, x3, x4, x5, x6, x7, x8, x9, x10, y0⟩ := ev_cells HXD.out
  go_wp2_with fail
  refine (HW _).mono ?_
  rintro e w1 ⟨rfl, hB1⟩
  have HX1 := Lib.hid (HXD.out.below hB1 HXD.out.lt)
  have hB2 := nxt hBD hB1 hBD.size
  clear x0 x1 x2 x3 x4 x5 x6 x7 x8 x9 x10 y0
  obtain ⟨x0, x1, x2, x3, x4, x5, x6, x7, x8, x9, x10, y0⟩ := ev_cells HX1.out
  have HX0F := Lib.hid (show F = if (sb && (be && so)) = false then 2 else if ne ≠ 0 then ne else if kd = 1 then fe else if kd = 3 then de else 0 by rw [HXF.out, hk1, hk3]; rfl)
  clear HXF
  have HXF := HX0F
  rcases hl with ⟨⟨h1, h2⟩, rfl⟩ | ⟨⟨h1, h2⟩, rfl⟩
  · cases so
    · have e2 : F = 2 := by rw [HXF.out]; cases sb <;> rfl
      subst e2
      go_wp2
      go_ret
      exact ⟨rfl, hB2⟩
    · go_wp2_with fail
      refine (HE _).mono ?_
      rintro e w3 ⟨rfl, hB3⟩
      have HX3 := Lib.hid (HX1.out.below hB3 HX1.out.lt)
      have hB4 := nxt hB2 hB3 hB2.size
      clear x0 x1 x2 x3 x4 x5 x6 x7 x8 x9 x10 y0
      obtain ⟨x0, x1, x2, x3, x4, x5, x6, x7, x8, x9, x10, y0⟩ := ev_cells HX3.out
      cases sb
      · have e2 : F = 2 := HXF.out
        subst e2
        go_wp2
        go_ret
        exact ⟨rfl, hB4⟩
      · have e2 : F = if ne ≠ 0 then ne else if kd = 1 then fe else if kd = 3 then de else 0 := HXF.out
        have E2 := Lib.hid e2
        clear e2
        rcases HT.out with hn0 | hn0
        · rw [hn0] at HN E2
          have e3 : F = 0 := by rw [E2.out, if_neg (by simp), if_neg (by simpa using hk1), if_neg (by simpa using hk3)]
          subst e3
          go_wp2_with fail
          refine (HN _).mono ?_
          rintro e u1 ⟨rfl, rfl⟩
          go_wp2
          go_ret
          exact ⟨rfl, hB4⟩
        · rw [hn0] at HN E2
          have e3 : F = 7 := by rw [E2.out, if_pos (by decide)]
          subst e3
          go_wp2_with fail
          refine (HN _).mono ?_
          rintro e u1 ⟨rfl, rfl⟩
          go_wp2
          go_ret
          exact ⟨rfl, hB4⟩
  · have e2 : F = 2 := by rw [HXF.out]; cases sb <;> rfl
    subst e2
    go_wp2
    go_ret
    exact ⟨rfl, hB2⟩

set_option maxHeartbeats 4000000 in
theorem rcheck_ev (e : Ev) (A : Option Addr) (c : Nat) (w : World) (hA : Ints w A e.st.2.2) (hlen : e.st.2.2.length ≤ 20000) (hnm : e.nm.size ≤ 8000) (hob : e.ob.size ≤ 8000) :
    Calls Tryz.prog 64 #[evV e A c] w (Says (.int .i64 (evE e)) w) := by
  obtain ⟨kd, nm, ob, ⟨o1, o2, o3, o4, o5⟩, t, n, l⟩ := e
  dsimp only at hA hlen hnm hob
  by_cases hr : 1 ≤ kd ∧ kd ≤ 5
  · by_cases h1 : kd = 1
    · exact rcheck_1 kd nm ob o1 o2 o3 o4 o5 t n A c l w hA hlen hnm hob h1
    · by_cases h3 : kd = 3
      · exact rcheck_3 kd nm ob o1 o2 o3 o4 o5 t n A c l w hA hlen hnm hob h3
      · exact rcheck_0 kd nm ob o1 o2 o3 o4 o5 t n A c l w hA hlen hnm hob ⟨hr, by simpa using h1, by simpa using h3⟩
  · have hx : evE ⟨kd, nm, ob, (o1, o2, o3, o4, o5), t, n, l⟩ = 6 := by unfold evE; dsimp only; rw [if_pos (by omega)]
    rw [hx]
    unfold evV evC
    dsimp only
    have hB0 := alloc1 w (.cells #[.int .i64 kd, .string nm, .string ob, .int .i64 o1, .int .i64 o2, .int .i64 o3, .int .i64 o4, .int .i64 o5, .int .i64 t, .int .i64 n, .slice A l.length c] 55)
    have HX := Lib.hid (Holds.new w 55 #[.int .i64 kd, .string nm, .string ob, .int .i64 o1, .int .i64 o2, .int .i64 o3, .int .i64 o4, .int .i64 o5, .int .i64 t, .int .i64 n, .slice A l.length c])
    have HW := fun W => kword_any kd W
    have hkw : rkwB kd = ⟨#[]⟩ := by unfold rkwB; rw [if_pos (by omega)]; rfl
    rw [hkw] at HW
    clear hkw hx hA
    go_enter Tryz.func64, Tryz.ntmps64
    go_upto_region 1 with fail
    generalize w.alloc (.cells #[.int .i64 kd, .string nm, .string ob, .int .i64 o1, .int .i64 o2, .int .i64 o3, .int .i64 o4, .int .i64 o5, .int .i64 t, .int .i64 n, .slice A l.length c] 55) = W0 at *
    obtain ⟨x0, x1, x2, x3, x4, x5, x6, x7, x8, x9, x10, y0⟩ := ev_cells HX.out
    go_region
    have HXD := Lib.hid (HX.out.below (Below.refl _ W0).drew HX.out.lt)
    have hBD := hB0.drew
    clear x0 x1 x2 x3 x4 x5 x6 x7 x8 x9 x10 y0
    obtain ⟨x0, x1, x2, x3, x4, x5, x6, x7, x8, x9, x10, y0⟩ := ev_cells HXD.out
    go_wp2_with fail
    refine (HW _).mono ?_
    rintro e w1 ⟨rfl, hB1⟩
    go_wp2
    go_ret
    exact ⟨rfl, nxt hBD hB1 hBD.size⟩
end Go.Proofs.YtpdbkjnaicjfdaaGreatDoor
