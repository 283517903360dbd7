/- Contracts of the kit: SameEvent, SameEvents. -/
import Derived.Test.YtpdbkjnaicjfdaaGreatDoorGrM
namespace Go.Proofs.YtpdbkjnaicjfdaaGreatDoor
open Go.RowKit Go.Maps
set_option linter.unusedVariables false
set_option maxRecDepth 100000

theorem str_beq (a b : ByteArray) : (a == b) = (a.toList == b.toList) := by
  rw [Bool.eq_iff_iff, beq_iff_eq, beq_iff_eq, Go.ByteArray.toList_eq, Go.ByteArray.toList_eq]
  constructor
  · rintro rfl; rfl
  · intro h
    apply ByteArray.ext
    apply Array.ext'
    exact h

set_option maxHeartbeats 8000000 in
theorem sameev_any (a b : Ev) (A B : Option Addr) (c d : Nat) (w : World) (hA : Ints w A a.st.2.2) (hB : Ints w B b.st.2.2) (hlen : a.st.2.2.length ≤ 20000) :
    Calls Tryz.prog 45 #[evV a A c, evV b B d] w (Says (.bool (evEq a b)) w) := by
  obtain ⟨kd, nm, ob, ⟨o1, o2, o3, o4, o5⟩, t, n, l⟩ := a
  obtain ⟨kd', nm', ob', ⟨p1, p2, p3, p4, p5⟩, t', n', l'⟩ := b
  dsimp only at hA hB hlen
  have hx : evEq ⟨kd, nm, ob, (o1, o2, o3, o4, o5), t, n, l⟩ ⟨kd', nm', ob', (p1, p2, p3, p4, p5), t', n', l'⟩ = ((kd == kd') && ((nm.toList == nm'.toList) && ((ob.toList == ob'.toList) && (sameOpT (o1, o2, o3, o4, o5) (p1, p2, p3, p4, p5) && sameB t n l t' n' l')))) := by
    rw [← str_beq, ← str_beq]; rfl
  rw [hx]
  unfold evV evC
  dsimp only
  have heq := fun w => eql_op w o1 o2 o3 o4 o5 p1 p2 p3 p4 p5
  rw [sameOp_T] at heq
  have hB0 := (alloc1 w (.cells #[.int .i64 kd, .string nm, .string ob, .int .i64 o1, .int .i64 o2, .int .i64 o3, .int .i64 o4, .int .i64 o5, .int .i64 t, .int .i64 n, .slice A l.length c] 55)).alloc (by simp) (.cells #[.int .i64 kd', .string nm', .string ob', .int .i64 p1, .int .i64 p2, .int .i64 p3, .int .i64 p4, .int .i64 p5, .int .i64 t', .int .i64 n', .slice B l'.length d] 55)
  have HX := Lib.hid ((Holds.new w 55 #[.int .i64 kd, .string nm, .string ob, .int .i64 o1, .int .i64 o2, .int .i64 o3, .int .i64 o4, .int .i64 o5, .int .i64 t, .int .i64 n, .slice A l.length c]).alloc (.cells #[.int .i64 kd', .string nm', .string ob', .int .i64 p1, .int .i64 p2, .int .i64 p3, .int .i64 p4, .int .i64 p5, .int .i64 t', .int .i64 n', .slice B l'.length d] 55))
  have HY := Lib.hid (show Holds ((w.alloc (.cells #[.int .i64 kd, .string nm, .string ob, .int .i64 o1, .int .i64 o2, .int .i64 o3, .int .i64 o4, .int .i64 o5, .int .i64 t, .int .i64 n, .slice A l.length c] 55)).alloc (.cells #[.int .i64 kd', .string nm', .string ob', .int .i64 p1, .int .i64 p2, .int .i64 p3, .int .i64 p4, .int .i64 p5, .int .i64 t', .int .i64 n', .slice B l'.length d] 55)) (w.heap.size + 1) 55 #[.int .i64 kd', .string nm', .string ob', .int .i64 p1, .int .i64 p2, .int .i64 p3, .int .i64 p4, .int .i64 p5, .int .i64 t', .int .i64 n', .slice B l'.length d] from by have := Holds.new (w.alloc (.cells #[.int .i64 kd, .string nm, .string ob, .int .i64 o1, .int .i64 o2, .int .i64 o3, .int .i64 o4, .int .i64 o5, .int .i64 t, .int .i64 n, .slice A l.length c] 55)) 55 #[.int .i64 kd', .string nm', .string ob', .int .i64 p1, .int .i64 p2, .int .i64 p3, .int .i64 p4, .int .i64 p5, .int .i64 t', .int .i64 n', .slice B l'.length d]; rwa [World.size_alloc] at this)
  have HS := Lib.hid (samest_any t n t' n' A B c d l l' _ (hA.below hB0) (hB.below hB0) hlen)
  unfold stV at HS
  generalize sameOpT (o1, o2, o3, o4, o5) (p1, p2, p3, p4, p5) = bo at *
  generalize sameB t n l t' n' l' = bs at *
  clear hx hA hB
  obtain ⟨bk, hbk⟩ : ∃ x, (kd == kd') = x := ⟨_, rfl⟩
  obtain ⟨bn, hbn⟩ : ∃ x, (nm.toList == nm'.toList) = x := ⟨_, rfl⟩
  obtain ⟨bb, hbb⟩ : ∃ x, (ob.toList == ob'.toList) = x := ⟨_, rfl⟩
  rw [hbk, hbn, hbb]
  go_enter Tryz.func45, Tryz.ntmps45
  go_upto_region 1 with fail
  generalize (w.alloc (.cells #[.int .i64 kd, .string nm, .string ob, .int .i64 o1, .int .i64 o2, .int .i64 o3, .int .i64 o4, .int .i64 o5, .int .i64 t, .int .i64 n, .slice A l.length c] 55)).alloc (.cells #[.int .i64 kd', .string nm', .string ob', .int .i64 p1, .int .i64 p2, .int .i64 p3, .int .i64 p4, .int .i64 p5, .int .i64 t', .int .i64 n', .slice B l'.length d] 55) = W0 at *
  obtain ⟨x0, x1, x2, x3, x4, x5, x6, x7, x8, x9, x10, y0⟩ := ev_cells HX.out
  obtain ⟨z0, z1, z2, z3, z4, z5, z6, z7, z8, z9, z10, y1⟩ := ev_cells HY.out
  cases bk
  · go_wp2
    go_ret
    exact ⟨rfl, hB0⟩
  · cases bn
    · go_wp2
      go_ret
      exact ⟨rfl, hB0⟩
    · cases bb
      · go_wp2
        go_ret
        exact ⟨rfl, hB0⟩
      · cases bo
        · go_wp2
          go_ret
          exact ⟨rfl, hB0⟩
        · go_wp2_with fail
          refine HS.out.mono ?_
          rintro e w1 ⟨rfl, hB1⟩
          go_wp2
          go_ret
          exact ⟨rfl, nxt hB0 hB1 hB0.size⟩

theorem fst_at {zs : List EvZ} {k : Nat} (hk : k < zs.length) : (zs.map Prod.fst)[k]?.getD ⟨0, emB, emB, op0, stz⟩ = (zs[k]?.getD (⟨0, emB, emB, op0, stz⟩, none, 0)).1 := by
  rw [List.getElem?_map, List.getElem?_eq_getElem hk]; rfl

set_option maxHeartbeats 8000000 in
theorem sameevs_any (A B : Option Addr) (c d : Nat) (zs ys : List EvZ) (w : World) (hA : ReadEvs w.heap.size w A zs) (hNA : ReadNums w zs) (hB : ReadEvs w.heap.size w B ys) (hNB : ReadNums w ys) (hlen : ∀ z ∈ zs, z.1.st.2.2.length ≤ 20000) (hm : zs.length ≤ 100000000) (hmy : ys.length ≤ 100000000) :
    Calls Tryz.prog 22 #[.slice A zs.length c, .slice B ys.length d] w (Says (.bool (evsEq (zs.map Prod.fst) (ys.map Prod.fst))) w) := by
  have HA := Lib.hid hA
  have HB := Lib.hid hB
  have HNA := Lib.hid hNA
  have HNB := Lib.hid hNB
  have HLN := Lib.hid hlen
  clear hA hNA hB hNB hlen
  by_cases hl : zs.length = ys.length
  · have hne : ((zs.length : Int) != (ys.length : Int)) = false := by simp [hl]
    have heq : (zs.map Prod.fst).length = (ys.map Prod.fst).length := by simp [hl]
    obtain ⟨R, hR⟩ : ∃ R, evsEq (zs.map Prod.fst) (ys.map Prod.fst) = R := ⟨_, rfl⟩
    have HALL := Lib.hid (fun h => (evsEq_all (l := zs.map Prod.fst) (m := ys.map Prod.fst) heq h).symm.trans hR)
    have HNO := Lib.hid (fun (k : Nat) (hk : k < (zs.map Prod.fst).length) h => (evsEq_no (l := zs.map Prod.fst) (m := ys.map Prod.fst) hk heq h).symm.trans hR)
    rw [hR]
    clear hR heq
    have hl1 : ys.length = zs.length := hl.symm
    obtain ⟨m, hmm⟩ : ∃ m, zs.length = m := ⟨_, rfl⟩
    rw [hmm] at hl1 hne hm ⊢
    rw [hl1] at hne ⊢
    have HMM := Lib.hid hmm
    have HL1 := Lib.hid hl1
    clear hmm hl1 hl hmy
    go_enter Tryz.func22, Tryz.ntmps22
    go_wp2
    go_loopw [5] (fun i wr => ∃ k : Nat, k ≤ m ∧ i = .int .i64 k ∧ Below w.heap.size w wr ∧ ∀ j, j < k → evEq ((zs.map Prod.fst)[j]?.getD ⟨0, emB, emB, op0, stz⟩) ((ys.map Prod.fst)[j]?.getD ⟨0, emB, emB, op0, stz⟩) = true) (fun i wr => m - (intOf i).toNat)
    case atStart => exact ⟨0, Nat.zero_le _, rfl, Below.refl _ _, fun j h => absurd h (Nat.not_lt_zero _)⟩
    case round =>
      obtain ⟨k, hk, rfl, hB0, hall⟩ := hrel
      have HAL := Lib.hid hall
      clear hall
      by_cases hlt : k < m
      · obtain ⟨b, off, rfl, hb, hcs⟩ := ev_read (HA.out.below hB0) (by rw [HMM.out]; exact hlt)
        obtain ⟨b', off', rfl, hb', hds⟩ := ev_read (HB.out.below hB0) (by rw [HL1.out]; exact hlt)
        have hz := wd_memE (zs := zs) (by rw [HMM.out]; exact hlt)
        have hy := wd_memE (zs := ys) (by rw [HL1.out]; exact hlt)
        have ez := fst_at (zs := zs) (by rw [HMM.out]; exact hlt)
        have ey := fst_at (zs := ys) (by rw [HL1.out]; exact hlt)
        generalize zs[k]?.getD (⟨0, emB, emB, op0, stz⟩, none, 0) = z at *
        generalize ys[k]?.getD (⟨0, emB, emB, op0, stz⟩, none, 0) = y at *
        obtain ⟨ev, Ae, ce⟩ := z
        obtain ⟨ev', Ae', ce'⟩ := y
        dsimp only at hcs hds ez ey
        obtain ⟨x0, x1, x2, x3, x4, x5, x6, x7, x8, x9, x10⟩ := hcs
        obtain ⟨z0, z1, z2, z3, z4, z5, z6, z7, z8, z9, z10⟩ := hds
        have hs := fun W (hW : Below wr.heap.size wr W) => sameev_any ev ev' Ae Ae' ce ce' W (((HNA.out _ hz).below hB0).below hW) (((HNB.out _ hy).below hB0).below hW) (HLN.out _ hz)
        obtain ⟨be, hbe⟩ : ∃ be, evEq ev ev' = be := ⟨_, rfl⟩
        rw [hbe] at hs
        have HS := Lib.hid hs
        have HBE := Lib.hid (show evEq ((zs.map Prod.fst)[k]?.getD ⟨0, emB, emB, op0, stz⟩) ((ys.map Prod.fst)[k]?.getD ⟨0, emB, emB, op0, stz⟩) = be by rw [ez, ey]; exact hbe)
        have hk0 : (0 : Int) ≤ (k : Int) := by omega
        have hk1 : (k : Int) < (m : Int) := by omega
        have hkw : IntKind.i64.wrap (k : Int) = (k : Int) := by rw [IntKind.wrap_i64]; omega
        have hkd : decide (k < m) = true := decide_eq_true hlt
        have hbr : b < wr.heap.size := Nat.lt_of_lt_of_le hb hB0.size
        have hbr' : b' < wr.heap.size := Nat.lt_of_lt_of_le hb' hB0.size
        unfold evV evC at HS
        clear hs hbe hz hy ez ey
        go_wp2_with fail
        refine wp_region_noPanic ?_
        refine wp_region_picked [(0, true), (1, true), (2, true), (3, true), (4, true), (5, true), (6, true), (7, true), (8, false), (9, true)] (fun W' => Below wr.heap.size wr W') (by kernel_rfl) (by kernel_rfl) (fun _ _ _ _ _ h => h) (Below.refl _ wr).drew ?_
        iterate 8
          refine Picked.take ?_ (by rfl) (by rfl) ?_ ?_
          rotate_left
          · intro w' hw'
            have f0 := (hw'.cell (p := ⟨b, off + k * 11, none⟩) hbr).trans x0
            have f1 := (hw'.cell (p := ⟨b, off + k * 11 + 1, none⟩) hbr).trans x1
            have f2 := (hw'.cell (p := ⟨b, off + k * 11 + 2, none⟩) hbr).trans x2
            have f3 := (hw'.cell (p := ⟨b, off + k * 11 + 3, none⟩) hbr).trans x3
            have f4 := (hw'.cell (p := ⟨b, off + k * 11 + 4, none⟩) hbr).trans x4
            have f5 := (hw'.cell (p := ⟨b, off + k * 11 + 5, none⟩) hbr).trans x5
            have f6 := (hw'.cell (p := ⟨b, off + k * 11 + 6, none⟩) hbr).trans x6
            have f7 := (hw'.cell (p := ⟨b, off + k * 11 + 7, none⟩) hbr).trans x7
            have f8 := (hw'.cell (p := ⟨b, off + k * 11 + 8, none⟩) hbr).trans x8
            have f9 := (hw'.cell (p := ⟨b, off + k * 11 + 9, none⟩) hbr).trans x9
            have f10 := (hw'.cell (p := ⟨b, off + k * 11 + 10, none⟩) hbr).trans x10
            have g0 := (hw'.cell (p := ⟨b', off' + k * 11, none⟩) hbr').trans z0
            have g1 := (hw'.cell (p := ⟨b', off' + k * 11 + 1, none⟩) hbr').trans z1
            have g2 := (hw'.cell (p := ⟨b', off' + k * 11 + 2, none⟩) hbr').trans z2
            have g3 := (hw'.cell (p := ⟨b', off' + k * 11 + 3, none⟩) hbr').trans z3
            have g4 := (hw'.cell (p := ⟨b', off' + k * 11 + 4, none⟩) hbr').trans z4
            have g5 := (hw'.cell (p := ⟨b', off' + k * 11 + 5, none⟩) hbr').trans z5
            have g6 := (hw'.cell (p := ⟨b', off' + k * 11 + 6, none⟩) hbr').trans z6
            have g7 := (hw'.cell (p := ⟨b', off' + k * 11 + 7, none⟩) hbr').trans z7
            have g8 := (hw'.cell (p := ⟨b', off' + k * 11 + 8, none⟩) hbr').trans z8
            have g9 := (hw'.cell (p := ⟨b', off' + k * 11 + 9, none⟩) hbr').trans z9
            have g10 := (hw'.cell (p := ⟨b', off' + k * 11 + 10, none⟩) hbr').trans z10
            go_simp
            try with_reducible rfl
          simp only [Act.put, List.getElem_toArray, List.getElem_cons_zero, List.getElem_cons_succ, List.setIfInBounds_toArray, List.set_cons_zero, List.set_cons_succ]
        refine Picked.call 45 _ (by rfl) (by rfl) (by go_simp; with_reducible rfl) ?_
        refine (HS.out _ (Below.refl _ wr).drew).mono ?_
        rintro e w2 ⟨rfl, hB2⟩
        have hB2' : Below wr.heap.size wr w2 := nxt (Below.refl _ wr).drew hB2 (Nat.le_refl _)
        refine ⟨_, rfl, hB2', ?_⟩
        simp only [Act.put, List.getElem_toArray, List.getElem_cons_zero, List.getElem_cons_succ, List.setIfInBounds_toArray, List.set_cons_zero, List.set_cons_succ]
        refine Picked.take ?_ (by rfl) (by rfl) ?_ ?_
        rotate_left
        · intro w' hw'
          go_simp
          try with_reducible rfl
        simp only [Act.put, List.getElem_toArray, List.getElem_cons_zero, List.getElem_cons_succ, List.setIfInBounds_toArray, List.set_cons_zero, List.set_cons_succ]
        refine NoPanic.normal ?_
        have hb9 : Below w.heap.size w w2 := nxt hB0 hB2' hB0.size
        cases be
        · have hfin : false = R := HNO.out k (by rw [List.length_map, HMM.out]; exact hlt) HBE.out
          subst hfin
          go_wp2
          go_ret
          exact ⟨rfl, hb9⟩
        · go_wp2
          go_roundw
          case rel =>
            refine ⟨k + 1, by omega, by go_num, hb9, fun j hj => ?_⟩
            by_cases he : j = k
            · subst he; exact HBE.out
            · exact HAL.out j (by omega)
          case measure => simp [intOf]; omega
      · have hkd : decide (k < m) = false := decide_eq_false hlt
        have hfin : true = R := HALL.out (fun j hj => HAL.out j (by rw [List.length_map, HMM.out] at hj; omega))
        subst hfin
        go_wp2
        go_ret
        exact ⟨rfl, hB0⟩
  · have hne : ((zs.length : Int) != (ys.length : Int)) = true := by rw [bne_iff_ne]; omega
    have hR : evsEq (zs.map Prod.fst) (ys.map Prod.fst) = false := evsEq_len (by simpa using hl)
    rw [hR]
    clear hl hR
    go_enter Tryz.func22, Tryz.ntmps22
    go_wp2
    go_ret
    exact ⟨rfl, Below.refl _ _⟩
end Go.Proofs.YtpdbkjnaicjfdaaGreatDoor
