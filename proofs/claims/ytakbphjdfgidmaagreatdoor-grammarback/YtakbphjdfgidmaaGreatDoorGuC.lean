/- GrammarPrints. -/
import Derived.Test.YtakbphjdfgidmaaGreatDoorGuB
import Derived.Test.YtakbphjdfgidmaaGreatDoorGrX
import Derived.Test.YtakbphjdfgidmaaGreatDoorGrW
import Derived.Test.YtakbphjdfgidmaaGreatDoorGrO
namespace Go.Proofs.YtakbphjdfgidmaaGreatDoor
open Go.RowKit Go.Maps
set_option linter.unusedVariables false
set_option maxRecDepth 100000

/-- An event that an argument may be. -/
structure EvW (e : Ev) : Prop where
  small : ∀ x ∈ e.st.2.2, Small x
  n : Small e.st.2.1
  a : I64 e.op.2.1
  b : I64 e.op.2.2.1
  r : I64 e.op.2.2.2.2
theorem evw_ok {es : List Ev} (h : longB es = false) (hw : ∀ e ∈ es, EvW e) : es.length ≤ 60 ∧ ∀ e ∈ es, EvOk e ∧ e.st.2.2.length ≤ 30 := by
  obtain ⟨h1, h2⟩ := long_no h
  refine ⟨h1, fun e he => ?_⟩
  obtain ⟨g1, g2, g3⟩ := h2 e he
  have k := hw e he
  exact ⟨⟨by omega, by omega, by omega, k.small, k.n, k.a, k.b, k.r⟩, g3⟩
theorem fst_mem {zs : List EvZ} {es : List Ev} (h : zs.map Prod.fst = es) {z : EvZ} (hz : z ∈ zs) : z.1 ∈ es := by rw [← h]; exact List.mem_map_of_mem hz
theorem OwnEvs.read {W : World} {base : Nat} {A : Option Addr} {n c : Nat} {es : List Ev} (hn : es.length = n) (h : OwnEvs W base (.slice A n c) es) : ∃ ys : List EvZ, ys.map Prod.fst = es ∧ ys.length = n ∧ ReadEvs W.heap.size W A ys ∧ ReadNums W ys := by
  obtain ⟨ys, h1, h2, h3⟩ := h
  have hl : ys.length = n := by rw [← hn, ← h1, List.length_map]
  rw [← hl] at h2
  exact ⟨ys, h1, hl, read_evs h2, h3.read⟩

set_option maxHeartbeats 8000000 in
theorem prints_law (A : Option Addr) (c : Nat) (zs : List EvZ) (w : World) (hG : Gds w) (hA : ReadEvs w.heap.size w A zs) (hN : ReadNums w zs) (hE : ∀ z ∈ zs, EvW z.1) (hm : zs.length ≤ maxLen) :
    Calls Tryz.prog 3 #[.slice A zs.length c] w (Yes w) := by
  obtain ⟨hw, hk⟩ := hG
  have HA := Lib.hid hA
  have HN := Lib.hid hN
  have HW := Lib.hid hw
  have HK := Lib.hid hk
  have HL := Lib.hid (long_any A c zs w hA hm)
  have HAW := fun W (hB : Below w.heap.size w W) => awake_any W (HW.out.on hB) (HK.out.on hB)
  have hEW : ∀ e ∈ zs.map Prod.fst, EvW e := fun e he => by
    obtain ⟨z, hz, rfl⟩ := List.mem_map.1 he
    exact hE z hz
  obtain ⟨es, hes⟩ : ∃ es, zs.map Prod.fst = es := ⟨_, rfl⟩
  rw [hes] at HL hEW
  have HES := Lib.hid hes
  have hel : es.length = zs.length := by rw [← hes, List.length_map]
  have HEL := Lib.hid hel
  clear hA hN hw hk hE hes hel
  cases hlong : longB es with
  | true =>
    rw [hlong] at HL
    clear hlong hm
    go_enter Tryz.func3, Tryz.ntmps3
    go_wp2_with fail
    refine HL.out.mono ?_
    rintro e w1 ⟨rfl, hB1⟩
    go_wp2_with fail
    refine (HAW _ hB1).mono ?_
    rintro e w2 ⟨rfl, hB2⟩
    go_wp2
    go_ret
    exact ⟨rfl, nxt hB1 hB2 hB1.size⟩
  | false =>
    rw [hlong] at HL
    obtain ⟨h60, hok⟩ := evw_ok hlong hEW
    have HOK := Lib.hid hok
    clear hlong hEW hok hm
    have hzok : ∀ z ∈ zs, EvOk z.1 ∧ z.1.st.2.2.length ≤ 30 := fun z hz => HOK.out _ (fst_mem HES.out hz)
    have HZOK := Lib.hid hzok
    clear hzok
    obtain ⟨m, hmm⟩ : ∃ m, zs.length = m := ⟨_, rfl⟩
    have HCP := fun W (hB : Below w.heap.size w W) => copyevs_any A c zs W ((HA.out.below hB).mono hB.size) (HN.out.below hB) (fun z hz => by have := (HZOK.out z hz).2; omega) (by have := HEL.out; omega)
    have HRP := fun W (hB : Below w.heap.size w W) => rprint_any A c zs W ((HA.out.below hB).mono hB.size) (HN.out.below hB) (fun z hz => (HZOK.out z hz).1) (by have := HEL.out; omega)
    rw [HES.out] at HCP HRP
    have HEL2 := Lib.hid (HEL.out.trans hmm)
    rw [hmm] at HL HCP HRP HEL ⊢
    have HMM := Lib.hid hmm
    have hm60 : m ≤ 60 := by have := HEL2.out; omega
    unfold CopyEvsPost at HCP
    rw [HEL2.out] at HCP
    unfold PrintPost at HRP
    have HPR := Lib.hid (fun (A' : Option Addr) (c' : Nat) (ys : List EvZ) (hys : ys.map Prod.fst = es) (W : World) (hB : Below w.heap.size w W) hR hRN => print_any A' c' ys W hR hRN (fun z hz => (HOK.out _ (fst_mem hys hz)).1) (by have := congrArg List.length hys; rw [List.length_map] at this; have := HEL2.out; omega) (HW.out.on hB) (HK.out.on hB))
    unfold PrintPost at HPR
    clear hmm
    have e1 : (prS es == prS es) = true := by simp
    have e2 : (prE es == prE es) = true := by simp
    obtain ⟨S, hS⟩ : ∃ S, prS es = S := ⟨_, rfl⟩
    obtain ⟨E, hE⟩ : ∃ E, prE es = E := ⟨_, rfl⟩
    have HSS := Lib.hid hS
    have HEE := Lib.hid hE
    rw [hS, hE] at HRP
    rw [hS] at e1
    rw [hE] at e2
    clear hS hE
    go_enter Tryz.func3, Tryz.ntmps3
    go_wp2_with fail
    refine HL.out.mono ?_
    rintro e w1 ⟨rfl, hB1⟩
    go_wp2_with fail
    refine (HCP _ hB1).mono ?_
    rintro e w2 ⟨A2, c2, rfl, hown, hB2⟩
    have hB2' := nxt hB1 hB2 hB1.size
    obtain ⟨ys, hys, hyl, hr, hrn⟩ := hown.read HEL2.out
    have HYS := Lib.hid hys
    have HYL := Lib.hid hyl
    have hp := HPR.out A2 c2 ys hys w2 hB2' hr hrn
    rw [hyl, hys, HSS.out, HEE.out] at hp
    have HP := Lib.hid hp
    have HR2 := Lib.hid hr
    have HRN2 := Lib.hid hrn
    clear hys hyl hr hrn hp hown
    go_wp2_with fail
    refine HP.out.mono ?_
    rintro e w3 ⟨rfl, hB3⟩
    have hB3' := nxt hB2' hB3 hB2'.size
    go_wp2_with fail
    refine (HRP _ hB3').mono ?_
    rintro e w4 ⟨rfl, hB4⟩
    have hB4' := nxt hB3' hB4 hB3'.size
    have hB24 := nxt hB3 hB4 hB3.size
    have HR4 := Lib.hid ((HR2.out.below hB24).mono hB24.size)
    have HRN4 := Lib.hid (HRN2.out.below hB24)
    have HA4 := Lib.hid ((HA.out.below hB4').mono hB4'.size)
    have HN4 := Lib.hid (HN.out.below hB4')
    have HW4 := Lib.hid (HW.out.on hB4')
    have HK4 := Lib.hid (HK.out.on hB4')
    have HB4 := Lib.hid hB4'
    clear hB1 hB2 hB2' hB3 hB3' hB4 hB4' hB24 HP HR2 HRN2 HCP HRP HPR HL
    go_wp2
    go_loopw [8, 9] (fun s8 i wr => ∃ k : Nat, k ≤ m ∧ i = .int .i64 k ∧ s8 = .bool true ∧ Below w4.heap.size w4 wr) (fun s8 i wr => m - (intOf i).toNat)
    case atStart => exact ⟨0, Nat.zero_le _, rfl, rfl, Below.refl _ _⟩
    case round =>
      obtain ⟨k, hk, rfl, rfl, hB0⟩ := hrel
      by_cases hlt : k < m
      · have hkd : decide (k < m) = true := decide_eq_true hlt
        obtain ⟨b, off, eA, hb, hcs⟩ := ev_read (HA4.out.below hB0) (by rw [HMM.out]; exact hlt)
        obtain ⟨b', off', eB, hb', hds⟩ := ev_read (HR4.out.below hB0) (by rw [HYL.out]; exact hlt)
        have hz := wd_memE (zs := zs) (by rw [HMM.out]; exact hlt)
        have hy := wd_memE (zs := ys) (by rw [HYL.out]; exact hlt)
        have ez := fst_at (zs := zs) (by rw [HMM.out]; exact hlt)
        have ey := fst_at (zs := ys) (by rw [HYL.out]; exact hlt)
        rw [HES.out] at ez
        rw [HYS.out] at ey
        generalize zs[k]?.getD (⟨0, emB, emB, op0, stz⟩, none, 0) = z at *
        generalize ys[k]?.getD (⟨0, emB, emB, op0, stz⟩, none, 0) = y at *
        obtain ⟨ev, Ae, ce⟩ := z
        obtain ⟨ev', Ae', ce'⟩ := y
        dsimp only at hcs hds ez ey
        obtain rfl : ev' = ev := ey.symm.trans ez
        obtain ⟨x0, x1, x2, x3, x4, x5, x6, x7, x8, x9, x10⟩ := hcs
        obtain ⟨z0, z1, z2, z3, z4, z5, z6, z7, z8, z9, z10⟩ := hds
        have hok := HZOK.out _ hz
        dsimp only at hok
        have HL1 := fun W (hW : Below wr.heap.size wr W) => line_any ev' Ae' ce' W (((HRN4.out _ hy).below hB0).below hW) hok.1 ((HW4.out.on hB0).on hW) ((HK4.out.on hB0).on hW)
        have HL2 := fun W (hW : Below wr.heap.size wr W) => rline_any ev' Ae ce W (((HN4.out _ hz).below hB0).below hW) hok.1
        have HC1 := fun W (hW : Below wr.heap.size wr W) => check_ev ev' Ae' ce' W (((HRN4.out _ hy).below hB0).below hW) (by omega) hok.1.nm hok.1.ob
        have HC2 := fun W (hW : Below wr.heap.size wr W) => rcheck_ev ev' Ae ce W (((HN4.out _ hz).below hB0).below hW) (by omega) hok.1.nm hok.1.ob
        unfold LinePost at HL1 HL2
        generalize evT ev' = T at *
        generalize evE ev' = F at *
        unfold evV evC at HL1 HL2 HC1 HC2
        have HL1 := Lib.hid HL1
        have HL2 := Lib.hid HL2
        have HC1 := Lib.hid HC1
        have HC2 := Lib.hid HC2
        have t1 : (T == T) = true := by simp
        have t2 : (F == F) = true := by simp
        have hk0 : (0 : Int) ≤ (k : Int) := by omega
        have hk1 : (k : Int) < (m : Int) := by omega
        have hkw : IntKind.i64.wrap (k : Int) = (k : Int) := by rw [IntKind.wrap_i64]; omega
        have hbr : b < wr.heap.size := Nat.lt_of_lt_of_le hb hB0.size
        have hbr' : b' < wr.heap.size := Nat.lt_of_lt_of_le hb' hB0.size
        subst eA eB
        clear hz hy ez ey hok
        go_wp2_with fail
        refine (HL1.out _ (Below.refl _ _)).mono ?_
        rintro e u1 ⟨rfl, hU1⟩
        have X0 := Lib.hid x0
        obtain ⟨y0, y1, y2, y3, y4, y5, y6, y7, y8, y9, y10⟩ : u1.cell? ⟨b, off + k * 11, none⟩ = _ ∧ u1.cell? ⟨b, off + k * 11 + 1, none⟩ = _ ∧ u1.cell? ⟨b, off + k * 11 + 2, none⟩ = _ ∧ u1.cell? ⟨b, off + k * 11 + 3, none⟩ = _ ∧ u1.cell? ⟨b, off + k * 11 + 4, none⟩ = _ ∧ u1.cell? ⟨b, off + k * 11 + 5, none⟩ = _ ∧ u1.cell? ⟨b, off + k * 11 + 6, none⟩ = _ ∧ u1.cell? ⟨b, off + k * 11 + 7, none⟩ = _ ∧ u1.cell? ⟨b, off + k * 11 + 8, none⟩ = _ ∧ u1.cell? ⟨b, off + k * 11 + 9, none⟩ = _ ∧ u1.cell? ⟨b, off + k * 11 + 10, none⟩ = _ := ⟨(hU1.cell (p := ⟨b, _, none⟩) hbr).trans x0, (hU1.cell (p := ⟨b, _, none⟩) hbr).trans x1, (hU1.cell (p := ⟨b, _, none⟩) hbr).trans x2, (hU1.cell (p := ⟨b, _, none⟩) hbr).trans x3, (hU1.cell (p := ⟨b, _, none⟩) hbr).trans x4, (hU1.cell (p := ⟨b, _, none⟩) hbr).trans x5, (hU1.cell (p := ⟨b, _, none⟩) hbr).trans x6, (hU1.cell (p := ⟨b, _, none⟩) hbr).trans x7, (hU1.cell (p := ⟨b, _, none⟩) hbr).trans x8, (hU1.cell (p := ⟨b, _, none⟩) hbr).trans x9, (hU1.cell (p := ⟨b, _, none⟩) hbr).trans x10⟩
        go_wp2_with fail
        refine (HL2.out _ hU1).mono ?_
        rintro e u2 ⟨rfl, hU2⟩
        have hU2' := nxt hU1 hU2 hU1.size
        clear y0 y1 y2 y3 y4 y5 y6 y7 y8 y9 y10
        go_wp2_with fail
        refine wp_region_noPanic ?_
        refine wp_region_picked [(0, true), (1, true), (2, true), (3, true), (4, true), (5, true), (6, true), (7, true), (8, true), (9, true), (10, true), (11, true), (12, true), (13, true), (14, true), (15, true), (17, true), (18, true), (19, true), (20, true), (16, false), (21, false), (22, true), (23, true), (24, true)] (fun W' => Below wr.heap.size wr W') (by kernel_rfl) (by kernel_rfl) (fun _ _ _ _ _ h => h) hU2'.drew ?_
        iterate 20
          refine Picked.take ?_ (by rfl) (by rfl) ?_ ?_
          rotate_left
          · intro w' hw'
            have f0 := (hw'.cell (p := ⟨b, off + k * 11, none⟩) hbr).trans x0
            have f1 := (hw'.cell (p := ⟨b, off + k * 11 + 1, none⟩) hbr).trans x1
            have f2 := (hw'.cell (p := ⟨b, off + k * 11 + 2, none⟩) hbr).trans x2
            have f3 := (hw'.cell (p := ⟨b, off + k * 11 + 3, none⟩) hbr).trans x3
            have f4 := (hw'.cell (p := ⟨b, off + k * 11 + 4, none⟩) hbr).trans x4
            have f5 := (hw'.cell (p := ⟨b, off + k * 11 + 5, none⟩) hbr).trans x5
            have f6 := (hw'.cell (p := ⟨b, off + k * 11 + 6, none⟩) hbr).trans x6
            have f7 := (hw'.cell (p := ⟨b, off + k * 11 + 7, none⟩) hbr).trans x7
            have f8 := (hw'.cell (p := ⟨b, off + k * 11 + 8, none⟩) hbr).trans x8
            have f9 := (hw'.cell (p := ⟨b, off + k * 11 + 9, none⟩) hbr).trans x9
            have f10 := (hw'.cell (p := ⟨b, off + k * 11 + 10, none⟩) hbr).trans x10
            have g0 := (hw'.cell (p := ⟨b', off' + k * 11, none⟩) hbr').trans z0
            have g1 := (hw'.cell (p := ⟨b', off' + k * 11 + 1, none⟩) hbr').trans z1
            have g2 := (hw'.cell (p := ⟨b', off' + k * 11 + 2, none⟩) hbr').trans z2
            have g3 := (hw'.cell (p := ⟨b', off' + k * 11 + 3, none⟩) hbr').trans z3
            have g4 := (hw'.cell (p := ⟨b', off' + k * 11 + 4, none⟩) hbr').trans z4
            have g5 := (hw'.cell (p := ⟨b', off' + k * 11 + 5, none⟩) hbr').trans z5
            have g6 := (hw'.cell (p := ⟨b', off' + k * 11 + 6, none⟩) hbr').trans z6
            have g7 := (hw'.cell (p := ⟨b', off' + k * 11 + 7, none⟩) hbr').trans z7
            have g8 := (hw'.cell (p := ⟨b', off' + k * 11 + 8, none⟩) hbr').trans z8
            have g9 := (hw'.cell (p := ⟨b', off' + k * 11 + 9, none⟩) hbr').trans z9
            have g10 := (hw'.cell (p := ⟨b', off' + k * 11 + 10, none⟩) hbr').trans z10
            go_simp
            try with_reducible rfl
          simp only [Act.put, List.getElem_toArray, List.getElem_cons_zero, List.getElem_cons_succ, List.setIfInBounds_toArray, List.set_cons_zero, List.set_cons_succ]
        refine Picked.call 17 _ (by rfl) (by rfl) (by go_simp; with_reducible rfl) ?_
        refine (HC1.out _ hU2'.drew).mono ?_
        rintro e u3 ⟨rfl, hU3⟩
        have hU3' := nxt hU2'.drew hU3 hU2'.size
        refine ⟨_, rfl, hU3', ?_⟩
        simp only [Act.put, List.getElem_toArray, List.getElem_cons_zero, List.getElem_cons_succ, List.setIfInBounds_toArray, List.set_cons_zero, List.set_cons_succ]
        refine Picked.call 18 _ (by rfl) (by rfl) (by go_simp; with_reducible rfl) ?_
        refine (HC2.out _ hU3').mono ?_
        rintro e u4 ⟨rfl, hU4⟩
        have hU4' := nxt hU3' hU4 hU3'.size
        refine ⟨_, rfl, hU4', ?_⟩
        simp only [Act.put, List.getElem_toArray, List.getElem_cons_zero, List.getElem_cons_succ, List.setIfInBounds_toArray, List.set_cons_zero, List.set_cons_succ]
        iterate 3
          refine Picked.take ?_ (by rfl) (by rfl) ?_ ?_
          rotate_left
          · intro w' hw'
            go_simp
            try with_reducible rfl
          simp only [Act.put, List.getElem_toArray, List.getElem_cons_zero, List.getElem_cons_succ, List.setIfInBounds_toArray, List.set_cons_zero, List.set_cons_succ]
        refine NoPanic.normal ?_
        have hB9 := nxt hB0 hU4' hB0.size
        go_wp2
        go_roundw
        case rel => exact ⟨k + 1, by omega, by go_num, rfl, hB9⟩
        case measure => simp [intOf]; omega
      · have hkd : decide (k < m) = false := decide_eq_false hlt
        have hB9 := nxt HB4.out hB0 HB4.out.size
        have HS := Lib.hid (sameevs_any A2 A c2 c ys zs wr ((HR4.out.below hB0).mono hB0.size) (HRN4.out.below hB0) ((HA4.out.below hB0).mono hB0.size) (HN4.out.below hB0) (fun z hz => by have := (HOK.out _ (fst_mem HYS.out hz)).2; omega) (by rw [HYL.out]; omega) (by rw [HMM.out]; omega))
        rw [HYS.out, HES.out, HYL.out, HMM.out, evsEq_refl] at HS
        have HAW2 := Lib.hid HAW
        go_wp2_with fail
        refine HS.out.mono ?_
        rintro e u1 ⟨rfl, hU1⟩
        have hB10 := nxt hB9 hU1 hB9.size
        go_wp2_with fail
        refine (HAW2.out _ hB10).mono ?_
        rintro e u2 ⟨rfl, hU2⟩
        go_wp2
        go_ret
        exact ⟨rfl, nxt hB10 hU2 hB10.size⟩
end Go.Proofs.YtakbphjdfgidmaaGreatDoor
