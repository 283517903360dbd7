/- HistoryWithout. -/
import Derived.Test.YtpdbkjnaicjfdaaGreatDoorHsN
import Derived.Test.YtpdbkjnaicjfdaaGreatDoorHsPl
namespace Go.Proofs.YtpdbkjnaicjfdaaGreatDoor
open Go.RowKit Go.Maps
set_option linter.unusedVariables false
set_option maxRecDepth 100000

theorem read_nums_mem {w : World} {zs ys : List EvZ} (h : ReadNums w zs) (hy : ∀ z ∈ ys, z ∈ zs) : ReadNums w ys := fun z hz => h z (hy z hz)
theorem keep_step {zs : List EvZ} {k : Nat} {z : EvZ} (hk : zs[k]? = some z) (s : ByteArray) : (zs.take (k + 1)).filter (fun z => keepE s z.1) = (zs.take k).filter (fun z => keepE s z.1) ++ (if keepE s z.1 = true then [z] else []) := by
  have hl := (List.getElem?_eq_some_iff.1 hk).1
  rw [List.take_succ_eq_append_getElem hl, List.filter_append]
  rw [List.getElem?_eq_getElem hl] at hk
  rw [Option.some.inj hk]
  by_cases h : keepE s z.1 = true
  · rw [if_pos h]; simp [h]
  · rw [if_neg h]; simp [h]

set_option maxHeartbeats 8000000 in
theorem without_law (A : Option Addr) (c : Nat) (zs : List EvZ) (n : Int) (w : World) (hG : Gds w) (hA : ReadEvs w.heap.size w A zs) (hN : ReadNums w zs) (hm : zs.length ≤ maxLen) (h1 : -9223372036854775808 ≤ n) (h2 : n ≤ 9223372036854775807) :
    Calls Tryz.prog 8 #[.slice A zs.length c, .int .i64 n] w (Yes w) := by
  obtain ⟨i0, hi, hz0, hz1, hz2⟩ := info_parts info_ev
  obtain ⟨hw, hk⟩ := hG
  have HKN := Lib.hid (hknown_any w hw hk)
  have HA := Lib.hid hA
  have HN := Lib.hid hN
  have HLG := Lib.hid (fun W (hB : Below w.heap.size w W) => long_any A c zs W ((HA.out.below hB).mono hB.size) hm)
  cases hlong : longB (zs.map Prod.fst) with
  | true =>
    rw [hlong] at HLG
    clear hlong hA hN hw hk hm
    go_enter Tryz.func8, Tryz.ntmps8
    go_wp2_with fail
    refine HKN.out.mono ?_
    rintro e w1 ⟨rfl, hB1⟩
    go_wp2_with fail
    refine (HLG.out _ hB1).mono ?_
    rintro e w2 ⟨rfl, hB2⟩
    go_wp2
    go_ret
    exact ⟨rfl, nxt hB1 hB2 hB1.size⟩
  | false =>
    obtain ⟨hE, h60⟩ := evs_in hA hN hlong
    rw [hlong] at HLG
    have HE := Lib.hid hE
    obtain ⟨m, hmm⟩ : ∃ m, zs.length = m := ⟨_, rfl⟩
    have HM := Lib.hid hmm
    have HL1 := Lib.hid (fun W (hB : Below w.heap.size w W) => lives_any A c zs W (HE.out.below hB))
    have HWT := Lib.hid (fun (h : layE (zs.map Prod.fst) = 0) (q : Nat) (x : Lf) hx => without (l := zs.map Prod.fst) h (w := q) (x := x) hx)
    have hlk := lay_ok (zs.map Prod.fst) dk0 0 dk0_ok
    rw [List.length_map] at hlk
    rw [hmm] at HL1 HLG h60 hlk ⊢
    have HLK := Lib.hid hlk
    have HF1 := Lib.hid (show (layX dk0 0 (zs.map Prod.fst)).2.1 = layE (zs.map Prod.fst) ∧ (layX dk0 0 (zs.map Prod.fst)).2.2 = layP (zs.map Prod.fst) ∧ (layX dk0 0 (zs.map Prod.fst)).1 = layD (zs.map Prod.fst) from ⟨rfl, rfl, rfl⟩)
    unfold LivesPost fltV at HL1
    rw [HF1.out.1, HF1.out.2.1, HF1.out.2.2] at HL1
    rw [HF1.out.1, HF1.out.2.2] at HLK
    generalize layE (zs.map Prod.fst) = er at *
    generalize layP (zs.map Prod.fst) = p at *
    generalize layD (zs.map Prod.fst) = d at *
    clear hlong hA hN hw hk hm hE hmm hlk HF1
    go_enter Tryz.func8, Tryz.ntmps8
    go_wp2_with fail
    refine HKN.out.mono ?_
    rintro e w1 ⟨rfl, hB1⟩
    go_wp2_with fail
    refine (HLG.out _ hB1).mono ?_
    rintro e w2 ⟨rfl, hB2⟩
    have hBB := nxt hB1 hB2 hB1.size
    go_wp2_with fail
    refine (HL1.out _ hBB).mono ?_
    rintro e w4 ⟨v, rfl, hlf, hb4⟩
    have hB4 := nxt hBB hb4 hBB.size
    have hb5 := alloc1 w4 (.cells #[.int .i64 er, .int .i64 p] 29)
    have HX5 := Lib.hid (Holds.new w4 29 #[.int .i64 er, .int .i64 p])
    have hB5 := nxt hB4 hb5 hB4.size
    obtain ⟨A2, c2, rfl⟩ := lifes_shape hlf
    have HLF := Lib.hid (hlf.below hb5)
    clear hlf HKN HLG HL1 hB1 hB2
    go_upto_region 5 with fail
    generalize w4.alloc (.cells #[.int .i64 er, .int .i64 p] 29) = W5 at *
    have x0 : W5.cell? ⟨w4.heap.size, 0, none⟩ = some (.int .i64 er) := HX5.out.c (j := 0) rfl
    by_cases hz : er = 0
    · subst hz
      rw [if_pos rfl] at HLF ⊢
      by_cases hl0 : d.trs.length = 0
      · rw [hl0]
        go_wp2
        go_ret
        exact ⟨rfl, hB5⟩
      · have hlb : ((d.trs.length : Int) == 0) = false := beq_eq_false_iff_ne.2 (by omega)
        have hmany := HLK.out.1.many
        have hev : d.evs ≤ m := by have := HLK.out.2.1; have e0 : dk0.evs = 0 := rfl; omega
        obtain ⟨j, hj, hP⟩ := pick_ex n (d.trs.length : Int) h1 h2 (by omega) (by omega)
        have HP := Lib.hid hP
        obtain ⟨x, hx⟩ : ∃ x, d.trs[j]? = some x := ⟨_, List.getElem?_eq_getElem (by omega)⟩
        have HX := Lib.hid hx
        have hwt := HWT.out rfl j x hx
        have HWT1 := Lib.hid hwt
        obtain ⟨b, off, rfl, hb, hcs⟩ := read_lfs HLF.out (by omega)
        have HCS := Lib.hid hcs
        obtain ⟨y0, y1, y2, y3, y4⟩ := hcs j x hx
        have hjt : j < d.trs.length := by omega
        have hj0 : (0 : Int) ≤ (j : Int) := by omega
        have hj1 : (j : Int) < (d.trs.length : Int) := by omega
        have hRL : ReadLfs W5.heap.size W5 (some ⟨b, off, none⟩) d.trs := read_lfs HLF.out
        have HRL := Lib.hid hRL
        clear hP hx hwt hcs hl0 HWT HLF h1 h2 hRL hj
        obtain ⟨tl, htl⟩ : ∃ tl, d.trs.length = tl := ⟨_, rfl⟩
        have HTL := Lib.hid htl
        rw [htl] at hjt hj1 hlb hmany HP ⊢
        clear htl
        go_wp2_with fail
        refine (HP.out _).mono ?_
        rintro e w6 ⟨rfl, rfl⟩
        obtain ⟨xn, xb, xe, xc, xo⟩ := x
        dsimp only at y0 y1 y2 y3 y4 HWT1
        have hs6 := hB5.size
        go_wp2_with fail
        go_loopw [8, 9] (fun q i wr => ∃ (k : Nat), k ≤ m ∧ i = .int .i64 k ∧ wr.ownsRow w6.heap.size 55 11 q ((zs.take k).filter (fun z => keepE xn z.1)).length (evsC ((zs.take k).filter (fun z => keepE xn z.1))) ∧ Below w6.heap.size w6 wr) (fun q i wr => m - (intOf i).toNat)
        case atStart => exact ⟨0, Nat.zero_le _, rfl, World.ownsRow_nil _ _ _ _, Below.refl _ _⟩
        case round =>
          obtain ⟨k, hk, rfl, hrow, hB0⟩ := hrel
          obtain ⟨Aq, cq, rfl⟩ := row_one hrow
          have HROW := Lib.hid hrow
          have hBr := nxt hB5 hB0 hs6
          have hwr := hB0.size
          by_cases hlt : k < m
          · have hkd : decide (k < m) = true := decide_eq_true hlt
            obtain ⟨be, offe, rfl, hbe, hce⟩ := ev_read (HE.out.read.below hBr) (by rw [HM.out]; exact hlt)
            have hzk : zs[k]? = some (zs[k]?.getD (⟨0, emB, emB, op0, stz⟩, none, 0)) := by rw [List.getElem?_eq_getElem (show k < zs.length by rw [HM.out]; exact hlt)]; rfl
            have hst := keep_step hzk xn
            have hlen : ((zs.take k).filter (fun z => keepE xn z.1)).length ≤ 60 := by
              have h1 := List.length_filter_le (fun z : EvZ => keepE xn z.1) (zs.take k)
              rw [List.length_take] at h1
              omega
            have HST := Lib.hid hst
            clear hst hzk hrow
            generalize zs[k]?.getD (⟨0, emB, emB, op0, stz⟩, none, 0) = z at *
            generalize (zs.take k).filter (fun z => keepE xn z.1) = ys at *
            obtain ⟨⟨kd, nm, ob, ⟨o1, o2, o3, o4, o5⟩, t, n', l⟩, Ae, ce⟩ := z
            dsimp only at hce
            obtain ⟨x0', x1, x2, x3, x4, x5, x6, x7, x8, x9, x10⟩ := hce
            have hk0 : (0 : Int) ≤ (k : Int) := by omega
            have hk1 : (k : Int) < (m : Int) := by omega
            have hkw : IntKind.i64.wrap (k : Int) = (k : Int) := by rw [IntKind.wrap_i64]; omega
            have y0r : wr.cell? ⟨b, off + j * 5, none⟩ = some (.string xn) := (hB0.cell (p := ⟨b, off + j * 5, none⟩) hb).trans y0
            have HCN := Lib.hid (fun q => cell_new_any (wr.drewN q) 55 (evC ⟨kd, nm, ob, (o1, o2, o3, o4, o5), t, n', l⟩ Ae ce))
            unfold evC at HCN
            dsimp only at HCN
            by_cases hkeep : keepE xn ⟨kd, nm, ob, (o1, o2, o3, o4, o5), t, n', l⟩ = true
            · by_cases k1 : kd = 1
              · have hkd1 : (kd == 1) = true := by rw [k1]; rfl
                clear k1
                go_wp2_with fail
                go_quiet (fail)
                go_wp2_with (at_builtin; refine wpList_append_own_at _ rfl _ _ 22 rfl w6.heap.size 55 i0 (.agg evZ) 11 120 Tryz.underlying22 hi hz0 hz1 hz2 rfl (by decide) _ _ _ rfl ((show (wr.drewN _).ownsRow _ _ _ _ _ _ from HROW.out).alloc _) ⟨wr.heap.size, 0, none⟩ 1 1 _ rfl rfl (HCN.out _) (by intro u hu; simp at hu; rcases hu with rfl | rfl | rfl | rfl | rfl | rfl | rfl | rfl | rfl | rfl | rfl <;> rfl) (by unfold maxLen; omega) (by omega) (by simp; omega) ?_; intro v7 w7 hown7 hg7 hnil7 hat7)
                go_roundw
                case rel =>
                  refine ⟨k + 1, by omega, by go_num, ?_, ?_⟩
                  · rw [HST.out, if_pos hkeep, evsC_snoc, List.length_append]; exact hown7
                  · exact ((belowN hB0 _).alloc hwr _).grown hg7 (by simp; omega) (fun r e => (HROW.out.lt r e).1)
                case measure => simp [intOf]; omega
              · have hkd1 : (kd == 1) = false := beq_eq_false_iff_ne.2 k1
                have hnn : (nm == xn) = false := by
                  unfold keepE at hkeep
                  simpa [k1] using hkeep
                have hnl : (nm.toList == xn.toList) = false := by rw [← str_beq]; exact hnn
                clear k1
                go_wp2_with fail
                go_quiet (fail)
                go_wp2_with (at_builtin; refine wpList_append_own_at _ rfl _ _ 22 rfl w6.heap.size 55 i0 (.agg evZ) 11 120 Tryz.underlying22 hi hz0 hz1 hz2 rfl (by decide) _ _ _ rfl ((show (wr.drewN _).ownsRow _ _ _ _ _ _ from HROW.out).alloc _) ⟨wr.heap.size, 0, none⟩ 1 1 _ rfl rfl (HCN.out _) (by intro u hu; simp at hu; rcases hu with rfl | rfl | rfl | rfl | rfl | rfl | rfl | rfl | rfl | rfl | rfl <;> rfl) (by unfold maxLen; omega) (by omega) (by simp; omega) ?_; intro v7 w7 hown7 hg7 hnil7 hat7)
                go_roundw
                case rel =>
                  refine ⟨k + 1, by omega, by go_num, ?_, ?_⟩
                  · rw [HST.out, if_pos hkeep, evsC_snoc, List.length_append]; exact hown7
                  · exact ((belowN hB0 _).alloc hwr _).grown hg7 (by simp; omega) (fun r e => (HROW.out.lt r e).1)
                case measure => simp [intOf]; omega
            · have hkn : kd ≠ 1 ∧ nm = xn := by
                unfold keepE at hkeep
                simpa using hkeep
              obtain ⟨k1, rfl⟩ := hkn
              have hkd1 : (kd == 1) = false := beq_eq_false_iff_ne.2 k1
              clear k1
              go_wp2_with fail
              go_quiet (fail)
              go_wp2
              go_roundw
              case rel =>
                refine ⟨k + 1, by omega, by go_num, ?_, belowN hB0 _⟩
                rw [HST.out, if_neg hkeep, List.append_nil]; exact HROW.out
              case measure => simp [intOf]; omega
          · have hkk : k = m := by omega
            subst hkk
            have hkd : decide (k < k) = false := decide_eq_false (by omega)
            have htk : zs.take k = zs := List.take_of_length_le (by rw [HM.out]; exact Nat.le_refl _)
            rw [htk] at HROW ⊢
            clear htk hrow
            have hfm : (zs.filter (fun z => keepE xn z.1)).map Prod.fst = (zs.map Prod.fst).filter (keepE xn) := by rw [List.filter_map]; rfl
            have hlen : (zs.filter (fun z => keepE xn z.1)).length ≤ 60 := by
              have h1 := List.length_filter_le (fun z : EvZ => keepE xn z.1) zs
              have := HM.out
              omega
            obtain ⟨tb, htb⟩ : ∃ tb, (layD ((zs.map Prod.fst).filter (keepE xn))).trs.length = tb := ⟨_, rfl⟩
            have hin : EvIn wr Aq (zs.filter (fun z => keepE xn z.1)) := ⟨read_evs HROW.out, read_nums_mem (HE.out.nums.below hBr) (fun z hz => (List.mem_filter.1 hz).1), fun z hz => HE.out.len z ((List.mem_filter.1 hz).1), by omega⟩
            have HL2 := Lib.hid (lives_any Aq cq _ wr hin)
            unfold LivesPost fltV at HL2
            rw [hfm, show (layX dk0 0 ((zs.map Prod.fst).filter (keepE xn))).2.1 = 0 from HWT1.out.1, show (layX dk0 0 ((zs.map Prod.fst).filter (keepE xn))).2.2 = 0 from lay_fine _ _ _ HWT1.out.1, if_pos rfl] at HL2
            have hw2 := HWT1.out.2.1
            rw [htb, HTL.out] at hw2
            have HW3 := Lib.hid HWT1.out.2.2
            have HTB := Lib.hid htb
            generalize (zs.filter (fun z => keepE xn z.1)).length = ry at *
            subst hw2
            clear hin hfm htb HROW
            go_wp2_with fail
            refine HL2.out.mono ?_
            rintro e w7 ⟨v7, rfl, hlf7, hb7⟩
            have hB7 := nxt hB0 hb7 hB0.size
            obtain ⟨A7, c7, rfl⟩ := lifes_shape hlf7
            have hb8 := alloc1 w7 (.cells #[.int .i64 0, .int .i64 0] 29)
            have HX8 := Lib.hid (Holds.new w7 29 #[.int .i64 0, .int .i64 0])
            have HLF8 := Lib.hid (hlf7.below hb8)
            have hB8 := nxt hB7 hb8 hB7.size
            rw [show (layX dk0 0 ((zs.map Prod.fst).filter (keepE xn))).1.trs.length = tb from HTB.out] at HLF8 ⊢
            clear hlf7
            go_upto_region 15 with fail
            generalize w7.alloc (.cells #[.int .i64 0, .int .i64 0] 29) = W8 at *
            have f0 : W8.cell? ⟨w7.heap.size, 0, none⟩ = some (.int .i64 0) := HX8.out.c (j := 0) rfl
            have hsub : (((tb + 1 : Nat) : Int) - 1) = (tb : Int) := by omega
            have hs8 : w6.heap.size ≤ W8.heap.size := hB8.size
            have hB9 := nxt hB5 hB8 hs6
            have HRL8 := Lib.hid (HRL.out.below hB8)
            have HR8 := Lib.hid HLF8.out
            go_wp2_with fail
            go_loopw [12, 13] (fun i q wl => ∃ (t : Nat), t ≤ tb + 1 ∧ i = .int .i64 t ∧ Below W8.heap.size W8 wl) (fun i q wl => tb + 1 - (intOf i).toNat)
            case atStart => exact ⟨0, Nat.zero_le _, rfl, Below.refl _ _⟩
            case round =>
              obtain ⟨t, ht, rfl, hBl⟩ := hrel
              have hBy := nxt hB9 hBl hB9.size
              by_cases hlt2 : t < tb + 1
              · have ht0 : (0 : Int) ≤ (t : Int) := by omega
                have ht1 : (t : Int) < (tb : Int) + 1 := by omega
                have ht2 : (t : Int) < ((tb + 1 : Nat) : Int) := by omega
                have hkd2 : decide (t < tb + 1) = true := decide_eq_true hlt2
                have hkd3 : decide ((t : Int) < (tb : Int) + 1) = true := decide_eq_true ht1
                have htw : IntKind.i64.wrap (t : Int) = (t : Int) := by rw [IntKind.wrap_i64]; omega
                by_cases hij : t = j
                · subst hij
                  go_wp2
                  go_roundw
                  case rel => exact ⟨t + 1, by omega, by go_num, hBl⟩
                  case measure => simp [intOf]; omega
                · have hijn : (t == j) = false := beq_eq_false_iff_ne.2 hij
                  have hiji : ((t : Int) == (j : Int)) = false := beq_eq_false_iff_ne.2 (by omega)
                  obtain ⟨y, hy⟩ : ∃ y, d.trs[t]? = some y := ⟨_, List.getElem?_eq_getElem (by rw [HTL.out]; exact hlt2)⟩
                  obtain ⟨z, hz, hcore⟩ := HW3.out t y hij hy
                  obtain ⟨b9, off9, e9, hb9, hc9⟩ := HRL8.out (by rw [HTL.out]; omega)
                  injection e9 with e9
                  injection e9 with e9 e10 e11
                  subst e9 e10
                  obtain ⟨r0, r1, r2, r3, r4⟩ := hc9 t y hy
                  have hzl := (List.getElem?_eq_some_iff.1 hz).1
                  rw [HTB.out] at hzl
                  have HR8t := HR8.out
                  obtain ⟨bz, offz, rfl, hbz, hcz⟩ := (read_lfs (show OwnLifes W8 _ (.slice A7 (layD ((zs.map Prod.fst).filter (keepE xn))).trs.length c7) _ by rw [HTB.out]; exact HR8t)) (by rw [HTB.out]; omega)
                  obtain ⟨s0, s1, s2, s3, s4⟩ := hcz _ z hz
                  clear HR8t hcz hc9 hz hy
                  generalize hkk : (if j < t then t - 1 else t) = kk at *
                  have hk20 : (0 : Int) ≤ (kk : Int) := by omega
                  have hk21 : (kk : Int) < (tb : Int) := by omega
                  obtain ⟨yn, yb, ye, yc, yo⟩ := y
                  obtain ⟨zn, zb, ze, zc, zo⟩ := z
                  unfold core at hcore
                  simp only [Prod.mk.injEq] at hcore
                  obtain ⟨rfl, rfl, rfl, hend⟩ := hcore
                  dsimp only at r0 r1 r2 r3 r4 s0 s1 s2 s3 s4
                  have r0' := (hBl.cell (p := ⟨b, _, none⟩) (Nat.lt_of_lt_of_le hb hs8)).trans r0
                  have r2' := (hBl.cell (p := ⟨b, _, none⟩) (Nat.lt_of_lt_of_le hb hs8)).trans r2
                  have r3' := (hBl.cell (p := ⟨b, _, none⟩) (Nat.lt_of_lt_of_le hb hs8)).trans r3
                  have r4' := (hBl.cell (p := ⟨b, _, none⟩) (Nat.lt_of_lt_of_le hb hs8)).trans r4
                  have s0' := (hBl.cell (p := ⟨bz, _, none⟩) hbz).trans s0
                  have s2' := (hBl.cell (p := ⟨bz, _, none⟩) hbz).trans s2
                  have s3' := (hBl.cell (p := ⟨bz, _, none⟩) hbz).trans s3
                  have s4' := (hBl.cell (p := ⟨bz, _, none⟩) hbz).trans s4
                  clear r0 r1 r2 r3 r4 s0 s1 s2 s3 s4
                  by_cases hgt : j < t
                  · have hgd : decide (j < t) = true := decide_eq_true hgt
                    rw [if_pos hgt] at hkk
                    have hgi : decide ((j : Int) < (t : Int)) = true := decide_eq_true (by omega)
                    have hk1 : IntKind.i64.wrap ((t : Int) - 1) = (kk : Int) := by rw [IntKind.wrap_i64]; omega
                    clear hkk
                    go_wp2_with fail
                    go_quiet (fail)
                    go_wp2
                    go_roundw
                    case rel => exact ⟨t + 1, by omega, by go_num, belowN hBl _⟩
                    case measure => simp [intOf]; omega
                  · have hgd : decide (j < t) = false := decide_eq_false hgt
                    rw [if_neg hgt] at hkk
                    subst hkk
                    have hgi : decide ((j : Int) < (t : Int)) = false := decide_eq_false (by omega)
                    go_wp2_with fail
                    go_quiet (fail)
                    go_wp2
                    go_roundw
                    case rel => exact ⟨t + 1, by omega, by go_num, belowN hBl _⟩
                    case measure => simp [intOf]; omega
              · have hkd2 : decide (t < tb + 1) = false := decide_eq_false hlt2
                have hkd3 : decide ((t : Int) < (tb : Int) + 1) = false := decide_eq_false (by omega)
                go_wp2
                go_ret
                exact ⟨rfl, hBy⟩
    · have hzz : (er == 0) = false := beq_eq_false_iff_ne.2 hz
      have hne : (er != 0) = true := by rw [bne_iff_ne]; exact hz
      rw [if_neg hz] at HLF
      clear hz
      go_wp2
      all_goals (go_ret; exact ⟨rfl, hB5⟩)
end Go.Proofs.YtpdbkjnaicjfdaaGreatDoor
