/- HistoryOver. -/
import Derived.Test.YtpdbkjnaicjfdaaGreatDoorHsR4
import Derived.Test.YtpdbkjnaicjfdaaGreatDoorHsPl
import Derived.Test.YtpdbkjnaicjfdaaGreatDoorGvP
namespace Go.Proofs.YtpdbkjnaicjfdaaGreatDoor
open Go.RowKit Go.Maps
set_option linter.unusedVariables false
set_option maxRecDepth 100000

/-- Events that the law goes through. -/
theorem evs_in {w : World} {A : Option Addr} {zs : List EvZ} (hA : ReadEvs w.heap.size w A zs) (hN : ReadNums w zs) (hlong : longB (zs.map Prod.fst) = false) : EvIn w A zs ∧ zs.length ≤ 60 := by
  obtain ⟨h1, h2⟩ := long_no hlong
  rw [List.length_map] at h1
  refine ⟨⟨hA, hN, fun z hz => ?_, by omega⟩, h1⟩
  have := h2 z.1 (List.mem_map_of_mem hz)
  omega
def addAll (d : Dk) (es : List Ev) : Dk := es.foldl addD d
theorem add_lay : ∀ (es : List Ev) (d : Dk) (i : Nat), (layX d i es).2.1 = 0 → addAll d es = (layX d i es).1
  | [], d, i, _ => rfl
  | e :: r, d, i, h => by
    rw [layX] at h ⊢
    show addAll (addD d e) r = _
    unfold addD
    by_cases k : agE d e = 0
    · rw [if_pos k] at h ⊢
      rw [if_pos k]
      exact add_lay r _ _ h
    · rw [if_neg k] at h; exact absurd h k
theorem add_snoc (d : Dk) (es : List Ev) {k : Nat} {e : Ev} (hk : es[k]? = some e) : addAll d (es.take (k + 1)) = addD (addAll d (es.take k)) e := by
  have hl := (List.getElem?_eq_some_iff.1 hk).1
  rw [List.take_succ_eq_append_getElem hl]
  rw [List.getElem?_eq_getElem hl] at hk
  rw [Option.some.inj hk]
  unfold addAll
  rw [List.foldl_append]; rfl
theorem addD_evs (d : Dk) (e : Ev) : (addD d e).evs ≤ d.evs + 1 := by
  unfold addD
  split
  · rw [take_evs]; omega
  · omega
theorem adds_evs : ∀ (es : List Ev) (d : Dk), (addAll d es).evs ≤ d.evs + es.length
  | [], d => Nat.le_refl _
  | e :: r, d => by
    have h := adds_evs r (addD d e)
    have h2 := addD_evs d e
    show (addAll (addD d e) r).evs ≤ _
    rw [List.length_cons]; omega
theorem nm_small {s : ByteArray} (h : nm_checkE s = 0) : s.size ≤ 32 := (name_size (nm_name h)).2

set_option maxHeartbeats 8000000 in
theorem over_law (A : Option Addr) (c : Nat) (zs : List EvZ) (n : Int) (w : World) (hG : Gds w) (hA : ReadEvs w.heap.size w A zs) (hN : ReadNums w zs) (hm : zs.length ≤ maxLen) (h1 : -9223372036854775808 ≤ n) (h2 : n ≤ 9223372036854775807) :
    Calls Tryz.prog 9 #[.slice A zs.length c, .int .i64 n] w (Yes w) := by
  obtain ⟨hw, hk⟩ := hG
  have HKN := Lib.hid (hknown_any w hw hk)
  have HA := Lib.hid hA
  have HN := Lib.hid hN
  have HLG := Lib.hid (fun W (hB : Below w.heap.size w W) => long_any A c zs W ((HA.out.below hB).mono hB.size) hm)
  cases hlong : longB (zs.map Prod.fst) with
  | true =>
    rw [hlong] at HLG
    clear hlong hA hN hw hk hm
    go_enter Tryz.func9, Tryz.ntmps9
    go_wp2_with fail
    refine HKN.out.mono ?_
    rintro e w1 ⟨rfl, hB1⟩
    go_wp2_with fail
    refine (HLG.out _ hB1).mono ?_
    rintro e w2 ⟨rfl, hB2⟩
    go_wp2
    go_ret
    exact ⟨rfl, nxt hB1 hB2 hB1.size⟩
  | false =>
    obtain ⟨hE, h60⟩ := evs_in hA hN hlong
    rw [hlong] at HLG
    have HE := Lib.hid hE
    have HZ := Lib.hid (show ∀ k, k < zs.length → (zs.map Prod.fst)[k]? = some (zs[k]?.getD (⟨0, emB, emB, op0, stz⟩, none, 0)).1 from fun k hk => by rw [List.getElem?_map, List.getElem?_eq_getElem hk]; rfl)
    obtain ⟨m, hmm⟩ : ∃ m, zs.length = m := ⟨_, rfl⟩
    have HM := Lib.hid hmm
    have HL1 := Lib.hid (fun W (hB : Below w.heap.size w W) => lives_any A c zs W (HE.out.below hB))
    have hal := add_lay (zs.map Prod.fst) dk0 0
    have hlk := lay_ok (zs.map Prod.fst) dk0 0 dk0_ok
    rw [List.length_map] at hlk
    rw [hmm] at HL1 HLG h60 hlk HZ ⊢
    have HAL := Lib.hid hal
    have HLK := Lib.hid hlk
    unfold LivesPost at HL1
    clear hlong hA hN hw hk hm hE hmm hal hlk
    go_enter Tryz.func9, Tryz.ntmps9
    go_wp2_with fail
    refine HKN.out.mono ?_
    rintro e w1 ⟨rfl, hB1⟩
    go_wp2_with fail
    refine (HLG.out _ hB1).mono ?_
    rintro e w2 ⟨rfl, hB2⟩
    have hBB := nxt hB1 hB2 hB1.size
    go_wp2_with fail
    refine (new_any _).mono ?_
    rintro e w3 ⟨L0, rfl, hD3, hB3⟩
    obtain ⟨B0, hB0⟩ : ∃ B0, L0.B = B0 := ⟨_, rfl⟩
    rw [hB0]
    have hBw3 := nxt hBB hB3 hBB.size
    have hs2 := hBB.size
    have HD3 := Lib.hid (hD3.mono hs2)
    have HB0 := Lib.hid hB0
    clear hD3 hB0 HKN HLG hB1 hB2 hB3
    go_wp2_with fail
    go_loopw [7] (fun i wr => ∃ (k : Nat) (L : Lay), k ≤ m ∧ i = .int .i64 k ∧ L.B = B0 ∧ Dsk wr w.heap.size L (addAll dk0 ((zs.map Prod.fst).take k)) ∧ Below w.heap.size w wr) (fun i wr => m - (intOf i).toNat)
    case atStart => exact ⟨0, L0, Nat.zero_le _, rfl, HB0.out, HD3.out, hBw3⟩
    case round =>
      obtain ⟨k, L, hk, rfl, hLB, hD, hB⟩ := hrel
      have HD := Lib.hid hD
      have hevs : (addAll dk0 ((zs.map Prod.fst).take k)).evs ≤ k := by
        have := adds_evs ((zs.map Prod.fst).take k) dk0
        rw [List.length_take] at this
        have e0 : dk0.evs = 0 := rfl
        omega
      clear hD
      by_cases hlt : k < m
      · have hkd : decide (k < m) = true := decide_eq_true hlt
        obtain ⟨b, off, rfl, hb, hcs⟩ := ev_read (HE.out.read.below hB) (by rw [HM.out]; exact hlt)
        have hz := wd_memE (zs := zs) (by rw [HM.out]; exact hlt)
        have hsn := add_snoc dk0 (zs.map Prod.fst) (HZ.out k hlt)
        have hlz := HE.out.len _ hz
        have hints := (HE.out.nums _ hz).below hB
        have HSN := Lib.hid hsn
        clear hsn hz
        generalize zs[k]?.getD (⟨0, emB, emB, op0, stz⟩, none, 0) = z at *
        obtain ⟨ev, Ae, ce⟩ := z
        dsimp only at hcs hints hlz
        have HADD := Lib.hid (dadd_any ev Ae ce wr HD.out (by omega) hB.size hints hlz.1 hlz.2.1 hlz.2.2)
        unfold AddedPost at HADD
        dsimp only at HSN
        rw [← HSN.out, hLB] at HADD
        generalize agE (addAll dk0 ((zs.map Prod.fst).take k)) ev = ag at *
        have hlo := HD.out.lt
        unfold evV evC at HADD
        obtain ⟨x0, x1, x2, x3, x4, x5, x6, x7, x8, x9, x10⟩ := hcs
        have hk0 : (0 : Int) ≤ (k : Int) := by omega
        have hk1 : (k : Int) < (m : Int) := by omega
        have hkw : IntKind.i64.wrap (k : Int) = (k : Int) := by rw [IntKind.wrap_i64]; omega
        go_wp2_with fail
        refine HADD.out.mono ?_
        rintro e w4 ⟨rfl, L', hD4, hLB4, hbut, hft⟩
        have hB4 : Below w.heap.size w w4 := hB.trans (hbut.below (fun i hi => (hlo i hi).1) hB.size)
        have HD4 := Lib.hid hD4
        clear hD4 hft hbut hlo x0 x1 x2 x3 x4 x5 x6 x7 x8 x9 x10
        go_wp2_with fail
        go_roundw
        case rel => exact ⟨k + 1, L', by omega, by go_num, hLB4, HD4.out, hB4⟩
        case measure => simp [intOf]; omega
      · have hkk : k = m := by omega
        subst hkk
        have hkd : decide (k < k) = false := decide_eq_false (by omega)
        have htk : (zs.map Prod.fst).take k = zs.map Prod.fst := List.take_of_length_le (by rw [List.length_map, HM.out]; exact Nat.le_refl _)
        rw [htk] at HD
        clear htk hevs
        go_wp2_with fail
        refine (HL1.out _ hB).mono ?_
        rintro e w4 ⟨v, rfl, hlf, hb4⟩
        have HD4 := Lib.hid (HD.out.below hb4)
        have hB4 := nxt hB hb4 hB.size
        have HLF := Lib.hid hlf
        unfold fltV
        clear hlf HD HL1
        generalize layX dk0 0 (zs.map Prod.fst) = X at *
        generalize addAll dk0 (zs.map Prod.fst) = ad at *
        obtain ⟨d, er, p⟩ := X
        dsimp only at HAL HLK HLF ⊢
        have hb5 := alloc1 w4 (.cells #[.int .i64 er, .int .i64 p] 29)
        have HX5 := Lib.hid (Holds.new w4 29 #[.int .i64 er, .int .i64 p])
        have hB5 := nxt hB4 hb5 hB4.size
        have HD5 := Lib.hid (HD4.out.below hb5)
        by_cases hz : er = 0
        · subst hz
          have e1 := HAL.out rfl
          rw [e1] at HD5
          rw [if_pos rfl] at HLF
          have hev : d.evs = k := by have := HLK.out.2.2 rfl; have e0 : dk0.evs = 0 := rfl; omega
          obtain ⟨A2, c2, rfl⟩ := lifes_shape HLF.out
          have HLF5 := Lib.hid (HLF.out.below hb5)
          go_upto_region 12 with fail
          generalize w4.alloc (.cells #[.int .i64 0, .int .i64 p] 29) = W5 at *
          have x0 : W5.cell? ⟨w4.heap.size, 0, none⟩ = some (.int .i64 0) := HX5.out.c (j := 0) rfl
          by_cases hl0 : d.trs.length = 0
          · rw [hl0]
            go_wp2
            go_ret
            exact ⟨rfl, hB5⟩
          · have hlb : ((d.trs.length : Int) == 0) = false := beq_eq_false_iff_ne.2 (by omega)
            have hmany := HD5.out.ok.many
            obtain ⟨j, hj, hP⟩ := pick_ex n (d.trs.length : Int) h1 h2 (by omega) (by omega)
            have HP := Lib.hid hP
            obtain ⟨x, hx⟩ : ∃ x, d.trs[j]? = some x := ⟨_, List.getElem?_eq_getElem (by omega)⟩
            have how := over_ways HD5.out.ok hx
            have hnm := nm_small (HD5.out.ok.tnam x (List.mem_of_getElem? hx))
            have hops := HD5.out.ok.ops x (List.mem_of_getElem? hx)
            obtain ⟨b, off, rfl, hb, hcs⟩ := read_lfs HLF5.out (by omega)
            obtain ⟨y0, y1, y2, y3, y4⟩ := hcs j x hx
            have HOW := Lib.hid how
            have hj0 : (0 : Int) ≤ (j : Int) := by omega
            have hj1 : (j : Int) < (d.trs.length : Int) := by omega
            have HEV := Lib.hid hev
            generalize d.trs.length = tl at *
            clear hP hx how hcs hl0 HLF HLF5 HAL HLK h1 h2 hev
            have hfewd : d.evs ≤ 60 := by rw [HEV.out]; exact h60
            go_wp2_with fail
            refine (HP.out _).mono ?_
            rintro e w6 ⟨rfl, rfl⟩
            obtain ⟨xn, xb, xe, xc, xo⟩ := x
            dsimp only at y0 y1 y2 y3 y4 hnm hops HOW
            have hb6 := alloc1 w6 (.cells #[.string xn, .int .i64 xb, .int .i64 xe, .bool xc, .int .i64 xo] 58)
            have HX6 := Lib.hid (Holds.new w6 58 #[.string xn, .int .i64 xb, .int .i64 xe, .bool xc, .int .i64 xo])
            have HD6 := Lib.hid (HD5.out.below hb6)
            have hB6 := nxt hB5 hb6 hB5.size
            go_upto_region 15 with fail
            generalize w6.alloc (.cells #[.string xn, .int .i64 xb, .int .i64 xe, .bool xc, .int .i64 xo] 58) = W6 at *
            have z0 : W6.cell? ⟨w6.heap.size, 0, none⟩ = some (.string xn) := HX6.out.c (j := 0) rfl
            have HA2 := Lib.hid (dadd_any (evK 2 xn) none 0 W6 HD6.out (by omega) hB6.size (ints_nil _ _) (show (0 : Nat) ≤ 20000 by omega) (show xn.size ≤ 8000 by omega) (show (⟨#[]⟩ : ByteArray).size ≤ 8000 by decide))
            unfold AddedPost addD at HA2
            rw [HOW.out.1, if_neg (by decide), hLB] at HA2
            unfold evK evV evC op0 stz emB at HA2
            dsimp only at HA2
            go_wp2_with fail
            refine HA2.out.mono ?_
            rintro e w7 ⟨rfl, L7, hD7, hLB7, hbut7, hft7⟩
            have hlo6 := HD6.out.lt
            have hX7 := HX6.out.of (hbut7.block _ HX6.out.lt (fun hf => by have := (HD5.out.lt _ hf).2; omega))
            have hB7 := hB6.trans (hbut7.below (fun i hi => (hlo6 i hi).1) hB6.size)
            have HD7 := Lib.hid hD7
            have HX7 := Lib.hid hX7
            have hl6 := HX6.out.lt
            have HNF7 := Lib.hid (show ¬ foot L7 w6.heap.size from fun hf => by
              rcases hft7 _ hf with h | h
              · have := (HD5.out.lt _ h).2; omega
              · omega)
            clear z0 y0 y1 y2 y3 y4 hft7 hbut7 hlo6 hX7 hD7
            have z0 : w7.cell? ⟨w6.heap.size, 0, none⟩ = some (.string xn) := HX7.out.c (j := 0) rfl
            have hxw := HX6.out.lt
            have HLI := Lib.hid (life_any xn w7 HD7.out (show xn.size ≤ 8000 by omega))
            rw [HOW.out.2.1, hLB7] at HLI
            unfold lifeV lfC at HLI
            dsimp only at HLI
            go_wp2_with fail
            refine HLI.out.mono ?_
            rintro e w8 ⟨rfl, hb8⟩
            have hB8 := nxt hB7 hb8 hB7.size
            have HD8 := Lib.hid (HD7.out.below hb8)
            have HX8 := Lib.hid (HX7.out.below hb8 HX7.out.lt)
            have hb9 := alloc1 w8 (.cells #[.string xn, .int .i64 xb, .int .i64 xe, .bool xc, .int .i64 xo] 58)
            have HY9 := Lib.hid (Holds.new w8 58 #[.string xn, .int .i64 xb, .int .i64 xe, .bool xc, .int .i64 xo])
            have HD9 := Lib.hid (HD8.out.below hb9)
            have HX9 := Lib.hid (HX8.out.below hb9 HX8.out.lt)
            have hB9 := nxt hB8 hb9 hB8.size
            clear z0
            go_upto_region 17 with fail
            generalize w8.alloc (.cells #[.string xn, .int .i64 xb, .int .i64 xe, .bool xc, .int .i64 xo] 58) = W9 at *
            have z0 : W9.cell? ⟨w6.heap.size, 0, none⟩ = some (.string xn) := HX9.out.c (j := 0) rfl
            have z1 : W9.cell? ⟨w6.heap.size, 1, none⟩ = some (.int .i64 xb) := HX9.out.c (j := 1) rfl
            have z2 : W9.cell? ⟨w6.heap.size, 2, none⟩ = some (.int .i64 xe) := HX9.out.c (j := 2) rfl
            have z3 : W9.cell? ⟨w6.heap.size, 3, none⟩ = some (.bool xc) := HX9.out.c (j := 3) rfl
            have z4 : W9.cell? ⟨w6.heap.size, 4, none⟩ = some (.int .i64 xo) := HX9.out.c (j := 4) rfl
            have v0 : W9.cell? ⟨w8.heap.size, 0, none⟩ = some (.string xn) := HY9.out.c (j := 0) rfl
            have v1 : W9.cell? ⟨w8.heap.size, 1, none⟩ = some (.int .i64 xb) := HY9.out.c (j := 1) rfl
            have v2 : W9.cell? ⟨w8.heap.size, 2, none⟩ = some (.int .i64 xe) := HY9.out.c (j := 2) rfl
            have v3 : W9.cell? ⟨w8.heap.size, 3, none⟩ = some (.bool xc) := HY9.out.c (j := 3) rfl
            have v4 : W9.cell? ⟨w8.heap.size, 4, none⟩ = some (.int .i64 xo) := HY9.out.c (j := 4) rfl
            have HLN := Lib.hid (len_any W9 HD9.out)
            rw [hLB7, HEV.out] at HLN
            go_wp2_with fail
            refine HLN.out.mono ?_
            rintro e w10 ⟨rfl, rfl⟩
            clear v0 v1 v2 v3 v4
            have HA4 := Lib.hid (dadd_any (evK 4 xn) none 0 W9 HD9.out (by omega) hB9.size (ints_nil _ _) (show (0 : Nat) ≤ 20000 by omega) (show xn.size ≤ 8000 by omega) (show (⟨#[]⟩ : ByteArray).size ≤ 8000 by decide))
            unfold AddedPost addD at HA4
            rw [HOW.out.2.2.1, hLB7] at HA4
            have HO5 := Lib.hid HOW.out.2.2.2.1
            have HO6 := Lib.hid HOW.out.2.2.2.2
            have hd4 : (takeD d (evK 4 xn)).evs = k + 1 := by rw [take_evs, HEV.out]
            have HT4 := Lib.hid hd4
            have HTK := Lib.hid (fun (z : agE d (evK 4 xn) = 0) => HD9.out.ok.add z)
            have HO4 := Lib.hid HOW.out.2.2.1
            by_cases hr : xe = -1
            · rw [if_pos hr, if_pos rfl] at HA4
              have h6 := HO6.out hr
              rw [if_pos hr] at HO4
              generalize htd : takeD d (evK 4 xn) = td at *
              unfold evK evV evC op0 stz emB at HA4
              dsimp only at HA4
              have hge : decide ((0 : Int) ≤ xe) = false := decide_eq_false (by omega)
              go_wp2_with fail
              refine HA4.out.mono ?_
              rintro e w11 ⟨rfl, L11, hD11, hLB11, hbut11, hft11⟩
              have hlo9 := HD9.out.lt
              have hX11 := HX9.out.of (hbut11.block _ HX9.out.lt (fun hf => HNF7.out hf))
              have hB11 := hB9.trans (hbut11.below (fun i hi => (hlo9 i hi).1) hB9.size)
              have HD11 := Lib.hid hD11
              have HX11 := Lib.hid hX11
              have hl9 := HX9.out.lt
              have HNF11 := Lib.hid (show ¬ foot L11 w6.heap.size from fun hf => by
                rcases hft11 _ hf with h | h
                · exact HNF7.out h
                · omega)
              clear z0 z1 z2 z3 z4 hft11 hbut11 hlo9 hX11 hD11
              have z0 : w11.cell? ⟨w6.heap.size, 0, none⟩ = some (.string xn) := HX11.out.c (j := 0) rfl
              have z2 : w11.cell? ⟨w6.heap.size, 2, none⟩ = some (.int .i64 xe) := HX11.out.c (j := 2) rfl
              have HA5 := Lib.hid (dadd_any (evK 5 xn) none 0 w11 HD11.out (by rw [HT4.out]; omega) hB11.size (ints_nil _ _) (show (0 : Nat) ≤ 20000 by omega) (show xn.size ≤ 8000 by omega) (show (⟨#[]⟩ : ByteArray).size ≤ 8000 by decide))
              unfold AddedPost addD at HA5
              rw [h6, if_neg (by decide), hLB11] at HA5
              unfold evK evV evC op0 stz emB at HA5
              dsimp only at HA5
              go_wp2_with fail
              refine HA5.out.mono ?_
              rintro e w12 ⟨rfl, L12, hD12, hLB12, hbut12, hft12⟩
              have hX12 := HX11.out.of (hbut12.block _ HX11.out.lt (fun hf => HNF11.out hf))
              have hlo11 := HD11.out.lt
              have hB12 := hB11.trans (hbut12.below (fun i hi => (hlo11 i hi).1) hB11.size)
              have HX12 := Lib.hid hX12
              have HLN2 := Lib.hid (len_any w12 hD12)
              rw [hLB12, HT4.out] at HLN2
              clear z0 z2 hft12 hbut12 hlo11 hX12 hD12
              have z2 : w12.cell? ⟨w6.heap.size, 2, none⟩ = some (.int .i64 xe) := HX12.out.c (j := 2) rfl
              go_wp2_with fail
              refine HLN2.out.mono ?_
              rintro e w13 ⟨rfl, rfl⟩
              go_wp2
              go_ret
              exact ⟨rfl, hB12⟩
            · rw [if_neg hr, if_neg (by decide)] at HA4
              rw [if_neg hr] at HO5
              unfold evK evV evC op0 stz emB at HA4
              dsimp only at HA4
              have hge : decide ((0 : Int) ≤ xe) = true := decide_eq_true (by omega)
              go_wp2_with fail
              refine HA4.out.mono ?_
              rintro e w11 ⟨rfl, L11, hD11, hLB11, hbut11, hft11⟩
              have hlo9 := HD9.out.lt
              have hX11 := HX9.out.of (hbut11.block _ HX9.out.lt (fun hf => HNF7.out hf))
              have hB11 := hB9.trans (hbut11.below (fun i hi => (hlo9 i hi).1) hB9.size)
              have HD11 := Lib.hid hD11
              have HX11 := Lib.hid hX11
              have hl9 := HX9.out.lt
              have HNF11 := Lib.hid (show ¬ foot L11 w6.heap.size from fun hf => by
                rcases hft11 _ hf with h | h
                · exact HNF7.out h
                · omega)
              clear z0 z1 z2 z3 z4 hft11 hbut11 hlo9 hX11 hD11
              have z0 : w11.cell? ⟨w6.heap.size, 0, none⟩ = some (.string xn) := HX11.out.c (j := 0) rfl
              have HA5 := Lib.hid (dadd_any (evK 5 xn) none 0 w11 HD11.out (by rw [HEV.out]; omega) hB11.size (ints_nil _ _) (show (0 : Nat) ≤ 20000 by omega) (show xn.size ≤ 8000 by omega) (show (⟨#[]⟩ : ByteArray).size ≤ 8000 by decide))
              unfold AddedPost addD at HA5
              rw [HO5.out, if_neg (by decide), hLB11] at HA5
              unfold evK evV evC op0 stz emB at HA5
              dsimp only at HA5
              go_wp2_with fail
              refine HA5.out.mono ?_
              rintro e w12 ⟨rfl, L12, hD12, hLB12, hbut12, hft12⟩
              have hX12 := HX11.out.of (hbut12.block _ HX11.out.lt (fun hf => HNF11.out hf))
              have hlo11 := HD11.out.lt
              have hB12 := hB11.trans (hbut12.below (fun i hi => (hlo11 i hi).1) hB11.size)
              have HX12 := Lib.hid hX12
              have HLN2 := Lib.hid (len_any w12 hD12)
              rw [hLB12, HEV.out] at HLN2
              clear z0 hft12 hbut12 hlo11 hX12 hD12
              have z2 : w12.cell? ⟨w6.heap.size, 2, none⟩ = some (.int .i64 xe) := HX12.out.c (j := 2) rfl
              go_wp2_with fail
              refine HLN2.out.mono ?_
              rintro e w13 ⟨rfl, rfl⟩
              go_wp2
              go_ret
              exact ⟨rfl, hB12⟩
        · have hzz : (er == 0) = false := beq_eq_false_iff_ne.2 hz
          have hne : (er != 0) = true := by rw [bne_iff_ne]; exact hz
          obtain ⟨A2, c2, rfl⟩ := lifes_shape HLF.out
          rw [if_neg hz] at HLF
          go_upto_region 12 with fail
          generalize w4.alloc (.cells #[.int .i64 er, .int .i64 p] 29) = W5 at *
          have x0 : W5.cell? ⟨w4.heap.size, 0, none⟩ = some (.int .i64 er) := HX5.out.c (j := 0) rfl
          clear hz
          go_wp2
          all_goals (go_ret; exact ⟨rfl, hB5⟩)
end Go.Proofs.YtpdbkjnaicjfdaaGreatDoor
