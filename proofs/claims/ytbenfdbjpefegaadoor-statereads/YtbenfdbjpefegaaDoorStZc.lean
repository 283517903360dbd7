/- The document's Read. -/
import Derived.Test.YtbenfdbjpefegaaDoorStZb
namespace Go.Proofs.YtbenfdbjpefegaaDoor
open Go.RowKit Go.Maps
set_option linter.unusedVariables false

def typeTo (p : List UInt8) : Nat → Nat
  | 0 => 0
  | k + 1 => if p = wordL (k + 1) then k + 1 else typeTo p k
theorem type_five (p : List UInt8) : typeTo p 5 = typeL p := by
  by_cases h1 : p = wordL 1
  · subst h1; rfl
  by_cases h2 : p = wordL 2
  · subst h2; rfl
  by_cases h3 : p = wordL 3
  · subst h3; rfl
  by_cases h4 : p = wordL 4
  · subst h4; rfl
  by_cases h5 : p = wordL 5
  · subst h5; rfl
  simp [typeTo, typeL, h1, h2, h3, h4, h5]
theorem typeTo_yes {p : List UInt8} {k : Nat} (h : p = wordL (k + 1)) : typeTo p (k + 1) = k + 1 := by unfold typeTo; rw [if_pos h]
theorem typeTo_no {p : List UInt8} {k : Nat} (h : p ≠ wordL (k + 1)) : typeTo p (k + 1) = typeTo p k := by
  conv => lhs; unfold typeTo
  rw [if_neg h]
theorem typeTo_le (p : List UInt8) : ∀ k, typeTo p k ≤ k
  | 0 => Nat.le_refl _
  | k + 1 => by
    unfold typeTo
    split
    · exact Nat.le_refl _
    · exact Nat.le_succ_of_le (typeTo_le p k)

/-- What ReadPost asks, in its ways. -/
theorem rd_zero {s : List UInt8} {E P : Int} {w w' : World} (h : readL s = (st0, E, P)) (hB : Below w.heap.size w w') : ReadPost (readL s) w (.returned (.tuple #[.agg #[.int .i64 0, .int .i64 0, .slice none 0 0], .agg #[.int .i64 E, .int .i64 P]])) w' := by
  rw [h]; exact ⟨none, 0, rfl, nil_row _ _, hB⟩

set_option maxRecDepth 100000 in
set_option maxHeartbeats 1500000 in
theorem rread_any (s : ByteArray) (w : World) (hs : s.size ≤ 2000) :
    Calls Tryd.prog 30 #[.string s] w (ReadPost (readL s.data.toList) w) := by
  have hple := part_le s.data.toList
  rw [bytes_len] at hple
  have H1 := Lib.hid (read_none (s := s.data.toList))
  have H2 := Lib.hid (read_bad (s := s.data.toList))
  have H3 := Lib.hid (read_no (s := s.data.toList))
  have H4 := Lib.hid (read_yes (s := s.data.toList))
  have HP0 := rpart_any s 0 0 ((w.alloc zSt).alloc zFt) hs (by omega) rfl
  rw [List.drop_zero, Nat.zero_add] at HP0
  have hpx : s.extract 0 (partL s.data.toList).length = partB s := by rw [← part_size]; exact part_extract s
  have hpl : (partB s).toList = partL s.data.toList := by rw [Go.ByteArray.toList_eq]; exact part_bytes s
  have hsp := part_size s
  obtain ⟨n0, hn0⟩ : ∃ n0, (partL s.data.toList).length = n0 := ⟨_, rfl⟩
  rw [hn0] at HP0 hple H2 H3 H4 hpx
  obtain ⟨pb, hpb⟩ : ∃ pb, partB s = pb := ⟨_, rfl⟩
  rw [hpb] at hpx hpl
  have HPL := Lib.hid hpl
  have hB0 : Below w.heap.size w (((w.alloc zSt).alloc zFt).alloc zSt) := ((alloc1 w _).alloc (by simp) _).alloc (by simp; omega) _
  have HZ : Holds (((w.alloc zSt).alloc zFt).alloc zSt) w.heap.size 24 #[.int .i64 0, .int .i64 0, .slice none 0 0] := ((Holds.new w 24 #[.int .i64 0, .int .i64 0, .slice none 0 0]).alloc zFt).alloc zSt
  have HF : Holds (((w.alloc zSt).alloc zFt).alloc zSt) (w.heap.size + 1) 44 #[.int .i64 0, .int .i64 0] := by
    have := (Holds.new (w.alloc zSt) 44 #[.int .i64 0, .int .i64 0]).alloc zSt
    rwa [World.size_alloc] at this
  have HS : Holds (((w.alloc zSt).alloc zFt).alloc zSt) (w.heap.size + 2) 24 #[.int .i64 0, .int .i64 0, .slice none 0 0] := by
    have := Holds.new ((w.alloc zSt).alloc zFt) 24 #[.int .i64 0, .int .i64 0, .slice none 0 0]
    rwa [World.size_alloc, World.size_alloc] at this
  have hs0 : (((w.alloc zSt).alloc zFt).alloc zSt).heap.size = w.heap.size + 3 := by simp
  have RW := rwords_any (((w.alloc zSt).alloc zFt).alloc zSt)
  unfold zSt zFt at *
  have hn0i : (0 : Int) ≤ (n0 : Int) := by omega
  have hn0s : (n0 : Int) ≤ (s.size : Int) := by omega
  clear hpl hsp hpb hn0
  go_enter Tryd.func30, Tryd.ntmps30
  go_wp2_with fail
  refine HP0.mono ?_
  rintro e w1 ⟨rfl, hw1⟩
  rw [hw1]
  clear hw1 w1 HP0
  go_wp2_with fail
  refine RW.mono ?_
  rintro e w1 ⟨rfl, hw1⟩
  rw [hw1]
  clear hw1 w1 RW
  have hcw := rwords_cell (((w.alloc (.cells #[.int .i64 0, .int .i64 0, .slice none 0 0] 24)).alloc (.cells #[.int .i64 0, .int .i64 0] 44)).alloc (.cells #[.int .i64 0, .int .i64 0, .slice none 0 0] 24))
  rw [hs0] at hcw
  have hB1 := nxt hB0 (alloc1 _ wordsO) (by omega)
  have HZ1 := HZ.alloc wordsO
  have HF1 := HF.alloc wordsO
  have HS1 := HS.alloc wordsO
  have hs1 : w.heap.size + 3 < ((((w.alloc (.cells #[.int .i64 0, .int .i64 0, .slice none 0 0] 24)).alloc (.cells #[.int .i64 0, .int .i64 0] 44)).alloc (.cells #[.int .i64 0, .int .i64 0, .slice none 0 0] 24)).alloc wordsO).heap.size := by simp
  rw [hs0]
  clear HZ HF HS hB0 hs0
  go_wp2_with fail
  generalize (((w.alloc (.cells #[.int .i64 0, .int .i64 0, .slice none 0 0] 24)).alloc (.cells #[.int .i64 0, .int .i64 0] 44)).alloc (.cells #[.int .i64 0, .int .i64 0, .slice none 0 0] 24)).alloc wordsO = W1 at *
  have HCW := Lib.hid hcw
  have HZH := Lib.hid HZ1
  have HFH := Lib.hid HF1
  have HSH := Lib.hid HS1
  have HBH := Lib.hid hB1
  clear hcw HZ1 HF1 HS1 hB1
  go_loopw [7] (fun i wr => ∃ (k tt : Nat), k ≤ 5 ∧ i = .int .i64 k ∧ tt = typeTo (partL s.data.toList) k ∧ Holds wr (w.heap.size + 2) 24 #[.int .i64 tt, .int .i64 0, .slice none 0 0] ∧ Only (w.heap.size + 2) W1 wr) (fun i wr => 5 - (intOf i).toNat)
  case atStart => exact ⟨0, 0, by omega, rfl, rfl, HSH.out, Only.of (Below.refl _ _) (Nat.le_refl _)⟩
  case round =>
    obtain ⟨k, tt, hk, rfl, htt, hH, hO⟩ := hrel
    have HTT := Lib.hid htt
    have HH := Lib.hid hH
    have HON := Lib.hid hO
    have hsw := hO.size
    clear htt hH hO
    by_cases hlt : k < 5
    · have q2 : decide ((k : Int) < 5) = true := decide_eq_true (by omega)
      have hck : wr.cell? ⟨w.heap.size + 3, k, none⟩ = some (.string (wordB (k + 1))) := (cell_kept (HON.out.block (w.heap.size + 3) hs1 (by omega))).trans (HCW.out k hlt)
      have h1 := HH.out.c (j := 0) rfl
      have h2 := HH.out.frozen 0
      have g0 : (0 : Int) ≤ (k : Int) := by omega
      have g1 : (k : Int) < 5 := by omega
      have hwl : (wordB (k + 1)).toList = wordL (k + 1) := Go.ByteArray.toList_eq _
      obtain ⟨sk, hsk⟩ : ∃ sk, wordB (k + 1) = sk := ⟨_, rfl⟩
      rw [hsk] at hck hwl
      have HWL := Lib.hid hwl
      clear hsk hwl
      cases he : (sk.toList == pb.toList)
      · go_wp2_with fail
        go_quiet (fail)
        go_wp2
        go_roundw
        case rel =>
          refine ⟨k + 1, tt, by omega, by go_num, ?_, HH.out, HON.out.then (Only.of (below_drew0 wr _) (Nat.le_refl _))⟩
          rw [typeTo_no, HTT.out]
          intro e
          rw [beq_eq_false_iff_ne, HWL.out, HPL.out] at he
          exact he e.symm
        case measure => simp [intOf]; omega
      · go_wp2_with fail
        go_quiet (fail)
        go_wp2
        go_roundw
        case rel =>
          have he' := beq_iff_eq.1 he
          rw [HWL.out, HPL.out] at he'
          refine ⟨k + 1, k + 1, by omega, by go_num, (typeTo_yes he'.symm).symm, ?_, ?_⟩
          · have := (HH.out.of (W' := wr.drewN nq) rfl).set 0 (.int .i64 ((k : Int) + 1))
            rw [Int.natCast_add, Int.natCast_one]
            exact this
          · exact (HON.out.then (Only.of (below_drew0 wr nq) (Nat.le_refl _))).set 0 _
        case measure => simp [intOf]; omega
    · have q2 : decide ((k : Int) < 5) = false := decide_eq_false (by omega)
      have hk5 : k = 5 := by omega
      have htk : tt = typeL (partL s.data.toList) := by rw [HTT.out, hk5, type_five]
      have htl := type_le (partL s.data.toList)
      have HTK := Lib.hid htk
      rw [← htk] at H1 H2 H3 H4 htl
      have h1 := HH.out.c (j := 0) rfl
      have HZ2 := HZH.out.of (HON.out.block w.heap.size (by omega) (by omega))
      have HF2 := HFH.out.of (HON.out.block (w.heap.size + 1) (by omega) (by omega))
      have hBw : Below w.heap.size w wr := nxt HBH.out (HON.out.below (lo := w.heap.size) (by omega) (by omega)) (Nat.le_refl _)
      have hlr : w.heap.size + 2 < wr.heap.size := HH.out.lt
      clear hk5 htk
      by_cases htk : tt = 0
      · subst htk
        have e1 := H1.out rfl
        have E1 := Lib.hid e1
        have z0 := HZ2.c (j := 0) rfl
        have z1 := HZ2.c (j := 1) rfl
        have z2 := HZ2.c (j := 2) rfl
        have y0 := HZ2.frozen 0
        have y1 := HZ2.frozen 1
        have y2 := HZ2.frozen 2
        have a0 := HF2.c (j := 0) rfl
        have a1 := HF2.c (j := 1) rfl
        have b0 := HF2.frozen 0
        have b1 := HF2.frozen 1
        clear e1
        go_wp2
        obtain ⟨W9, hW9, k0, k1, k2, k3, k4, hB9, hrow9⟩ := sets_fin (.int .i64 0) (.int .i64 0) (.int .i64 6) (.int .i64 0) (.slice none 0 0) HZ2 HF2 rfl rfl
        rw [← hW9]
        refine bodyPost_ret (v := .tuple #[.agg #[.int .i64 0, .int .i64 0, .slice none 0 0], .agg #[.int .i64 6, .int .i64 0]]) (by simp [results, Tryd.f30, go_sem, k0, k1, k2, k3, k4]) rfl ?_
        exact rd_zero E1.out (nxt hBw hB9 (Nat.le_refl _))
      · have hkz : ((tt : Int) == 0) = false := by rw [beq_eq_false_iff_ne]; omega
        have H2' := Lib.hid (H2.out htk)
        have H3' := Lib.hid (H3.out htk)
        have H4' := Lib.hid (H4.out htk)
        obtain ⟨R, hR⟩ : ∃ R, behindR s.data.toList n0 = R := ⟨_, rfl⟩
        rw [hR] at H2' H3' H4'
        have hRl : R.1.length ≤ 1000 := by
          have hb := beh_len (s.data.toList.length + 1) (s.data.toList.drop n0) n0 []
          rw [List.length_drop, bytes_len] at hb
          rw [← hR]
          unfold behindR
          rw [bytes_len]
          simp at hb
          omega
        unfold behindR at hR
        have HR := Lib.hid hR
        have HZ2H := Lib.hid HZ2
        have HF2H := Lib.hid HF2
        have HS2H := Lib.hid HH.out
        have HBWH := Lib.hid hBw
        obtain ⟨i0, hi, hz0, hz1, hz2⟩ := info_parts info_int
        obtain ⟨Wo, hWo⟩ : ∃ Wo, Wo = wr := ⟨_, rfl⟩
        rw [← hWo] at h1 HZ2H HF2H HS2H HBWH hlr ⊢
        clear hR htk H1 H2 H3 H4 HZ2 HF2 HH hBw HON HTT HTK HZH HFH HSH HBH HCW hsw hWo wr
        go_wp2_with fail
        go_loopw [4, 8, 9, 10, 11] (fun at1 v s9 s10 s11 wr => ∃ (k f : Nat) (acc : List Int), k ≤ s.size ∧ at1 = .int .i64 k ∧ s.size < f + k ∧ behindL f (s.data.toList.drop k) k acc = R ∧ acc.length ≤ k ∧ wr.ownsRow Wo.heap.size 3 1 v acc.length (intsOf acc) ∧ Below Wo.heap.size Wo wr) (fun at1 v s9 s10 s11 wr => s.size - (intOf at1).toNat)
        case atStart => exact ⟨n0, s.data.toList.length + 1, [], hple, rfl, by rw [bytes_len]; omega, HR.out, by simp, World.ownsRow_nil _ _ _ _, Below.refl _ _⟩
        case round =>
          obtain ⟨k, f, acc, hk', rfl, hf, hbeh, hal, hown, hB⟩ := hrel
          have HBEH := Lib.hid hbeh
          have HOWN := Lib.hid hown
          have HB := Lib.hid hB
          have hsz := hB.size
          obtain ⟨A6, c6, rfl⟩ := own_form hown
          clear hbeh hown hB
          by_cases hlt2 : k < s.size
          · obtain ⟨f, rfl⟩ : ∃ f', f = f' + 1 := ⟨f - 1, by omega⟩
            have hll : k < s.data.toList.length := by rw [bytes_len]; exact hlt2
            have hd : (s.extract (k + 1) s.size).data.toList = s.data.toList.drop (k + 1) := extract_data s (k + 1)
            have hpa := part_le (s.data.toList.drop (k + 1))
            rw [List.length_drop, bytes_len] at hpa
            obtain ⟨ke, hke⟩ : ∃ ke, k + 1 + (partL (s.data.toList.drop (k + 1))).length = ke := ⟨_, rfl⟩
            have HPT := fun W => rpart_any s (k + 1) ((k + 1 : Nat) : Int) W hs (by omega) rfl
            rw [hke] at HPT
            have hpd : (s.extract (k + 1) ke).data.toList = partL (s.data.toList.drop (k + 1)) := by
              have e1 : (s.extract (k + 1) ke).data.toList = (s.data.toList.drop (k + 1)).take (ke - (k + 1)) := by
                simp [ByteArray.data_extract]
              rw [e1, ← hke, Nat.add_sub_cancel_left, ← part_take]
            have HSTEP := Lib.hid (fun he => beh_step (f := f) (acc := acc) hll he)
            have HBAD := Lib.hid (fun he => beh_bad (f := f) (acc := acc) hll he)
            rw [hke] at HSTEP
            rw [← hpd] at HSTEP HBAD
            have hgl : (s.extract (k + 1) ke).size ≤ 2000 := by simp; omega
            obtain ⟨gb, hgb⟩ : ∃ gb, s.extract (k + 1) ke = gb := ⟨_, rfl⟩
            rw [hgb] at HSTEP HBAD hgl
            have hgP := getP_bd gb.data.toList (by rw [bytes_len]; omega)
            have HGET := fun W => rget_any gb W (by unfold maxLen; omega)
            unfold GetPost at HGET
            obtain ⟨gN, hgN⟩ : ∃ x, getN gb.data.toList = x := ⟨_, rfl⟩
            obtain ⟨gE, hgE⟩ : ∃ x, getE gb.data.toList = x := ⟨_, rfl⟩
            obtain ⟨gP, hgP'⟩ : ∃ x, getP gb.data.toList = x := ⟨_, rfl⟩
            rw [hgN, hgE, hgP'] at HGET
            rw [hgE] at HSTEP HBAD
            rw [hgN] at HSTEP
            rw [hgP'] at HBAD hgP
            obtain ⟨k1, hk1⟩ : ∃ k1, k1 = k + 1 := ⟨_, rfl⟩
            have e1 : (k : Int) + 1 = (k1 : Int) := by omega
            have hk10 : (0 : Int) ≤ (k1 : Int) := by omega
            have hk11 : (k1 : Int) ≤ (ke : Int) := by omega
            have hk12 : k1 ≤ ke := by omega
            have hk13 : (ke : Int) ≤ (s.size : Int) := by omega
            have hk14 : (0 : Int) ≤ (ke : Int) := by omega
            rw [← hk1] at hgb HPT
            have HK1 := Lib.hid hk1
            have HKE := Lib.hid hke
            have q2' : decide (k < s.size) = true := decide_eq_true hlt2
            clear hd hpd hgN hgE hgP' hk1 hll hke hpa
            go_wp2_with fail
            refine (HPT wr).mono ?_
            rintro e w1 ⟨rfl, hw1⟩
            rw [hw1]
            clear hw1 w1
            go_wp2_with fail
            refine (HGET wr).mono ?_
            rintro e w2 ⟨rfl, hB2⟩
            have hsz2 := hB2.size
            have HB2a := Lib.hid (nxt HB.out hB2 (by omega))
            have HB2 := Lib.hid hB2
            clear hB2
            by_cases he : gE = 0
            · subst he
              go_wp2_with (at_builtin; refine wpList_append_own_at _ rfl _ _ 22 rfl Wo.heap.size 3 i0 (.int .i64 0) 1 8 Tryd.underlying22 hi hz0 hz1 hz2 rfl (by decide) _ _ _ rfl ((row_below HOWN.out HB2.out).alloc _ |>.alloc _) ⟨w2.heap.size + 1, 0, none⟩ 1 1 [.int .i64 gN] rfl rfl (by have := cell_one (w2.alloc (.cells #[.int .i64 0, .int .i64 gP] 44)) 3 (.int .i64 gN); rw [World.size_alloc] at this; exact this) (by intro u hu; simp at hu; subst hu; rfl) (by unfold maxLen; omega) (by omega) (by simp; omega) ?_; intro v5 w5 hown5 hg5 hnil5 hat5; obtain ⟨A5, c5, rfl⟩ := own_form hown5; have HOWN5 := Lib.hid hown5; have HG5 := Lib.hid hg5; clear hown5 hg5 hnil5 hat5)
              go_roundw
              case rel =>
                have hst := HSTEP.out trivial
                refine ⟨ke, f, acc ++ [gN], by omega, by go_num, by have := HK1.out; omega, ?_, by rw [List.length_append]; simp; have := HK1.out; omega, ?_, ?_⟩
                · rw [← hst]; exact HBEH.out
                · have := HOWN5.out
                  rw [intsOf_snoc] at this
                  rw [List.length_append]; exact this
                · exact (((HB2a.out.alloc (by omega) _).alloc (by simp; omega) _)).grown HG5.out (by simp; omega) (fun g e => (HOWN.out.lt g e).1)
              case measure => have := HK1.out; simp [intOf]; omega
            · have hne : (gE != 0) = true := by rw [bne_iff_ne]; exact he
              have HE := Lib.hid he
              have HZ3 := (HZ2H.out.below HB2a.out (by omega)).below (alloc1 w2 (.cells #[.int .i64 gE, .int .i64 gP] 44)) (by omega)
              have HF3 := (HF2H.out.below HB2a.out (by omega)).below (alloc1 w2 (.cells #[.int .i64 gE, .int .i64 gP] 44)) (by omega)
              have hB3 : Below w2.heap.size w2 (w2.alloc (.cells #[.int .i64 gE, .int .i64 gP] 44)) := alloc1 w2 _
              have HX3 := Holds.new w2 44 #[.int .i64 gE, .int .i64 gP]
              obtain ⟨pp, hpp⟩ : ∃ pp, pp = (k1 : Int) + gP := ⟨_, rfl⟩
              have hwk : IntKind.i64.wrap ((k : Int) + 1) = (k1 : Int) := by rw [e1, IntKind.wrap_i64]; omega
              have hwr : IntKind.i64.wrap ((k1 : Int) + gP) = pp := by rw [hpp, IntKind.wrap_i64]; omega
              have HPP := Lib.hid hpp
              have hRR := (HBAD.out he).symm.trans HBEH.out
              have HRR := Lib.hid hRR
              have hRb := H2'.out (by rw [← hRR]; exact he)
              rw [← hRR] at hRb
              have HRB := Lib.hid hRb
              clear hpp he hRR hRb e1
              go_upto_region 16 with fail
              generalize w2.alloc (.cells #[.int .i64 gE, .int .i64 gP] 44) = W3 at *
              have z0 := HZ3.c (j := 0) rfl
              have z1 := HZ3.c (j := 1) rfl
              have z2 := HZ3.c (j := 2) rfl
              have y0 := HZ3.frozen 0
              have y1 := HZ3.frozen 1
              have y2 := HZ3.frozen 2
              have a0 := HF3.c (j := 0) rfl
              have a1 := HF3.c (j := 1) rfl
              have b0 := HF3.frozen 0
              have b1 := HF3.frozen 1
              have x0 := HX3.c (j := 0) rfl
              have x1 := HX3.c (j := 1) rfl
              go_cut [] from 55 to 63 (fun wx => wx = (((((W3.drew.setCell ⟨w.heap.size, 0, none⟩ (.int .i64 0)).setCell ⟨w.heap.size, 1, none⟩ (.int .i64 0)).setCell ⟨w.heap.size, 2, none⟩ (.slice none 0 0)).setCell ⟨w.heap.size + 1, 0, none⟩ (.int .i64 gE)).setCell ⟨w.heap.size + 1, 1, none⟩ (.int .i64 pp)))
              case first =>
                go_region
                all_goals (go_wp2_with fail; go_meet; exact rfl)
              case rest =>
                subst hcut
                go_wp2
                obtain ⟨W9, hW9, k0, k1, k2, k3, k4, hB9, hrow9⟩ := sets_fin (.int .i64 0) (.int .i64 0) (.int .i64 gE) (.int .i64 pp) (.slice none 0 0) (HZ3.of (W' := W3.drew) rfl) (HF3.of (W' := W3.drew) rfl) rfl rfl
                rw [← hW9]
                refine bodyPost_ret (v := .tuple #[.agg #[.int .i64 0, .int .i64 0, .slice none 0 0], .agg #[.int .i64 gE, .int .i64 pp]]) (by simp [results, Tryd.f30, go_sem, k0, k1, k2, k3, k4]) rfl ?_
                rw [show pp = (k : Int) + 1 + gP by rw [HPP.out, HK1.out]; omega]
                exact rd_zero HRB.out (nxt (nxt (nxt HBWH.out HB2a.out (by omega)) hB3.drew (by omega)) hB9 (Nat.le_refl _))
          · have hend := beh_end (k := k) (s := s.data.toList) (acc := acc) (f := f) (by rw [bytes_len]; omega) (by omega)
            have hRR := hend.symm.trans HBEH.out
            subst hRR
            have q2' : decide (k < s.size) = false := decide_eq_false hlt2
            have HZ3 := HZ2H.out.below HB.out (by omega)
            have HF3 := HF2H.out.below HB.out (by omega)
            have HS3 := HS2H.out.below HB.out hlr
            have s0 := HS3.c (j := 0) rfl
            have s2 := HS3.c (j := 2) rfl
            have t2 := HS3.frozen 2
            have hBw3 := nxt HBWH.out HB.out (by omega)
            have H3a := H3'.out rfl
            have H4a := H4'.out rfl
            dsimp only at H3a H4a hRl
            have hO4 : Only (w.heap.size + 2) wr (wr.setCell ⟨w.heap.size + 2, 2, none⟩ (.slice A6 acc.length c6)) := (Only.of (Below.refl wr.heap.size wr) (Nat.le_refl _)).set 2 _
            have HS4 := HS3.set 2 (.slice A6 acc.length c6)
            have hrow4 := HOWN.out.kept hO4.grown (.inr (HS3.not_row HOWN.out (by decide)).symm)
            have HZ4 := HZ3.of (hO4.block w.heap.size (by omega) (by omega))
            have HF4 := HF3.of (hO4.block (w.heap.size + 1) (by omega) (by omega))
            have hBw4 : Below w.heap.size w (wr.setCell ⟨w.heap.size + 2, 2, none⟩ (.slice A6 acc.length c6)) := nxt hBw3 (hO4.below (lo := w.heap.size) (by omega) (by omega)) (Nat.le_refl _)
            have hs4 := hO4.size
            clear H2' H3' H4' hend HBEH HZ2H HF2H HS2H
            go_upto_region 20 with fail
            generalize wr.setCell ⟨w.heap.size + 2, 2, none⟩ (.slice A6 acc.length c6) = W4 at *
            have HS4' : Holds W4 (w.heap.size + 2) 24 #[.int .i64 (tt : Int), .int .i64 0, .slice A6 acc.length c6] := HS4
            have r0 := HS4'.c (j := 0) rfl
            have r1 := HS4'.c (j := 1) rfl
            have r2 := HS4'.c (j := 2) rfl
            cases hsg : singB (tt : Int)
            · have e1 : ((tt : Int) == 1) = false := by unfold singB at hsg; simp at hsg; simp [hsg.1]
              have e5 : ((tt : Int) == 5) = false := by unfold singB at hsg; simp at hsg; simp [hsg.2]
              have HOF := Lib.hid (show ofNums tt acc = (((tt : Int), 0, acc), checkE tt 0 acc == 0) by unfold ofNums; rw [hsg]; rfl)
              have hrow5 := fun w5 (h : Below W4.heap.size W4 w5) => row_below hrow4 h
              have HCK := rcheck_any tt 0 A6 c6 acc W4 (own_ints rfl hrow4) (by omega)
              unfold stV at HCK
              have HLS := HS4'.lt
              have hsW := hBw4.size
              obtain ⟨r, hr⟩ : ∃ r, checkE tt 0 acc = r := ⟨_, rfl⟩
              rw [hr] at HCK
              have HRR2 := Lib.hid hr
              clear hr
              go_wp2_with fail
              refine HCK.mono ?_
              rintro e w5 ⟨rfl, hB5⟩
              have HZ5 := HZ4.below hB5 (by omega)
              have HF5 := HF4.below hB5 (by omega)
              have HS5 := HS4'.below hB5 HLS
              have hBw5 := nxt hBw4 hB5 hsW
              have u0 := HS5.c (j := 0) rfl
              have u1 := HS5.c (j := 1) rfl
              have u2 := HS5.c (j := 2) rfl
              have z0 := HZ5.c (j := 0) rfl
              have z1 := HZ5.c (j := 1) rfl
              have z2 := HZ5.c (j := 2) rfl
              have y0 := HZ5.frozen 0
              have y1 := HZ5.frozen 1
              have y2 := HZ5.frozen 2
              have a0 := HF5.c (j := 0) rfl
              have a1 := HF5.c (j := 1) rfl
              have b0 := HF5.frozen 0
              have b1 := HF5.frozen 1
              cases hrz : (r != 0)
              · have hr0 : r = 0 := by simpa using hrz
                go_wp2
                obtain ⟨W9, hW9, k0, k1, k2, k3, k4, hB9, hrow9⟩ := sets_fin (.int .i64 (tt : Int)) (.int .i64 0) (.int .i64 0) (.int .i64 0) (.slice A6 acc.length c6) HZ5 HF5 rfl rfl
                rw [← hW9]
                refine bodyPost_ret (v := .tuple #[.agg #[.int .i64 (tt : Int), .int .i64 0, .slice A6 acc.length c6], .agg #[.int .i64 0, .int .i64 0]]) (by simp [results, Tryd.f30, go_sem, k0, k1, k2, k3, k4]) rfl ?_
                rw [H4a (by rw [HOF.out, HRR2.out, hr0]; rfl), HOF.out]
                exact ⟨A6, c6, rfl, row_more (hrow9 _ _ _ _ (hrow5 w5 hB5)) (by omega), nxt hBw5 hB9 (Nat.le_refl _)⟩
              · have hr0 : r ≠ 0 := by simpa using hrz
                go_wp2
                obtain ⟨W9, hW9, k0, k1, k2, k3, k4, hB9, hrow9⟩ := sets_fin (.int .i64 0) (.int .i64 0) (.int .i64 5) (.int .i64 0) (.slice none 0 0) HZ5 HF5 rfl rfl
                rw [← hW9]
                refine bodyPost_ret (v := .tuple #[.agg #[.int .i64 0, .int .i64 0, .slice none 0 0], .agg #[.int .i64 5, .int .i64 0]]) (by simp [results, Tryd.f30, go_sem, k0, k1, k2, k3, k4]) rfl ?_
                exact rd_zero (H3a (by rw [HOF.out, HRR2.out]; simpa using hr0)) (nxt hBw5 hB9 (Nat.le_refl _))
            · by_cases hl1 : acc.length = 1
              · obtain ⟨x, rfl⟩ : ∃ x, acc = [x] := by
                  match acc, hl1 with
                  | [x], _ => exact ⟨x, rfl⟩
                have HOF := Lib.hid (show ofNums tt [x] = (((tt : Int), x, []), checkE tt x [] == 0) by unfold ofNums; rw [hsg]; rfl)
                obtain ⟨bb, boff, hAA, hbb, hcc⟩ := own_ints rfl hrow4 (by simp)
                have hcx := hcc 0 (by simp)
                simp only [List.getElem?_cons_zero, Option.getD_some, Nat.add_zero] at hcx
                subst hAA
                have t1 := HS4'.frozen 1
                have t22 := HS4'.frozen 2
                have hO6 : Only (w.heap.size + 2) W4 ((W4.setCell ⟨w.heap.size + 2, 1, none⟩ (.int .i64 x)).setCell ⟨w.heap.size + 2, 2, none⟩ (.slice none 0 0)) := ((Only.of (Below.refl W4.heap.size W4) (Nat.le_refl _)).set 1 _).set 2 _
                have HS6 : Holds ((W4.setCell ⟨w.heap.size + 2, 1, none⟩ (.int .i64 x)).setCell ⟨w.heap.size + 2, 2, none⟩ (.slice none 0 0)) (w.heap.size + 2) 24 #[.int .i64 (tt : Int), .int .i64 x, .slice none 0 0] := (HS4'.set 1 (.int .i64 x)).set 2 (.slice none 0 0)
                have HZ6 := HZ4.of (hO6.block w.heap.size (by omega) (by omega))
                have HF6 := HF4.of (hO6.block (w.heap.size + 1) (by omega) (by omega))
                have hBw6 : Below w.heap.size w ((W4.setCell ⟨w.heap.size + 2, 1, none⟩ (.int .i64 x)).setCell ⟨w.heap.size + 2, 2, none⟩ (.slice none 0 0)) := nxt hBw4 (hO6.below (lo := w.heap.size) (by omega) (by omega)) (Nat.le_refl _)
                have hs6 := hO6.size
                simp only [List.length_cons, List.length_nil, Nat.zero_add] at r2 ⊢
                clear hcc
                cases e1 : ((tt : Int) == 1)
                · have e5 : ((tt : Int) == 5) = true := by unfold singB at hsg; rw [e1] at hsg; simpa using hsg
                  go_upto_region 25 with fail
                  generalize (W4.setCell ⟨w.heap.size + 2, 1, none⟩ (.int .i64 x)).setCell ⟨w.heap.size + 2, 2, none⟩ (.slice none 0 0) = W6 at *
                  have v0 := HS6.c (j := 0) rfl
                  have v1 := HS6.c (j := 1) rfl
                  have v2 := HS6.c (j := 2) rfl
                  have HCK := rcheck_any tt x none 0 [] W6 (fun h => by simp at h) (by simp)
                  unfold stV at HCK
                  have HLS := HS6.lt
                  have hsW := hBw6.size
                  obtain ⟨r, hr⟩ : ∃ r, checkE tt x [] = r := ⟨_, rfl⟩
                  rw [hr] at HCK
                  have HRR2 := Lib.hid hr
                  clear hr
                  go_wp2_with fail
                  refine HCK.mono ?_
                  rintro e w5 ⟨rfl, hB5⟩
                  have HZ5 := HZ6.below hB5 (by omega)
                  have HF5 := HF6.below hB5 (by omega)
                  have HS5 := HS6.below hB5 HLS
                  have hBw5 := nxt hBw6 hB5 hsW
                  have u0 := HS5.c (j := 0) rfl
                  have u1 := HS5.c (j := 1) rfl
                  have u2 := HS5.c (j := 2) rfl
                  have z0 := HZ5.c (j := 0) rfl
                  have z1 := HZ5.c (j := 1) rfl
                  have z2 := HZ5.c (j := 2) rfl
                  have y0 := HZ5.frozen 0
                  have y1 := HZ5.frozen 1
                  have y2 := HZ5.frozen 2
                  have a0 := HF5.c (j := 0) rfl
                  have a1 := HF5.c (j := 1) rfl
                  have b0 := HF5.frozen 0
                  have b1 := HF5.frozen 1
                  cases hrz : (r != 0)
                  · have hr0 : r = 0 := by simpa using hrz
                    go_wp2
                    obtain ⟨W9, hW9, k0, k1, k2, k3, k4, hB9, hrow9⟩ := sets_fin (.int .i64 (tt : Int)) (.int .i64 x) (.int .i64 0) (.int .i64 0) (.slice none 0 0) HZ5 HF5 rfl rfl
                    rw [← hW9]
                    refine bodyPost_ret (v := .tuple #[.agg #[.int .i64 (tt : Int), .int .i64 x, .slice none 0 0], .agg #[.int .i64 0, .int .i64 0]]) (by simp [results, Tryd.f30, go_sem, k0, k1, k2, k3, k4]) rfl ?_
                    rw [H4a (by rw [HOF.out, HRR2.out, hr0]; rfl), HOF.out]
                    exact ⟨none, 0, rfl, nil_row _ _, nxt hBw5 hB9 (Nat.le_refl _)⟩
                  · have hr0 : r ≠ 0 := by simpa using hrz
                    go_wp2
                    obtain ⟨W9, hW9, k0, k1, k2, k3, k4, hB9, hrow9⟩ := sets_fin (.int .i64 0) (.int .i64 0) (.int .i64 5) (.int .i64 0) (.slice none 0 0) HZ5 HF5 rfl rfl
                    rw [← hW9]
                    refine bodyPost_ret (v := .tuple #[.agg #[.int .i64 0, .int .i64 0, .slice none 0 0], .agg #[.int .i64 5, .int .i64 0]]) (by simp [results, Tryd.f30, go_sem, k0, k1, k2, k3, k4]) rfl ?_
                    exact rd_zero (H3a (by rw [HOF.out, HRR2.out]; simpa using hr0)) (nxt hBw5 hB9 (Nat.le_refl _))
                · go_upto_region 25 with fail
                  generalize (W4.setCell ⟨w.heap.size + 2, 1, none⟩ (.int .i64 x)).setCell ⟨w.heap.size + 2, 2, none⟩ (.slice none 0 0) = W6 at *
                  have v0 := HS6.c (j := 0) rfl
                  have v1 := HS6.c (j := 1) rfl
                  have v2 := HS6.c (j := 2) rfl
                  have HCK := rcheck_any tt x none 0 [] W6 (fun h => by simp at h) (by simp)
                  unfold stV at HCK
                  have HLS := HS6.lt
                  have hsW := hBw6.size
                  obtain ⟨r, hr⟩ : ∃ r, checkE tt x [] = r := ⟨_, rfl⟩
                  rw [hr] at HCK
                  have HRR2 := Lib.hid hr
                  clear hr
                  go_wp2_with fail
                  refine HCK.mono ?_
                  rintro e w5 ⟨rfl, hB5⟩
                  have HZ5 := HZ6.below hB5 (by omega)
                  have HF5 := HF6.below hB5 (by omega)
                  have HS5 := HS6.below hB5 HLS
                  have hBw5 := nxt hBw6 hB5 hsW
                  have u0 := HS5.c (j := 0) rfl
                  have u1 := HS5.c (j := 1) rfl
                  have u2 := HS5.c (j := 2) rfl
                  have z0 := HZ5.c (j := 0) rfl
                  have z1 := HZ5.c (j := 1) rfl
                  have z2 := HZ5.c (j := 2) rfl
                  have y0 := HZ5.frozen 0
                  have y1 := HZ5.frozen 1
                  have y2 := HZ5.frozen 2
                  have a0 := HF5.c (j := 0) rfl
                  have a1 := HF5.c (j := 1) rfl
                  have b0 := HF5.frozen 0
                  have b1 := HF5.frozen 1
                  cases hrz : (r != 0)
                  · have hr0 : r = 0 := by simpa using hrz
                    go_wp2
                    obtain ⟨W9, hW9, k0, k1, k2, k3, k4, hB9, hrow9⟩ := sets_fin (.int .i64 (tt : Int)) (.int .i64 x) (.int .i64 0) (.int .i64 0) (.slice none 0 0) HZ5 HF5 rfl rfl
                    rw [← hW9]
                    refine bodyPost_ret (v := .tuple #[.agg #[.int .i64 (tt : Int), .int .i64 x, .slice none 0 0], .agg #[.int .i64 0, .int .i64 0]]) (by simp [results, Tryd.f30, go_sem, k0, k1, k2, k3, k4]) rfl ?_
                    rw [H4a (by rw [HOF.out, HRR2.out, hr0]; rfl), HOF.out]
                    exact ⟨none, 0, rfl, nil_row _ _, nxt hBw5 hB9 (Nat.le_refl _)⟩
                  · have hr0 : r ≠ 0 := by simpa using hrz
                    go_wp2
                    obtain ⟨W9, hW9, k0, k1, k2, k3, k4, hB9, hrow9⟩ := sets_fin (.int .i64 0) (.int .i64 0) (.int .i64 5) (.int .i64 0) (.slice none 0 0) HZ5 HF5 rfl rfl
                    rw [← hW9]
                    refine bodyPost_ret (v := .tuple #[.agg #[.int .i64 0, .int .i64 0, .slice none 0 0], .agg #[.int .i64 5, .int .i64 0]]) (by simp [results, Tryd.f30, go_sem, k0, k1, k2, k3, k4]) rfl ?_
                    exact rd_zero (H3a (by rw [HOF.out, HRR2.out]; simpa using hr0)) (nxt hBw5 hB9 (Nat.le_refl _))
              · have q7 : ((acc.length : Int) != 1) = true := by rw [bne_iff_ne]; omega
                have hoff : (ofNums tt acc).2 = false := by unfold ofNums; rw [hsg, if_pos rfl, if_neg hl1]
                have HRD := Lib.hid (H3a hoff)
                clear hl1 hoff
                have z0 := HZ4.c (j := 0) rfl
                have z1 := HZ4.c (j := 1) rfl
                have z2 := HZ4.c (j := 2) rfl
                have y0 := HZ4.frozen 0
                have y1 := HZ4.frozen 1
                have y2 := HZ4.frozen 2
                have a0 := HF4.c (j := 0) rfl
                have a1 := HF4.c (j := 1) rfl
                have b0 := HF4.frozen 0
                have b1 := HF4.frozen 1
                cases e1 : ((tt : Int) == 1)
                · have e5 : ((tt : Int) == 5) = true := by unfold singB at hsg; rw [e1] at hsg; simpa using hsg
                  go_wp2
                  obtain ⟨W9, hW9, k0, k1, k2, k3, k4, hB9, hrow9⟩ := sets_fin (.int .i64 0) (.int .i64 0) (.int .i64 5) (.int .i64 0) (.slice none 0 0) HZ4 HF4 rfl rfl
                  rw [← hW9]
                  refine bodyPost_ret (v := .tuple #[.agg #[.int .i64 0, .int .i64 0, .slice none 0 0], .agg #[.int .i64 5, .int .i64 0]]) (by simp [results, Tryd.f30, go_sem, k0, k1, k2, k3, k4]) rfl ?_
                  exact rd_zero HRD.out (nxt hBw4 hB9 (Nat.le_refl _))
                · go_wp2
                  obtain ⟨W9, hW9, k0, k1, k2, k3, k4, hB9, hrow9⟩ := sets_fin (.int .i64 0) (.int .i64 0) (.int .i64 5) (.int .i64 0) (.slice none 0 0) HZ4 HF4 rfl rfl
                  rw [← hW9]
                  refine bodyPost_ret (v := .tuple #[.agg #[.int .i64 0, .int .i64 0, .slice none 0 0], .agg #[.int .i64 5, .int .i64 0]]) (by simp [results, Tryd.f30, go_sem, k0, k1, k2, k3, k4]) rfl ?_
                  exact rd_zero HRD.out (nxt hBw4 hB9 (Nat.le_refl _))
end Go.Proofs.YtbenfdbjpefegaaDoor
