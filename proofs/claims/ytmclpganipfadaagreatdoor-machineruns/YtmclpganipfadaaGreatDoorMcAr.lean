/- MachineRuns: how far operations are legal, and what they return, beside the document's answer. -/
import Derived.Test.YtmclpganipfadaaGreatDoorMcAo
namespace Go.Proofs.YtmclpganipfadaaGreatDoor
open Go.RowKit Go.Maps
set_option linter.unusedVariables false
set_option linter.unusedSimpArgs false

theorem runA_len : ∀ (s : Sta) (ops : List Opr), (runA s ops).1.l.length ≤ s.l.length + 2 * ops.length
  | s, [] => by unfold runA; simp
  | s, o :: r => by
    have ih := runA_len (stepA s o).st r
    have h3 : (stepA s o).st.l.length ≤ s.l.length + 2 := mO_len s.t s.n s.l o
    unfold runA
    split
    · simp only [List.length_cons]; omega
    · simp only [List.length_cons]; omega
theorem retCells_in : ∀ (rs : List (Int × Int)) (j : Nat) (x : Int × Int), rs[j]? = some x → (retCells rs)[j * 2]? = some (.int .i64 x.1) ∧ (retCells rs)[j * 2 + 1]? = some (.int .i64 x.2)
  | [], j, x, h => by simp at h
  | y :: r, 0, x, h => by simp at h; subst h; exact ⟨rfl, rfl⟩
  | y :: r, j + 1, x, h => by
    obtain ⟨h0, h1⟩ := retCells_in r j x (by simpa using h)
    have e : ∀ q, (retCells (y :: r))[(j + 1) * 2 + q]? = (retCells r)[j * 2 + q]? := fun q => by
      show ([Value.int .i64 y.1, .int .i64 y.2] ++ retCells r)[(j + 1) * 2 + q]? = _
      rw [List.getElem?_append_right (by simp; omega)]
      congr 1
      simp
      omega
    exact ⟨(e 0).trans h0, (e 1).trans h1⟩
theorem own_first {W : World} {base size n c : Nat} {t : TypeId} {A : Option Addr} {xs : List Value} (h : W.ownsRow base t size (.slice A n c) n xs) (hx : 0 < n) : ∃ g, A = some ⟨g, 0, none⟩ ∧ base ≤ g ∧ g < W.heap.size := by
  rcases h.2 with ⟨e1, e2⟩ | ⟨g, cap, cur, e1, _⟩
  · omega
  · injection e1 with e1
    exact ⟨g, e1, h.lt g (by rw [e1]; rfl)⟩

set_option maxRecDepth 100000 in
set_option maxHeartbeats 4000000 in
theorem runs_law (t n : Int) (A : Option Addr) (c : Nat) (l : List Int) (Ao : Option Addr) (co : Nat) (ops : List Opr) (w : World) (hw : Tys w) (hA : Ints w A l) (hc : l.length ≤ c) (hm : l.length ≤ maxLen) (hO : Oprs w Ao ops) (hmo : ops.length ≤ maxLen) (hs : ∀ o ∈ ops, Small o.a) :
    Calls Tryz.prog 4 #[stV t n A l.length c, .slice Ao ops.length co] w (Yes w) := by
  have hB0 := alloc1 w (.cells #[.int .i64 t, .int .i64 n, .slice A l.length c] 24)
  have hT0 := hw.on hB0
  unfold maxLen at hm hmo
  by_cases hl : 60 < l.length
  · have d1 : decide (60 < (l.length : Int)) = true := decide_eq_true (by omega)
    unfold stV
    go_enter Tryz.func4, Tryz.ntmps4
    go_wp2_with fail
    refine (mcawake_yes _ hT0).mono ?_
    rintro e w1 ⟨rfl, hB1⟩
    go_wp2
    go_ret
    exact ⟨rfl, onto hB0 hB1⟩
  have d1 : decide (60 < (l.length : Int)) = false := decide_eq_false (by omega)
  by_cases hlo : 30 < ops.length
  · have d2 : decide (30 < (ops.length : Int)) = true := decide_eq_true (by omega)
    unfold stV
    go_enter Tryz.func4, Tryz.ntmps4
    go_wp2_with fail
    refine (mcawake_yes _ hT0).mono ?_
    rintro e w1 ⟨rfl, hB1⟩
    go_wp2
    go_ret
    exact ⟨rfl, onto hB0 hB1⟩
  · have d2 : decide (30 < (ops.length : Int)) = false := decide_eq_false (by omega)
    have HP := fun A1 c1 W (h : Ints W A1 l) (h2 : l.length ≤ c1) (h3 : Oprs W Ao ops) => mcrun_any ⟨t, n, l⟩ A1 c1 Ao co ops W h h3 (by dsimp only; omega) h2 hs
    have HR := fun W (h : Ints W A l) (h3 : Oprs W Ao ops) => rmrun_any ⟨t, n, l⟩ A c Ao co ops W h h3 (by dsimp only; omega)
    have HPL := fun A1 c1 W (h : Ints W A1 l) (h2 : l.length ≤ c1) (h3 : Oprs W Ao ops) => mcrets_any ⟨t, n, l⟩ A1 c1 Ao co ops W h h3 (by dsimp only; omega) h2 hs
    have HRL := fun W (h : Ints W A l) (h3 : Oprs W Ao ops) => rmrets_any ⟨t, n, l⟩ A c Ao co ops W h h3 (by dsimp only; omega)
    have hel := runA_len ⟨t, n, l⟩ ops
    generalize runA ⟨t, n, l⟩ ops = r at *
    generalize hrs : retsA ⟨t, n, l⟩ ops = rz at *
    have hrlen : rz.1.length ≤ 30 := by
      rw [← hrs]
      unfold retsA
      split
      · show (retsOf _).length ≤ _
        unfold retsOf
        rw [List.length_map, answers_len]
        omega
      · exact Nat.zero_le _
    clear hrs
    obtain ⟨⟨et, en, el⟩, cnt, er⟩ := r
    obtain ⟨rs, ge⟩ := rz
    dsimp only at hel hrlen
    have HS0 := Lib.hid (Holds.new w 24 #[.int .i64 t, .int .i64 n, .slice A l.length c])
    have HC := copyst_any t n A c l _ (hA.below hB0) (by omega)
    have HA0 := Lib.hid (hA.below hB0)
    have HO0 := Lib.hid (OprsB.more (OprsB.below (show OprsB w.heap.size w Ao ops from hO) hB0) hB0.size)
    unfold CopyStPost at HC
    unfold RunPost at HP
    unfold RRunPost at HR
    unfold RetPost at HPL HRL
    unfold stV at *
    dsimp only at HP HR HPL HRL
    have HT0 := Lib.hid hT0
    clear hA hT0 hO
    go_enter Tryz.func4, Tryz.ntmps4
    go_wp2_with fail
    refine HC.mono ?_
    generalize w.alloc (.cells #[.int .i64 t, .int .i64 n, .slice A l.length c] 24) = W0 at *
    rintro e w1 ⟨A1, c1, rfl, hr1, hB1⟩
    have hfit := row_fit hr1
    -- the copy in its box: W1
    have hD1 := gro_alloc hB1 (.cells #[.int .i64 t, .int .i64 n, .slice A1 l.length c1] 24)
    have hI1 := Lib.hid ((own_ints rfl hr1).below (alloc1 w1 (.cells #[.int .i64 t, .int .i64 n, .slice A1 l.length c1] 24)))
    have hc1 := Lib.hid (HA0.out.below hD1)
    have hO1 := Lib.hid (OprsB.more (OprsB.below HO0.out hD1) hD1.size)
    have HS1 := Lib.hid (HS0.out.below hD1 HS0.out.lt)
    have HT1 := Lib.hid (HT0.out.on hD1)
    have HI1 := Lib.hid (Holds.new w1 24 #[.int .i64 t, .int .i64 n, .slice A1 l.length c1])
    have hC1 := onto hB0 hD1
    clear hr1 HC hB1 hD1 HS0 HO0 HA0 HT0 hB0
    go_wp2_with fail
    generalize w1.alloc (.cells #[.int .i64 t, .int .i64 n, .slice A1 l.length c1] 24) = W1 at *
    refine (HP A1 c1 W1 hI1.out hfit hO1.out).mono ?_
    rintro e w2 ⟨X, cX, rfl, hX, hB2⟩
    -- x: W2
    have hE2 := gro_alloc hB2 (.cells #[.int .i64 et, .int .i64 en, .slice X el.length cX] 24)
    have HX2 := Lib.hid (Holds.new w2 24 #[.int .i64 et, .int .i64 en, .slice X el.length cX])
    have hX2 := Lib.hid (row_below hX (alloc1 w2 (.cells #[.int .i64 et, .int .i64 en, .slice X el.length cX] 24)))
    have s20 := (HS1.out.below hE2 HS1.out.lt).c (j := 0) rfl
    have s21 := (HS1.out.below hE2 HS1.out.lt).c (j := 1) rfl
    have s22 := (HS1.out.below hE2 HS1.out.lt).c (j := 2) rfl
    clear hX hB2 HP
    go_wp2_with fail
    generalize w2.alloc (.cells #[.int .i64 et, .int .i64 en, .slice X el.length cX] 24) = W2 at *
    refine (HR W2 (hc1.out.below hE2) (OprsB.more (OprsB.below hO1.out hE2) hE2.size)).mono ?_
    rintro e w3 ⟨Y, cY, rfl, hY, hB3⟩
    -- y: W3
    have hD3 := gro_alloc hB3 (.cells #[.int .i64 et, .int .i64 en, .slice Y el.length cY] 24)
    have hE3 := onto hE2 hD3
    have HX3 := Lib.hid (HX2.out.below hD3 HX2.out.lt)
    have hX3 := Lib.hid (row_below hX2.out hD3)
    have HY3 := Lib.hid (Holds.new w3 24 #[.int .i64 et, .int .i64 en, .slice Y el.length cY])
    have hY3 := Lib.hid (hY.below (alloc1 w3 (.cells #[.int .i64 et, .int .i64 en, .slice Y el.length cY] 24)))
    have i30 := (HI1.out.below hE3 HI1.out.lt).c (j := 0) rfl
    have i31 := (HI1.out.below hE3 HI1.out.lt).c (j := 1) rfl
    have i32 := (HI1.out.below hE3 HI1.out.lt).c (j := 2) rfl
    clear hY hB3 HX2 hX2 s20 s21 s22 HR hD3
    go_wp2_with fail
    generalize w3.alloc (.cells #[.int .i64 et, .int .i64 en, .slice Y el.length cY] 24) = W3 at *
    refine (HPL A1 c1 W3 (hI1.out.below hE3) hfit (OprsB.more (OprsB.below hO1.out hE3) hE3.size)).mono ?_
    rintro e w4 ⟨Aa, ca, rfl, ha, hB4⟩
    have hE4 := onto hE3 hB4
    have HX4 := Lib.hid (HX3.out.below hB4 HX3.out.lt)
    have hX4 := Lib.hid (row_below hX3.out hB4)
    have HY4 := Lib.hid (HY3.out.below hB4 HY3.out.lt)
    have hY4 := Lib.hid (hY3.out.below hB4)
    have ha4 := Lib.hid ha
    have s40 := (HS1.out.below hE4 HS1.out.lt).c (j := 0) rfl
    have s41 := (HS1.out.below hE4 HS1.out.lt).c (j := 1) rfl
    have s42 := (HS1.out.below hE4 HS1.out.lt).c (j := 2) rfl
    clear ha hB4 HX3 hX3 HY3 hY3 i30 i31 i32 HPL hE3
    go_wp2_with fail
    refine (HRL w4 (hc1.out.below hE4) (OprsB.more (OprsB.below hO1.out hE4) hE4.size)).mono ?_
    rintro e w5 ⟨Ab, cb, rfl, hb, hB5⟩
    have hE5 := onto hE4 hB5
    have HX5 := Lib.hid (HX4.out.below hB5 HX4.out.lt)
    have hX5 := Lib.hid (row_below hX4.out hB5)
    have HY5 := Lib.hid (HY4.out.below hB5 HY4.out.lt)
    have hY5 := Lib.hid (hY4.out.below hB5)
    have ha5 := Lib.hid (row_below ha4.out hB5)
    have hb5 := Lib.hid hb
    have x0 := HX5.out.c (j := 0) rfl
    have x1 := HX5.out.c (j := 1) rfl
    have x2 := HX5.out.c (j := 2) rfl
    have y0 := HY5.out.c (j := 0) rfl
    have y1 := HY5.out.c (j := 1) rfl
    have y2 := HY5.out.c (j := 2) rfl
    have g1 : ((cnt : Int) == (cnt : Int)) = true := by simp
    have g2 : (er == er) = true := by simp
    have g3 : (ge == ge) = true := by simp
    have g4 : ((rs.length : Int) == (rs.length : Int)) = true := by simp
    have H6 := samest_any et en et en X Y cX cY el el w5 (own_ints rfl hX5.out) hY5.out.ints (by omega)
    rw [same_iff.2 ⟨rfl, rfl, rfl⟩] at H6
    unfold stV at H6
    clear hb hB5 HX4 hX4 HY4 hY4 ha4 s40 s41 s42 HRL hE4
    go_wp2_with fail
    refine H6.mono ?_
    rintro e w6 ⟨rfl, hB6⟩
    have hE6 := onto hE5 hB6
    have HX6 := Lib.hid (HX5.out.below hB6 HX5.out.lt)
    have hX6 := Lib.hid (row_below hX5.out hB6)
    have ha6 := Lib.hid (row_below ha5.out hB6)
    have hb6 := Lib.hid (row_below hb5.out hB6)
    clear hB6 HX5 hX5 HY5 hY5 ha5 hb5 x0 x1 x2 y0 y1 y2 H6 hE5
    go_wp2
    go_loopw [16, 17] (fun s16 i wr => ∃ k : Nat, k ≤ rs.length ∧ i = .int .i64 k ∧ s16 = .bool true ∧ Below w6.heap.size w6 wr) (fun s16 i wr => rs.length - (intOf i).toNat)
    case atStart => exact ⟨0, Nat.zero_le _, rfl, rfl, Below.refl _ _⟩
    case round =>
      obtain ⟨k, hk, rfl, rfl, hBr⟩ := hrel
      by_cases hlt : k < rs.length
      · have q0 : (0 : Int) ≤ (k : Int) := by omega
        have q1 : (k : Int) < (rs.length : Int) := by omega
        have q2 : decide ((k : Int) < (rs.length : Int)) = true := decide_eq_true q1
        have q3 : decide (k < rs.length) = true := decide_eq_true hlt
        obtain ⟨⟨v1, v2⟩, hv⟩ : ∃ x, rs[k]? = some x := ⟨_, List.getElem?_eq_getElem hlt⟩
        obtain ⟨f0, f1⟩ := retCells_in rs k _ hv
        obtain ⟨ga, rfl, _, hga⟩ := own_first ha6.out (by omega)
        obtain ⟨gb, rfl, _, hgb⟩ := own_first hb6.out (by omega)
        have a0 : w6.cell? ⟨ga, k * 2, none⟩ = some (.int .i64 v1) := (ha6.out.cellAt _ (by omega)).trans f0
        have a1 : w6.cell? ⟨ga, k * 2 + 1, none⟩ = some (.int .i64 v2) := (ha6.out.cellAt _ (by omega)).trans f1
        have b0 : w6.cell? ⟨gb, k * 2, none⟩ = some (.int .i64 v1) := (hb6.out.cellAt _ (by omega)).trans f0
        have b1 : w6.cell? ⟨gb, k * 2 + 1, none⟩ = some (.int .i64 v2) := (hb6.out.cellAt _ (by omega)).trans f1
        have hwr := hBr.size
        have HBr := Lib.hid hBr
        clear hv f0 f1 hBr
        go_wp2_with fail
        refine wp_region_noPanic ?_
        refine wp_region_picked [(0, true), (1, true), (2, true), (3, true), (4, true), (5, true), (6, true), (7, true), (8, true), (9, true)] (fun W' => Below w6.heap.size w6 W') (by kernel_rfl) (by kernel_rfl) (fun _ _ _ _ _ h => h) HBr.out.drew ?_
        iterate 10
          refine Picked.take ?_ (by rfl) (by rfl) ?_ ?_
          rotate_left
          · intro w' hw'
            have a0' := (hw'.cell (p := ⟨ga, _, none⟩) hga).trans a0
            have a1' := (hw'.cell (p := ⟨ga, _, none⟩) hga).trans a1
            have b0' := (hw'.cell (p := ⟨gb, _, none⟩) hgb).trans b0
            have b1' := (hw'.cell (p := ⟨gb, _, none⟩) hgb).trans b1
            have he := (eql_ret w' v1 v2 v1 v2).trans (by rw [sameRet_self])
            go_simp
            try with_reducible rfl
          simp only [Act.put, List.getElem_toArray, List.getElem_cons_zero, List.getElem_cons_succ, List.setIfInBounds_toArray, List.set_cons_zero, List.set_cons_succ]
        refine NoPanic.normal ?_
        clear a0 a1 b0 b1
        go_wp2
        go_roundw
        case rel => exact ⟨k + 1, by omega, by go_num, rfl, HBr.out.drew⟩
        case measure => simp [intOf]; omega
      · have q2 : decide ((k : Int) < (rs.length : Int)) = false := decide_eq_false (by omega)
        have hE7 := nxt hE6 hBr hE6.size
        have HX7 := Lib.hid (HX6.out.below hBr HX6.out.lt)
        have hX7 := Lib.hid (row_below hX6.out hBr)
        generalize wr = w7 at *
        have x0 := HX7.out.c (j := 0) rfl
        have x1 := HX7.out.c (j := 1) rfl
        have x2 := HX7.out.c (j := 2) rfl
        have HOV := overstate_any et en X cX el.length W1.heap.size _ w7 hX7.out (by omega) hE7.size
        clear hBr HX6 hX6 ha6 hb6 hE6
        go_wp2_with fail
        refine HOV.mono ?_
        rintro e w8 ⟨rfl, hB8⟩
        have hE8 := hE7.trans hB8
        have s0 := (HS1.out.below hE8 HS1.out.lt).c (j := 0) rfl
        have s1 := (HS1.out.below hE8 HS1.out.lt).c (j := 1) rfl
        have s2 := (HS1.out.below hE8 HS1.out.lt).c (j := 2) rfl
        have i0 := (HI1.out.below hE8 HI1.out.lt).c (j := 0) rfl
        have i1 := (HI1.out.below hE8 HI1.out.lt).c (j := 1) rfl
        have i2 := (HI1.out.below hE8 HI1.out.lt).c (j := 2) rfl
        have H12 := samest_any t n t n A1 A c1 c l l w8 (hI1.out.below hE8) (hc1.out.below hE8) (by omega)
        rw [same_iff.2 ⟨rfl, rfl, rfl⟩] at H12
        unfold stV at H12
        have hC8 := nxt hC1 hE8 hC1.size
        have hT8 := Lib.hid (HT1.out.on hE8)
        clear HOV hB8 HX7 hX7 x0 x1 x2 hE7
        go_wp2_with fail
        refine H12.mono ?_
        rintro e w9 ⟨rfl, hB9⟩
        have hC9 := onto hC8 hB9
        have hT9 := hT8.out.on hB9
        clear H12 s0 s1 s2 i0 i1 i2
        go_wp2_with fail
        refine (mcawake_yes _ hT9).mono ?_
        rintro e w10 ⟨rfl, hB10⟩
        go_wp2
        go_ret
        exact ⟨rfl, onto hC9 hB10⟩
end Go.Proofs.YtmclpganipfadaaGreatDoor
