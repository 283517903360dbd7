/- GrammarParses. -/
import Derived.Test.YtakbphjdfgidmaaGreatDoorGuI
import Derived.Test.YtakbphjdfgidmaaGreatDoorGrW
import Derived.Test.YtakbphjdfgidmaaGreatDoorGrO
namespace Go.Proofs.YtakbphjdfgidmaaGreatDoor
open Go.RowKit Go.Maps
set_option linter.unusedVariables false
set_option maxRecDepth 100000

theorem OwnEvs.readX {W : World} {base : Nat} {A : Option Addr} {n c : Nat} {es : List Ev} (h : OwnEvs W base (.slice A n c) es) (hn : es.length = n) : ∃ ys : List EvZ, ys.map Prod.fst = es ∧ ys.length = n ∧ ReadEvs W.heap.size W A ys ∧ ReadNums W ys := by
  obtain ⟨ys, h1, h2, h3⟩ := h
  have hl : ys.length = n := by rw [← hn, ← h1, List.length_map]
  rw [← hl] at h2
  exact ⟨ys, h1, hl, read_evs h2, h3.read⟩
theorem lineX_few {ws : List Wd} {e : Ev} (h : lineX ws = .ok e) : e.st.2.2.length ≤ 1000 := by
  rw [← lineR_is] at h
  unfold lineR at h
  by_cases h0 : kwI (wdS ws 0) = 0
  · rw [if_pos h0] at h; cases h
  · rw [if_neg h0] at h
    cases hn : nameX ws 1 with
    | error g => rw [hn] at h; cases h
    | ok s =>
      rw [hn] at h
      dsimp only at h
      by_cases h1 : kwI (wdS ws 0) = 1
      · rw [if_pos h1] at h
        unfold objR at h
        cases hf : firstX ws 2 with
        | error g => rw [hf] at h; cases h
        | ok t =>
          rw [hf] at h
          cases h
          unfold firstX at hf
          cases hw : wordX ws 2 with
          | error g => rw [hw] at hf; cases hf
          | ok s =>
            rw [hw] at hf
            dsimp only at hf
            by_cases c1 : (rdS ws 2).2.1 ≠ 0
            · rw [if_pos c1] at hf; cases hf
            · rw [if_neg c1] at hf
              by_cases c2 : 1000 < (rdS ws 2).1.2.2.length
              · rw [if_pos c2] at hf; cases hf
              · rw [if_neg c2] at hf
                injection hf with hf
                rw [← hf]
                show (rdS ws 2).1.2.2.length ≤ 1000
                omega
      · rw [if_neg h1] at h
        by_cases h3 : kwI (wdS ws 0) = 3
        · rw [if_pos h3] at h
          unfold opR at h
          cases hm : nameX ws 2 with
          | error g => rw [hm] at h; cases h
          | ok o =>
            rw [hm] at h
            dsimp only at h
            cases hd : doneX ws 3 with
            | error g => rw [hd] at h; cases h
            | ok p => rw [hd] at h; cases h; exact Nat.zero_le _
        · rw [if_neg h3] at h
          by_cases h2 : 2 < ws.length
          · rw [if_pos h2] at h; cases h
          · rw [if_neg h2] at h; cases h; exact Nat.zero_le _
theorem lines_all {P : Ev → Prop} (hP : ∀ ws e, lineX ws = .ok e → P e) : ∀ (ls : List Ln) (es : List Ev), linesX ls = .ok es → es.length = ls.length ∧ ∀ e ∈ es, P e
  | [], es, h => by cases h; exact ⟨rfl, fun e he => by cases he⟩
  | l :: r, es, h => by
    rw [linesX] at h
    cases hl : lineX l.2 with
    | error f => rw [hl] at h; cases h
    | ok e0 =>
      rw [hl] at h
      cases hr : linesX r with
      | error f => rw [hr] at h; cases h
      | ok es' =>
        rw [hr] at h
        cases h
        obtain ⟨i1, i2⟩ := lines_all hP r es' hr
        refine ⟨by simp [i1], fun e he => ?_⟩
        rcases List.mem_cons.1 he with rfl | h'
        · exact hP _ _ hl
        · exact i2 e h'
theorem parse_few {bs : List Int} {es : List Ev} (h : parseX bs = .ok es) : es.length ≤ bs.length + 1 ∧ ∀ e ∈ es, e.st.2.2.length ≤ 1000 := by
  unfold parseX at h
  cases hf : textF bs with
  | some f => rw [hf] at h; cases h
  | none =>
    rw [hf] at h
    obtain ⟨h1, h2⟩ := lines_all (P := fun e => e.st.2.2.length ≤ 1000) (fun ws e hw => lineX_few hw) _ es h
    exact ⟨by rw [h1]; exact text_len bs, h2⟩

set_option maxHeartbeats 4000000 in
theorem parses_law (A : Option Addr) (c : Nat) (bs : List Int) (w : World) (hG : Gds w) (hA : Bytes w A bs) (ho : Octets bs) (hc : bs.length ≤ c) (hcm : c ≤ maxLen) (hnil : A = none → c = 0) :
    Calls Tryz.prog 4 #[.slice A bs.length c] w (Yes w) := by
  obtain ⟨hw, hk⟩ := hG
  have HA := Lib.hid hA
  have HW := Lib.hid hw
  have HK := Lib.hid hk
  have HAW := Lib.hid (fun W (hB : Below w.heap.size w W) => awake_any W (HW.out.on hB) (HK.out.on hB))
  unfold maxLen at hcm
  by_cases hl : 3000 < bs.length
  · have hd : decide ((3000 : Int) < (bs.length : Int)) = true := decide_eq_true (by omega)
    have hd' : decide (3000 < bs.length) = true := decide_eq_true hl
    clear hA hw hk
    go_enter Tryz.func4, Tryz.ntmps4
    go_wp2_with fail
    refine (HAW.out _ (Below.refl _ _)).mono ?_
    rintro e w2 ⟨rfl, hB2⟩
    go_wp2
    go_ret
    exact ⟨rfl, hB2⟩
  · have hd : decide ((3000 : Int) < (bs.length : Int)) = false := decide_eq_false (by omega)
    have hd' : decide (3000 < bs.length) = false := decide_eq_false hl
    have HLT := Lib.hid (lent_any A c bs w hA (by omega) hnil)
    unfold LentPost at HLT
    have HO := Lib.hid ho
    have HPS := Lib.hid (fun (A' : Option Addr) (c' : Nat) (W : World) (hB : Below w.heap.size w W) (hA' : Bytes W A' bs) (hc' : bs.length ≤ c') => parse_small A' c' bs W hA' HO.out hc' (by omega) (HW.out.on hB) (HK.out.on hB))
    have HRP := Lib.hid (fun (W : World) (hB : Below w.heap.size w W) => rparse_any A c bs W (HA.out.below (B := 0) hB) HO.out hc (by omega) (text_fine' (by omega)))
    clear hA hw hk ho
    have hfew := fun es h => parse_few (bs := bs) (es := es) h
    have HFEW := Lib.hid hfew
    clear hfew
    cases hpx : parseX bs with
    | error f =>
      obtain ⟨f1, f2⟩ := f
      rw [hpx] at HPS HRP
      unfold ParsePost at HPS HRP
      dsimp only at HPS HRP
      have t1 : (f1 == f1) = true := by simp
      have t2 : (f2 == f2) = true := by simp
      clear hpx HFEW
      go_enter Tryz.func4, Tryz.ntmps4
      go_wp2_with fail
      refine HLT.out.mono ?_
      rintro e w1 ⟨g, cap, rfl, hcap, hrow, hB1⟩
      have hb1 := bytes_row hrow 0 bs.length (by omega)
      simp only [List.drop_zero, List.take_left'] at hb1
      have HP := Lib.hid (HPS.out (some ⟨g, 0, none⟩) cap w1 hB1 hb1 (by omega))
      have HROW := Lib.hid hrow
      have hgl := (hrow.lt g rfl).2
      clear hrow hb1
      go_wp2_with fail
      refine HP.out.mono ?_
      rintro e w2 ⟨rfl, hB2⟩
      have hB3 := alloc1 w2 (.cells #[.int .i64 f1, .int .i64 f2] 44)
      have HX3 := Lib.hid (Holds.new w2 44 #[.int .i64 f1, .int .i64 f2])
      have hB13 := nxt hB2 hB3 hB2.size
      have hB03 := nxt hB1 hB13 hB1.size
      clear hB2 hB3
      go_wp2_with fail
      generalize w2.alloc (.cells #[.int .i64 f1, .int .i64 f2] 44) = w3 at *
      refine (HRP.out _ hB03).mono ?_
      rintro e w4 ⟨rfl, hB4⟩
      have hB5 := alloc1 w4 (.cells #[.int .i64 f1, .int .i64 f2] 44)
      have HY5 := Lib.hid (Holds.new w4 44 #[.int .i64 f1, .int .i64 f2])
      have hB35 := nxt hB4 hB5 hB4.size
      have HX5 := Lib.hid (HX3.out.below hB35 HX3.out.lt)
      have hB15 := nxt hB13 hB35 hB13.size
      have hB05 := nxt hB03 hB35 hB03.size
      have hne1 : ¬ w4.heap.size = w2.heap.size := by have := HX3.out.lt; have := hB4.size; omega
      clear hB4 hB5
      have HS := Lib.hid (fun W => sameevs_any none none 0 0 [] [] W (fun h => absurd h (by simp)) (fun z hz => by cases hz) (fun h => absurd h (by simp)) (fun z hz => by cases hz) (fun z hz => by cases hz) (by simp) (by simp))
      rw [evsEq_refl, List.length_nil] at HS
      go_wp2_with fail
      generalize w4.alloc (.cells #[.int .i64 f1, .int .i64 f2] 44) = w5 at *
      refine (HS.out w5).mono ?_
      rintro e w6 ⟨rfl, hB6⟩
      have HX6 := HX5.out.below hB6 HX5.out.lt
      have HY6 := HY5.out.below hB6 HY5.out.lt
      have x0 := HX6.c (j := 0) rfl
      have x1 := HX6.c (j := 1) rfl
      have y0 := HY6.c (j := 0) rfl
      have y1 := HY6.c (j := 1) rfl
      have hB16 := nxt hB15 hB6 hB15.size
      have hB06 := nxt hB05 hB6 hB05.size
      go_wp2_with fail
      refine (overevs_none w6 0).mono ?_
      rintro e w7 ⟨rfl, rfl⟩
      have HKE := Lib.hid (kept_yes A c g cap w.heap.size bs w7 (HA.out.below (B := 0) hB06) (by omega) hcap (row_below HROW.out hB16))
      go_wp2_with fail
      refine HKE.out.mono ?_
      rintro e w8 ⟨rfl, hB8⟩
      have hB08 := nxt hB06 hB8 hB06.size
      go_wp2_with fail
      refine (HAW.out _ hB08).mono ?_
      rintro e w9 ⟨rfl, hB9⟩
      go_wp2
      go_ret
      exact ⟨rfl, nxt hB08 hB9 hB08.size⟩
    | ok es =>
      obtain ⟨hn1, hn2⟩ := HFEW.out es hpx
      rw [hpx] at HPS HRP
      unfold ParsePost at HPS HRP
      dsimp only at HPS HRP
      clear hpx HFEW
      have HN2 := Lib.hid hn2
      clear hn2
      obtain ⟨n, hn⟩ : ∃ n, es.length = n := ⟨_, rfl⟩
      have HEN := Lib.hid hn
      rw [hn] at HPS HRP hn1
      clear hn
      go_enter Tryz.func4, Tryz.ntmps4
      go_wp2_with fail
      refine HLT.out.mono ?_
      rintro e w1 ⟨g, cap, rfl, hcap, hrow, hB1⟩
      have hb1 := bytes_row hrow 0 bs.length (by omega)
      simp only [List.drop_zero, List.take_left'] at hb1
      have HP := Lib.hid (HPS.out (some ⟨g, 0, none⟩) cap w1 hB1 hb1 (by omega))
      have HROW := Lib.hid hrow
      have hgl := (hrow.lt g rfl).2
      clear hrow hb1
      go_wp2_with fail
      refine HP.out.mono ?_
      rintro e w2 ⟨A1, c1, rfl, hown1, hB2⟩
      have HO1 := Lib.hid hown1
      have hB3 := alloc1 w2 (.cells #[.int .i64 0, .int .i64 0] 44)
      have HX3 := Lib.hid (Holds.new w2 44 #[.int .i64 0, .int .i64 0])
      have hB13 := nxt hB2 hB3 hB2.size
      have hB03 := nxt hB1 hB13 hB1.size
      have HB3 := Lib.hid hB3
      clear hB2 hB3 hown1
      go_wp2_with fail
      generalize w2.alloc (.cells #[.int .i64 0, .int .i64 0] 44) = w3 at *
      refine (HRP.out _ hB03).mono ?_
      rintro e w4 ⟨A2, c2, rfl, hown2, hB4⟩
      have hB5 := alloc1 w4 (.cells #[.int .i64 0, .int .i64 0] 44)
      have HY5 := Lib.hid (Holds.new w4 44 #[.int .i64 0, .int .i64 0])
      have HO2 := Lib.hid (hown2.below hB5)
      have hB35 := nxt hB4 hB5 hB4.size
      have HX5 := Lib.hid (HX3.out.below hB35 HX3.out.lt)
      have hB15 := nxt hB13 hB35 hB13.size
      have hB05 := nxt hB03 hB35 hB03.size
      have hB25 := nxt HB3.out hB35 HB3.out.size
      have HO15 := Lib.hid (HO1.out.below hB25)
      have hne1 : ¬ w4.heap.size = w2.heap.size := by have := HX3.out.lt; have := hB4.size; omega
      clear hB4 hB5 hown2
      go_wp2_with fail
      generalize w4.alloc (.cells #[.int .i64 0, .int .i64 0] 44) = w5 at *
      obtain ⟨zs, hz1, hz2, hz3, hz4⟩ := HO15.out.readX HEN.out
      obtain ⟨ys, hy1, hy2, hy3, hy4⟩ := HO2.out.readX HEN.out
      have HS := Lib.hid (sameevs_any A1 A2 c1 c2 zs ys w5 hz3 hz4 hy3 hy4 (fun z hz => by have := HN2.out _ (fst_memX hz1 hz); omega) (by omega) (by omega))
      rw [hz1, hy1, evsEq_refl, hz2, hy2] at HS
      clear hz1 hz2 hz3 hz4 hy1 hy2 hy3 hy4
      refine HS.out.mono ?_
      rintro e w6 ⟨rfl, hB6⟩
      have HX6 := HX5.out.below hB6 HX5.out.lt
      have HY6 := HY5.out.below hB6 HY5.out.lt
      have x0 := HX6.c (j := 0) rfl
      have x1 := HX6.c (j := 1) rfl
      have y0 := HY6.c (j := 0) rfl
      have y1 := HY6.c (j := 1) rfl
      have hB16 := nxt hB15 hB6 hB15.size
      have hB06 := nxt hB05 hB6 hB05.size
      have hov := overevs_any A1 c1 w1.heap.size es w6 (by rw [HEN.out]; exact HO15.out.below hB6) hB16.size (fun e he => by have := HN2.out e he; omega) (by rw [HEN.out]; omega)
      rw [HEN.out] at hov
      have HOV := Lib.hid hov
      clear hov
      go_wp2_with fail
      refine HOV.out.mono ?_
      rintro e w7 ⟨rfl, hB7⟩
      have hB17 := hB16.trans hB7
      have hB07 := nxt hB1 hB17 hB1.size
      have HKE := Lib.hid (kept_yes A c g cap w.heap.size bs w7 (HA.out.below (B := 0) hB07) (by omega) hcap (row_below HROW.out hB17))
      go_wp2_with fail
      refine HKE.out.mono ?_
      rintro e w8 ⟨rfl, hB8⟩
      have hB08 := nxt hB07 hB8 hB07.size
      go_wp2_with fail
      refine (HAW.out _ hB08).mono ?_
      rintro e w9 ⟨rfl, hB9⟩
      go_wp2
      go_ret
      exact ⟨rfl, nxt hB08 hB9 hB08.size⟩
end Go.Proofs.YtakbphjdfgidmaaGreatDoor
