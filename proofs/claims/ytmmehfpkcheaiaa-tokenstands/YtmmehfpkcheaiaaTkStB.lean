/- TokenStands, walked. -/
import Derived.Test.YtmmehfpkcheaiaaTkStA
import Derived.Test.YtmmehfpkcheaiaaTkX
namespace Go.Proofs.Ytmmehfpkcheaiaa
open Go.RowKit
set_option linter.unusedVariables false

set_option maxHeartbeats 8000000 in
set_option maxRecDepth 10000 in
theorem stands_law (A : Option Addr) (c : Nat) (bs : List Int) (w : World) (hA : Bytes w A bs) (ho : Octets bs) (hc : bs.length ≤ c) (hm : bs.length ≤ maxLen) :
    Calls Try.prog 8 #[.slice A bs.length c] w (Yes w) := by
  unfold maxLen at hm
  by_cases hlong : 1000 < bs.length
  · have hd : decide ((1000 : Int) < (bs.length : Int)) = true := decide_eq_true (by omega)
    go_enter Try.func8, Try.ntmps8
    go_wp2_with fail
    refine (awake_yes _).mono ?_
    rintro e w1 ⟨rfl, hB1⟩
    go_wp2
    go_ret
    exact ⟨rfl, hB1⟩
  · have hd : decide ((1000 : Int) < (bs.length : Int)) = false := decide_eq_false (by omega)
    have HA := Lib.hid hA
    have HO := Lib.hid ho
    clear hA ho
    cases hF : textF bs with
    | some f =>
      obtain ⟨hf1, hf2⟩ := fault_le (by omega) hF
      obtain ⟨t1, t2, t3⟩ := text_fail hF
      have HT := Lib.hid t1
      have HT2 := Lib.hid t2
      have HT3 := Lib.hid t3
      have hne : ((f.1 : Int) == 0) = false := beq_eq_false_iff_ne.2 (by omega)
      have hd2 : decide ((0 : Int) ≤ (f.2 : Int)) = true := decide_eq_true (by omega)
      have hd3 : decide ((f.2 : Int) ≤ (bs.length : Int)) = true := decide_eq_true (by omega)
      have hd3' : decide (f.2 ≤ bs.length) = true := decide_eq_true (by omega)
      clear hF t1 t2 t3
      go_enter Try.func8, Try.ntmps8
      go_wp2_with fail
      refine (awake_yes _).mono ?_
      rintro e w1 ⟨rfl, hB1⟩
      go_wp2_with fail
      refine (lines_any A c bs w1 (HA.out.below (B := 0) hB1) HO.out hc (by unfold maxLen; omega)).mono ?_
      rintro e w2 ⟨v, rfl, hown, hB2⟩
      rw [HT2.out, HT3.out]
      replace hB2 := Below.next hB1 hB2 (Nat.le_refl _)
      obtain ⟨A4, c4, rfl, _⟩ := hown.read
      go_wp2
      go_ret
      exact ⟨rfl, hB2.alloc hB2.size _⟩
    | none =>
      have HT2 : Hid (textE bs = 0 ∧ textP bs = 0) := Lib.hid ⟨by rw [textE, hF], by rw [textP, hF]⟩
      have HOk := Lib.hid (line_ok hF)
      have HAp := Lib.hid (lines_apart (bs := bs))
      have HTS := Lib.hid (text_small bs (by omega))
      clear hF
      obtain ⟨ls, hls⟩ : ∃ ls, textL bs = ls := ⟨_, rfl⟩
      rw [hls] at HOk HAp HTS
      have HLs := Lib.hid hls
      clear hls
      have hTl := HTS.out.1
      go_enter Try.func8, Try.ntmps8
      go_wp2_with fail
      refine (awake_yes _).mono ?_
      rintro e w1 ⟨rfl, hB1⟩
      go_wp2_with fail
      refine (lines_any A c bs w1 (HA.out.below (B := 0) hB1) HO.out hc (by unfold maxLen; omega)).mono ?_
      rintro e w2 ⟨v, rfl, hown, hB2⟩
      rw [HT2.out.1, HT2.out.2]
      rw [HLs.out] at hown
      replace hB2 := Below.next hB1 hB2 (Nat.le_refl _)
      obtain ⟨A4, c4, rfl, hrd⟩ := hown.read
      have HRd := Lib.hid hrd
      clear hown hrd
      go_wp2
      obtain ⟨W3, hW3⟩ : ∃ W3, w2.alloc (.cells #[.int .i64 0, .int .i64 0] 28) = W3 := ⟨_, rfl⟩
      have hB23 : Below w2.heap.size w2 W3 := by rw [← hW3]; exact (Below.refl _ _).alloc (Nat.le_refl _) _
      have hB3 := hB2.trans (hB23.mono hB2.size)
      have HR3 := Lib.hid (HRd.out.grow hB23)
      rw [hW3]
      clear hW3 hB23 hB2
      go_loopw [6, 7] (fun s6 s7 wr => ∃ (i : Nat) (last : Int), i ≤ ls.length ∧ s7 = .int .i64 i ∧ s6 = .int .i64 last ∧ -1 ≤ last ∧ last ≤ bs.length ∧ (∀ j (hj : j < ls.length), i ≤ j → last < (ls[j].1 : Int)) ∧ Below W3.heap.size W3 wr) (fun s6 s7 wr => ls.length - (intOf s7).toNat)
      case atStart => exact ⟨0, -1, Nat.zero_le _, rfl, rfl, by omega, by omega, fun j hj _ => by omega, Below.refl _ _⟩
      case round =>
        obtain ⟨i, last, hi, rfl, rfl, hl1, hl2, hl3, hB⟩ := hrel
        by_cases hlt : i < ls.length
        · have hok := HOk.out _ (List.getElem_mem hlt)
          have hap : ∀ j (hj : j < ls.length), i < j → ls[i].1 + ends ls[i].2 ≤ ls[j].1 := fun j hj hij => List.pairwise_iff_getElem.1 HAp.out i j hlt hj hij
          have hla := hl3 i hlt (Nat.le_refl _)
          have hws := HTS.out.2 _ (List.getElem_mem hlt)
          obtain ⟨bl, offl, rfl, hbl, hcl⟩ := HR3.out (by omega)
          obtain ⟨Aw, cw, d1, d2, d3⟩ := hcl i hlt
          have hget : ls[i]?.getD (0, []) = ls[i] := by rw [List.getElem?_eq_getElem hlt]; rfl
          rw [hget] at d1 d2 d3
          obtain ⟨x, hx⟩ : ∃ x, ls[i] = x := ⟨_, rfl⟩
          rw [hx] at hok hla d1 d2 d3 hws
          simp only [hx] at hap
          obtain ⟨o, ws⟩ := x
          dsimp only at hla d1 d2 d3 hap hws
          have HAp2 := Lib.hid hap
          have HOkx := Lib.hid hok
          obtain ⟨v1, v2, v3⟩ := hok.word 0 hok.some
          have hb0 : 0 < bs.length := by have := List.length_pos_iff.2 v1; omega
          have hws0 : 0 < ws.length := hok.some
          have hstop := hok.stop
          have hends : 1 ≤ ends ws := by
            cases ws with
            | nil => simp at hws0
            | cons a r => rw [ends_cons]; omega
          have hol : o ≤ bs.length := by dsimp only at hstop; omega
          obtain ⟨ba, offa, rfl, hba, hca⟩ := BytesB.at HA.out.b hb0
          have HCa := Lib.hid (fun j hj => ((hB3.cell (p := ⟨ba, offa + j, none⟩) hba).trans (hca j hj)))
          have hba3 : ba < W3.heap.size := Nat.lt_of_lt_of_le hba hB3.size
          have HD3 := Lib.hid d3
          have e1 := (hB.cell (p := ⟨bl, offl + i * 2, none⟩) hbl).trans d1
          have e2 := (hB.cell (p := ⟨bl, offl + i * 2 + 1, none⟩) hbl).trans d2
          have q1 : decide ((o : Int) < 0) = false := decide_eq_false (by omega)
          have q2 : decide ((bs.length : Int) < (o : Int)) = false := decide_eq_false (by omega)
          have q3 : decide ((o : Int) ≤ last) = false := decide_eq_false (by omega)
          have q4 : ((ws.length : Int) == 0) = false := beq_eq_false_iff_ne.2 (by omega)
          clear hcl hget hx hap hok v1 v2 v3 hca d3 hl3
          have hcase : decide (0 < o) = false ∨ (0 < o ∧ wr.cell? ⟨ba, offa + (o - 1), none⟩ = some (.int .u8 10)) := by
            rcases Nat.eq_zero_or_pos o with h | h
            · exact .inl (decide_eq_false (by omega))
            · refine .inr ⟨h, (hB.cell (p := ⟨ba, offa + (o - 1), none⟩) hba3).trans ?_⟩
              rw [HCa.out (o - 1) (by omega)]
              have := HOkx.out.ahead h
              dsimp only at this
              rw [this]
          have HB := Lib.hid hB
          rcases hcase with hq | ⟨hq, hq2⟩
          all_goals
            go_wp2_with fail
            go_loopw [8, 9] (fun s8 s9 wr => ∃ (k p : Nat), k ≤ ws.length ∧ s9 = .int .i64 k ∧ s8 = .int .i64 p ∧ p = o + ends (ws.take k) ∧ Below W3.heap.size W3 wr) (fun s8 s9 wr => ws.length - (intOf s9).toNat)
            case atStart => exact ⟨0, o, Nat.zero_le _, rfl, rfl, by simp [ends], HB.out⟩
            case round =>
              obtain ⟨k, p, hk, rfl, rfl, hp, hBk⟩ := hrel
              have hBk' := hBk.size
              have f1 := (hBk.cell (p := ⟨bl, offl + i * 2, none⟩) hbl).trans d1
              have f2 := (hBk.cell (p := ⟨bl, offl + i * 2 + 1, none⟩) hbl).trans d2
              have HP := Lib.hid hp
              clear hp
              by_cases hltk : k < ws.length
              · obtain ⟨bw, offw, rfl, hbw, hcw⟩ := HD3.out (by omega)
                obtain ⟨c1, c2⟩ := hcw k hltk
                have hgk : ws[k]?.getD (0, []) = ws[k] := by rw [List.getElem?_eq_getElem hltk]; rfl
                rw [hgk] at c1 c2
                have hpl := HOkx.out.place k hltk
                obtain ⟨y1, y2, y3⟩ := HOkx.out.word k hltk
                have het := ends_take ws k hltk
                dsimp only at hpl y1 y2 y3
                rw [← HP.out] at hpl
                obtain ⟨q, hq⟩ : ∃ q, ws[k] = q := ⟨_, rfl⟩
                rw [hq] at c1 c2 hpl y1 y2 y3 het
                rw [hpl] at y2 y3 c2
                replace c1 := (hBk.cell (p := ⟨bw, offw + k * 2, none⟩) hbw).trans c1
                replace c2 := (hBk.cell (p := ⟨bw, offw + k * 2 + 1, none⟩) hbw).trans c2
                have hql := List.length_pos_iff.2 y1
                have hss := str_size q.2
                obtain ⟨st, hst⟩ : ∃ st, strOfNums q.2 = st := ⟨_, rfl⟩
                have hby : BytesB W3.heap.size (wr.alloc (.cells #[.string st, .int .i64 p] 36)).drew (some ⟨ba, offa + p, none⟩) q.2 := by
                  have h1 : BytesB W3.heap.size W3 (some ⟨ba, offa + p, none⟩) (seg bs p (p + q.2.length)) := seg_bytes y2 hba3 HCa.out
                  rw [y3] at h1
                  exact h1.below ((hBk.alloc hBk' _).drew)
                have cv := conv_any (c := c - p) hby
                rw [hst] at c1 hss cv
                rw [← hss] at cv y2 hql het
                have hE : st.toList.isEmpty = false := by
                  rw [ByteArray.toList_eq]
                  cases e : st.data.toList with
                  | nil => exact absurd (by rw [← nums_len, nums, e]; rfl) (show st.size ≠ 0 by omega)
                  | cons a r => rfl
                have k3 : (st.toList == st.toList) = true := by simp
                have k4 : ((p : Int) == (p : Int)) = true := by simp
                have k5 : ((p : Int) != (p : Int)) = false := by simp
                have hcp : ¬ c = p := by omega
                have g1 : decide ((bs.length : Int) < (p : Int) + (st.size : Int)) = false := decide_eq_false (by omega)
                have g2 : (0 : Int) ≤ (p : Int) := by omega
                have g3 : (p : Int) ≤ (p : Int) + (st.size : Int) := by omega
                have g4 : (p : Int) + (st.size : Int) ≤ (c : Int) := by omega
                have HEt := Lib.hid het
                clear hcw hgk hpl y1 y3 het hq hss hst hby hql
                go_wp2_with fail
                go_region
                go_wp2
                go_roundw
                case rel => exact ⟨k + 1, p + st.size + 1, by omega, by go_num, by go_num, by have := HEt.out; have := HP.out; omega, (hBk.alloc hBk' _).drew⟩
                case measure => simp [intOf]; omega
              · have hdk : decide (k < ws.length) = false := decide_eq_false hltk
                have hpe : p = o + ends ws := by rw [HP.out, List.take_of_length_le (by omega)]
                have hstop2 : p ≤ bs.length + 1 := by omega
                have hp1 : 1 ≤ p := by omega
                have hcase2 : decide ((p : Int) - 1 < (bs.length : Int)) = false ∨ ((p : Int) - 1 < (bs.length : Int) ∧ wr.cell? ⟨ba, offa + (p - 1), none⟩ = some (.int .u8 10)) := by
                  rcases Nat.lt_or_ge (p - 1) bs.length with h | h
                  · refine .inr ⟨by omega, (hBk.cell (p := ⟨ba, offa + (p - 1), none⟩) hba3).trans ?_⟩
                    rw [HCa.out (p - 1) h]
                    have h2 := HOkx.out.behind (by dsimp only; omega)
                    dsimp only at h2
                    rw [hpe, h2]
                  · exact .inl (decide_eq_false (by omega))
                have HPe := Lib.hid hpe
                clear hpe
                rcases hcase2 with hz | ⟨hz, hz2⟩
                all_goals
                  go_wp2
                  go_roundw
                  case rel =>
                    refine ⟨i + 1, (p : Int) - 1, by omega, by go_num, rfl, by omega, by omega, fun j hj hij => ?_, hBk⟩
                    have := HAp2.out j hj (by omega)
                    have := HPe.out
                    omega
                  case measure => simp [intOf]; omega
        · have hdi : decide (i < ls.length) = false := decide_eq_false hlt
          clear hl3
          go_wp2
          go_ret
          exact ⟨rfl, Below.trans hB3 (hB.mono hB3.size)⟩
end Go.Proofs.Ytmmehfpkcheaiaa
