/- TokenBack, walked. -/
import Derived.Test.YtmmehfpkcheaiaaTkY
import Derived.Test.YtmmehfpkcheaiaaTkK
import Derived.Test.YtmmehfpkcheaiaaTkM
namespace Go.Proofs.Ytmmehfpkcheaiaa
open Go.RowKit
set_option linter.unusedVariables false

theorem szs_k41 (ss : List ByteArray) (h : ∀ s ∈ ss, s.size ≤ 140737488351232) (k : Nat) (hk : k ≤ 41) : szs (ss.take k) ≤ 8584986789425152 := szs_k ss h k (by omega)

theorem joinE_cases (ss : List ByteArray) : jE ss = 0 ∧ joinOk ss = true ∧ (jl ss).length ≤ 65536 ∧ jS ss = jl ss ∨ jE ss ≠ 0 ∧ jS ss = [] := by
  unfold jE jS
  cases h : joinOk ss with
  | false => right; simp
  | true =>
    by_cases h65 : 65536 < (jl ss).length
    · right; simp [h65]
    · left; simp [h65]; omega

set_option maxHeartbeats 4000000 in
theorem back_law (A : Option Addr) (c : Nat) (ss : List ByteArray) (w0 : World) (hA : Strs w0.heap.size w0 A ss) (hnil : A = none → c = 0) (hm : ss.length ≤ 140737488351232) (hz : ∀ s ∈ ss, s.size ≤ 140737488351232) :
    Calls Try.prog 6 #[.slice A ss.length c] w0 (Yes w0) := by
  have HZ := Lib.hid (szs_k41 ss hz)
  have HA0 := Lib.hid hA
  have HT := Lib.hid (szs_take ss)
  clear hz hA hnil
  go_enter Try.func6, Try.ntmps6
  go_wp2_with fail
  refine (known_yes _).mono ?_
  rintro e w ⟨rfl, hB0⟩
  have HA := Lib.hid (HA0.out.below hB0)
  have hw0 := hB0.size
  go_wp2
  go_loop [4, 5] (fun s3 i => ∃ k z : Nat, k ≤ ss.length ∧ k ≤ 41 ∧ i = .int .i64 k ∧ s3 = .int .i64 z ∧ z = szs (ss.take k)) (fun s3 i => 41 - (intOf i).toNat)
  case atStart => exact ⟨0, 0, Nat.zero_le _, by omega, rfl, rfl, by simp [szs]⟩
  case round =>
    obtain ⟨k, z, hk, hk61, rfl, rfl, hzk⟩ := hrel
    have hzb : z ≤ 8584986789425152 := by rw [hzk]; exact HZ.out k hk61
    have HZK := Lib.hid hzk
    clear hzk
    by_cases hlt : k < ss.length ∧ k < 41
    · obtain ⟨hlt, h61⟩ := hlt
      obtain ⟨b, off, rfl, hb, hc⟩ := HA.out (by omega)
      have hck := hc k hlt
      have hst := HT.out k hlt
      have hzb2 := HZ.out (k + 1) (by omega)
      obtain ⟨s, hs⟩ : ∃ s, ss[k]?.getD ⟨#[]⟩ = s := ⟨_, rfl⟩
      rw [hs] at hck hst
      have hsz : z + s.size ≤ 8584986789425152 := by rw [hst, ← HZK.out] at hzb2; exact hzb2
      have HST := Lib.hid hst
      clear hs hst hc hzb2
      go_wp2
      go_roundw
      case rel => exact ⟨k + 1, z + s.size, by omega, by omega, by go_num, by go_num, by rw [HST.out, HZK.out]⟩
      case measure => simp [intOf]; omega
    · by_cases h60 : 40 < ss.length
      · have h61 : ¬ k < 41 := by omega
        have hd1 : decide (k < 41) = false := decide_eq_false h61
        have hd2 : decide ((40 : Int) < (ss.length : Int)) = true := decide_eq_true (by omega)
        have hlt1 : decide (k < ss.length) = true ∨ decide (k < ss.length) = false := by cases decide (k < ss.length) <;> simp
        rcases hlt1 with hl1 | hl1
        all_goals
          go_wp2
          go_ret
          exact ⟨rfl, hB0⟩
      · have hkl : ¬ k < ss.length := by omega
        have hl1 : decide (k < ss.length) = false := decide_eq_false hkl
        have hd2 : decide ((40 : Int) < (ss.length : Int)) = false := decide_eq_false (by omega)
        have htk : ss.take k = ss := List.take_of_length_le (by omega)
        have hzs : szs ss = z := by rw [HZK.out, htk]
        have HZS := Lib.hid hzs
        clear htk hzs
        by_cases h7 : 1000 < z
        · have hd3 : decide ((1000 : Int) < (z : Int)) = true := decide_eq_true (by omega)
          go_wp2
          go_ret
          exact ⟨rfl, hB0⟩
        · have hd3 : decide ((1000 : Int) < (z : Int)) = false := decide_eq_false (by omega)
          have hzt : szs ss ≤ 1000 := by rw [HZS.out]; omega
          have HJ := Lib.hid (join_any A c ss w (HA.out.mono hw0) (by omega) (by omega))
          unfold JoinPost at HJ
          rcases joinE_cases ss with ⟨hE, hok, hjl, hS⟩ | ⟨hE, hS⟩
          · rw [hE, hS] at HJ
            obtain ⟨ht1, ht2⟩ := back_text ss hok hjl
            have HT1 := Lib.hid ht1
            have HT2 := Lib.hid ht2
            obtain ⟨_, hfin, hne⟩ := jl_over ss hok
            have h0 : 0 < ss.length := List.length_pos_iff.2 hne
            have hlen := jl_len ss h0
            have HLen := Lib.hid hlen
            have hss := str_size (jl ss)
            have hbs := back_str ss
            obtain ⟨st, hst⟩ : ∃ st, strOfNums (jl ss) = st := ⟨_, rfl⟩
            rw [hst] at HJ hss hbs
            have hsz : st.size ≤ 1040 := by omega
            have HBs := Lib.hid hbs
            have HSs := Lib.hid hss
            have hcv := fun (W : World) (s : ByteArray) => Lib.run_convert_string_bytes (P := Try.prog) W 9 22 5 s Try.underlying9 Try.underlying22 Try.underlying5
            clear ht1 ht2 hfin hne hlen hss hbs hst hE hok hjl hS
            go_wp2_with fail
            refine HJ.out.mono ?_
            rintro e w1 ⟨rfl, hB1⟩
            have HAw := Lib.hid (HA.out.below (hB1.mono hw0))
            replace hB1 := Below.next hB0 hB1 (Nat.le_refl _)
            have hX : nums ((⟨#[120, 32, 121, 10, 10, 35, 32, 32, 35, 10]⟩ : ByteArray) ++ st ++ ⟨#[10]⟩) = backT ss := by rw [HBs.out, nums_strOf _ (back_octets ss)]
            have hbl : (backT ss).length = 10 + st.size + 1 := by rw [HSs.out]; simp [backT]; omega
            have hby := bytes_of_str w1 ((⟨#[120, 32, 121, 10, 10, 35, 32, 32, 35, 10]⟩ : ByteArray) ++ st ++ ⟨#[10]⟩)
            rw [hX] at hby
            have HL := Lib.hid (lines_any (some ⟨w1.heap.size, 0, none⟩) (grownCap w1 (10 + st.size + 1) 0 5) (backT ss) _ hby (back_octets ss) (by rw [hbl]; exact grownCap_ge _ _ _ _) (by rw [hbl]; unfold maxLen; omega))
            unfold LinesPost at HL
            rw [hbl, HT2.out, show textE (backT ss) = 0 by rw [textE, HT1.out], show textP (backT ss) = 0 by rw [textP, HT1.out]] at HL
            clear hX hbl hby
            go_wp2_with fail
            refine HL.out.mono ?_
            rintro e w2 ⟨v, rfl, hown, hB2⟩
            have HA2 := Lib.hid (HAw.out.below ((below_bytes (Below.refl w0.heap.size w1) hB1.size _).trans (hB2.mono (by rw [Lib.bytesWorld_size]; have := hB1.size; omega))))
            replace hB2 := Below.next (below_bytes hB1 hB1.size _) hB2 (Nat.le_refl _)
            obtain ⟨zs, hzs, rL, rs⟩ := hown
            have hzl : zs.length = 2 := by have := congrArg List.length hzs; simpa using this
            have hz1 : zs[1].1 = (10, wat 10 ss) := by
              have h1 : (zs.map Prod.fst)[1]? = some (10, wat 10 ss) := by rw [hzs]; rfl
              rw [List.getElem?_map, List.getElem?_eq_getElem (by omega)] at h1
              simpa using h1
            have rW := rs zs[1] (List.getElem_mem (by omega))
            rw [hz1] at rW
            obtain ⟨Aw, cw, eAw⟩ := row_one rW
            rw [eAw] at rW
            have hRW := read_row rW
            rw [hzl] at rL
            obtain ⟨gl, cl, rfl⟩ := ownsRow_succ rL
            have d2 : w2.cell? ⟨gl, 2, none⟩ = some (.int .i64 10) := by
              have h1 := rL.cellAt 2 (by omega)
              rw [h1, lineCells, flat2_even (j := 1), List.getElem?_eq_getElem (by omega), Option.map_some, hz1]; rfl
            have d3 : w2.cell? ⟨gl, 3, none⟩ = some (.slice Aw ss.length cw) := by
              have h1 := rL.cellAt 3 (by omega)
              rw [h1, lineCells, flat2_odd (j := 1), List.getElem?_eq_getElem (by omega), Option.map_some, eAw, wat_len]
            obtain ⟨bw, offw, rfl, hbw, hcw⟩ := hRW (by rw [wat_len]; exact h0)
            have hgl : gl < w2.heap.size := (rL.lt gl rfl).2
            have HCW := Lib.hid hcw
            have HA3 := Lib.hid (HA2.out.mono (Nat.le_trans hB2.size (Nat.le_succ _)))
            have hs2 := hB2.size
            have k1 : ((ss.length : Int) == (ss.length : Int)) = true := by simp
            have k2 : ((ss.length : Int) != (ss.length : Int)) = false := by simp
            clear hcw hzs rL rs hz1 rW hRW eAw
            go_wp2
            obtain ⟨W3, hW3⟩ : ∃ W3, w2.alloc (.cells #[.int .i64 0, .int .i64 0] 28) = W3 := ⟨_, rfl⟩
            have hB23 : Below w2.heap.size w2 W3 := by rw [← hW3]; exact (Below.refl _ _).alloc (Nat.le_refl _) _
            have hB3 := hB2.trans (hB23.mono hs2)
            have e3 := (hB23.cell (p := ⟨gl, 3, none⟩) hgl).trans d3
            have HA4 := Lib.hid (HA2.out.below (hB23.mono hs2))
            have HCW3 : Hid (∀ j, j < ss.length → W3.cell? ⟨bw, offw + j * 2, none⟩ = some (.string (ss[j]?.getD ⟨#[]⟩)) ∧ W3.cell? ⟨bw, offw + j * 2 + 1, none⟩ = some (.int .i64 ((10 + szs (ss.take j) + j : Nat) : Int))) := Lib.hid (fun j hj => by
              have h1 := HCW.out j (by rw [wat_len]; exact hj)
              rw [wat_get ss 10 j hj] at h1
              simp only [Option.getD_some, strOf_nums] at h1
              exact ⟨(hB23.cell (p := ⟨bw, offw + j * 2, none⟩) hbw).trans h1.1, (hB23.cell (p := ⟨bw, offw + j * 2 + 1, none⟩) hbw).trans h1.2⟩)
            rw [hW3]
            clear hW3 hB23 hB2 d2 d3
            go_loopw [10, 11] (fun s10 s11 wr => ∃ (i p n : Nat), i ≤ ss.length ∧ s11 = .int .i64 i ∧ s10 = .int .i64 p ∧ p = 10 + szs (ss.take i) + i ∧ wr = W3.drewN n) (fun s10 s11 wr => ss.length - (intOf s11).toNat)
            case atStart => exact ⟨0, 10, 0, Nat.zero_le _, rfl, rfl, by simp [szs], rfl⟩
            case round =>
              obtain ⟨i, p, n, hi, rfl, rfl, hp, rfl⟩ := hrel
              have hpl : p ≤ 1050 := by have := szs_le ss i; omega
              have HP := Lib.hid hp
              clear hp
              by_cases hlti : i < ss.length
              · obtain ⟨b, off, rfl, hb, hcs⟩ := HA4.out h0
                have c1 := hcs i hlti
                obtain ⟨c2, c3⟩ := HCW3.out i hlti
                have hst := HT.out i hlti
                have hle2 := szs_le ss (i + 1)
                rw [← HP.out] at c3
                obtain ⟨s, hs⟩ : ∃ s, ss[i]?.getD ⟨#[]⟩ = s := ⟨_, rfl⟩
                rw [hs] at c1 c2 hst
                have hssz : s.size ≤ 1000 := by omega
                have HST := Lib.hid hst
                have m2 : ((p : Int) == (p : Int)) = true := by simp
                have m3 : (s.toList == s.toList) = true := by simp
                have hi0 : (0 : Int) ≤ (i : Int) := by omega
                have hi1 : (i : Int) < (ss.length : Int) := by omega
                clear hs hst hcs hle2
                go_wp2_with fail
                go_quiet (fail)
                go_wp2
                go_roundw
                case rel => exact ⟨i + 1, p + s.size + 1, _, by omega, by go_num, by go_num, by have := HST.out; have := HP.out; omega, rfl⟩
                case measure => simp [intOf]; omega
              · have hdi : decide (i < ss.length) = false := decide_eq_false hlti
                have hpe : (p : Int) = 11 + st.size := by
                  have h1 : ss.take i = ss := List.take_of_length_le (by omega)
                  have := HP.out
                  rw [h1] at this
                  have := HLen.out
                  have := HSs.out
                  omega
                have hpb : ((p : Int) == 11 + (st.size : Int)) = true := beq_iff_eq.2 hpe
                clear hpe
                go_wp2
                go_ret
                exact ⟨rfl, below_drewN hB3 n⟩
          · have hEb : (jE ss == 0) = false := beq_eq_false_iff_ne.2 hE
            rw [hS, show strOfNums [] = ⟨#[]⟩ from rfl] at HJ
            clear hS
            generalize jE ss = er at *
            go_wp2_with fail
            refine HJ.out.mono ?_
            rintro e w1 ⟨rfl, hB1⟩
            replace hB1 := Below.next hB0 hB1 (Nat.le_refl _)
            go_wp2
            go_ret
            exact ⟨rfl, hB1⟩
end Go.Proofs.Ytmmehfpkcheaiaa
