/- The document's Join; SameTexts. -/
import Derived.Test.YtmmehfpkcheaiaaTkH
namespace Go.Proofs.Ytmmehfpkcheaiaa
open Go.RowKit
set_option linter.unusedVariables false

set_option maxHeartbeats 400000 in
theorem plain_any (x : Int) (w : World) : Calls Try.prog 27 #[.int .u8 x] w fun e w' => e = .returned (.bool (!(bad x))) ∧ w = w' := by
  by_cases h33 : x < 33
  · have hd : decide ((33 : Int) ≤ x) = false := decide_eq_false (by omega)
    have HB : Hid (bad x = true) := Lib.hid (by simp [bad, h33])
    go_enter Try.func27, Try.ntmps27
    go_wp2
    go_ret
    exact ⟨by rw [HB.out]; rfl, rfl⟩
  · have hd : decide ((33 : Int) ≤ x) = true := decide_eq_true (by omega)
    by_cases h126 : 126 < x
    · have hd2 : decide (x ≤ (126 : Int)) = false := decide_eq_false (by omega)
      have HB : Hid (bad x = true) := Lib.hid (by simp [bad, h126])
      go_enter Try.func27, Try.ntmps27
      go_wp2
      go_ret
      exact ⟨by rw [HB.out]; rfl, rfl⟩
    · have hd2 : decide (x ≤ (126 : Int)) = true := decide_eq_true (by omega)
      have HB : Hid (bad x = false) := Lib.hid (by simp [bad]; omega)
      go_enter Try.func27, Try.ntmps27
      go_wp2
      go_ret
      exact ⟨by rw [HB.out]; rfl, rfl⟩

theorem str_join (a b : List Int) : strOfNums a ++ strOfNums b = strOfNums (a ++ b) := by
  apply ByteArray.ext
  rw [ByteArray.data_append]
  simp [strOfNums]
theorem str_space (a : List Int) : strOfNums a ++ ⟨#[32]⟩ = strOfNums (a ++ [32]) := by
  rw [← str_join]; rfl
theorem str_size (a : List Int) : (strOfNums a).size = a.length := strOfNums_size a

theorem nums_at (s : ByteArray) (k : Nat) (h : k < s.size) : (nums s)[k]'(by rw [nums_len]; exact h) = (s[k].toNat : Int) := by
  simp [nums]; rfl

theorem joinE_bad {ss : List ByteArray} (h : joinOk ss = false) : jE ss = 5 ∧ jS ss = [] := ⟨by simp [jE, h], by simp [jS, h]⟩
theorem joinOk_bad {ss : List ByteArray} (h : fineW ss = false) : joinOk ss = false := by unfold joinOk; rw [h]; rfl

set_option maxHeartbeats 2000000 in
theorem rjoin_any (A : Option Addr) (c : Nat) (ss : List ByteArray) (w : World) (hA : Strs w.heap.size w A ss) (hm : ss.length ≤ 1000) (hz : szs ss ≤ 1000000) :
    Calls Try.prog 16 #[.slice A ss.length c] w (JoinPost ss w) := by
  have HA := Lib.hid hA
  have HT := Lib.hid (jl_take ss)
  have HTL := Lib.hid (jl_take_len ss)
  clear hA
  go_enter Try.func16, Try.ntmps16
  go_wp2
  go_loop [4, 5] (fun s4 i => ∃ k : Nat, k ≤ ss.length ∧ i = .int .i64 k ∧ s4 = .string (strOfNums (jl (ss.take k))) ∧ (∀ j, j < ss.length → j < k → fw (nums (ss[j]?.getD ⟨#[]⟩)) = none) ∧ (0 < k → over (nums (ss[0]?.getD ⟨#[]⟩)) = false)) (fun s4 i => ss.length - (intOf i).toNat)
  case atStart => exact ⟨0, Nat.zero_le _, rfl, rfl, fun j _ hj => absurd hj (by omega), fun h => absurd h (by omega)⟩
  case round =>
    obtain ⟨k, hk, rfl, rfl, hq, hov⟩ := hrel
    have HQ := Lib.hid hq
    have HV := Lib.hid hov
    clear hq hov
    by_cases hlt : k < ss.length
    · obtain ⟨b, off, rfl, hb, hc⟩ := HA.out (by omega)
      have hck := hc k hlt
      have htk := HT.out k hlt
      have hsz : (ss[k]?.getD ⟨#[]⟩).size ≤ szs ss := by
        rw [List.getElem?_eq_getElem hlt]; exact szs_mem (List.getElem_mem hlt)
      have hl1 := HTL.out k hk
      obtain ⟨s, hs⟩ : ∃ s, ss[k]?.getD ⟨#[]⟩ = s := ⟨_, rfl⟩
      rw [hs] at hck htk hsz
      have HTK := Lib.hid htk
      have HS := Lib.hid hs
      have HC := Lib.hid hc
      clear hc hs htk
      obtain ⟨js, hjs⟩ : ∃ js, jl (ss.take k) = js := ⟨_, rfl⟩
      rw [hjs] at hl1 HTK ⊢
      have HJ := Lib.hid hjs
      clear hjs
      have hsl := str_size js
      obtain ⟨out, hout⟩ : ∃ out, strOfNums js = out := ⟨_, rfl⟩
      rw [hout] at hsl ⊢
      have HO := Lib.hid hout
      have hol : out.size ≤ 1001000 := by omega
      clear hout hsl
      go_wp2
      go_loop [7] (fun i => ∃ k2 : Nat, k2 ≤ s.size ∧ i = .int .i64 k2 ∧ ∀ j (hj : j < (nums s).length), j < k2 → bad (nums s)[j] = false) (fun i => s.size - (intOf i).toNat)
      case atStart => exact ⟨0, Nat.zero_le _, rfl, fun j _ hj => absurd hj (by omega)⟩
      case round =>
        obtain ⟨k2, hk2, rfl, hq2⟩ := hrel
        have HQ2 := Lib.hid hq2
        clear hq2
        by_cases hlt2 : k2 < s.size
        · have hn2 : k2 < (nums s).length := by rw [nums_len]; exact hlt2
          have hb2 := nums_at s k2 hlt2
          cases hbd : bad (nums s)[k2] with
          | true =>
            have HF := Lib.hid (joinE_bad (joinOk_bad (fine_bad hlt (by rw [HS.out]; exact fw_some hn2 hbd HQ2.out))))
            rw [hb2] at hbd
            have HB := Lib.hid hbd
            clear hb2 hbd
            go_wp2_with fail
            refine (plain_any _ _).mono ?_
            rw [HB.out]
            rintro e w1 ⟨rfl, rfl⟩
            go_wp2
            go_ret2
            exact ⟨by rw [HF.out.1, HF.out.2]; rfl, Below.refl _ _⟩
          | false =>
            have HB0 := Lib.hid hbd
            rw [hb2] at hbd
            have HB := Lib.hid hbd
            clear hb2 hbd
            go_wp2_with fail
            refine (plain_any _ _).mono ?_
            rw [HB.out]
            rintro e w1 ⟨rfl, rfl⟩
            go_wp2
            go_roundw
            case rel =>
              refine ⟨k2 + 1, by omega, by go_num, fun j hj hj' => ?_⟩
              by_cases e : j = k2
              · subst e; exact HB0.out
              · exact HQ2.out j hj (by omega)
            case measure => simp [intOf]; omega
        · have hd : decide (k2 < s.size) = false := decide_eq_false hlt2
          by_cases h0 : s.size = 0
          · have e : s = ⟨#[]⟩ := by
              have : nums s = [] := List.eq_nil_of_length_eq_zero (by rw [nums_len]; exact h0)
              rw [← strOf_nums s, this]; rfl
            subst e
            have HF := Lib.hid (joinE_bad (joinOk_bad (fine_bad hlt (by rw [HS.out]; exact fw_nil))))
            clear h0
            go_wp2
            go_ret2
            exact ⟨by rw [HF.out.1, HF.out.2]; rfl, Below.refl _ _⟩
          · have HN : Hid (fw (nums s) = none) := Lib.hid (fw_none (fun e => h0 (by rw [← nums_len, e]; rfl)) (fun x hx => by
              obtain ⟨j, hj, rfl⟩ := List.mem_iff_getElem.1 hx
              exact HQ2.out j hj (by rw [nums_len] at hj; omega)))
            have hs0 : 0 < s.size := by omega
            clear h0
            have hE : s.toList.isEmpty = false := by
              rw [ByteArray.toList_eq]
              cases e : s.data.toList with
              | nil => exact absurd (by rw [← nums_len, nums, e]; rfl) (show s.size ≠ 0 by omega)
              | cons a r => rfl
            by_cases hk0 : k = 0
            · subst hk0
              have hov := over_str s hs0
              cases h35 : ((s[0].toNat : Int) == 35) with
              | true =>
                rw [h35] at hov
                have HF := Lib.hid (joinE_bad (show joinOk ss = false by rw [joinOk_pos hlt, HS.out, hov]; simp))
                clear hov
                go_wp2
                go_ret2
                exact ⟨by rw [HF.out.1, HF.out.2]; rfl, Below.refl _ _⟩
              | false =>
                rw [h35] at hov
                have HOv := Lib.hid hov
                clear hov
                go_wp2
                go_roundw
                case rel =>
                  refine ⟨1, by omega, by go_num, ?_, fun j hj hj' => ?_, fun _ => by rw [HS.out]; exact HOv.out⟩
                  · have e1 : js = [] := by rw [← HJ.out]; simp [jl, joined]
                    rw [HTK.out, if_pos rfl, ← HO.out, e1]
                    have e2 := str_join [] (nums s)
                    rw [strOf_nums] at e2
                    rw [e2]; rfl
                  · obtain rfl : j = 0 := by omega
                    rw [HS.out]; exact HN.out
                case measure => simp [intOf]; omega
            · have hk1 : 0 < k := by omega
              have hk2' : ((k : Int) == 0) = false := beq_eq_false_iff_ne.2 (by omega)
              go_wp2
              go_roundw
              case rel =>
                refine ⟨k + 1, by omega, by go_num, ?_, fun j hj hj' => ?_, fun _ => HV.out hk1⟩
                · rw [HTK.out, if_neg hk0, ← HO.out, str_space]
                  congr 1
                  rw [← strOf_nums s, str_join, nums_strOf _ (nums_octets s)]; simp
                · by_cases e : j = k
                  · subst e; rw [HS.out]; exact HN.out
                  · exact HQ.out j hj (by omega)
              case measure => simp [intOf]; omega
    · have hd : decide (k < ss.length) = false := decide_eq_false hlt
      have hkl : ss.take k = ss := List.take_of_length_le (by omega)
      rw [hkl]
      have HKL := Lib.hid hkl
      have HF := Lib.hid (fine_all (fun j hj => HQ.out j hj (by omega)))
      clear hkl
      by_cases h0 : ss.length = 0
      · have e : ss = [] := List.eq_nil_of_length_eq_zero h0
        subst e
        go_wp2
        go_ret2
        exact ⟨rfl, Below.refl _ _⟩
      · have hok : joinOk ss = true := by rw [joinOk_pos (by omega), HF.out, HV.out (by omega)]; rfl
        have hz0 : ((ss.length : Int) == 0) = false := beq_eq_false_iff_ne.2 (by omega)
        have hsl := str_size (jl ss)
        have hl1 := HTL.out ss.length (Nat.le_refl _)
        rw [List.take_length] at hl1
        obtain ⟨out, hout⟩ : ∃ out, strOfNums (jl ss) = out := ⟨_, rfl⟩
        rw [hout] at hsl ⊢
        have HO := Lib.hid hout
        have HSL := Lib.hid hsl
        have hol : out.size ≤ 1001000 := by omega
        by_cases h65 : 65536 < (jl ss).length
        · have HE : Hid (jE ss = 4 ∧ jS ss = []) := Lib.hid ⟨by simp [jE, hok, h65], by simp [jS, h65]⟩
          have hd6 : decide ((65536 : Int) < (out.size : Int)) = true := decide_eq_true (by omega)
          clear hout hsl hok
          go_wp2
          go_ret2
          exact ⟨by rw [HE.out.1, HE.out.2]; rfl, Below.refl _ _⟩
        · have HE : Hid (jE ss = 0 ∧ jS ss = jl ss) := Lib.hid ⟨by simp [jE, hok, h65], by simp [jS, hok, h65]⟩
          have hd6 : decide ((65536 : Int) < (out.size : Int)) = false := decide_eq_false (by omega)
          clear hout hsl hok
          go_wp2
          go_ret2
          exact ⟨by rw [HE.out.1, HE.out.2, HO.out]; rfl, Below.refl _ _⟩
end Go.Proofs.Ytmmehfpkcheaiaa
