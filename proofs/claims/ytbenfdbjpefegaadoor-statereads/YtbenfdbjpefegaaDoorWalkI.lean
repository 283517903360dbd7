/- The document's answer: Get. -/
import Derived.Test.YtbenfdbjpefegaaDoorOpBase
import Derived.Test.YtbenfdbjpefegaaDoorWalkH
namespace Go.Proofs.YtbenfdbjpefegaaDoor
open Go.RowKit
set_option linter.unusedVariables false

theorem val_drop_take (s : ByteArray) (g k : Nat) (hg : g ≤ k) (h : k < s.size) : val ((s.data.toList.drop g).take (k + 1 - g)) = val ((s.data.toList.drop g).take (k - g)) * 10 + (s[k].toNat - 48) := by
  have hlen : k - g < (s.data.toList.drop g).length := by rw [List.length_drop, bytes_len]; omega
  rw [show k + 1 - g = (k - g) + 1 by omega, List.take_succ_eq_append_getElem hlen, val_snoc]
  have e : (s.data.toList.drop g)[k - g] = s[k] := by
    have := drop_at s g (k - g) (by omega)
    rw [List.getElem?_eq_getElem hlen] at this
    injection this with this
    rw [this]; congr 1; omega
  rw [e]

/-- Where all of a text behind the sign is digits. -/
theorem form_digits (s : ByteArray) (h : formB s.data.toList = true) : (∀ k (hk : k < s.size), sgn s.data.toList ≤ k → isD s[k] = true) ∧ 0 < s.size ∧ ¬ (getAt s.data.toList < s.data.toList.length ∨ getAt s.data.toList = sgn s.data.toList) := by
  have h' : ¬ (getAt s.data.toList < s.data.toList.length ∨ getAt s.data.toList = sgn s.data.toList) := of_decide_eq_true h
  have hl := bytes_len s
  have hle := dtk_le (s.data.toList.drop (sgn s.data.toList)) (decide (0 < sgn s.data.toList))
  rw [List.length_drop] at hle
  have hs := sgn_le s.data.toList
  have hat : getAt s.data.toList = sgn s.data.toList + dtk (s.data.toList.drop (sgn s.data.toList)) (decide (0 < sgn s.data.toList)) := rfl
  have hall := dtk_all (s.data.toList.drop (sgn s.data.toList)) (decide (0 < sgn s.data.toList)) (by rw [List.length_drop]; omega)
  refine ⟨fun k hk hg => hall _ ?_, by omega, h'⟩
  have := drop_at s (sgn s.data.toList) (k - sgn s.data.toList) (by omega)
  have e : s[sgn s.data.toList + (k - sgn s.data.toList)] = s[k] := by congr 1; omega
  rw [e] at this
  exact List.mem_of_getElem? this

set_option maxHeartbeats 1000000 in
theorem rget_sign (s : ByteArray) (w : World) (h20 : s.size ≤ 20) (h0 : 0 < s.size) (h45 : s[0].toNat = 45) (hF : formB s.data.toList = true) :
    Calls Tryd.prog 57 #[.string s] w (GetPost s.data.toList w) := by
  have hsg := sgn_yes s h0 h45
  obtain ⟨hd, _, hnot⟩ := form_digits s hF
  rw [hsg] at hd
  have hb : ((s[0].toNat : Int) == 45) = true := by rw [h45]; rfl
  have hl := bytes_len s
  have hG := get_num s.data.toList (by omega) hnot
  rw [hsg, show decide (0 < 1) = true from rfl] at hG
  have HG := Lib.hid hG
  have HD := Lib.hid hd
  have HFo := Lib.hid (fun W => form_any s W (by unfold maxLen; omega))
  unfold FormPost at HFo
  rw [hF] at HFo
  have HL := Lib.hid hl
  clear hG hd hF hnot hsg h45 hl
  go_enter Tryd.func57, Tryd.ntmps57
  go_wp2_with fail
  refine (HFo.out _).mono ?_
  rintro e w1 ⟨rfl, rfl⟩
  go_wp2
  go_loop [6, 7] (fun m i => ∃ k : Nat, k ≤ s.size ∧ i = .int .i64 k ∧ m = .int .u64 (val ((s.data.toList.drop 1).take (k - 1)) : Nat) ∧ val ((s.data.toList.drop 1).take (k - 1)) ≤ 18446744073709551615) (fun m i => s.size - (intOf i).toNat)
  case atStart => exact ⟨0, Nat.zero_le _, rfl, rfl, val_none _ _⟩
  case round =>
    obtain ⟨k, hk, rfl, rfl, hle⟩ := hrel
    by_cases hlt : k < s.size
    · by_cases hk0 : k = 0
      · subst hk0
        go_wp2
        go_round
        case rel => exact ⟨1, by omega, rfl, rfl, val_none _ _⟩
        case measure => simp [intOf]; omega
      · obtain ⟨d1, d2⟩ := isD_iff (HD.out k hlt (by omega))
        have HV := Lib.hid (val_drop_take s 1 k (by omega) hlt)
        generalize hm : val ((s.data.toList.drop 1).take (k - 1)) = m at *
        have HM := Lib.hid hm
        clear hm
        have k45 : ((s[k].toNat : Int) == 45) = false := by simp; omega
        by_cases hover : m * 10 + (s[k].toNat - 48) ≤ 18446744073709551615
        · go_wp2
          go_round
          case rel => exact ⟨k + 1, by omega, by go_num, by rw [HV.out]; go_num, by rw [HV.out]; exact hover⟩
          case measure => simp [intOf]; omega
        · have HN := Lib.hid (signN_no (s.data.toList.drop 1) true (by have := val_take_le (s.data.toList.drop 1) (k + 1 - 1); rw [HV.out] at this; rw [most_true]; omega))
          go_wp2
          exact bodyPost_ret (v := .tuple #[.int .i64 0, .agg #[.int .i64 3, .int .i64 0]]) (by simp [results, Tryd.results57, go_sem]) rfl ⟨by rw [HG.out.1, HG.out.2.1, HG.out.2.2, HN.out.1, HN.out.2]; rfl, (Below.refl _ _).alloc (Nat.le_refl _) _⟩
    · have hkl : (s.data.toList.drop 1).take (k - 1) = s.data.toList.drop 1 := List.take_of_length_le (by rw [List.length_drop, HL.out]; omega)
      rw [hkl] at hle ⊢
      have HNo := Lib.hid (signN_no (s.data.toList.drop 1) true)
      have HYe := Lib.hid (signN_ok (s.data.toList.drop 1) true)
      rw [most_true] at HNo HYe
      clear hkl
      generalize val (s.data.toList.drop 1) = m at *
      by_cases hm : m ≤ 9223372036854775808
      · have HW := Lib.hid (neg_back m (by omega))
        have HY := Lib.hid (HYe.out hm)
        go_wp2
        exact bodyPost_ret (v := .tuple #[.int .i64 (-(m : Int)), .agg #[.int .i64 0, .int .i64 0]]) (by simp [results, Tryd.results57, go_sem, HW.out]) rfl ⟨by rw [HG.out.1, HG.out.2.1, HG.out.2.2, HY.out.1, HY.out.2]; rfl, (Below.refl _ _).alloc (Nat.le_refl _) _⟩
      · have HY := Lib.hid (HNo.out (by omega))
        go_wp2
        exact bodyPost_ret (v := .tuple #[.int .i64 0, .agg #[.int .i64 3, .int .i64 0]]) (by simp [results, Tryd.results57, go_sem]) rfl ⟨by rw [HG.out.1, HG.out.2.1, HG.out.2.2, HY.out.1, HY.out.2]; rfl, (Below.refl _ _).alloc (Nat.le_refl _) _⟩

set_option maxHeartbeats 1000000 in
theorem rget_plain (s : ByteArray) (w : World) (h20 : s.size ≤ 20) (h0 : 0 < s.size) (h45 : s[0].toNat ≠ 45) (hF : formB s.data.toList = true) :
    Calls Tryd.prog 57 #[.string s] w (GetPost s.data.toList w) := by
  have hsg := sgn_no s h0 h45
  obtain ⟨hd, _, hnot⟩ := form_digits s hF
  rw [hsg] at hd
  have hb : ((s[0].toNat : Int) == 45) = false := by simp; omega
  have hl := bytes_len s
  have hG := get_num s.data.toList (by omega) hnot
  rw [hsg, show decide (0 < 0) = false from rfl] at hG
  have HG := Lib.hid hG
  have HD := Lib.hid hd
  have HFo := Lib.hid (fun W => form_any s W (by unfold maxLen; omega))
  unfold FormPost at HFo
  rw [hF] at HFo
  have HL := Lib.hid hl
  clear hG hd hF hnot hsg h45 hl
  go_enter Tryd.func57, Tryd.ntmps57
  go_wp2_with fail
  refine (HFo.out _).mono ?_
  rintro e w1 ⟨rfl, rfl⟩
  go_wp2
  go_loop [6, 7] (fun m i => ∃ k : Nat, k ≤ s.size ∧ i = .int .i64 k ∧ m = .int .u64 (val ((s.data.toList.drop 0).take (k - 0)) : Nat) ∧ val ((s.data.toList.drop 0).take (k - 0)) ≤ 18446744073709551615) (fun m i => s.size - (intOf i).toNat)
  case atStart => exact ⟨0, Nat.zero_le _, rfl, rfl, val_none _ _⟩
  case round =>
    obtain ⟨k, hk, rfl, rfl, hle⟩ := hrel
    by_cases hlt : k < s.size
    · obtain ⟨d1, d2⟩ := isD_iff (HD.out k hlt (by omega))
      have HV := Lib.hid (val_drop_take s 0 k (by omega) hlt)
      generalize hm : val ((s.data.toList.drop 0).take (k - 0)) = m at *
      have HM := Lib.hid hm
      clear hm
      have k45 : ((s[k].toNat : Int) == 45) = false := by simp; omega
      by_cases hover : m * 10 + (s[k].toNat - 48) ≤ 18446744073709551615
      · go_wp2
        go_round
        case rel => exact ⟨k + 1, by omega, by go_num, by rw [HV.out]; go_num, by rw [HV.out]; exact hover⟩
        case measure => simp [intOf]; omega
      · have HN := Lib.hid (signN_no (s.data.toList.drop 0) false (by have := val_take_le (s.data.toList.drop 0) (k + 1 - 0); rw [HV.out] at this; rw [most_false]; omega))
        go_wp2
        exact bodyPost_ret (v := .tuple #[.int .i64 0, .agg #[.int .i64 3, .int .i64 0]]) (by simp [results, Tryd.results57, go_sem]) rfl ⟨by rw [HG.out.1, HG.out.2.1, HG.out.2.2, HN.out.1, HN.out.2]; rfl, (Below.refl _ _).alloc (Nat.le_refl _) _⟩
    · have hkl : (s.data.toList.drop 0).take (k - 0) = s.data.toList.drop 0 := List.take_of_length_le (by rw [List.length_drop, HL.out]; omega)
      rw [hkl] at hle ⊢
      have HNo := Lib.hid (signN_no (s.data.toList.drop 0) false)
      have HYe := Lib.hid (signN_ok (s.data.toList.drop 0) false)
      rw [most_false] at HNo HYe
      clear hkl
      generalize val (s.data.toList.drop 0) = m at *
      by_cases hm : m ≤ 9223372036854775807
      · have HW := Lib.hid (neg_back m (by omega))
        have HY := Lib.hid (HYe.out hm)
        go_wp2
        exact bodyPost_ret (v := .tuple #[.int .i64 (m : Int), .agg #[.int .i64 0, .int .i64 0]]) (by simp [results, Tryd.results57, go_sem]) rfl ⟨by rw [HG.out.1, HG.out.2.1, HG.out.2.2, HY.out.1, HY.out.2]; rfl, (Below.refl _ _).alloc (Nat.le_refl _) _⟩
      · have HY := Lib.hid (HNo.out (by omega))
        go_wp2
        exact bodyPost_ret (v := .tuple #[.int .i64 0, .agg #[.int .i64 3, .int .i64 0]]) (by simp [results, Tryd.results57, go_sem]) rfl ⟨by rw [HG.out.1, HG.out.2.1, HG.out.2.2, HY.out.1, HY.out.2]; rfl, (Below.refl _ _).alloc (Nat.le_refl _) _⟩

set_option maxHeartbeats 1000000 in
theorem rget_long (s : ByteArray) (w : World) (hs : s.size ≤ maxLen) (h20 : 20 < s.size) :
    Calls Tryd.prog 57 #[.string s] w (GetPost s.data.toList w) := by
  unfold maxLen at hs
  have hl := bytes_len s
  have H := Lib.hid (get_long s.data.toList (by omega))
  clear hl
  go_enter Tryd.func57, Tryd.ntmps57
  go_wp2
  exact bodyPost_ret (v := .tuple #[.int .i64 0, .agg #[.int .i64 4, .int .i64 20]]) (by simp [results, Tryd.results57, go_sem]) rfl ⟨by rw [H.out.1, H.out.2.1, H.out.2.2], (Below.refl _ _).alloc (Nat.le_refl _) _⟩

set_option maxHeartbeats 1000000 in
theorem rget_form (s : ByteArray) (w : World) (h20 : s.size ≤ 20) (hF : formB s.data.toList = false) :
    Calls Tryd.prog 57 #[.string s] w (GetPost s.data.toList w) := by
  have hl := bytes_len s
  have h' : getAt s.data.toList < s.data.toList.length ∨ getAt s.data.toList = sgn s.data.toList := by
    have := of_decide_eq_false hF
    exact Decidable.not_not.1 this
  have H := Lib.hid (get_form s.data.toList (by omega) h')
  have HFo := Lib.hid (fun W => form_any s W (by unfold maxLen; omega))
  unfold FormPost at HFo
  rw [hF] at HFo
  clear hF h' hl
  generalize getAt s.data.toList = a at *
  go_enter Tryd.func57, Tryd.ntmps57
  go_wp2_with fail
  refine (HFo.out _).mono ?_
  rintro e w1 ⟨rfl, rfl⟩
  go_wp2
  exact bodyPost_ret (v := .tuple #[.int .i64 0, .agg #[.int .i64 5, .int .i64 a]]) (by simp [results, Tryd.results57, go_sem]) rfl ⟨by rw [H.out.1, H.out.2.1, H.out.2.2], (Below.refl _ _).alloc (Nat.le_refl _) _⟩

theorem rget_any (s : ByteArray) (w : World) (hs : s.size ≤ maxLen) :
    Calls Tryd.prog 57 #[.string s] w (GetPost s.data.toList w) := by
  by_cases h20 : 20 < s.size
  · exact rget_long s w hs h20
  · cases hF : formB s.data.toList with
    | false => exact rget_form s w (by omega) hF
    | true =>
      have h0 := (form_digits s hF).2.1
      by_cases h45 : s[0].toNat = 45
      · exact rget_sign s w (by omega) h0 h45 hF
      · exact rget_plain s w (by omega) h0 h45 hF
end Go.Proofs.YtbenfdbjpefegaaDoor
