/- Contracts of the layer number: Get. -/
import Derived.Test.YtbenfdbjpefegaaDoorOpBase
import Derived.Test.YtbenfdbjpefegaaDoorWalkA
namespace Go.Proofs.YtbenfdbjpefegaaDoor
open Go.RowKit
set_option linter.unusedVariables false

set_option maxHeartbeats 400000 in
theorem signs_any (s : ByteArray) (w : World) (hs : s.size ≤ maxLen) :
    Calls Tryd.prog 74 #[.string s] w fun e w' => e = .returned (.int .i64 (sgn s.data.toList)) ∧ w = w' := by
  unfold maxLen at hs
  by_cases h : 0 < s.size
  · by_cases h45 : s[0].toNat = 45
    · have H := Lib.hid (sgn_yes s h h45)
      have hb : ((s[0].toNat : Int) == 45) = true := by rw [h45]; rfl
      clear h45
      go_enter Tryd.func74, Tryd.ntmps74
      go_wp2
      go_ret
      exact ⟨ret_int (by rw [H.out]; rfl), rfl⟩
    · have H := Lib.hid (sgn_no s h h45)
      have hb : ((s[0].toNat : Int) == 45) = false := by simp; omega
      clear h45
      go_enter Tryd.func74, Tryd.ntmps74
      go_wp2
      go_ret
      exact ⟨ret_int (by rw [H.out]; rfl), rfl⟩
  · have H := Lib.hid (sgn_nil s (by omega))
    have hb : decide (0 < s.size) = false := by simpa using h
    clear h
    go_enter Tryd.func74, Tryd.ntmps74
    go_wp2
    go_ret
    exact ⟨ret_int (by rw [H.out]; rfl), rfl⟩

set_option maxHeartbeats 1000000 in
theorem taken_any (s : ByteArray) (b : Bool) (w : World) (hs : s.size ≤ maxLen) :
    Calls Tryd.prog 75 #[.string s, .bool b] w fun e w' => e = .returned (.int .i64 (dtk s.data.toList b)) ∧ w = w' := by
  unfold maxLen at hs
  by_cases hz : 0 < s.size ∧ s[0]!.toNat = 48
  · obtain ⟨h, h48⟩ := hz
    have h48' : s[0].toNat = 48 := by rw [getElem!_pos s 0 h] at h48; exact h48
    have H := Lib.hid (dtk_zero s b h h48')
    have hb : ((s[0].toNat : Int) == 48) = true := by rw [h48']; rfl
    clear h48 h48'
    cases b
    all_goals
      go_enter Tryd.func75, Tryd.ntmps75
      go_wp2
      go_ret
      exact ⟨ret_int (by rw [H.out]; rfl), rfl⟩
  · have H := Lib.hid (dtk_else s b (fun h => fun e => hz ⟨h, e⟩))
    by_cases h : 0 < s.size
    · have h48 : s[0].toNat ≠ 48 := by
        intro e; exact hz ⟨h, by rw [getElem!_pos s 0 h]; exact e⟩
      have hb : ((s[0].toNat : Int) == 48) = false := by simp; omega
      clear hz h48
      go_enter Tryd.func75, Tryd.ntmps75
      go_wp2
      go_loop [17] (fun i => ∃ k : Nat, k ≤ s.size ∧ i = .int .i64 k ∧ ∀ j c, j < k → s.data.toList[j]? = some c → isD c = true) (fun i => s.size - (intOf i).toNat)
      case atStart => exact ⟨0, Nat.zero_le _, rfl, fun j c hj => absurd hj (by omega)⟩
      case round =>
        obtain ⟨k, hk, rfl, hd⟩ := hrel
        have HD := Lib.hid hd
        clear hd
        by_cases hlt : k < s.size
        · have hat := Lib.hid (byte_at s k hlt)
          by_cases h1 : s[k].toNat < 48
          · have HL := Lib.hid (takeWhile_len s.data.toList k (by rw [bytes_len]; exact hk) HD.out (fun c hc => by rw [hat.out] at hc; injection hc with hc; rw [← hc]; exact isD_not (.inl h1)))
            go_wp2
            go_ret
            exact ⟨ret_int (by rw [H.out, HL.out]), rfl⟩
          · by_cases h2 : 57 < s[k].toNat
            · have HL := Lib.hid (takeWhile_len s.data.toList k (by rw [bytes_len]; exact hk) HD.out (fun c hc => by rw [hat.out] at hc; injection hc with hc; rw [← hc]; exact isD_not (.inr h2)))
              go_wp2
              go_ret
              exact ⟨ret_int (by rw [H.out, HL.out]), rfl⟩
            · have hdk : isD s[k] = true := isD_of (by omega) (by omega)
              have HK := Lib.hid hdk
              clear hdk
              go_wp2
              go_round
              case rel => exact ⟨k + 1, by omega, by go_num, fun j c hj hc => by
                rcases Nat.lt_or_ge j k with h' | h'
                · exact HD.out j c h' hc
                · have e : j = k := by omega
                  rw [e, hat.out] at hc; injection hc with hc; rw [← hc]; exact HK.out⟩
              case measure => simp [intOf]; omega
        · have HL := Lib.hid (takeWhile_len s.data.toList k (by rw [bytes_len]; exact hk) HD.out (fun c hc => by rw [List.getElem?_eq_none (by rw [bytes_len]; omega)] at hc; cases hc))
          go_wp2
          go_ret
          exact ⟨ret_int (by rw [H.out, HL.out]; omega), rfl⟩
    · have hb : decide (0 < s.size) = false := by simpa using h
      clear hz
      go_enter Tryd.func75, Tryd.ntmps75
      go_wp2
      go_loop [17] (fun i => ∃ k : Nat, k ≤ s.size ∧ i = .int .i64 k ∧ ∀ j c, j < k → s.data.toList[j]? = some c → isD c = true) (fun i => s.size - (intOf i).toNat)
      case atStart => exact ⟨0, Nat.zero_le _, rfl, fun j c hj => absurd hj (by omega)⟩
      case round =>
        obtain ⟨k, hk, rfl, hd⟩ := hrel
        have HD := Lib.hid hd
        clear hd
        by_cases hlt : k < s.size
        · exact absurd hlt (by omega)
        · have HL := Lib.hid (takeWhile_len s.data.toList k (by rw [bytes_len]; exact hk) HD.out (fun c hc => by rw [List.getElem?_eq_none (by rw [bytes_len]; omega)] at hc; cases hc))
          go_wp2
          go_ret
          exact ⟨ret_int (by rw [H.out, HL.out]; omega), rfl⟩

set_option maxHeartbeats 1000000 in
theorem signed_any (s : ByteArray) (b : Bool) (w : World) (hs : s.size ≤ maxLen) (hd : ∀ (k : Nat) (h : k < s.size), isD s[k] = true) :
    Calls Tryd.prog 76 #[.string s, .bool b] w fun e w' => e = .returned (.tuple #[.int .i64 (signN s.data.toList b), .bool (signB s.data.toList b)]) ∧ w = w' := by
  unfold maxLen at hs
  have HD := Lib.hid hd
  clear hd
  cases b
  · go_enter Tryd.func76, Tryd.ntmps76
    go_wp2
    go_loop [7, 13] (fun m i => ∃ k : Nat, k ≤ s.size ∧ i = .int .i64 k ∧ m = .int .u64 (val (s.data.toList.take k) : Nat) ∧ val (s.data.toList.take k) ≤ 9223372036854775807) (fun m i => s.size - (intOf i).toNat)
    case atStart => exact ⟨0, Nat.zero_le _, rfl, rfl, val_none _ _⟩
    case round =>
      obtain ⟨k, hk, rfl, rfl, hle⟩ := hrel
      by_cases hlt : k < s.size
      · obtain ⟨d1, d2⟩ := isD_iff (HD.out k hlt)
        have HV := Lib.hid (val_take s k hlt)
        generalize hm : val (s.data.toList.take k) = m at *
        have HM := Lib.hid hm
        clear hm
        by_cases hover : m * 10 + (s[k].toNat - 48) ≤ 9223372036854775807
        · go_wp2
          go_round
          case rel => exact ⟨k + 1, by omega, by go_num, by rw [HV.out]; go_num, by rw [HV.out]; exact hover⟩
          case measure => simp [intOf]; omega
        · have HN := Lib.hid (signN_no s.data.toList false (by have := val_take_le s.data.toList (k + 1); rw [HV.out] at this; rw [most_false]; omega))
          go_wp2
          go_ret2
          exact ⟨by rw [HN.out.1, HN.out.2]; rfl, rfl⟩
      · have hkl : s.data.toList.take k = s.data.toList := List.take_of_length_le (by rw [bytes_len]; omega)
        rw [hkl] at hle ⊢
        have HN := Lib.hid (signN_ok s.data.toList false (by rw [most_false]; omega))
        clear hkl
        generalize val s.data.toList = m at *
        have HW := Lib.hid (neg_back m (by omega))
        go_wp2
        go_ret2
        exact ⟨by rw [HN.out.1, HN.out.2]; rfl, rfl⟩
  · go_enter Tryd.func76, Tryd.ntmps76
    go_wp2
    go_loop [7, 13] (fun m i => ∃ k : Nat, k ≤ s.size ∧ i = .int .i64 k ∧ m = .int .u64 (val (s.data.toList.take k) : Nat) ∧ val (s.data.toList.take k) ≤ 9223372036854775808) (fun m i => s.size - (intOf i).toNat)
    case atStart => exact ⟨0, Nat.zero_le _, rfl, rfl, val_none _ _⟩
    case round =>
      obtain ⟨k, hk, rfl, rfl, hle⟩ := hrel
      by_cases hlt : k < s.size
      · obtain ⟨d1, d2⟩ := isD_iff (HD.out k hlt)
        have HV := Lib.hid (val_take s k hlt)
        generalize hm : val (s.data.toList.take k) = m at *
        have HM := Lib.hid hm
        clear hm
        by_cases hover : m * 10 + (s[k].toNat - 48) ≤ 9223372036854775808
        · go_wp2
          go_round
          case rel => exact ⟨k + 1, by omega, by go_num, by rw [HV.out]; go_num, by rw [HV.out]; exact hover⟩
          case measure => simp [intOf]; omega
        · have HN := Lib.hid (signN_no s.data.toList true (by have := val_take_le s.data.toList (k + 1); rw [HV.out] at this; rw [most_true]; omega))
          go_wp2
          go_ret2
          exact ⟨by rw [HN.out.1, HN.out.2]; rfl, rfl⟩
      · have hkl : s.data.toList.take k = s.data.toList := List.take_of_length_le (by rw [bytes_len]; omega)
        rw [hkl] at hle ⊢
        have HN := Lib.hid (signN_ok s.data.toList true (by rw [most_true]; omega))
        clear hkl
        generalize val s.data.toList = m at *
        have HW := Lib.hid (neg_back m (by omega))
        go_wp2
        go_ret2
        exact ⟨by rw [HN.out.1, HN.out.2]; simp [HW.out], rfl⟩
end Go.Proofs.YtbenfdbjpefegaaDoor
