/- The document's answer: form, Get. -/
import Derived.Test.YtbenfdbjpefegaaDoorOpBase
import Derived.Test.YtbenfdbjpefegaaDoorWalkG
namespace Go.Proofs.YtbenfdbjpefegaaDoor
open Go.RowKit
set_option linter.unusedVariables false

/-- Why a text stops being the beginning of a number's there. -/
def Stops (t : List UInt8) (b : Bool) (j : Nat) : Prop :=
  j = t.length ∨ (∃ c, t[j]? = some c ∧ isD c = false) ∨ (1 ≤ j ∧ t[0]? = some 48) ∨ (j = 0 ∧ b = true ∧ t[0]? = some 48)
/-- All ahead of it may be. -/
def Ahead (t : List UInt8) (b : Bool) (j : Nat) : Prop :=
  j ≤ t.length ∧ (∀ m c, m < j → t[m]? = some c → isD c = true) ∧ (t[0]? = some 48 → j ≤ if b then 0 else 1)

theorem dtk_stop (t : List UInt8) (b : Bool) (j : Nat) (ha : Ahead t b j) (hs : Stops t b j) : dtk t b = j := by
  obtain ⟨hj, hd, hz⟩ := ha
  by_cases h48 : t[0]? = some 48
  · obtain ⟨r, e⟩ : ∃ r, t = 48 :: r := by
      cases t with
      | nil => simp at h48
      | cons c r => simp at h48; exact ⟨r, by rw [h48]⟩
    have hz' := hz h48
    have e2 : dtk t b = if b then 0 else 1 := by rw [e]; rfl
    rw [e2]
    cases b with
    | true => simp at hz' ⊢; omega
    | false =>
      simp at hz' ⊢
      rcases hs with h | ⟨c, h1, h2⟩ | ⟨h, _⟩ | ⟨_, h, _⟩
      · have : 1 ≤ t.length := by rw [e]; simp
        omega
      · rcases Nat.eq_zero_or_pos j with h0 | h0
        · rw [h0, h48] at h1; injection h1 with h1; rw [← h1] at h2; exact absurd h2 (by decide)
        · omega
      · omega
      · cases h
  · have e2 : dtk t b = (t.takeWhile isD).length := by
      unfold dtk; split
      · simp at h48
      · rfl
    rw [e2]
    refine takeWhile_len t j hj hd (fun c hc => ?_)
    rcases hs with h | ⟨c', h1, h2⟩ | ⟨_, h⟩ | ⟨_, _, h⟩
    · rw [h, List.getElem?_eq_none (Nat.le_refl _)] at hc; cases hc
    · rw [h1] at hc; injection hc with hc; rw [← hc]; exact h2
    · exact absurd h h48
    · exact absurd h h48

theorem ahead_zero (t : List UInt8) (b : Bool) : Ahead t b 0 := ⟨Nat.zero_le _, fun m c hm => absurd hm (by omega), fun _ => Nat.zero_le _⟩
theorem ahead_step {t : List UInt8} {b : Bool} {j : Nat} {c : UInt8} (h : Ahead t b j) (hc : t[j]? = some c) (hd : isD c = true) (hz : t[0]? = some 48 → j = 0 ∧ b = false) : Ahead t b (j + 1) := by
  have hj : j < t.length := by
    rcases Nat.lt_or_ge j t.length with h' | h'
    · exact h'
    · rw [List.getElem?_eq_none h'] at hc; cases hc
  refine ⟨hj, fun m d hm hd' => ?_, fun h0 => ?_⟩
  · rcases Nat.lt_or_ge m j with h' | h'
    · exact h.2.1 m d h' hd'
    · have e : m = j := by omega
      rw [e, hc] at hd'; injection hd' with hd'; rw [← hd']; exact hd
  · obtain ⟨h1, h2⟩ := hz h0
    rw [h1, h2]; decide

def formB (l : List UInt8) : Bool := decide (¬ (getAt l < l.length ∨ getAt l = sgn l))
def FormPost (l : List UInt8) (w : World) (e : Ending) (w' : World) : Prop := e = .returned (.tuple #[.int .i64 (getAt l), .bool (formB l)]) ∧ w = w'

theorem drop_at (s : ByteArray) (g j : Nat) (h : g + j < s.size) : (s.data.toList.drop g)[j]? = some s[g + j] := by
  rw [List.getElem?_drop]; exact byte_at s (g + j) h

theorem drop_at0 (s : ByteArray) (j : Nat) (h : j < s.size) : (s.data.toList.drop 0)[j]? = some s[j] := by
  rw [List.drop_zero]; exact byte_at s j h

set_option maxHeartbeats 1000000 in
theorem form_sign (s : ByteArray) (w : World) (hs : s.size ≤ maxLen) (h : 0 < s.size) (h45 : s[0].toNat = 45) :
    Calls Tryd.prog 68 #[.string s] w (FormPost s.data.toList w) := by
  unfold maxLen at hs
  have hl := bytes_len s
  have hsg := sgn_yes s h h45
  have hb : ((s[0].toNat : Int) == 45) = true := by rw [h45]; rfl
  have HP : Hid (∀ j, Ahead (s.data.toList.drop 1) true j → Stops (s.data.toList.drop 1) true j → getAt s.data.toList = 1 + j) := by
    show ∀ j, _
    intro j h1 h2
    unfold getAt; rw [hsg, show decide (0 < 1) = true from rfl, dtk_stop _ _ _ h1 h2]
  have HG := Lib.hid hsg
  have HL := Lib.hid hl
  clear h45 hsg hl
  go_enter Tryd.func68, Tryd.ntmps68
  go_wp2
  go_loop [4] (fun i => ∃ j : Nat, 1 + j ≤ s.size ∧ i = .int .i64 ((1 + j : Nat) : Int) ∧ Ahead (s.data.toList.drop 1) true j) (fun i => s.size - (intOf i).toNat)
  case atStart => exact ⟨0, by omega, rfl, ahead_zero _ _⟩
  case round =>
    obtain ⟨j, hj, rfl, ha⟩ := hrel
    have HA := Lib.hid ha
    clear ha
    by_cases hlt : 1 + j < s.size
    · have HD := Lib.hid (drop_at s 1 j hlt)
      have HNo : Hid (getAt s.data.toList = 1 + j → formB s.data.toList = false) := by
        show _ → _
        intro h'; unfold formB; rw [h', HL.out]; exact decide_eq_false (fun h => h (.inl hlt))
      by_cases h1 : s[1 + j].toNat < 48
      · have HQ := Lib.hid (HP.out j HA.out (.inr (.inl ⟨_, HD.out, isD_not (.inl h1)⟩)))
        go_wp2
        go_ret2
        exact ⟨by rw [HQ.out, HNo.out HQ.out]; rfl, rfl⟩
      · by_cases h2 : 57 < s[1 + j].toNat
        · have HQ := Lib.hid (HP.out j HA.out (.inr (.inl ⟨_, HD.out, isD_not (.inr h2)⟩)))
          go_wp2
          go_ret2
          exact ⟨by rw [HQ.out, HNo.out HQ.out]; rfl, rfl⟩
        · have HI := Lib.hid (isD_of (c := s[1 + j]) (by omega) (by omega))
          by_cases h0 : j = 0
          · subst h0
            have h1' : ¬ s[1].toNat < 48 := h1
            have h2' : ¬ 57 < s[1].toNat := h2
            clear h1 h2
            by_cases h48 : s[1].toNat = 48
            · have k48 : ((s[1].toNat : Int) == 48) = true := by rw [h48]; rfl
              have e48 : s[1] = 48 := UInt8.toNat_inj.1 (by simpa using h48)
              have HQ := Lib.hid (HP.out 0 HA.out (.inr (.inr (.inr ⟨rfl, rfl, by rw [HD.out]; exact congrArg some e48⟩))))
              clear h48 e48
              go_wp2
              go_ret2
              exact ⟨by rw [HQ.out, HNo.out HQ.out]; rfl, rfl⟩
            · have k48 : ((s[1].toNat : Int) == 48) = false := by simp; omega
              have HZ := Lib.hid (ahead_step HA.out HD.out HI.out (fun h => by rw [HD.out] at h; injection h with h; exact absurd (congrArg UInt8.toNat h) h48))
              clear h48
              go_wp2
              go_round
              case rel => exact ⟨1, by omega, rfl, HZ.out⟩
              case measure => simp [intOf]; omega
          · have hj0 : 0 < j := by omega
            have HD0 := Lib.hid (drop_at s 1 0 (by omega))
            by_cases h48 : s[1].toNat = 48
            · have k48 : ((s[1].toNat : Int) == 48) = true := by rw [h48]; rfl
              have e48 : s[1] = 48 := UInt8.toNat_inj.1 (by simpa using h48)
              have HQ := Lib.hid (HP.out j HA.out (.inr (.inr (.inl ⟨hj0, by rw [HD0.out]; exact congrArg some e48⟩))))
              clear h48 e48
              go_wp2
              go_ret2
              exact ⟨by rw [HQ.out, HNo.out HQ.out]; rfl, rfl⟩
            · have k48 : ((s[1].toNat : Int) == 48) = false := by simp; omega
              have HZ := Lib.hid (ahead_step HA.out HD.out HI.out (fun h => by rw [HD0.out] at h; injection h with h; exact absurd (congrArg UInt8.toNat h) h48))
              have kj : (((1 + j : Nat) : Int) == 1) = false := beq_eq_false_iff_ne.2 (by omega)
              clear h48
              go_wp2
              go_round
              case rel => exact ⟨j + 1, by omega, by go_num, HZ.out⟩
              case measure => simp [intOf]; omega
    · have HQ := Lib.hid (HP.out j HA.out (.inl (by rw [List.length_drop, HL.out]; omega)))
      have HY : Hid (formB s.data.toList = decide ((1 : Int) < 1 + (j : Int))) := by
        show _ = _
        unfold formB; rw [HQ.out, HL.out, HG.out]; apply decide_eq_decide.2; omega
      go_wp2
      go_ret2
      exact ⟨by rw [HQ.out, HY.out]; rfl, rfl⟩

set_option maxHeartbeats 1000000 in
theorem form_plain (s : ByteArray) (w : World) (hs : s.size ≤ maxLen) (h : 0 < s.size) (h45 : s[0].toNat ≠ 45) :
    Calls Tryd.prog 68 #[.string s] w (FormPost s.data.toList w) := by
  unfold maxLen at hs
  have hl := bytes_len s
  have hsg := sgn_no s h h45
  have hb : ((s[0].toNat : Int) == 45) = false := by simp; omega
  have HP : Hid (∀ j, Ahead (s.data.toList.drop 0) false j → Stops (s.data.toList.drop 0) false j → getAt s.data.toList = j) := by
    show ∀ j, _
    intro j h1 h2
    unfold getAt; rw [hsg, show decide (0 < 0) = false from rfl, dtk_stop _ _ _ h1 h2, Nat.zero_add]
  have HG := Lib.hid hsg
  have HL := Lib.hid hl
  clear h45 hsg hl
  go_enter Tryd.func68, Tryd.ntmps68
  go_wp2
  go_loop [4] (fun i => ∃ j : Nat, j ≤ s.size ∧ i = .int .i64 (j : Int) ∧ Ahead (s.data.toList.drop 0) false j) (fun i => s.size - (intOf i).toNat)
  case atStart => exact ⟨0, by omega, rfl, ahead_zero _ _⟩
  case round =>
    obtain ⟨j, hj, rfl, ha⟩ := hrel
    have HA := Lib.hid ha
    clear ha
    by_cases hlt : j < s.size
    · have HD := Lib.hid (drop_at0 s j hlt)
      have HNo : Hid (getAt s.data.toList = j → formB s.data.toList = false) := by
        show _ → _
        intro h'; unfold formB; rw [h', HL.out]; exact decide_eq_false (fun h => h (.inl hlt))
      by_cases h1 : s[j].toNat < 48
      · have HQ := Lib.hid (HP.out j HA.out (.inr (.inl ⟨_, HD.out, isD_not (.inl h1)⟩)))
        go_wp2
        go_ret2
        exact ⟨by rw [HQ.out, HNo.out HQ.out]; rfl, rfl⟩
      · by_cases h2 : 57 < s[j].toNat
        · have HQ := Lib.hid (HP.out j HA.out (.inr (.inl ⟨_, HD.out, isD_not (.inr h2)⟩)))
          go_wp2
          go_ret2
          exact ⟨by rw [HQ.out, HNo.out HQ.out]; rfl, rfl⟩
        · have HI := Lib.hid (isD_of (c := s[j]) (by omega) (by omega))
          by_cases h0 : j = 0
          · subst h0
            have HZ := Lib.hid (ahead_step HA.out HD.out HI.out (fun h => ⟨rfl, rfl⟩))
            go_wp2
            go_round
            case rel => exact ⟨1, by omega, rfl, HZ.out⟩
            case measure => simp [intOf]; omega
          · have hj0 : 0 < j := by omega
            have HD0 := Lib.hid (drop_at0 s 0 (by omega))
            by_cases h48 : s[0].toNat = 48
            · have k48 : ((s[0].toNat : Int) == 48) = true := by rw [h48]; rfl
              have e48 : s[0] = 48 := UInt8.toNat_inj.1 (by simpa using h48)
              have HQ := Lib.hid (HP.out j HA.out (.inr (.inr (.inl ⟨hj0, by rw [HD0.out]; exact congrArg some e48⟩))))
              clear h48 e48
              go_wp2
              go_ret2
              exact ⟨by rw [HQ.out, HNo.out HQ.out]; rfl, rfl⟩
            · have k48 : ((s[0].toNat : Int) == 48) = false := by simp; omega
              have HZ := Lib.hid (ahead_step HA.out HD.out HI.out (fun h => by rw [HD0.out] at h; injection h with h; exact absurd (congrArg UInt8.toNat h) h48))
              have kj : (((j : Nat) : Int) == 0) = false := beq_eq_false_iff_ne.2 (by omega)
              clear h48
              go_wp2
              go_round
              case rel => exact ⟨j + 1, by omega, by go_num, HZ.out⟩
              case measure => simp [intOf]; omega
    · have HQ := Lib.hid (HP.out j HA.out (.inl (by rw [List.length_drop, HL.out]; omega)))
      have HY : Hid (formB s.data.toList = decide (0 < j)) := by
        show _ = _
        unfold formB; rw [HQ.out, HL.out, HG.out]; apply decide_eq_decide.2; omega
      go_wp2
      go_ret2
      exact ⟨by rw [HQ.out, HY.out]; rfl, rfl⟩

set_option maxHeartbeats 1000000 in
theorem form_empty (s : ByteArray) (w : World) (h : s.size = 0) :
    Calls Tryd.prog 68 #[.string s] w (FormPost s.data.toList w) := by
  have hl := bytes_len s
  have hnil : s.data.toList = [] := List.eq_nil_of_length_eq_zero (by omega)
  have hk : decide (0 < s.size) = false := decide_eq_false (by omega)
  have hle : s.size ≤ 0 := by omega
  rw [hnil]
  clear hl hnil h
  go_enter Tryd.func68, Tryd.ntmps68
  go_wp2
  go_loop [4] (fun i => i = .int .i64 0) (fun i => 0)
  case atStart => rfl
  case round =>
    obtain rfl := hrel
    go_wp2
    go_ret2
    exact ⟨rfl, rfl⟩

theorem form_any (s : ByteArray) (w : World) (hs : s.size ≤ maxLen) :
    Calls Tryd.prog 68 #[.string s] w (FormPost s.data.toList w) := by
  by_cases h : 0 < s.size
  · by_cases h45 : s[0].toNat = 45
    · exact form_sign s w hs h h45
    · exact form_plain s w hs h h45
  · exact form_empty s w (by omega)
end Go.Proofs.YtbenfdbjpefegaaDoor
