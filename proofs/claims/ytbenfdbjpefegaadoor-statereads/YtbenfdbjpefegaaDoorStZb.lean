/- The document's part. -/
import Derived.Test.YtbenfdbjpefegaaDoorStZa
import Derived.Test.YtbenfdbjpefegaaDoorStM
import Derived.Test.YtbenfdbjpefegaaDoorWalkI
namespace Go.Proofs.YtbenfdbjpefegaaDoor
open Go.RowKit Go.Maps
set_option linter.unusedVariables false

theorem part_step {s : ByteArray} {k : Nat} (h : k < s.size) (hb : s[k].toNat ≠ 32) : (partL (s.data.toList.drop k)).length = (partL (s.data.toList.drop (k + 1))).length + 1 := by
  have hk : k < s.data.toList.length := by rw [bytes_len]; exact h
  rw [List.drop_eq_getElem_cons hk]
  have e : s.data.toList[k] = s[k] := by
    have := byte_at s k h
    rw [List.getElem?_eq_getElem hk] at this
    exact Option.some.inj this
  rw [e]
  have hne : s[k] ≠ 32 := fun e => by rw [e] at hb; exact hb rfl
  have : partL (s[k] :: s.data.toList.drop (k + 1)) = s[k] :: partL (s.data.toList.drop (k + 1)) := by simp [partL, hne]
  rw [this, List.length_cons]
theorem part_stop {s : ByteArray} {k : Nat} (h : k < s.size) (hb : s[k].toNat = 32) : (partL (s.data.toList.drop k)).length = 0 := by
  have hk : k < s.data.toList.length := by rw [bytes_len]; exact h
  rw [List.drop_eq_getElem_cons hk]
  have e : s.data.toList[k] = s[k] := by
    have := byte_at s k h
    rw [List.getElem?_eq_getElem hk] at this
    exact Option.some.inj this
  have h32 : s[k] = 32 := UInt8.toNat_inj.1 hb
  rw [e, h32]; simp [partL]
theorem part_past {s : ByteArray} {k : Nat} (h : s.size ≤ k) : (partL (s.data.toList.drop k)).length = 0 := by
  rw [List.drop_of_length_le (by rw [bytes_len]; exact h)]; rfl

set_option maxHeartbeats 1000000 in
theorem rpart_any (s : ByteArray) (p : Nat) (pi : Int) (w : World) (hs : s.size ≤ 2000) (hp : p ≤ s.size) (hpi : pi = p) :
    Calls Tryd.prog 56 #[.string s, .int .i64 pi] w fun e w' => e = .returned (.int .i64 ((p + (partL (s.data.toList.drop p)).length : Nat) : Int)) ∧ w' = w := by
  subst hpi
  obtain ⟨R, hR⟩ : ∃ R, p + (partL (s.data.toList.drop p)).length = R := ⟨_, rfl⟩
  rw [hR]
  have HR := Lib.hid hR
  clear hR
  go_enter Tryd.func56, Tryd.ntmps56
  go_wp2
  go_loopw [1] (fun i wr => ∃ k : Nat, k ≤ s.size ∧ i = .int .i64 k ∧ k + (partL (s.data.toList.drop k)).length = R ∧ wr = w) (fun i wr => s.size - (intOf i).toNat)
  case atStart => exact ⟨p, hp, rfl, HR.out, rfl⟩
  case round =>
    obtain ⟨k, hk, rfl, hkR, rfl⟩ := hrel
    have HKR := Lib.hid hkR
    clear hkR
    by_cases hlt : k < s.size
    · have q1 : decide (k < s.size) = true := decide_eq_true hlt
      have q1' : decide ((k : Int) < (s.size : Int)) = true := decide_eq_true (by omega)
      have g0 : (0 : Int) ≤ (k : Int) := by omega
      have g1 : (k : Int) < (s.size : Int) := by omega
      by_cases h32 : s[k].toNat = 32
      · have HST := Lib.hid (part_stop hlt h32)
        have b1 : ((s[k].toNat : Int) != 32) = false := by rw [h32]; rfl
        go_wp2
        go_ret
        exact ⟨ret_int (by have := HKR.out; rw [HST.out] at this; omega), rfl⟩
      · have HST := Lib.hid (part_step hlt h32)
        have b1 : ((s[k].toNat : Int) != 32) = true := by rw [bne_iff_ne]; omega
        go_wp2
        go_roundw
        case rel => exact ⟨k + 1, by omega, by go_num, by have := HKR.out; rw [HST.out] at this; omega, trivial⟩
        case measure => simp [intOf]; omega
    · have q1 : decide (k < s.size) = false := decide_eq_false hlt
      have HST := Lib.hid (part_past (s := s) (k := k) (by omega))
      go_wp2
      go_ret
      exact ⟨ret_int (by have := HKR.out; rw [HST.out] at this; omega), rfl⟩
end Go.Proofs.YtbenfdbjpefegaaDoor
