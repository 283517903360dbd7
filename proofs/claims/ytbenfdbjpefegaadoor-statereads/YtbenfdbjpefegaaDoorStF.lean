/- Contracts of the layer state: numberOf, measured, Decode. -/
import Derived.Test.YtbenfdbjpefegaaDoorStD
import Derived.Laws.BitsAllLaws
namespace Go.Proofs.YtbenfdbjpefegaaDoor
open Go.RowKit Go.Maps
set_option linter.unusedVariables false

theorem octets_take {l : List Int} (h : Octets l) (k : Nat) : Octets (l.take k) := fun x hx => h x (List.mem_of_mem_take hx)
theorem octets_drop {l : List Int} (h : Octets l) (k : Nat) : Octets (l.drop k) := fun x hx => h x (List.mem_of_mem_drop hx)
theorem un_take {l : List Int} {k : Nat} (hk : k < l.length) : unN (l.take (k + 1)) = unN (l.take k) * 256 + l[k]?.getD 0 := by
  rw [take_snoc l k hk, un_snoc, List.getElem?_eq_getElem hk]; rfl
theorem p256_8 : ∀ n, n ≤ 8 → (256 : Int) ^ n ≤ 18446744073709551616 := by decide
theorem p256_7 : ∀ n, n ≤ 7 → (256 : Int) ^ n ≤ 72057594037927936 := by decide
theorem p256_4 : ∀ n, n ≤ 4 → (256 : Int) ^ n ≤ 4294967296 := by decide
theorem un_small {l : List Int} (h : Octets l) (hk : l.length ≤ 8) : 0 ≤ unN l ∧ unN l < 18446744073709551616 := by
  have := un_bd l h
  exact ⟨this.1, Int.lt_of_lt_of_le this.2 (p256_8 _ hk)⟩
theorem un_four {l : List Int} (h : Octets l) (hk : l.length ≤ 4) : 0 ≤ unN l ∧ unN l < 4294967296 := by
  have := un_bd l h
  exact ⟨this.1, Int.lt_of_lt_of_le this.2 (p256_4 _ hk)⟩
theorem un_step {l : List Int} (h : Octets l) {k : Nat} (hk : k < 8) : 0 ≤ unN (l.take k) ∧ unN (l.take k) < 72057594037927936 := by
  have := un_bd (l.take k) (octets_take h k)
  exact ⟨this.1, Int.lt_of_lt_of_le this.2 (p256_7 _ (by rw [List.length_take]; omega))⟩
theorem or_byte (m x : Int) (m0 : 0 ≤ m) (m1 : m < 72057594037927936) (x0 : 0 ≤ x) (x1 : x ≤ 255) : bits .or .u64 (m * 256) x = m * 256 + x := by
  obtain ⟨a, rfl⟩ := Int.eq_ofNat_of_zero_le m0
  obtain ⟨b, rfl⟩ := Int.eq_ofNat_of_zero_le x0
  have e : (a : Int) * 256 = ((2 ^ 8 * a : Nat) : Int) := by omega
  rw [e, u64_or_nat _ _ (by omega) (by omega), ← Nat.two_pow_add_eq_or_of_lt (by omega)]
  omega

set_option maxHeartbeats 1000000 in
theorem numberOf_any (A : Option Addr) (c : Nat) (l : List Int) (w : World) (hA : Bytes w A l) (ho : Octets l) (hl : l.length ≤ 8) :
    Calls Tryd.prog 50 #[.slice A l.length c] w fun e w' => e = .returned (.int .i64 (wrap64 (unN l))) ∧ w' = w := by
  have HO := Lib.hid ho
  clear ho
  go_enter Tryd.func50, Tryd.ntmps50
  go_wp2
  go_loopw [3, 5, 8] (fun s3 s5 i wr => ∃ (k : Nat), k ≤ l.length ∧ i = .int .i64 k ∧ s3 = .int .u64 (unN (l.take k)) ∧ wr = w) (fun s3 s5 i wr => l.length - (intOf i).toNat)
  case atStart => exact ⟨0, Nat.zero_le _, rfl, by simp [unN], rfl⟩
  case round =>
    obtain ⟨k, hk, rfl, rfl, rfl⟩ := hrel
    by_cases hlt : k < l.length
    · obtain ⟨b, off, rfl, hb, hc⟩ := hA (by omega)
      have hck := hc k hlt
      have hk0 : (0 : Int) ≤ (k : Int) := by omega
      have hk1 : (k : Int) < (l.length : Int) := by omega
      obtain ⟨x0, x1⟩ := octet_at HO.out k hlt
      obtain ⟨m0, m1⟩ := un_step HO.out (k := k) (by omega)
      have HS := Lib.hid (un_take hlt)
      obtain ⟨x, hx'⟩ : ∃ x, l[k]?.getD 0 = x := ⟨_, rfl⟩
      obtain ⟨m, hm'⟩ : ∃ m, unN (l.take k) = m := ⟨_, rfl⟩
      rw [hx'] at hck x0 x1 HS
      rw [hm'] at m0 m1 HS ⊢
      clear hc hx' hm'
      have HOR := Lib.hid (or_byte m x m0 m1 x0 x1)
      go_wp2
      go_roundw
      case rel => exact ⟨k + 1, by omega, by go_num, by rw [HOR.out, HS.out], trivial⟩
      case measure => simp [intOf]; omega
    · have hkl : l.take k = l := List.take_of_length_le (by omega)
      rw [hkl]
      clear hkl
      go_wp2
      go_ret
      exact ⟨rfl, rfl⟩

theorem bytes_sub {w : World} {b off : Nat} {l : List Int} (h : Bytes w (some ⟨b, off, none⟩) l) (i k : Nat) : Bytes w (some ⟨b, off + i, none⟩) ((l.drop i).take k) := fun hl => by
  rw [List.length_take, List.length_drop] at hl
  obtain ⟨b', off', e, hb, hc⟩ := h (by omega)
  cases e
  refine ⟨b, off + i, rfl, hb, fun j hj => ?_⟩
  rw [List.length_take, List.length_drop] at hj
  rw [Nat.add_assoc, hc (i + j) (by omega), List.getElem?_take, if_pos (by omega), List.getElem?_drop]
theorem numberAt_any (b off c k i : Nat) (l : List Int) (w : World) (hA : Bytes w (some ⟨b, off, none⟩) l) (ho : Octets l) (hk : k ≤ 8) (hi : i + k ≤ l.length) :
    Calls Tryd.prog 50 #[.slice (some ⟨b, off + i, none⟩) k c] w fun e w' => e = .returned (.int .i64 (numAt l i k)) ∧ w' = w := by
  have hl : ((l.drop i).take k).length = k := by rw [List.length_take, List.length_drop]; omega
  have := numberOf_any (some ⟨b, off + i, none⟩) c ((l.drop i).take k) w (bytes_sub hA i k) (octets_take (octets_drop ho i) k) (by omega)
  rw [hl] at this
  exact this
theorem wrap64_id {x : Int} (h : -9223372036854775808 ≤ x) (h2 : x ≤ 9223372036854775807) : wrap64 x = x := by
  unfold wrap64; omega
theorem numAt_four {l : List Int} (ho : Octets l) (i : Nat) : 0 ≤ numAt l i 4 ∧ numAt l i 4 < 4294967296 := by
  have := un_four (octets_take (octets_drop ho i) 4) (by rw [List.length_take]; omega)
  unfold numAt
  rw [wrap64_id (by omega) (by omega)]
  exact this

theorem measured_any (A : Option Addr) (c : Nat) (l : List Int) (w : World) (hA : Bytes w A l) (ho : Octets l) (hl : l.length ≤ 1000) (hc : l.length ≤ c) (hc2 : c ≤ 9223372036854775807) :
    Calls Tryd.prog 49 #[.slice A l.length c] w fun e w' => e = .returned (.bool (measB l)) ∧ w' = w := by
  by_cases h : 13 ≤ l.length
  · obtain ⟨b, off, rfl, hb, _⟩ := hA (by omega)
    have H := numberAt_any b off (c - 9) 4 9 l w hA ho (by omega) (by omega)
    obtain ⟨n0, n1⟩ := numAt_four ho 9
    have hm : measB l = decide ((l.length : Int) - 13 = 8 * numAt l 9 4) := by unfold measB; rw [decide_eq_true h]; rfl
    rw [hm]
    clear hm hA
    generalize numAt l 9 4 = m at *
    have k1 : decide ((l.length : Int) < 13) = false := decide_eq_false (by omega)
    have k2 : (13 : Int) ≤ (c : Int) := by omega
    by_cases he : (l.length : Int) - 13 = 8 * m
    · rw [decide_eq_true he]
      have k3 : (((l.length : Int) - 13) == 8 * m) = true := beq_iff_eq.2 he
      have HE := Lib.hid he
      clear he
      go_enter Tryd.func49, Tryd.ntmps49
      go_wp2_with fail
      refine H.mono ?_
      rintro e w1 ⟨rfl, rfl⟩
      go_wp2
      go_ret
      exact ⟨rfl, rfl⟩
    · rw [decide_eq_false he]
      have k3 : (((l.length : Int) - 13) == 8 * m) = false := beq_eq_false_iff_ne.2 he
      have HE := Lib.hid he
      clear he
      go_enter Tryd.func49, Tryd.ntmps49
      go_wp2_with fail
      refine H.mono ?_
      rintro e w1 ⟨rfl, rfl⟩
      go_wp2
      go_ret
      exact ⟨rfl, rfl⟩
  · have hm : measB l = false := by unfold measB; rw [decide_eq_false h]; rfl
    rw [hm]
    have k1 : decide ((l.length : Int) < 13) = true := decide_eq_true (by omega)
    go_enter Tryd.func49, Tryd.ntmps49
    go_wp2
    go_ret
    exact ⟨rfl, rfl⟩
end Go.Proofs.YtbenfdbjpefegaaDoor
