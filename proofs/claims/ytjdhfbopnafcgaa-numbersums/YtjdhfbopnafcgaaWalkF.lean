/- The document's answers: Wrap, Sum, All; lists copied and compared. -/
import Derived.Test.YtjdhfbopnafcgaaWalkK
import Derived.OpenShut
import Derived.Maps.AppendAt
import Derived.Deep.AppendLies
import Derived.Laws.BitsAllLaws
namespace Go.Proofs.Ytjdhfbopnafcgaa
open Go.RowKit
set_option linter.unusedVariables false

theorem rwrap_eq (a b : Int) : wrap64 (IntKind.u64.wrap (IntKind.u64.wrap a + IntKind.u64.wrap b)) = wrap64 (a + b) := by
  rw [u64_mod, u64_mod, u64_mod]; unfold wrap64; omega

set_option maxHeartbeats 400000 in
theorem rwrap_any (a b : Int) (w : World) :
    Calls Try.prog 20 #[.int .i64 a, .int .i64 b] w fun e w' => e = .returned (.int .i64 (wrap64 (a + b))) ∧ w = w' := by
  have H := Lib.hid (rwrap_eq a b)
  go_enter Try.func20, Try.ntmps20
  go_wp2
  go_ret
  exact ⟨ret_int H.out, rfl⟩

set_option maxHeartbeats 1000000 in
theorem rsum_any (a b : Int) (w : World) (h1 : -9223372036854775808 ≤ a) (h2 : a ≤ 9223372036854775807) (h3 : -9223372036854775808 ≤ b) (h4 : b ≤ 9223372036854775807) :
    Calls Try.prog 16 #[.int .i64 a, .int .i64 b] w fun e w' => e = .returned (.tuple #[.int .i64 (sumN a b), .int .i64 (sumE a b)]) ∧ w = w' := by
  have hR := Lib.hid (fun W => rwrap_any a b W)
  obtain ⟨s, hs⟩ : ∃ s, wrap64 (a + b) = s := ⟨_, rfl⟩
  rw [hs] at hR
  have hs2 : s = a + b ∨ s = a + b - 18446744073709551616 ∨ s = a + b + 18446744073709551616 := by rw [← hs]; unfold wrap64; omega
  have hs3 : -9223372036854775808 ≤ s ∧ s ≤ 9223372036854775807 := by rw [← hs]; unfold wrap64; omega
  have hN : Hid (sumN a b = if -9223372036854775808 ≤ a + b ∧ a + b ≤ 9223372036854775807 then s else 0) := by
    show sumN a b = _
    unfold sumN; split
    · omega
    · rfl
  have hE : Hid (sumE a b = if -9223372036854775808 ≤ a + b ∧ a + b ≤ 9223372036854775807 then 0 else 3) := rfl
  clear hs
  by_cases ha : 0 ≤ a
  · have ka : decide (0 ≤ a) = true := by simp; omega
    have ka' : decide (a < 0) = false := by simp; omega
    by_cases hb : 0 ≤ b
    · have kb : decide (0 ≤ b) = true := by simp; omega
      by_cases hs : s < 0
      · have ks : decide (s < 0) = true := by simp; omega
        go_enter Try.func16, Try.ntmps16
        go_wp2_with (go_at_call 20; refine (hR.out _).mono ?_; rintro e w' ⟨rfl, rfl⟩)
        go_ret2
        exact ⟨by rw [hN.out, hE.out, if_neg (by omega), if_neg (by omega)]; rfl, rfl⟩
      · have ks : decide (s < 0) = false := by simp; omega
        go_enter Try.func16, Try.ntmps16
        go_wp2_with (go_at_call 20; refine (hR.out _).mono ?_; rintro e w' ⟨rfl, rfl⟩)
        go_ret2
        exact ⟨by rw [hN.out, hE.out, if_pos (by omega), if_pos (by omega)]; rfl, rfl⟩
    · have kb : decide (0 ≤ b) = false := by simp; omega
      go_enter Try.func16, Try.ntmps16
      go_wp2_with (go_at_call 20; refine (hR.out _).mono ?_; rintro e w' ⟨rfl, rfl⟩)
      go_ret2
      exact ⟨by rw [hN.out, hE.out, if_pos (by omega), if_pos (by omega)]; rfl, rfl⟩
  · have ka : decide (0 ≤ a) = false := by simp; omega
    have ka' : decide (a < 0) = true := by simp; omega
    by_cases hb : b < 0
    · have kb : decide (b < 0) = true := by simp; omega
      by_cases hs : 0 ≤ s
      · have ks : decide (0 ≤ s) = true := by simp; omega
        go_enter Try.func16, Try.ntmps16
        go_wp2_with (go_at_call 20; refine (hR.out _).mono ?_; rintro e w' ⟨rfl, rfl⟩)
        go_ret2
        exact ⟨by rw [hN.out, hE.out, if_neg (by omega), if_neg (by omega)]; rfl, rfl⟩
      · have ks : decide (0 ≤ s) = false := by simp; omega
        go_enter Try.func16, Try.ntmps16
        go_wp2_with (go_at_call 20; refine (hR.out _).mono ?_; rintro e w' ⟨rfl, rfl⟩)
        go_ret2
        exact ⟨by rw [hN.out, hE.out, if_pos (by omega), if_pos (by omega)]; rfl, rfl⟩
    · have kb : decide (b < 0) = false := by simp; omega
      go_enter Try.func16, Try.ntmps16
      go_wp2_with (go_at_call 20; refine (hR.out _).mono ?_; rintro e w' ⟨rfl, rfl⟩)
      go_ret2
      exact ⟨by rw [hN.out, hE.out, if_pos (by omega), if_pos (by omega)]; rfl, rfl⟩

theorem ofInt64 (x : Int) : (BitVec.ofInt 64 x).toNat = (x % 18446744073709551616).toNat := by rw [BitVec.toNat_ofInt]; rfl
theorem and32 (x : Int) : bits .and .i64 x 4294967295 = x % 4294967296 := by
  show IntKind.i64.wrap ((BitVec.ofInt 64 x &&& BitVec.ofInt 64 4294967295).toNat : Int) = _
  rw [BitVec.toNat_and, ofInt64, ofInt64]
  have e : ((4294967295 : Int) % 18446744073709551616).toNat = 2 ^ 32 - 1 := by decide
  rw [e, Nat.and_two_pow_sub_one_eq_mod, IntWalk.i64_left]
  have h : ((((x % 18446744073709551616).toNat % 2 ^ 32 : Nat)) : Int) = x % 4294967296 := by omega
  rw [h]; unfold wrap64; omega
theorem or32 (H b : Int) (h1 : -2147483648 ≤ H) (h2 : H < 2147483648) (hb0 : 0 ≤ b) (hb1 : b < 4294967296) : bits .or .i64 (H * 4294967296) b = H * 4294967296 + b := by
  show IntKind.i64.wrap ((BitVec.ofInt 64 (H * 4294967296) ||| BitVec.ofInt 64 b).toNat : Int) = _
  rw [BitVec.toNat_or, ofInt64, ofInt64]
  rw [nat_join 32 _ _ (by omega) (by omega), IntWalk.i64_left]
  unfold wrap64; omega

set_option maxHeartbeats 1000000 in
theorem rall_any (A : Option Addr) (c : Nat) (l : List Int) (w : World) (hA : Ints w A l) (hs : ∀ x ∈ l, Small x) (hlen : l.length ≤ 1000) :
    Calls Try.prog 18 #[.slice A l.length c] w fun e w' => e = .returned (.tuple #[.int .i64 (allN l), .int .i64 (allE l)]) ∧ w = w' := by
  go_enter Try.func18, Try.ntmps18
  go_wp2
  go_loop [4, 5, 6] (fun hi lo i => ∃ (k : Nat) (H L : Int), k ≤ l.length ∧ i = .int .i64 k ∧ hi = .int .i64 H ∧ lo = .int .i64 L ∧ H * 4294967296 + L = tot (l.take k) ∧ 0 ≤ L ∧ L ≤ 4294967296 * k ∧ -(2147483648 * k : Int) ≤ H ∧ H ≤ 2147483648 * k) (fun hi lo i => l.length - (intOf i).toNat)
  case atStart => exact ⟨0, 0, 0, Nat.zero_le _, rfl, rfl, rfl, rfl, by omega, by omega, by omega, by omega⟩
  case round =>
    obtain ⟨k, H, L, hk, rfl, rfl, rfl, hT, hL0, hL1, hH0, hH1⟩ := hrel
    by_cases hlt : k < l.length
    · obtain ⟨b, off, rfl, hb, hc⟩ := hA (by omega)
      have hck := hc k hlt
      clear hc
      obtain ⟨hs1, hs2⟩ := small_at hs k hlt
      have ht := tot_take l k hlt
      obtain ⟨x, hx⟩ : ∃ x, l[k]?.getD 0 = x := ⟨_, rfl⟩
      rw [hx] at hck hs1 hs2 ht
      have HT := Lib.hid ht
      have HT2 := Lib.hid hT
      have HA := Lib.hid (and32 x)
      clear hx ht hT
      have hq := Int.emod_nonneg x (show (4294967296 : Int) ≠ 0 by decide)
      have hq2 := Int.emod_lt_of_pos x (show (0 : Int) < 4294967296 by decide)
      go_wp2
      rw [HA.out, IntWalk.wrap64_in _ (by omega)]
      exact ⟨⟨k + 1, H + x / 4294967296, L + x % 4294967296, by omega, by go_num, rfl, rfl, by rw [HT.out, ← HT2.out]; omega, by omega, by omega, by omega, by omega⟩, by simp [intOf]; omega⟩
    · have hkl : l.take k = l := List.take_of_length_le (by omega)
      rw [hkl] at hT
      have HA := Lib.hid (and32 L)
      have HO := Lib.hid (or32 (H + L / 4294967296) (L % 4294967296))
      have HT := Lib.hid hT
      clear hkl hT
      by_cases h1 : H + L / 4294967296 < -2147483648
      · have k1 : decide (H + L / 4294967296 < -2147483648) = true := by simp; omega
        go_wp2
        go_ret2
        exact ⟨by unfold allN allE; rw [if_neg (by rw [← HT.out]; omega), if_neg (by rw [← HT.out]; omega)]; rfl, rfl⟩
      · have k1 : decide (H + L / 4294967296 < -2147483648) = false := by simp; omega
        by_cases h2 : 2147483648 ≤ H + L / 4294967296
        · have k2 : decide (2147483648 ≤ H + L / 4294967296) = true := by simp; omega
          go_wp2
          go_ret2
          exact ⟨by unfold allN allE; rw [if_neg (by rw [← HT.out]; omega), if_neg (by rw [← HT.out]; omega)]; rfl, rfl⟩
        · have k2 : decide (2147483648 ≤ H + L / 4294967296) = false := by simp; omega
          go_wp2
          go_ret2
          refine ⟨?_, rfl⟩
          unfold allN allE; rw [if_pos (by rw [← HT.out]; omega), if_pos (by rw [← HT.out]; omega)]
          have e := HO.out (by omega) (by omega) (by omega) (by omega)
          have e2 : (H + L / 4294967296) * 4294967296 + L % 4294967296 = tot l := by rw [← HT.out]; omega
          rw [← e2, ← e]
          show Ending.returned (.tuple #[.int .i64 (bits .or .i64 ((H + L / 4294967296) * 4294967296) (bits .and .i64 L 4294967295)), .int .i64 0]) = _
          rw [HA.out]

theorem info_int : (Try.prog.info? 3).map (fun i => (i.zero, i.size, i.bytes)) = some (some (.int .i64 0), 1, 8) := by kernel_rfl

def intsOf (l : List Int) : List Value := l.map (Value.int .i64)

def CopyPost (l : List Int) (w : World) (e : Ending) (w' : World) : Prop :=
  ∃ g cap, e = .returned (.slice (some ⟨g, 0, none⟩) l.length cap) ∧ w'.ownsRow w.heap.size 3 1 (.slice (some ⟨g, 0, none⟩) l.length cap) l.length (intsOf l) ∧ Below w.heap.size w w'

theorem add_plain' (b off j : Nat) : (⟨b, off, none⟩ : Addr).add j = ⟨b, off + j, none⟩ := by unfold Addr.add; split <;> simp_all

set_option maxHeartbeats 1000000 in
theorem copy_any (A : Option Addr) (c : Nat) (l : List Int) (w : World) (hA : Ints w A l) (hlen : l.length ≤ 1000) :
    Calls Try.prog 14 #[.slice A l.length c] w (CopyPost l w) := by
  obtain ⟨i0, hi, hz0, hz1, hz2⟩ := info_parts info_int
  have hrow := World.ownsRow_lit (base := w.heap.size) (e := 3) (size := 1) w #[] 0 (Nat.le_refl _) (Nat.zero_le _) rfl
  have hsrc : ∀ ad, A = some ad → ∀ j u, (intsOf l)[j]? = some u → (w.alloc (.cells #[] 3)).cell? (ad.add j) = some u := by
    intro ad e j u hu
    subst e
    have hj : j < l.length := by
      rcases Nat.lt_or_ge j l.length with h | h
      · exact h
      · rw [List.getElem?_eq_none (by simp [intsOf]; omega)] at hu; cases hu
    obtain ⟨b, off, e, hb, hc⟩ := hA (by omega)
    injection e with e
    subst e
    rw [add_plain', World.cell?_alloc_lt _ _ _ hb, hc j hj]
    simp [intsOf, List.getElem?_eq_getElem hj] at hu ⊢
    exact hu
  cases A with
  | none =>
    have hl : l = [] := by
      cases l with
      | nil => rfl
      | cons x r => obtain ⟨b, off, e, _⟩ := hA (by simp); cases e
    subst hl
    go_enter Try.func14, Try.ntmps14
    go_wp2
    go_ret
    exact ⟨w.heap.size, 0, rfl, hrow, (Below.refl _ _).alloc (Nat.le_refl _) _⟩
  | some ad =>
    have hsrc' := Lib.hid (hsrc ad rfl)
    have hrow' := Lib.hid hrow
    clear hsrc hrow hA
    go_enter Try.func14, Try.ntmps14
    go_wp2_with (at_builtin; refine wpList_append_own_at _ rfl _ _ 30 rfl w.heap.size 3 i0 (.int .i64 0) 1 8 Try.underlying30 hi hz0 hz1 hz2 rfl (by decide) _ _ _ rfl hrow'.out ad l.length c (intsOf l) rfl (by simp [intsOf]) hsrc'.out (by intro u hu; simp [intsOf] at hu; obtain ⟨x, _, rfl⟩ := hu; rfl) (by simp only [maxLen]; omega) (by omega) (by simp) ?_; intro v1 w1 hown1 hg1 hnil1 hat1)
    go_ret
    have hB1 : Below w.heap.size w w1 := ((Below.refl _ w).alloc (Nat.le_refl _) _).grown hg1 (by simp) (fun k hk => by cases hk; exact Nat.le_refl _)
    rw [Nat.zero_add, List.nil_append] at hown1
    have hform : ∃ g cap, v1 = .slice (some ⟨g, 0, none⟩) l.length cap := by
      rcases hown1.2 with ⟨e, _⟩ | ⟨g, cap, cur, e, _⟩
      · have := (hnil1.1 e).1
        cases this
      · exact ⟨g, cap, e⟩
    obtain ⟨g, cap, rfl⟩ := hform
    exact ⟨g, cap, rfl, hown1, hB1⟩

/-- A row of the call's own reads as its numbers. -/
theorem ints_own {w : World} {base g n cap : Nat} {l : List Int} (hn : l.length = n) (h : w.ownsRow base 3 1 (.slice (some ⟨g, 0, none⟩) n cap) n (intsOf l)) : Ints w (some ⟨g, 0, none⟩) l := by
  intro hl
  refine ⟨g, 0, rfl, (h.lt g rfl).2, fun j hj => ?_⟩
  rw [Nat.zero_add, h.cellAt j (by omega), intsOf, List.getElem?_map, List.getElem?_eq_getElem hj]
  rfl

set_option maxHeartbeats 1000000 in
theorem same_any (A B : Option Addr) (c d : Nat) (l : List Int) (w : World) (hA : Ints w A l) (hB : Ints w B l) (hlen : l.length ≤ 1000) :
    Calls Try.prog 21 #[.slice A l.length c, .slice B l.length d] w fun e w' => e = .returned (.bool true) ∧ ∃ n, w' = w.drewN n := by
  have k0 : ((l.length : Int) != l.length) = false := by simp
  go_enter Try.func21, Try.ntmps21
  go_wp2
  go_loopw [5] (fun i wr => ∃ (k n : Nat), k ≤ l.length ∧ i = .int .i64 k ∧ wr = w.drewN n) (fun i wr => l.length - (intOf i).toNat)
  case atStart => exact ⟨0, 0, Nat.zero_le _, rfl, rfl⟩
  case round =>
    obtain ⟨k, n, hk, rfl, rfl⟩ := hrel
    by_cases hlt : k < l.length
    · obtain ⟨b, off, rfl, hb, hc⟩ := hA (by omega)
      obtain ⟨b', off', rfl, hb', hc'⟩ := hB (by omega)
      have hck := hc k hlt
      have hck' := hc' k hlt
      clear hc hc'
      generalize l[k]?.getD 0 = x at *
      have kx : (x != x) = false := by simp
      have hk0 : (0 : Int) ≤ (k : Int) := by omega
      have hk1 : (k : Int) < (l.length : Int) := by omega
      go_wp2_with fail
      go_quiet (fail)
      go_wp2
      go_roundw
      case rel => exact ⟨k + 1, _, by omega, by go_num, rfl⟩
      case measure => simp [intOf]; omega
    · go_wp2
      go_ret
      exact ⟨rfl, n, rfl⟩
end Go.Proofs.Ytjdhfbopnafcgaa
