/- Back; the document's Total, Back; the statements' own small functions. -/
import Derived.Test.YtbmoiacjigmggaaCnB
import Derived.Test.YtbmoiacjigmggaaCnD
namespace Go.Proofs.Ytbmoiacjigmggaa
open Go.RowKit Go.Maps
set_option linter.unusedVariables false

def backN (tt : Int) (l : List Int) : Int := wrap64 (tt - totN 0 l)
theorem back_eq (tt T : Int) : wrap64 (tt + wrap64 (-T)) = wrap64 (tt - T) := by unfold wrap64; omega
theorem rback_eq (tt T : Int) : wrap64 (IntKind.u64.wrap (IntKind.u64.wrap tt - IntKind.u64.wrap T)) = wrap64 (tt - T) := by
  rw [u64_mod, u64_mod, u64_mod]; unfold wrap64; omega

theorem back_any (tt : Int) (A : Option Addr) (c : Nat) (l : List Int) (w : World) (hA : Ints w A l) (hlen : l.length ≤ maxLen) :
    Calls Try.prog 16 #[.int .i64 tt, .slice A l.length c] w (Says (.int .i64 (backN tt l)) w) := by
  have H := total_any 0 A c l w hA hlen
  have HE := Lib.hid (back_eq tt (totN 0 l))
  unfold backN
  generalize totN 0 l = T at *
  clear hA
  go_enter Try.func16, Try.ntmps16
  go_wp2_with fail
  refine H.mono ?_
  rintro e w1 ⟨rfl, hB1⟩
  go_wp2_with fail
  refine (wrap_any _ _ _).mono ?_
  rintro e w2 ⟨rfl, rfl⟩
  go_wp2
  go_ret
  exact ⟨ret_int HE.out, hB1⟩

set_option maxHeartbeats 1000000 in
theorem rtotal_any (n : Int) (A : Option Addr) (c : Nat) (l : List Int) (w : World) (hA : Ints w A l) (hlen : l.length ≤ 1000) :
    Calls Try.prog 15 #[.int .i64 n, .slice A l.length c] w (Says (.int .i64 (totN n l)) w) := by
  have HA := Lib.hid hA
  clear hA
  go_enter Try.func15, Try.ntmps15
  go_wp2_with fail
  go_loopw [0, 5] (fun s0 i wr => ∃ (k : Nat) (m : Int), k ≤ l.length ∧ i = .int .i64 k ∧ s0 = .int .i64 m ∧ m = totN n (l.take k) ∧ wr = w) (fun s0 i wr => l.length - (intOf i).toNat)
  case atStart => exact ⟨0, n, Nat.zero_le _, rfl, rfl, rfl, rfl⟩
  case round =>
    obtain ⟨k, m, hk, rfl, rfl, hm, rfl⟩ := hrel
    have HM := Lib.hid hm
    clear hm
    by_cases hlt : k < l.length
    · obtain ⟨b, off, rfl, hb, hc⟩ := HA.out (by omega)
      have hck := hc k hlt
      have hk0 : (0 : Int) ≤ (k : Int) := by omega
      have hk1 : (k : Int) < (l.length : Int) := by omega
      obtain ⟨x, hx⟩ : ∃ x, l[k]?.getD 0 = x := ⟨_, rfl⟩
      rw [hx] at hck
      have HX := Lib.hid hx
      clear hc hx
      go_wp2_with (go_at_call 30; refine (rwrap_any _ _ _).mono ?_; rintro e w1 ⟨rfl, rfl⟩)
      go_roundw
      case rel => exact ⟨k + 1, _, by omega, by go_num, rfl, by rw [tot_step n l k hlt, ← HM.out, HX.out], trivial⟩
      case measure => simp [intOf]; omega
    · go_wp2
      go_ret
      have := HM.out
      rw [List.take_of_length_le (by omega)] at this
      exact ⟨by rw [this]; rfl, Below.refl _ _⟩
theorem rback_any (tt : Int) (A : Option Addr) (c : Nat) (l : List Int) (w : World) (hA : Ints w A l) (hlen : l.length ≤ 1000) :
    Calls Try.prog 17 #[.int .i64 tt, .slice A l.length c] w (Says (.int .i64 (backN tt l)) w) := by
  have H := rtotal_any 0 A c l w hA hlen
  have HE := Lib.hid (rback_eq tt (totN 0 l))
  unfold backN
  generalize totN 0 l = T at *
  clear hA
  go_enter Try.func17, Try.ntmps17
  go_wp2_with fail
  refine H.mono ?_
  rintro e w1 ⟨rfl, hB1⟩
  go_wp2
  go_ret
  exact ⟨ret_int HE.out, hB1⟩
theorem done_any (w : World) : Calls Try.prog 25 #[] w (Says (retV 0 0) w) := by
  go_enter Try.func25, Try.ntmps25
  go_wp2
  refine bodyPost_ret (v := retV 0 0) (by simp [results, Try.f25, go_sem, retV]) rfl ?_
  exact ⟨rfl, alloc1 w _⟩
theorem told_any (n : Int) (w : World) : Calls Try.prog 23 #[.int .i64 n] w (Says (retV 2 n) w) := by
  go_enter Try.func23, Try.ntmps23
  go_wp2
  refine bodyPost_ret (v := retV 2 n) (by simp [results, Try.f23, go_sem, retV]) rfl ?_
  exact ⟨rfl, alloc1 w _⟩

set_option maxHeartbeats 1000000 in
theorem does_yes (n kd a t k r : Int) (w : World) (H : ∀ W, Calls Try.prog 10 #[stV 1 n none 0 0, .int .i64 kd, .int .i64 a, .int .i64 0] W (Says (ansV 1 t k r 0) W)) :
    Calls Try.prog 22 #[.int .i64 n, .int .i64 kd, .int .i64 a, .int .i64 t, retV k r] w (Yes w) := by
  have HQ := Lib.hid (Holds.new w 28 #[.int .i64 k, .int .i64 r])
  have hB0 := alloc1 w (.cells #[.int .i64 k, .int .i64 r] 28)
  have hlt0 : w.heap.size < (w.alloc (.cells #[.int .i64 k, .int .i64 r] 28)).heap.size := by simp
  have HE := Lib.hid (eql_ret · k r k r)
  have hsr := sameRet_self k r
  unfold stV retV at *
  go_enter Try.func22, Try.ntmps22
  go_wp2_with fail
  refine (H _).mono ?_
  rintro e w1 ⟨rfl, hB1⟩
  unfold ansV stV retV
  generalize w.alloc (.cells #[.int .i64 k, .int .i64 r] 28) = W0 at *
  have hB2 : Below w1.heap.size w1 ((w1.alloc (.cells #[.int .i64 1, .int .i64 t, .slice none 0 0] 24)).alloc (.cells #[.int .i64 k, .int .i64 r] 28)) := (alloc1 w1 _).alloc (by simp) _
  have HR2 := Lib.hid (Holds.new (w1.alloc (.cells #[.int .i64 1, .int .i64 t, .slice none 0 0] 24)) 28 #[.int .i64 k, .int .i64 r])
  rw [World.size_alloc] at HR2
  have H2 := samest_any 1 t 1 t none none 0 0 [] [] ((w1.alloc (.cells #[.int .i64 1, .int .i64 t, .slice none 0 0] 24)).alloc (.cells #[.int .i64 k, .int .i64 r] 28)) (ints_nil _ _) (ints_nil _ _) (by simp)
  rw [same_iff.2 ⟨rfl, rfl, rfl⟩] at H2
  unfold stV at H2
  have hs1 := hB1.size
  go_wp2_with fail
  refine H2.mono ?_
  rintro e w3 ⟨rfl, hB3⟩
  have hl2 : ((w1.alloc (.cells #[.int .i64 1, .int .i64 t, .slice none 0 0] 24)).alloc (.cells #[.int .i64 k, .int .i64 r] 28)).heap.size = w1.heap.size + 1 + 1 := by simp
  have HR3 := HR2.out.below hB3 (by omega)
  have HQ3 := ((HQ.out.below hB1 hlt0).below hB2 (by omega)).below hB3 (by omega)
  have hBw := nxt (nxt (nxt hB0 hB1 (by omega)) hB2 (by omega)) hB3 (by omega)
  generalize (w1.alloc (.cells #[.int .i64 1, .int .i64 t, .slice none 0 0] 24)).alloc (.cells #[.int .i64 k, .int .i64 r] 28) = W2 at *
  have a0 := HR3.c (j := 0) rfl
  have a1 := HR3.c (j := 1) rfl
  have b0 := HQ3.c (j := 0) rfl
  have b1 := HQ3.c (j := 1) rfl
  have he := HE.out w3
  rw [hsr] at he
  clear hl2 hsr
  go_wp2
  go_ret
  exact ⟨rfl, hBw⟩
end Go.Proofs.Ytbmoiacjigmggaa
