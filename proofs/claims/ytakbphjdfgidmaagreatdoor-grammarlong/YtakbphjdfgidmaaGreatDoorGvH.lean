/- GrammarLong. -/
import Derived.Test.YtakbphjdfgidmaaGreatDoorGuJ
namespace Go.Proofs.YtakbphjdfgidmaaGreatDoor
open Go.RowKit Go.Maps
set_option linter.unusedVariables false
set_option maxRecDepth 100000

set_option maxHeartbeats 1000000 in
theorem pick_ex (x n : Int) (h1 : -9223372036854775808 ≤ x) (h2 : x ≤ 9223372036854775807) (hn : 0 < n) (hn2 : n ≤ 100000) : ∃ d : Nat, (d : Int) < n ∧ ∀ w, Calls Tryz.prog 25 #[.int .i64 x, .int .i64 n] w fun e w' => e = .returned (.int .i64 (d : Int)) ∧ w' = w := by
  have g1 := Int.tmod_lt_of_pos x hn
  have g2 : -n < x.tmod n := by
    have := Int.neg_tmod x n
    have h3 := Int.tmod_lt_of_pos (-x) hn
    omega
  have k0 : (n == 0) = false := by simp; omega
  have kz : ¬ n = 0 := by omega
  have k1 : decide (n ≤ 0) = false := decide_eq_false (by omega)
  have hw : wrap64 (x.tmod n) = x.tmod n := by unfold wrap64; omega
  by_cases hneg : x.tmod n < 0
  · obtain ⟨d, hd⟩ := Int.eq_ofNat_of_zero_le (show 0 ≤ x.tmod n + n by omega)
    have HP := Lib.hid hd
    have kn : decide (x.tmod n < 0) = true := decide_eq_true hneg
    have HW : Hid (wrap64 (x.tmod n + n) = x.tmod n + n) := Lib.hid (by unfold wrap64; omega)
    refine ⟨d, by omega, fun w => ?_⟩
    clear g1 g2 h1 h2 hn hn2 hneg hd
    go_enter Tryz.func25, Tryz.ntmps25
    go_wp2
    go_ret
    exact ⟨ret_int (by rw [HW.out, HP.out]), rfl⟩
  · obtain ⟨d, hd⟩ := Int.eq_ofNat_of_zero_le (show 0 ≤ x.tmod n by omega)
    have HP := Lib.hid hd
    have kn : decide (x.tmod n < 0) = false := decide_eq_false hneg
    refine ⟨d, by omega, fun w => ?_⟩
    clear g1 g2 h1 h2 hn hn2 hneg hd
    go_enter Tryz.func25, Tryz.ntmps25
    go_wp2
    go_ret
    exact ⟨ret_int HP.out, rfl⟩
theorem rparse_str (s : ByteArray) (w : World) (hs : s.size ≤ 7000) :
    Calls Tryz.prog 22 #[.slice (some ⟨w.heap.size, 0, none⟩) s.size (grownCap w s.size 0 5)] (Lib.bytesWorld w 5 s) (ParsePost (parseX (nums s)) (Lib.bytesWorld w 5 s)) := by
  have h := rparse_any (some ⟨w.heap.size, 0, none⟩) (grownCap w s.size 0 5) (nums s) (Lib.bytesWorld w 5 s) (bytes_of_str w s) (nums_octets s) (by rw [nums_len]; exact grownCap_ge _ _ _ _) (by rw [nums_len]; omega) (text_fine' (by rw [nums_len]; exact hs))
  rwa [nums_len] at h
theorem conv_five (W : World) (a b c d e : Int) : (convert 41 9 (.slice (some ⟨W.heap.size, 0, none⟩) 5 5)).run Tryz.prog (W.alloc (.cells #[.int .u8 a, .int .u8 b, .int .u8 c, .int .u8 d, .int .u8 e] 5)) = .ok (.string (strOfNums [a, b, c, d, e])) (W.alloc (.cells #[.int .u8 a, .int .u8 b, .int .u8 c, .int .u8 d, .int .u8 e] 5)) := by
  have h := conv_any (W := W.alloc (.cells #[.int .u8 a, .int .u8 b, .int .u8 c, .int .u8 d, .int .u8 e] 5)) (c := 5) (l := [a, b, c, d, e]) (bytes_new W [a, b, c, d, e] 5 #[.int .u8 a, .int .u8 b, .int .u8 c, .int .u8 d, .int .u8 e] (0, 0) rfl).b
  exact h
theorem size_five (a b c d e : Int) : (strOfNums [a, b, c, d, e]).size = 5 := by rw [strOfNums_size]; rfl

end Go.Proofs.YtakbphjdfgidmaaGreatDoor
