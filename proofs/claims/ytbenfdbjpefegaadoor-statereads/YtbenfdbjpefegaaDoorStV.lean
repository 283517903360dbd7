/- Bytes that are lent: LentBytes, KeptBytes. -/
import Derived.Test.YtbenfdbjpefegaaDoorStBase
namespace Go.Proofs.YtbenfdbjpefegaaDoor
open Go.RowKit
set_option linter.unusedVariables false

def LentPost (bs : List Int) (w : World) (e : Ending) (w' : World) : Prop :=
  ∃ g cap, e = .returned (.slice (some ⟨g, 0, none⟩) bs.length cap) ∧ bs.length + 4 ≤ cap ∧ w'.ownsRow w.heap.size 5 1 (.slice (some ⟨g, 0, none⟩) (bs.length + 4) cap) (bs.length + 4) (bytesOf (bs ++ [201, 202, 203, 204])) ∧ Below w.heap.size w w'
set_option maxHeartbeats 1000000 in
theorem lent_any (A : Option Addr) (c : Nat) (bs : List Int) (w : World) (hA : Bytes w A bs) (hm : bs.length ≤ 1000000000) (hnil : A = none → c = 0) :
    Calls Tryd.prog 26 #[.slice A bs.length c] w (LentPost bs w) := by
  obtain ⟨i0, hi, hz0, hz1, hz2⟩ := info_parts info_u8
  have hrow := World.ownsRow_lit (base := w.heap.size) (e := 5) (size := 1) w #[] 0 (Nat.le_refl _) (Nat.zero_le _) rfl
  cases A with
  | none =>
    obtain rfl := bytes_none hA
    obtain rfl : c = 0 := hnil rfl
    clear hA hnil
    go_enter Tryd.func26, Tryd.ntmps26
    go_wp2_with (at_builtin; refine wpList_append_own _ rfl _ _ 27 rfl w.heap.size 5 i0 (.int .u8 0) 1 1 Tryd.underlying27 hi hz0 hz1 hz2 rfl (by decide) _ _ _ rfl (hrow.alloc _) ⟨w.heap.size + 1, 0, none⟩ 4 4 [.int .u8 201, .int .u8 202, .int .u8 203, .int .u8 204] rfl rfl (by have := cell_four_new (w.alloc (.cells #[] 5)) 5 (.int .u8 201) (.int .u8 202) (.int .u8 203) (.int .u8 204); rw [World.size_alloc] at this; exact this) (by simp [Value.oneCell']) (by unfold maxLen; omega) (by omega) (by simp; omega) ?_; intro v1 w1 hown1 hg1 hn1; obtain ⟨g1, cap1, rfl⟩ := ownsRow_succ hown1; have hcap := row_cap hown1)
    go_ret
    refine ⟨g1, cap1, rfl, by simpa using hcap, ?_, ?_⟩
    · simpa [bytesOf] using hown1
    · exact (((Below.refl _ w).alloc (Nat.le_refl _) _).alloc (by simp) _).grown hg1 (by simp; omega) (fun k e => by cases e; exact Nat.le_refl _)
  | some ad =>
    have HS := Lib.hid (bytes_src hA)
    have HRow := Lib.hid hrow
    clear hA hrow hnil
    go_enter Tryd.func26, Tryd.ntmps26
    go_wp2_with (first
      | (at_builtin; refine wpList_append_own_at _ rfl _ _ 27 rfl w.heap.size 5 i0 (.int .u8 0) 1 1 Tryd.underlying27 hi hz0 hz1 hz2 rfl (by decide) _ _ _ rfl HRow.out ad bs.length c (bytesOf bs) rfl (by simp [bytesOf]) HS.out (by intro u hu; simp [bytesOf] at hu; obtain ⟨x, _, rfl⟩ := hu; rfl) (by simp only [maxLen]; omega) (by omega) (by simp) ?_; intro v0 w0 hown0 hg0 hnil0 hat0; rw [Nat.zero_add] at hown0; obtain ⟨g0, cap0, rfl⟩ := form3 hown0 hnil0; have hw0 : w.heap.size ≤ w0.heap.size := Nat.le_trans (by simp) hg0.size)
      | (at_builtin; refine wpList_append_own _ rfl _ _ 27 rfl w.heap.size 5 i0 (.int .u8 0) 1 1 Tryd.underlying27 hi hz0 hz1 hz2 rfl (by decide) _ _ _ rfl (hown0.alloc _) ⟨w0.heap.size, 0, none⟩ 4 4 [.int .u8 201, .int .u8 202, .int .u8 203, .int .u8 204] rfl rfl (cell_four_new _ _ _ _ _ _) (by simp [Value.oneCell']) (by unfold maxLen; omega) (by omega) (by simp; omega) ?_; intro v1 w1 hown1 hg1 hn1; obtain ⟨g1, cap1, rfl⟩ := ownsRow_succ hown1; have hcap := row_cap hown1))
    go_ret
    refine ⟨g1, cap1, rfl, by omega, ?_, ?_⟩
    · simpa [bytesOf] using hown1
    · have hB0 : Below w.heap.size w w0 := ((Below.refl _ w).alloc (Nat.le_refl _) _).grown hg0 (by simp) (fun k e => by cases e; exact Nat.le_refl _)
      exact (hB0.alloc hw0 _).grown hg1 (by simp; omega) (fun k e => (hown0.lt k e).1)
set_option maxHeartbeats 2000000 in
theorem kept_yes (A : Option Addr) (c g cap base : Nat) (bs : List Int) (w : World) (hA : Bytes w A bs) (hm : bs.length ≤ 1000000000) (hcap : bs.length + 4 ≤ cap)
    (hrow : w.ownsRow base 5 1 (.slice (some ⟨g, 0, none⟩) (bs.length + 4) cap) (bs.length + 4) (bytesOf (bs ++ [201, 202, 203, 204]))) :
    Calls Tryd.prog 32 #[.slice (some ⟨g, 0, none⟩) bs.length cap, .slice A bs.length c] w (Yes w) := by
  have hb1 := bytes_row hrow 0 bs.length (by omega)
  have hb2 := bytes_row hrow bs.length 4 (by omega)
  simp only [List.drop_zero, List.take_left', List.drop_left'] at hb1 hb2
  have cv1 := conv_any (W := w.drew) (c := cap) (show BytesB w.heap.size w.drew (some ⟨g, 0, none⟩) bs from hb1)
  have cv2 := conv_any (W := w.drew) (c := c) (show BytesB w.heap.size w.drew A bs from hA)
  have hg := (hrow.lt g rfl).2
  have hal : BytesB w.heap.size (w.alloc (.cells #[.int .u8 201, .int .u8 202, .int .u8 203, .int .u8 204] 5)).drew (some ⟨g, bs.length, none⟩) [201, 202, 203, 204] := hb2.below (((Below.refl w.heap.size w).alloc (Nat.le_refl _) _).drew)
  have cv3 := conv_any (W := w.drew) (c := cap - bs.length) (show BytesB w.heap.size w.drew (some ⟨g, bs.length, none⟩) [201, 202, 203, 204] from hb2)
  have cv4 := conv_any (c := cap - bs.length) hal
  have cv5 := conv_any (W := (w.alloc (.cells #[.int .u8 201, .int .u8 202, .int .u8 203, .int .u8 204] 5)).drew) (c := 4) (show BytesB (w.heap.size + 1) (w.alloc (.cells #[.int .u8 201, .int .u8 202, .int .u8 203, .int .u8 204] 5)).drew (some ⟨w.heap.size, 0, none⟩) [201, 202, 203, 204] from (bytes_new w [201, 202, 203, 204] 5 #[.int .u8 201, .int .u8 202, .int .u8 203, .int .u8 204] (0, 0) rfl).b.mono (by simp))
  rw [show ([201, 202, 203, 204] : List Int).length = 4 from rfl] at cv3 cv4 cv5
  generalize strOfNums bs = st at *
  generalize strOfNums [201, 202, 203, 204] = st4 at *
  have k1 : ((bs.length : Int) == (bs.length : Int)) = true := by simp
  have k2 : (st.toList == st.toList) = true := by simp
  have k3 : (st4.toList == st4.toList) = true := by simp
  have hc1 : ¬ cap = bs.length := by omega
  have hcm : cap ≤ 9223372036854775807 := by
    have : cap ≤ maxLen := by
      rcases hrow.2 with ⟨e, _⟩ | ⟨g', cap', cur, e, _, _, _, hn, _⟩
      · cases e
      · cases e; exact hn
    simpa [maxLen] using this
  have hd4 : decide ((bs.length : Int) + 4 ≤ (cap : Int)) = true := decide_eq_true (by omega)
  have hd5 : (0 : Int) ≤ (bs.length : Int) := by omega
  have hd6 : (bs.length : Int) ≤ (bs.length : Int) + 4 := by omega
  have hd7 : (bs.length : Int) + 4 ≤ (cap : Int) := by omega
  clear hb1 hb2 hal hrow hA
  go_enter Tryd.func32, Tryd.ntmps32
  go_wp2_with fail
  go_region
  go_wp2
  go_ret
  exact ⟨rfl, ((Below.refl _ w).alloc (Nat.le_refl _) _).drew⟩
end Go.Proofs.YtbenfdbjpefegaaDoor
