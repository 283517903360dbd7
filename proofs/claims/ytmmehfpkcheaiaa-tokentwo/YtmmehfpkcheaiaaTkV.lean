/- Bytes that are lent: LentBytes, KeptBytes. -/
import Derived.Test.YtmmehfpkcheaiaaTkU
import Derived.Test.YtmmehfpkcheaiaaTkR
namespace Go.Proofs.Ytmmehfpkcheaiaa
open Go.RowKit
set_option linter.unusedVariables false

theorem add_flat (b off j : Nat) : (⟨b, off, none⟩ : Addr).add j = ⟨b, off + j, none⟩ := by unfold Addr.add; split <;> simp_all

def LentPost (bs : List Int) (w : World) (e : Ending) (w' : World) : Prop :=
  ∃ g cap, e = .returned (.slice (some ⟨g, 0, none⟩) bs.length cap) ∧ bs.length + 4 ≤ cap ∧ w'.ownsRow w.heap.size 5 1 (.slice (some ⟨g, 0, none⟩) (bs.length + 4) cap) (bs.length + 4) (bytesOf (bs ++ [201, 202, 203, 204])) ∧ Below w.heap.size w w'

theorem cell_four_new (W : World) (t : TypeId) (a b c d : Value) : ∀ j u, [a, b, c, d][j]? = some u → (W.alloc (.cells #[a, b, c, d] t)).cell? ((⟨W.heap.size, 0, none⟩ : Addr).add j) = some u := by
  intro j u h
  match j with
  | 0 => simp at h; subst h; simp [Addr.add, World.cell?_alloc_new]
  | 1 => simp at h; subst h; simp [Addr.add, World.cell?_alloc_new]
  | 2 => simp at h; subst h; simp [Addr.add, World.cell?_alloc_new]
  | 3 => simp at h; subst h; simp [Addr.add, World.cell?_alloc_new]
  | j + 4 => simp at h

theorem bytes_src {w : World} {ad : Addr} {bs : List Int} (hA : Bytes w (some ad) bs) : ∀ j u, (bytesOf bs)[j]? = some u → (w.alloc (.cells #[] 5)).cell? (ad.add j) = some u := by
  intro j u hu
  have hj : j < bs.length := by
    rcases Nat.lt_or_ge j bs.length with h | h
    · exact h
    · rw [List.getElem?_eq_none (by simp [bytesOf]; omega)] at hu; cases hu
  obtain ⟨b, off, e, hb, hc⟩ := hA (by omega)
  injection e with e
  subst e
  rw [add_flat, World.cell?_alloc_lt _ _ _ hb, hc j hj]
  simp [bytesOf, List.getElem?_eq_getElem hj] at hu ⊢
  exact hu

theorem bytes_none {w : World} {bs : List Int} (hA : Bytes w none bs) : bs = [] := by
  cases bs with
  | nil => rfl
  | cons x r => obtain ⟨b, off, e, _⟩ := hA (by simp); cases e

theorem row_cap {W : World} {base : Nat} {e : TypeId} {size g n cap : Nat} {xs : List Value} (h : W.ownsRow base e size (.slice (some ⟨g, 0, none⟩) n cap) n xs) : n ≤ cap := by
  rcases h.2 with ⟨e', _⟩ | ⟨g', cap', cur, e', _, _, hn, _⟩
  · cases e'
  · cases e'; exact hn

set_option maxHeartbeats 1000000 in
theorem lent_any (A : Option Addr) (c : Nat) (bs : List Int) (w : World) (hA : Bytes w A bs) (hm : bs.length ≤ 1000000000) (hnil : A = none → c = 0) :
    Calls Try.prog 10 #[.slice A bs.length c] w (LentPost bs w) := by
  obtain ⟨i0, hi, hz0, hz1, hz2⟩ := info_parts info_u8
  have hrow := World.ownsRow_lit (base := w.heap.size) (e := 5) (size := 1) w #[] 0 (Nat.le_refl _) (Nat.zero_le _) rfl
  cases A with
  | none =>
    obtain rfl := bytes_none hA
    obtain rfl : c = 0 := hnil rfl
    clear hA hnil
    go_enter Try.func10, Try.ntmps10
    go_wp2_with (at_builtin; refine wpList_append_own _ rfl _ _ 22 rfl w.heap.size 5 i0 (.int .u8 0) 1 1 Try.underlying22 hi hz0 hz1 hz2 rfl (by decide) _ _ _ rfl (hrow.alloc _) ⟨w.heap.size + 1, 0, none⟩ 4 4 [.int .u8 201, .int .u8 202, .int .u8 203, .int .u8 204] rfl rfl (by have := cell_four_new (w.alloc (.cells #[] 5)) 5 (.int .u8 201) (.int .u8 202) (.int .u8 203) (.int .u8 204); rw [World.size_alloc] at this; exact this) (by simp [Value.oneCell']) (by unfold maxLen; omega) (by omega) (by simp; omega) ?_; intro v1 w1 hown1 hg1 hn1; obtain ⟨g1, cap1, rfl⟩ := ownsRow_succ hown1; have hcap := row_cap hown1)
    go_ret
    refine ⟨g1, cap1, rfl, by simpa using hcap, ?_, ?_⟩
    · simpa [bytesOf] using hown1
    · exact (((Below.refl _ w).alloc (Nat.le_refl _) _).alloc (by simp) _).grown hg1 (by simp; omega) (fun k e => by cases e; exact Nat.le_refl _)
  | some ad =>
    have HS := Lib.hid (bytes_src hA)
    have HRow := Lib.hid hrow
    clear hA hrow hnil
    go_enter Try.func10, Try.ntmps10
    go_wp2_with (first
      | (at_builtin; refine wpList_append_own_at _ rfl _ _ 22 rfl w.heap.size 5 i0 (.int .u8 0) 1 1 Try.underlying22 hi hz0 hz1 hz2 rfl (by decide) _ _ _ rfl HRow.out ad bs.length c (bytesOf bs) rfl (by simp [bytesOf]) HS.out (by intro u hu; simp [bytesOf] at hu; obtain ⟨x, _, rfl⟩ := hu; rfl) (by simp only [maxLen]; omega) (by omega) (by simp) ?_; intro v0 w0 hown0 hg0 hnil0 hat0; rw [Nat.zero_add] at hown0; obtain ⟨g0, cap0, rfl⟩ := form3 hown0 hnil0; have hw0 : w.heap.size ≤ w0.heap.size := Nat.le_trans (by simp) hg0.size)
      | (at_builtin; refine wpList_append_own _ rfl _ _ 22 rfl w.heap.size 5 i0 (.int .u8 0) 1 1 Try.underlying22 hi hz0 hz1 hz2 rfl (by decide) _ _ _ rfl (hown0.alloc _) ⟨w0.heap.size, 0, none⟩ 4 4 [.int .u8 201, .int .u8 202, .int .u8 203, .int .u8 204] rfl rfl (cell_four_new _ _ _ _ _ _) (by simp [Value.oneCell']) (by unfold maxLen; omega) (by omega) (by simp; omega) ?_; intro v1 w1 hown1 hg1 hn1; obtain ⟨g1, cap1, rfl⟩ := ownsRow_succ hown1; have hcap := row_cap hown1))
    go_ret
    refine ⟨g1, cap1, rfl, by omega, ?_, ?_⟩
    · simpa [bytesOf] using hown1
    · have hB0 : Below w.heap.size w w0 := ((Below.refl _ w).alloc (Nat.le_refl _) _).grown hg0 (by simp) (fun k e => by cases e; exact Nat.le_refl _)
      exact (hB0.alloc hw0 _).grown hg1 (by simp; omega) (fun k e => (hown0.lt k e).1)

theorem conv_zero (W : World) (A : Option Addr) (c : Nat) : (convert 22 9 (.slice A 0 c)).run Try.prog W = .ok (.string ⟨#[]⟩) W := by
  rw [run_convert_bytes_string W 22 9 5 _ 0 c Try.underlying22 Try.underlying5 Try.underlying9]
  cases A <;> simp [Conv.bytesToString, loadCells]
  all_goals rfl

theorem conv_any {B : Nat} {W : World} {A : Option Addr} {c : Nat} {l : List Int} (h : BytesB B W A l) : (convert 22 9 (.slice A l.length c)).run Try.prog W = .ok (.string (strOfNums l)) W := by
  cases l with
  | nil => exact conv_zero W A c
  | cons x r => exact conv_some B W A c _ h (by simp)

theorem bytes_row {W : World} {base g n cap : Nat} {l : List Int} (h : W.ownsRow base 5 1 (.slice (some ⟨g, 0, none⟩) n cap) n (bytesOf l)) (a k : Nat) (hk : a + k ≤ n) : BytesB W.heap.size W (some ⟨g, a, none⟩) ((l.drop a).take k) := by
  have hl : l.length = n := by have := h.1; simpa [bytesOf] using this
  intro hp
  rw [List.length_take, List.length_drop] at hp
  refine ⟨g, a, rfl, (h.lt g rfl).2, fun j hj => ?_⟩
  rw [List.length_take, List.length_drop] at hj
  rw [h.cellAt (a + j) (by omega), bytesOf, List.getElem?_map, List.getElem?_take, if_pos (by omega), List.getElem?_drop, List.getElem?_eq_getElem (by omega)]
  rfl

set_option maxHeartbeats 2000000 in
theorem kept_yes (A : Option Addr) (c g cap base : Nat) (bs : List Int) (w : World) (hA : Bytes w A bs) (hm : bs.length ≤ 1000000000) (hcap : bs.length + 4 ≤ cap)
    (hrow : w.ownsRow base 5 1 (.slice (some ⟨g, 0, none⟩) (bs.length + 4) cap) (bs.length + 4) (bytesOf (bs ++ [201, 202, 203, 204]))) :
    Calls Try.prog 14 #[.slice (some ⟨g, 0, none⟩) bs.length cap, .slice A bs.length c] w (Yes w) := by
  have hb1 := bytes_row hrow 0 bs.length (by omega)
  have hb2 := bytes_row hrow bs.length 4 (by omega)
  simp only [List.drop_zero, List.take_left', List.drop_left'] at hb1 hb2
  have cv1 := conv_any (W := w.drew) (c := cap) (show BytesB w.heap.size w.drew (some ⟨g, 0, none⟩) bs from hb1)
  have cv2 := conv_any (W := w.drew) (c := c) (show BytesB w.heap.size w.drew A bs from hA)
  have hg := (hrow.lt g rfl).2
  have hal : BytesB w.heap.size (w.alloc (.cells #[.int .u8 201, .int .u8 202, .int .u8 203, .int .u8 204] 5)).drew (some ⟨g, bs.length, none⟩) [201, 202, 203, 204] := hb2.below (((Below.refl w.heap.size w).alloc (Nat.le_refl _) _).drew)
  have cv3 := conv_any (W := w.drew) (c := cap - bs.length) (show BytesB w.heap.size w.drew (some ⟨g, bs.length, none⟩) [201, 202, 203, 204] from hb2)
  have cv4 := conv_any (c := cap - bs.length) hal
  have cv5 := conv_any (W := (w.alloc (.cells #[.int .u8 201, .int .u8 202, .int .u8 203, .int .u8 204] 5)).drew) (c := 4) (show BytesB (w.heap.size + 1) (w.alloc (.cells #[.int .u8 201, .int .u8 202, .int .u8 203, .int .u8 204] 5)).drew (some ⟨w.heap.size, 0, none⟩) [201, 202, 203, 204] from (bytes_new w [201, 202, 203, 204] 5 #[.int .u8 201, .int .u8 202, .int .u8 203, .int .u8 204] (0, 0) rfl).b.mono (by simp))
  rw [show ([201, 202, 203, 204] : List Int).length = 4 from rfl] at cv3 cv4 cv5
  generalize strOfNums bs = st at *
  generalize strOfNums [201, 202, 203, 204] = st4 at *
  have k1 : ((bs.length : Int) == (bs.length : Int)) = true := by simp
  have k2 : (st.toList == st.toList) = true := by simp
  have k3 : (st4.toList == st4.toList) = true := by simp
  have hc1 : ¬ cap = bs.length := by omega
  have hcm : cap ≤ 9223372036854775807 := by
    have : cap ≤ maxLen := by
      rcases hrow.2 with ⟨e, _⟩ | ⟨g', cap', cur, e, _, _, _, hn, _⟩
      · cases e
      · cases e; exact hn
    simpa [maxLen] using this
  have hd4 : decide ((bs.length : Int) + 4 ≤ (cap : Int)) = true := decide_eq_true (by omega)
  have hd5 : (0 : Int) ≤ (bs.length : Int) := by omega
  have hd6 : (bs.length : Int) ≤ (bs.length : Int) + 4 := by omega
  have hd7 : (bs.length : Int) + 4 ≤ (cap : Int) := by omega
  clear hb1 hb2 hal hrow hA
  go_enter Try.func14, Try.ntmps14
  go_wp2_with fail
  go_region
  go_wp2
  go_ret
  exact ⟨rfl, ((Below.refl _ w).alloc (Nat.le_refl _) _).drew⟩
end Go.Proofs.Ytmmehfpkcheaiaa
