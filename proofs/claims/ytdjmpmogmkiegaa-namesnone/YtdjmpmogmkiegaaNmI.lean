/- NamesNone, walked. -/
import Derived.Test.YtdjmpmogmkiegaaNmH
namespace Go.Proofs.Ytdjmpmogmkiegaa
open Go.RowKit Go.Maps
set_option linter.unusedVariables false

/-- No table: nil, or one that nobody made. -/
def NoTab (w : World) (p : Option Addr) : Prop := p = none ∨ ∃ B, p = some ⟨B, 0, none⟩ ∧ w.cell? ⟨B, 0, none⟩ = some (.pointer none)

theorem NoTab.below {w w' : World} {p : Option Addr} (h : NoTab w p) (hb : Below w.heap.size w w') : NoTab w' p := by
  rcases h with h | ⟨B, e, hc⟩
  · exact .inl h
  · exact .inr ⟨B, e, (hb.cell (p := ⟨B, 0, none⟩) (lt_of_cell hc)).trans hc⟩
theorem NoTab.made {w : World} {p : Option Addr} (h : NoTab w p) : Calls Try.prog 28 #[.pointer p] w (Made false w) := by
  rcases h with rfl | ⟨B, rfl, hc⟩
  · exact made_nil w
  · exact made_no B w hc

def Pure (v : Value) (w : World) (e : Ending) (w' : World) : Prop := e = .returned v ∧ w = w'

theorem add_none {p : Option Addr} (s : ByteArray) (w : World) (h : NoTab w p) : Calls Try.prog 12 #[.pointer p, .string s] w (Pure (.tuple #[.int .i64 0, .int .i64 1]) w) := by
  have h0 := h.made
  go_enter Try.func12, Try.ntmps12
  go_wp2_with fail
  refine h0.mono ?_
  rintro e w1 ⟨rfl, rfl⟩
  go_wp2
  go_ret2
  exact ⟨rfl, rfl⟩
theorem of_none {p : Option Addr} (s : ByteArray) (w : World) (h : NoTab w p) : Calls Try.prog 16 #[.pointer p, .string s] w (Pure (.tuple #[.int .i64 0, .int .i64 1]) w) := by
  have h0 := h.made
  go_enter Try.func16, Try.ntmps16
  go_wp2_with fail
  refine h0.mono ?_
  rintro e w1 ⟨rfl, rfl⟩
  go_wp2
  go_ret2
  exact ⟨rfl, rfl⟩
theorem name_none {p : Option Addr} (n : Int) (w : World) (h : NoTab w p) : Calls Try.prog 18 #[.pointer p, .int .i64 n] w (Pure (.tuple #[.string ⟨#[]⟩, .int .i64 1]) w) := by
  have h0 := h.made
  go_enter Try.func18, Try.ntmps18
  go_wp2_with fail
  refine h0.mono ?_
  rintro e w1 ⟨rfl, rfl⟩
  go_wp2
  go_ret2
  exact ⟨rfl, rfl⟩
theorem len_none {p : Option Addr} (w : World) (h : NoTab w p) : Calls Try.prog 11 #[.pointer p] w (Pure (.int .i64 0) w) := by
  have h0 := h.made
  go_enter Try.func11, Try.ntmps11
  go_wp2_with fail
  refine h0.mono ?_
  rintro e w1 ⟨rfl, rfl⟩
  go_wp2
  go_ret
  exact ⟨rfl, rfl⟩
theorem order_none {p : Option Addr} (w : World) (h : NoTab w p) : Calls Try.prog 20 #[.pointer p] w (Says (.slice none 0 0) w) := by
  have hB : Below w.heap.size w (w.alloc (.cells #[.pointer p] 25)) := (Below.refl _ _).alloc (Nat.le_refl _) _
  have h0 := (h.below hB).made
  go_enter Try.func20, Try.ntmps20
  go_wp2_with fail
  refine h0.mono ?_
  rintro e w1 ⟨rfl, rfl⟩
  go_wp2
  go_ret
  exact ⟨rfl, hB⟩

set_option maxHeartbeats 2000000 in
theorem none_law (s : ByteArray) (n : Int) (w : World) (hs : s.size ≤ maxLen) : Calls Try.prog 4 #[.string s, .int .i64 n] w (Yes w) := by
  by_cases h60 : 60 < s.size
  · have k1 : decide ((60 : Int) < (s.size : Int)) = true := decide_eq_true (by omega)
    go_enter Try.func4, Try.ntmps4
    go_wp2_with fail
    refine (awake_yes _).mono ?_
    rintro e w1 ⟨rfl, hB⟩
    go_wp2
    go_ret
    exact ⟨rfl, hB⟩
  · have k1 : decide ((60 : Int) < (s.size : Int)) = false := decide_eq_false (by omega)
    obtain ⟨W2, hW2⟩ : ∃ W2, (w.alloc (.cells #[.pointer none, .map none, .slice none 0 0] 44)).alloc (.cells #[.pointer none, .pointer (some ⟨w.heap.size, 0, none⟩)] 25) = W2 := ⟨_, rfl⟩
    have hB2 : Below w.heap.size w W2 := by rw [← hW2]; exact ((Below.refl _ _).alloc (Nat.le_refl _) _).alloc (by simp) _
    have hc0 : W2.cell? ⟨w.heap.size + 1, 0, none⟩ = some (.pointer none) := by rw [← hW2]; simp
    have hc1 : W2.cell? ⟨w.heap.size + 1, 1, none⟩ = some (.pointer (some ⟨w.heap.size, 0, none⟩)) := by rw [← hW2]; simp
    have hcB : W2.cell? ⟨w.heap.size, 0, none⟩ = some (.pointer none) := by rw [← hW2]; simp
    have hsl : w.heap.size + 1 < W2.heap.size := by rw [← hW2]; simp
    have hall : ∀ k : Nat, k < 2 → ∃ p, W2.cell? ⟨w.heap.size + 1, k, none⟩ = some (.pointer p) ∧ NoTab W2 p := by
      intro k hk
      match k, hk with
      | 0, _ => exact ⟨_, hc0, .inl rfl⟩
      | 1, _ => exact ⟨_, hc1, .inr ⟨_, rfl, hcB⟩⟩
    have HALL := Lib.hid hall
    have HB2 := Lib.hid hB2
    clear hc0 hc1 hcB hall hB2
    go_enter Try.func4, Try.ntmps4
    go_wp2
    clear hW2
    go_loopw [6, 7, 8, 9, 10, 11, 12] (fun i u7 u8 u9 u10 u11 u12 wr => ∃ k : Nat, k ≤ 2 ∧ i = .int .i64 k ∧ Below W2.heap.size W2 wr) (fun i u7 u8 u9 u10 u11 u12 wr => 2 - (intOf i).toNat)
    case atStart => exact ⟨0, by omega, rfl, Below.refl _ _⟩
    case round =>
      obtain ⟨k, hk, rfl, hB⟩ := hrel
      by_cases hlt : k < 2
      · obtain ⟨p, hp, hN⟩ := HALL.out k hlt
        have hp' := (hB.cell (p := ⟨w.heap.size + 1, k, none⟩) hsl).trans hp
        have HN := Lib.hid (hN.below hB)
        have q0 : (0 : Int) ≤ (k : Int) := by omega
        have q1 : (k : Int) < 2 := by omega
        have q2 : decide ((k : Int) < 2) = true := decide_eq_true q1
        clear hp hN
        go_wp2_with fail
        refine (add_none s _ HN.out).mono ?_
        rintro e w1 ⟨rfl, rfl⟩
        go_wp2_with fail
        refine (of_none s _ HN.out).mono ?_
        rintro e w1 ⟨rfl, rfl⟩
        go_wp2_with fail
        refine (name_none n _ HN.out).mono ?_
        rintro e w1 ⟨rfl, rfl⟩
        go_wp2_with fail
        refine (len_none _ HN.out).mono ?_
        rintro e w1 ⟨rfl, rfl⟩
        go_wp2_with fail
        refine (order_none _ HN.out).mono ?_
        rintro e w1 ⟨rfl, hB1⟩
        go_wp2
        go_roundw
        case rel => exact ⟨k + 1, by omega, by go_num, nxt hB hB1 hB.size⟩
        case measure => simp [intOf]; omega
      · have hd : decide ((k : Int) < 2) = false := decide_eq_false (by omega)
        have hBf := nxt HB2.out hB HB2.out.size
        go_wp2_with fail
        refine (awake_yes _).mono ?_
        rintro e w1 ⟨rfl, hB1⟩
        go_wp2
        go_ret
        exact ⟨rfl, nxt hBf hB1 hBf.size⟩
end Go.Proofs.Ytdjmpmogmkiegaa
