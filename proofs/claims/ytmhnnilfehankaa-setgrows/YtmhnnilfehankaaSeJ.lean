/- The document's With; risen. -/
import Derived.Test.YtmhnnilfehankaaSeI
namespace Go.Proofs.Ytmhnnilfehankaa
open Go.RowKit Go.Maps
set_option linter.unusedVariables false

theorem room3 {w W : World} (h : Below w.heap.size w W) (o : Obj) : w.heap.size ≤ (W.alloc o).heap.size := by have := h.size; simp; omega
theorem rw_bd (x : Int) (l : List Int) (k : Nat) (h : k ≤ l.length) : (rwRun x (l.take k)).2.length ≤ k + 1 := by
  have := rw_len x l k h
  split at this <;> omega

set_option maxHeartbeats 2000000 in
theorem rwith_any (A : Option Addr) (c : Nat) (l : List Int) (x : Int) (w : World) (hA : Ints w A l) (hlen : l.length ≤ 1000) :
    Calls Try.prog 21 #[.slice A l.length c, .int .i64 x] w (RowPost (rwithL l x) w) := by
  have HA := Lib.hid hA
  clear hA
  go_enter Try.func21, Try.ntmps21
  go_wp2
  go_loopw [5, 6, 7] (fun s5 s6 i wr => ∃ (k n : Nat) (b : Bool) (o : List Int), k ≤ l.length ∧ i = .int .i64 k ∧ s6 = .bool b ∧ rwRun x (l.take k) = (b, o) ∧ wr.ownsRow w.heap.size 3 1 s5 n (intsOf o) ∧ n ≤ 1001 ∧ Below w.heap.size w wr) (fun s5 s6 i wr => l.length - (intOf i).toNat)
  case atStart => exact ⟨0, 0, false, [], Nat.zero_le _, rfl, rfl, rfl, World.ownsRow_nil _ _ _ _, by omega, Below.refl _ _⟩
  case round =>
    obtain ⟨k, n, b, o, hk, rfl, rfl, hrun, ho, hn, hB⟩ := hrel
    have HO := Lib.hid ho
    have HBW := Lib.hid hB
    have HRUN := Lib.hid hrun
    have hsz := hB.size
    have HSx := Lib.hid (room3 hB (.cells #[.int .i64 x] 3))
    clear ho hrun
    by_cases hlt : k < l.length
    · obtain ⟨bl, off, rfl, hbl, hc0⟩ := HA.out (by omega)
      have hc : ∀ W, Below w.heap.size w W → W.cell? ⟨bl, off + k, none⟩ = some (.int .i64 (l[k]?.getD 0)) := fun W h => (h.cell (p := ⟨bl, off + k, none⟩) hbl).trans (hc0 k hlt)
      have hck := hc wr hB
      have hk0 : (0 : Int) ≤ (k : Int) := by omega
      have hk1 : (k : Int) < (l.length : Int) := by omega
      have q2 : decide (k < l.length) = true := decide_eq_true hlt
      have hst := rw_snoc x l k hlt
      have hbd := rw_bd x l (k + 1) (by omega)
      obtain ⟨y, hy⟩ : ∃ y, l[k]?.getD 0 = y := ⟨_, rfl⟩
      rw [hy] at hck hst hc
      rw [HRUN.out] at hst
      have HST := Lib.hid hst
      have HBD := Lib.hid hbd
      have HSy := Lib.hid (room3 hB (.cells #[.int .i64 y] 3))
      have HCK := Lib.hid hc
      clear hc hc0 hy hst hbd hB
      cases b with
      | true =>
        by_cases hyx : y = x
        · have d1 : (y != x) = false := by rw [hyx]; simp
          have HYX := Lib.hid hyx
          clear hyx
          go_wp2
          go_roundw
          case rel => exact ⟨k + 1, n, true, o, by omega, by go_num, rfl, by rw [HST.out]; simp [rwStep, HYX.out], HO.out, hn, HBW.out⟩
          case measure => simp [intOf]; omega
        · have d1 : (y != x) = true := by rw [bne_iff_ne]; exact hyx
          go_wp2_with (first
            | (at_builtin; refine wpList_app _ rfl _ _ 22 rfl w.heap.size Try.underlying22 _ _ _ rfl (row_below HO.out (alloc1 wr (.cells #[.int .i64 y] 3))) (some ⟨wr.heap.size, 0, none⟩) 1 1 [y] rfl rfl (ints_lit wr [y] 3 _ rfl) (by omega) (by omega) HSy.out ?_; intro v3 w3 hown3 hg3 hn3; have hput3 := row_put HO.out HBW.out hown3 hg3; clear hown3 hg3 hn3))
          go_roundw
          case rel =>
            have hst : rwRun x (l.take (k + 1)) = (true, o ++ [y]) := by rw [HST.out]; simp [rwStep, hyx]
            have hb2 := HBD.out
            rw [hst] at hb2
            exact ⟨k + 1, n + 1, true, o ++ [y], by omega, by go_num, rfl, hst, hput3.1, by rw [row_n hput3.1]; dsimp only at hb2; omega, hput3.2⟩
          case measure => simp [intOf]; omega
      | false =>
        by_cases hxy : x ≤ y
        · have d2 : decide (x ≤ y) = true := decide_eq_true hxy
          by_cases hyx : y = x
          · have d1 : (y != x) = false := by rw [hyx]; simp
            have HYX := Lib.hid hyx
            clear hyx
            go_wp2_with (first
              | (at_builtin; refine wpList_app _ rfl _ _ 22 rfl w.heap.size Try.underlying22 _ _ _ rfl (row_below HO.out (alloc1 wr (.cells #[.int .i64 x] 3))) (some ⟨wr.heap.size, 0, none⟩) 1 1 [x] rfl rfl (ints_lit wr [x] 3 _ rfl) (by omega) (by omega) HSx.out ?_; intro v3 w3 hown3 hg3 hn3; have hput3 := row_put HO.out HBW.out hown3 hg3; clear hown3 hg3 hn3; have hck3 := HCK.out w3 hput3.2))
            go_roundw
            case rel =>
              have hst : rwRun x (l.take (k + 1)) = (true, o ++ [x]) := by rw [HST.out]; simp [rwStep, HYX.out]
              have hb2 := HBD.out
              rw [hst] at hb2
              exact ⟨k + 1, n + 1, true, o ++ [x], by omega, by go_num, rfl, hst, hput3.1, by rw [row_n hput3.1]; dsimp only at hb2; omega, hput3.2⟩
            case measure => simp [intOf]; omega
          · have d1 : (y != x) = true := by rw [bne_iff_ne]; exact hyx
            go_wp2_with (first
              | (at_builtin; have hk := hput3; refine wpList_app _ rfl _ _ 22 rfl w.heap.size Try.underlying22 _ _ _ rfl (row_below hput3.1 (alloc1 w3 (.cells #[.int .i64 y] 3))) (some ⟨w3.heap.size, 0, none⟩) 1 1 [y] rfl rfl (ints_lit w3 [y] 3 _ rfl) (by omega) (by omega) (room3 hput3.2 _) ?_; intro v4 w4 hown4 hg4 hn4; have hput4 := row_put hput3.1 hput3.2 hown4 hg4; clear hown4 hg4 hn4)
              | (at_builtin; refine wpList_app _ rfl _ _ 22 rfl w.heap.size Try.underlying22 _ _ _ rfl (row_below HO.out (alloc1 wr (.cells #[.int .i64 x] 3))) (some ⟨wr.heap.size, 0, none⟩) 1 1 [x] rfl rfl (ints_lit wr [x] 3 _ rfl) (by omega) (by omega) HSx.out ?_; intro v3 w3 hown3 hg3 hn3; have hput3 := row_put HO.out HBW.out hown3 hg3; clear hown3 hg3 hn3; have hck3 := HCK.out w3 hput3.2))
            go_roundw
            case rel =>
              have hst : rwRun x (l.take (k + 1)) = (true, o ++ [x] ++ [y]) := by rw [HST.out]; simp [rwStep, hyx, hxy]
              have hb2 := HBD.out
              rw [hst] at hb2
              exact ⟨k + 1, n + 1 + 1, true, o ++ [x] ++ [y], by omega, by go_num, rfl, hst, hput4.1, by rw [row_n hput4.1]; dsimp only at hb2; omega, hput4.2⟩
            case measure => simp [intOf]; omega
        · have d2 : decide (x ≤ y) = false := decide_eq_false hxy
          have hyx : ¬ y = x := by omega
          have d1 : (y != x) = true := by rw [bne_iff_ne]; exact hyx
          go_wp2_with (first
            | (at_builtin; refine wpList_app _ rfl _ _ 22 rfl w.heap.size Try.underlying22 _ _ _ rfl (row_below HO.out (alloc1 wr (.cells #[.int .i64 y] 3))) (some ⟨wr.heap.size, 0, none⟩) 1 1 [y] rfl rfl (ints_lit wr [y] 3 _ rfl) (by omega) (by omega) HSy.out ?_; intro v3 w3 hown3 hg3 hn3; have hput3 := row_put HO.out HBW.out hown3 hg3; clear hown3 hg3 hn3))
          go_roundw
          case rel =>
            have hst : rwRun x (l.take (k + 1)) = (false, o ++ [y]) := by rw [HST.out]; simp [rwStep, hyx, hxy]
            have hb2 := HBD.out
            rw [hst] at hb2
            exact ⟨k + 1, n + 1, false, o ++ [y], by omega, by go_num, rfl, hst, hput3.1, by rw [row_n hput3.1]; dsimp only at hb2; omega, hput3.2⟩
          case measure => simp [intOf]; omega
    · have q2 : decide (k < l.length) = false := decide_eq_false hlt
      have hrun := HRUN.out
      rw [List.take_of_length_le (by omega)] at hrun
      have HR2 := Lib.hid hrun
      clear hrun
      cases b with
      | true =>
        have HE : Hid (rwithL l x = o) := by show rwithL l x = o; unfold rwithL; rw [HR2.out]; rfl
        go_wp2
        go_ret
        rw [HE.out]
        exact row_ends HO.out HBW.out
      | false =>
        have HE : Hid (rwithL l x = o ++ [x]) := by show rwithL l x = o ++ [x]; unfold rwithL; rw [HR2.out]; rfl
        go_wp2_with (first
          | (at_builtin; refine wpList_app _ rfl _ _ 22 rfl w.heap.size Try.underlying22 _ _ _ rfl (row_below HO.out (alloc1 wr (.cells #[.int .i64 x] 3))) (some ⟨wr.heap.size, 0, none⟩) 1 1 [x] rfl rfl (ints_lit wr [x] 3 _ rfl) (by omega) (by omega) HSx.out ?_; intro v3 w3 hown3 hg3 hn3; have hput3 := row_put HO.out HBW.out hown3 hg3; clear hown3 hg3 hn3))
        go_ret
        rw [HE.out]
        exact row_ends hput3.1 hput3.2

set_option maxHeartbeats 1000000 in
theorem risen_any (A : Option Addr) (c : Nat) (l : List Int) (w : World) (hA : Ints w A l) (hlen : l.length ≤ 900) :
    Calls Try.prog 14 #[.slice A l.length c] w (RowPost (risL l) w) := by
  have HA := Lib.hid hA
  clear hA
  go_enter Try.func14, Try.ntmps14
  go_wp2
  go_loopw [3, 4] (fun s3 i wr => ∃ (k n : Nat) (B : Option Addr) (d : Nat), k ≤ l.length ∧ i = .int .i64 k ∧ s3 = .slice B n d ∧ wr.ownsRow w.heap.size 3 1 (.slice B n d) n (intsOf (risL (l.take k))) ∧ Below w.heap.size w wr) (fun s3 i wr => l.length - (intOf i).toNat)
  case atStart => exact ⟨0, 0, none, 0, Nat.zero_le _, rfl, rfl, World.ownsRow_nil _ _ _ _, Below.refl _ _⟩
  case round =>
    obtain ⟨k, n, B, d, hk, rfl, rfl, ho, hB⟩ := hrel
    have HO := Lib.hid ho
    have HBW := Lib.hid hB
    have hA1 := HA.out.below hB
    clear ho
    by_cases hlt : k < l.length
    · obtain ⟨bl, off, rfl, hbl, hc⟩ := hA1 (by omega)
      have hck := hc k hlt
      have hk0 : (0 : Int) ≤ (k : Int) := by omega
      have hk1 : (k : Int) < (l.length : Int) := by omega
      have q2 : decide (k < l.length) = true := decide_eq_true hlt
      have hrs := ris_snoc l k hlt
      have hrr := ris_rise (l.take k)
      have hrl := ris_len (l.take k)
      rw [List.length_take] at hrl
      have hn := row_n HO.out
      obtain ⟨y, hy⟩ : ∃ y, l[k]?.getD 0 = y := ⟨_, rfl⟩
      rw [hy] at hck hrs
      have H := rwith_any B d (risL (l.take k)) y wr (own_ints hn.symm HO.out) (by omega)
      rw [rwith_eq hrr, ← hrs, ← hn] at H
      unfold RowPost at H
      clear hc hy hA1 hrs hrr hrl hn hB
      go_wp2_with fail
      refine H.mono ?_
      rintro e w2 ⟨B2, d2, rfl, ho2, hB2⟩
      have hsz := HBW.out.size
      go_wp2
      go_roundw
      case rel => exact ⟨k + 1, _, B2, d2, by omega, by go_num, rfl, row_more ho2 hsz, nxt HBW.out hB2 hsz⟩
      case measure => simp [intOf]; omega
    · have q2 : decide (k < l.length) = false := decide_eq_false hlt
      go_wp2
      go_ret
      have := HO.out
      rw [List.take_of_length_le (by omega)] at this
      exact row_ends this HBW.out
end Go.Proofs.Ytmhnnilfehankaa
