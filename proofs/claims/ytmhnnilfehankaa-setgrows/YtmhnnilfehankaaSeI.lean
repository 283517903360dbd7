/- The document's answers: Find, Without, With, risen. -/
import Derived.Test.YtmhnnilfehankaaSeH
namespace Go.Proofs.Ytmhnnilfehankaa
open Go.RowKit Go.Maps
set_option linter.unusedVariables false

theorem low_take (l : List Int) (x : Int) (k : Nat) (h : k < l.length) : low (l.take (k + 1)) x = low (l.take k) x + (if l[k]?.getD 0 < x then 1 else 0) := by
  unfold low
  rw [take_snoc l k h, List.countP_append, List.getElem?_eq_getElem h]
  simp [List.countP_cons]
theorem isIn_take (l : List Int) (x : Int) (k : Nat) (h : k < l.length) : isIn (l.take (k + 1)) x = (isIn (l.take k) x || (l[k]?.getD 0 == x)) := by
  unfold isIn
  rw [take_snoc l k h, List.getElem?_eq_getElem h]
  simp only [List.contains_eq_any_beq, List.any_append, List.any_cons, List.any_nil, Bool.or_false, Option.getD_some]
  congr 1
  exact Bool.beq_comm
theorem low_take_le (l : List Int) (x : Int) (k : Nat) : low (l.take k) x ≤ k := Nat.le_trans (low_le _ _) (by rw [List.length_take]; omega)

set_option maxHeartbeats 1000000 in
theorem rfind_any (A : Option Addr) (c : Nat) (l : List Int) (x : Int) (w : World) (hA : Ints w A l) (hlen : l.length ≤ 1000) :
    Calls Try.prog 17 #[.slice A l.length c, .int .i64 x] w (Says (foundV l x) w) := by
  have HA := Lib.hid hA
  clear hA
  go_enter Try.func17, Try.ntmps17
  go_wp2
  go_loopw [6, 7, 8] (fun s6 s7 i wr => ∃ (k n : Nat) (b : Bool), k ≤ l.length ∧ i = .int .i64 k ∧ s6 = .int .i64 n ∧ n = low (l.take k) x ∧ s7 = .bool b ∧ b = isIn (l.take k) x ∧ wr = w) (fun s6 s7 i wr => l.length - (intOf i).toNat)
  case atStart => exact ⟨0, 0, false, Nat.zero_le _, rfl, rfl, rfl, rfl, rfl, rfl⟩
  case round =>
    obtain ⟨k, n, b, hk, rfl, rfl, hn, rfl, hb, rfl⟩ := hrel
    have hnk : n ≤ k := by rw [hn]; exact low_take_le _ _ _
    have HN := Lib.hid hn
    have HB := Lib.hid hb
    clear hn hb
    by_cases hlt : k < l.length
    · obtain ⟨bl, off, rfl, hbl, hc⟩ := HA.out (by omega)
      have hck := hc k hlt
      have hk0 : (0 : Int) ≤ (k : Int) := by omega
      have hk1 : (k : Int) < (l.length : Int) := by omega
      have q2 : decide (k < l.length) = true := decide_eq_true hlt
      have hlow := low_take l x k hlt
      have hisin := isIn_take l x k hlt
      obtain ⟨y, hy⟩ : ∃ y, l[k]?.getD 0 = y := ⟨_, rfl⟩
      rw [hy] at hck hlow hisin
      rw [← HN.out] at hlow
      rw [← HB.out] at hisin
      have HL := Lib.hid hlow
      have HI := Lib.hid hisin
      clear hc hy hlow hisin
      cases b with
      | true =>
        by_cases hyx : y < x
        · go_wp2
          go_roundw
          case rel => exact ⟨k + 1, n + 1, true, by omega, by go_num, by go_num, by rw [HL.out, if_pos hyx], rfl, HI.out.symm, trivial⟩
          case measure => simp [intOf]; omega
        · go_wp2
          go_roundw
          case rel => exact ⟨k + 1, n, true, by omega, by go_num, rfl, by rw [HL.out, if_neg hyx]; rfl, rfl, HI.out.symm, trivial⟩
          case measure => simp [intOf]; omega
      | false =>
        by_cases hyx : y < x
        · go_wp2
          go_roundw
          case rel => exact ⟨k + 1, n + 1, (y == x), by omega, by go_num, by go_num, by rw [HL.out, if_pos hyx], rfl, HI.out.symm, trivial⟩
          case measure => simp [intOf]; omega
        · go_wp2
          go_roundw
          case rel => exact ⟨k + 1, n, (y == x), by omega, by go_num, rfl, by rw [HL.out, if_neg hyx]; rfl, rfl, HI.out.symm, trivial⟩
          case measure => simp [intOf]; omega
    · have q2 : decide (k < l.length) = false := decide_eq_false hlt
      have hn := HN.out
      have hb := HB.out
      rw [List.take_of_length_le (by omega)] at hn hb
      have HN2 := Lib.hid hn
      have HB2 := Lib.hid hb
      clear hn hb
      go_wp2
      refine bodyPost_ret (v := .tuple #[.int .i64 n, .bool b]) (by simp [results, Try.f17, go_sem]) rfl ?_
      refine ⟨?_, Below.refl _ _⟩
      unfold foundV
      rw [← HN2.out, ← HB2.out]

/-- A list of its own, or nil. -/
def RowPost (m : List Int) (w : World) (e : Ending) (w' : World) : Prop :=
  ∃ A c, e = .returned (.slice A m.length c) ∧ w'.ownsRow w.heap.size 3 1 (.slice A m.length c) m.length (intsOf m) ∧ Below w.heap.size w w'
theorem row_shape {W : World} {b : Nat} {v : Value} {n : Nat} {xs : List Value} (h : W.ownsRow b 3 1 v n xs) : ∃ A c, v = .slice A n c ∧ n ≤ c := by
  rcases h.2 with ⟨rfl, rfl⟩ | ⟨g, cap, cur, rfl, _, _, h1, _⟩
  · exact ⟨none, 0, rfl, Nat.le_refl _⟩
  · exact ⟨_, cap, rfl, h1⟩
theorem row_fit {W : World} {b : Nat} {A : Option Addr} {c n : Nat} {xs : List Value} (h : W.ownsRow b 3 1 (.slice A n c) n xs) : n ≤ c := by
  obtain ⟨A', c', e, h'⟩ := row_shape h
  injection e with e1 e2 e3
  omega
theorem row_ends {w W : World} {m : List Int} {n : Nat} {v : Value} (h : W.ownsRow w.heap.size 3 1 v n (intsOf m)) (hB : Below w.heap.size w W) : RowPost m w (.returned v) W := by
  have hn : n = m.length := by have := h.1; simp [intsOf] at this; omega
  subst hn
  obtain ⟨A, c, rfl, _⟩ := row_shape h
  exact ⟨A, c, rfl, h, hB⟩
/-- A number put behind a row of the call's own. -/
theorem row_put {w W w3 : World} {v v3 : Value} {n : Nat} {o : List Int} {y : Int} (ho : W.ownsRow w.heap.size 3 1 v n (intsOf o)) (hB : Below w.heap.size w W) (h3 : w3.ownsRow w.heap.size 3 1 v3 (n + 1) (intsOf o ++ intsOf [y])) (hg : (W.alloc (.cells #[.int .i64 y] 3)).grownBy w3 v.ownBlock) :
    w3.ownsRow w.heap.size 3 1 v3 (n + 1) (intsOf (o ++ [y])) ∧ Below w.heap.size w w3 := by
  refine ⟨by rw [show intsOf (o ++ [y]) = intsOf o ++ intsOf [y] by simp [intsOf]]; exact h3, ?_⟩
  have h1 := hB.alloc hB.size (.cells #[.int .i64 y] 3)
  exact h1.grown hg h1.size (fun k e => (ho.lt k e).1)
theorem row_n {W : World} {b n : Nat} {v : Value} {o : List Int} (h : W.ownsRow b 3 1 v n (intsOf o)) : n = o.length := by
  have := h.1; simp [intsOf] at this; omega

set_option maxHeartbeats 1000000 in
theorem rwithout_any (A : Option Addr) (c : Nat) (l : List Int) (x : Int) (w : World) (hA : Ints w A l) (hlen : l.length ≤ 1000) :
    Calls Try.prog 22 #[.slice A l.length c, .int .i64 x] w (RowPost (outF l x) w) := by
  have HA := Lib.hid hA
  clear hA
  go_enter Try.func22, Try.ntmps22
  go_wp2
  go_loopw [5, 6] (fun s5 i wr => ∃ (k n : Nat), k ≤ l.length ∧ i = .int .i64 k ∧ wr.ownsRow w.heap.size 3 1 s5 n (intsOf (outF (l.take k) x)) ∧ n ≤ 1000 ∧ Below w.heap.size w wr) (fun s5 i wr => l.length - (intOf i).toNat)
  case atStart => exact ⟨0, 0, Nat.zero_le _, rfl, World.ownsRow_nil _ _ _ _, by omega, Below.refl _ _⟩
  case round =>
    obtain ⟨k, n, hk, rfl, ho, hn, hB⟩ := hrel
    have HO := Lib.hid ho
    have HBW := Lib.hid hB
    have hsz := hB.size
    have hA1 := HA.out.below hB
    clear ho hB
    by_cases hlt : k < l.length
    · obtain ⟨bl, off, rfl, hbl, hc⟩ := hA1 (by omega)
      have hck := hc k hlt
      have hk0 : (0 : Int) ≤ (k : Int) := by omega
      have hk1 : (k : Int) < (l.length : Int) := by omega
      have q2 : decide (k < l.length) = true := decide_eq_true hlt
      have hof := outF_snoc x l k hlt
      obtain ⟨y, hy⟩ : ∃ y, l[k]?.getD 0 = y := ⟨_, rfl⟩
      rw [hy] at hck hof
      have HF := Lib.hid hof
      have HS := Lib.hid (show w.heap.size ≤ (wr.alloc (.cells #[.int .i64 y] 3)).heap.size by simp; omega)
      have hbd : (outF (l.take (k + 1)) x).length ≤ 1000 := Nat.le_trans (outF_le _ _) (by rw [List.length_take]; omega)
      clear hc hy hof hA1
      by_cases hyx : y = x
      · have d1 : (y != x) = false := by rw [hyx]; simp
        have HYX := Lib.hid hyx
        clear hyx
        go_wp2
        go_roundw
        case rel => exact ⟨k + 1, n, by omega, by go_num, by rw [HF.out, if_pos HYX.out, List.append_nil]; exact HO.out, hn, HBW.out⟩
        case measure => simp [intOf]; omega
      · have d1 : (y != x) = true := by rw [bne_iff_ne]; exact hyx
        go_wp2_with (first
          | (at_builtin; refine wpList_app _ rfl _ _ 22 rfl w.heap.size Try.underlying22 _ _ _ rfl (row_below HO.out (alloc1 wr (.cells #[.int .i64 y] 3))) (some ⟨wr.heap.size, 0, none⟩) 1 1 [y] rfl rfl (ints_lit wr [y] 3 _ rfl) (by omega) (by omega) HS.out ?_; intro v3 w3 hown3 hg3 hn3; have hput := row_put HO.out HBW.out hown3 hg3; clear hown3 hg3 hn3))
        go_roundw
        case rel =>
          have hput' := hput.1
          rw [show outF (l.take k) x ++ [y] = outF (l.take (k + 1)) x by rw [HF.out, if_neg hyx]] at hput'
          exact ⟨k + 1, n + 1, by omega, by go_num, hput', by rw [row_n hput']; exact hbd, hput.2⟩
        case measure => simp [intOf]; omega
    · have q2 : decide (k < l.length) = false := decide_eq_false hlt
      go_wp2
      go_ret
      have := HO.out
      rw [List.take_of_length_le (by omega)] at this
      exact row_ends this HBW.out
end Go.Proofs.Ytmhnnilfehankaa
