/- The document's Same; put, Encode; OverBytes, CopyState. -/
import Derived.Test.YtbenfdbjpefegaaDoorStR
import Derived.Test.YtbenfdbjpefegaaDoorStE
import Derived.Test.YtbenfdbjpefegaaDoorStRg
namespace Go.Proofs.YtbenfdbjpefegaaDoor
open Go.RowKit Go.Maps
set_option linter.unusedVariables false

theorem sameB_len {t n t' n' : Int} {l m : List Int} (h : l.length ≠ m.length) : sameB t n l t' n' m = false := by
  unfold sameB; rw [unlike_len h]; simp
set_option maxHeartbeats 1000000 in
theorem rsame_any (t n t' n' : Int) (A B : Option Addr) (c d : Nat) (l m : List Int) (w : World) (hA : Ints w A l) (hB : Ints w B m) (hlen : l.length ≤ 1000) :
    Calls Tryd.prog 25 #[stV t n A l.length c, stV t' n' B m.length d] w (Says (.bool (sameB t n l t' n' m)) w) := by
  have hB0 : Below w.heap.size w ((w.alloc (.cells #[.int .i64 t, .int .i64 n, .slice A l.length c] 24)).alloc (.cells #[.int .i64 t', .int .i64 n', .slice B m.length d] 24)) := (alloc1 w _).alloc (by simp) _
  unfold stV
  cases h1 : (t != t')
  · cases h2 : (n != n')
    · by_cases hl : l.length = m.length
      · have k0 : ((l.length : Int) != (m.length : Int)) = false := by rw [hl]; simp
        have et : t = t' := by simpa using h1
        have en : n = n' := by simpa using h2
        have HE : sameB t n l t' n' m = (l == m) := by unfold sameB; rw [et, en]; simp
        rw [HE]
        have HX := (Holds.new w 24 #[.int .i64 t, .int .i64 n, .slice A l.length c]).alloc (.cells #[.int .i64 t', .int .i64 n', .slice B m.length d] 24)
        have HY := Holds.new (w.alloc (.cells #[.int .i64 t, .int .i64 n, .slice A l.length c] 24)) 24 #[.int .i64 t', .int .i64 n', .slice B m.length d]
        rw [World.size_alloc] at HY
        have hA' := Lib.hid (hA.below hB0)
        have hB' := Lib.hid (hB.below hB0)
        have HL := Lib.hid hl
        clear hA hB hl et en HE
        go_enter Tryd.func25, Tryd.ntmps25
        go_wp2
        generalize (w.alloc (.cells #[.int .i64 t, .int .i64 n, .slice A l.length c] 24)).alloc (.cells #[.int .i64 t', .int .i64 n', .slice B m.length d] 24) = W0 at *
        have x2 := HX.c (j := 2) rfl
        have y2 := HY.c (j := 2) rfl
        go_loopw [5] (fun i wr => ∃ (k n : Nat), k ≤ l.length ∧ i = .int .i64 k ∧ AlikeTo l m k ∧ wr = W0.drewN n) (fun i wr => l.length - (intOf i).toNat)
        case atStart => exact ⟨0, 0, Nat.zero_le _, rfl, fun j h => absurd h (Nat.not_lt_zero _), rfl⟩
        case round =>
          obtain ⟨k, q, hk, rfl, hal, rfl⟩ := hrel
          have HAL := Lib.hid hal
          clear hal
          by_cases hlt : k < l.length
          · obtain ⟨b, off, rfl, hb, hc⟩ := hA'.out (by omega)
            obtain ⟨b', off', rfl, hb', hc'⟩ := hB'.out (by have := HL.out; omega)
            have hck := hc k hlt
            have hck' := hc' k (by have := HL.out; omega)
            have hk0 : (0 : Int) ≤ (k : Int) := by omega
            have hk1 : (k : Int) < (l.length : Int) := by omega
            have hk2 : (k : Int) < (m.length : Int) := by have := HL.out; omega
            obtain ⟨x, hx⟩ : ∃ x, l[k]?.getD 0 = x := ⟨_, rfl⟩
            obtain ⟨y, hy⟩ : ∃ y, m[k]?.getD 0 = y := ⟨_, rfl⟩
            rw [hx] at hck
            rw [hy] at hck'
            have HXX := Lib.hid hx
            have HYY := Lib.hid hy
            clear hc hc' hx hy
            by_cases hxy : x = y
            · have HXY := Lib.hid hxy
              have kx : (x != y) = false := by rw [hxy]; simp
              clear hxy
              go_wp2_with fail
              go_quiet (fail)
              go_wp2
              go_roundw
              case rel => exact ⟨k + 1, _, by omega, by go_num, HAL.out.step (by rw [HXX.out, HYY.out, HXY.out]), rfl⟩
              case measure => simp [intOf]; omega
            · have HXY := Lib.hid hxy
              have kx : (x != y) = true := by rw [bne_iff_ne]; exact hxy
              clear hxy
              go_wp2_with fail
              go_quiet (fail)
              go_wp2
              go_ret
              exact ⟨ret_bool (unlike HXX.out HYY.out HXY.out).symm, below_drewN (below_drewN hB0 q) _⟩
          · go_wp2
            go_ret
            exact ⟨ret_bool (by rw [HAL.out.eq HL.out (by omega)]; exact (beq_self_eq_true m).symm), below_drewN hB0 q⟩
      · have k0 : ((l.length : Int) != (m.length : Int)) = true := by rw [bne_iff_ne]; omega
        rw [sameB_len hl]
        clear hl hA hB
        go_enter Tryd.func25, Tryd.ntmps25
        go_wp2
        go_ret
        exact ⟨rfl, hB0⟩
    · have hf : sameB t n l t' n' m = false := by unfold sameB; rw [show (n == n') = false by simpa using h2]; simp
      rw [hf]
      clear hA hB hf
      go_enter Tryd.func25, Tryd.ntmps25
      go_wp2
      go_ret
      exact ⟨rfl, hB0⟩
  · have hf : sameB t n l t' n' m = false := by unfold sameB; rw [show (t == t') = false by simpa using h1]; simp
    rw [hf]
    clear hA hB hf
    go_enter Tryd.func25, Tryd.ntmps25
    go_wp2
    go_ret
    exact ⟨rfl, hB0⟩

set_option maxHeartbeats 2000000 in
theorem rput_bytes (base g0 cap0 : Nat) (xs : List Int) (s : Nat) (x : Int) (w : World)
    (hrow : w.ownsRow base 5 1 (.slice (some ⟨g0, 0, none⟩) xs.length cap0) xs.length (bytesOf xs)) (hbase : base ≤ w.heap.size) (hs : s ≤ 8) (hs1 : 1 ≤ s) (hx : xs.length ≤ 1000) :
    Calls Tryd.prog 39 #[.slice (some ⟨g0, 0, none⟩) xs.length cap0, .int .i64 x, .int .i64 s] w (AppB base g0 (xs ++ be s x) w) := by
  obtain ⟨i0, hi, hz0, hz1, hz2⟩ := info_parts info_u8
  have HROW := Lib.hid hrow
  clear hrow
  go_enter Tryd.func39, Tryd.ntmps39
  go_wp2
  go_loopw [0, 7] (fun s0 i wr => ∃ (j g cap m : Nat) (ys : List Int), j ≤ s ∧ i = .int .i64 ((s : Int) - 1 - j) ∧ s0 = .slice (some ⟨g, 0, none⟩) m cap ∧ m = ys.length ∧ m = xs.length + j ∧ ys = xs ++ (be s x).take j ∧ wr.ownsRow base 5 1 (.slice (some ⟨g, 0, none⟩) m cap) m (bytesOf ys) ∧ Below base w wr ∧ (g = g0 ∨ w.heap.size ≤ g)) (fun s0 i wr => (intOf i + 1).toNat)
  case atStart => exact ⟨0, g0, cap0, xs.length, xs, Nat.zero_le _, by go_num, rfl, rfl, by omega, by simp, HROW.out, Below.refl _ _, .inl rfl⟩
  case round =>
    obtain ⟨j, g, cap, m, ys, hj, rfl, rfl, hm, hm2, hys, hown, hB, hg⟩ := hrel
    have HOWN := Lib.hid hown
    have HYS := Lib.hid hys
    have HM := Lib.hid hm
    have HB := Lib.hid hB
    have HG := Lib.hid hg
    have HM2 := Lib.hid hm2
    have hsz := hB.size
    have hm1 : m ≤ 1010 := by omega
    clear hown hys hm hB hg hm2
    by_cases hjs : j < s
    · obtain ⟨d, hd⟩ : ∃ d : Nat, d = s - 1 - j := ⟨_, rfl⟩
      have e1 : (s : Int) - 1 - (j : Int) = (d : Int) := by omega
      obtain ⟨q, hq⟩ : ∃ q : Nat, q = 8 * d := ⟨_, rfl⟩
      have e2 : (8 : Int) * (d : Int) = (q : Int) := by omega
      have hq0 : (0 : Int) ≤ (q : Int) := by omega
      have hq1 : (q : Int) ≤ 64 := by omega
      have hd1 : (d : Int) ≤ 8 := by omega
      have hd0 : (0 : Int) ≤ (d : Int) := by omega
      have HQ := Lib.hid hq
      have HD := Lib.hid hd
      have HE1 := Lib.hid e1
      rw [e1]
      clear hq hd e1
      go_wp2_with (at_builtin; refine wpList_append_own_at _ rfl _ _ 27 rfl base 5 i0 (.int .u8 0) 1 1 Tryd.underlying27 hi hz0 hz1 hz2 rfl (by decide) _ _ _ rfl (HOWN.out.alloc _) ⟨wr.heap.size, 0, none⟩ 1 1 [.int .u8 (x / 2 ^ q % 256)] rfl rfl (cell_one _ _ _) (by intro u hu; simp at hu; subst hu; rfl) (by unfold maxLen; omega) (by omega) (by simp; omega) ?_; intro v5 w5 hown5 hg5 hnil5 hat5; obtain ⟨g5, cap5, rfl⟩ := form3 hown5 hnil5; have HOWN5 := Lib.hid hown5; have HG5 := Lib.hid hg5; have HAT5 := Lib.hid hat5; clear hown5 hg5 hnil5 hat5)
      go_roundw
      case rel =>
        have hg5 := HG5.out
        have hs5 := hg5.size
        simp only [World.size_alloc] at hs5
        have hat : g5 = g ∨ g5 = wr.heap.size + 1 := by
          rcases HAT5.out with e | e
          · exact .inl (Option.some.inj e)
          · exact .inr (by have := Option.some.inj e; simpa using this)
        have hgl : g < wr.heap.size ∧ base ≤ g := by have := HOWN.out.lt g rfl; exact ⟨this.2, this.1⟩
        refine ⟨j + 1, g5, cap5, m + 1, ys ++ [x / 2 ^ q % 256], by omega, ?_, rfl, by rw [List.length_append, ← HM.out]; rfl, by rw [HM2.out]; omega, ?_, ?_, ?_, ?_⟩
        · have := HE1.out; congr 1; omega
        · rw [HYS.out, be_take x hjs, List.append_assoc, beB, pow256, ← HD.out, ← HQ.out]
        · have := HOWN5.out; rwa [bytesOf_snoc] at this
        · exact (HB.out.alloc (by omega) _).grown hg5 (by simp; omega) (fun k' e => by obtain rfl : g = k' := Option.some.inj e; exact hgl.2)
        · rcases hat with e | e
          · rw [e]; exact HG.out
          · exact .inr (by omega)
      case measure => have := HE1.out; simp [intOf]
    · have hjs' : j = s := by omega
      have hfin : ys = xs ++ be s x := by rw [HYS.out, List.take_of_length_le (by rw [be_len]; omega)]
      have e1 : (s : Int) - 1 - (j : Int) = -1 := by omega
      rw [e1]
      have HFIN := Lib.hid hfin
      clear hjs' hfin e1
      go_wp2
      go_ret
      refine ⟨g, cap, ?_, ?_, HB.out, HG.out⟩
      · show Ending.returned (.slice (some ⟨g, 0, none⟩) m cap) = _
        rw [← HFIN.out, ← HM.out]
      · rw [← HFIN.out, ← HM.out]; exact HOWN.out
end Go.Proofs.YtbenfdbjpefegaaDoor
