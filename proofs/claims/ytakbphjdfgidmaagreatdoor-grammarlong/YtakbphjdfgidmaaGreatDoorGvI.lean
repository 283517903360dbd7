/- GrammarLong. -/
import Derived.Test.YtakbphjdfgidmaaGreatDoorGvH
import Derived.Test.YtakbphjdfgidmaaGreatDoorGrW
namespace Go.Proofs.YtakbphjdfgidmaaGreatDoor
open Go.RowKit Go.Maps
set_option linter.unusedVariables false
set_option maxRecDepth 100000

set_option maxHeartbeats 8000000 in
theorem long_law (a0 a1 a2 : Int) (w : World) (hG : Gds w) (h0 : -9223372036854775808 ≤ a0 ∧ a0 ≤ 9223372036854775807) (h1 : -9223372036854775808 ≤ a1 ∧ a1 ≤ 9223372036854775807) (h2 : -9223372036854775808 ≤ a2 ∧ a2 ≤ 9223372036854775807) :
    Calls Tryz.prog 5 #[.int .i64 a0, .int .i64 a1, .int .i64 a2] w (Yes w) := by
  obtain ⟨hw, hk⟩ := hG
  have HW := Lib.hid hw
  have HK := Lib.hid hk
  have HAW := Lib.hid (fun W (hB : Below w.heap.size w W) => awake_any W (HW.out.on hB) (HK.out.on hB))
  obtain ⟨d0, e0, P0⟩ := pick_ex a0 3 h0.1 h0.2 (by decide) (by decide)
  obtain ⟨d1, e1, P1⟩ := pick_ex a1 21 h1.1 h1.2 (by decide) (by decide)
  obtain ⟨d2, e2, P2⟩ := pick_ex a2 2000 h2.1 h2.2 (by decide) (by decide)
  have HP0 := Lib.hid P0
  have HP1' := Lib.hid P1
  have HP2' := Lib.hid P2
  have hcv := fun (W : World) (s : ByteArray) => Lib.run_convert_string_bytes (P := Tryz.prog) W 9 41 5 s Tryz.underlying9 Tryz.underlying41 Tryz.underlying5
  have hc5 := conv_five
  have hs5 := size_five
  obtain ⟨tp, htp⟩ : ∃ tp : Nat, tp = 990 + d1 := ⟨_, rfl⟩
  have hwt : wrap64 (990 + (d1 : Int)) = (tp : Int) := by unfold wrap64; omega
  have htp2 : tp ≤ 1010 := by omega
  clear P0 P1 P2 hw hk h0 h1 h2 htp e1
  have hd : d0 = 0 ∨ d0 = 1 ∨ d0 = 2 := by omega
  clear e0
  have hB1 := alloc1 w (.cells #[.string ⟨#[113, 117, 101, 117, 101]⟩, .string ⟨#[115, 101, 116]⟩, .string ⟨#[109, 97, 112]⟩] 9)
  · rcases hd with rfl | rfl | rfl
    all_goals
      go_enter Tryz.func5, Tryz.ntmps5
      go_wp2_with fail
      refine (HP0.out _).mono ?_
      rintro e u ⟨rfl, rfl⟩
      go_wp2_with fail
      refine (HP1'.out _).mono ?_
      rintro e u ⟨rfl, rfl⟩
      go_wp2
      rw [hwt]
      generalize w.alloc (.cells #[.string ⟨#[113, 117, 101, 117, 101]⟩, .string ⟨#[115, 101, 116]⟩, .string ⟨#[109, 97, 112]⟩] 9) = W1 at *
      go_loopw [8, 10] (fun s8 i10 wr => ∃ (k : Nat) (out : ByteArray), k ≤ tp ∧ i10 = .int .i64 (k : Int) ∧ s8 = .string out ∧ out.size ≤ 20 + k * 6 ∧ Below W1.heap.size W1 wr) (fun s8 i10 wr => tp - (intOf i10).toNat)
      case atStart => exact ⟨0, _, Nat.zero_le _, rfl, rfl, by decide, Below.refl _ _⟩
      case round =>
        obtain ⟨k, S, hk, rfl, rfl, hsz, hBr⟩ := hrel
        have hB0 := nxt hB1 hBr hB1.size
        by_cases hlt : k < tp
        · have hkd : decide (k < tp) = true := decide_eq_true hlt
          have hq1 : ¬ 9223372036854775807 < S.size + 1 := by omega
          have hq2 : ¬ 9223372036854775807 < S.size + 1 + 5 := by omega
          have hkw : IntKind.i64.wrap (k : Int) = (k : Int) := by rw [IntKind.wrap_i64]; omega
          have hBa : ∀ o, Below W1.heap.size W1 (wr.alloc o) := fun o => hBr.alloc hBr.size o
          cases hkp : ((k : Int) == (d2 : Int))
          · go_wp2_with fail
            refine (HP2'.out _).mono ?_
            rintro e u ⟨rfl, rfl⟩
            go_wp2
            go_roundw
            case rel =>
              refine ⟨k + 1, _, by omega, by go_num, rfl, ?_, hBa _⟩
              rw [app_size, app_size, size_five]
              show S.size + 1 + 5 ≤ _
              omega
            case measure => simp [intOf]; omega
          · go_wp2_with fail
            refine (HP2'.out _).mono ?_
            rintro e u ⟨rfl, rfl⟩
            go_wp2
            go_roundw
            case rel =>
              refine ⟨k + 1, _, by omega, by go_num, rfl, ?_, hBa _⟩
              rw [app_size, app_size, size_five]
              show S.size + 1 + 5 ≤ _
              omega
            case measure => simp [intOf]; omega
        · have hkd : decide (k < tp) = false := decide_eq_false hlt
          have hS7 : S.size ≤ 7000 := by omega
          have HP1 := Lib.hid (fun W (hB : Below w.heap.size w W) => parse_str S W hS7 (HW.out.on hB) (HK.out.on hB))
          have HP2 := Lib.hid (fun W (hB : Below w.heap.size w W) => rparse_str S W hS7)
          have hS8 := hS7
          clear hc5 hs5
          cases hpx : parseX (nums S) with
          | error f =>
            obtain ⟨f1, f2⟩ := f
            rw [hpx] at HP1 HP2
            unfold ParsePost at HP1 HP2
            dsimp only at HP1 HP2
            have t1 : (f1 == f1) = true := by simp
            have t2 : (f2 == f2) = true := by simp
            clear hpx
            go_wp2_with fail
            refine (HP1.out _ hB0).mono ?_
            rintro e w2 ⟨rfl, hB2⟩
            have hB2' := nxt (below_str wr S) hB2 (below_str wr S).size
            have hB3 := alloc1 w2 (.cells #[.int .i64 f1, .int .i64 f2] 44)
            have HX3 := Lib.hid (Holds.new w2 44 #[.int .i64 f1, .int .i64 f2])
            have hBr3 := nxt hB2' hB3 hB2'.size
            have hB03 := nxt hB0 hBr3 hB0.size
            clear hB2 hB2' hB3
            go_upto_region 12 with fail
            generalize w2.alloc (.cells #[.int .i64 f1, .int .i64 f2] 44) = w3 at *
            go_wp2_with fail
            refine (HP2.out _ hB03).mono ?_
            rintro e w4 ⟨rfl, hB4⟩
            have hB4' := nxt (below_str w3 S) hB4 (below_str w3 S).size
            have hB5 := alloc1 w4 (.cells #[.int .i64 f1, .int .i64 f2] 44)
            have HY5 := Lib.hid (Holds.new w4 44 #[.int .i64 f1, .int .i64 f2])
            have hB35 := nxt hB4' hB5 hB4'.size
            have HX5 := Lib.hid (HX3.out.below hB35 HX3.out.lt)
            have hB05 := nxt hB03 hB35 hB03.size
            have HS := Lib.hid (fun W => sameevs_any none none 0 0 [] [] W (fun h => absurd h (by simp)) (fun z hz => by cases hz) (fun h => absurd h (by simp)) (fun z hz => by cases hz) (fun z hz => by cases hz) (by simp) (by simp))
            rw [evsEq_refl, List.length_nil] at HS
            clear hB4 hB4' hB5
            go_upto_region 13 with fail
            generalize w4.alloc (.cells #[.int .i64 f1, .int .i64 f2] 44) = w5 at *
            go_wp2_with fail
            refine (HS.out w5).mono ?_
            rintro e w6 ⟨rfl, hB6⟩
            have HX6 := HX5.out.below hB6 HX5.out.lt
            have HY6 := HY5.out.below hB6 HY5.out.lt
            have x0 := HX6.c (j := 0) rfl
            have x1 := HX6.c (j := 1) rfl
            have y0 := HY6.c (j := 0) rfl
            have y1 := HY6.c (j := 1) rfl
            have hB06 := nxt hB05 hB6 hB05.size
            go_wp2_with fail
            refine (HAW.out _ hB06).mono ?_
            rintro e w9 ⟨rfl, hB9⟩
            go_wp2
            go_ret
            exact ⟨rfl, nxt hB06 hB9 hB06.size⟩
          | ok es =>
            obtain ⟨hn1, hn2⟩ := parse_few hpx
            rw [hpx] at HP1 HP2
            unfold ParsePost at HP1 HP2
            dsimp only at HP1 HP2
            rw [nums_len] at hn1
            clear hpx
            have HN2 := Lib.hid hn2
            clear hn2
            obtain ⟨n, hn⟩ : ∃ n, es.length = n := ⟨_, rfl⟩
            have HEN := Lib.hid hn
            rw [hn] at HP1 HP2 hn1
            clear hn
            go_wp2_with fail
            refine (HP1.out _ hB0).mono ?_
            rintro e w2 ⟨A1, c1, rfl, hown1, hB2⟩
            have hB2' := nxt (below_str wr S) hB2 (below_str wr S).size
            have hB3 := alloc1 w2 (.cells #[.int .i64 0, .int .i64 0] 44)
            have HX3 := Lib.hid (Holds.new w2 44 #[.int .i64 0, .int .i64 0])
            have HO3 := Lib.hid (hown1.below hB3)
            have hBr3 := nxt hB2' hB3 hB2'.size
            have hB03 := nxt hB0 hBr3 hB0.size
            clear hB2 hB2' hB3 hown1
            go_upto_region 12 with fail
            generalize w2.alloc (.cells #[.int .i64 0, .int .i64 0] 44) = w3 at *
            go_wp2_with fail
            refine (HP2.out _ hB03).mono ?_
            rintro e w4 ⟨A2, c2, rfl, hown2, hB4⟩
            have hB4' := nxt (below_str w3 S) hB4 (below_str w3 S).size
            have hB5 := alloc1 w4 (.cells #[.int .i64 0, .int .i64 0] 44)
            have HY5 := Lib.hid (Holds.new w4 44 #[.int .i64 0, .int .i64 0])
            have HO25 := Lib.hid (hown2.below hB5)
            have hB35 := nxt hB4' hB5 hB4'.size
            have HX5 := Lib.hid (HX3.out.below hB35 HX3.out.lt)
            have HO15 := Lib.hid (HO3.out.below hB35)
            have hB05 := nxt hB03 hB35 hB03.size
            clear hB4 hB4' hB5 hown2
            go_upto_region 13 with fail
            generalize w4.alloc (.cells #[.int .i64 0, .int .i64 0] 44) = w5 at *
            obtain ⟨zs, hz1, hz2, hz3, hz4⟩ := HO15.out.readX HEN.out
            obtain ⟨ys, hy1, hy2, hy3, hy4⟩ := HO25.out.readX HEN.out
            have HS := Lib.hid (sameevs_any A1 A2 c1 c2 zs ys w5 hz3 hz4 hy3 hy4 (fun z hz => by have := HN2.out _ (fst_memX hz1 hz); omega) (by omega) (by omega))
            rw [hz1, hy1, evsEq_refl, hz2, hy2] at HS
            clear hz1 hz2 hz3 hz4 hy1 hy2 hy3 hy4
            go_wp2_with fail
            refine HS.out.mono ?_
            rintro e w6 ⟨rfl, hB6⟩
            have HX6 := HX5.out.below hB6 HX5.out.lt
            have HY6 := HY5.out.below hB6 HY5.out.lt
            have x0 := HX6.c (j := 0) rfl
            have x1 := HX6.c (j := 1) rfl
            have y0 := HY6.c (j := 0) rfl
            have y1 := HY6.c (j := 1) rfl
            have hB06 := nxt hB05 hB6 hB05.size
            go_wp2_with fail
            refine (HAW.out _ hB06).mono ?_
            rintro e w9 ⟨rfl, hB9⟩
            go_wp2
            go_ret
            exact ⟨rfl, nxt hB06 hB9 hB06.size⟩
end Go.Proofs.YtakbphjdfgidmaaGreatDoor
