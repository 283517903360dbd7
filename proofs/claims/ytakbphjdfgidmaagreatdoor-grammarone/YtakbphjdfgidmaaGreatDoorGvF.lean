/- GrammarOne. -/
import Derived.Test.YtakbphjdfgidmaaGreatDoorGvE
import Derived.Test.YtakbphjdfgidmaaGreatDoorGrW
import Derived.Test.YtakbphjdfgidmaaGreatDoorGrP
namespace Go.Proofs.YtakbphjdfgidmaaGreatDoor
open Go.RowKit Go.Maps
set_option linter.unusedVariables false
set_option maxRecDepth 100000

theorem prL_oct : ∀ (es : List Ev), Octets (prL es)
  | [] => fun x hx => by cases hx
  | e :: r => fun x hx => by
    rw [prL_cons] at hx
    rcases List.mem_append.1 hx with h | h
    · rcases List.mem_append.1 h with h | h
      · exact nums_octets _ x h
      · obtain rfl : x = 10 := by simpa using h
        decide
    · exact prL_oct r x h

set_option maxHeartbeats 4000000 in
theorem one_law (A : Option Addr) (c : Nat) (bs : List Int) (w : World) (hG : Gds w) (hA : Bytes w A bs) (ho : Octets bs) (hc : bs.length ≤ c) (hcm : c ≤ maxLen) (hnil : A = none → c = 0) :
    Calls Tryz.prog 8 #[.slice A bs.length c] w (Yes w) := by
  obtain ⟨hw, hk⟩ := hG
  have HA := Lib.hid hA
  have HW := Lib.hid hw
  have HK := Lib.hid hk
  have HKN := Lib.hid (gknown_any w hw hk)
  unfold maxLen at hcm
  by_cases hl : 1500 < bs.length
  · have hd : decide ((1500 : Int) < (bs.length : Int)) = true := decide_eq_true (by omega)
    have hd' : decide (1500 < bs.length) = true := decide_eq_true hl
    clear hA hw hk
    go_enter Tryz.func8, Tryz.ntmps8
    go_wp2_with fail
    refine HKN.out.mono ?_
    rintro e w2 ⟨rfl, hB2⟩
    go_wp2
    go_ret
    exact ⟨rfl, hB2⟩
  · have hd : decide ((1500 : Int) < (bs.length : Int)) = false := decide_eq_false (by omega)
    have hd' : decide (1500 < bs.length) = false := decide_eq_false hl
    have HO := Lib.hid ho
    have HPS := Lib.hid (fun (W : World) (hB : Below w.heap.size w W) => parse_small A c bs W (HA.out.below (B := 0) hB) HO.out hc (by omega) (HW.out.on hB) (HK.out.on hB))
    clear hA hw hk ho
    cases hpx : parseX bs with
    | error f =>
      obtain ⟨f1, f2⟩ := f
      obtain ⟨g1, g2, g3⟩ := parse_err (by omega) hpx
      dsimp only at g1 g2 g3
      rw [hpx] at HPS
      unfold ParsePost at HPS
      dsimp only at HPS
      have hbn : (f1 != 0) = true := by rw [bne_iff_ne]; exact g1
      have d1 : decide ((0 : Int) ≤ f2) = true := decide_eq_true g2
      have d2 : decide (f2 ≤ (bs.length : Int)) = true := decide_eq_true g3
      clear hpx
      go_enter Tryz.func8, Tryz.ntmps8
      go_wp2_with fail
      refine HKN.out.mono ?_
      rintro e w1 ⟨rfl, hB1⟩
      go_wp2_with fail
      refine (HPS.out _ hB1).mono ?_
      rintro e w2 ⟨rfl, hB2⟩
      have hB3 := nxt hB1 hB2 hB1.size
      go_wp2
      go_ret
      exact ⟨rfl, nxt hB3 (alloc1 w2 _) hB3.size⟩
    | ok es =>
      obtain ⟨hn1, hn2⟩ := parse_few hpx
      obtain ⟨p1, p2⟩ := parse_all HO.out (by omega) hpx
      rw [hpx] at HPS
      unfold ParsePost at HPS
      dsimp only at HPS
      have HOK := Lib.hid p2
      have hpe := prE_zero.2 fun e he => (p2 e he).2
      have hps : prS es = strOfNums (prL es) := by unfold prS; rw [if_pos hpe]
      have hnS : nums (strOfNums (prL es)) = prL es := nums_strOf _ (prL_oct es)
      have hpp := parse_print (es := es) (by omega) (fun e he => (p2 e he).1) hpe
      have hSz : (strOfNums (prL es)).size = (prL es).length := strOfNums_size _
      obtain ⟨S, hS⟩ : ∃ S, strOfNums (prL es) = S := ⟨_, rfl⟩
      rw [hS] at hps hnS hSz
      have HP2 := Lib.hid (fun W hw hk => parse_str S W (by omega) hw hk)
      rw [hnS, hpp] at HP2
      unfold ParsePost at HP2
      dsimp only at HP2
      have HPR := Lib.hid (fun (A' : Option Addr) (c' : Nat) (ys : List EvZ) (hys : ys.map Prod.fst = es) (W : World) (hB : Below w.heap.size w W) hR hRN => print_any A' c' ys W hR hRN (fun z hz => (HOK.out _ (fst_memX hys hz)).1) (by have := congrArg List.length hys; rw [List.length_map] at this; omega) (HW.out.on hB) (HK.out.on hB))
      unfold PrintPost at HPR
      have HPE := Lib.hid hpe
      have HSS := Lib.hid hps
      have dS : decide ((S.size : Int) ≤ (bs.length : Int) + 1) = true := decide_eq_true (by omega)
      have hSz2 : S.size ≤ 1501 := by omega
      have t1 : (S == S) = true := by simp
      have hwl : wrap64 ((bs.length : Int) + 1) = (bs.length : Int) + 1 := by unfold wrap64; omega
      clear hpx p1 p2 hpe hps hnS hpp hSz hS
      have HN2 := Lib.hid hn2
      clear hn2
      obtain ⟨n, hn⟩ : ∃ n, es.length = n := ⟨_, rfl⟩
      have HEN := Lib.hid hn
      rw [hn] at HPS HP2 hn1
      clear hn
      have hcv := fun (W : World) (s : ByteArray) => Lib.run_convert_string_bytes (P := Tryz.prog) W 9 41 5 s Tryz.underlying9 Tryz.underlying41 Tryz.underlying5
      go_enter Tryz.func8, Tryz.ntmps8
      go_wp2_with fail
      refine HKN.out.mono ?_
      rintro e w1 ⟨rfl, hB1⟩
      go_wp2_with fail
      refine (HPS.out _ hB1).mono ?_
      rintro e w2 ⟨A1, c1, rfl, hown1, hB2⟩
      have hB2' := nxt hB1 hB2 hB1.size
      have hB3 := alloc1 w2 (.cells #[.int .i64 0, .int .i64 0] 44)
      have HX3 := Lib.hid (Holds.new w2 44 #[.int .i64 0, .int .i64 0])
      have hB03 := nxt hB2' hB3 hB2'.size
      have HO3 := Lib.hid (hown1.below hB3)
      clear hown1 hB2 hB2' hB3
      go_upto_region 5 with fail
      generalize w2.alloc (.cells #[.int .i64 0, .int .i64 0] 44) = w3 at *
      have x0 := HX3.out.c (j := 0) rfl
      have hl3 := HX3.out.lt
      obtain ⟨zs, hz1, hz2, hz3, hz4⟩ := HO3.out.readX HEN.out
      have hpr := HPR.out A1 c1 zs hz1 w3 hB03 hz3 hz4
      rw [hz1, hz2, HPE.out, HSS.out] at hpr
      have HPR1 := Lib.hid hpr
      have HZ1 := Lib.hid hz1
      have HZ2 := Lib.hid hz2
      have HZ3 := Lib.hid hz3
      have HZ4 := Lib.hid hz4
      clear hpr hz1 hz2 hz3 hz4
      go_wp2_with fail
      refine HPR1.out.mono ?_
      rintro e w4 ⟨rfl, hB4⟩
      have hB04 := nxt hB03 hB4 hB03.size
      have HPP := Lib.hid (HP2.out w4 (HW.out.on hB04) (HK.out.on hB04))
      have hBs := below_str w4 S
      go_wp2_with fail
      refine HPP.out.mono ?_
      rintro e w5 ⟨A2, c2, rfl, hown2, hB5⟩
      have hB6 := alloc1 w5 (.cells #[.int .i64 0, .int .i64 0] 44)
      have HX6 := Lib.hid (Holds.new w5 44 #[.int .i64 0, .int .i64 0])
      have hB46 := nxt (nxt hBs hB5 hBs.size) hB6 (nxt hBs hB5 hBs.size).size
      have hB36 := nxt hB4 hB46 hB4.size
      have hB06 := nxt hB04 hB46 hB04.size
      have HO6 := Lib.hid (hown2.below hB6)
      clear hown2 hB5 hB6 hBs hB46
      go_upto_region 9 with fail
      generalize w5.alloc (.cells #[.int .i64 0, .int .i64 0] 44) = w6 at *
      obtain ⟨ys, hy1, hy2, hy3, hy4⟩ := HO6.out.readX HEN.out
      have hpr := HPR.out A2 c2 ys hy1 w6 hB06 hy3 hy4
      rw [hy1, hy2, HPE.out, HSS.out] at hpr
      have HPR2 := Lib.hid hpr
      have HY1 := Lib.hid hy1
      have HY2 := Lib.hid hy2
      have HY3 := Lib.hid hy3
      have HY4 := Lib.hid hy4
      clear hpr hy1 hy2 hy3 hy4
      go_wp2_with fail
      refine HPR2.out.mono ?_
      rintro e w7 ⟨rfl, hB7⟩
      have HX7 := HX6.out.below hB7 HX6.out.lt
      have y0 := HX7.c (j := 0) rfl
      have y1 := HX7.c (j := 1) rfl
      have hB37 := nxt hB36 hB7 hB36.size
      have hB07 := nxt hB06 hB7 hB06.size
      have HS := Lib.hid (sameevs_any A1 A2 c1 c2 zs ys w7 ((HZ3.out.below hB37).mono hB37.size) (HZ4.out.below hB37) ((HY3.out.below hB7).mono hB7.size) (HY4.out.below hB7) (fun z hz => by have := HN2.out _ (fst_memX HZ1.out hz); omega) (by rw [HZ2.out]; omega) (by rw [HY2.out]; omega))
      rw [HZ1.out, HY1.out, evsEq_refl, HZ2.out, HY2.out] at HS
      go_wp2_with fail
      refine HS.out.mono ?_
      rintro e w8 ⟨rfl, hB8⟩
      go_wp2
      go_ret
      exact ⟨rfl, nxt hB07 hB8 hB07.size⟩
end Go.Proofs.YtakbphjdfgidmaaGreatDoor
