/- GrammarKnown. Written by wip/tools/gen_grp.py. -/
import Derived.Test.YtakbphjdfgidmaaGreatDoorGrO
namespace Go.Proofs.YtakbphjdfgidmaaGreatDoor
open Go.RowKit Go.Maps
set_option linter.unusedVariables false
set_option maxRecDepth 100000

theorem kn_0 : parseX (nums ⟨#[103, 111, 32, 116]⟩) = .error (6, 0) := by kernel_rfl
theorem kn_1 : parseX (nums ⟨#[98, 101, 103, 105, 110, 32, 84]⟩) = .error (7, 6) := by kernel_rfl
theorem kn_2 : parseX (nums ⟨#[98, 101, 103, 105, 110, 32, 116, 32, 117]⟩) = .error (5, 8) := by kernel_rfl
theorem kn_3 : parseX (nums ⟨#[111, 98, 106, 101, 99, 116, 32, 97]⟩) = .error (5, 8) := by kernel_rfl
theorem kn_4 : parseX (nums ⟨#[111, 98, 106, 101, 99, 116, 32, 97, 32, 115, 101, 116, 32, 50, 32, 49]⟩) = .error (5, 9) := by kernel_rfl
theorem kn_5 : parseX (nums ⟨#[111, 98, 106, 101, 99, 116, 32, 97, 32, 115, 101, 116, 115]⟩) = .error (6, 9) := by kernel_rfl
theorem kn_6 : parseX (nums ⟨#[111, 112, 32, 116]⟩) = .error (5, 4) := by kernel_rfl
theorem kn_7 : parseX (nums ⟨#[111, 112, 32, 116, 32, 97]⟩) = .error (5, 6) := by kernel_rfl
theorem kn_8 : parseX (nums ⟨#[111, 112, 32, 116, 32, 97, 32, 97, 100, 100, 32, 120, 32, 45, 62, 32, 111, 107]⟩) = .error (5, 11) := by kernel_rfl
theorem kn_9 : parseX (nums ⟨#[111, 112, 32, 116, 32, 97, 32, 97, 100, 100, 32, 49, 32, 45, 62, 32, 49]⟩) = .error (9, 16) := by kernel_rfl
theorem kn_10 : parseX (nums ⟨#[111, 112, 32, 116, 32, 65, 32, 97, 100, 100]⟩) = .error (7, 5) := by kernel_rfl
theorem ln_0 : evT ⟨2, tB, emB, op0, stz⟩ = ⟨#[98, 101, 103, 105, 110, 32, 116]⟩ ∧ evE ⟨2, tB, emB, op0, stz⟩ = 0 ∧ evOkB ⟨2, tB, emB, op0, stz⟩ = true := by decide +kernel
theorem ln_1 : evT ⟨2, tB, aB, op0, stz⟩ = ⟨#[]⟩ ∧ evE ⟨2, tB, aB, op0, stz⟩ = 2 ∧ evOkB ⟨2, tB, aB, op0, stz⟩ = true := by decide +kernel
theorem ln_2 : evT ⟨6, tB, emB, op0, stz⟩ = ⟨#[]⟩ ∧ evE ⟨6, tB, emB, op0, stz⟩ = 6 ∧ evOkB ⟨6, tB, emB, op0, stz⟩ = true := by decide +kernel

set_option maxHeartbeats 8000000 in
theorem gknown_any (w : World) (hw : Wds w) (hk : KWds w) : Calls Tryz.prog 6 #[] w (Yes w) := by
  have HW := Lib.hid hw
  have HK := Lib.hid hk
  clear hw hk
  have F0 := Lib.hid (fun (W : World) (hB : Below w.heap.size w W) => fails_yes ⟨#[103, 111, 32, 116]⟩ 6 0 W (by decide) kn_0 (HW.out.on hB) (HK.out.on hB))
  have F1 := Lib.hid (fun (W : World) (hB : Below w.heap.size w W) => fails_yes ⟨#[98, 101, 103, 105, 110, 32, 84]⟩ 7 6 W (by decide) kn_1 (HW.out.on hB) (HK.out.on hB))
  have F2 := Lib.hid (fun (W : World) (hB : Below w.heap.size w W) => fails_yes ⟨#[98, 101, 103, 105, 110, 32, 116, 32, 117]⟩ 5 8 W (by decide) kn_2 (HW.out.on hB) (HK.out.on hB))
  have F3 := Lib.hid (fun (W : World) (hB : Below w.heap.size w W) => fails_yes ⟨#[111, 98, 106, 101, 99, 116, 32, 97]⟩ 5 8 W (by decide) kn_3 (HW.out.on hB) (HK.out.on hB))
  have F4 := Lib.hid (fun (W : World) (hB : Below w.heap.size w W) => fails_yes ⟨#[111, 98, 106, 101, 99, 116, 32, 97, 32, 115, 101, 116, 32, 50, 32, 49]⟩ 5 9 W (by decide) kn_4 (HW.out.on hB) (HK.out.on hB))
  have F5 := Lib.hid (fun (W : World) (hB : Below w.heap.size w W) => fails_yes ⟨#[111, 98, 106, 101, 99, 116, 32, 97, 32, 115, 101, 116, 115]⟩ 6 9 W (by decide) kn_5 (HW.out.on hB) (HK.out.on hB))
  have F6 := Lib.hid (fun (W : World) (hB : Below w.heap.size w W) => fails_yes ⟨#[111, 112, 32, 116]⟩ 5 4 W (by decide) kn_6 (HW.out.on hB) (HK.out.on hB))
  have F7 := Lib.hid (fun (W : World) (hB : Below w.heap.size w W) => fails_yes ⟨#[111, 112, 32, 116, 32, 97]⟩ 5 6 W (by decide) kn_7 (HW.out.on hB) (HK.out.on hB))
  have F8 := Lib.hid (fun (W : World) (hB : Below w.heap.size w W) => fails_yes ⟨#[111, 112, 32, 116, 32, 97, 32, 97, 100, 100, 32, 120, 32, 45, 62, 32, 111, 107]⟩ 5 11 W (by decide) kn_8 (HW.out.on hB) (HK.out.on hB))
  have F9 := Lib.hid (fun (W : World) (hB : Below w.heap.size w W) => fails_yes ⟨#[111, 112, 32, 116, 32, 97, 32, 97, 100, 100, 32, 49, 32, 45, 62, 32, 49]⟩ 9 16 W (by decide) kn_9 (HW.out.on hB) (HK.out.on hB))
  have F10 := Lib.hid (fun (W : World) (hB : Below w.heap.size w W) => fails_yes ⟨#[111, 112, 32, 116, 32, 65, 32, 97, 100, 100]⟩ 7 5 W (by decide) kn_10 (HW.out.on hB) (HK.out.on hB))
  have L0 := Lib.hid (fun (W : World) (hB : Below w.heap.size w W) => line_any ⟨2, tB, emB, op0, stz⟩ none 0 W (ints_nil _ _) (evOkB_ok ln_0.2.2) (HW.out.on hB) (HK.out.on hB))
  unfold LinePost at L0
  rw [ln_0.1, ln_0.2.1] at L0
  unfold evV evC op0 stz tB emB at L0
  dsimp only at L0
  have L1 := Lib.hid (fun (W : World) (hB : Below w.heap.size w W) => line_any ⟨2, tB, aB, op0, stz⟩ none 0 W (ints_nil _ _) (evOkB_ok ln_1.2.2) (HW.out.on hB) (HK.out.on hB))
  unfold LinePost at L1
  rw [ln_1.1, ln_1.2.1] at L1
  unfold evV evC op0 stz tB aB at L1
  dsimp only at L1
  have L2 := Lib.hid (fun (W : World) (hB : Below w.heap.size w W) => line_any ⟨6, tB, emB, op0, stz⟩ none 0 W (ints_nil _ _) (evOkB_ok ln_2.2.2) (HW.out.on hB) (HK.out.on hB))
  unfold LinePost at L2
  rw [ln_2.1, ln_2.2.1] at L2
  unfold evV evC op0 stz tB emB at L2
  dsimp only at L2
  have P0 := Lib.hid (fun (W : World) (hB : Below w.heap.size w W) => print_any none 0 [] W (fun h => absurd h (by simp)) (fun z hz => by cases hz) (fun z hz => by cases hz) (by simp) (HW.out.on hB) (HK.out.on hB))
  have hps : prS ([] : List Ev) = ⟨#[]⟩ ∧ prE ([] : List Ev) = 0 := by decide +kernel
  have hmn : ([] : List EvZ).map Prod.fst = [] := rfl
  have hln : ([] : List EvZ).length = 0 := rfl
  unfold PrintPost at P0
  rw [hmn, hps.1, hps.2, hln] at P0
  have A0 := Lib.hid (fun (W : World) (hB : Below w.heap.size w W) => awake_any W (HW.out.on hB) (HK.out.on hB))
  have se1 : ((⟨#[98, 101, 103, 105, 110, 32, 116]⟩ : ByteArray).toList == (⟨#[98, 101, 103, 105, 110, 32, 116]⟩ : ByteArray).toList) = true := by simp
  have se2 : ((⟨#[]⟩ : ByteArray).toList) = [] := em_list
  clear hps hmn hln
  go_enter Tryz.func6, Tryz.ntmps6
  go_wp2_with fail
  refine (F0.out _ (Below.refl _ w)).mono ?_
  rintro e w1 ⟨rfl, hb⟩
  have hB1 : Below w.heap.size w w1 := hb
  clear hb
  go_wp2_with fail
  refine (F1.out _ hB1).mono ?_
  rintro e w2 ⟨rfl, hb⟩
  have hB2 : Below w.heap.size w w2 := nxt hB1 hb hB1.size
  clear hb
  go_wp2_with fail
  refine (F2.out _ hB2).mono ?_
  rintro e w3 ⟨rfl, hb⟩
  have hB3 : Below w.heap.size w w3 := nxt hB2 hb hB2.size
  clear hb
  go_wp2_with fail
  refine (F3.out _ hB3).mono ?_
  rintro e w4 ⟨rfl, hb⟩
  have hB4 : Below w.heap.size w w4 := nxt hB3 hb hB3.size
  clear hb
  go_wp2_with fail
  refine (F4.out _ hB4).mono ?_
  rintro e w5 ⟨rfl, hb⟩
  have hB5 : Below w.heap.size w w5 := nxt hB4 hb hB4.size
  clear hb
  go_wp2_with fail
  refine (F5.out _ hB5).mono ?_
  rintro e w6 ⟨rfl, hb⟩
  have hB6 : Below w.heap.size w w6 := nxt hB5 hb hB5.size
  clear hb
  go_wp2_with fail
  refine (F6.out _ hB6).mono ?_
  rintro e w7 ⟨rfl, hb⟩
  have hB7 : Below w.heap.size w w7 := nxt hB6 hb hB6.size
  clear hb
  go_wp2_with fail
  refine (F7.out _ hB7).mono ?_
  rintro e w8 ⟨rfl, hb⟩
  have hB8 : Below w.heap.size w w8 := nxt hB7 hb hB7.size
  clear hb
  go_wp2_with fail
  refine (F8.out _ hB8).mono ?_
  rintro e w9 ⟨rfl, hb⟩
  have hB9 : Below w.heap.size w w9 := nxt hB8 hb hB8.size
  clear hb
  go_wp2_with fail
  refine (F9.out _ hB9).mono ?_
  rintro e w10 ⟨rfl, hb⟩
  have hB10 : Below w.heap.size w w10 := nxt hB9 hb hB9.size
  clear hb
  go_wp2_with fail
  refine (F10.out _ hB10).mono ?_
  rintro e w11 ⟨rfl, hb⟩
  have hB11 : Below w.heap.size w w11 := nxt hB10 hb hB10.size
  clear hb
  go_wp2_with fail
  refine (L0.out _ hB11).mono ?_
  rintro e w12 ⟨rfl, hb⟩
  have hB12 : Below w.heap.size w w12 := nxt hB11 hb hB11.size
  clear hb
  go_wp2_with fail
  refine (L1.out _ hB12).mono ?_
  rintro e w13 ⟨rfl, hb⟩
  have hB13 : Below w.heap.size w w13 := nxt hB12 hb hB12.size
  clear hb
  go_wp2_with fail
  refine (P0.out _ hB13).mono ?_
  rintro e w14 ⟨rfl, hb⟩
  have hB14 : Below w.heap.size w w14 := nxt hB13 hb hB13.size
  clear hb
  go_wp2_with fail
  refine (L2.out _ hB14).mono ?_
  rintro e w15 ⟨rfl, hb⟩
  have hB15 : Below w.heap.size w w15 := nxt hB14 hb hB14.size
  clear hb
  go_wp2_with fail
  refine (A0.out _ hB15).mono ?_
  rintro e w16 ⟨rfl, hb⟩
  have hB16 : Below w.heap.size w w16 := nxt hB15 hb hB15.size
  clear hb
  go_wp2
  go_ret
  exact ⟨rfl, hB16⟩
end Go.Proofs.YtakbphjdfgidmaaGreatDoor
