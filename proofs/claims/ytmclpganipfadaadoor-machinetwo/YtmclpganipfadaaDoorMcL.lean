/- MachineKnown. -/
import Derived.Test.YtmclpganipfadaaDoorMcK
namespace Go.Proofs.YtmclpganipfadaaDoor
open Go.RowKit Go.Maps
set_option linter.unusedVariables false

theorem mcapply_lit (t n : Int) (l : List Int) (kd a b : Int) (p : Ans) (hp : mA t n l kd a b = p) (hl : l.length ≤ 800) (hs : Small a) (A : Option Addr) (c : Nat) (hc : l.length ≤ c) (W : World) (hA : Ints W A l) : Calls Tryd.prog 7 #[stV t n A l.length c, .int .i64 kd, .int .i64 a, .int .i64 b] W (MPost p W) := by
  have := mcapply_any t n A c l kd a b W hA hl hc hs
  rwa [hp] at this
theorem mclegal_lit (t n : Int) (l : List Int) (o : Opr) (p : Ans) (b : Bool) (hp : mO t n l o = p) (hb : okB p o = b) (hl : l.length ≤ 800) (hs : Small o.a) (A : Option Addr) (c : Nat) (hc : l.length ≤ c) (W : World) (hA : Ints W A l) : Calls Tryd.prog 10 #[stV t n A l.length c, opV o] W (LPost p b W) := by
  have := legal_any t n A c l o W hA hl hc hs
  rwa [hp, hb] at this

set_option maxRecDepth 100000 in
set_option maxHeartbeats 4000000 in
theorem mcknown_all (w : World) (hw : Tys w) : Calls Tryd.prog 3 #[] w (Yes w) := by
  have T0 := fun W (h : Tys W) => mctype_any 0 W h
  rw [show typeP 0 = (0, 6) by decide] at T0
  have T1 := fun W (h : Tys W) => mctype_any 16 W h
  rw [show typeP 16 = (0, 6) by decide] at T1
  dsimp only at T0 T1
  have P1 := fun W => mcapply_lit 4 0 [] 3 1 0 (noA 6) (by kernel_rfl) (by simp) (by constructor <;> omega) none 0 (by simp) W (ints_nil _ _)
  have P2 := fun W => mcapply_lit 6 0 [] 2 0 0 (noA 8) (by kernel_rfl) (by simp) (by constructor <;> omega) none 0 (by simp) W (ints_nil _ _)
  have L1 := mclegal_lit 2 0 [1] ⟨3, 1, 0, 2, 0⟩ ⟨2, 0, [1], 2, 0, 0⟩ true (by kernel_rfl) (by decide) (by simp) (by constructor <;> decide)
  have L2 := mclegal_lit 2 0 [1] ⟨3, 1, 0, 2, 1⟩ ⟨2, 0, [1], 2, 0, 0⟩ false (by kernel_rfl) (by decide) (by simp) (by constructor <;> decide)
  unfold MPost noA at P1 P2
  unfold LPost at L1 L2
  dsimp only [List.length_nil, List.length_cons] at P1 P2 L1 L2
  unfold stV retV at P1 P2
  unfold opV stV at L1 L2
  go_enter Tryd.func3, Tryd.ntmps3
  go_wp2_with fail
  refine (T0 _ hw).mono ?_
  rintro e w1 ⟨rfl, hB1⟩
  have hw1 := hw.on hB1
  go_wp2_with fail
  refine (T1 _ hw1).mono ?_
  rintro e w2 ⟨rfl, hB2⟩
  have hC2 := onto hB1 hB2
  clear hw1 T0 T1
  go_wp2_with fail
  refine (mcof_list 4 none 0 0 _ rfl rfl).mono ?_
  rintro e w3 ⟨rfl, hB3⟩
  have hC3 := onto hC2 hB3
  unfold stV
  go_wp2_with fail
  refine (P1 _).mono ?_
  rintro e w4 ⟨A4, c4, rfl, _, hB4⟩
  have hC4 := onto hC3 hB4
  have hC4a := gro_alloc (gro_alloc hC4 (.cells #[.int .i64 0, .int .i64 0, .slice A4 0 c4] 27)) (.cells #[.int .i64 0, .int .i64 0] 29)
  go_wp2_with fail
  refine (P2 _).mono ?_
  rintro e w5 ⟨A5, c5, rfl, _, hB5⟩
  have hC5 := onto hC4a hB5
  have hC5a := gro_alloc (gro_alloc (gro_alloc hC5 (.cells #[.int .i64 0, .int .i64 0, .slice A5 0 c5] 27)) (.cells #[.int .i64 0, .int .i64 0] 29)) (.cells #[.int .i64 5] 3)
  clear P1 P2
  go_wp2_with fail
  have F6 := lit_cell ((w5.alloc (.cells #[.int .i64 0, .int .i64 0, .slice A5 0 c5] 27)).alloc (.cells #[.int .i64 0, .int .i64 0] 29)) 5 []
  rw [World.size_alloc] at F6
  rw [World.size_alloc] at F6
  refine (mcof_num 1 5 (w5.heap.size + 1 + 1) 1 _ (by decide) F6).mono ?_
  rintro e w6 ⟨rfl, hB6⟩
  have hC6 := onto hC5a hB6
  clear F6
  unfold stV
  have hC6a := gro_alloc hC6 (.cells #[.int .i64 5] 3)
  go_wp2_with fail
  have F7 := lit_cell w6 5 []
  refine (mcof_num 1 5 (w6.heap.size) 1 _ (by decide) F7).mono ?_
  rintro e w7 ⟨rfl, hB7⟩
  have hC7 := onto hC6a hB7
  clear F7
  unfold stV
  have P3 := mcapplies_yes 1 5 none none 0 0 [] [] 1 5 2 0 5 w7 (by kernel_rfl) (ints_nil _ _) (ints_nil _ _) (by simp) (by simp) (by simp) (by constructor <;> omega)
  unfold stV at P3
  dsimp only [List.length_nil] at P3
  go_wp2_with fail
  refine P3.mono ?_
  rintro e w8 ⟨rfl, hB8⟩
  have hC8 := onto hC7 hB8
  clear P3
  have hC8a := gro_alloc hC8 (.cells #[.int .i64 1] 3)
  go_wp2_with fail
  have I9 := ints_lit w8 [1] 3 _ rfl
  refine (mcof_list 2 (some ⟨w8.heap.size, 0, none⟩) 1 1 _ rfl rfl).mono ?_
  rintro e w9 ⟨rfl, hB9⟩
  have hC9 := onto hC8a hB9
  replace I9 := I9.below hB9
  unfold stV
  go_wp2_with fail
  refine (mcop_any 3 1 0 _).mono ?_
  rintro e w10 ⟨rfl, hB10⟩
  have hC10 := onto hC9 hB10
  unfold opV
  replace I9 := I9.below hB10
  go_wp2_with fail
  refine (L1 _ 1 (by simp) _ I9).mono ?_
  rintro e w11 ⟨A11, c11, rfl, _, hB11⟩
  have hC11 := onto hC10 hB11
  clear I9 L1
  have hC11a := gro_alloc (gro_alloc hC11 (.cells #[.int .i64 2, .int .i64 0, .slice A11 (0 + 1) c11] 27)) (.cells #[.int .i64 1] 3)
  go_wp2_with fail
  have I12 := ints_lit (w11.alloc (.cells #[.int .i64 2, .int .i64 0, .slice A11 (0 + 1) c11] 27)) [1] 3 _ rfl
  rw [World.size_alloc] at I12
  refine (mcof_list 2 (some ⟨w11.heap.size + 1, 0, none⟩) 1 1 _ rfl rfl).mono ?_
  rintro e w12 ⟨rfl, hB12⟩
  have hC12 := onto hC11a hB12
  replace I12 := I12.below hB12
  unfold stV
  go_wp2_with fail
  refine (mcop_any 3 1 1 _).mono ?_
  rintro e w13 ⟨rfl, hB13⟩
  have hC13 := onto hC12 hB13
  unfold opV
  replace I12 := I12.below hB13
  go_wp2_with fail
  refine (L2 _ 1 (by simp) _ I12).mono ?_
  rintro e w14 ⟨A14, c14, rfl, _, hB14⟩
  have hC14 := onto hC13 hB14
  clear I12 L2
  have hC14a := gro_alloc (gro_alloc hC14 (.cells #[.int .i64 2, .int .i64 0, .slice A14 (0 + 1) c14] 27)) (.cells #[.int .i64 1] 3)
  go_wp2_with fail
  have F15 := lit_cell (w14.alloc (.cells #[.int .i64 2, .int .i64 0, .slice A14 (0 + 1) c14] 27)) 1 []
  rw [World.size_alloc] at F15
  refine (mcof_num 5 1 (w14.heap.size + 1) 1 _ (by decide) F15).mono ?_
  rintro e w15 ⟨rfl, hB15⟩
  have hC15 := onto hC14a hB15
  clear F15
  unfold stV
  go_wp2_with fail
  refine (mcop_any 14 2 1 _).mono ?_
  rintro e w16 ⟨rfl, hB16⟩
  have hC16 := onto hC15 hB16
  unfold opV
  go_wp2_with fail
  refine (mcop_any 13 3 1 _).mono ?_
  rintro e w17 ⟨rfl, hB17⟩
  have hC17 := onto hC16 hB17
  unfold opV
  go_wp2_with fail
  refine (mcop_any 15 0 0 _).mono ?_
  rintro e w18 ⟨rfl, hB18⟩
  have hC18 := onto hC17 hB18
  unfold opV
  have hC18a := gro_alloc hC18 (.cells #[.int .i64 14, .int .i64 2, .int .i64 0, .int .i64 2, .int .i64 1, .int .i64 13, .int .i64 3, .int .i64 0, .int .i64 2, .int .i64 1, .int .i64 15, .int .i64 0, .int .i64 0, .int .i64 2, .int .i64 0] 37)
  have JO := oprs_lit w18 [⟨14, 2, 0, 2, 1⟩, ⟨13, 3, 0, 2, 1⟩, ⟨15, 0, 0, 2, 0⟩] 37 _ rfl
  have R := mcrets_any ⟨5, 1, []⟩ none 0 (some ⟨w18.heap.size, 0, none⟩) 3 [⟨14, 2, 0, 2, 1⟩, ⟨13, 3, 0, 2, 1⟩, ⟨15, 0, 0, 2, 0⟩] _ (ints_nil _ _) JO (by simp) (by simp) (by simp [Small])
  rw [show retsA ⟨5, 1, []⟩ [⟨14, 2, 0, 2, 1⟩, ⟨13, 3, 0, 2, 1⟩, ⟨15, 0, 0, 2, 0⟩] = ([(2, 0), (2, 1), (2, 4)], 0) by kernel_rfl] at R
  unfold RetPost at R
  dsimp only [List.length_nil, List.length_cons] at R
  unfold stV at R
  go_wp2_with fail
  refine R.mono ?_
  rintro e w19 ⟨A19, c19, rfl, ho19, hB19⟩
  have hC19 := onto hC18a hB19
  have hw19 := hw.on hC19
  clear R JO
  go_wp2_with fail
  refine (mcawake_yes w19 hw19).mono ?_
  rintro e w20 ⟨rfl, hB20⟩
  have hC20 := onto hC19 hB20
  have ho20 := row_below ho19 hB20
  obtain ⟨g, cap, hg⟩ := ownsRow_succ ho20
  injection hg with hg1 hg2 hg3
  subst hg1 hg3
  have r1 : w20.cell? ⟨g, 1, none⟩ = some (.int .i64 0) := (ho20.cellAt 1 (by decide)).trans rfl
  have r3 : w20.cell? ⟨g, 3, none⟩ = some (.int .i64 1) := (ho20.cellAt 3 (by decide)).trans rfl
  have r5 : w20.cell? ⟨g, 5, none⟩ = some (.int .i64 4) := (ho20.cellAt 5 (by decide)).trans rfl
  clear ho19 ho20
  go_wp2
  go_ret
  exact ⟨rfl, hC20⟩
end Go.Proofs.YtmclpganipfadaaDoor
