/- StateKnown. -/
import Derived.Test.YtbenfdbjpefegaaDoorStN
import Derived.Test.YtbenfdbjpefegaaDoorOpRg
namespace Go.Proofs.YtbenfdbjpefegaaDoor
open Go.RowKit Go.Maps
set_option linter.unusedVariables false

set_option maxRecDepth 100000 in
set_option maxHeartbeats 4000000 in
theorem known_law (w : World) (hw : Wds w) : Calls Tryd.prog 5 #[] w (Yes w) := by
  have HWD := Lib.hid hw
  have hpos := hw.pos
  have F1 := Lib.hid (fun W hW => fails_yes ⟨#[115, 101, 116, 32, 51, 32, 51]⟩ 5 0 W hW (by decide) (by rfl))
  have F2 := Lib.hid (fun W hW => fails_yes ⟨#[101, 115, 99, 114, 111, 119, 32, 45, 49]⟩ 5 0 W hW (by decide) (by rfl))
  have F3 := Lib.hid (fun W hW => fails_yes ⟨#[115, 101, 116, 32, 120]⟩ 5 4 W hW (by decide) (by rfl))
  have F4 := Lib.hid (fun W hW => fails_yes ⟨#[115, 101, 116, 115, 32, 49]⟩ 6 0 W hW (by decide) (by rfl))
  have F5 := Lib.hid (fun W hW => fails_yes ⟨#[99, 111, 117, 110, 116, 101, 114]⟩ 5 0 W hW (by decide) (by rfl))
  clear hw
  go_enter Tryd.func5, Tryd.ntmps5
  go_wp2_with fail
  refine (some_any 4 none 0 0 _).mono ?_
  rintro e w1 ⟨rfl, hB1⟩
  have H2 := tells_yes 4 0 none 0 0 [] ⟨#[113, 117, 101, 117, 101]⟩ w1 (HWD.out.on hB1) rfl (fun h => by simp at h) (by simp) (by simp) (by unfold Small; decide) (by decide) (by rfl)
  have hs1 := hB1.size
  go_wp2_with fail
  refine H2.mono ?_
  rintro e w2 ⟨rfl, hB2⟩
  have hW2 := nxt hB1 hB2 hs1
  have hs2 := hW2.size
  clear H2 hB1 hB2
  go_wp2_with fail
  refine (F1.out w2 (HWD.out.below hW2 hpos)).mono ?_
  rintro e w3 ⟨rfl, hB3⟩
  have hW3 := nxt hW2 hB3 hs2
  have hs3 := hW3.size
  clear hW2 hB3
  go_wp2_with fail
  refine (F2.out w3 (HWD.out.below hW3 hpos)).mono ?_
  rintro e w4 ⟨rfl, hB4⟩
  have hW4 := nxt hW3 hB4 hs3
  have hs4 := hW4.size
  clear hW3 hB4
  go_wp2_with fail
  refine (F3.out w4 (HWD.out.below hW4 hpos)).mono ?_
  rintro e w5 ⟨rfl, hB5⟩
  have hW5 := nxt hW4 hB5 hs4
  have hs5 := hW5.size
  clear hW4 hB5
  go_wp2_with fail
  refine (F4.out w5 (HWD.out.below hW5 hpos)).mono ?_
  rintro e w6 ⟨rfl, hB6⟩
  have hW6 := nxt hW5 hB6 hs5
  have hs6 := hW6.size
  clear hW5 hB6
  go_wp2_with fail
  refine (F5.out w6 (HWD.out.below hW6 hpos)).mono ?_
  rintro e w7 ⟨rfl, hB7⟩
  have hW7 := nxt hW6 hB7 hs6
  have hs7 := hW7.size
  clear hW6 hB7
  go_wp2_with fail
  refine (empty_any 2 w7).mono ?_
  rintro e w8 ⟨rfl, hB8⟩
  have hW8 := nxt hW7 hB8 hs7
  have hs8 := hW8.size
  have e8 : emptyV 2 = .tuple #[.agg #[.int .i64 2, .int .i64 0, .slice none 0 0], .int .i64 0] := rfl
  rw [e8]
  clear hW7 hB8 e8
  have HX8 := Holds.new w8 24 #[.int .i64 2, .int .i64 0, .slice none 0 0]
  have hB9 : Below w8.heap.size w8 ((w8.alloc (.cells #[.int .i64 2, .int .i64 0, .slice none 0 0] 24)).alloc (.cells #[.int .u8 1, .int .u8 2, .int .u8 3] 5)) := (alloc1 w8 _).alloc (by simp) _
  have hl8 : w8.heap.size < ((w8.alloc (.cells #[.int .i64 2, .int .i64 0, .slice none 0 0] 24)).alloc (.cells #[.int .u8 1, .int .u8 2, .int .u8 3] 5)).heap.size := by simp; omega
  have HX9 := HX8.alloc (.cells #[.int .u8 1, .int .u8 2, .int .u8 3] 5)
  have hb9 := bytes_new (w8.alloc (.cells #[.int .i64 2, .int .i64 0, .slice none 0 0] 24)) [1, 2, 3] 5 #[.int .u8 1, .int .u8 2, .int .u8 3] (0, 0) rfl
  rw [World.size_alloc] at hb9
  have hoc : Octets [1, 2, 3] := by unfold Octets; decide
  have H9 := dec_short (some ⟨w8.heap.size + 1, 0, none⟩) 3 [1, 2, 3] ((w8.alloc (.cells #[.int .i64 2, .int .i64 0, .slice none 0 0] 24)).alloc (.cells #[.int .u8 1, .int .u8 2, .int .u8 3] 5)) hb9 hoc (by simp) (by simp) (by omega) (by rfl)
  unfold DecNo stV at H9
  dsimp only [List.length_cons, List.length_nil, Nat.zero_add] at H9
  clear hb9
  go_wp2_with fail
  refine H9.mono ?_
  rintro e w9 ⟨rfl, hB9'⟩
  have HX10 := HX9.below hB9' hl8
  have hB89 := nxt hB9 hB9' hB9.size
  have hW9 := nxt hW8 hB89 hs8
  have hs9 := hW9.size
  have hs89 := hB89.size
  have hl9 := HX10.lt
  clear H9 HX8 HX9 hB9 hl8 hB9' hB89 hW8
  have HX11 := HX10.alloc (.cells #[.int .i64 0, .int .i64 0, .slice none 0 0] 24)
  have hW10 := nxt hW9 (alloc1 w9 (.cells #[.int .i64 0, .int .i64 0, .slice none 0 0] 24)) hs9
  go_upto_region 4 with fail
  generalize w9.alloc (.cells #[.int .i64 0, .int .i64 0, .slice none 0 0] 24) = W at *
  have hl10 := HX11.lt
  have HWD10 := Lib.hid (HWD.out.below hW10 hpos)
  have hs10 := hW10.size
  have HS : ∀ w', Below W.heap.size W w' → w'.cell? ⟨w8.heap.size, 0, none⟩ = some (.int .i64 2) ∧ w'.cell? ⟨w8.heap.size, 1, none⟩ = some (.int .i64 0) ∧ w'.cell? ⟨w8.heap.size, 2, none⟩ = some (.slice none 0 0) := fun w' h => ⟨(HX11.below h hl10).c (j := 0) rfl, (HX11.below h hl10).c (j := 1) rfl, (HX11.below h hl10).c (j := 2) rfl⟩
  have HSH := Lib.hid HS
  clear HS HX10 hW9 F1 F2 F3 F4 F5
  have hD : Below W.heap.size W W.drew := (Below.refl _ W).drew
  refine wp_region_noPanic ?_
  refine wp_region_alone [false, false, false, true, true, false, false, true, true, true, true, false, false, true, true, true, true, true, true, true, true, true, true] (fun w' => Below W.heap.size W w') (by kernel_rfl) (by kernel_rfl) (fun _ _ _ _ _ h => h) hD ?_
  have hBa := hD.alloc (Nat.le_refl _) (.cells #[.int .i64 1, .int .i64 2, .int .i64 1, .int .i64 3] 3)
  refine Alone.make (.slice (some ⟨W.heap.size, 0, none⟩) 4 4) (w1 := W.drew.alloc (.cells #[.int .i64 1, .int .i64 2, .int .i64 1, .int .i64 3] 3)) (by rfl) (by go_simp) hBa ?_
  simp only [Act.put, List.setIfInBounds_toArray, List.set_cons_zero, List.set_cons_succ]
  refine Alone.call 34 #[.int .i64 3, .slice (some ⟨W.heap.size, 0, none⟩) 4 4] (by rfl) (by go_simp) ?_
  refine (some_any 3 (some ⟨W.heap.size, 0, none⟩) 4 4 _).mono ?_
  rintro e w11 ⟨rfl, hB11⟩
  have hW11 := nxt hBa hB11 (by simp)
  have hi11 := (ints_lit W.drew [1, 2, 1, 3] 3 #[.int .i64 1, .int .i64 2, .int .i64 1, .int .i64 3] rfl).below hB11
  have hs11 := hW11.size
  refine ⟨_, rfl, hW11, ?_⟩
  simp only [Act.put, List.setIfInBounds_toArray, List.set_cons_zero, List.set_cons_succ]
  refine Alone.call 22 #[.agg #[.int .i64 3, .int .i64 0, .slice (some ⟨W.heap.size, 0, none⟩) 4 4]] (by rfl) (by go_simp) ?_
  have H12 : Calls Tryd.prog 22 #[.agg #[.int .i64 3, .int .i64 0, .slice (some ⟨W.heap.size, 0, none⟩) 4 4]] w11 (Says (.int .i64 5) w11) := check_any 3 0 (some ⟨W.heap.size, 0, none⟩) 4 [1, 2, 1, 3] w11 hi11 (by simp)
  refine H12.mono ?_
  rintro e w12 ⟨rfl, hB12⟩
  have hW12 := nxt hW11 hB12 hs11
  have hs12 := hW12.size
  refine ⟨_, rfl, hW12, ?_⟩
  simp only [Act.put, List.setIfInBounds_toArray, List.set_cons_zero, List.set_cons_succ]
  iterate 2
    refine Alone.take ?_ (by rfl) ?_ ?_
    rotate_left
    · intro w' hw'
      obtain ⟨e0, e1, e2⟩ := HSH.out w' hw'
      go_simp
      try with_reducible rfl
    simp only [Act.put, List.setIfInBounds_toArray, List.set_cons_zero, List.set_cons_succ]
  refine Alone.call 34 #[.int .i64 6, .slice none 0 0] (by rfl) (by go_simp) ?_
  refine (some_any 6 none 0 0 _).mono ?_
  rintro e w13 ⟨rfl, hB13⟩
  have hW13 := nxt hW12 hB13 hs12
  have hs13 := hW13.size
  refine ⟨_, rfl, hW13, ?_⟩
  simp only [Act.put, List.setIfInBounds_toArray, List.set_cons_zero, List.set_cons_succ]
  refine Alone.call 22 #[.agg #[.int .i64 6, .int .i64 0, .slice none 0 0]] (by rfl) (by go_simp) ?_
  have H14 : Calls Tryd.prog 22 #[.agg #[.int .i64 6, .int .i64 0, .slice none 0 0]] w13 (Says (.int .i64 8) w13) := check_any 6 0 none 0 [] w13 (fun h => by simp at h) (by simp)
  refine H14.mono ?_
  rintro e w14 ⟨rfl, hB14⟩
  have hW14 := nxt hW13 hB14 hs13
  have hs14 := hW14.size
  refine ⟨_, rfl, hW14, ?_⟩
  simp only [Act.put, List.setIfInBounds_toArray, List.set_cons_zero, List.set_cons_succ]
  iterate 4
    refine Alone.take ?_ (by rfl) ?_ ?_
    rotate_left
    · intro w' hw'
      obtain ⟨e0, e1, e2⟩ := HSH.out w' hw'
      go_simp
      try with_reducible rfl
    simp only [Act.put, List.setIfInBounds_toArray, List.set_cons_zero, List.set_cons_succ]
  refine Alone.call 34 #[.int .i64 2, .slice none 0 0] (by rfl) (by go_simp) ?_
  refine (some_any 2 none 0 0 _).mono ?_
  rintro e w15 ⟨rfl, hB15⟩
  have hW15 := nxt hW14 hB15 hs14
  have hs15 := hW15.size
  refine ⟨_, rfl, hW15, ?_⟩
  simp only [Act.put, List.setIfInBounds_toArray, List.set_cons_zero, List.set_cons_succ]
  refine Alone.call 20 #[.agg #[.int .i64 2, .int .i64 0, .slice none 0 0], .agg #[.int .i64 2, .int .i64 0, .slice none 0 0]] (by rfl) (by go_simp) ?_
  have H16 : Calls Tryd.prog 20 #[.agg #[.int .i64 2, .int .i64 0, .slice none 0 0], .agg #[.int .i64 2, .int .i64 0, .slice none 0 0]] w15 (Says (.bool true) w15) := samest_any 2 0 2 0 none none 0 0 [] [] w15 (fun h => by simp at h) (fun h => by simp at h) (by simp)
  refine H16.mono ?_
  rintro e w16 ⟨rfl, hB16⟩
  have hW16 := nxt hW15 hB16 hs15
  have hs16 := hW16.size
  refine ⟨_, rfl, hW16, ?_⟩
  simp only [Act.put, List.setIfInBounds_toArray, List.set_cons_zero, List.set_cons_succ]
  iterate 10
    refine Alone.take ?_ (by rfl) ?_ ?_
    rotate_left
    · intro w' hw'
      obtain ⟨e0, e1, e2⟩ := HSH.out w' hw'
      go_simp
      try with_reducible rfl
    simp only [Act.put, List.setIfInBounds_toArray, List.set_cons_zero, List.set_cons_succ]
  refine Alone.done ?_
  refine NoPanic.normal ?_
  have hWw := nxt hW10 hW16 (by omega)
  have HWD16 := HWD.out.below hWw hpos
  clear H12 H14 H16 hi11 hW11 hW12 hW13 hW14 hW15 hW16 hBa hD
  go_wp2_with fail
  refine (awake_any w16 HWD16).mono ?_
  rintro e w17 ⟨rfl, hB17⟩
  have hW17 := nxt hWw hB17 (by omega)
  have hs17 := hW17.size
  go_wp2_with fail
  refine (some_any 2 (some ⟨w17.heap.size, 0, none⟩) 1 1 _).mono ?_
  rintro e w18 ⟨rfl, hB18⟩
  have hB18' := nxt (alloc1 w17 (.cells #[.int .i64 1] 3)) hB18 (by simp)
  have hi18 := (ints_lit w17 [1] 3 #[.int .i64 1] rfl).below hB18
  have hW18 := nxt hW17 hB18' hs17
  have hs18 := hW18.size
  go_wp2_with fail
  refine (some_any 4 (some ⟨w18.heap.size, 0, none⟩) 1 1 _).mono ?_
  rintro e w19 ⟨rfl, hB19⟩
  have hB19' := nxt (alloc1 w18 (.cells #[.int .i64 1] 3)) hB19 (by simp)
  have hi19 := (ints_lit w18 [1] 3 #[.int .i64 1] rfl).below hB19
  have hi18' := hi18.below hB19'
  have hW19 := nxt hW18 hB19' hs18
  have hs19 := hW19.size
  have H20 : Calls Tryd.prog 24 #[.agg #[.int .i64 2, .int .i64 0, .slice (some ⟨w17.heap.size, 0, none⟩) 1 1], .agg #[.int .i64 4, .int .i64 0, .slice (some ⟨w18.heap.size, 0, none⟩) 1 1]] w19 (Says (.bool false) w19) := same_st 2 0 4 0 (some ⟨w17.heap.size, 0, none⟩) (some ⟨w18.heap.size, 0, none⟩) 1 1 [1] [1] w19 hi18' hi19 (by simp)
  clear hi18 hi19 hi18'
  go_wp2_with fail
  refine H20.mono ?_
  rintro e w20 ⟨rfl, hB20⟩
  have hW20 := nxt hW19 hB20 hs19
  have hs20 := hW20.size
  go_wp2_with fail
  refine (some_any 2 (some ⟨w20.heap.size, 0, none⟩) 1 1 _).mono ?_
  rintro e w21 ⟨rfl, hB21⟩
  have hB21' := nxt (alloc1 w20 (.cells #[.int .i64 1] 3)) hB21 (by simp)
  have hi21 := (ints_lit w20 [1] 3 #[.int .i64 1] rfl).below hB21
  have hW21 := nxt hW20 hB21' hs20
  have hs21 := hW21.size
  go_wp2_with fail
  refine (some_any 2 (some ⟨w21.heap.size, 0, none⟩) 1 1 _).mono ?_
  rintro e w22 ⟨rfl, hB22⟩
  have hB22' := nxt (alloc1 w21 (.cells #[.int .i64 1] 3)) hB22 (by simp)
  have hi22 := (ints_lit w21 [1] 3 #[.int .i64 1] rfl).below hB22
  have hi21' := hi21.below hB22'
  have hW22 := nxt hW21 hB22' hs21
  have hs22 := hW22.size
  have H23 : Calls Tryd.prog 24 #[.agg #[.int .i64 2, .int .i64 0, .slice (some ⟨w20.heap.size, 0, none⟩) 1 1], .agg #[.int .i64 2, .int .i64 0, .slice (some ⟨w21.heap.size, 0, none⟩) 1 1]] w22 (Says (.bool true) w22) := same_st 2 0 2 0 (some ⟨w20.heap.size, 0, none⟩) (some ⟨w21.heap.size, 0, none⟩) 1 1 [1] [1] w22 hi21' hi22 (by simp)
  clear hi21 hi22 hi21'
  go_wp2_with fail
  refine H23.mono ?_
  rintro e w23 ⟨rfl, hB23⟩
  go_wp2
  go_ret
  exact ⟨rfl, nxt hW22 hB23 hs22⟩
end Go.Proofs.YtbenfdbjpefegaaDoor
