/- The layer machine: Type, the table of what each type does, Apply. -/
import Derived.Test.YtmclpganipfadaaGreatDoorMcA
namespace Go.Proofs.YtmclpganipfadaaGreatDoor
open Go.RowKit Go.Maps
set_option linter.unusedVariables false

def typeB (i : Nat) : Int := [0, 1, 1, 2, 2, 2, 2, 3, 3, 3, 4, 4, 4, 5, 5, 5][i]?.getD 0
/-- The kinds' types lie where the program's text lays them. -/
def Tys (w : World) : Prop := ∀ i, i < 16 → w.cell? ⟨0, i, none⟩ = some (.int .i64 (typeB i))
theorem Tys.pos {w : World} (h : Tys w) : 0 < w.heap.size := by
  have := h 0 (by omega)
  rcases Nat.eq_zero_or_pos w.heap.size with e | e
  · unfold World.cell? at this
    rw [Array.getElem?_eq_none (by omega)] at this
    cases this
  · exact e
theorem Tys.below {w w' : World} {n : Nat} (h : Tys w) (hb : Below n w w') (hn : 0 < n) : Tys w' := fun i hi => (hb.cell (p := ⟨0, i, none⟩) hn).trans (h i hi)
theorem Tys.on {w w' : World} (h : Tys w) (hb : Below w.heap.size w w') : Tys w' := h.below hb h.pos

def typeP (kd : Int) : Int × Int := if kd < 1 ∨ 15 < kd then (0, 6) else (typeB kd.toNat, 0)
theorem mctype_any (kd : Int) (w : World) (hw : Tys w) : Calls Tryz.prog 11 #[.int .i64 kd] w (Says (.tuple #[.int .i64 (typeP kd).1, .int .i64 (typeP kd).2]) w) := by
  unfold typeP
  by_cases h : kd < 1 ∨ 15 < kd
  · rw [if_pos h]
    by_cases h1 : kd < 1
    · have d1 : decide (kd < 1) = true := decide_eq_true h1
      clear h
      go_enter Tryz.func11, Tryz.ntmps11
      go_wp2
      go_ret2
      exact ⟨rfl, Below.refl _ _⟩
    · have d1 : decide (kd < 1) = false := decide_eq_false h1
      have d2 : decide (15 < kd) = true := decide_eq_true (by omega)
      clear h
      go_enter Tryz.func11, Tryz.ntmps11
      go_wp2
      go_ret2
      exact ⟨rfl, Below.refl _ _⟩
  · rw [if_neg h]
    obtain ⟨k, rfl⟩ : ∃ k : Nat, kd = (k : Int) := ⟨kd.toNat, by omega⟩
    have hc := hw k (by omega)
    have d1 : decide ((k : Int) < 1) = false := decide_eq_false (by omega)
    have d2 : decide (15 < (k : Int)) = false := decide_eq_false (by omega)
    have hk0 : (0 : Int) ≤ (k : Int) := by omega
    have hk1 : (k : Int) < 16 := by omega
    rw [Int.toNat_natCast]
    generalize typeB k = s at *
    clear h
    go_enter Tryz.func11, Tryz.ntmps11
    go_wp2
    go_ret2
    exact ⟨rfl, Below.refl _ _⟩

def layV : Value := .agg #[.nilFunc, .func (.func 34) #[] #[], .func (.func 35) #[] #[], .func (.func 36) #[] #[], .func (.func 37) #[] #[], .func (.func 38) #[] #[]]
theorem layers_any (w : World) : Calls Tryz.prog 24 #[] w (Says layV w) := by
  go_enter Tryz.func24, Tryz.ntmps24
  go_wp2
  refine bodyPost_ret (v := layV) (by simp [results, Tryz.f24, go_sem, layV]) rfl ?_
  exact ⟨rfl, alloc1 w _⟩

set_option maxRecDepth 100000 in
set_option maxHeartbeats 1000000 in
theorem mcapply_none (t n : Int) (A : Option Addr) (c : Nat) (l : List Int) (kd a b : Int) (w : World) (h : t < 1 ∨ 5 < t) :
    Calls Tryz.prog 7 #[stV t n A l.length c, .int .i64 kd, .int .i64 a, .int .i64 b] w (MPost (noA 8) w) := by
  have hB0 := boxed3_below w t n A l.length c
  unfold stV
  by_cases h1 : t < 1
  · have d1 : decide (t < 1) = true := decide_eq_true h1
    clear h
    go_enter Tryz.func7, Tryz.ntmps7
    go_wp2
    refine bodyPost_ret (v := ansV 0 0 0 0 8) (by simp [results, Tryz.f7, go_sem, ansV, stV, retV]) rfl ?_
    exact mp_says rfl ⟨rfl, hB0⟩
  · have d1 : decide (t < 1) = false := decide_eq_false h1
    have d2 : decide (5 < t) = true := decide_eq_true (by omega)
    clear h
    go_enter Tryz.func7, Tryz.ntmps7
    go_wp2
    refine bodyPost_ret (v := ansV 0 0 0 0 8) (by simp [results, Tryz.f7, go_sem, ansV, stV, retV]) rfl ?_
    exact mp_says rfl ⟨rfl, hB0⟩

set_option maxRecDepth 100000 in
set_option maxHeartbeats 1000000 in
theorem mcapply_with (t n : Int) (A : Option Addr) (c : Nat) (l : List Int) (kd a b : Int) (w : World) (g : Nat) (p : Ans)
    (d1 : decide (t < 1) = false) (d2 : decide (5 < t) = false)
    (hix : ∀ W : World, (Instr.index 53 layV (.int .i64 t)).run Tryz.prog W = .ok (.func (.func g) #[] #[]) W)
    (eg : ∀ args w, (callFunc g args).run Tryz.prog w = .ok (.enter g args) w)
    (H : ∀ W, Below w.heap.size w W → Calls Tryz.prog g #[stV t n A l.length c, .int .i64 kd, .int .i64 a, .int .i64 b] W (MPost p W)) :
    Calls Tryz.prog 7 #[stV t n A l.length c, .int .i64 kd, .int .i64 a, .int .i64 b] w (MPost p w) := by
  have hB0 := boxed3_below w t n A l.length c
  obtain ⟨va, hva⟩ : ∃ va, layV = va := ⟨_, rfl⟩
  rw [hva] at hix
  have HK : ∀ W : World, Calls Tryz.prog 24 #[] W (Says va W) := fun W => hva ▸ layers_any W
  have HW := Lib.hid (boxed3_state w t n A l.length c)
  have HZ := Lib.hid (boxed3_then w t n A l.length c)
  have HR := Lib.hid (boxed3_ret w t n A l.length c)
  have hsz := boxed3_size w t n A l.length c
  clear hva
  obtain ⟨pt, pn, pl, pk, pr, pe⟩ := p
  unfold MPost at *
  dsimp only at *
  unfold stV retV at *
  unfold boxed3 at *
  go_enter Tryz.func7, Tryz.ntmps7
  go_wp2_with fail
  generalize ((w.alloc (.cells #[.int .i64 t, .int .i64 n, .slice A l.length c] 24)).alloc (.cells #[.int .i64 0, .int .i64 0, .slice none 0 0] 24)).alloc (.cells #[.int .i64 0, .int .i64 0] 26) = W0 at *
  have c0 : W0.cell? ⟨w.heap.size, 0, none⟩ = some (.int .i64 t) := HW.out.c rfl
  have hlt0 : w.heap.size < W0.heap.size := by omega
  go_region_held3 (fun w' => w'.cell? ⟨w.heap.size, 0, none⟩ = some (.int .i64 t) ∧ Below W0.heap.size W0 w') (first | exact ⟨c0, (Below.refl _ W0).drew⟩ | exact ⟨(hB6.cell (p := ⟨w.heap.size, 0, none⟩) hlt0).trans c0, (Below.refl _ W0).drew.trans hB6⟩ | go_keep) (first | (go_at_call 24; refine (HK _).mono ?_; rintro e w6 ⟨rfl, hB6⟩))
  have hB6' : Below W0.heap.size W0 w6 := ((Below.refl _ W0).drew).trans hB6
  have HW6 := Lib.hid (HW.out.below hB6' hlt0)
  have HZ6 := Lib.hid (HZ.out.below hB6' (by omega))
  have HR6 := Lib.hid (HR.out.below hB6' (by omega))
  have s0 : w6.cell? ⟨w.heap.size, 0, none⟩ = some (.int .i64 t) := HW6.out.c rfl
  have s1 : w6.cell? ⟨w.heap.size, 1, none⟩ = some (.int .i64 n) := HW6.out.c rfl
  have s2 : w6.cell? ⟨w.heap.size, 2, none⟩ = some (.slice A l.length c) := HW6.out.c rfl
  have hB : Below w.heap.size w w6 := nxt hB0 hB6' (by omega)
  have hlt6 := HR6.out.lt
  go_wp2_with fail
  refine (H w6 hB).mono ?_
  rintro e w3 ⟨A3, c3, rfl, ho3, hB3⟩
  have HZ3 := Lib.hid (HZ6.out.below hB3 (by omega))
  have HR3 := Lib.hid (HR6.out.below hB3 (by omega))
  have hBw3 := nxt hB hB3 hB.size
  have z0 : w3.cell? ⟨w.heap.size + 1, 0, none⟩ = _ := HZ3.out.c rfl
  have z1 : w3.cell? ⟨w.heap.size + 1, 1, none⟩ = _ := HZ3.out.c rfl
  have z2 : w3.cell? ⟨w.heap.size + 1, 2, none⟩ = _ := HZ3.out.c rfl
  have r0 : w3.cell? ⟨w.heap.size + 1 + 1, 0, none⟩ = _ := HR3.out.c rfl
  have r1 : w3.cell? ⟨w.heap.size + 1 + 1, 1, none⟩ = _ := HR3.out.c rfl
  have y0 := HZ3.out.frozen 0
  have y1 := HZ3.out.frozen 1
  have y2 := HZ3.out.frozen 2
  have x0 := HR3.out.frozen 0
  have x1 := HR3.out.frozen 1
  go_wp2
  obtain ⟨HZ4, HR4, hB4⟩ := filled_holds (m := w.heap.size) HZ3.out HR3.out (by omega) pt pn (.slice A3 pl.length c3) pk pr
  have ho4 := row_mid (W' := filled w3 (w.heap.size + 1) pt pn (.slice A3 pl.length c3) pk pr) ho3 (fun B hB _ => filled_far _ _ _ _ _ _ _ B (by omega))
  have k0 := HZ4.c (j := 0) rfl
  have k1 := HZ4.c (j := 1) rfl
  have k2 := HZ4.c (j := 2) rfl
  have q0 := HR4.c (j := 0) rfl
  have q1 := HR4.c (j := 1) rfl
  change bodyPost _ _ _ _ _ (filled w3 (w.heap.size + 1) pt pn (.slice A3 pl.length c3) pk pr)
  generalize filled w3 (w.heap.size + 1) pt pn (.slice A3 pl.length c3) pk pr = W4 at *
  refine bodyPost_ret (v := .tuple #[.agg #[.int .i64 pt, .int .i64 pn, .slice A3 pl.length c3], .agg #[.int .i64 pk, .int .i64 pr], .int .i64 pe]) (by simp [results, Tryz.f7, go_sem, k0, k1, k2, q0, q1]) rfl ?_
  exact ⟨_, c3, rfl, row_more ho4 hB.size, nxt hBw3 hB4 (Nat.le_refl _)⟩

/-- What machine.Apply tells of any state and operation. -/
theorem mcapply_any (t n : Int) (A : Option Addr) (c : Nat) (l : List Int) (kd a b : Int) (w : World) (hA : Ints w A l) (hlen : l.length ≤ 800) (hc : l.length ≤ c) (hs : Small a) :
    Calls Tryz.prog 7 #[stV t n A l.length c, .int .i64 kd, .int .i64 a, .int .i64 b] w (MPost (mA t n l kd a b) w) := by
  by_cases h : t < 1 ∨ 5 < t
  · have e : mA t n l kd a b = noA 8 := by unfold mA; rw [if_neg (by omega), if_neg (by omega), if_neg (by omega), if_neg (by omega), if_neg (by omega)]
    rw [e]
    exact mcapply_none t n A c l kd a b w h
  · have d1 : decide (t < 1) = false := decide_eq_false (by omega)
    have d2 : decide (5 < t) = false := decide_eq_false (by omega)
    obtain rfl | rfl | rfl | rfl | rfl : t = 1 ∨ t = 2 ∨ t = 3 ∨ t = 4 ∨ t = 5 := by omega
    · exact mcapply_with _ n A c l kd a b w 34 _ d1 d2 (fun W => by kernel_rfl) (Go.Proofs.enters_of Tryz.func34 (by kernel_rfl) rfl) (fun W hB => mccnt_any n A c l kd a b W (hA.below hB) hlen)
    · exact mcapply_with _ n A c l kd a b w 35 _ d1 d2 (fun W => by kernel_rfl) (Go.Proofs.enters_of Tryz.func35 (by kernel_rfl) rfl) (fun W hB => mcset_any n A c l kd a b W (hA.below hB) hlen hc)
    · exact mcapply_with _ n A c l kd a b w 36 _ d1 d2 (fun W => by kernel_rfl) (Go.Proofs.enters_of Tryz.func36 (by kernel_rfl) rfl) (fun W hB => mcmap_any n A c l kd a b W (hA.below hB) hlen hc)
    · exact mcapply_with _ n A c l kd a b w 37 _ d1 d2 (fun W => by kernel_rfl) (Go.Proofs.enters_of Tryz.func37 (by kernel_rfl) rfl) (fun W hB => mcfif_any n A c l kd a b W (hA.below hB) hlen)
    · exact mcapply_with _ n A c l kd a b w 38 _ d1 d2 (fun W => by kernel_rfl) (Go.Proofs.enters_of Tryz.func38 (by kernel_rfl) rfl) (fun W hB => mcacc_any n A c l kd a b W (hA.below hB) hlen hs)
end Go.Proofs.YtmclpganipfadaaGreatDoor
