/- Contracts of the layer history: Life. -/
import Derived.Test.YtpdbkjnaicjfdaaGreatDoorHsK
namespace Go.Proofs.YtpdbkjnaicjfdaaGreatDoor
open Go.RowKit Go.Maps
set_option linter.unusedVariables false
set_option maxRecDepth 100000

def lfZ : Array Value := #[.string ⟨#[]⟩, .int .i64 0, .int .i64 0, .bool false, .int .i64 0]
def lifeV : Option Lf → Value
  | some x => .tuple #[.agg (lfC x), .bool true]
  | none => .tuple #[.agg lfZ, .bool false]

set_option maxHeartbeats 4000000 in
theorem life_any {lo : Nat} {L : Lay} {d : Dk} (s : ByteArray) (w : World) (h : Dsk w lo L d) (hs : s.size ≤ 8000) :
    Calls Tryz.prog 29 #[.pointer (some ⟨L.B, 0, none⟩), .string s] w (Says (lifeV (lfAt d s)) w) := by
  have hb0 := alloc1 w (.cells lfZ 58)
  have HF0 := Lib.hid (Holds.new w 58 lfZ)
  have HD0 := Lib.hid (h.below hb0)
  have HM := Lib.hid (made_yes L.B _ (desk_cells HD0.out).1)
  have HOf := Lib.hid (of_L L.B _ (desk_cells HD0.out).2.2.2.1 HD0.out.tr s (by unfold maxLen; omega))
  have hw := HD0.out.lfOf s
  unfold lfZ at *
  clear h
  rcases hw with ⟨hn, hbn⟩ | ⟨x, b, hn, hbn, hH, _, hxn⟩
  · rw [hn]
    simp only [hbn, ptrO] at HOf
    unfold lifeV lfZ
    clear hn hbn
    go_enter Tryz.func29, Tryz.ntmps29
    go_upto_region 1 with fail
    generalize w.alloc (.cells #[.string ⟨#[]⟩, .int .i64 0, .int .i64 0, .bool false, .int .i64 0] 58) = W0 at *
    go_wp2_with fail
    refine HM.out.mono ?_
    rintro e w1 ⟨rfl, rfl⟩
    have f0 : W0.cell? ⟨w.heap.size, 0, none⟩ = some (.string ⟨#[]⟩) := HF0.out.c (j := 0) rfl
    have f1 : W0.cell? ⟨w.heap.size, 1, none⟩ = some (.int .i64 0) := HF0.out.c (j := 1) rfl
    have f2 : W0.cell? ⟨w.heap.size, 2, none⟩ = some (.int .i64 0) := HF0.out.c (j := 2) rfl
    have f3 : W0.cell? ⟨w.heap.size, 3, none⟩ = some (.bool false) := HF0.out.c (j := 3) rfl
    have f4 : W0.cell? ⟨w.heap.size, 4, none⟩ = some (.int .i64 0) := HF0.out.c (j := 4) rfl
    have fz := HF0.out.frozen
    go_wp2_with fail
    refine HOf.out.mono ?_
    rintro e w2 ⟨rfl, rfl⟩
    go_wp2
    have hG := ((((HF0.out.set 0 (.string ⟨#[]⟩)).set 1 (.int .i64 0)).set 2 (.int .i64 0)).set 3 (.bool false)).set 4 (.int .i64 0)
    have hb9 := ((((hb0.setCell (p := ⟨w.heap.size, 0, none⟩) (Nat.le_refl _) (.string ⟨#[]⟩)).setCell (p := ⟨w.heap.size, 1, none⟩) (Nat.le_refl _) (.int .i64 0)).setCell (p := ⟨w.heap.size, 2, none⟩) (Nat.le_refl _) (.int .i64 0)).setCell (p := ⟨w.heap.size, 3, none⟩) (Nat.le_refl _) (.bool false)).setCell (p := ⟨w.heap.size, 4, none⟩) (Nat.le_refl _) (.int .i64 0)
    generalize ((((W0.setCell ⟨w.heap.size, 0, none⟩ (.string ⟨#[]⟩)).setCell ⟨w.heap.size, 1, none⟩ (.int .i64 0)).setCell ⟨w.heap.size, 2, none⟩ (.int .i64 0)).setCell ⟨w.heap.size, 3, none⟩ (.bool false)).setCell ⟨w.heap.size, 4, none⟩ (.int .i64 0) = W9 at *
    have k0 : W9.cell? ⟨w.heap.size, 0, none⟩ = some (.string ⟨#[]⟩) := hG.c (j := 0) rfl
    have k1 : W9.cell? ⟨w.heap.size, 1, none⟩ = some (.int .i64 0) := hG.c (j := 1) rfl
    have k2 : W9.cell? ⟨w.heap.size, 2, none⟩ = some (.int .i64 0) := hG.c (j := 2) rfl
    have k3 : W9.cell? ⟨w.heap.size, 3, none⟩ = some (.bool false) := hG.c (j := 3) rfl
    have k4 : W9.cell? ⟨w.heap.size, 4, none⟩ = some (.int .i64 0) := hG.c (j := 4) rfl
    refine bodyPost_ret (v := .tuple #[.agg #[.string ⟨#[]⟩, .int .i64 0, .int .i64 0, .bool false, .int .i64 0], .bool false]) (by simp [results, Tryz.f29, go_sem, k0, k1, k2, k3, k4]) rfl ?_
    exact ⟨rfl, hb9⟩
  · rw [hn]
    simp only [hbn, ptrO] at HOf
    have HH := Lib.hid hH
    have hxs : x.nm.size ≤ 8000 := by rw [hxn]; exact hs
    obtain ⟨xn, xb, xe, xc, xo⟩ := x
    unfold lifeV lfC
    dsimp only at hxs ⊢
    have hbl := hH.lt
    clear hn hbn hH hxn
    go_enter Tryz.func29, Tryz.ntmps29
    go_upto_region 1 with fail
    generalize w.alloc (.cells #[.string ⟨#[]⟩, .int .i64 0, .int .i64 0, .bool false, .int .i64 0] 58) = W0 at *
    go_wp2_with fail
    refine HM.out.mono ?_
    rintro e w1 ⟨rfl, rfl⟩
    have r0 : W0.cell? ⟨b, 0, none⟩ = some (.string xn) := HH.out.c (j := 0) rfl
    have r1 : W0.cell? ⟨b, 1, none⟩ = some (.int .i64 xb) := HH.out.c (j := 1) rfl
    have r2 : W0.cell? ⟨b, 2, none⟩ = some (.int .i64 xe) := HH.out.c (j := 2) rfl
    have r3 : W0.cell? ⟨b, 3, none⟩ = some (.bool xc) := HH.out.c (j := 3) rfl
    have r4 : W0.cell? ⟨b, 4, none⟩ = some (.int .i64 xo) := HH.out.c (j := 4) rfl
    have hbA := alloc1 W0 (.cells #[.string xn, .int .i64 xb, .int .i64 xe, .bool xc, .int .i64 xo] 58)
    have HX := Lib.hid (Holds.new W0 58 #[.string xn, .int .i64 xb, .int .i64 xe, .bool xc, .int .i64 xo])
    have HFA := Lib.hid (HF0.out.below hbA HF0.out.lt)
    have hbb := nxt hb0 hbA hb0.size
    have hw0 := HF0.out.lt
    go_wp2_with fail
    refine HOf.out.mono ?_
    rintro e w2 ⟨rfl, rfl⟩
    go_upto_region 7 with fail
    have hl0 := HX.out.lt
    generalize W0.alloc (.cells #[.string xn, .int .i64 xb, .int .i64 xe, .bool xc, .int .i64 xo] 58) = W1 at *
    have s0 : W1.cell? ⟨W0.heap.size, 0, none⟩ = some (.string xn) := HX.out.c (j := 0) rfl
    go_wp2_with fail
    refine (clone_any xn _ (by omega)).mono ?_
    rintro e w3 ⟨rfl, hb3⟩
    have HX3 := Lib.hid (HX.out.below hb3 hl0)
    have HF3 := Lib.hid (HFA.out.below hb3 HFA.out.lt)
    have hbb3 := nxt hbb hb3 hbb.size
    clear r0 r1 r2 r3 r4 s0
    have s0 : w3.cell? ⟨W0.heap.size, 0, none⟩ = some (.string xn) := HX3.out.c (j := 0) rfl
    have sz := HX3.out.frozen
    have hne : W0.heap.size ≠ w.heap.size := by omega
    have HX4 := Lib.hid (HX3.out.set 0 (.string xn))
    have HF4 := Lib.hid (HF3.out.of ((only_set w3 W0.heap.size 0 (.string xn)).block w.heap.size HF3.out.lt hne.symm))
    have hbb4 := hbb3.setCell (p := ⟨W0.heap.size, 0, none⟩) (show w.heap.size ≤ W0.heap.size by omega) (.string xn)
    go_upto_region 8 with fail
    generalize w3.setCell ⟨W0.heap.size, 0, none⟩ (.string xn) = W4 at *
    clear s0 sz
    have x0 : W4.cell? ⟨W0.heap.size, 0, none⟩ = some (.string xn) := HX4.out.c (j := 0) rfl
    have x1 : W4.cell? ⟨W0.heap.size, 1, none⟩ = some (.int .i64 xb) := HX4.out.c (j := 1) rfl
    have x2 : W4.cell? ⟨W0.heap.size, 2, none⟩ = some (.int .i64 xe) := HX4.out.c (j := 2) rfl
    have x3 : W4.cell? ⟨W0.heap.size, 3, none⟩ = some (.bool xc) := HX4.out.c (j := 3) rfl
    have x4 : W4.cell? ⟨W0.heap.size, 4, none⟩ = some (.int .i64 xo) := HX4.out.c (j := 4) rfl
    have f0 : W4.cell? ⟨w.heap.size, 0, none⟩ = some (.string ⟨#[]⟩) := HF4.out.c (j := 0) rfl
    have f1 : W4.cell? ⟨w.heap.size, 1, none⟩ = some (.int .i64 0) := HF4.out.c (j := 1) rfl
    have f2 : W4.cell? ⟨w.heap.size, 2, none⟩ = some (.int .i64 0) := HF4.out.c (j := 2) rfl
    have f3 : W4.cell? ⟨w.heap.size, 3, none⟩ = some (.bool false) := HF4.out.c (j := 3) rfl
    have f4 : W4.cell? ⟨w.heap.size, 4, none⟩ = some (.int .i64 0) := HF4.out.c (j := 4) rfl
    have fz := HF4.out.frozen
    have hG := ((((HF4.out.set 0 (.string xn)).set 1 (.int .i64 xb)).set 2 (.int .i64 xe)).set 3 (.bool xc)).set 4 (.int .i64 xo)
    have hb9 := ((((hbb4.setCell (p := ⟨w.heap.size, 0, none⟩) (Nat.le_refl _) (.string xn)).setCell (p := ⟨w.heap.size, 1, none⟩) (Nat.le_refl _) (.int .i64 xb)).setCell (p := ⟨w.heap.size, 2, none⟩) (Nat.le_refl _) (.int .i64 xe)).setCell (p := ⟨w.heap.size, 3, none⟩) (Nat.le_refl _) (.bool xc)).setCell (p := ⟨w.heap.size, 4, none⟩) (Nat.le_refl _) (.int .i64 xo)
    go_wp2
    clear f0 f1 f2 f3 f4 x0 x1 x2 x3 x4
    generalize ((((W4.setCell ⟨w.heap.size, 0, none⟩ (.string xn)).setCell ⟨w.heap.size, 1, none⟩ (.int .i64 xb)).setCell ⟨w.heap.size, 2, none⟩ (.int .i64 xe)).setCell ⟨w.heap.size, 3, none⟩ (.bool xc)).setCell ⟨w.heap.size, 4, none⟩ (.int .i64 xo) = W9 at *
    have k0 : W9.cell? ⟨w.heap.size, 0, none⟩ = some (.string xn) := hG.c (j := 0) rfl
    have k1 : W9.cell? ⟨w.heap.size, 1, none⟩ = some (.int .i64 xb) := hG.c (j := 1) rfl
    have k2 : W9.cell? ⟨w.heap.size, 2, none⟩ = some (.int .i64 xe) := hG.c (j := 2) rfl
    have k3 : W9.cell? ⟨w.heap.size, 3, none⟩ = some (.bool xc) := hG.c (j := 3) rfl
    have k4 : W9.cell? ⟨w.heap.size, 4, none⟩ = some (.int .i64 xo) := hG.c (j := 4) rfl
    refine bodyPost_ret (v := .tuple #[.agg #[.string xn, .int .i64 xb, .int .i64 xe, .bool xc, .int .i64 xo], .bool true]) (by simp [results, Tryz.f29, go_sem, k0, k1, k2, k3, k4]) rfl ?_
    exact ⟨rfl, hb9⟩
end Go.Proofs.YtpdbkjnaicjfdaaGreatDoor
