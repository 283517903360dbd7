/- The document's functions of the layer grammar: fault, end; what a function with two boxed results leaves. -/
import Derived.Test.YtakbphjdfgidmaaGreatDoorGuB
import Derived.Test.YtakbphjdfgidmaaGreatDoorGrD
namespace Go.Proofs.YtakbphjdfgidmaaGreatDoor
open Go.RowKit Go.Maps
set_option linter.unusedVariables false
set_option maxRecDepth 100000

/-- An event and a fault are stored whole. -/
theorem res_stored {E F : Nat} {W : World} {cs ds : Array Value} (v0 v1 v2 v3 v4 v5 v6 v7 v8 v9 v10 f0 f1 : Value) (he : Holds W E 38 cs) (hs : cs.size = 11) (hf : Holds W F 44 ds) (hd : ds.size = 2) (hne : E ≠ F) :
    ∃ W', W' = ((((((((((((W.setCell ⟨E, 0, none⟩ v0).setCell ⟨E, 1, none⟩ v1).setCell ⟨E, 2, none⟩ v2).setCell ⟨E, 3, none⟩ v3).setCell ⟨E, 4, none⟩ v4).setCell ⟨E, 5, none⟩ v5).setCell ⟨E, 6, none⟩ v6).setCell ⟨E, 7, none⟩ v7).setCell ⟨E, 8, none⟩ v8).setCell ⟨E, 9, none⟩ v9).setCell ⟨E, 10, none⟩ v10).setCell ⟨F, 0, none⟩ f0).setCell ⟨F, 1, none⟩ f1 ∧
      Holds W' E 38 #[v0, v1, v2, v3, v4, v5, v6, v7, v8, v9, v10] ∧ Holds W' F 44 #[f0, f1] ∧ (∀ lo, lo ≤ E → lo ≤ F → Below lo W W') ∧ (∀ base v l, OwnInts base W v l → OwnInts base W' v l) := by
  obtain ⟨W1, h1, g1, o1⟩ := ev_stored v0 v1 v2 v3 v4 v5 v6 v7 v8 v9 v10 he hs
  have hf1 := hf.of (o1.block F hf.lt (Ne.symm hne))
  obtain ⟨dl⟩ := ds
  match dl, hd with
  | [a0, a1], _ =>
    have g2 := (hf1.set 0 f0).set 1 f1
    simp only [List.setIfInBounds_toArray, List.set_cons_zero, List.set_cons_succ] at g2
    have o2 : Only F W1 ((W1.setCell ⟨F, 0, none⟩ f0).setCell ⟨F, 1, none⟩ f1) := ((Only.of (Below.refl W1.heap.size W1) (Nat.le_refl _)).set 0 _).set 1 _
    refine ⟨_, by rw [← h1], g1.of (o2.block E g1.lt hne), g2, fun lo k1 k2 => ?_, fun base v l h => ?_⟩
    · have hel := he.lt
      have hfl := hf1.lt
      exact (o1.below k1 (by omega)).trans (o2.below k2 (by omega))
    · have a := h.kept o1.grown (.inr (he.not_row h (by decide)).symm)
      exact a.kept o2.grown (.inr (hf1.not_row a (by decide)).symm)

def evZV : Value := .agg evZ
def FaultV (e p : Int) : Value := .tuple #[.agg evZ, .agg #[.int .i64 e, .int .i64 p]]
set_option maxHeartbeats 4000000 in
theorem rfault_any (e p : Int) (w : World) : Calls Tryz.prog 84 #[.int .i64 e, .int .i64 p] w (Says (FaultV e p) w) := by
  unfold FaultV evZ
  have hB0 := (alloc1 w (.cells evZ 38)).alloc (by simp) (.cells #[.int .i64 0, .int .i64 0] 44)
  have HE := Lib.hid ((Holds.new w 38 evZ).alloc (.cells #[.int .i64 0, .int .i64 0] 44))
  have HF := Lib.hid (show Holds ((w.alloc (.cells evZ 38)).alloc (.cells #[.int .i64 0, .int .i64 0] 44)) (w.heap.size + 1) 44 #[.int .i64 0, .int .i64 0] from by have := Holds.new (w.alloc (.cells evZ 38)) 44 #[.int .i64 0, .int .i64 0]; rwa [World.size_alloc] at this)
  unfold evZ at *
  go_enter Tryz.func84, Tryz.ntmps84
  go_upto_region 1 with fail
  generalize (w.alloc (.cells #[.int .i64 0, .string ⟨#[]⟩, .string ⟨#[]⟩, .int .i64 0, .int .i64 0, .int .i64 0, .int .i64 0, .int .i64 0, .int .i64 0, .int .i64 0, .slice none 0 0] 38)).alloc (.cells #[.int .i64 0, .int .i64 0] 44) = W0 at *
  obtain ⟨x0, x1, x2, x3, x4, x5, x6, x7, x8, x9, x10, y0⟩ := ev_cells HE.out
  have z0 := HF.out.c (j := 0) rfl
  have z1 := HF.out.c (j := 1) rfl
  have y1 := HF.out.frozen
  have hl := HE.out.lt
  have hl2 := HF.out.lt
  go_wp2
  obtain ⟨W9, hW9, g, h, b, _⟩ := res_stored (.int .i64 0) (.string ⟨#[]⟩) (.string ⟨#[]⟩) (.int .i64 0) (.int .i64 0) (.int .i64 0) (.int .i64 0) (.int .i64 0) (.int .i64 0) (.int .i64 0) (.slice none 0 0) (.int .i64 e) (.int .i64 p) HE.out rfl HF.out rfl (by omega)
  rw [← hW9]
  have hb9 := hB0.trans (b w.heap.size (Nat.le_refl _) (by omega))
  obtain ⟨k0, k1, k2, k3, k4, k5, k6, k7, k8, k9, k10, _⟩ := ev_cells g
  have m0 := h.c (j := 0) rfl
  have m1 := h.c (j := 1) rfl
  refine bodyPost_ret (v := .tuple #[.agg #[.int .i64 0, .string ⟨#[]⟩, .string ⟨#[]⟩, .int .i64 0, .int .i64 0, .int .i64 0, .int .i64 0, .int .i64 0, .int .i64 0, .int .i64 0, .slice none 0 0], .agg #[.int .i64 e, .int .i64 p]]) (by simp [results, Tryz.f84, go_sem, k0, k1, k2, k3, k4, k5, k6, k7, k8, k9, k10, m0, m1]) rfl ?_
  exact ⟨rfl, hb9⟩

set_option maxHeartbeats 1000000 in
theorem rend_any (at0 : Int) (AW : Option Addr) (cw : Nat) (ws : List Wd) (w : World) (hA : ReadWords w.heap.size w AW ws) (hf : Fine ws) :
    Calls Tryz.prog 85 #[.agg #[.int .i64 at0, .slice AW ws.length cw]] w (Says (.int .i64 (endP ws : Int)) w) := by
  obtain ⟨m, hm⟩ : ∃ m, ws.length = m + 1 := ⟨ws.length - 1, by have := hf.pos; omega⟩
  have hB0 := alloc1 w (.cells #[.int .i64 at0, .slice AW ws.length cw] 80)
  obtain ⟨b, off, rfl, hb, hc⟩ := hA.below hB0 hf.pos
  have hat := hf.at' _ (wd_mem (show m < ws.length by omega))
  have hfew := hf.few
  have e2 : endP ws = (ws[m]?.getD (0, [])).1 + (ws[m]?.getD (0, [])).2.length := by
    unfold endP wdP; rw [hm]; rfl
  have HE := Lib.hid e2
  have hsz : (strOfNums (ws[m]?.getD (0, [])).2).size = (ws[m]?.getD (0, [])).2.length := strOfNums_size _
  obtain ⟨e3, e4⟩ := hc m (by omega)
  generalize hp : (ws[m]?.getD (0, [])).1 = p at *
  generalize hs : strOfNums (ws[m]?.getD (0, [])).2 = s at *
  have k5 : ((p : Int) + (s.size : Int)) = ((endP ws : Nat) : Int) := by rw [HE.out, hsz]; omega
  have k7 : (endP ws : Int) ≤ 100000000 := by rw [HE.out]; omega
  have k8 : (0 : Int) ≤ (endP ws : Int) := by omega
  have k4 : (0 : Int) ≤ (m : Int) := by omega
  have k3 : (m : Int) < ((m + 1 : Nat) : Int) := by omega
  have k2 : ((m + 1 : Nat) : Int) - 1 = (m : Int) := by omega
  have hwm : IntKind.i64.wrap (m : Int) = (m : Int) := by rw [IntKind.wrap_i64]; omega
  have hwq : wrap64 ((p : Int) + (s.size : Int)) = (endP ws : Int) := by rw [k5]; unfold wrap64; omega
  have hw1 : wrap64 ((m : Int) + 1 - 1) = (m : Int) := by unfold wrap64; omega
  rw [hm] at *
  have HX := Lib.hid (Holds.new w 80 #[.int .i64 at0, .slice (some ⟨b, off, none⟩) (m + 1) cw])
  clear hc hA hf e2 hat hs hp hsz
  generalize (endP ws : Int) = q at *
  clear HE hm
  go_enter Tryz.func85, Tryz.ntmps85
  go_upto_region 1 with fail
  generalize w.alloc (.cells #[.int .i64 at0, .slice (some ⟨b, off, none⟩) (m + 1) cw] 80) = W0 at *
  have x0 := HX.out.c (j := 0) rfl
  have x1 := HX.out.c (j := 1) rfl
  go_wp2
  go_ret
  exact ⟨rfl, nxt hB0 (alloc1 W0 _) hB0.size⟩
end Go.Proofs.YtakbphjdfgidmaaGreatDoor
