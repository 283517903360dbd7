/- No desk has a history. -/
import Derived.Test.YtpdbkjnaicjfdaaGreatDoorHsN
import Derived.Test.YtpdbkjnaicjfdaaGreatDoorHsPl
import Derived.Test.YtpdbkjnaicjfdaaGreatDoorHsX
import Derived.Test.YtpdbkjnaicjfdaaGreatDoorGrQ
namespace Go.Proofs.YtpdbkjnaicjfdaaGreatDoor
open Go.RowKit Go.Maps
set_option linter.unusedVariables false
set_option maxRecDepth 100000

/-- Where no desk stands: nil, or a box whose first cell is nil. -/
def NoDesk (w : World) (p : Option Addr) : Prop := p = none ∨ ∃ B, p = some ⟨B, 0, none⟩ ∧ w.cell? ⟨B, 0, none⟩ = some (.pointer none)
theorem NoDesk.cond {w : World} {p : Option Addr} (h : NoDesk w p) : ∀ b, p = some b → w.cell? b = some (.pointer none) := fun b hb => by
  rcases h with rfl | ⟨B, rfl, hc⟩
  · cases hb
  · cases hb; exact hc
theorem NoDesk.lt {w : World} {p : Option Addr} (h : NoDesk w p) : ∀ b, p = some b → b.block < w.heap.size := fun b hb => World.block_lt_of_cell? _ _ (h.cond b hb)
theorem NoDesk.below {w w' : World} {p : Option Addr} (h : NoDesk w p) (hb : Below w.heap.size w w') : NoDesk w' p := by
  rcases h with rfl | ⟨B, rfl, hc⟩
  · exact .inl rfl
  · exact .inr ⟨B, rfl, (hb.cell (p := ⟨B, 0, none⟩) (World.block_lt_of_cell? _ _ hc)).trans hc⟩
theorem NoDesk.made {w : World} {p : Option Addr} (h : NoDesk w p) : Calls Tryz.prog 48 #[.pointer p] w (Made false w) := by
  rcases h with rfl | ⟨B, rfl, hc⟩
  · exact made_nil w
  · exact made_no B w hc
theorem add_none {w : World} {p : Option Addr} (h : NoDesk w p) (e : Ev) (A : Option Addr) (c : Nat) : Calls Tryz.prog 26 #[.pointer p, evV e A c] w (Says (.int .i64 1) w) := by
  refine dadd_no p (fun w' hp => ?_) e A c w h.cond
  rcases h with rfl | ⟨B, rfl, hc⟩
  · exact made_nil w'
  · exact made_no B w' (hp _ rfl)

theorem life_none {w : World} {p : Option Addr} (h : NoDesk w p) (s : ByteArray) : Calls Tryz.prog 29 #[.pointer p, .string s] w (Says (lifeV none) w) := by
  have hb0 := alloc1 w (.cells lfZ 58)
  have H0 := Lib.hid (h.below hb0).made
  have HF0 := Lib.hid (Holds.new w 58 lfZ)
  unfold lfZ at *
  clear h
  unfold lifeV lfZ
  go_enter Tryz.func29, Tryz.ntmps29
  go_upto_region 1 with fail
  generalize w.alloc (.cells #[.string ⟨#[]⟩, .int .i64 0, .int .i64 0, .bool false, .int .i64 0] 58) = W0 at *
  go_wp2_with fail
  refine H0.out.mono ?_
  rintro e w1 ⟨rfl, rfl⟩
  have f0 : W0.cell? ⟨w.heap.size, 0, none⟩ = some (.string ⟨#[]⟩) := HF0.out.c (j := 0) rfl
  have f1 : W0.cell? ⟨w.heap.size, 1, none⟩ = some (.int .i64 0) := HF0.out.c (j := 1) rfl
  have f2 : W0.cell? ⟨w.heap.size, 2, none⟩ = some (.int .i64 0) := HF0.out.c (j := 2) rfl
  have f3 : W0.cell? ⟨w.heap.size, 3, none⟩ = some (.bool false) := HF0.out.c (j := 3) rfl
  have f4 : W0.cell? ⟨w.heap.size, 4, none⟩ = some (.int .i64 0) := HF0.out.c (j := 4) rfl
  have fz := HF0.out.frozen
  go_wp2
  have hG := ((((HF0.out.set 0 (.string ⟨#[]⟩)).set 1 (.int .i64 0)).set 2 (.int .i64 0)).set 3 (.bool false)).set 4 (.int .i64 0)
  have hb9 := ((((hb0.setCell (p := ⟨w.heap.size, 0, none⟩) (Nat.le_refl _) (.string ⟨#[]⟩)).setCell (p := ⟨w.heap.size, 1, none⟩) (Nat.le_refl _) (.int .i64 0)).setCell (p := ⟨w.heap.size, 2, none⟩) (Nat.le_refl _) (.int .i64 0)).setCell (p := ⟨w.heap.size, 3, none⟩) (Nat.le_refl _) (.bool false)).setCell (p := ⟨w.heap.size, 4, none⟩) (Nat.le_refl _) (.int .i64 0)
  generalize ((((W0.setCell ⟨w.heap.size, 0, none⟩ (.string ⟨#[]⟩)).setCell ⟨w.heap.size, 1, none⟩ (.int .i64 0)).setCell ⟨w.heap.size, 2, none⟩ (.int .i64 0)).setCell ⟨w.heap.size, 3, none⟩ (.bool false)).setCell ⟨w.heap.size, 4, none⟩ (.int .i64 0) = W9 at *
  have k0 : W9.cell? ⟨w.heap.size, 0, none⟩ = some (.string ⟨#[]⟩) := hG.c (j := 0) rfl
  have k1 : W9.cell? ⟨w.heap.size, 1, none⟩ = some (.int .i64 0) := hG.c (j := 1) rfl
  have k2 : W9.cell? ⟨w.heap.size, 2, none⟩ = some (.int .i64 0) := hG.c (j := 2) rfl
  have k3 : W9.cell? ⟨w.heap.size, 3, none⟩ = some (.bool false) := hG.c (j := 3) rfl
  have k4 : W9.cell? ⟨w.heap.size, 4, none⟩ = some (.int .i64 0) := hG.c (j := 4) rfl
  refine bodyPost_ret (v := .tuple #[.agg #[.string ⟨#[]⟩, .int .i64 0, .int .i64 0, .bool false, .int .i64 0], .bool false]) (by simp [results, Tryz.f29, go_sem, k0, k1, k2, k3, k4]) rfl ?_
  exact ⟨rfl, hb9⟩
theorem running_none {w : World} {p : Option Addr} (h : NoDesk w p) : Calls Tryz.prog 25 #[.pointer p] w (Says (.slice none 0 0) w) := by
  have H0 := Lib.hid (fun W (hb : Below w.heap.size w W) => (h.below hb).made)
  clear h
  go_enter Tryz.func25, Tryz.ntmps25
  go_wp2_with fail
  refine (H0.out _ ?_).mono ?_
  · first | exact Below.refl _ _ | exact (Below.refl _ _).alloc (Nat.le_refl _) _ | exact ((Below.refl _ _).alloc (Nat.le_refl _) _).alloc (by simp) _
  rintro e w1 ⟨rfl, rfl⟩
  go_wp2
  go_ret
  exact ⟨rfl, by first | exact Below.refl _ _ | exact (Below.refl _ _).alloc (Nat.le_refl _) _ | exact ((Below.refl _ _).alloc (Nat.le_refl _) _).alloc (by simp) _⟩

set_option maxRecDepth 100000 in
theorem open_ev {H : Type} {enc : TypeId × Value → H} {W : World} {base : Nat} {held : Bool} {r : Reach} {b0 : Nat} {v : Value} {d : DataW H} {p : List MemPlace} (hv : Value.okWide Tryz.prog W r b0 55 v) (h : DataW.Trod enc Tryz.prog W base (fun _ => true) held 55 v d p) :
    ∃ z : EvZ, v = evV z.1 z.2.1 z.2.2 ∧ EvW z.1 ∧ Ints W z.2.1 z.1.st.2.2 := by
  obtain ⟨cs, rfl, hsz⟩ := Go.WideShapes.okWide_struct Tryz.underlying55 hv
  obtain ⟨fuel, hf⟩ := h
  obtain ⟨z, hz, h1, h2⟩ := ev_cellsA hf
  refine ⟨z, ?_, h1, h2⟩
  have e : cs.toList = evL z := hz
  obtain ⟨⟨kd, nm, ob, ⟨o1, o2, o3, o4, o5⟩, t, n, l⟩, A, c⟩ := z
  unfold evV evC
  rw [← Array.toArray_toList (xs := cs), e]
  rfl
end Go.Proofs.YtpdbkjnaicjfdaaGreatDoor
