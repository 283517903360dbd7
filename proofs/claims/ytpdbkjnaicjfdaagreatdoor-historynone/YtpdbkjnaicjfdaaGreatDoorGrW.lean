/- The words of the types of objects and of the kinds of events, as the program's text lays them: from the row's condition to what the walks ask; the witness's own heap. -/
import Derived.Test.YtpdbkjnaicjfdaaGreatDoorGrK
import Derived.Test.YtpdbkjnaicjfdaaGreatDoorGs
import Derived.ProofKit
import Derived.LaidMore
import Derived.OpenShut
import Derived.Stop.Joined
namespace Go.Proofs.YtpdbkjnaicjfdaaGreatDoor
open Go.ChangeShapes Go.WideShapes Go.ChangeAt Go.WideMaps Go.WideElems Go.RowKit
set_option linter.unusedVariables false

/-- Both tables lie. -/
def Gds (w : World) : Prop := Wds w ∧ KWds w
theorem gSt : Tryz.prog.globalNamed "armistice/state.words" = some 1 := by kernel_rfl
theorem tSt : (Tryz.prog.globals[1]?).map (·.type) = some 145 := by kernel_rfl
theorem gGr : Tryz.prog.globalNamed "armistice/grammar.words" = some 0 := by kernel_rfl
theorem tGr : (Tryz.prog.globals[0]?).map (·.type) = some 145 := by kernel_rfl
theorem cStr : Tryz.prog.cellsOf 9 = 1 := by kernel_rfl
theorem cWords : Tryz.prog.cellsOf 145 = 6 := by kernel_rfl
def laidG : List (String × DataW Unit) := [("armistice/state.words", Rows.laid_armistice_state_words), ("armistice/grammar.words", Rows.laid_armistice_grammar_words)]

theorem door_met (os : Os) (args : Array Value) : laidMetH Tryz.prog laidG ((World.doorLaid Tryz.prog 400 os).forCall (fun _ _ => 0) ⟨#[], args, []⟩).memory :=
  laidMetH_of_parts3 (fuel := 8) (laidMet_of_run' 8 (by kernel_rfl) (by kernel_rfl)) (by kernel_rfl) (by kernel_rfl)

theorem bytes_word {s : ByteArray} {l : List UInt8} (h : s.data.toList = l) : s = ⟨l.toArray⟩ := by
  apply ByteArray.ext
  apply Array.ext'
  simpa using h

theorem gds_of {W : World} (h : laidMetH Tryz.prog laidG W) : Gds W := by
  rw [MakeChecks.laidMetH_plain _ _ _ (by kernel_rfl)] at h
  obtain ⟨ps, ⟨g0, t0, cs0, f0, p0, q0, hg0, ht0, hv0, hd0, ⟨g1, t1, cs1, f1, p1, q1, hg1, ht1, hv1, hd1, _, _⟩, _⟩, _, _⟩ := h
  obtain rfl := Option.some.inj (gSt.symm.trans hg0)
  obtain rfl := Option.some.inj (tSt.symm.trans ht0)
  obtain rfl := Option.some.inj (gGr.symm.trans hg1)
  obtain rfl := Option.some.inj (tGr.symm.trans ht1)
  refine ⟨?_, ?_⟩
  · obtain ⟨xs, m1, rfl, hx1, hlen, hn6, hel⟩ := DataW.trod_array Tryz.underlying145 hd0
    simp only [Prod.mk.injEq] at hx1
    unfold Rows.laid_armistice_state_words at hx1
    have hx := hx1.1
    rw [DataW.agg.injEq] at hx
    intro i hi
    have h1 := hel i hi
    rw [cStr, Nat.mul_one] at h1
    have hxi : i < xs.length := by omega
    rw [List.getElem?_eq_getElem hxi] at h1
    obtain ⟨s, e1, e2, _⟩ := DataW.trod_string Tryz.underlying9 h1
    have hc := World.var?_cell hg0 hv0 i
    have hci : cs0[i]? = some (.string s) := by
      have : ((cs0.toList.drop i).take 1)[0]? = some (.string s) := by rw [e1]; rfl
      rw [List.getElem?_take, if_pos (by omega), List.getElem?_drop, Nat.add_zero, Array.getElem?_toList] at this
      exact this
    rw [hc, hci]
    have h2 : (xs.map (·.1))[i]? = some (.lit (.string s.data.toList)) := by
      rw [List.getElem?_map, List.getElem?_eq_getElem hxi, e2]; rfl
    rw [← hx] at h2
    match i, hi with
    | 0, _ =>
      simp only [List.getElem?_cons_zero, Option.some.injEq, DataW.lit.injEq, Lit.string.injEq] at h2
      rw [bytes_word h2.symm]; rfl
    | 1, _ => simp at h2; rw [bytes_word h2.symm]; rfl
    | 2, _ => simp at h2; rw [bytes_word h2.symm]; rfl
    | 3, _ => simp at h2; rw [bytes_word h2.symm]; rfl
    | 4, _ => simp at h2; rw [bytes_word h2.symm]; rfl
    | 5, _ => simp at h2; rw [bytes_word h2.symm]; rfl
  · obtain ⟨xs, m1, rfl, hx1, hlen, hn6, hel⟩ := DataW.trod_array Tryz.underlying145 hd1
    simp only [Prod.mk.injEq] at hx1
    unfold Rows.laid_armistice_grammar_words at hx1
    have hx := hx1.1
    rw [DataW.agg.injEq] at hx
    intro i hi
    have h1 := hel i hi
    rw [cStr, Nat.mul_one] at h1
    have hxi : i < xs.length := by omega
    rw [List.getElem?_eq_getElem hxi] at h1
    obtain ⟨s, e1, e2, _⟩ := DataW.trod_string Tryz.underlying9 h1
    have hc := World.var?_cell hg1 hv1 i
    have hci : cs1[i]? = some (.string s) := by
      have : ((cs1.toList.drop i).take 1)[0]? = some (.string s) := by rw [e1]; rfl
      rw [List.getElem?_take, if_pos (by omega), List.getElem?_drop, Nat.add_zero, Array.getElem?_toList] at this
      exact this
    rw [hc, hci]
    have h2 : (xs.map (·.1))[i]? = some (.lit (.string s.data.toList)) := by
      rw [List.getElem?_map, List.getElem?_eq_getElem hxi, e2]; rfl
    rw [← hx] at h2
    match i, hi with
    | 0, _ =>
      simp only [List.getElem?_cons_zero, Option.some.injEq, DataW.lit.injEq, Lit.string.injEq] at h2
      rw [bytes_word h2.symm]; rfl
    | 1, _ => simp at h2; rw [bytes_word h2.symm]; rfl
    | 2, _ => simp at h2; rw [bytes_word h2.symm]; rfl
    | 3, _ => simp at h2; rw [bytes_word h2.symm]; rfl
    | 4, _ => simp at h2; rw [bytes_word h2.symm]; rfl
    | 5, _ => simp at h2; rw [bytes_word h2.symm]; rfl
end Go.Proofs.YtpdbkjnaicjfdaaGreatDoor
