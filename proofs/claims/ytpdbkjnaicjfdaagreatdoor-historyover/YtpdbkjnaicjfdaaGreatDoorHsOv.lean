/- Pure: a transaction that is over. -/
import Derived.Test.YtpdbkjnaicjfdaaGreatDoorHsBg
namespace Go.Proofs.YtpdbkjnaicjfdaaGreatDoor
open Go.RowKit
set_option linter.unusedVariables false

/-- An event that is but a name. -/
abbrev evK (k : Int) (s : ByteArray) : Ev := ⟨k, s, emB, op0, stz⟩
theorem evK_ok {k : Int} {s : ByteArray} (hk : k = 2 ∨ k = 4 ∨ k = 5) (hs : nm_checkE s = 0) : evE (evK k s) = 0 := by
  have hb : bareB (evK k s) = true := by
    unfold bareB bareA bareO
    have h1 : stzB stz = true := by decide
    have h2 : (emB == emB) = true := by simp
    have h3 : sameOpT op0 op0 = true := by decide
    simp only [h1, h2, h3, Bool.or_true, Bool.and_true]
  unfold evE
  rw [if_neg (by dsimp only; omega), if_neg (by rw [hb]; decide), if_neg (by simp [hs]), if_neg (by dsimp only; omega), if_neg (by dsimp only; omega)]
theorem over_ways {d : Dk} (h : DkOk d) {j : Nat} {x : Lf} (hx : d.trs[j]? = some x) :
    agE d (evK 2 x.nm) = 10 ∧ lfAt d x.nm = some x ∧ agE d (evK 4 x.nm) = (if x.en = -1 then 0 else 13) ∧ agE d (evK 5 x.nm) = (if x.en = -1 then 0 else 13) ∧
    (x.en = -1 → agE (takeD d (evK 4 x.nm)) (evK 5 x.nm) = 13) := by
  have hu := lf_unique h hx
  have hnm := h.tnam x (List.mem_of_getElem? hx)
  have e2 := evK_ok (k := 2) (.inl rfl) hnm
  have e4 := evK_ok (k := 4) (.inr (.inl rfl)) hnm
  have e5 := evK_ok (k := 5) (.inr (.inr rfl)) hnm
  refine ⟨?_, hu, ?_, ?_, fun hr => ?_⟩
  · unfold agE askO askB
    rw [e2]
    simp [thenE, hu]
  · unfold agE askO askB askR askP
    rw [e4]
    simp only [thenE, hu]
    split <;> simp_all
  · unfold agE askO askB askR askP
    rw [e5]
    simp only [thenE, hu]
    split <;> simp_all
  · have h2 : lfAt (takeD d (evK 4 x.nm)) x.nm = some (turnL d.evs 4 x) := by
      have e : (takeD d (evK 4 x.nm)).trs = d.trs.map fun y => if y.nm == x.nm then turnL d.evs 4 y else y := rfl
      unfold lfAt
      rw [e, List.find?_map]
      have hf : ((fun y : Lf => y.nm == x.nm) ∘ fun y => if y.nm == x.nm then turnL d.evs 4 y else y) = fun y => y.nm == x.nm := by
        funext y
        show ((if y.nm == x.nm then turnL d.evs 4 y else y).nm == x.nm) = (y.nm == x.nm)
        split
        · rw [turn_nm]
        · rfl
      rw [hf]
      unfold lfAt at hu
      rw [hu]
      simp
    unfold agE askO askB askR askP
    rw [e5, h2]
    simp [thenE, turnL]
end Go.Proofs.YtpdbkjnaicjfdaaGreatDoor
