/-
  OperationOnly: what is read may be, and is told as it was; any words; no condition.
-/
import Derived.Test.YtmpglmepmdpjoaaRows
import Derived.Test.YtmpglmepmdpjoaaTkR
import Derived.Test.YtmpglmepmdpjoaaOpAb
import Derived.WalkKit
import Derived.ProofKit
import Derived.OpenShut
import Derived.ShutString
import Derived.ChangeOld
import Derived.Below
import Derived.SizedLaws
import Derived.SliceStrings
namespace Go.Proofs.Ytmpglmepmdpjoaa.operationOnly
open Go.ChangeShapes Go.WideShapes Go.ChangeAt Go.RowKit
open Go.ChangeMaps (open_string shut_string)
set_option linter.unusedVariables false

theorem own : ownKnob Try.prog.godebug = none := by kernel_rfl
theorem laidOut : laidOutB Try.prog = true := by kernel_rfl
theorem bytesStr : Try.prog.bytesOf 9 = 16 := by kernel_rfl

theorem weights_str {H : Type} (P : Program) (e : TypeId) : ∀ (ss : List ByteArray) (s : ByteArray), s ∈ ss → s.data.toList.length ∈ DataW.weightsAll (H := H) P e (strs ss)
  | [], _, h => by cases h
  | a :: r, s, h => by
    have e1 : strs (H := H) (a :: r) = .lit (.string a.data.toList) :: strs r := rfl
    rw [e1, DataW.weightsAll, List.mem_append]
    rcases List.mem_cons.1 h with rfl | h
    · exact .inl (by simp [DataW.weights])
    · exact .inr (weights_str P e r s h)

/-- What the row tells of a slice of texts. -/
def IsTexts (w : World) (a : Option Addr) (len cap : Nat) : Prop :=
  ∃ ss : List ByteArray, ss.length = len ∧ Strs w.heap.size w a ss ∧ (a = none → cap = 0) ∧ len ≤ 140737488351232 ∧ ∀ s ∈ ss, s.size ≤ 140737488351232

theorem walk (a0 : Option Addr) (len0 cap0 : Nat) (w : World) (w0 : IsTexts w a0 len0 cap0) :
    Calls Try.prog 7 #[.slice a0 len0 cap0] w fun e w' => e = .returned (.bool true) ∧ Below w.heap.size w w' := by
  obtain ⟨ss, rfl, hA, hn, hm, hz⟩ := w0
  exact only_law a0 cap0 ss w hA hn hm hz

set_option maxRecDepth 100000 in
theorem lifted (os : Os) (started : os.Started) (H : Type) (enc : TypeId × Value → H) :
    ReturnsInHanded {} Try.checked os 7 .any (Rows.operationOnlySpec.pre6 enc Try.prog Try.f7 Rows.operationOnlyRow.domain false) (Rows.operationOnlySpec.post enc Try.prog Try.f7 false true false false) := by
  refine returnsInHanded_of_change_sized (C := Try.checked) own started (by kernel_rfl) Try.func7
    (ChangeSpec.witness6 (enc := enc) (C := Try.checked) false ⟨#[], #[.slice none 0 0], []⟩ 8 (by kernel_rfl) (by kernel_rfl) (by kernel_rfl) (by kernel_rfl)) ?_
  intro W base args ds gs before hval0 hW hcnd hsz0 _
  have hval : ∀ (j : Nat) t v, Try.f7.params[j]? = some t → args[j]? = some v → Value.okWide Try.prog W .any base t v := hval0
  have hsz : (DataW.weightsEach Try.prog (Try.f7.params.toList ++ Rows.operationOnlySpec.plain.varTypes Try.prog) (ds ++ gs)).all (· ≤ reachBytes) = true := hsz0
  have hW' := hW
  obtain ⟨p, q, hA0, hV, rfl, hfz, hnd⟩ := hW
  have hA : DataW.TrodAll enc Try.prog W 0 (fun _ => true) true Try.f7.params.toList args.toList ds p := hA0
  rw [Try.params7] at hA hval hsz
  obtain ⟨v0, vs0, d0, ds0, p0, q0, hargs, rfl, rfl, h0, r0⟩ := trodAll_cons hA
  obtain ⟨rfl, rfl, rfl⟩ := trodAll_nil r0
  obtain rfl : args = #[v0] := by cases args; simp_all
  obtain ⟨rfl, rfl⟩ := trodVars_none hV
  obtain ⟨a0, len0, cap0, rfl⟩ := okWide_slice Try.underlying36 (hval 0 36 v0 rfl rfl)
  have k0 := h0
  have lt0 : ∀ x ∈ p0, x.block < W.heap.size := by obtain ⟨m, hm⟩ := k0; exact DataW.trod_lt m _ _ _ hm
  have w0 : IsTexts W a0 len0 cap0 := by
    obtain ⟨fuel, hf⟩ := h0
    rcases open_strings Try.underlying36 Try.underlying9 (by kernel_rfl) hf with ⟨hcs, _⟩ | ⟨x, l, c, ss, hcs, _, hl, hm, hz, hx, hcell, hwz⟩
    · simp [Value.cells] at hcs
      obtain ⟨rfl, rfl, rfl⟩ := hcs
      exact ⟨[], rfl, fun h => absurd h (by simp), fun _ => rfl, by omega, fun _ h => by cases h⟩
    · simp [Value.cells] at hcs
      obtain ⟨rfl, rfl, rfl⟩ := hcs
      have hzl : ss.length = cap0 := by simpa using hz
      obtain ⟨rfl, _⟩ := Prod.mk.inj hx
      have hS := sized_slice hsz (j := 0) (t := 36) (e := 9) rfl rfl Try.underlying36
      rw [bytesStr] at hS
      simp only [strs, List.length_map, List.length_take, List.length_drop, reachBytes] at hS
      have hE : ∀ s ∈ ss.take len0, s.size ≤ 140737488351232 := by
        intro s hs
        have hmem := List.all_eq_true.1 hsz _ (DataW.weights_mem_each (j := 0) (t := 36) rfl rfl s.data.toList.length (by
          simp only [DataW.weights, Try.underlying36]
          exact List.mem_cons_of_mem _ (List.mem_append.2 (.inl (weights_str _ _ _ s hs)))))
        have h2 := of_decide_eq_true hmem
        rw [Array.length_toList] at h2
        simp only [reachBytes] at h2
        exact h2
      refine ⟨ss.take len0, by rw [List.length_take]; omega, ?_, (fun e => by cases e), by omega, hE⟩
      intro hp
      rw [List.length_take] at hp
      obtain ⟨b, off, rfl, hc'⟩ := texts_at hcell (by omega)
      refine ⟨b, off, rfl, cell_lt (hc' 0 (by omega)), fun j hj => ?_⟩
      rw [List.length_take] at hj
      rw [hc' j (by omega), List.getElem?_take, if_pos (by omega)]
      rfl
  clear hA0 hval0
  refine (walk a0 len0 cap0 W w0).mono fun e W' ⟨he, bel⟩ => ?_
  subst he
  exact ⟨_, rfl, _, _, _, [], _, [], hW', trodAll_mk1 (shut_bool Try.underlying4 _), (trodAll_cons_mk (Below.trod laidOut (by kernel_rfl) (of_decide_eq_true (by kernel_rfl)) k0 bel lt0) trodAll_mk0), rfl, bel.frame _, fun h => by cases h⟩

theorem over : Rows.operationOnlyRow.holds Try.pinned (OpenSpec.ofChange Rows.operationOnlySpec) :=
  OpenClaim.holds_of_wide 7 Try.f7 rfl rfl rfl rfl rfl rfl rfl ⟨rfl, rfl, rfl, rfl, rfl⟩ rfl rfl rfl rfl rfl (by kernel_rfl) Try.func7 (by kernel_rfl)
    (of_decide_eq_true (by kernel_rfl)) (by unfold Func.isWrapper; first | (rw [if_pos (by decide +kernel)]; kernel_rfl) | (rw [if_neg (by decide +kernel)]; exact ⟨rfl, rfl⟩))
    (fun os started H enc _ => lifted os started H enc)

theorem proved : Rows.OperationOnlySaid := over
end Go.Proofs.Ytmpglmepmdpjoaa.operationOnly
