/-
  What an operation makes of a state, what it returns, and whether it is legal there, or why it cannot be applied, is what the document says, for every state of at most 60 numbers and every operation that memory holds. Conditions: the types of the sixteen kinds lie as the text of the program lays them (tied); no other.
-/
import Derived.Test.YtmclpganipfadaaGreatDoorRows
import Derived.Test.YtmclpganipfadaaGreatDoorCards
import Derived.Test.YtmclpganipfadaaGreatDoorTie
import Derived.Test.YtmclpganipfadaaGreatDoorMcAp
import Derived.Test.YtmclpganipfadaaGreatDoorMcW
import Derived.Test.YtmclpganipfadaaGreatDoorMcQ
import Derived.Test.YtmclpganipfadaaGreatDoorMcQo
import Derived.WalkKit
import Derived.ProofKit
import Derived.LaidMore
import Derived.OpenShut
import Derived.ChangeOld
import Derived.Below
import Derived.ShutString
import Derived.Stop.Joined
import Derived.SevenTiedAt
namespace Go.Proofs.YtmclpganipfadaaGreatDoor.machineApplies
open Go.ChangeShapes Go.WideShapes Go.ChangeAt Go.RowKit
open Go.ChangeMaps (open_string shut_string)
set_option linter.unusedVariables false

theorem own : ownKnob Tryz.prog.godebug = none := by kernel_rfl
theorem laidOut : laidOutB Tryz.prog = true := by kernel_rfl

theorem walk (t0 n0 : Int) (A0 : Option Addr) (c0 : Nat) (l0 : List Int) (o1 : Opr) (w : World) (hw : Tys w) (it0 : Small t0) (in0 : Small n0) (hA0 : Ints w A0 l0) (s0 : ∀ x ∈ l0, Small x) (k0 : l0.length ≤ c0) (m0 : c0 ≤ maxLen) (s1 : OkOpr o1) :
    Calls Tryz.prog 3 #[stV t0 n0 A0 l0.length c0, opV o1] w fun e w' => e = .returned (.bool true) ∧ Below w.heap.size w w' := by
  exact applies_law t0 n0 A0 c0 l0 o1 w hw hA0 k0 (Nat.le_trans k0 m0) s1.2.1

set_option maxRecDepth 100000 in
theorem lifted (os : Os) (started : os.Started) (H : Type) (enc : TypeId × Value → H) :
    ReturnsInHanded {} Tryz.checked os 3 .any (fun w args => (Rows.machineAppliesSpec.pre enc Tryz.prog Tryz.f3 [] false w args ∧ laidMetH Tryz.prog laidM w) ∧ sizedMet enc Tryz.prog Tryz.f3 (OpenSpec.ofChange Rows.machineAppliesSpec) false w args)
      (Rows.machineAppliesSpec.post enc Tryz.prog Tryz.f3 false true false false) := by
  refine returnsInHanded_of_change_and (C := Tryz.checked) (X := fun w _ => laidMetH Tryz.prog laidM w) (fun _ _ _ hh h => h.of_heap hh) own started (by kernel_rfl) Tryz.func3
    (ChangeSpec.witness_shaped (enc := enc) (C := Tryz.checked) (os := os) (X := fun w _ => laidMetH Tryz.prog laidM w) false (World.doorLaid Tryz.prog 400 os) #[.agg #[.int .i64 0, .int .i64 0, .slice none 0 0], .agg #[.int .i64 0, .int .i64 0, .int .i64 0, .int .i64 0, .int .i64 0]] 8 rfl (World.shaped_of_RefB (by kernel_rfl) (by kernel_rfl)) (by kernel_rfl) (by kernel_rfl) (by kernel_rfl) (door_met os _)) ?_
  intro W base args ds gs before hval0 hW _ _ hL _
  have hval : ∀ (j : Nat) t v, Tryz.f3.params[j]? = some t → args[j]? = some v → Value.okWide Tryz.prog W .any base t v := hval0
  have hW' := hW
  obtain ⟨p, q, hAll0, hV, rfl, hfz, hnd⟩ := hW
  have hA : DataW.TrodAll enc Tryz.prog W 0 (fun _ => true) true Tryz.f3.params.toList args.toList ds p := hAll0
  rw [Tryz.params3] at hA hval
  obtain ⟨v0, vs0, d0, ds0, p0, q0, hargs, rfl, rfl, h0, r0⟩ := trodAll_cons hA
  obtain ⟨v1, vs1, d1, ds1, p1, q1, rfl, rfl, rfl, h1, r1⟩ := trodAll_cons r0
  obtain ⟨rfl, rfl, rfl⟩ := trodAll_nil r1
  obtain rfl : args = #[v0, v1] := by cases args; simp_all
  obtain ⟨rfl, rfl⟩ := trodVars_none hV
  have k00 := h0
  have lt0 : ∀ x ∈ p0, x.block < W.heap.size := by obtain ⟨m, hm⟩ := k00; exact DataW.trod_lt m _ _ _ hm
  obtain ⟨t0, n0, A0, c0, l0, rfl, it0, in0, hA0, s0, k0, m0⟩ := open_stM (hval 0 24 v0 rfl rfl) h0
  have k01 := h1
  have lt1 : ∀ x ∈ p1, x.block < W.heap.size := by obtain ⟨m, hm⟩ := k01; exact DataW.trod_lt m _ _ _ hm
  obtain ⟨o1, rfl, s1⟩ := open_opM (hval 1 28 v1 rfl rfl) h1
  have htys := tys_of hL
  clear hAll0 hval0
  simp only [List.append_nil] at hW'
  refine (walk t0 n0 A0 c0 l0 o1 W htys it0 in0 hA0 s0 k0 m0 s1).mono fun e W' ⟨he, bel⟩ => ?_
  subst he
  exact ⟨_, rfl, _, _, _, [], _, [], hW', trodAll_mk1 (shut_bool Tryz.underlying4 _), (trodAll_cons_mk (Below.trod laidOut (by kernel_rfl) (of_decide_eq_true (by kernel_rfl)) k00 bel lt0) (trodAll_cons_mk (Below.trod laidOut (by kernel_rfl) (of_decide_eq_true (by kernel_rfl)) k01 bel lt1) trodAll_mk0)), rfl, bel.frame _, fun h => by cases h⟩

theorem over : Rows.machineAppliesRow.holds Tryz.pinned (OpenSpec.ofChange Rows.machineAppliesSpec) :=
  OpenClaim.holds_of_wide 3 Tryz.f3 rfl rfl rfl rfl rfl rfl rfl ⟨rfl, rfl, rfl, rfl, rfl⟩ rfl rfl rfl rfl rfl (by kernel_rfl) Tryz.func3 (by kernel_rfl)
    (of_decide_eq_true (by kernel_rfl)) (by unfold Func.isWrapper; first | (rw [if_pos (by decide +kernel)]; kernel_rfl) | (rw [if_neg (by decide +kernel)]; exact ⟨rfl, rfl⟩))
    (fun os started H enc _ => lifted os started H enc)

theorem proved : Rows.MachineAppliesCardSaid :=
  Claim7.holds_tied_plain_at .later [] [.data] true (true, "38038012a49d092e7a247ffbcb2787adac2fc0990199961fa930c50251160f44") false
    over (fun _ h => by cases h) (by kernel_rfl) (fun _ h => by cases h) machineApplies_row_tie rfl ⟨rfl, rfl⟩ (by kernel_rfl) rfl
    (fun f fn hf hfn => by
      obtain rfl : f = 3 := Option.some.inj ((show Tryz.prog.funcNamed "armistice/armisticelaw11.MachineApplies" = some 3 by kernel_rfl).symm.trans hf) |>.symm
      obtain rfl : fn = Tryz.f3 := (Option.some.inj (Tryz.func3.symm.trans hfn)).symm
      exact ⟨by kernel_rfl, fun j t ht => by
        rw [Tryz.params3] at ht
        have hm : t ∈ [24, 28] := by simpa using Array.mem_of_getElem? ht
        have hall : ([24, 28].all fun u => !Tryz.prog.wantsStandIn u) = true := by kernel_rfl
        exact (show Tryz.prog.wantsStandIn t = false by simpa using List.all_eq_true.1 hall t hm)⟩)
    (by kernel_rfl)
end Go.Proofs.YtmclpganipfadaaGreatDoor.machineApplies
