/-
  The tied card of StateOne: two states are the same just if their bytes are, and just if their texts are. No condition but the card's own: state.words reads as the program's text lays it.
-/
import Derived.Test.YtbenfdbjpefegaaDoorRows
import Derived.Test.YtbenfdbjpefegaaDoorCards
import Derived.Test.YtbenfdbjpefegaaDoorTie
import Derived.Test.YtbenfdbjpefegaaDoorStOn
import Derived.Test.YtbenfdbjpefegaaDoorStW
import Derived.Test.YtbenfdbjpefegaaDoorStQ
import Derived.WalkKit
import Derived.ProofKit
import Derived.LaidMore
import Derived.OpenShut
import Derived.ChangeOld
import Derived.Below
import Derived.ShutString
import Derived.Stop.Joined
import Derived.SevenTiedAt
namespace Go.Proofs.YtbenfdbjpefegaaDoor.stateOne
open Go.ChangeShapes Go.WideShapes Go.ChangeAt Go.RowKit
open Go.ChangeMaps (open_string shut_string)
set_option linter.unusedVariables false

theorem own : ownKnob Tryd.prog.godebug = none := by kernel_rfl
theorem laidOut : laidOutB Tryd.prog = true := by kernel_rfl

theorem walk (t0 n0 : Int) (A0 : Option Addr) (c0 : Nat) (l0 : List Int) (t1 n1 : Int) (A1 : Option Addr) (c1 : Nat) (l1 : List Int) (w : World) (hw : Wds w) (it0 : Small t0) (in0 : Small n0) (hA0 : Ints w A0 l0) (s0 : ∀ x ∈ l0, Small x) (m0 : l0.length ≤ maxLen) (it1 : Small t1) (in1 : Small n1) (hA1 : Ints w A1 l1) (s1 : ∀ x ∈ l1, Small x) (m1 : l1.length ≤ maxLen) :
    Calls Tryd.prog 7 #[stV t0 n0 A0 l0.length c0, stV t1 n1 A1 l1.length c1] w fun e w' => e = .returned (.bool true) ∧ Below w.heap.size w w' := by
  exact one_law t0 n0 t1 n1 A0 A1 c0 c1 l0 l1 w hw hA0 hA1 s0 in0 s1 in1

set_option maxRecDepth 100000 in
theorem lifted (os : Os) (started : os.Started) (H : Type) (enc : TypeId × Value → H) :
    ReturnsInHanded {} Tryd.checked os 7 .any (fun w args => (Rows.stateOneSpec.pre enc Tryd.prog Tryd.f7 [] false w args ∧ laidMetH Tryd.prog laid5 w) ∧ sizedMet enc Tryd.prog Tryd.f7 (OpenSpec.ofChange Rows.stateOneSpec) false w args)
      (Rows.stateOneSpec.post enc Tryd.prog Tryd.f7 false true false false) := by
  refine returnsInHanded_of_change_and (C := Tryd.checked) (X := fun w _ => laidMetH Tryd.prog laid5 w) (fun _ _ _ hh h => h.of_heap hh) own started (by kernel_rfl) Tryd.func7
    (ChangeSpec.witness_shaped (enc := enc) (C := Tryd.checked) (os := os) (X := fun w _ => laidMetH Tryd.prog laid5 w) false (World.doorLaid Tryd.prog 400 os) #[.agg #[.int .i64 0, .int .i64 0, .slice none 0 0], .agg #[.int .i64 0, .int .i64 0, .slice none 0 0]] 8 rfl (World.shaped_of_RefB (by kernel_rfl) (by kernel_rfl)) (by kernel_rfl) (by kernel_rfl) (by kernel_rfl) (door_met os _)) ?_
  intro W base args ds gs before hval0 hW _ _ hL _
  have hval : ∀ (j : Nat) t v, Tryd.f7.params[j]? = some t → args[j]? = some v → Value.okWide Tryd.prog W .any base t v := hval0
  have hW' := hW
  obtain ⟨p, q, hA0, hV, rfl, hfz, hnd⟩ := hW
  have hA : DataW.TrodAll enc Tryd.prog W 0 (fun _ => true) true Tryd.f7.params.toList args.toList ds p := hA0
  rw [Tryd.params7] at hA hval
  obtain ⟨v0, vs0, d0, ds0, p0, q0, hargs, rfl, rfl, h0, r0⟩ := trodAll_cons hA
  obtain ⟨v1, vs1, d1, ds1, p1, q1, rfl, rfl, rfl, h1, r1⟩ := trodAll_cons r0
  obtain ⟨rfl, rfl, rfl⟩ := trodAll_nil r1
  obtain rfl : args = #[v0, v1] := by cases args; simp_all
  obtain ⟨rfl, rfl⟩ := trodVars_none hV
  have k00 := h0
  have lt0 : ∀ x ∈ p0, x.block < W.heap.size := by obtain ⟨m, hm⟩ := k00; exact DataW.trod_lt m _ _ _ hm
  obtain ⟨t0, n0, A0, c0, l0, rfl, it0, in0, hA0, s0, m0⟩ := open_st (hval 0 24 v0 rfl rfl) h0
  have k01 := h1
  have lt1 : ∀ x ∈ p1, x.block < W.heap.size := by obtain ⟨m, hm⟩ := k01; exact DataW.trod_lt m _ _ _ hm
  obtain ⟨t1, n1, A1, c1, l1, rfl, it1, in1, hA1, s1, m1⟩ := open_st (hval 1 24 v1 rfl rfl) h1
  have hwds := wds_of hL
  clear hA0 hval0
  simp only [List.append_nil] at hW'
  refine (walk t0 n0 A0 c0 l0 t1 n1 A1 c1 l1 W hwds it0 in0 hA0 s0 m0 it1 in1 hA1 s1 m1).mono fun e W' ⟨he, bel⟩ => ?_
  subst he
  exact ⟨_, rfl, _, _, _, [], _, [], hW', trodAll_mk1 (shut_bool Tryd.underlying4 _), (trodAll_cons_mk (Below.trod laidOut (by kernel_rfl) (of_decide_eq_true (by kernel_rfl)) k00 bel lt0) (trodAll_cons_mk (Below.trod laidOut (by kernel_rfl) (of_decide_eq_true (by kernel_rfl)) k01 bel lt1) trodAll_mk0)), rfl, bel.frame _, fun h => by cases h⟩

theorem over : Rows.stateOneRow.holds Tryd.pinned (OpenSpec.ofChange Rows.stateOneSpec) :=
  OpenClaim.holds_of_wide 7 Tryd.f7 rfl rfl rfl rfl rfl rfl rfl ⟨rfl, rfl, rfl, rfl, rfl⟩ rfl rfl rfl rfl rfl (by kernel_rfl) Tryd.func7 (by kernel_rfl)
    (of_decide_eq_true (by kernel_rfl)) (by unfold Func.isWrapper; first | (rw [if_pos (by decide +kernel)]; kernel_rfl) | (rw [if_neg (by decide +kernel)]; exact ⟨rfl, rfl⟩))
    (fun os started H enc _ => lifted os started H enc)

theorem proved : Rows.StateOneCardSaid :=
  Claim7.holds_tied_plain_at .later [] [.data] true (true, "7651995d6094b81098b762c171b0632b8293c7c63b227b6773a6ae99c6805f17") false
    over (fun _ h => by cases h) (by kernel_rfl) (fun _ h => by cases h) stateOne_row_tie rfl ⟨rfl, rfl⟩ (by kernel_rfl) rfl
    (fun f fn hf hfn => by
      obtain rfl : f = 7 := Option.some.inj ((show Tryd.prog.funcNamed "armistice/armisticelaw05.StateOne" = some 7 by kernel_rfl).symm.trans hf) |>.symm
      obtain rfl : fn = Tryd.f7 := (Option.some.inj (Tryd.func7.symm.trans hfn)).symm
      exact ⟨by kernel_rfl, fun j t ht => by
        rw [Tryd.params7] at ht
        have hm : t ∈ [24] := by simpa using Array.mem_of_getElem? ht
        have hall : ([24].all fun u => !Tryd.prog.wantsStandIn u) = true := by kernel_rfl
        exact (show Tryd.prog.wantsStandIn t = false by simpa using List.all_eq_true.1 hall t hm)⟩)
    (by kernel_rfl)
end Go.Proofs.YtbenfdbjpefegaaDoor.stateOne
