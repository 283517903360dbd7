/- Texts of earlier stages over this seat, joined: GuA GuB GuC GuD GuE GuF GuG GuH GuI. -/
import Derived.Test.YtpdbkjnaicjfdaaGreatDoorGrZ
import Derived.Test.YtpdbkjnaicjfdaaGreatDoorGrM
import Derived.Test.YtpdbkjnaicjfdaaGreatDoorGrD
import Derived.Test.YtpdbkjnaicjfdaaGreatDoorGrH
import Derived.Test.YtpdbkjnaicjfdaaGreatDoorGrX
import Derived.Test.YtpdbkjnaicjfdaaGreatDoorGrO
import Derived.Test.YtpdbkjnaicjfdaaGreatDoorGrW
import Derived.Test.YtpdbkjnaicjfdaaGreatDoorGsr
import Derived.Test.YtpdbkjnaicjfdaaGreatDoorGt
set_option maxRecDepth 100000
namespace Go.Proofs.YtpdbkjnaicjfdaaGreatDoor
open Go.RowKit Go.Maps
set_option linter.unusedVariables false
set_option maxRecDepth 100000

theorem evS_1 (nm ob : ByteArray) (o : OpT) (s : StT) : evS ⟨1, nm, ob, o, s⟩ = kwB 1 ++ blB ++ nm ++ blB ++ stS s := by
  show kwB 1 ++ blB ++ nm ++ (blB ++ stS s) = _
  rw [← ByteArray.append_assoc]
theorem evS_3 (nm ob : ByteArray) (o : OpT) (s : StT) : evS ⟨3, nm, ob, o, s⟩ = kwB 3 ++ blB ++ nm ++ blB ++ ob ++ blB ++ opS o := by
  show kwB 3 ++ blB ++ nm ++ (blB ++ ob ++ blB ++ opS o) = _
  rw [← ByteArray.append_assoc, ← ByteArray.append_assoc, ← ByteArray.append_assoc]
theorem evS_0 (kd : Int) (nm ob : ByteArray) (o : OpT) (s : StT) (h1 : kd ≠ 1) (h3 : kd ≠ 3) : evS ⟨kd, nm, ob, o, s⟩ = kwB kd.toNat ++ blB ++ nm := by
  unfold evS
  dsimp only
  rw [if_neg h1, if_neg h3]; rfl

end Go.Proofs.YtpdbkjnaicjfdaaGreatDoor

namespace Go.Proofs.YtpdbkjnaicjfdaaGreatDoor
open Go.RowKit Go.Maps
set_option linter.unusedVariables false
set_option maxRecDepth 100000

theorem strOf_app (a b : List Int) : strOfNums (a ++ b) = strOfNums a ++ strOfNums b := by
  apply ByteArray.ext
  rw [ByteArray.data_append]
  unfold strOfNums
  simp

end Go.Proofs.YtpdbkjnaicjfdaaGreatDoor

namespace Go.Proofs.YtpdbkjnaicjfdaaGreatDoor
open Go.RowKit Go.Maps
set_option linter.unusedVariables false
set_option maxRecDepth 100000

/-- An event that an argument may be. -/
structure EvW (e : Ev) : Prop where
  small : ∀ x ∈ e.st.2.2, Small x
  n : Small e.st.2.1
  a : I64 e.op.2.1
  b : I64 e.op.2.2.1
  r : I64 e.op.2.2.2.2
theorem evw_ok {es : List Ev} (h : longB es = false) (hw : ∀ e ∈ es, EvW e) : es.length ≤ 60 ∧ ∀ e ∈ es, EvOk e ∧ e.st.2.2.length ≤ 30 := by
  obtain ⟨h1, h2⟩ := long_no h
  refine ⟨h1, fun e he => ?_⟩
  obtain ⟨g1, g2, g3⟩ := h2 e he
  have k := hw e he
  exact ⟨⟨by omega, by omega, by omega, k.small, k.n, k.a, k.b, k.r⟩, g3⟩
theorem fst_mem {zs : List EvZ} {es : List Ev} (h : zs.map Prod.fst = es) {z : EvZ} (hz : z ∈ zs) : z.1 ∈ es := by rw [← h]; exact List.mem_map_of_mem hz
theorem OwnEvs.read {W : World} {base : Nat} {A : Option Addr} {n c : Nat} {es : List Ev} (hn : es.length = n) (h : OwnEvs W base (.slice A n c) es) : ∃ ys : List EvZ, ys.map Prod.fst = es ∧ ys.length = n ∧ ReadEvs W.heap.size W A ys ∧ ReadNums W ys := by
  obtain ⟨ys, h1, h2, h3⟩ := h
  have hl : ys.length = n := by rw [← hn, ← h1, List.length_map]
  rw [← hl] at h2
  exact ⟨ys, h1, hl, read_evs h2, h3.read⟩

end Go.Proofs.YtpdbkjnaicjfdaaGreatDoor

namespace Go.Proofs.YtpdbkjnaicjfdaaGreatDoor
open Go.RowKit Go.Maps
set_option linter.unusedVariables false
set_option maxRecDepth 100000

/-- An event and a fault are stored whole. -/
theorem res_stored {E F : Nat} {W : World} {cs ds : Array Value} (v0 v1 v2 v3 v4 v5 v6 v7 v8 v9 v10 f0 f1 : Value) (he : Holds W E 55 cs) (hs : cs.size = 11) (hf : Holds W F 29 ds) (hd : ds.size = 2) (hne : E ≠ F) :
    ∃ W', W' = ((((((((((((W.setCell ⟨E, 0, none⟩ v0).setCell ⟨E, 1, none⟩ v1).setCell ⟨E, 2, none⟩ v2).setCell ⟨E, 3, none⟩ v3).setCell ⟨E, 4, none⟩ v4).setCell ⟨E, 5, none⟩ v5).setCell ⟨E, 6, none⟩ v6).setCell ⟨E, 7, none⟩ v7).setCell ⟨E, 8, none⟩ v8).setCell ⟨E, 9, none⟩ v9).setCell ⟨E, 10, none⟩ v10).setCell ⟨F, 0, none⟩ f0).setCell ⟨F, 1, none⟩ f1 ∧
      Holds W' E 55 #[v0, v1, v2, v3, v4, v5, v6, v7, v8, v9, v10] ∧ Holds W' F 29 #[f0, f1] ∧ (∀ lo, lo ≤ E → lo ≤ F → Below lo W W') ∧ (∀ base v l, OwnInts base W v l → OwnInts base W' v l) := by
  obtain ⟨W1, h1, g1, o1⟩ := ev_stored v0 v1 v2 v3 v4 v5 v6 v7 v8 v9 v10 he hs
  have hf1 := hf.of (o1.block F hf.lt (Ne.symm hne))
  obtain ⟨dl⟩ := ds
  match dl, hd with
  | [a0, a1], _ =>
    have g2 := (hf1.set 0 f0).set 1 f1
    simp only [List.setIfInBounds_toArray, List.set_cons_zero, List.set_cons_succ] at g2
    have o2 : Only F W1 ((W1.setCell ⟨F, 0, none⟩ f0).setCell ⟨F, 1, none⟩ f1) := ((Only.of (Below.refl W1.heap.size W1) (Nat.le_refl _)).set 0 _).set 1 _
    refine ⟨_, by rw [← h1], g1.of (o2.block E g1.lt hne), g2, fun lo k1 k2 => ?_, fun base v l h => ?_⟩
    · have hel := he.lt
      have hfl := hf1.lt
      exact (o1.below k1 (by omega)).trans (o2.below k2 (by omega))
    · have a := h.kept o1.grown (.inr (he.not_row h (by decide)).symm)
      exact a.kept o2.grown (.inr (hf1.not_row a (by decide)).symm)

def evZV : Value := .agg evZ
def FaultV (e p : Int) : Value := .tuple #[.agg evZ, .agg #[.int .i64 e, .int .i64 p]]
end Go.Proofs.YtpdbkjnaicjfdaaGreatDoor

namespace Go.Proofs.YtpdbkjnaicjfdaaGreatDoor
open Go.RowKit Go.Maps
set_option linter.unusedVariables false
set_option maxRecDepth 100000

/-- What a line is, told as an event and a fault. -/
def RefPost (x : Rx Ev) (w : World) (e : Ending) (w' : World) : Prop :=
  match x with
  | .error f => e = .returned (FaultV f.1 f.2) ∧ Below w.heap.size w w'
  | .ok ev => ∃ A c, e = .returned (.tuple #[evV ev A c, .agg #[.int .i64 0, .int .i64 0]]) ∧ OwnInts w.heap.size w' (.slice A ev.st.2.2.length c) ev.st.2.2 ∧ Below w.heap.size w w'
def objR (ws : List Wd) : Rx Ev := match firstX ws 2 with
  | .error f => .error f
  | .ok t => .ok ⟨1, wdS ws 1, emB, op0, t⟩
/-- The text from the third word on, of so many words. -/
def jt (ws : List Wd) (j : Nat) : List Int := joined (((ws.drop 2).take (j + 1)).map Prod.snd)
theorem jt_zero {ws : List Wd} (h : 2 < ws.length) : jt ws 0 = (ws[2]?.getD (0, [])).2 := by
  unfold jt
  rw [List.drop_eq_getElem_cons h, List.getElem?_eq_getElem h]
  rfl
theorem jt_succ {ws : List Wd} {j : Nat} (h : j + 3 < ws.length) : jt ws (j + 1) = jt ws j ++ 32 :: (ws[j + 3]?.getD (0, [])).2 := by
  unfold jt
  have h1 : j + 1 < (ws.drop 2).length := by rw [List.length_drop]; omega
  rw [List.take_succ_eq_append_getElem h1, List.map_append, List.map_cons, List.map_nil, joined_snoc _ _ (by
    intro e
    have := congrArg List.length e
    rw [List.length_map, List.length_take, List.length_nil] at this
    omega), List.getElem_drop, List.getElem?_eq_getElem h]
  have e : 2 + (j + 1) = j + 3 := by omega
  simp only [e, Option.getD_some]
theorem jt_end {ws : List Wd} {j : Nat} (h : ws.length ≤ j + 3) : jt ws j = restT ws 2 := by
  unfold jt restT
  rw [List.take_of_length_le (by rw [List.length_drop]; omega)]

end Go.Proofs.YtpdbkjnaicjfdaaGreatDoor

namespace Go.Proofs.YtpdbkjnaicjfdaaGreatDoor
open Go.RowKit Go.Maps
set_option linter.unusedVariables false
set_option maxRecDepth 100000

def opR (ws : List Wd) : Rx Ev := match nameX ws 2 with
  | .error f => .error f
  | .ok o => match doneX ws 3 with
    | .error f => .error f
    | .ok p => .ok ⟨3, wdS ws 1, o, p, stz⟩

end Go.Proofs.YtpdbkjnaicjfdaaGreatDoor

namespace Go.Proofs.YtpdbkjnaicjfdaaGreatDoor
open Go.RowKit Go.Maps
set_option linter.unusedVariables false
set_option maxRecDepth 100000

/-- The kind that the loop has come to ahead of k. -/
def kdTo (s : ByteArray) (k : Nat) : Nat := if kwI s < k then kwI s else 0
theorem kdTo_one (s : ByteArray) : kdTo s 1 = 0 := by unfold kdTo; split <;> omega
theorem kdTo_six (s : ByteArray) : kdTo s 6 = kwI s := by
  unfold kdTo
  split
  · rfl
  · have : kwI s ≤ 5 := by
      by_cases h : kwI s = 0
      · omega
      · exact (kwI_of rfl (by omega)).1
    omega
theorem kdTo_yes {s : ByteArray} {k : Nat} (h1 : 1 ≤ k) (h5 : k ≤ 5) (h : kwB k = s) : kdTo s (k + 1) = k := by
  subst h
  unfold kdTo
  rw [kwI_kw k h1 h5, if_pos (by omega)]
theorem kdTo_no {s : ByteArray} {k : Nat} (h1 : 1 ≤ k) (h5 : k ≤ 5) (h : ¬ kwB k = s) : kdTo s (k + 1) = kdTo s k := by
  have hne : kwI s ≠ k := fun e => h (kwI_of e (by omega)).2.symm
  unfold kdTo
  by_cases h2 : kwI s < k
  · rw [if_pos h2, if_pos (by omega)]
  · rw [if_neg h2, if_neg (by omega)]
/-- A line's event by the document's way. -/
def lineR (ws : List Wd) : Rx Ev := if kwI (wdS ws 0) = 0 then stopX ws 6 0 else match nameX ws 1 with
  | .error f => .error f
  | .ok s => if kwI (wdS ws 0) = 1 then objR ws else if kwI (wdS ws 0) = 3 then opR ws else if 2 < ws.length then stopX ws 5 2 else .ok ⟨(kwI (wdS ws 0) : Int), s, emB, op0, stz⟩
theorem nameX_is {ws : List Wd} {n : Nat} {s : ByteArray} (h : nameX ws n = .ok s) : s = wdS ws n := by
  unfold nameX wordX at h
  split at h
  · rename_i e; split at e <;> cases h
  · rename_i t e
    split at e
    · unfold stopX at e; cases e
    · cases e
      split at h
      · cases h; rfl
      · unfold stopX at h; cases h
theorem lineR_is (ws : List Wd) : lineR ws = lineX ws := by
  unfold lineR
  rw [line_kind ws _ rfl]
  generalize kwI (wdS ws 0) = k
  by_cases h0 : k = 0
  · subst h0; rfl
  · rw [if_neg h0]
    by_cases h1 : k = 1
    · subst h1
      show _ = objX ws
      unfold objX objR
      cases hn : nameX ws 1 with
      | error f => rfl
      | ok s => rw [nameX_is hn]; rfl
    · by_cases h3 : k = 3
      · subst h3
        show _ = opX ws
        unfold opX opR
        cases hn : nameX ws 1 with
        | error f => rfl
        | ok s => rw [nameX_is hn]; rfl
      · have e : lineK ws k = namedX ws (k : Int) := by
          unfold lineK
          split
          · exact absurd rfl h0
          · exact absurd rfl h1
          · exact absurd rfl h3
          · rfl
        rw [e]
        unfold namedX
        cases hn : nameX ws 1 with
        | error f => rfl
        | ok s => simp only [if_neg h1, if_neg h3]

end Go.Proofs.YtpdbkjnaicjfdaaGreatDoor

namespace Go.Proofs.YtpdbkjnaicjfdaaGreatDoor
open Go.RowKit Go.Maps
set_option linter.unusedVariables false
set_option maxRecDepth 100000

theorem stop_err {α : Type} {ws : List Wd} {c : Int} {n : Nat} {f : Int × Int} (h : (stopX ws c n : Rx α) = .error f) (hc : c ≠ 0) : f.1 ≠ 0 := by
  unfold stopX at h
  injection h with h
  rw [← h]; exact hc
theorem word_err {ws : List Wd} {n : Nat} {f : Int × Int} (h : wordX ws n = .error f) : f.1 ≠ 0 := by
  unfold wordX at h
  by_cases h1 : ws.length ≤ n
  · rw [if_pos h1] at h; exact stop_err h (by decide)
  · rw [if_neg h1] at h; cases h
theorem name_err {ws : List Wd} {n : Nat} {f : Int × Int} (h : nameX ws n = .error f) : f.1 ≠ 0 := by
  unfold nameX at h
  cases hw : wordX ws n with
  | error g => rw [hw] at h; cases h; exact word_err hw
  | ok s =>
    rw [hw] at h
    dsimp only at h
    by_cases h1 : nm_checkE s = 0
    · rw [if_pos h1] at h; cases h
    · rw [if_neg h1] at h; exact stop_err h h1
theorem first_err {ws : List Wd} {n : Nat} {f : Int × Int} (h : firstX ws n = .error f) : f.1 ≠ 0 := by
  unfold firstX at h
  cases hw : wordX ws n with
  | error g => rw [hw] at h; cases h; exact word_err hw
  | ok s =>
    rw [hw] at h
    dsimp only at h
    by_cases h1 : (rdS ws n).2.1 ≠ 0
    · rw [if_pos h1] at h
      injection h with h
      rw [← h]; exact h1
    · rw [if_neg h1] at h
      by_cases h2 : 1000 < (rdS ws n).1.2.2.length
      · rw [if_pos h2] at h; exact stop_err h (by decide)
      · rw [if_neg h2] at h; cases h
theorem done_err {ws : List Wd} {n : Nat} {f : Int × Int} (h : doneX ws n = .error f) : f.1 ≠ 0 := by
  unfold doneX at h
  by_cases h1 : (rdO ws n).2.2 ≠ 0
  · rw [if_pos h1] at h; exact stop_err h h1
  · rw [if_neg h1] at h; cases h
theorem lineX_err {ws : List Wd} {f : Int × Int} (h : lineX ws = .error f) : f.1 ≠ 0 := by
  rw [← lineR_is] at h
  unfold lineR at h
  by_cases h0 : kwI (wdS ws 0) = 0
  · rw [if_pos h0] at h; exact stop_err h (by decide)
  · rw [if_neg h0] at h
    cases hn : nameX ws 1 with
    | error g => rw [hn] at h; cases h; exact name_err hn
    | ok s =>
      rw [hn] at h
      dsimp only at h
      by_cases h1 : kwI (wdS ws 0) = 1
      · rw [if_pos h1] at h
        unfold objR at h
        cases hf : firstX ws 2 with
        | error g => rw [hf] at h; cases h; exact first_err hf
        | ok t => rw [hf] at h; cases h
      · rw [if_neg h1] at h
        by_cases h3 : kwI (wdS ws 0) = 3
        · rw [if_pos h3] at h
          unfold opR at h
          cases hm : nameX ws 2 with
          | error g => rw [hm] at h; cases h; exact name_err hm
          | ok o =>
            rw [hm] at h
            dsimp only at h
            cases hd : doneX ws 3 with
            | error g => rw [hd] at h; cases h; exact done_err hd
            | ok p => rw [hd] at h; cases h
        · rw [if_neg h3] at h
          by_cases h2 : 2 < ws.length
          · rw [if_pos h2] at h; exact stop_err h (by decide)
          · rw [if_neg h2] at h; cases h

end Go.Proofs.YtpdbkjnaicjfdaaGreatDoor

namespace Go.Proofs.YtpdbkjnaicjfdaaGreatDoor
open Go.RowKit Go.Maps
set_option linter.unusedVariables false
set_option maxRecDepth 100000

theorem fst_memX {zs : List EvZ} {es : List Ev} (h : zs.map Prod.fst = es) {z : EvZ} (hz : z ∈ zs) : z.1 ∈ es := by rw [← h]; exact List.mem_map_of_mem hz
/-- A row of numbers, whichever. -/
def AnyRow (W : World) (base : Nat) (v : Value) (n : Nat) : Prop := ∃ xs, W.ownsRow base 3 1 v n xs
theorem AnyRow.set {W : World} {base lo g n c m : Nat} {v : Value} {ys : List Value} (h : AnyRow W base v m) (hown : W.ownsRow lo 3 1 (.slice (some ⟨g, 0, none⟩) n c) n ys) (j : Nat) (u : Value) : AnyRow (W.setCell ⟨g, j, none⟩ u) base v m := by
  obtain ⟨xs, hx⟩ := h
  by_cases hb : v.ownBlock = some g
  · rcases hx.2 with ⟨e, _⟩ | ⟨g', cap', cur, e, _⟩
    · rw [e] at hb; cases hb
    · subst e
      obtain rfl : g' = g := by simpa [Value.ownBlock] using hb
      exact ⟨_, (hx.stored j u).1⟩
  · exact ⟨xs, hx.kept (hown.stored j u).2 (.inr hb)⟩
theorem AnyRow.setE {W : World} {base lo g n c m : Nat} {v : Value} {ys : List Value} (h : AnyRow W base v m) (hown : W.ownsRow lo 55 11 (.slice (some ⟨g, 0, none⟩) n c) n ys) (j : Nat) (u : Value) : AnyRow (W.setCell ⟨g, j, none⟩ u) base v m := by
  obtain ⟨xs, hx⟩ := h
  refine ⟨xs, hx.kept (hown.stored j u).2 (.inr fun e => ?_)⟩
  obtain ⟨cur, h1⟩ := row_cells hx e
  obtain ⟨cur', h2⟩ := row_cells hown rfl
  rw [h1] at h2
  simp only [Option.some.injEq, Obj.cells.injEq] at h2
  exact absurd h2.2.1 (by decide)
theorem AnyRow.alloc {W : World} {base m : Nat} {v : Value} (h : AnyRow W base v m) (o : Obj) : AnyRow (W.alloc o) base v m := by
  obtain ⟨xs, hx⟩ := h
  exact ⟨xs, hx.alloc o⟩

def OvPost (v : Value) (w : World) (e : Ending) (w' : World) : Prop := e = .returned (.tuple #[]) ∧ w.grownBy w' v.ownBlock ∧ ∀ base u m, AnyRow w base u m → AnyRow w' base u m
set_option maxHeartbeats 1000000 in
theorem overrow_any (g c n lo : Nat) (xs : List Value) (w : World) (h : w.ownsRow lo 3 1 (.slice (some ⟨g, 0, none⟩) n c) n xs) (hn : n ≤ 100000000) :
    Calls Tryz.prog 77 #[.slice (some ⟨g, 0, none⟩) n c] w fun e w' => e = .returned (.tuple #[]) ∧ w.grownBy w' (some g) ∧ ∀ base u m, AnyRow w base u m → AnyRow w' base u m := by
  have HO := Lib.hid h
  clear h
  go_enter Tryz.func77, Tryz.ntmps77
  go_wp2
  go_loopw [2] (fun i wr => ∃ (k : Nat) (ys : List Value), k ≤ n ∧ i = .int .i64 k ∧ wr.ownsRow lo 3 1 (.slice (some ⟨g, 0, none⟩) n c) n ys ∧ w.grownBy wr (some g) ∧ ∀ base u m, AnyRow w base u m → AnyRow wr base u m) (fun i wr => n - (intOf i).toNat)
  case atStart => exact ⟨0, xs, Nat.zero_le _, rfl, HO.out, World.grownBy.refl _ _, fun _ _ _ h => h⟩
  case round =>
    obtain ⟨k, ys, hk, rfl, hown, hg, hany⟩ := hrel
    have HANY := Lib.hid hany
    clear hany
    by_cases hlt : k < n
    · have q0 : (0 : Int) ≤ (k : Int) := by omega
      have q1 : (k : Int) < (n : Int) := by omega
      have q2 : decide (k < n) = true := decide_eq_true hlt
      have hlen : ys.length = n := by have := hown.1; omega
      have hcell := hown.cellAt k (by omega)
      rw [List.getElem?_eq_getElem (by omega)] at hcell
      have hfro := hown.frozenAt k
      have HOWN := Lib.hid hown
      have HST := Lib.hid (hown.stored k (.int .i64 (-77)))
      generalize ys[k] = y at hcell
      clear hown
      go_wp2
      exact ⟨⟨k + 1, _, by omega, by go_num, HST.out.1, hg.trans HST.out.2, fun base u m h => (HANY.out base u m h).set HOWN.out k _⟩, by simp [intOf]; omega⟩
    · have q2 : decide (k < n) = false := decide_eq_false hlt
      go_wp2
      go_end0
      exact ⟨rfl, hg, HANY.out⟩
theorem overnil_any (w : World) : Calls Tryz.prog 77 #[.slice none 0 0] w fun e w' => e = .returned (.tuple #[]) ∧ w' = w := by
  go_enter Tryz.func77, Tryz.ntmps77
  go_wp2
  go_loopw [2] (fun i wr => i = .int .i64 0 ∧ wr = w) (fun i wr => 0)
  case atStart => exact ⟨rfl, rfl⟩
  case round =>
    obtain ⟨rfl, rfl⟩ := hrel
    go_wp2
    go_end0
    exact ⟨rfl, rfl⟩
theorem overints_any (A : Option Addr) (c n lo : Nat) (w : World) (h : AnyRow w lo (.slice A n c) n) (hn : n ≤ 100000000) :
    Calls Tryz.prog 77 #[.slice A n c] w (OvPost (.slice A n c) w) := by
  obtain ⟨xs, h⟩ := h
  rcases h.2 with ⟨e1, e2⟩ | ⟨g, cap', cur, e1, hg, _⟩
  · injection e1 with e3 e4 e5
    subst e3 e4 e5
    refine (overnil_any w).mono ?_
    rintro e w' ⟨rfl, rfl⟩
    exact ⟨rfl, World.grownBy.refl _ _, fun _ _ _ h => h⟩
  · injection e1 with e3 e4 e5
    subst e3
    exact overrow_any g c n lo _ _ h hn
theorem overstate_any (t n : Int) (A : Option Addr) (c k lo : Nat) (w : World) (h : AnyRow w lo (.slice A k c) k) (hk : k ≤ 100000000) :
    Calls Tryz.prog 52 #[.agg #[.int .i64 t, .int .i64 n, .slice A k c]] w fun e w' => e = .returned (.tuple #[]) ∧ (w.alloc (.cells #[.int .i64 t, .int .i64 n, .slice A k c] 53)).grownBy w' (Value.slice A k c).ownBlock ∧ ∀ base u m, AnyRow w base u m → AnyRow w' base u m := by
  have HOV := Lib.hid (overints_any A c k lo _ (h.alloc (.cells #[.int .i64 t, .int .i64 n, .slice A k c] 53)) hk)
  clear h
  go_enter Tryz.func52, Tryz.ntmps52
  go_wp2_with fail
  refine HOV.out.mono ?_
  rintro e w1 ⟨rfl, hg, ha⟩
  have HA := Lib.hid ha
  clear ha
  go_wp2
  go_end0
  exact ⟨rfl, hg, fun base u m h => HA.out base u m (h.alloc _)⟩

set_option maxHeartbeats 4000000 in
theorem overevs_some (g c base : Nat) (zs : List EvZ) (w : World) (hrow : w.ownsRow base 55 11 (.slice (some ⟨g, 0, none⟩) zs.length c) zs.length (evsC zs)) (hany : ∀ z ∈ zs, AnyRow w base (.slice z.2.1 z.1.st.2.2.length z.2.2) z.1.st.2.2.length) (hb : base ≤ w.heap.size) (hlen : ∀ z ∈ zs, z.1.st.2.2.length ≤ 100000000) (hm : zs.length ≤ 100000000) :
    Calls Tryz.prog 27 #[.slice (some ⟨g, 0, none⟩) zs.length c] w fun e w' => e = .returned (.tuple #[]) ∧ Below base w w' := by
  have HROW := Lib.hid hrow
  have HANY := Lib.hid hany
  have HLEN := Lib.hid hlen
  obtain ⟨m, hmm⟩ : ∃ m, zs.length = m := ⟨_, rfl⟩
  rw [hmm] at hm HROW ⊢
  have HMM := Lib.hid hmm
  clear hrow hany hlen hmm
  go_enter Tryz.func27, Tryz.ntmps27
  go_wp2
  go_loopw [2] (fun i wr => ∃ (k : Nat) (ys : List Value), k ≤ m ∧ i = .int .i64 k ∧ wr.ownsRow base 55 11 (.slice (some ⟨g, 0, none⟩) m c) m ys ∧ (∀ j, k * 11 ≤ j → ys[j]? = (evsC zs)[j]?) ∧ (∀ z ∈ zs, AnyRow wr base (.slice z.2.1 z.1.st.2.2.length z.2.2) z.1.st.2.2.length) ∧ Below base w wr) (fun i wr => m - (intOf i).toNat)
  case atStart => exact ⟨0, _, Nat.zero_le _, rfl, HROW.out, fun _ _ => rfl, HANY.out, Below.refl _ _⟩
  case round =>
    obtain ⟨k, ys, hk, rfl, hown, hys, hany, hB⟩ := hrel
    have HYS := Lib.hid hys
    have HA := Lib.hid hany
    clear hys hany
    by_cases hlt : k < m
    · have q0 : (0 : Int) ≤ (k : Int) := by omega
      have q1 : (k : Int) < (m : Int) := by omega
      have q2 : decide (k < m) = true := decide_eq_true hlt
      have hz := wd_memE (zs := zs) (by rw [HMM.out]; exact hlt)
      have x8 := hown.cellAt (k * 11 + 8) (by omega)
      have x9 := hown.cellAt (k * 11 + 9) (by omega)
      have x10 := hown.cellAt (k * 11 + 10) (by omega)
      have hget : zs[k]? = some (zs[k]?.getD (⟨0, emB, emB, op0, stz⟩, none, 0)) := by rw [List.getElem?_eq_getElem (by rw [HMM.out]; exact hlt)]; rfl
      rw [HYS.out _ (by omega), evsC_at zs k _ (by omega), hget] at x8 x9 x10
      generalize zs[k]?.getD (⟨0, emB, emB, op0, stz⟩, none, 0) = z at *
      obtain ⟨⟨kd, nm, ob, ⟨o1, o2, o3, o4, o5⟩, t, n, l⟩, Ae, ce⟩ := z
      replace x8 : wr.cell? ⟨g, k * 11 + 8, none⟩ = some (.int .i64 t) := x8
      replace x9 : wr.cell? ⟨g, k * 11 + 9, none⟩ = some (.int .i64 n) := x9
      replace x10 : wr.cell? ⟨g, k * 11 + 10, none⟩ = some (.slice Ae l.length ce) := x10
      have HO := Lib.hid (overstate_any t n Ae ce l.length base wr (HA.out _ hz) (HLEN.out _ hz))
      have hrl : ∃ xs, wr.ownsRow base 3 1 (.slice Ae l.length ce) l.length xs := HA.out _ hz
      have HRL := Lib.hid hrl
      have HOWN := Lib.hid hown
      have hsw := hB.size
      clear hget hz hown hrl
      go_wp2_with fail
      refine HO.out.mono ?_
      rintro e w2 ⟨rfl, hg2, ha2⟩
      have HA2 := Lib.hid (fun z hz => ha2 _ _ _ (HA.out z hz))
      have hown2 : w2.ownsRow base 55 11 (.slice (some ⟨g, 0, none⟩) m c) m ys := (HOWN.out.alloc (.cells #[.int .i64 t, .int .i64 n, .slice Ae l.length ce] 53)).kept hg2 (.inr fun e => by
        obtain ⟨xs, hx⟩ := HRL.out
        obtain ⟨cur, h1⟩ := row_cells hx e.symm
        obtain ⟨cur', h2⟩ := row_cells HOWN.out rfl
        have e9 : (Value.slice (some ⟨g, 0, none⟩) m c).ownBlock = some g := rfl
        rw [h1] at h2
        simp only [Option.some.injEq, Obj.cells.injEq] at h2
        exact absurd h2.2.1 (by decide))
      have hB2 : Below base w w2 := (hB.alloc (Nat.le_trans hb hsw) _).grown hg2 (by simp; omega) (fun r e => by
        obtain ⟨xs, hx⟩ := HRL.out
        exact (hx.lt r e).1)
      have HOWN2 := Lib.hid hown2
      have yf := hown2.frozenAt
      have hlen2 : ys.length = m * 11 := hown2.1
      clear ha2 x8 x9 x10
      have cs : ∀ i, i < 11 → ∃ v, w2.cell? ⟨g, k * 11 + i, none⟩ = some v := fun i hi => by
        rw [hown2.cellAt (k * 11 + i) (by omega), List.getElem?_eq_getElem (by omega)]
        exact ⟨_, rfl⟩
      obtain ⟨v0, c0⟩ := cs 0 (by omega)
      obtain ⟨v1, c1⟩ := cs 1 (by omega)
      obtain ⟨v2, c2⟩ := cs 2 (by omega)
      obtain ⟨v3, c3⟩ := cs 3 (by omega)
      obtain ⟨v4, c4⟩ := cs 4 (by omega)
      obtain ⟨v5, c5⟩ := cs 5 (by omega)
      obtain ⟨v6, c6⟩ := cs 6 (by omega)
      obtain ⟨v7, c7⟩ := cs 7 (by omega)
      obtain ⟨v8, c8⟩ := cs 8 (by omega)
      obtain ⟨v9, c9⟩ := cs 9 (by omega)
      obtain ⟨v10, c10⟩ := cs 10 (by omega)
      rw [Nat.add_zero] at c0
      have r0 := hown2.stored (k * 11) (.int .i64 (-7))
      have r1 := r0.1.stored (k * 11 + 1) (.string ⟨#[111, 118, 101, 114]⟩)
      have r2 := r1.1.stored (k * 11 + 2) (.string ⟨#[]⟩)
      have r3 := r2.1.stored (k * 11 + 3) (.int .i64 0)
      have r4 := r3.1.stored (k * 11 + 4) (.int .i64 0)
      have r5 := r4.1.stored (k * 11 + 5) (.int .i64 0)
      have r6 := r5.1.stored (k * 11 + 6) (.int .i64 0)
      have r7 := r6.1.stored (k * 11 + 7) (.int .i64 0)
      have r8 := r7.1.stored (k * 11 + 8) (.int .i64 0)
      have r9 := r8.1.stored (k * 11 + 9) (.int .i64 0)
      have r10 := r9.1.stored (k * 11 + 10) (.slice none 0 0)
      have hgg := ((((((((((r0.2.trans r1.2).trans r2.2).trans r3.2).trans r4.2).trans r5.2).trans r6.2).trans r7.2).trans r8.2).trans r9.2).trans r10.2)
      have HG := Lib.hid hgg
      have HR := Lib.hid r10.1
      have HA3 := Lib.hid (fun z hz => (fun (h : AnyRow w2 base (.slice z.2.1 z.1.st.2.2.length z.2.2) z.1.st.2.2.length) => (((((((((((h).setE hown2 (k * 11) (.int .i64 (-7))).setE r0.1 (k * 11 + 1) (.string ⟨#[111, 118, 101, 114]⟩)).setE r1.1 (k * 11 + 2) (.string ⟨#[]⟩)).setE r2.1 (k * 11 + 3) (.int .i64 0)).setE r3.1 (k * 11 + 4) (.int .i64 0)).setE r4.1 (k * 11 + 5) (.int .i64 0)).setE r5.1 (k * 11 + 6) (.int .i64 0)).setE r6.1 (k * 11 + 7) (.int .i64 0)).setE r7.1 (k * 11 + 8) (.int .i64 0)).setE r8.1 (k * 11 + 9) (.int .i64 0)).setE r9.1 (k * 11 + 10) (.slice none 0 0)) (HA2.out z hz))
      have hgb : base ≤ g := (hown2.lt g rfl).1
      clear hgg r0 r1 r2 r3 r4 r5 r6 r7 r8 r9 r10 hown2 cs
      go_wp2
      refine ⟨⟨k + 1, _, by omega, by go_num, HR.out, fun j hj => ?_, HA3.out, ?_⟩, by simp [intOf]; omega⟩
      · repeat rw [List.getElem?_set_ne (by omega)]
        exact HYS.out j (by omega)
      · exact hB2.grown HG.out (by have := hB2.size; omega) (fun r e => by obtain rfl : g = r := Option.some.inj e; exact hgb)
    · have q2 : decide (k < m) = false := decide_eq_false hlt
      go_wp2
      go_end0
      exact ⟨rfl, hB⟩
theorem overevs_none (w : World) (c : Nat) : Calls Tryz.prog 27 #[.slice none 0 0] w fun e w' => e = .returned (.tuple #[]) ∧ w' = w := by
  go_enter Tryz.func27, Tryz.ntmps27
  go_wp2
  go_loopw [2] (fun i wr => i = .int .i64 0 ∧ wr = w) (fun i wr => 0)
  case atStart => exact ⟨rfl, rfl⟩
  case round =>
    obtain ⟨rfl, rfl⟩ := hrel
    go_wp2
    go_end0
    exact ⟨rfl, rfl⟩
theorem overevs_any (A : Option Addr) (c base : Nat) (es : List Ev) (w : World) (h : OwnEvs w base (.slice A es.length c) es) (hb : base ≤ w.heap.size) (hlen : ∀ e ∈ es, e.st.2.2.length ≤ 100000000) (hm : es.length ≤ 100000000) :
    Calls Tryz.prog 27 #[.slice A es.length c] w fun e w' => e = .returned (.tuple #[]) ∧ Below base w w' := by
  obtain ⟨zs, h1, h2, h3⟩ := h
  have hl : zs.length = es.length := by rw [← h1, List.length_map]
  rw [← hl] at h2 hm ⊢
  rcases h2.2 with ⟨e1, e2⟩ | ⟨g, cap', cur, e1, hg, _⟩
  · injection e1 with e3 e4 e5
    rw [e4]
    subst e3 e5
    refine (overevs_none w 0).mono ?_
    rintro e w' ⟨rfl, rfl⟩
    exact ⟨rfl, Below.refl _ _⟩
  · injection e1 with e3 e4 e5
    subst e3
    exact overevs_some g c base zs w h2 (fun z hz => ⟨_, h3 z hz⟩) hb (fun z hz => hlen _ (fst_memX h1 hz)) hm
end Go.Proofs.YtpdbkjnaicjfdaaGreatDoor
