/- Plain: desks, which event may follow, what a desk has behind it. (Of few events: no limit is met.) -/
import Derived.Test.YtpdbkjnaicjfdaaGreatDoorGrPlain
namespace Go.Proofs.YtpdbkjnaicjfdaaGreatDoor
open Go.RowKit
set_option linter.unusedVariables false

/-- A life. -/
structure Lf where
  nm : ByteArray
  bg : Int
  en : Int
  cm : Bool
  ops : Int
abbrev Ob := ByteArray × Int
/-- What a desk has. -/
structure Dk where
  obs : List Ob
  trs : List Lf
  evs : Nat
  ops : Nat
def dk0 : Dk := ⟨[], [], 0, 0⟩
def onm (d : Dk) : List ByteArray := d.obs.map Prod.fst
def tnm (d : Dk) : List ByteArray := d.trs.map Lf.nm
def obAt (d : Dk) (s : ByteArray) : Option Ob := d.obs.find? fun x => x.1 == s
def lfAt (d : Dk) (s : ByteArray) : Option Lf := d.trs.find? fun x => x.nm == s
theorem find_idx {α : Type} (f : α → ByteArray) (s : ByteArray) : ∀ l : List α, l.find? (fun x => f x == s) = l[(l.map f).idxOf s]?
  | [] => rfl
  | a :: r => by
    rw [List.find?_cons, List.map_cons, List.idxOf_cons]
    cases h : f a == s with
    | true => rfl
    | false => rw [find_idx f s r]; rfl
def askO (d : Dk) (e : Ev) : Int := if e.kd ≠ 1 then 0 else if d.obs.length < d.evs then 13 else if (obAt d e.nm).isSome then 10 else 0
def askB (d : Dk) (e : Ev) : Int := if e.kd ≠ 2 then 0 else if (lfAt d e.nm).isSome then 10 else 0
def askR (d : Dk) (e : Ev) : Int := if e.kd = 1 ∨ e.kd = 2 then 0 else match lfAt d e.nm with
  | none => 11
  | some x => if x.en = -1 then 0 else 13
def askP (d : Dk) (e : Ev) : Int := if e.kd ≠ 3 then 0 else match obAt d e.ob with
  | none => 11
  | some x => if typeO (kindI e.op.1) = x.2 then 0 else 8
def thenE (a b : Int) : Int := if a = 0 then b else a
/-- Why an event may not follow. -/
def agE (d : Dk) (e : Ev) : Int := thenE (evE e) (thenE (askO d e) (thenE (askB d e) (thenE (askR d e) (askP d e))))
def turnL (n : Nat) (kd : Int) (x : Lf) : Lf := if kd = 3 then ⟨x.nm, x.bg, x.en, x.cm, x.ops + 1⟩ else ⟨x.nm, x.bg, n, decide (kd = 4), x.ops⟩
def turnLs (n : Nat) (kd : Int) (s : ByteArray) (l : List Lf) : List Lf := l.map fun x => if x.nm == s then turnL n kd x else x
/-- The desk that has the event too. -/
def takeD (d : Dk) (e : Ev) : Dk :=
  if e.kd = 1 then ⟨d.obs ++ [(e.nm, e.st.1)], d.trs, d.evs + 1, d.ops⟩
  else if e.kd = 2 then ⟨d.obs, d.trs ++ [⟨e.nm, d.evs, -1, false, 0⟩], d.evs + 1, d.ops⟩
  else if e.kd = 3 then ⟨d.obs, turnLs d.evs 3 e.nm d.trs, d.evs + 1, d.ops + 1⟩
  else ⟨d.obs, turnLs d.evs e.kd e.nm d.trs, d.evs + 1, d.ops⟩
def addD (d : Dk) (e : Ev) : Dk := if agE d e = 0 then takeD d e else d
/-- Events one by one, as far as they may follow: the desk, and what is wrong where. -/
def layX : Dk → Nat → List Ev → Dk × Int × Int
  | d, _, [] => (d, 0, 0)
  | d, i, e :: r => if agE d e = 0 then layX (takeD d e) (i + 1) r else (d, agE d e, (i : Int))

theorem thenE_zero {a b : Int} : thenE a b = 0 ↔ a = 0 ∧ b = 0 := by unfold thenE; split <;> simp_all
theorem turn_nm (n : Nat) (kd : Int) (x : Lf) : (turnL n kd x).nm = x.nm := by unfold turnL; split <;> rfl
theorem turns_nm (n : Nat) (kd : Int) (s : ByteArray) (l : List Lf) : (turnLs n kd s l).map Lf.nm = l.map Lf.nm := by
  unfold turnLs
  rw [List.map_map]
  apply List.map_congr_left
  intro x _
  show (if x.nm == s then turnL n kd x else x).nm = x.nm
  split
  · exact turn_nm ..
  · rfl
theorem turns_len (n : Nat) (kd : Int) (s : ByteArray) (l : List Lf) : (turnLs n kd s l).length = l.length := List.length_map _
/-- Just one life turns. -/
theorem turns_at {n : Nat} {kd : Int} {s : ByteArray} {l : List Lf} (hn : (l.map Lf.nm).Nodup) {i : Nat} {x : Lf} (hi : l[i]? = some x) (hx : x.nm = s) : turnLs n kd s l = l.set i (turnL n kd x) := by
  apply List.ext_getElem?
  intro j
  unfold turnLs
  rw [List.getElem?_map, List.getElem?_set]
  have hil := (List.getElem?_eq_some_iff.1 hi).1
  by_cases e : i = j
  · subst e
    rw [if_pos rfl, if_pos hil, hi]
    show some (if x.nm == s then turnL n kd x else x) = _
    rw [if_pos (by rw [hx]; simp)]
  · rw [if_neg e]
    cases hj : l[j]? with
    | none => rfl
    | some y =>
      show some (if y.nm == s then turnL n kd y else y) = some y
      rw [if_neg]
      intro h
      have hy : y.nm = s := by simpa using h
      have hjl := (List.getElem?_eq_some_iff.1 hj).1
      apply e
      have h1 : (l.map Lf.nm)[i]? = some s := by rw [List.getElem?_map, hi]; simp [hx]
      have h2 : (l.map Lf.nm)[j]? = some s := by rw [List.getElem?_map, hj]; simp [hy]
      exact (List.getElem?_inj (by simpa using hil) hn).1 (h1.trans h2.symm)
/-- A desk is in order. -/
structure DkOk (d : Dk) : Prop where
  obs : (onm d).Nodup
  trs : (tnm d).Nodup
  many : d.obs.length + d.trs.length ≤ d.evs
  ops : ∀ x ∈ d.trs, 0 ≤ x.ops ∧ x.ops ≤ d.evs ∧ -1 ≤ x.en ∧ x.en < d.evs ∧ 0 ≤ x.bg ∧ x.bg < d.evs
  few : d.ops ≤ d.evs
  onam : ∀ x ∈ d.obs, nm_checkE x.1 = 0
  tnam : ∀ x ∈ d.trs, nm_checkE x.nm = 0
theorem dk0_ok : DkOk dk0 := ⟨List.nodup_nil, List.nodup_nil, Nat.le_refl _, fun x h => (by cases h), Nat.le_refl _, fun x h => (by cases h), fun x h => (by cases h)⟩
theorem not_mem_find {α : Type} {f : α → ByteArray} {l : List α} {s : ByteArray} (h : (l.find? fun x => f x == s).isSome = false) : s ∉ l.map f := by
  intro hm
  obtain ⟨x, hx, e⟩ := List.mem_map.1 hm
  rw [Option.isSome_eq_false_iff, Option.isNone_iff_eq_none] at h
  have := List.find?_eq_none.1 h x hx
  simp [e] at this
theorem nodup_snoc {l : List ByteArray} {s : ByteArray} (h : l.Nodup) (hs : s ∉ l) : (l ++ [s]).Nodup := by
  rw [List.nodup_append]
  refine ⟨h, by simp, fun a ha b hb e => ?_⟩
  have hb' : b = s := by simpa using hb
  subst hb'
  subst e
  exact hs ha
/-- What an event that may be is. -/
theorem ev_name {e : Ev} (h : evE e = 0) : nm_checkE e.nm = 0 := by
  unfold evE at h
  split at h
  · cases h
  · split at h
    · cases h
    · split at h
      · rename_i h1 h2 h3
        exact absurd h h3
      · rename_i h1 h2 h3
        simpa using h3
theorem ev_kind {e : Ev} (h : evE e = 0) : 1 ≤ e.kd ∧ e.kd ≤ 5 := by
  unfold evE at h
  split at h
  · cases h
  · omega
theorem DkOk.add {d : Dk} (h : DkOk d) {e : Ev} (hag : agE d e = 0) : DkOk (takeD d e) := by
  obtain ⟨hf, h1⟩ := thenE_zero.1 hag
  have hs := ev_name hf
  obtain ⟨ho, h2⟩ := thenE_zero.1 h1
  obtain ⟨hb, _⟩ := thenE_zero.1 h2
  unfold takeD
  by_cases k1 : e.kd = 1
  · rw [if_pos k1]
    unfold askO at ho
    rw [if_neg (by simp [k1])] at ho
    by_cases k2 : d.obs.length < d.evs
    · rw [if_pos k2] at ho; cases ho
    · rw [if_neg k2] at ho
      cases k3 : (obAt d e.nm).isSome with
      | true => rw [k3] at ho; cases ho
      | false =>
        refine ⟨?_, h.trs, ?_, fun x hx => ?_, ?_, fun x hx => ?_, h.tnam⟩
        · show ((d.obs ++ [(e.nm, e.st.1)]).map Prod.fst).Nodup
          rw [List.map_append]
          exact nodup_snoc h.obs (not_mem_find k3)
        · have := h.many
          show (d.obs ++ [(e.nm, e.st.1)]).length + d.trs.length ≤ d.evs + 1
          rw [List.length_append]; simp; omega
        · have := h.ops x hx
          show 0 ≤ x.ops ∧ x.ops ≤ ((d.evs + 1 : Nat) : Int) ∧ _ ∧ x.en < ((d.evs + 1 : Nat) : Int) ∧ _ ∧ x.bg < ((d.evs + 1 : Nat) : Int)
          omega
        · exact Nat.le_succ_of_le h.few
        · rcases List.mem_append.1 hx with hx | hx
          · exact h.onam x hx
          · have : x = (e.nm, e.st.1) := by simpa using hx
            subst this; exact hs
  · rw [if_neg k1]
    by_cases k2 : e.kd = 2
    · rw [if_pos k2]
      unfold askB at hb
      rw [if_neg (by simp [k2])] at hb
      cases k3 : (lfAt d e.nm).isSome with
      | true => rw [k3] at hb; cases hb
      | false =>
        refine ⟨h.obs, ?_, ?_, fun x hx => ?_, ?_, h.onam, fun x hx => ?_⟩
        · show ((d.trs ++ [(⟨e.nm, d.evs, -1, false, 0⟩ : Lf)]).map Lf.nm).Nodup
          rw [List.map_append]
          exact nodup_snoc h.trs (not_mem_find k3)
        · have := h.many
          show d.obs.length + (d.trs ++ [(⟨e.nm, d.evs, -1, false, 0⟩ : Lf)]).length ≤ d.evs + 1
          rw [List.length_append]; simp; omega
        · show 0 ≤ x.ops ∧ x.ops ≤ ((d.evs + 1 : Nat) : Int) ∧ _ ∧ x.en < ((d.evs + 1 : Nat) : Int) ∧ _ ∧ x.bg < ((d.evs + 1 : Nat) : Int)
          rcases List.mem_append.1 hx with hx | hx
          · have := h.ops x hx
            omega
          · have : x = ⟨e.nm, d.evs, -1, false, 0⟩ := by simpa using hx
            subst this
            dsimp only
            omega
        · exact Nat.le_succ_of_le h.few
        · rcases List.mem_append.1 hx with hx | hx
          · exact h.tnam x hx
          · have : x = ⟨e.nm, d.evs, -1, false, 0⟩ := by simpa using hx
            subst this; exact hs
    · rw [if_neg k2]
      have hall : ∀ kd : Int, (∀ x ∈ turnLs d.evs kd e.nm d.trs, 0 ≤ x.ops ∧ x.ops ≤ ((d.evs + 1 : Nat) : Int) ∧ -1 ≤ x.en ∧ x.en < ((d.evs + 1 : Nat) : Int) ∧ 0 ≤ x.bg ∧ x.bg < ((d.evs + 1 : Nat) : Int)) ∧ ∀ x ∈ turnLs d.evs kd e.nm d.trs, nm_checkE x.nm = 0 := by
        intro kd
        have key : ∀ x ∈ turnLs d.evs kd e.nm d.trs, ∃ y ∈ d.trs, x = y ∨ x = turnL d.evs kd y := by
          intro x hx
          obtain ⟨y, hy, e⟩ := List.mem_map.1 hx
          refine ⟨y, hy, ?_⟩
          subst e
          split
          · exact .inr rfl
          · exact .inl rfl
        refine ⟨fun x hx => ?_, fun x hx => ?_⟩
        · obtain ⟨y, hy, r⟩ := key x hx
          have := h.ops y hy
          rcases r with r | r
          · subst r; omega
          · subst r
            unfold turnL
            split <;> dsimp only <;> omega
        · obtain ⟨y, hy, r⟩ := key x hx
          have := h.tnam y hy
          rcases r with r | r
          · subst r; exact this
          · subst r; rw [turn_nm]; exact this
      have hm : ∀ kd : Int, d.obs.length + (turnLs d.evs kd e.nm d.trs).length ≤ d.evs + 1 := fun kd => by rw [turns_len]; have := h.many; omega
      by_cases k3 : e.kd = 3
      · rw [if_pos k3]
        refine ⟨h.obs, ?_, hm 3, (hall 3).1, Nat.succ_le_succ h.few, h.onam, (hall 3).2⟩
        show ((turnLs d.evs 3 e.nm d.trs).map Lf.nm).Nodup
        rw [turns_nm]; exact h.trs
      · rw [if_neg k3]
        refine ⟨h.obs, ?_, hm e.kd, (hall e.kd).1, Nat.le_succ_of_le h.few, h.onam, (hall e.kd).2⟩
        show ((turnLs d.evs e.kd e.nm d.trs).map Lf.nm).Nodup
        rw [turns_nm]; exact h.trs
theorem take_evs (d : Dk) (e : Ev) : (takeD d e).evs = d.evs + 1 := by
  unfold takeD
  split
  · rfl
  · split
    · rfl
    · split <;> rfl
end Go.Proofs.YtpdbkjnaicjfdaaGreatDoor
