/- Plain: desks, what may follow, lives; a beginning; the others; what is over. -/
import Derived.Test.YtpdbkjnaicjfdaaGreatDoorGrPlain
namespace Go.Proofs.YtpdbkjnaicjfdaaGreatDoor
open Go.RowKit
set_option linter.unusedVariables false

/-- A life. -/
structure Lf where
  nm : ByteArray
  bg : Int
  en : Int
  cm : Bool
  ops : Int
abbrev Ob := ByteArray × Int
/-- What a desk has. -/
structure Dk where
  obs : List Ob
  trs : List Lf
  evs : Nat
  ops : Nat
def dk0 : Dk := ⟨[], [], 0, 0⟩
def onm (d : Dk) : List ByteArray := d.obs.map Prod.fst
def tnm (d : Dk) : List ByteArray := d.trs.map Lf.nm
def obAt (d : Dk) (s : ByteArray) : Option Ob := d.obs.find? fun x => x.1 == s
def lfAt (d : Dk) (s : ByteArray) : Option Lf := d.trs.find? fun x => x.nm == s
theorem find_idx {α : Type} (f : α → ByteArray) (s : ByteArray) : ∀ l : List α, l.find? (fun x => f x == s) = l[(l.map f).idxOf s]?
  | [] => rfl
  | a :: r => by
    rw [List.find?_cons, List.map_cons, List.idxOf_cons]
    cases h : f a == s with
    | true => rfl
    | false => rw [find_idx f s r]; rfl
def askO (d : Dk) (e : Ev) : Int := if e.kd ≠ 1 then 0 else if d.obs.length < d.evs then 13 else if (obAt d e.nm).isSome then 10 else 0
def askB (d : Dk) (e : Ev) : Int := if e.kd ≠ 2 then 0 else if (lfAt d e.nm).isSome then 10 else 0
def askR (d : Dk) (e : Ev) : Int := if e.kd = 1 ∨ e.kd = 2 then 0 else match lfAt d e.nm with
  | none => 11
  | some x => if x.en = -1 then 0 else 13
def askP (d : Dk) (e : Ev) : Int := if e.kd ≠ 3 then 0 else match obAt d e.ob with
  | none => 11
  | some x => if typeO (kindI e.op.1) = x.2 then 0 else 8
def thenE (a b : Int) : Int := if a = 0 then b else a
/-- Why an event may not follow. -/
def agE (d : Dk) (e : Ev) : Int := thenE (evE e) (thenE (askO d e) (thenE (askB d e) (thenE (askR d e) (askP d e))))
def turnL (n : Nat) (kd : Int) (x : Lf) : Lf := if kd = 3 then ⟨x.nm, x.bg, x.en, x.cm, x.ops + 1⟩ else ⟨x.nm, x.bg, n, decide (kd = 4), x.ops⟩
def turnLs (n : Nat) (kd : Int) (s : ByteArray) (l : List Lf) : List Lf := l.map fun x => if x.nm == s then turnL n kd x else x
/-- The desk that has the event too. -/
def takeD (d : Dk) (e : Ev) : Dk :=
  if e.kd = 1 then ⟨d.obs ++ [(e.nm, e.st.1)], d.trs, d.evs + 1, d.ops⟩
  else if e.kd = 2 then ⟨d.obs, d.trs ++ [⟨e.nm, d.evs, -1, false, 0⟩], d.evs + 1, d.ops⟩
  else if e.kd = 3 then ⟨d.obs, turnLs d.evs 3 e.nm d.trs, d.evs + 1, d.ops + 1⟩
  else ⟨d.obs, turnLs d.evs e.kd e.nm d.trs, d.evs + 1, d.ops⟩
def addD (d : Dk) (e : Ev) : Dk := if agE d e = 0 then takeD d e else d
/-- Events one by one, as far as they may follow: the desk, and what is wrong where. -/
def layX : Dk → Nat → List Ev → Dk × Int × Int
  | d, _, [] => (d, 0, 0)
  | d, i, e :: r => if agE d e = 0 then layX (takeD d e) (i + 1) r else (d, agE d e, (i : Int))

theorem thenE_zero {a b : Int} : thenE a b = 0 ↔ a = 0 ∧ b = 0 := by unfold thenE; split <;> simp_all
theorem turn_nm (n : Nat) (kd : Int) (x : Lf) : (turnL n kd x).nm = x.nm := by unfold turnL; split <;> rfl
theorem turns_nm (n : Nat) (kd : Int) (s : ByteArray) (l : List Lf) : (turnLs n kd s l).map Lf.nm = l.map Lf.nm := by
  unfold turnLs
  rw [List.map_map]
  apply List.map_congr_left
  intro x _
  show (if x.nm == s then turnL n kd x else x).nm = x.nm
  split
  · exact turn_nm ..
  · rfl
theorem turns_len (n : Nat) (kd : Int) (s : ByteArray) (l : List Lf) : (turnLs n kd s l).length = l.length := List.length_map _
/-- Just one life turns. -/
theorem turns_at {n : Nat} {kd : Int} {s : ByteArray} {l : List Lf} (hn : (l.map Lf.nm).Nodup) {i : Nat} {x : Lf} (hi : l[i]? = some x) (hx : x.nm = s) : turnLs n kd s l = l.set i (turnL n kd x) := by
  apply List.ext_getElem?
  intro j
  unfold turnLs
  rw [List.getElem?_map, List.getElem?_set]
  have hil := (List.getElem?_eq_some_iff.1 hi).1
  by_cases e : i = j
  · subst e
    rw [if_pos rfl, if_pos hil, hi]
    show some (if x.nm == s then turnL n kd x else x) = _
    rw [if_pos (by rw [hx]; simp)]
  · rw [if_neg e]
    cases hj : l[j]? with
    | none => rfl
    | some y =>
      show some (if y.nm == s then turnL n kd y else y) = some y
      rw [if_neg]
      intro h
      have hy : y.nm = s := by simpa using h
      have hjl := (List.getElem?_eq_some_iff.1 hj).1
      apply e
      have h1 : (l.map Lf.nm)[i]? = some s := by rw [List.getElem?_map, hi]; simp [hx]
      have h2 : (l.map Lf.nm)[j]? = some s := by rw [List.getElem?_map, hj]; simp [hy]
      exact (List.getElem?_inj (by simpa using hil) hn).1 (h1.trans h2.symm)
/-- A desk is in order. -/
structure DkOk (d : Dk) : Prop where
  obs : (onm d).Nodup
  trs : (tnm d).Nodup
  many : d.obs.length + d.trs.length ≤ d.evs
  ops : ∀ x ∈ d.trs, 0 ≤ x.ops ∧ x.ops ≤ d.evs ∧ -1 ≤ x.en ∧ x.en < d.evs ∧ 0 ≤ x.bg ∧ x.bg < d.evs
  few : d.ops ≤ d.evs
  onam : ∀ x ∈ d.obs, nm_checkE x.1 = 0
  tnam : ∀ x ∈ d.trs, nm_checkE x.nm = 0
theorem dk0_ok : DkOk dk0 := ⟨List.nodup_nil, List.nodup_nil, Nat.le_refl _, fun x h => (by cases h), Nat.le_refl _, fun x h => (by cases h), fun x h => (by cases h)⟩
theorem not_mem_find {α : Type} {f : α → ByteArray} {l : List α} {s : ByteArray} (h : (l.find? fun x => f x == s).isSome = false) : s ∉ l.map f := by
  intro hm
  obtain ⟨x, hx, e⟩ := List.mem_map.1 hm
  rw [Option.isSome_eq_false_iff, Option.isNone_iff_eq_none] at h
  have := List.find?_eq_none.1 h x hx
  simp [e] at this
theorem nodup_snoc {l : List ByteArray} {s : ByteArray} (h : l.Nodup) (hs : s ∉ l) : (l ++ [s]).Nodup := by
  rw [List.nodup_append]
  refine ⟨h, by simp, fun a ha b hb e => ?_⟩
  have hb' : b = s := by simpa using hb
  subst hb'
  subst e
  exact hs ha
/-- What an event that may be is. -/
theorem ev_name {e : Ev} (h : evE e = 0) : nm_checkE e.nm = 0 := by
  unfold evE at h
  split at h
  · cases h
  · split at h
    · cases h
    · split at h
      · rename_i h1 h2 h3
        exact absurd h h3
      · rename_i h1 h2 h3
        simpa using h3
theorem ev_kind {e : Ev} (h : evE e = 0) : 1 ≤ e.kd ∧ e.kd ≤ 5 := by
  unfold evE at h
  split at h
  · cases h
  · omega
theorem DkOk.add {d : Dk} (h : DkOk d) {e : Ev} (hag : agE d e = 0) : DkOk (takeD d e) := by
  obtain ⟨hf, h1⟩ := thenE_zero.1 hag
  have hs := ev_name hf
  obtain ⟨ho, h2⟩ := thenE_zero.1 h1
  obtain ⟨hb, _⟩ := thenE_zero.1 h2
  unfold takeD
  by_cases k1 : e.kd = 1
  · rw [if_pos k1]
    unfold askO at ho
    rw [if_neg (by simp [k1])] at ho
    by_cases k2 : d.obs.length < d.evs
    · rw [if_pos k2] at ho; cases ho
    · rw [if_neg k2] at ho
      cases k3 : (obAt d e.nm).isSome with
      | true => rw [k3] at ho; cases ho
      | false =>
        refine ⟨?_, h.trs, ?_, fun x hx => ?_, ?_, fun x hx => ?_, h.tnam⟩
        · show ((d.obs ++ [(e.nm, e.st.1)]).map Prod.fst).Nodup
          rw [List.map_append]
          exact nodup_snoc h.obs (not_mem_find k3)
        · have := h.many
          show (d.obs ++ [(e.nm, e.st.1)]).length + d.trs.length ≤ d.evs + 1
          rw [List.length_append]; simp; omega
        · have := h.ops x hx
          show 0 ≤ x.ops ∧ x.ops ≤ ((d.evs + 1 : Nat) : Int) ∧ _ ∧ x.en < ((d.evs + 1 : Nat) : Int) ∧ _ ∧ x.bg < ((d.evs + 1 : Nat) : Int)
          omega
        · exact Nat.le_succ_of_le h.few
        · rcases List.mem_append.1 hx with hx | hx
          · exact h.onam x hx
          · have : x = (e.nm, e.st.1) := by simpa using hx
            subst this; exact hs
  · rw [if_neg k1]
    by_cases k2 : e.kd = 2
    · rw [if_pos k2]
      unfold askB at hb
      rw [if_neg (by simp [k2])] at hb
      cases k3 : (lfAt d e.nm).isSome with
      | true => rw [k3] at hb; cases hb
      | false =>
        refine ⟨h.obs, ?_, ?_, fun x hx => ?_, ?_, h.onam, fun x hx => ?_⟩
        · show ((d.trs ++ [(⟨e.nm, d.evs, -1, false, 0⟩ : Lf)]).map Lf.nm).Nodup
          rw [List.map_append]
          exact nodup_snoc h.trs (not_mem_find k3)
        · have := h.many
          show d.obs.length + (d.trs ++ [(⟨e.nm, d.evs, -1, false, 0⟩ : Lf)]).length ≤ d.evs + 1
          rw [List.length_append]; simp; omega
        · show 0 ≤ x.ops ∧ x.ops ≤ ((d.evs + 1 : Nat) : Int) ∧ _ ∧ x.en < ((d.evs + 1 : Nat) : Int) ∧ _ ∧ x.bg < ((d.evs + 1 : Nat) : Int)
          rcases List.mem_append.1 hx with hx | hx
          · have := h.ops x hx
            omega
          · have : x = ⟨e.nm, d.evs, -1, false, 0⟩ := by simpa using hx
            subst this
            dsimp only
            omega
        · exact Nat.le_succ_of_le h.few
        · rcases List.mem_append.1 hx with hx | hx
          · exact h.tnam x hx
          · have : x = ⟨e.nm, d.evs, -1, false, 0⟩ := by simpa using hx
            subst this; exact hs
    · rw [if_neg k2]
      have hall : ∀ kd : Int, (∀ x ∈ turnLs d.evs kd e.nm d.trs, 0 ≤ x.ops ∧ x.ops ≤ ((d.evs + 1 : Nat) : Int) ∧ -1 ≤ x.en ∧ x.en < ((d.evs + 1 : Nat) : Int) ∧ 0 ≤ x.bg ∧ x.bg < ((d.evs + 1 : Nat) : Int)) ∧ ∀ x ∈ turnLs d.evs kd e.nm d.trs, nm_checkE x.nm = 0 := by
        intro kd
        have key : ∀ x ∈ turnLs d.evs kd e.nm d.trs, ∃ y ∈ d.trs, x = y ∨ x = turnL d.evs kd y := by
          intro x hx
          obtain ⟨y, hy, e⟩ := List.mem_map.1 hx
          refine ⟨y, hy, ?_⟩
          subst e
          split
          · exact .inr rfl
          · exact .inl rfl
        refine ⟨fun x hx => ?_, fun x hx => ?_⟩
        · obtain ⟨y, hy, r⟩ := key x hx
          have := h.ops y hy
          rcases r with r | r
          · subst r; omega
          · subst r
            unfold turnL
            split <;> dsimp only <;> omega
        · obtain ⟨y, hy, r⟩ := key x hx
          have := h.tnam y hy
          rcases r with r | r
          · subst r; exact this
          · subst r; rw [turn_nm]; exact this
      have hm : ∀ kd : Int, d.obs.length + (turnLs d.evs kd e.nm d.trs).length ≤ d.evs + 1 := fun kd => by rw [turns_len]; have := h.many; omega
      by_cases k3 : e.kd = 3
      · rw [if_pos k3]
        refine ⟨h.obs, ?_, hm 3, (hall 3).1, Nat.succ_le_succ h.few, h.onam, (hall 3).2⟩
        show ((turnLs d.evs 3 e.nm d.trs).map Lf.nm).Nodup
        rw [turns_nm]; exact h.trs
      · rw [if_neg k3]
        refine ⟨h.obs, ?_, hm e.kd, (hall e.kd).1, Nat.le_succ_of_le h.few, h.onam, (hall e.kd).2⟩
        show ((turnLs d.evs e.kd e.nm d.trs).map Lf.nm).Nodup
        rw [turns_nm]; exact h.trs
theorem take_evs (d : Dk) (e : Ev) : (takeD d e).evs = d.evs + 1 := by
  unfold takeD
  split
  · rfl
  · split
    · rfl
    · split <;> rfl
end Go.Proofs.YtpdbkjnaicjfdaaGreatDoor
namespace Go.Proofs.YtpdbkjnaicjfdaaGreatDoor
open Go.RowKit
set_option linter.unusedVariables false

theorem lay_app : ∀ (a b : List Ev) (d : Dk) (i : Nat), ((layX d i a).2.1 ≠ 0 → layX d i (a ++ b) = layX d i a) ∧ ((layX d i a).2.1 = 0 → layX d i (a ++ b) = layX (layX d i a).1 (i + a.length) b)
  | [], b, d, i => ⟨fun h => absurd rfl h, fun _ => rfl⟩
  | e :: r, b, d, i => by
    rw [List.cons_append, layX, layX]
    by_cases h : agE d e = 0
    · rw [if_pos h, if_pos h]
      have ih := lay_app r b (takeD d e) (i + 1)
      refine ⟨ih.1, fun k => ?_⟩
      rw [ih.2 k, List.length_cons]
      congr 1
      omega
    · rw [if_neg h, if_neg h]
      exact ⟨fun _ => rfl, fun k => absurd k h⟩
theorem lay_where : ∀ (l : List Ev) (d : Dk) (i : Nat), (layX d i l).2.1 ≠ 0 → (i : Int) ≤ (layX d i l).2.2 ∧ (layX d i l).2.2 < i + l.length
  | [], d, i, h => absurd rfl h
  | e :: r, d, i, h => by
    rw [layX] at h ⊢
    by_cases k : agE d e = 0
    · rw [if_pos k] at h ⊢
      have := lay_where r (takeD d e) (i + 1) h
      rw [List.length_cons]; omega
    · rw [if_neg k] at h ⊢
      rw [List.length_cons]
      dsimp only
      omega
theorem lay_fine : ∀ (l : List Ev) (d : Dk) (i : Nat), (layX d i l).2.1 = 0 → (layX d i l).2.2 = 0
  | [], d, i, h => rfl
  | e :: r, d, i, h => by
    rw [layX] at h ⊢
    by_cases k : agE d e = 0
    · rw [if_pos k] at h ⊢; exact lay_fine r _ _ h
    · rw [if_neg k] at h; exact absurd h k
theorem lay_ok : ∀ (l : List Ev) (d : Dk) (i : Nat), DkOk d → DkOk (layX d i l).1 ∧ ((layX d i l).1.evs ≤ d.evs + l.length) ∧ ((layX d i l).2.1 = 0 → (layX d i l).1.evs = d.evs + l.length)
  | [], d, i, h => ⟨h, Nat.le_refl _, fun _ => rfl⟩
  | e :: r, d, i, h => by
    rw [layX]
    by_cases k : agE d e = 0
    · rw [if_pos k]
      have ih := lay_ok r (takeD d e) (i + 1) (h.add k)
      rw [take_evs] at ih
      rw [List.length_cons]
      refine ⟨ih.1, by have := ih.2.1; omega, fun z => by have := ih.2.2 z; omega⟩
    · rw [if_neg k]
      exact ⟨h, Nat.le_add_right _ _, fun z => absurd z k⟩
theorem lf_unique {d : Dk} (h : DkOk d) {i : Nat} {y : Lf} (hy : d.trs[i]? = some y) : lfAt d y.nm = some y := by
  unfold lfAt
  rw [find_idx Lf.nm y.nm d.trs]
  have hl := (List.getElem?_eq_some_iff.1 hy).1
  have e : (d.trs.map Lf.nm)[i]'(by simpa using hl) = y.nm := by
    rw [List.getElem_map]
    rw [List.getElem?_eq_getElem hl] at hy
    rw [Option.some.inj hy]
  have : (d.trs.map Lf.nm).idxOf y.nm = i := by
    rw [← e]
    exact h.trs.idxOf_getElem i _
  rw [this, hy]
/-- A life of a beginning beside that of the whole. -/
structure LfLe (n : Nat) (x y : Lf) : Prop where
  nm : x.nm = y.nm
  bg : x.bg = y.bg
  ops : x.ops ≤ y.ops
  same : 0 ≤ x.en → x = y
  late : x.en < 0 → 0 ≤ y.en → (n : Int) ≤ y.en
structure DkLe (n : Nat) (d d' : Dk) : Prop where
  evs : n ≤ d'.evs
  len : d.trs.length ≤ d'.trs.length
  all : ∀ (i : Nat) (x : Lf), d.trs[i]? = some x → ∃ y, d'.trs[i]? = some y ∧ LfLe n x y
theorem DkLe.refl (d : Dk) : DkLe d.evs d d := ⟨Nat.le_refl _, Nat.le_refl _, fun i x hx => ⟨x, hx, rfl, rfl, Int.le_refl _, fun _ => rfl, fun h h' => by omega⟩⟩
theorem DkLe.turn {n : Nat} {d d' : Dk} (h : DkLe n d d') (hok : DkOk d') {s : ByteArray} {z : Lf} (hz : lfAt d' s = some z) (hr : z.en = -1) (kd : Int) {m : Nat} (hm : n ≤ m) :
    d.trs.length ≤ (turnLs m kd s d'.trs).length ∧ ∀ (i : Nat) (x : Lf), d.trs[i]? = some x → ∃ y, (turnLs m kd s d'.trs)[i]? = some y ∧ LfLe n x y := by
  refine ⟨by rw [turns_len]; exact h.len, fun i x hx => ?_⟩
  obtain ⟨y, hy, hle⟩ := h.all i x hx
  unfold turnLs
  rw [List.getElem?_map, hy]
  refine ⟨_, rfl, ?_⟩
  show LfLe n x (if y.nm == s then turnL m kd y else y)
  by_cases e : y.nm == s
  · rw [if_pos e]
    have e' : y.nm = s := by simpa using e
    have hu := lf_unique hok hy
    rw [e', hz] at hu
    cases hu
    have hx0 : x.en < 0 := by
      rcases Int.lt_or_le x.en 0 with k | k
      · exact k
      · have := hle.same k
        subst this
        omega
    unfold turnL
    split
    · exact ⟨hle.nm, hle.bg, by have := hle.ops; dsimp only; omega, fun k => by omega, fun _ k => by dsimp only at k; omega⟩
    · exact ⟨hle.nm, hle.bg, hle.ops, fun k => by omega, fun _ k => by dsimp only; omega⟩
  · rw [if_neg e]; exact hle
theorem ask_run {d : Dk} {e : Ev} (h : agE d e = 0) (h1 : e.kd ≠ 1) (h2 : e.kd ≠ 2) : ∃ z, lfAt d e.nm = some z ∧ z.en = -1 := by
  obtain ⟨_, h⟩ := thenE_zero.1 h
  obtain ⟨_, h⟩ := thenE_zero.1 h
  obtain ⟨_, h⟩ := thenE_zero.1 h
  obtain ⟨h, _⟩ := thenE_zero.1 h
  unfold askR at h
  rw [if_neg (by omega)] at h
  cases hz : lfAt d e.nm with
  | none => rw [hz] at h; cases h
  | some z =>
    rw [hz] at h
    refine ⟨z, rfl, ?_⟩
    dsimp only at h
    split at h
    · assumption
    · cases h
theorem DkLe.step {n : Nat} {d d' : Dk} (h : DkLe n d d') (hok : DkOk d') {e : Ev} (ha : agE d' e = 0) : DkLe n d (takeD d' e) := by
  refine ⟨by rw [take_evs]; have := h.evs; omega, ?_, ?_⟩ <;> unfold takeD <;> by_cases k1 : e.kd = 1
  · rw [if_pos k1]; exact h.len
  · rw [if_neg k1]
    by_cases k2 : e.kd = 2
    · rw [if_pos k2]; have := h.len; dsimp only; rw [List.length_append]; omega
    · rw [if_neg k2]
      obtain ⟨z, hz, hr⟩ := ask_run ha k1 k2
      by_cases k3 : e.kd = 3
      · rw [if_pos k3]; exact (h.turn hok hz hr 3 h.evs).1
      · rw [if_neg k3]; exact (h.turn hok hz hr e.kd h.evs).1
  · rw [if_pos k1]; exact h.all
  · rw [if_neg k1]
    by_cases k2 : e.kd = 2
    · rw [if_pos k2]
      intro i x hx
      obtain ⟨y, hy, hle⟩ := h.all i x hx
      refine ⟨y, ?_, hle⟩
      dsimp only
      rw [List.getElem?_append_left (List.getElem?_eq_some_iff.1 hy).1]
      exact hy
    · rw [if_neg k2]
      obtain ⟨z, hz, hr⟩ := ask_run ha k1 k2
      by_cases k3 : e.kd = 3
      · rw [if_pos k3]; exact (h.turn hok hz hr 3 h.evs).2
      · rw [if_neg k3]; exact (h.turn hok hz hr e.kd h.evs).2
theorem DkLe.lay {n : Nat} {d : Dk} : ∀ (l : List Ev) (d' : Dk) (i : Nat), DkLe n d d' → DkOk d' → DkLe n d (layX d' i l).1
  | [], d', i, h, _ => h
  | e :: r, d', i, h, hok => by
    rw [layX]
    by_cases k : agE d' e = 0
    · rw [if_pos k]; exact DkLe.lay r _ _ (h.step hok k) (hok.add k)
    · rw [if_neg k]; exact h
abbrev layE (l : List Ev) : Int := (layX dk0 0 l).2.1
abbrev layP (l : List Ev) : Int := (layX dk0 0 l).2.2
abbrev layD (l : List Ev) : Dk := (layX dk0 0 l).1
/-- What a beginning is beside the whole. -/
theorem begins {l : List Ev} {n : Nat} (hn : n ≤ l.length) :
    (layE l = 0 → layE (l.take n) = 0) ∧ (layE l ≠ 0 → layP l < n → layE (l.take n) = layE l ∧ layP (l.take n) = layP l) ∧ (layE l ≠ 0 → (n : Int) ≤ layP l → layE (l.take n) = 0) ∧
    (layE l = 0 → DkLe n (layD (l.take n)) (layD l)) := by
  have h := lay_app (l.take n) (l.drop n) dk0 0
  rw [List.take_append_drop] at h
  have hlen : (l.take n).length = n := by rw [List.length_take]; omega
  have hw := lay_where (l.take n) dk0 0
  have hok := lay_ok (l.take n) dk0 0 dk0_ok
  have hw2 := lay_where (l.drop n) (layX dk0 0 (l.take n)).1 (0 + (l.take n).length)
  rw [hlen] at h hw hok hw2
  by_cases k : (layX dk0 0 (l.take n)).2.1 = 0
  · have e := h.2 k
    refine ⟨fun _ => k, fun h1 h2 => ?_, fun _ _ => k, fun h1 => ?_⟩
    · exfalso
      unfold layE at h1
      unfold layP at h2
      rw [e] at h1 h2
      have := hw2 h1
      omega
    · unfold layD
      rw [e]
      have h0 := hok.2.2 k
      have hle := DkLe.refl (layX dk0 0 (l.take n)).1
      rw [h0] at hle
      simp only [dk0] at hle
      rw [Nat.zero_add] at hle
      exact hle.lay _ _ _ hok.1
  · have e := h.1 k
    refine ⟨fun h1 => ?_, fun h1 h2 => ?_, fun h1 h2 => ?_, fun h1 => ?_⟩
    · unfold layE at h1; rw [e] at h1; exact absurd h1 k
    · unfold layE layP; rw [e]; exact ⟨rfl, rfl⟩
    · exfalso
      unfold layP at h2
      rw [e] at h2
      have := hw k
      omega
    · unfold layE at h1; rw [e] at h1; exact absurd h1 k
end Go.Proofs.YtpdbkjnaicjfdaaGreatDoor
namespace Go.Proofs.YtpdbkjnaicjfdaaGreatDoor
open Go.RowKit
set_option linter.unusedVariables false

/-- A life but for the numbers of events. -/
abbrev Core := ByteArray × Int × Bool × Bool
def core (x : Lf) : Core := (x.nm, x.ops, x.cm, decide (x.en < 0))
def turnC (kd : Int) (c : Core) : Core := if kd = 3 then (c.1, c.2.1 + 1, c.2.2.1, c.2.2.2) else (c.1, c.2.1, decide (kd = 4), false)
theorem core_turn (n : Nat) (kd : Int) (x : Lf) : core (turnL n kd x) = turnC kd (core x) := by
  unfold turnL turnC
  split
  · rfl
  · unfold core
    dsimp only
    rw [decide_eq_false (by omega : ¬ ((n : Int) < 0))]
def turnCs (kd : Int) (s : ByteArray) (l : List Core) : List Core := l.map fun c => if c.1 == s then turnC kd c else c
theorem cores_turn (n : Nat) (kd : Int) (s : ByteArray) (l : List Lf) : (turnLs n kd s l).map core = turnCs kd s (l.map core) := by
  unfold turnLs turnCs
  rw [List.map_map, List.map_map]
  apply List.map_congr_left
  intro x _
  show core (if x.nm == s then turnL n kd x else x) = if x.nm == s then turnC kd (core x) else core x
  split
  · exact core_turn ..
  · rfl
abbrev others (s : ByteArray) (l : List Lf) : List Lf := l.filter fun x => !(x.nm == s)
theorem others_turn (n : Nat) (kd : Int) (t s : ByteArray) (l : List Lf) : others s (turnLs n kd t l) = turnLs n kd t (others s l) := by
  unfold others turnLs
  rw [List.filter_map]
  congr 1
  apply List.filter_congr
  intro x _
  show (!((if x.nm == t then turnL n kd x else x).nm == s)) = _
  split
  · rw [turn_nm]
  · rfl
theorem others_self (n : Nat) (kd : Int) (s : ByteArray) (l : List Lf) : others s (turnLs n kd s l) = others s l := by
  rw [others_turn]
  unfold others turnLs
  conv => rhs; rw [← List.map_id (l.filter _)]
  apply List.map_congr_left
  intro x hx
  have h := (List.mem_filter.1 hx).2
  have : (x.nm == s) = false := by simpa using h
  rw [this]; rfl
/-- The desk of the others. -/
structure Wo (s : ByteArray) (d d' : Dk) : Prop where
  obs : d'.obs = d.obs
  evs : d'.evs ≤ d.evs
  trs : d'.trs.map core = (others s d.trs).map core
theorem find_core (l : List Lf) (t : ByteArray) : (l.find? fun x => x.nm == t).map core = (l.map core).find? fun c => c.1 == t := by
  rw [List.find?_map]; rfl
theorem Wo.find {s : ByteArray} {d d' : Dk} (h : Wo s d d') {t : ByteArray} (ht : t ≠ s) : (lfAt d' t).map core = (lfAt d t).map core := by
  unfold lfAt
  rw [find_core, find_core, h.trs, ← find_core, ← find_core]
  congr 1
  unfold others
  rw [List.find?_filter]
  congr 1
  funext x
  by_cases e : x.nm == t
  · have e' : x.nm = t := by simpa using e
    rw [e, e']
    have : (t == s) = false := by simpa using ht
    rw [this]; rfl
  · have : (x.nm == t) = false := by simpa using e
    rw [this]; simp
theorem core_run {a b : Option Lf} (h : a.map core = b.map core) {z : Lf} (hz : b = some z) (hr : z.en = -1) : ∃ y, a = some y ∧ y.en < 0 := by
  subst hz
  cases a with
  | none => cases h
  | some y =>
    refine ⟨y, rfl, ?_⟩
    have := Option.some.inj h
    have h4 := congrArg (fun c => c.2.2.2) this
    simp only [core] at h4
    rw [decide_eq_true (by omega : z.en < 0)] at h4
    simpa using h4
theorem Wo.asks {s : ByteArray} {d d' : Dk} (h : Wo s d d') (hok' : DkOk d') {e : Ev} (ha : agE d e = 0) (hk : e.kd = 1 ∨ e.nm ≠ s) : agE d' e = 0 := by
  have hall := ha
  obtain ⟨h0, ha⟩ := thenE_zero.1 ha
  obtain ⟨h1, ha⟩ := thenE_zero.1 ha
  obtain ⟨h2, ha⟩ := thenE_zero.1 ha
  obtain ⟨h3, h4⟩ := thenE_zero.1 ha
  have ho : obAt d' = obAt d := by funext t; unfold obAt; rw [h.obs]
  refine thenE_zero.2 ⟨h0, thenE_zero.2 ⟨?_, thenE_zero.2 ⟨?_, thenE_zero.2 ⟨?_, ?_⟩⟩⟩⟩
  · unfold askO at h1 ⊢
    rw [ho]
    split
    · rfl
    · rename_i k
      rw [if_neg k] at h1
      have hm := hok'.many
      have he := h.evs
      rw [h.obs] at hm ⊢
      by_cases k2 : d.obs.length < d.evs
      · rw [if_pos k2] at h1; cases h1
      · rw [if_neg k2] at h1
        rw [if_neg (by omega)]; exact h1
  · unfold askB at h2 ⊢
    split
    · rfl
    · rename_i k
      rw [if_neg k] at h2
      have k2 : e.kd = 2 := by omega
      have hne : e.nm ≠ s := by rcases hk with hk | hk; omega; exact hk
      have hf := h.find hne
      cases hz : lfAt d e.nm with
      | none =>
        rw [hz] at hf
        cases hy : lfAt d' e.nm with
        | none => rfl
        | some y => rw [hy] at hf; cases hf
      | some z => rw [hz] at h2; cases h2
  · by_cases k : e.kd = 1 ∨ e.kd = 2
    · unfold askR; rw [if_pos k]
    · have hne : e.nm ≠ s := by rcases hk with hk | hk; omega; exact hk
      obtain ⟨z, hz, hr⟩ := ask_run hall (by omega) (by omega)
      obtain ⟨y, hy, hy0⟩ := core_run (h.find hne) hz hr
      unfold askR
      rw [if_neg k, hy]
      dsimp only
      rw [if_pos]
      have hm : y ∈ d'.trs := List.mem_of_find?_eq_some hy
      have := hok'.ops y hm
      omega
  · unfold askP at h4 ⊢
    rw [ho]; exact h4
theorem Wo.take {s : ByteArray} {d d' : Dk} (h : Wo s d d') {e : Ev} (hk : e.kd = 1 ∨ e.nm ≠ s) : Wo s (takeD d e) (takeD d' e) := by
  refine ⟨?_, by rw [take_evs, take_evs]; have := h.evs; omega, ?_⟩
  · unfold takeD
    split
    · dsimp only; rw [h.obs]
    · split
      · exact h.obs
      · split <;> exact h.obs
  · unfold takeD
    by_cases k1 : e.kd = 1
    · rw [if_pos k1, if_pos k1]; exact h.trs
    · rw [if_neg k1, if_neg k1]
      have hne : e.nm ≠ s := by rcases hk with hk | hk; exact absurd hk k1; exact hk
      by_cases k2 : e.kd = 2
      · rw [if_pos k2, if_pos k2]
        dsimp only
        unfold others
        rw [List.map_append, List.filter_append, List.map_append]
        congr 1
        · exact h.trs
        · have : (e.nm == s) = false := by simpa using hne
          simp [this, core]
      · rw [if_neg k2, if_neg k2]
        have go : ∀ kd : Int, (turnLs d'.evs kd e.nm d'.trs).map core = (others s (turnLs d.evs kd e.nm d.trs)).map core := fun kd => by
          rw [others_turn, cores_turn, cores_turn, h.trs]
        by_cases k3 : e.kd = 3
        · rw [if_pos k3, if_pos k3]; exact go 3
        · rw [if_neg k3, if_neg k3]; exact go e.kd
theorem Wo.skip {s : ByteArray} {d d' : Dk} (h : Wo s d d') {e : Ev} (hk : e.kd ≠ 1) (hn : e.nm = s) : Wo s (takeD d e) d' := by
  refine ⟨?_, by rw [take_evs]; have := h.evs; omega, ?_⟩
  · unfold takeD
    rw [if_neg hk]
    split
    · exact h.obs
    · split <;> exact h.obs
  · unfold takeD
    rw [if_neg hk]
    by_cases k2 : e.kd = 2
    · rw [if_pos k2]
      dsimp only
      unfold others
      rw [List.filter_append]
      have : (e.nm == s) = true := by simpa using hn
      simp only [List.filter_cons, this]
      simpa using h.trs
    · rw [if_neg k2]
      have go : ∀ kd : Int, d'.trs.map core = (others s (turnLs d.evs kd e.nm d.trs)).map core := fun kd => by
        rw [hn, others_self]; exact h.trs
      by_cases k3 : e.kd = 3
      · rw [if_pos k3]; exact go 3
      · rw [if_neg k3]; exact go e.kd
def keepE (s : ByteArray) (e : Ev) : Bool := decide (e.kd = 1) || !(e.nm == s)
theorem Wo.lay {s : ByteArray} : ∀ (l : List Ev) (d d' : Dk) (i j : Nat), Wo s d d' → DkOk d' → (layX d i l).2.1 = 0 → (layX d' j (l.filter (keepE s))).2.1 = 0 ∧ Wo s (layX d i l).1 (layX d' j (l.filter (keepE s))).1
  | [], d, d', i, j, h, _, _ => ⟨rfl, h⟩
  | e :: r, d, d', i, j, h, hok, hf => by
    rw [layX] at hf ⊢
    by_cases k : agE d e = 0
    · rw [if_pos k] at hf ⊢
      by_cases hk : keepE s e = true
      · rw [List.filter_cons_of_pos hk]
        rw [layX]
        have hk' : e.kd = 1 ∨ e.nm ≠ s := by unfold keepE at hk; simpa using hk
        have k' := h.asks hok k hk'
        rw [if_pos k']
        exact Wo.lay r _ _ _ _ (h.take hk') (hok.add k') hf
      · rw [List.filter_cons_of_neg hk]
        have hk' : e.kd ≠ 1 ∧ e.nm = s := by unfold keepE at hk; simpa using hk
        exact Wo.lay r _ _ _ _ (h.skip hk'.1 hk'.2) hok hf
    · rw [if_neg k] at hf; exact absurd hf k
theorem others_erase : ∀ (l : List Lf) (w : Nat) (x : Lf), (l.map Lf.nm).Nodup → l[w]? = some x → others x.nm l = l.eraseIdx w
  | [], w, x, _, h => by simp at h
  | a :: r, 0, x, hn, h => by
    have e : a = x := by simpa using h
    subst e
    have hn' := List.nodup_cons.1 hn
    unfold others
    rw [List.eraseIdx_cons_zero, List.filter_cons]
    simp only [beq_self_eq_true, Bool.not_true, Bool.false_eq_true, if_false]
    rw [List.filter_eq_self]
    intro y hy
    have : y.nm ≠ a.nm := fun e => hn'.1 (e ▸ List.mem_map_of_mem hy)
    simpa using this
  | a :: r, w + 1, x, hn, h => by
    have hn' := List.nodup_cons.1 hn
    have hr : r[w]? = some x := by simpa using h
    have hne : a.nm ≠ x.nm := fun e => hn'.1 (e ▸ List.mem_map_of_mem (List.mem_of_getElem? hr))
    have ih := others_erase r w x hn'.2 hr
    unfold others at ih ⊢
    rw [List.eraseIdx_cons_succ, List.filter_cons_of_pos (by simpa using hne), ih]
/-- What the others are. -/
theorem without {l : List Ev} (hl : layE l = 0) {w : Nat} {x : Lf} (hx : (layD l).trs[w]? = some x) :
    layE (l.filter (keepE x.nm)) = 0 ∧ (layD (l.filter (keepE x.nm))).trs.length + 1 = (layD l).trs.length ∧
    ∀ (i : Nat) (y : Lf), i ≠ w → (layD l).trs[i]? = some y → ∃ z, (layD (l.filter (keepE x.nm))).trs[if w < i then i - 1 else i]? = some z ∧ core z = core y := by
  have h0 : Wo x.nm dk0 dk0 := ⟨rfl, Nat.le_refl _, rfl⟩
  have h := Wo.lay (s := x.nm) l dk0 dk0 0 0 h0 dk0_ok hl
  have hok := (lay_ok l dk0 0 dk0_ok).1
  have he := others_erase _ w x hok.trs hx
  have ht := h.2.trs
  rw [show (layX dk0 0 l).1.trs = (layD l).trs from rfl] at ht he
  rw [he] at ht
  have hwl := (List.getElem?_eq_some_iff.1 hx).1
  refine ⟨h.1, ?_, fun i y hi hy => ?_⟩
  · have := congrArg List.length ht
    rw [List.length_map, List.length_map, List.length_eraseIdx, if_pos hwl] at this
    unfold layD at this hwl ⊢
    omega
  · have key : ((layD l).trs.eraseIdx w)[if w < i then i - 1 else i]? = some y := by
      rw [List.getElem?_eraseIdx]
      by_cases k : w < i
      · rw [if_pos k, if_neg (by omega), show i - 1 + 1 = i by omega]; exact hy
      · rw [if_neg k, if_pos (by omega)]; exact hy
    have h2 := congrArg (fun m => m[if w < i then i - 1 else i]?) ht
    rw [List.getElem?_map, List.getElem?_map, key] at h2
    cases hz : (layX dk0 0 (l.filter (keepE x.nm))).1.trs[if w < i then i - 1 else i]? with
    | none => rw [hz] at h2; cases h2
    | some z =>
      rw [hz] at h2
      exact ⟨z, rfl, Option.some.inj h2⟩
end Go.Proofs.YtpdbkjnaicjfdaaGreatDoor
namespace Go.Proofs.YtpdbkjnaicjfdaaGreatDoor
open Go.RowKit
set_option linter.unusedVariables false

/-- An event that is but a name. -/
abbrev evK (k : Int) (s : ByteArray) : Ev := ⟨k, s, emB, op0, stz⟩
theorem evK_ok {k : Int} {s : ByteArray} (hk : k = 2 ∨ k = 4 ∨ k = 5) (hs : nm_checkE s = 0) : evE (evK k s) = 0 := by
  have hb : bareB (evK k s) = true := by
    unfold bareB bareA bareO
    have h1 : stzB stz = true := by decide
    have h2 : (emB == emB) = true := by simp
    have h3 : sameOpT op0 op0 = true := by decide
    simp only [h1, h2, h3, Bool.or_true, Bool.and_true]
  unfold evE
  rw [if_neg (by dsimp only; omega), if_neg (by rw [hb]; decide), if_neg (by simp [hs]), if_neg (by dsimp only; omega), if_neg (by dsimp only; omega)]
theorem over_ways {d : Dk} (h : DkOk d) {j : Nat} {x : Lf} (hx : d.trs[j]? = some x) :
    agE d (evK 2 x.nm) = 10 ∧ lfAt d x.nm = some x ∧ agE d (evK 4 x.nm) = (if x.en = -1 then 0 else 13) ∧ agE d (evK 5 x.nm) = (if x.en = -1 then 0 else 13) ∧
    (x.en = -1 → agE (takeD d (evK 4 x.nm)) (evK 5 x.nm) = 13) := by
  have hu := lf_unique h hx
  have hnm := h.tnam x (List.mem_of_getElem? hx)
  have e2 := evK_ok (k := 2) (.inl rfl) hnm
  have e4 := evK_ok (k := 4) (.inr (.inl rfl)) hnm
  have e5 := evK_ok (k := 5) (.inr (.inr rfl)) hnm
  refine ⟨?_, hu, ?_, ?_, fun hr => ?_⟩
  · unfold agE askO askB
    rw [e2]
    simp [thenE, hu]
  · unfold agE askO askB askR askP
    rw [e4]
    simp only [thenE, hu]
    split <;> simp_all
  · unfold agE askO askB askR askP
    rw [e5]
    simp only [thenE, hu]
    split <;> simp_all
  · have h2 : lfAt (takeD d (evK 4 x.nm)) x.nm = some (turnL d.evs 4 x) := by
      have e : (takeD d (evK 4 x.nm)).trs = d.trs.map fun y => if y.nm == x.nm then turnL d.evs 4 y else y := rfl
      unfold lfAt
      rw [e, List.find?_map]
      have hf : ((fun y : Lf => y.nm == x.nm) ∘ fun y => if y.nm == x.nm then turnL d.evs 4 y else y) = fun y => y.nm == x.nm := by
        funext y
        show ((if y.nm == x.nm then turnL d.evs 4 y else y).nm == x.nm) = (y.nm == x.nm)
        split
        · rw [turn_nm]
        · rfl
      rw [hf]
      unfold lfAt at hu
      rw [hu]
      simp
    unfold agE askO askB askR askP
    rw [e5, h2]
    simp [thenE, turnL]
end Go.Proofs.YtpdbkjnaicjfdaaGreatDoor
