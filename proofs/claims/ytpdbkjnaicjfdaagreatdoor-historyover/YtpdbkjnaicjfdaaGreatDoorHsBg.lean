/- Pure: a beginning of events. -/
import Derived.Test.YtpdbkjnaicjfdaaGreatDoorHsPlain
namespace Go.Proofs.YtpdbkjnaicjfdaaGreatDoor
open Go.RowKit
set_option linter.unusedVariables false

theorem lay_app : ∀ (a b : List Ev) (d : Dk) (i : Nat), ((layX d i a).2.1 ≠ 0 → layX d i (a ++ b) = layX d i a) ∧ ((layX d i a).2.1 = 0 → layX d i (a ++ b) = layX (layX d i a).1 (i + a.length) b)
  | [], b, d, i => ⟨fun h => absurd rfl h, fun _ => rfl⟩
  | e :: r, b, d, i => by
    rw [List.cons_append, layX, layX]
    by_cases h : agE d e = 0
    · rw [if_pos h, if_pos h]
      have ih := lay_app r b (takeD d e) (i + 1)
      refine ⟨ih.1, fun k => ?_⟩
      rw [ih.2 k, List.length_cons]
      congr 1
      omega
    · rw [if_neg h, if_neg h]
      exact ⟨fun _ => rfl, fun k => absurd k h⟩
theorem lay_where : ∀ (l : List Ev) (d : Dk) (i : Nat), (layX d i l).2.1 ≠ 0 → (i : Int) ≤ (layX d i l).2.2 ∧ (layX d i l).2.2 < i + l.length
  | [], d, i, h => absurd rfl h
  | e :: r, d, i, h => by
    rw [layX] at h ⊢
    by_cases k : agE d e = 0
    · rw [if_pos k] at h ⊢
      have := lay_where r (takeD d e) (i + 1) h
      rw [List.length_cons]; omega
    · rw [if_neg k] at h ⊢
      rw [List.length_cons]
      dsimp only
      omega
theorem lay_fine : ∀ (l : List Ev) (d : Dk) (i : Nat), (layX d i l).2.1 = 0 → (layX d i l).2.2 = 0
  | [], d, i, h => rfl
  | e :: r, d, i, h => by
    rw [layX] at h ⊢
    by_cases k : agE d e = 0
    · rw [if_pos k] at h ⊢; exact lay_fine r _ _ h
    · rw [if_neg k] at h; exact absurd h k
theorem lay_ok : ∀ (l : List Ev) (d : Dk) (i : Nat), DkOk d → DkOk (layX d i l).1 ∧ ((layX d i l).1.evs ≤ d.evs + l.length) ∧ ((layX d i l).2.1 = 0 → (layX d i l).1.evs = d.evs + l.length)
  | [], d, i, h => ⟨h, Nat.le_refl _, fun _ => rfl⟩
  | e :: r, d, i, h => by
    rw [layX]
    by_cases k : agE d e = 0
    · rw [if_pos k]
      have ih := lay_ok r (takeD d e) (i + 1) (h.add k)
      rw [take_evs] at ih
      rw [List.length_cons]
      refine ⟨ih.1, by have := ih.2.1; omega, fun z => by have := ih.2.2 z; omega⟩
    · rw [if_neg k]
      exact ⟨h, Nat.le_add_right _ _, fun z => absurd z k⟩
theorem lf_unique {d : Dk} (h : DkOk d) {i : Nat} {y : Lf} (hy : d.trs[i]? = some y) : lfAt d y.nm = some y := by
  unfold lfAt
  rw [find_idx Lf.nm y.nm d.trs]
  have hl := (List.getElem?_eq_some_iff.1 hy).1
  have e : (d.trs.map Lf.nm)[i]'(by simpa using hl) = y.nm := by
    rw [List.getElem_map]
    rw [List.getElem?_eq_getElem hl] at hy
    rw [Option.some.inj hy]
  have : (d.trs.map Lf.nm).idxOf y.nm = i := by
    rw [← e]
    exact h.trs.idxOf_getElem i _
  rw [this, hy]
/-- A life of a beginning beside that of the whole. -/
structure LfLe (n : Nat) (x y : Lf) : Prop where
  nm : x.nm = y.nm
  bg : x.bg = y.bg
  ops : x.ops ≤ y.ops
  same : 0 ≤ x.en → x = y
  late : x.en < 0 → 0 ≤ y.en → (n : Int) ≤ y.en
structure DkLe (n : Nat) (d d' : Dk) : Prop where
  evs : n ≤ d'.evs
  len : d.trs.length ≤ d'.trs.length
  all : ∀ (i : Nat) (x : Lf), d.trs[i]? = some x → ∃ y, d'.trs[i]? = some y ∧ LfLe n x y
theorem DkLe.refl (d : Dk) : DkLe d.evs d d := ⟨Nat.le_refl _, Nat.le_refl _, fun i x hx => ⟨x, hx, rfl, rfl, Int.le_refl _, fun _ => rfl, fun h h' => by omega⟩⟩
theorem DkLe.turn {n : Nat} {d d' : Dk} (h : DkLe n d d') (hok : DkOk d') {s : ByteArray} {z : Lf} (hz : lfAt d' s = some z) (hr : z.en = -1) (kd : Int) {m : Nat} (hm : n ≤ m) :
    d.trs.length ≤ (turnLs m kd s d'.trs).length ∧ ∀ (i : Nat) (x : Lf), d.trs[i]? = some x → ∃ y, (turnLs m kd s d'.trs)[i]? = some y ∧ LfLe n x y := by
  refine ⟨by rw [turns_len]; exact h.len, fun i x hx => ?_⟩
  obtain ⟨y, hy, hle⟩ := h.all i x hx
  unfold turnLs
  rw [List.getElem?_map, hy]
  refine ⟨_, rfl, ?_⟩
  show LfLe n x (if y.nm == s then turnL m kd y else y)
  by_cases e : y.nm == s
  · rw [if_pos e]
    have e' : y.nm = s := by simpa using e
    have hu := lf_unique hok hy
    rw [e', hz] at hu
    cases hu
    have hx0 : x.en < 0 := by
      rcases Int.lt_or_le x.en 0 with k | k
      · exact k
      · have := hle.same k
        subst this
        omega
    unfold turnL
    split
    · exact ⟨hle.nm, hle.bg, by have := hle.ops; dsimp only; omega, fun k => by omega, fun _ k => by dsimp only at k; omega⟩
    · exact ⟨hle.nm, hle.bg, hle.ops, fun k => by omega, fun _ k => by dsimp only; omega⟩
  · rw [if_neg e]; exact hle
theorem ask_run {d : Dk} {e : Ev} (h : agE d e = 0) (h1 : e.kd ≠ 1) (h2 : e.kd ≠ 2) : ∃ z, lfAt d e.nm = some z ∧ z.en = -1 := by
  obtain ⟨_, h⟩ := thenE_zero.1 h
  obtain ⟨_, h⟩ := thenE_zero.1 h
  obtain ⟨_, h⟩ := thenE_zero.1 h
  obtain ⟨h, _⟩ := thenE_zero.1 h
  unfold askR at h
  rw [if_neg (by omega)] at h
  cases hz : lfAt d e.nm with
  | none => rw [hz] at h; cases h
  | some z =>
    rw [hz] at h
    refine ⟨z, rfl, ?_⟩
    dsimp only at h
    split at h
    · assumption
    · cases h
theorem DkLe.step {n : Nat} {d d' : Dk} (h : DkLe n d d') (hok : DkOk d') {e : Ev} (ha : agE d' e = 0) : DkLe n d (takeD d' e) := by
  refine ⟨by rw [take_evs]; have := h.evs; omega, ?_, ?_⟩ <;> unfold takeD <;> by_cases k1 : e.kd = 1
  · rw [if_pos k1]; exact h.len
  · rw [if_neg k1]
    by_cases k2 : e.kd = 2
    · rw [if_pos k2]; have := h.len; dsimp only; rw [List.length_append]; omega
    · rw [if_neg k2]
      obtain ⟨z, hz, hr⟩ := ask_run ha k1 k2
      by_cases k3 : e.kd = 3
      · rw [if_pos k3]; exact (h.turn hok hz hr 3 h.evs).1
      · rw [if_neg k3]; exact (h.turn hok hz hr e.kd h.evs).1
  · rw [if_pos k1]; exact h.all
  · rw [if_neg k1]
    by_cases k2 : e.kd = 2
    · rw [if_pos k2]
      intro i x hx
      obtain ⟨y, hy, hle⟩ := h.all i x hx
      refine ⟨y, ?_, hle⟩
      dsimp only
      rw [List.getElem?_append_left (List.getElem?_eq_some_iff.1 hy).1]
      exact hy
    · rw [if_neg k2]
      obtain ⟨z, hz, hr⟩ := ask_run ha k1 k2
      by_cases k3 : e.kd = 3
      · rw [if_pos k3]; exact (h.turn hok hz hr 3 h.evs).2
      · rw [if_neg k3]; exact (h.turn hok hz hr e.kd h.evs).2
theorem DkLe.lay {n : Nat} {d : Dk} : ∀ (l : List Ev) (d' : Dk) (i : Nat), DkLe n d d' → DkOk d' → DkLe n d (layX d' i l).1
  | [], d', i, h, _ => h
  | e :: r, d', i, h, hok => by
    rw [layX]
    by_cases k : agE d' e = 0
    · rw [if_pos k]; exact DkLe.lay r _ _ (h.step hok k) (hok.add k)
    · rw [if_neg k]; exact h
abbrev layE (l : List Ev) : Int := (layX dk0 0 l).2.1
abbrev layP (l : List Ev) : Int := (layX dk0 0 l).2.2
abbrev layD (l : List Ev) : Dk := (layX dk0 0 l).1
/-- What a beginning is beside the whole. -/
theorem begins {l : List Ev} {n : Nat} (hn : n ≤ l.length) :
    (layE l = 0 → layE (l.take n) = 0) ∧ (layE l ≠ 0 → layP l < n → layE (l.take n) = layE l ∧ layP (l.take n) = layP l) ∧ (layE l ≠ 0 → (n : Int) ≤ layP l → layE (l.take n) = 0) ∧
    (layE l = 0 → DkLe n (layD (l.take n)) (layD l)) := by
  have h := lay_app (l.take n) (l.drop n) dk0 0
  rw [List.take_append_drop] at h
  have hlen : (l.take n).length = n := by rw [List.length_take]; omega
  have hw := lay_where (l.take n) dk0 0
  have hok := lay_ok (l.take n) dk0 0 dk0_ok
  have hw2 := lay_where (l.drop n) (layX dk0 0 (l.take n)).1 (0 + (l.take n).length)
  rw [hlen] at h hw hok hw2
  by_cases k : (layX dk0 0 (l.take n)).2.1 = 0
  · have e := h.2 k
    refine ⟨fun _ => k, fun h1 h2 => ?_, fun _ _ => k, fun h1 => ?_⟩
    · exfalso
      unfold layE at h1
      unfold layP at h2
      rw [e] at h1 h2
      have := hw2 h1
      omega
    · unfold layD
      rw [e]
      have h0 := hok.2.2 k
      have hle := DkLe.refl (layX dk0 0 (l.take n)).1
      rw [h0] at hle
      simp only [dk0] at hle
      rw [Nat.zero_add] at hle
      exact hle.lay _ _ _ hok.1
  · have e := h.1 k
    refine ⟨fun h1 => ?_, fun h1 h2 => ?_, fun h1 h2 => ?_, fun h1 => ?_⟩
    · unfold layE at h1; rw [e] at h1; exact absurd h1 k
    · unfold layE layP; rw [e]; exact ⟨rfl, rfl⟩
    · exfalso
      unfold layP at h2
      rw [e] at h2
      have := hw k
      omega
    · unfold layE at h1; rw [e] at h1; exact absurd h1 k
end Go.Proofs.YtpdbkjnaicjfdaaGreatDoor
