/- Pure: what is told is read as it was, and what is read is told as it was. -/
import Derived.Test.YtbenfdbjpefegaaDoorStP
namespace Go.Proofs.YtbenfdbjpefegaaDoor
open Go.RowKit
set_option linter.unusedVariables false

/-- Nothing, or a space first. -/
def SpaceHead (r : List UInt8) : Prop := r = [] ∨ ∃ q, r = 32 :: q
theorem part_app {a r : List UInt8} (ha : ∀ x ∈ a, x ≠ 32) (hr : SpaceHead r) : partL (a ++ r) = a := by
  induction a with
  | nil =>
    rcases hr with rfl | ⟨q, rfl⟩
    · rfl
    · simp [partL]
  | cons x a ih =>
    have hx := ha x (by simp)
    have e : partL ((x :: a) ++ r) = x :: partL (a ++ r) := by simp [partL, hx]
    rw [e, ih (fun y hy => ha y (List.mem_cons_of_mem _ hy))]
theorem part_drop (s : List UInt8) : SpaceHead (s.drop (partL s).length) := by
  induction s with
  | nil => exact .inl rfl
  | cons x r ih =>
    by_cases h : x = 32
    · subst h
      exact .inr ⟨r, by simp [partL]⟩
    · have e : partL (x :: r) = x :: partL r := by simp [partL, h]
      rw [e, List.length_cons, List.drop_succ_cons]; exact ih
theorem part_split (s : List UInt8) : partL s ++ s.drop (partL s).length = s := by
  have h := part_take s
  conv => lhs; arg 1; rw [h]
  exact List.take_append_drop _ _
theorem txtOf_head (l : List Int) : SpaceHead (txtOf l) := by
  cases l with
  | nil => exact .inl rfl
  | cons x r => exact .inr ⟨putL x ++ txtOf r, rfl⟩
theorem put_nosp (n : Int) : ∀ x ∈ putL n, x ≠ 32 := by
  intro x hx
  rw [putL_is, List.mem_append] at hx
  rcases hx with h | h
  · split at h
    · simp at h; subst h; decide
    · cases h
  · have := isD_iff (dsf_digits 20 n.natAbs x h)
    intro e; subst e; have : (32 : UInt8).toNat = 32 := rfl; omega
theorem word_nosp : ∀ k, ∀ x ∈ wordL k, x ≠ 32
  | 0 => by decide
  | 1 => by decide
  | 2 => by decide
  | 3 => by decide
  | 4 => by decide
  | 5 => by decide
  | k + 6 => by intro x hx; cases hx

theorem beh_txt : ∀ (l : List Int) (f k : Nat) (acc : List Int), l.length < f → (∀ x ∈ l, Small x) → behindL f (txtOf l) k acc = (acc ++ l, 0, 0)
  | [], f, k, acc, h, _ => by
    cases f with
    | zero => omega
    | succ f => simp [txtOf, behindL]
  | x :: r, f, k, acc, h, hs => by
    cases f with
    | zero => omega
    | succ f =>
      obtain ⟨g1, g2⟩ := hs x (by simp)
      have gp := get_put x g1 g2
      have e : txtOf (x :: r) = 32 :: (putL x ++ txtOf r) := rfl
      have hp : partL (putL x ++ txtOf r) = putL x := part_app (put_nosp x) (txtOf_head r)
      rw [e]
      show (if getE (partL (putL x ++ txtOf r)) = 0 then _ else _) = _
      rw [hp, if_pos gp.2.1, List.drop_left, gp.1, beh_txt r f _ _ (by simp at h; omega) (fun y hy => hs y (List.mem_cons_of_mem _ hy))]
      simp
theorem txt_len (l : List Int) : l.length ≤ (txtOf l).length := by
  induction l with
  | nil => simp
  | cons x r ih =>
    have e : txtOf (x :: r) = 32 :: (putL x ++ txtOf r) := rfl
    rw [e]; simp; omega
theorem type_of_word : ∀ k, 1 ≤ k → k ≤ 5 → typeL (wordL k) = k
  | 1, _, _ => rfl
  | 2, _, _ => rfl
  | 3, _, _ => rfl
  | 4, _, _ => rfl
  | 5, _, _ => rfl
theorem fits_single {t n : Int} {l : List Int} (hs : singB t = true) (hf : fitsB t n l = true) : l = [] := by
  unfold singB at hs
  simp at hs
  unfold fitsB at hf
  rcases hs with rfl | rfl
  · simpa using hf
  · simp at hf; exact hf.1.1
theorem fits_many {t n : Int} {l : List Int} (hs : singB t = false) (h1 : 1 ≤ t) (h5 : t ≤ 5) (hf : fitsB t n l = true) : n = 0 := by
  unfold singB at hs
  simp at hs
  obtain rfl | rfl | rfl : t = 2 ∨ t = 3 ∨ t = 4 := by omega
  all_goals (unfold fitsB at hf; simp at hf)
  · exact hf.1
  · exact hf.1.1
  · exact hf
theorem of_told {t n : Int} {l : List Int} (hc : checkE t n l = 0) : ofNums t (numsOf t n l) = ((t, n, l), true) := by
  obtain ⟨h1, h5, hf⟩ := check_ok hc
  unfold ofNums numsOf
  cases hs : singB t
  · have := fits_many hs h1 h5 hf
    subst this
    simp [hc]
  · have := fits_single hs hf
    subst this
    simp [hc]
theorem nums_small {t n : Int} {l : List Int} (hn : Small n) (hs : ∀ x ∈ l, Small x) : ∀ x ∈ numsOf t n l, Small x := by
  unfold numsOf; split
  · intro x hx; simp at hx; subst hx; exact hn
  · exact hs
theorem read_told {t n : Int} {l : List Int} (hc : checkE t n l = 0) (hn : Small n) (hs : ∀ x ∈ l, Small x) : readL (txtL t n l) = ((t, n, l), 0, 0) := by
  obtain ⟨h1, h5, _⟩ := check_ok hc
  obtain ⟨k, rfl⟩ := Int.eq_ofNat_of_zero_le (show 0 ≤ t by omega)
  have hp : partL (txtL k n l) = wordL k := by
    unfold txtL; rw [Int.toNat_natCast]; exact part_app (word_nosp k) (txtOf_head _)
  have ht : typeL (partL (txtL k n l)) = k := by rw [hp]; exact type_of_word k (by omega) (by omega)
  have hb : behindR (txtL k n l) (partL (txtL k n l)).length = (numsOf k n l, 0, 0) := by
    unfold behindR
    rw [hp]
    have : (txtL k n l).drop (wordL k).length = txtOf (numsOf k n l) := by unfold txtL; rw [Int.toNat_natCast, List.drop_left]
    rw [this, beh_txt _ _ _ _ ?_ (nums_small hn hs)]
    · simp
    · have := txt_len (numsOf k n l)
      unfold txtL; rw [List.length_append]; omega
  have ho := of_told hc
  rw [read_yes (by rw [ht]; omega) (by rw [hb]) (by rw [ht, hb, ho])]
  rw [ht, hb, ho]

theorem beh_told : ∀ (f : Nat) (r : List UInt8) (k : Nat) (acc L : List Int), r.length < f → SpaceHead r → behindL f r k acc = (L, 0, 0) → ∃ ns, L = acc ++ ns ∧ r = txtOf ns ∧ ∀ x ∈ ns, Small x
  | 0, r, _, _, _, h, _, _ => by omega
  | f + 1, [], k, acc, L, _, _, h => by
    unfold behindL at h
    injection h with h1 _
    exact ⟨[], by simp [h1], rfl, fun _ h => by cases h⟩
  | f + 1, x :: r, k, acc, L, hl, hh, h => by
    obtain ⟨q, hq⟩ : ∃ q, x :: r = 32 :: q := by
      rcases hh with h0 | h0
      · cases h0
      · exact h0
    injection hq with hx hr
    subst hx hr
    unfold behindL at h
    split at h
    · next he =>
      have hple := part_le r
      obtain ⟨ns, e1, e2, e3⟩ := beh_told f _ _ _ _ (by rw [List.length_drop]; simp at hl; omega) (part_drop r) h
      have hg := put_get (partL r) he
      refine ⟨getN (partL r) :: ns, by rw [e1]; simp, ?_, ?_⟩
      · have : txtOf (getN (partL r) :: ns) = 32 :: (putL (getN (partL r)) ++ txtOf ns) := rfl
        rw [this, hg.1, ← e2, part_split]
      · intro y hy
        rcases List.mem_cons.1 hy with rfl | hy
        · exact ⟨hg.2.1, hg.2.2⟩
        · exact e3 y hy
    · next he =>
      injection h with _ h2
      injection h2 with h3 _
      exact absurd h3 he
theorem told_read {s : List UInt8} {t n : Int} {l : List Int} (h : readL s = ((t, n, l), 0, 0)) : txtL t n l = s ∧ checkE t n l = 0 ∧ Small n ∧ ∀ x ∈ l, Small x := by
  have h1 : typeL (partL s) ≠ 0 := fun e => by rw [read_none e] at h; cases h
  by_cases h2 : (behindR s (partL s).length).2.1 = 0
  · cases h3 : (ofNums (typeL (partL s)) (behindR s (partL s).length).1).2
    · rw [read_no h1 h2 h3] at h; cases h
    · rw [read_yes h1 h2 h3] at h
      have hst : (ofNums (typeL (partL s)) (behindR s (partL s).length).1).1 = (t, n, l) := by injection h
      have hw := type_word h1
      obtain ⟨L, hL⟩ : ∃ L, (behindR s (partL s).length).1 = L := ⟨_, rfl⟩
      have h22 : ∃ P, behindR s (partL s).length = (L, 0, P) := ⟨(behindR s (partL s).length).2.2, by rw [← hL, ← h2]⟩
      obtain ⟨P, hP⟩ := h22
      have hP0 : P = 0 := by
        have : ∀ (f : Nat) (r : List UInt8) (k : Nat) (acc L : List Int) (P : Int), behindL f r k acc = (L, 0, P) → P = 0 := by
          intro f
          induction f with
          | zero => intro r k acc L P h; unfold behindL at h; injection h with _ h; injection h with _ h; exact h.symm
          | succ f ih =>
            intro r k acc L P h
            cases r with
            | nil => unfold behindL at h; injection h with _ h; injection h with _ h; exact h.symm
            | cons x r =>
              unfold behindL at h
              split at h
              · exact ih _ _ _ _ _ h
              · next he => injection h with _ h; injection h with h _; exact absurd h he
        exact this _ _ _ _ _ _ hP
      subst hP0
      unfold behindR at hP
      obtain ⟨ns, e1, e2, e3⟩ := beh_told _ _ _ _ _ (by rw [List.length_drop]; omega) (part_drop s) hP
      rw [List.nil_append] at e1
      subst e1
      rw [hL] at hst h3
      have hs : wordL (typeL (partL s)) ++ txtOf L = s := by rw [← hw, ← e2]; exact part_split s
      generalize typeL (partL s) = k at *
      unfold ofNums at hst h3
      cases hsg : singB (k : Int)
      · rw [hsg] at hst h3
        simp only [Bool.false_eq_true, if_false] at hst h3
        injection hst with a1 a2
        injection a2 with a3 a4
        subst a1 a3 a4
        refine ⟨?_, by simpa using h3, by unfold Small; decide, e3⟩
        unfold txtL numsOf
        rw [hsg, Int.toNat_natCast]; exact hs
      · rw [hsg] at hst h3
        simp only [if_true] at hst h3
        by_cases hl1 : L.length = 1
        · rw [if_pos hl1] at hst h3
          obtain ⟨x, rfl⟩ : ∃ x, L = [x] := by
            match L, hl1 with
            | [x], _ => exact ⟨x, rfl⟩
          injection hst with a1 a2
          injection a2 with a3 a4
          simp at a3
          subst a1 a3 a4
          refine ⟨?_, by simpa using h3, e3 _ (by simp), fun _ h => by cases h⟩
          unfold txtL numsOf
          rw [hsg, Int.toNat_natCast]; exact hs
        · rw [if_neg hl1] at h3; cases h3
  · rw [read_bad h1 h2] at h
    injection h with _ h
    injection h with h _
    exact absurd h h2

theorem beh_at : ∀ (f : Nat) (r : List UInt8) (k : Nat) (acc : List Int), (behindL f r k acc).2.1 ≠ 0 → 0 ≤ (behindL f r k acc).2.2 ∧ (behindL f r k acc).2.2 ≤ k + r.length
  | 0, r, k, acc, h => by unfold behindL at h; exact absurd rfl h
  | f + 1, [], k, acc, h => by unfold behindL at h; exact absurd rfl h
  | f + 1, x :: r, k, acc, h => by
    unfold behindL at h ⊢
    have hple := part_le r
    split
    · next he =>
      rw [if_pos he] at h
      have := beh_at f _ _ _ h
      rw [List.length_drop] at this
      simp only [List.length_cons]
      omega
    · next he =>
      have hg := get_not (partL r) he
      simp only [List.length_cons]
      rcases Nat.lt_or_ge 20 (partL r).length with h20 | h20
      · have := hg.2.2 h20; omega
      · have := hg.2.1 h20; omega
theorem read_at {s : List UInt8} (h : (readL s).2.1 ≠ 0) : 0 ≤ (readL s).2.2 ∧ (readL s).2.2 ≤ s.length := by
  by_cases h1 : typeL (partL s) = 0
  · rw [read_none h1]; simp
  · by_cases h2 : (behindR s (partL s).length).2.1 = 0
    · cases h3 : (ofNums (typeL (partL s)) (behindR s (partL s).length).1).2
      · rw [read_no h1 h2 h3]; simp
      · rw [read_yes h1 h2 h3] at h; exact absurd rfl h
    · rw [read_bad h1 h2]
      have := beh_at (s.length + 1) (s.drop (partL s).length) (partL s).length [] h2
      have hple := part_le s
      rw [List.length_drop] at this
      unfold behindR
      constructor
      · exact this.1
      · exact Int.le_trans this.2 (by omega)
end Go.Proofs.YtbenfdbjpefegaaDoor
