/- Texts of earlier stages over this seat, joined: StP StPp. -/
import Derived.Test.YtpdbkjnaicjfdaaGreatDoorGs
set_option maxRecDepth 100000
namespace Go.Proofs.YtpdbkjnaicjfdaaGreatDoor
open Go.RowKit
set_option linter.unusedVariables false

theorem be_succ (s : Nat) (n : Int) : be (s + 1) n = be s (n / 256) ++ [n % 256] := by
  unfold be
  rw [List.range_succ, List.map_append]
  congr 1
  · apply List.map_congr_left
    intro k hk
    have hk' := List.mem_range.1 hk
    unfold beB
    rw [show s + 1 - 1 - k = (s - 1 - k) + 1 by omega, Int.pow_succ, Int.mul_comm, ← Int.ediv_ediv_of_nonneg (by omega)]
  · unfold beB; simp
theorem be_oct (s : Nat) (n : Int) : Octets (be s n) := fun x hx => by
  unfold be at hx
  obtain ⟨k, _, rfl⟩ := List.mem_map.1 hx
  unfold beB
  omega
theorem un_be_mod : ∀ (s : Nat) (n : Int), ∃ q : Int, n = q * 256 ^ s + unN (be s n)
  | 0, n => ⟨n, by simp [be, unN]⟩
  | s + 1, n => by
    obtain ⟨q, hq⟩ := un_be_mod s (n / 256)
    refine ⟨q, ?_⟩
    rw [be_succ, un_snoc, Int.pow_succ, ← Int.mul_assoc]
    generalize unN (be s (n / 256)) = u at *
    generalize q * 256 ^ s = z at *
    omega
theorem un_be (s : Nat) (n : Int) : unN (be s n) = n % 256 ^ s := by
  obtain ⟨q, hq⟩ := un_be_mod s n
  have hb := un_bd (be s n) (be_oct s n)
  rw [be_len] at hb
  generalize unN (be s n) = u at *
  have hp : (0 : Int) < 256 ^ s := Int.lt_of_le_of_lt hb.1 hb.2
  rw [hq, Int.add_comm, Int.add_mul_emod_self_right, Int.emod_eq_of_lt hb.1 hb.2]
/-- s octets are the bytes of the number that they are. -/
theorem be_un : ∀ (s : Nat) (l : List Int), l.length = s → Octets l → be s (unN l) = l
  | 0, l, h, _ => by rw [List.length_eq_zero_iff.1 h]; rfl
  | s + 1, l, h, ho => by
    have hne : l ≠ [] := by intro e; rw [e] at h; simp at h
    obtain ⟨d, x, rfl⟩ : ∃ d x, l = d ++ [x] := ⟨l.dropLast, l.getLast hne, (List.dropLast_concat_getLast hne).symm⟩
    have hx := ho x (by simp)
    have hd : Octets d := fun y hy => ho y (List.mem_append_left _ hy)
    rw [be_succ, un_snoc]
    have e1 : (unN d * 256 + x) / 256 = unN d := by omega
    have e2 : (unN d * 256 + x) % 256 = x := by omega
    rw [e1, e2, be_un s d (by simpa using h) hd]
theorem be_cong {s : Nat} {a b : Int} (h : a % 256 ^ s = b % 256 ^ s) : be s a = be s b := by
  have h1 := be_un s (be s a) (be_len _ _) (be_oct _ _)
  have h2 := be_un s (be s b) (be_len _ _) (be_oct _ _)
  rw [← h1, ← h2, un_be, un_be, h]
theorem be_wrap (x : Int) : be 8 (wrap64 x) = be 8 x := by
  apply be_cong
  have e : (256 : Int) ^ 8 = 18446744073709551616 := by decide
  rw [e]; unfold wrap64; omega
theorem wrap_be {n : Int} (h : Small n) : wrap64 (unN (be 8 n)) = n := by
  rw [un_be]
  have e : (256 : Int) ^ 8 = 18446744073709551616 := by decide
  rw [e]
  obtain ⟨h1, h2⟩ := h
  unfold wrap64; omega

theorem num_at (a b c : List Int) (k i : Nat) (hi : i = a.length) (hk : k = b.length) : numAt (a ++ b ++ c) i k = wrap64 (unN b) := by
  subst hi hk
  unfold numAt
  rw [List.append_assoc, List.drop_left, List.take_left]
theorem flat_at : ∀ (l : List Int) (a : List Int) (i : Nat) (hi : i < l.length), (∀ x ∈ l, Small x) → numAt (a ++ l.flatMap (be 8)) (a.length + 8 * i) 8 = l[i]
  | x :: r, a, 0, _, h => by
    rw [List.flatMap_cons, ← List.append_assoc, num_at a (be 8 x) _ 8 _ (by simp) (be_len _ _).symm, wrap_be (h x (by simp))]; rfl
  | x :: r, a, i + 1, hi, h => by
    rw [List.flatMap_cons, ← List.append_assoc]
    have := flat_at r (a ++ be 8 x) i (by simp at hi; omega) (fun y hy => h y (List.mem_cons_of_mem _ hy))
    rw [List.length_append, be_len] at this
    rw [show a.length + 8 * (i + 1) = a.length + 8 + 8 * i by omega, this]; rfl

theorem dec_enc {t n : Int} {l : List Int} (hc : st_checkE t n l = 0) (hn : Small n) (hs : ∀ x ∈ l, Small x) (hl : l.length ≤ 1000) :
    decT (encL t n l) = t ∧ decN (encL t n l) = n ∧ decL (encL t n l) = l ∧ decOk (encL t n l) = true := by
  obtain ⟨h1, h5, _⟩ := check_ok hc
  have e1 : decT (encL t n l) = t := by
    unfold decT encL
    rw [List.append_assoc, List.append_assoc]
    have := num_at [] (be 1 t) (be 8 n ++ (be 4 l.length ++ l.flatMap (be 8))) 1 0 rfl (be_len _ _).symm
    rw [List.nil_append] at this
    rw [this, un_be]
    unfold wrap64; omega
  have e2 : decN (encL t n l) = n := by
    unfold decN encL
    rw [List.append_assoc]
    rw [num_at (be 1 t) (be 8 n) _ 8 1 (be_len _ _).symm (be_len _ _).symm, wrap_be hn]
  have e4 : numAt (encL t n l) 9 4 = l.length := by
    unfold encL
    rw [num_at (be 1 t ++ be 8 n) (be 4 l.length) _ 4 9 (by rw [List.length_append, be_len, be_len]) (be_len _ _).symm, un_be]
    have e : (256 : Int) ^ 4 = 4294967296 := by decide
    rw [e]; unfold wrap64; omega
  have e3 : decL (encL t n l) = l := by
    unfold decL decTo
    rw [enc_len]
    apply List.ext_getElem
    · simp
    · intro i h1 h2
      rw [List.getElem_map, List.getElem_range]
      have := flat_at l (be 1 t ++ be 8 n ++ be 4 l.length) i h2 hs
      rw [List.length_append, List.length_append, be_len, be_len, be_len] at this
      exact this
  refine ⟨e1, e2, e3, ?_⟩
  unfold decOk measB
  rw [e1, e2, e3, hc, e4, enc_len]
  simp
  omega

theorem flat_chunks : ∀ (k : Nat) (b : List Int), b.length = 8 * k → Octets b → ((List.range k).map fun i => numAt b (8 * i) 8).flatMap (be 8) = b
  | 0, b, h, _ => by
    have hb : b = [] := List.length_eq_zero_iff.1 (by omega)
    rw [hb]; rfl
  | k + 1, b, h, ho => by
    have ih := flat_chunks k (b.drop 8) (by rw [List.length_drop]; omega) (fun x hx => ho x (List.mem_of_mem_drop hx))
    rw [List.range_succ_eq_map, List.map_cons, List.flatMap_cons, List.map_map]
    have e1 : be 8 (numAt b (8 * 0) 8) = b.take 8 := by
      unfold numAt
      rw [be_wrap, Nat.mul_zero, List.drop_zero]
      exact be_un 8 _ (by rw [List.length_take]; omega) (fun x hx => ho x (List.mem_of_mem_take hx))
    have e2 : (List.map ((fun i => numAt b (8 * i) 8) ∘ Nat.succ) (List.range k)) = (List.range k).map fun i => numAt (b.drop 8) (8 * i) 8 := by
      apply List.map_congr_left
      intro i _
      show numAt b (8 * (i + 1)) 8 = _
      unfold numAt
      rw [List.drop_drop, show 8 + 8 * i = 8 * (i + 1) by omega]
    rw [e1, e2, ih, List.take_append_drop]
theorem enc_dec {b : List Int} (h : decOk b = true) (ho : Octets b) : encL (decT b) (decN b) (decL b) = b ∧ st_checkE (decT b) (decN b) (decL b) = 0 := by
  unfold decOk measB at h
  simp only [Bool.and_eq_true, decide_eq_true_eq, beq_iff_eq] at h
  obtain ⟨⟨h13, hm⟩, hc⟩ := h
  refine ⟨?_, hc⟩
  have h4 := numAt_four ho 9
  obtain ⟨K, hK⟩ : ∃ K : Nat, b.length = 13 + 8 * K := ⟨(numAt b 9 4).toNat, by omega⟩
  have e4 : numAt b 9 4 = K := by omega
  have hdl : (decL b).length = K := by unfold decL; rw [decTo_len, hK]; omega
  have p1 : be 1 (decT b) = b.take 1 := by
    have h1 := un_bd (b.take 1) (fun x hx => ho x (List.mem_of_mem_take hx))
    have hl1 : (b.take 1).length = 1 := by rw [List.length_take]; omega
    rw [hl1] at h1
    unfold decT numAt
    rw [List.drop_zero, wrap64_id (by omega) (by omega)]
    exact be_un 1 _ hl1 (fun x hx => ho x (List.mem_of_mem_take hx))
  have p2 : be 8 (decN b) = (b.drop 1).take 8 := by
    unfold decN numAt
    rw [be_wrap]
    exact be_un 8 _ (by rw [List.length_take, List.length_drop]; omega) (fun x hx => ho x (List.mem_of_mem_drop (List.mem_of_mem_take hx)))
  have p3 : be 4 ((decL b).length : Int) = (b.drop 9).take 4 := by
    rw [hdl, ← e4]
    have h1 := un_four (l := (b.drop 9).take 4) (fun x hx => ho x (List.mem_of_mem_drop (List.mem_of_mem_take hx))) (by rw [List.length_take]; omega)
    unfold numAt
    rw [wrap64_id (by omega) (by omega)]
    exact be_un 4 _ (by rw [List.length_take, List.length_drop]; omega) (fun x hx => ho x (List.mem_of_mem_drop (List.mem_of_mem_take hx)))
  have p4 : (decL b).flatMap (be 8) = b.drop 13 := by
    have := flat_chunks K (b.drop 13) (by rw [List.length_drop]; omega) (fun x hx => ho x (List.mem_of_mem_drop hx))
    rw [← this]
    unfold decL decTo
    rw [show (b.length - 13) / 8 = K by omega]
    congr 1
    apply List.map_congr_left
    intro i _
    unfold numAt
    rw [List.drop_drop]
  unfold encL
  rw [p1, p2, p3, p4]
  have s1 : b.drop 13 = (b.drop 9).drop 4 := by rw [List.drop_drop]
  have s2 : b.drop 9 = (b.drop 1).drop 8 := by rw [List.drop_drop]
  rw [List.append_assoc, s1, List.take_append_drop, List.append_assoc, s2, List.take_append_drop, List.take_append_drop]
theorem dec_small {b : List Int} : Small (decN b) ∧ ∀ x ∈ decL b, Small x := by
  have hw : ∀ x, Small (wrap64 x) := fun x => by unfold Small wrap64; omega
  refine ⟨hw _, fun x hx => ?_⟩
  unfold decL decTo at hx
  obtain ⟨i, _, rfl⟩ := List.mem_map.1 hx
  exact hw _
end Go.Proofs.YtpdbkjnaicjfdaaGreatDoor

namespace Go.Proofs.YtpdbkjnaicjfdaaGreatDoor
open Go.RowKit
set_option linter.unusedVariables false

/-- Nothing, or a space first. -/
def SpaceHead (r : List UInt8) : Prop := r = [] ∨ ∃ q, r = 32 :: q
theorem part_app {a r : List UInt8} (ha : ∀ x ∈ a, x ≠ 32) (hr : SpaceHead r) : partL (a ++ r) = a := by
  induction a with
  | nil =>
    rcases hr with rfl | ⟨q, rfl⟩
    · rfl
    · simp [partL]
  | cons x a ih =>
    have hx := ha x (by simp)
    have e : partL ((x :: a) ++ r) = x :: partL (a ++ r) := by simp [partL, hx]
    rw [e, ih (fun y hy => ha y (List.mem_cons_of_mem _ hy))]
theorem part_drop (s : List UInt8) : SpaceHead (s.drop (partL s).length) := by
  induction s with
  | nil => exact .inl rfl
  | cons x r ih =>
    by_cases h : x = 32
    · subst h
      exact .inr ⟨r, by simp [partL]⟩
    · have e : partL (x :: r) = x :: partL r := by simp [partL, h]
      rw [e, List.length_cons, List.drop_succ_cons]; exact ih
theorem part_split (s : List UInt8) : partL s ++ s.drop (partL s).length = s := by
  have h := part_take s
  conv => lhs; arg 1; rw [h]
  exact List.take_append_drop _ _
theorem txtOf_head (l : List Int) : SpaceHead (txtOf l) := by
  cases l with
  | nil => exact .inl rfl
  | cons x r => exact .inr ⟨putL x ++ txtOf r, rfl⟩
theorem put_nosp (n : Int) : ∀ x ∈ putL n, x ≠ 32 := by
  intro x hx
  rw [putL_is, List.mem_append] at hx
  rcases hx with h | h
  · split at h
    · simp at h; subst h; decide
    · cases h
  · have := isD_iff (dsf_digits 20 n.natAbs x h)
    intro e; subst e; have : (32 : UInt8).toNat = 32 := rfl; omega
theorem word_nosp : ∀ k, ∀ x ∈ wordL k, x ≠ 32
  | 0 => by decide
  | 1 => by decide
  | 2 => by decide
  | 3 => by decide
  | 4 => by decide
  | 5 => by decide
  | k + 6 => by intro x hx; cases hx

theorem beh_txt : ∀ (l : List Int) (f k : Nat) (acc : List Int), l.length < f → (∀ x ∈ l, Small x) → behindL f (txtOf l) k acc = (acc ++ l, 0, 0)
  | [], f, k, acc, h, _ => by
    cases f with
    | zero => omega
    | succ f => simp [txtOf, behindL]
  | x :: r, f, k, acc, h, hs => by
    cases f with
    | zero => omega
    | succ f =>
      obtain ⟨g1, g2⟩ := hs x (by simp)
      have gp := get_put x g1 g2
      have e : txtOf (x :: r) = 32 :: (putL x ++ txtOf r) := rfl
      have hp : partL (putL x ++ txtOf r) = putL x := part_app (put_nosp x) (txtOf_head r)
      rw [e]
      show (if getE (partL (putL x ++ txtOf r)) = 0 then _ else _) = _
      rw [hp, if_pos gp.2.1, List.drop_left, gp.1, beh_txt r f _ _ (by simp at h; omega) (fun y hy => hs y (List.mem_cons_of_mem _ hy))]
      simp
theorem txt_len (l : List Int) : l.length ≤ (txtOf l).length := by
  induction l with
  | nil => simp
  | cons x r ih =>
    have e : txtOf (x :: r) = 32 :: (putL x ++ txtOf r) := rfl
    rw [e]; simp; omega
theorem type_of_word : ∀ k, 1 ≤ k → k ≤ 5 → typeL (wordL k) = k
  | 1, _, _ => rfl
  | 2, _, _ => rfl
  | 3, _, _ => rfl
  | 4, _, _ => rfl
  | 5, _, _ => rfl
theorem fits_single {t n : Int} {l : List Int} (hs : singB t = true) (hf : fitsB t n l = true) : l = [] := by
  unfold singB at hs
  simp at hs
  unfold fitsB at hf
  rcases hs with rfl | rfl
  · simpa using hf
  · simp at hf; exact hf.1.1
theorem fits_many {t n : Int} {l : List Int} (hs : singB t = false) (h1 : 1 ≤ t) (h5 : t ≤ 5) (hf : fitsB t n l = true) : n = 0 := by
  unfold singB at hs
  simp at hs
  obtain rfl | rfl | rfl : t = 2 ∨ t = 3 ∨ t = 4 := by omega
  all_goals (unfold fitsB at hf; simp at hf)
  · exact hf.1
  · exact hf.1.1
  · exact hf
theorem of_told {t n : Int} {l : List Int} (hc : st_checkE t n l = 0) : ofNums t (numsOf t n l) = ((t, n, l), true) := by
  obtain ⟨h1, h5, hf⟩ := check_ok hc
  unfold ofNums numsOf
  cases hs : singB t
  · have := fits_many hs h1 h5 hf
    subst this
    simp [hc]
  · have := fits_single hs hf
    subst this
    simp [hc]
theorem nums_small {t n : Int} {l : List Int} (hn : Small n) (hs : ∀ x ∈ l, Small x) : ∀ x ∈ numsOf t n l, Small x := by
  unfold numsOf; split
  · intro x hx; simp at hx; subst hx; exact hn
  · exact hs
theorem st_read_told {t n : Int} {l : List Int} (hc : st_checkE t n l = 0) (hn : Small n) (hs : ∀ x ∈ l, Small x) : readL (txtL t n l) = ((t, n, l), 0, 0) := by
  obtain ⟨h1, h5, _⟩ := check_ok hc
  obtain ⟨k, rfl⟩ := Int.eq_ofNat_of_zero_le (show 0 ≤ t by omega)
  have hp : partL (txtL k n l) = wordL k := by
    unfold txtL; rw [Int.toNat_natCast]; exact part_app (word_nosp k) (txtOf_head _)
  have ht : typeL (partL (txtL k n l)) = k := by rw [hp]; exact type_of_word k (by omega) (by omega)
  have hb : behindR (txtL k n l) (partL (txtL k n l)).length = (numsOf k n l, 0, 0) := by
    unfold behindR
    rw [hp]
    have : (txtL k n l).drop (wordL k).length = txtOf (numsOf k n l) := by unfold txtL; rw [Int.toNat_natCast, List.drop_left]
    rw [this, beh_txt _ _ _ _ ?_ (nums_small hn hs)]
    · simp
    · have := txt_len (numsOf k n l)
      unfold txtL; rw [List.length_append]; omega
  have ho := of_told hc
  rw [read_yes (by rw [ht]; omega) (by rw [hb]) (by rw [ht, hb, ho])]
  rw [ht, hb, ho]

theorem beh_told : ∀ (f : Nat) (r : List UInt8) (k : Nat) (acc L : List Int), r.length < f → SpaceHead r → behindL f r k acc = (L, 0, 0) → ∃ ns, L = acc ++ ns ∧ r = txtOf ns ∧ ∀ x ∈ ns, Small x
  | 0, r, _, _, _, h, _, _ => by omega
  | f + 1, [], k, acc, L, _, _, h => by
    unfold behindL at h
    injection h with h1 _
    exact ⟨[], by simp [h1], rfl, fun _ h => by cases h⟩
  | f + 1, x :: r, k, acc, L, hl, hh, h => by
    obtain ⟨q, hq⟩ : ∃ q, x :: r = 32 :: q := by
      rcases hh with h0 | h0
      · cases h0
      · exact h0
    injection hq with hx hr
    subst hx hr
    unfold behindL at h
    split at h
    · next he =>
      have hple := part_le r
      obtain ⟨ns, e1, e2, e3⟩ := beh_told f _ _ _ _ (by rw [List.length_drop]; simp at hl; omega) (part_drop r) h
      have hg := put_get (partL r) he
      refine ⟨getN (partL r) :: ns, by rw [e1]; simp, ?_, ?_⟩
      · have : txtOf (getN (partL r) :: ns) = 32 :: (putL (getN (partL r)) ++ txtOf ns) := rfl
        rw [this, hg.1, ← e2, part_split]
      · intro y hy
        rcases List.mem_cons.1 hy with rfl | hy
        · exact ⟨hg.2.1, hg.2.2⟩
        · exact e3 y hy
    · next he =>
      injection h with _ h2
      injection h2 with h3 _
      exact absurd h3 he
theorem told_read {s : List UInt8} {t n : Int} {l : List Int} (h : readL s = ((t, n, l), 0, 0)) : txtL t n l = s ∧ st_checkE t n l = 0 ∧ Small n ∧ ∀ x ∈ l, Small x := by
  have h1 : typeL (partL s) ≠ 0 := fun e => by rw [read_none e] at h; cases h
  by_cases h2 : (behindR s (partL s).length).2.1 = 0
  · cases h3 : (ofNums (typeL (partL s)) (behindR s (partL s).length).1).2
    · rw [read_no h1 h2 h3] at h; cases h
    · rw [read_yes h1 h2 h3] at h
      have hst : (ofNums (typeL (partL s)) (behindR s (partL s).length).1).1 = (t, n, l) := by injection h
      have hw := type_word h1
      obtain ⟨L, hL⟩ : ∃ L, (behindR s (partL s).length).1 = L := ⟨_, rfl⟩
      have h22 : ∃ P, behindR s (partL s).length = (L, 0, P) := ⟨(behindR s (partL s).length).2.2, by rw [← hL, ← h2]⟩
      obtain ⟨P, hP⟩ := h22
      have hP0 : P = 0 := by
        have : ∀ (f : Nat) (r : List UInt8) (k : Nat) (acc L : List Int) (P : Int), behindL f r k acc = (L, 0, P) → P = 0 := by
          intro f
          induction f with
          | zero => intro r k acc L P h; unfold behindL at h; injection h with _ h; injection h with _ h; exact h.symm
          | succ f ih =>
            intro r k acc L P h
            cases r with
            | nil => unfold behindL at h; injection h with _ h; injection h with _ h; exact h.symm
            | cons x r =>
              unfold behindL at h
              split at h
              · exact ih _ _ _ _ _ h
              · next he => injection h with _ h; injection h with h _; exact absurd h he
        exact this _ _ _ _ _ _ hP
      subst hP0
      unfold behindR at hP
      obtain ⟨ns, e1, e2, e3⟩ := beh_told _ _ _ _ _ (by rw [List.length_drop]; omega) (part_drop s) hP
      rw [List.nil_append] at e1
      subst e1
      rw [hL] at hst h3
      have hs : wordL (typeL (partL s)) ++ txtOf L = s := by rw [← hw, ← e2]; exact part_split s
      generalize typeL (partL s) = k at *
      unfold ofNums at hst h3
      cases hsg : singB (k : Int)
      · rw [hsg] at hst h3
        simp only [Bool.false_eq_true, if_false] at hst h3
        injection hst with a1 a2
        injection a2 with a3 a4
        subst a1 a3 a4
        refine ⟨?_, by simpa using h3, by unfold Small; decide, e3⟩
        unfold txtL numsOf
        rw [hsg, Int.toNat_natCast]; exact hs
      · rw [hsg] at hst h3
        simp only [if_true] at hst h3
        by_cases hl1 : L.length = 1
        · rw [if_pos hl1] at hst h3
          obtain ⟨x, rfl⟩ : ∃ x, L = [x] := by
            match L, hl1 with
            | [x], _ => exact ⟨x, rfl⟩
          injection hst with a1 a2
          injection a2 with a3 a4
          simp at a3
          subst a1 a3 a4
          refine ⟨?_, by simpa using h3, e3 _ (by simp), fun _ h => by cases h⟩
          unfold txtL numsOf
          rw [hsg, Int.toNat_natCast]; exact hs
        · rw [if_neg hl1] at h3; cases h3
  · rw [read_bad h1 h2] at h
    injection h with _ h
    injection h with h _
    exact absurd h h2

theorem beh_at : ∀ (f : Nat) (r : List UInt8) (k : Nat) (acc : List Int), (behindL f r k acc).2.1 ≠ 0 → 0 ≤ (behindL f r k acc).2.2 ∧ (behindL f r k acc).2.2 ≤ k + r.length
  | 0, r, k, acc, h => by unfold behindL at h; exact absurd rfl h
  | f + 1, [], k, acc, h => by unfold behindL at h; exact absurd rfl h
  | f + 1, x :: r, k, acc, h => by
    unfold behindL at h ⊢
    have hple := part_le r
    split
    · next he =>
      rw [if_pos he] at h
      have := beh_at f _ _ _ h
      rw [List.length_drop] at this
      simp only [List.length_cons]
      omega
    · next he =>
      have hg := get_not (partL r) he
      simp only [List.length_cons]
      rcases Nat.lt_or_ge 20 (partL r).length with h20 | h20
      · have := hg.2.2 h20; omega
      · have := hg.2.1 h20; omega
theorem read_at {s : List UInt8} (h : (readL s).2.1 ≠ 0) : 0 ≤ (readL s).2.2 ∧ (readL s).2.2 ≤ s.length := by
  by_cases h1 : typeL (partL s) = 0
  · rw [read_none h1]; simp
  · by_cases h2 : (behindR s (partL s).length).2.1 = 0
    · cases h3 : (ofNums (typeL (partL s)) (behindR s (partL s).length).1).2
      · rw [read_no h1 h2 h3]; simp
      · rw [read_yes h1 h2 h3] at h; exact absurd rfl h
    · rw [read_bad h1 h2]
      have := beh_at (s.length + 1) (s.drop (partL s).length) (partL s).length [] h2
      have hple := part_le s
      rw [List.length_drop] at this
      unfold behindR
      constructor
      · exact this.1
      · exact Int.le_trans this.2 (by omega)
end Go.Proofs.YtpdbkjnaicjfdaaGreatDoor
