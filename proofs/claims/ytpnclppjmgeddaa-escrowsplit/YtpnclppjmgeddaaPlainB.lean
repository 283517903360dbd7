/- Texts of numbers and back: plain lists. -/
import Derived.Test.YtpnclppjmgeddaaOpBase
import Derived.Test.YtpnclppjmgeddaaPlain
namespace Go.Proofs.Ytpnclppjmgeddaa
open Go.RowKit

def ub (x : Int) : UInt8 := UInt8.ofNat x.toNat
theorem ub_nat (d : Nat) (h : d < 10) : (ub (48 + (d : Int))).toNat = 48 + d := by
  unfold ub
  have e : (48 + (d : Int)).toNat = 48 + d := by omega
  rw [e, UInt8.toNat_ofNat', Nat.mod_eq_of_lt (by omega)]
theorem ub_mod (m : Nat) : (ub (48 + (m : Int) % 10)).toNat = 48 + m % 10 := by
  have := ub_nat (m % 10) (by omega)
  rw [show (48 + (m : Int) % 10) = 48 + ((m % 10 : Nat) : Int) by omega]; exact this

/-- The digits of m, the first one first. -/
def dsf (f m : Nat) : List UInt8 := (dr f m).reverse.map ub
theorem dsf_small (f m : Nat) (h : m < 10) : dsf (f + 1) m = [ub (48 + (m : Int) % 10)] := by unfold dsf; rw [dr_small f m h]; rfl
theorem dsf_great (f m : Nat) (h : ¬ m < 10) : dsf (f + 1) m = dsf f (m / 10) ++ [ub (48 + (m : Int) % 10)] := by
  unfold dsf; rw [dr_great f m h, List.reverse_cons, List.map_append]; rfl

theorem dsf_val : ∀ (f m : Nat), m < 10 ^ f → 0 < f → val (dsf f m) = m
  | 0, _, _, h => absurd h (by omega)
  | f + 1, m, hm, _ => by
    by_cases h : m < 10
    · rw [dsf_small f m h]
      show 0 * 10 + ((ub (48 + (m : Int) % 10)).toNat - 48) = m
      rw [ub_mod]; omega
    · rw [dsf_great f m h, val_snoc, ub_mod]
      have hf : 0 < f := by
        rcases Nat.eq_zero_or_pos f with rfl | hf
        · simp at hm; omega
        · exact hf
      rw [dsf_val f (m / 10) (by rw [Nat.pow_succ] at hm; exact Nat.div_lt_of_lt_mul (by rw [Nat.mul_comm]; exact hm)) hf]
      omega
theorem dsf_digits (f m : Nat) : ∀ c ∈ dsf f m, isD c = true := by
  intro c hc
  unfold dsf at hc
  obtain ⟨x, hx, rfl⟩ := List.mem_map.1 hc
  obtain ⟨h1, h2⟩ := dr_bd f m x (List.mem_reverse.1 hx)
  have := ub_nat (x - 48).toNat (by omega)
  rw [show (48 + (((x - 48).toNat : Nat) : Int)) = x by omega] at this
  exact isD_of (by omega) (by omega)
theorem dsf_pos (f m : Nat) : 1 ≤ (dsf (f + 1) m).length := by unfold dsf; have := dr_pos f m; simpa using this
theorem dsf_len : ∀ (f k m : Nat), m < 10 ^ k → 1 ≤ k → (dsf f m).length ≤ k
  | 0, k, m, _, _ => by simp [dsf, dr]
  | f + 1, k, m, hm, hk => by
    by_cases h : m < 10
    · rw [dsf_small f m h]; simpa using hk
    · rw [dsf_great f m h]
      obtain ⟨k', rfl⟩ : ∃ k', k = k' + 1 := ⟨k - 1, by omega⟩
      have hk' : 1 ≤ k' := by
        rcases Nat.eq_zero_or_pos k' with rfl | hf
        · simp at hm; omega
        · exact hf
      have := dsf_len f k' (m / 10) (by rw [Nat.pow_succ] at hm; exact Nat.div_lt_of_lt_mul (by rw [Nat.mul_comm]; exact hm)) hk'
      simp; omega
theorem dsf_head : ∀ (f m : Nat), m < 10 ^ f → 1 ≤ m → ∃ c r, dsf f m = c :: r ∧ c.toNat ≠ 48
  | 0, m, hm, h1 => by simp at hm; omega
  | f + 1, m, hm, h1 => by
    by_cases h : m < 10
    · exact ⟨_, [], dsf_small f m h, by rw [ub_mod]; omega⟩
    · obtain ⟨c, r, e, hc⟩ := dsf_head f (m / 10) (by rw [Nat.pow_succ] at hm; exact Nat.div_lt_of_lt_mul (by rw [Nat.mul_comm]; exact hm)) (by omega)
      exact ⟨c, r ++ [ub (48 + (m : Int) % 10)], by rw [dsf_great f m h, e]; rfl, hc⟩

/-- Digits without a nought ahead, unless it is all. -/
def Good (l : List UInt8) : Prop := (∀ c ∈ l, isD c = true) ∧ 1 ≤ l.length ∧ (l.length = 1 ∨ ∀ c r, l = c :: r → c.toNat ≠ 48)

theorem val_head (c : UInt8) (r : List UInt8) : c.toNat - 48 ≤ val (c :: r) := by
  show c.toNat - 48 ≤ valF (0 * 10 + (c.toNat - 48)) r
  rw [Nat.zero_mul, Nat.zero_add]; exact valF_le _ _

theorem good_dsf : ∀ (f : Nat) (l : List UInt8), Good l → l.length ≤ f → dsf f (val l) = l
  | 0, l, h, hl => by have := h.2.1; omega
  | f + 1, l, h, hl => by
    obtain ⟨h1, h2, h3⟩ := h
    rcases List.eq_nil_or_concat l with rfl | ⟨l', c, e⟩
    · simp at h2
    · rw [List.concat_eq_append] at e
      subst e
      have hc := isD_iff (h1 c (by simp))
      rw [val_snoc]
      have hub : ∀ d : Nat, d = c.toNat - 48 → ub (48 + (d : Int)) = c := fun d hd => UInt8.toNat_inj.1 (by rw [ub_nat d (by omega)]; omega)
      rcases Nat.eq_zero_or_pos l'.length with h0 | h0
      · obtain rfl : l' = [] := List.eq_nil_of_length_eq_zero h0
        have e0 : val [] = 0 := rfl
        rw [e0, dsf_small f _ (by omega)]
        have := hub (c.toNat - 48) rfl
        rw [show ((0 * 10 + (c.toNat - 48) : Nat) : Int) % 10 = ((c.toNat - 48 : Nat) : Int) by omega, this]; rfl
      · have h3' : ∀ d r, l' ++ [c] = d :: r → d.toNat ≠ 48 := by
          rcases h3 with h3 | h3
          · rw [List.length_append, List.length_singleton] at h3; omega
          · exact h3
        obtain ⟨d, r, e⟩ : ∃ d r, l' = d :: r := by
          cases l' with
          | nil => simp at h0
          | cons d r => exact ⟨d, r, rfl⟩
        have hd := h3' d (r ++ [c]) (by rw [e]; rfl)
        have hdd := isD_iff (h1 d (by rw [e]; simp))
        have hv : 1 ≤ val l' := by have := val_head d r; rw [← e] at this; omega
        rw [dsf_great f _ (by omega)]
        have e1 : (val l' * 10 + (c.toNat - 48)) / 10 = val l' := by omega
        rw [e1, good_dsf f l' ⟨fun x hx => h1 x (by simp [hx]), h0, .inr fun x y hxy => by
          rw [e] at hxy; injection hxy with hx hy; rw [← hx]; exact hd⟩ (by simp at hl; omega)]
        have := hub (c.toNat - 48) rfl
        rw [show ((val l' * 10 + (c.toNat - 48) : Nat) : Int) % 10 = ((c.toNat - 48 : Nat) : Int) by omega, this]

theorem putL_is (n : Int) : putL n = (if n < 0 then [45] else []) ++ dsf 20 n.natAbs := by
  unfold putL putI dsf ub
  split <;> simp

theorem takeWhile_full {p : UInt8 → Bool} : ∀ (l : List UInt8), (∀ c ∈ l, p c = true) → (l.takeWhile p).length = l.length
  | [], _ => rfl
  | d :: r, h => by
    rw [List.takeWhile_cons, if_pos (h d (by simp))]
    simp only [List.length_cons]
    rw [takeWhile_full r (fun c hc => h c (by simp [hc]))]
theorem dtk_good (l : List UInt8) (b : Bool) (h : Good l) (hb : b = true → ∀ c r, l = c :: r → c.toNat ≠ 48) : dtk l b = l.length := by
  unfold dtk; split
  · rename_i r
    cases b with
    | false =>
      rcases h.2.2 with h' | h'
      · simp; simpa using h'
      · exact absurd rfl (h' 48 r rfl)
    | true => exact absurd rfl (hb rfl 48 r rfl)
  · exact takeWhile_full l h.1
theorem good_of_dtk (l : List UInt8) (b : Bool) (h : dtk l b = l.length) (hp : 1 ≤ l.length) : Good l ∧ (b = true → ∀ c r, l = c :: r → c.toNat ≠ 48) := by
  have hd := dtk_all l b h
  have key : ∀ c r, l = c :: r → c.toNat = 48 → b = false ∧ r = [] := by
    intro c r e hc
    have : c = 48 := UInt8.toNat_inj.1 (by simpa using hc)
    subst this; subst e
    cases b with
    | false => exact ⟨rfl, List.eq_nil_of_length_eq_zero (by have : (1 : Nat) = r.length + 1 := h; omega)⟩
    | true => have : (0 : Nat) = r.length + 1 := h; omega
  refine ⟨⟨hd, hp, ?_⟩, fun hb c r e hc => by have := (key c r e hc).1; rw [hb] at this; cases this⟩
  by_cases h1 : l.length = 1
  · exact .inl h1
  · refine .inr fun c r e hc => h1 ?_
    have := (key c r e hc).2
    rw [e, this]; rfl

theorem sgn_digit (c : UInt8) (r : List UInt8) (h : isD c = true) : sgn (c :: r) = 0 := by
  unfold sgn; split
  · rename_i h'; injection h' with h1 _; rw [h1] at h; exact absurd h (by decide)
  · rfl
theorem sgn_cases (l : List UInt8) : (sgn l = 0) ∨ (sgn l = 1 ∧ ∃ r, l = 45 :: r) := by
  unfold sgn; split
  · rename_i r; exact .inr ⟨rfl, r, rfl⟩
  · exact .inl rfl

theorem pow19 : (10 : Nat) ^ 19 = 10000000000000000000 := by decide
theorem pow20 : (10 : Nat) ^ 20 = 100000000000000000000 := by decide

/-- What is put is got. -/
theorem get_put (n : Int) (h1 : -9223372036854775808 ≤ n) (h2 : n ≤ 9223372036854775807) : getN (putL n) = n ∧ getE (putL n) = 0 ∧ getP (putL n) = 0 := by
  have hm : n.natAbs < 10 ^ 19 := by rw [pow19]; omega
  have hm20 : n.natAbs < 10 ^ 20 := by rw [pow20]; omega
  have hlen := dsf_len 20 19 n.natAbs hm (by omega)
  have hlen1 : n.natAbs = 0 → (dsf 20 n.natAbs).length ≤ 1 := fun h0 => dsf_len 20 1 n.natAbs (by rw [h0]; decide) (by omega)
  have hpos : 1 ≤ (dsf 20 n.natAbs).length := dsf_pos 19 n.natAbs
  have hdig := dsf_digits 20 n.natAbs
  have hval := dsf_val 20 n.natAbs hm20 (by omega)
  have hhead := dsf_head 20 n.natAbs hm20
  rw [putL_is]
  generalize dsf 20 n.natAbs = D at *
  have hne : n.natAbs ≠ 0 → ∀ c r, D = c :: r → c.toNat ≠ 48 := by
    intro h0 c r e
    obtain ⟨c', r', e', hc'⟩ := hhead (by omega)
    rw [e] at e'; injection e' with e1 _; rw [e1]; exact hc'
  clear hhead
  by_cases hneg : n < 0
  · rw [if_pos hneg]
    have hne' := hne (by omega)
    have hs : sgn ([45] ++ D) = 1 := rfl
    have hd1 : List.drop 1 ([45] ++ D) = D := rfl
    have hdt : dtk D true = D.length := dtk_good D _ ⟨hdig, hpos, .inr hne'⟩ (fun _ => hne')
    have hat : getAt ([45] ++ D) = 1 + D.length := by
      unfold getAt; rw [hs, hd1, show decide (0 < 1) = true from rfl, hdt]
    have hl : ([45] ++ D).length = 1 + D.length := by simp; omega
    have hmo : n.natAbs ≤ 9223372036854775808 := by omega
    have hok := signN_ok D true (by rw [hval, most_true]; exact hmo)
    rw [hval] at hok
    have hg := get_num ([45] ++ D) (by rw [hl]; omega) (by rw [hl, hat, hs]; omega)
    rw [hs, hd1, show decide (0 < 1) = true from rfl, hok.1, hok.2] at hg
    refine ⟨by rw [hg.1, if_pos rfl]; omega, by rw [hg.2.1]; rfl, hg.2.2⟩
  · rw [if_neg hneg, List.nil_append]
    obtain ⟨c, r, e⟩ : ∃ c r, D = c :: r := by
      cases D with
      | nil => simp at hpos
      | cons c r => exact ⟨c, r, rfl⟩
    have hs : sgn D = 0 := by rw [e]; exact sgn_digit c r (hdig c (by rw [e]; simp))
    have hG : Good D := by
      refine ⟨hdig, hpos, ?_⟩
      by_cases h0 : n.natAbs = 0
      · have := hlen1 h0
        left; omega
      · exact .inr (hne h0)
    have hdt : dtk D false = D.length := dtk_good D _ hG (fun h => by cases h)
    have hat : getAt D = D.length := by
      unfold getAt; rw [hs, List.drop_zero, show decide (0 < 0) = false from rfl, hdt, Nat.zero_add]
    have hmo : n.natAbs ≤ 9223372036854775807 := by omega
    have hok := signN_ok D false (by rw [hval, most_false]; exact hmo)
    rw [hval] at hok
    have hg := get_num D (by omega) (by rw [hat, hs]; omega)
    rw [hs, List.drop_zero, show decide (0 < 0) = false from rfl, hok.1, hok.2] at hg
    refine ⟨by rw [hg.1, if_neg (by simp)]; omega, by rw [hg.2.1]; rfl, hg.2.2⟩

/-- What is got is put as it was. -/
theorem put_get (l : List UInt8) (h : getE l = 0) : putL (getN l) = l ∧ -9223372036854775808 ≤ getN l ∧ getN l ≤ 9223372036854775807 := by
  by_cases h20 : 20 < l.length
  · have := (get_long l h20).2.1; omega
  by_cases hf : getAt l < l.length ∨ getAt l = sgn l
  · have := (get_form l h20 hf).2.1; omega
  obtain ⟨g1, g2, _⟩ := get_num l h20 hf
  rw [h] at g2
  obtain ⟨hs1, hs2⟩ := sgn_le l
  have hle := dtk_le (l.drop (sgn l)) (decide (0 < sgn l))
  rw [List.length_drop] at hle
  have hat : getAt l = sgn l + dtk (l.drop (sgn l)) (decide (0 < sgn l)) := rfl
  have hdt : dtk (l.drop (sgn l)) (decide (0 < sgn l)) = (l.drop (sgn l)).length := by rw [List.length_drop]; omega
  have hpos : 1 ≤ (l.drop (sgn l)).length := by rw [List.length_drop]; omega
  obtain ⟨hG, hb⟩ := good_of_dtk _ _ hdt hpos
  have hB : signB (l.drop (sgn l)) (decide (0 < sgn l)) = true := by
    by_cases hB : signB (l.drop (sgn l)) (decide (0 < sgn l)) = true
    · exact hB
    · rw [if_neg hB] at g2; omega
  have hv : val (l.drop (sgn l)) ≤ most (decide (0 < sgn l)) := of_decide_eq_true hB
  have hback := good_dsf 20 (l.drop (sgn l)) hG (by rw [List.length_drop]; omega)
  rw [g1, (signN_ok _ _ hv).1]
  rcases sgn_cases l with hs | ⟨hs, r, e⟩
  · rw [hs] at hv hback ⊢
    rw [List.drop_zero] at hv hback ⊢
    rw [show decide (0 < 0) = false from rfl] at hv ⊢
    rw [most_false] at hv
    rw [if_neg (by simp)]
    refine ⟨?_, by omega, by omega⟩
    rw [putL_is, if_neg (by omega), Int.natAbs_natCast, hback]; rfl
  · rw [hs] at hv hback hb hG ⊢
    have hd : List.drop 1 l = r := by rw [e]; rfl
    rw [hd] at hv hback hb hG ⊢
    rw [show decide (0 < 1) = true from rfl] at hv hb ⊢
    rw [most_true] at hv
    rw [if_pos rfl]
    have hv1 : 1 ≤ val r := by
      obtain ⟨c, r', e'⟩ : ∃ c r', r = c :: r' := by
        cases r with
        | nil => have := hG.2.1; simp at this
        | cons c r' => exact ⟨c, r', rfl⟩
      have h1 := hb rfl c r' e'
      have h2 := isD_iff (hG.1 c (by rw [e']; simp))
      have h3 := val_head c r'
      rw [← e'] at h3; omega
    refine ⟨?_, by omega, by omega⟩
    rw [putL_is, if_pos (by omega), Int.natAbs_neg, Int.natAbs_natCast, hback, e]; rfl

/-- Of what is no number's text nothing is told but where. -/
theorem get_not (l : List UInt8) (h : getE l ≠ 0) : getN l = 0 ∧ (l.length ≤ 20 → 0 ≤ getP l ∧ getP l ≤ l.length) ∧ (20 < l.length → getP l = 20) := by
  by_cases h20 : 20 < l.length
  · obtain ⟨h1, _, h3⟩ := get_long l h20
    exact ⟨h1, fun h => by omega, fun _ => h3⟩
  by_cases hf : getAt l < l.length ∨ getAt l = sgn l
  · obtain ⟨h1, _, h3⟩ := get_form l h20 hf
    have hs := sgn_le l
    exact ⟨h1, fun _ => by rw [h3]; omega, fun h => absurd h h20⟩
  · obtain ⟨h1, h2, h3⟩ := get_num l h20 hf
    have hB : signB (l.drop (sgn l)) (decide (0 < sgn l)) = false := by
      cases hB : signB (l.drop (sgn l)) (decide (0 < sgn l)) with
      | false => rfl
      | true => rw [hB, if_pos rfl] at h2; exact absurd h2 h
    exact ⟨by rw [h1]; exact signN_zero _ _ hB, fun _ => by rw [h3]; omega, fun h => absurd h h20⟩
end Go.Proofs.Ytpnclppjmgeddaa
