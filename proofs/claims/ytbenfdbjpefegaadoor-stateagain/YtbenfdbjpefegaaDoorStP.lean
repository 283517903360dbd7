/- Pure: what is encoded is decoded, what is told is read, and the other way about. -/
import Derived.Test.YtbenfdbjpefegaaDoorStM
import Derived.Test.YtbenfdbjpefegaaDoorStJ
namespace Go.Proofs.YtbenfdbjpefegaaDoor
open Go.RowKit
set_option linter.unusedVariables false

theorem be_succ (s : Nat) (n : Int) : be (s + 1) n = be s (n / 256) ++ [n % 256] := by
  unfold be
  rw [List.range_succ, List.map_append]
  congr 1
  · apply List.map_congr_left
    intro k hk
    have hk' := List.mem_range.1 hk
    unfold beB
    rw [show s + 1 - 1 - k = (s - 1 - k) + 1 by omega, Int.pow_succ, Int.mul_comm, ← Int.ediv_ediv_of_nonneg (by omega)]
  · unfold beB; simp
theorem be_oct (s : Nat) (n : Int) : Octets (be s n) := fun x hx => by
  unfold be at hx
  obtain ⟨k, _, rfl⟩ := List.mem_map.1 hx
  unfold beB
  omega
theorem un_be_mod : ∀ (s : Nat) (n : Int), ∃ q : Int, n = q * 256 ^ s + unN (be s n)
  | 0, n => ⟨n, by simp [be, unN]⟩
  | s + 1, n => by
    obtain ⟨q, hq⟩ := un_be_mod s (n / 256)
    refine ⟨q, ?_⟩
    rw [be_succ, un_snoc, Int.pow_succ, ← Int.mul_assoc]
    generalize unN (be s (n / 256)) = u at *
    generalize q * 256 ^ s = z at *
    omega
theorem un_be (s : Nat) (n : Int) : unN (be s n) = n % 256 ^ s := by
  obtain ⟨q, hq⟩ := un_be_mod s n
  have hb := un_bd (be s n) (be_oct s n)
  rw [be_len] at hb
  generalize unN (be s n) = u at *
  have hp : (0 : Int) < 256 ^ s := Int.lt_of_le_of_lt hb.1 hb.2
  rw [hq, Int.add_comm, Int.add_mul_emod_self_right, Int.emod_eq_of_lt hb.1 hb.2]
/-- s octets are the bytes of the number that they are. -/
theorem be_un : ∀ (s : Nat) (l : List Int), l.length = s → Octets l → be s (unN l) = l
  | 0, l, h, _ => by rw [List.length_eq_zero_iff.1 h]; rfl
  | s + 1, l, h, ho => by
    have hne : l ≠ [] := by intro e; rw [e] at h; simp at h
    obtain ⟨d, x, rfl⟩ : ∃ d x, l = d ++ [x] := ⟨l.dropLast, l.getLast hne, (List.dropLast_concat_getLast hne).symm⟩
    have hx := ho x (by simp)
    have hd : Octets d := fun y hy => ho y (List.mem_append_left _ hy)
    rw [be_succ, un_snoc]
    have e1 : (unN d * 256 + x) / 256 = unN d := by omega
    have e2 : (unN d * 256 + x) % 256 = x := by omega
    rw [e1, e2, be_un s d (by simpa using h) hd]
theorem be_cong {s : Nat} {a b : Int} (h : a % 256 ^ s = b % 256 ^ s) : be s a = be s b := by
  have h1 := be_un s (be s a) (be_len _ _) (be_oct _ _)
  have h2 := be_un s (be s b) (be_len _ _) (be_oct _ _)
  rw [← h1, ← h2, un_be, un_be, h]
theorem be_wrap (x : Int) : be 8 (wrap64 x) = be 8 x := by
  apply be_cong
  have e : (256 : Int) ^ 8 = 18446744073709551616 := by decide
  rw [e]; unfold wrap64; omega
theorem wrap_be {n : Int} (h : Small n) : wrap64 (unN (be 8 n)) = n := by
  rw [un_be]
  have e : (256 : Int) ^ 8 = 18446744073709551616 := by decide
  rw [e]
  obtain ⟨h1, h2⟩ := h
  unfold wrap64; omega

theorem num_at (a b c : List Int) (k i : Nat) (hi : i = a.length) (hk : k = b.length) : numAt (a ++ b ++ c) i k = wrap64 (unN b) := by
  subst hi hk
  unfold numAt
  rw [List.append_assoc, List.drop_left, List.take_left]
theorem flat_at : ∀ (l : List Int) (a : List Int) (i : Nat) (hi : i < l.length), (∀ x ∈ l, Small x) → numAt (a ++ l.flatMap (be 8)) (a.length + 8 * i) 8 = l[i]
  | x :: r, a, 0, _, h => by
    rw [List.flatMap_cons, ← List.append_assoc, num_at a (be 8 x) _ 8 _ (by simp) (be_len _ _).symm, wrap_be (h x (by simp))]; rfl
  | x :: r, a, i + 1, hi, h => by
    rw [List.flatMap_cons, ← List.append_assoc]
    have := flat_at r (a ++ be 8 x) i (by simp at hi; omega) (fun y hy => h y (List.mem_cons_of_mem _ hy))
    rw [List.length_append, be_len] at this
    rw [show a.length + 8 * (i + 1) = a.length + 8 + 8 * i by omega, this]; rfl

theorem dec_enc {t n : Int} {l : List Int} (hc : checkE t n l = 0) (hn : Small n) (hs : ∀ x ∈ l, Small x) (hl : l.length ≤ 1000) :
    decT (encL t n l) = t ∧ decN (encL t n l) = n ∧ decL (encL t n l) = l ∧ decOk (encL t n l) = true := by
  obtain ⟨h1, h5, _⟩ := check_ok hc
  have e1 : decT (encL t n l) = t := by
    unfold decT encL
    rw [List.append_assoc, List.append_assoc]
    have := num_at [] (be 1 t) (be 8 n ++ (be 4 l.length ++ l.flatMap (be 8))) 1 0 rfl (be_len _ _).symm
    rw [List.nil_append] at this
    rw [this, un_be]
    unfold wrap64; omega
  have e2 : decN (encL t n l) = n := by
    unfold decN encL
    rw [List.append_assoc]
    rw [num_at (be 1 t) (be 8 n) _ 8 1 (be_len _ _).symm (be_len _ _).symm, wrap_be hn]
  have e4 : numAt (encL t n l) 9 4 = l.length := by
    unfold encL
    rw [num_at (be 1 t ++ be 8 n) (be 4 l.length) _ 4 9 (by rw [List.length_append, be_len, be_len]) (be_len _ _).symm, un_be]
    have e : (256 : Int) ^ 4 = 4294967296 := by decide
    rw [e]; unfold wrap64; omega
  have e3 : decL (encL t n l) = l := by
    unfold decL decTo
    rw [enc_len]
    apply List.ext_getElem
    · simp
    · intro i h1 h2
      rw [List.getElem_map, List.getElem_range]
      have := flat_at l (be 1 t ++ be 8 n ++ be 4 l.length) i h2 hs
      rw [List.length_append, List.length_append, be_len, be_len, be_len] at this
      exact this
  refine ⟨e1, e2, e3, ?_⟩
  unfold decOk measB
  rw [e1, e2, e3, hc, e4, enc_len]
  simp
  omega

theorem flat_chunks : ∀ (k : Nat) (b : List Int), b.length = 8 * k → Octets b → ((List.range k).map fun i => numAt b (8 * i) 8).flatMap (be 8) = b
  | 0, b, h, _ => by
    have hb : b = [] := List.length_eq_zero_iff.1 (by omega)
    rw [hb]; rfl
  | k + 1, b, h, ho => by
    have ih := flat_chunks k (b.drop 8) (by rw [List.length_drop]; omega) (fun x hx => ho x (List.mem_of_mem_drop hx))
    rw [List.range_succ_eq_map, List.map_cons, List.flatMap_cons, List.map_map]
    have e1 : be 8 (numAt b (8 * 0) 8) = b.take 8 := by
      unfold numAt
      rw [be_wrap, Nat.mul_zero, List.drop_zero]
      exact be_un 8 _ (by rw [List.length_take]; omega) (fun x hx => ho x (List.mem_of_mem_take hx))
    have e2 : (List.map ((fun i => numAt b (8 * i) 8) ∘ Nat.succ) (List.range k)) = (List.range k).map fun i => numAt (b.drop 8) (8 * i) 8 := by
      apply List.map_congr_left
      intro i _
      show numAt b (8 * (i + 1)) 8 = _
      unfold numAt
      rw [List.drop_drop, show 8 + 8 * i = 8 * (i + 1) by omega]
    rw [e1, e2, ih, List.take_append_drop]
theorem enc_dec {b : List Int} (h : decOk b = true) (ho : Octets b) : encL (decT b) (decN b) (decL b) = b ∧ checkE (decT b) (decN b) (decL b) = 0 := by
  unfold decOk measB at h
  simp only [Bool.and_eq_true, decide_eq_true_eq, beq_iff_eq] at h
  obtain ⟨⟨h13, hm⟩, hc⟩ := h
  refine ⟨?_, hc⟩
  have h4 := numAt_four ho 9
  obtain ⟨K, hK⟩ : ∃ K : Nat, b.length = 13 + 8 * K := ⟨(numAt b 9 4).toNat, by omega⟩
  have e4 : numAt b 9 4 = K := by omega
  have hdl : (decL b).length = K := by unfold decL; rw [decTo_len, hK]; omega
  have p1 : be 1 (decT b) = b.take 1 := by
    have h1 := un_bd (b.take 1) (fun x hx => ho x (List.mem_of_mem_take hx))
    have hl1 : (b.take 1).length = 1 := by rw [List.length_take]; omega
    rw [hl1] at h1
    unfold decT numAt
    rw [List.drop_zero, wrap64_id (by omega) (by omega)]
    exact be_un 1 _ hl1 (fun x hx => ho x (List.mem_of_mem_take hx))
  have p2 : be 8 (decN b) = (b.drop 1).take 8 := by
    unfold decN numAt
    rw [be_wrap]
    exact be_un 8 _ (by rw [List.length_take, List.length_drop]; omega) (fun x hx => ho x (List.mem_of_mem_drop (List.mem_of_mem_take hx)))
  have p3 : be 4 ((decL b).length : Int) = (b.drop 9).take 4 := by
    rw [hdl, ← e4]
    have h1 := un_four (l := (b.drop 9).take 4) (fun x hx => ho x (List.mem_of_mem_drop (List.mem_of_mem_take hx))) (by rw [List.length_take]; omega)
    unfold numAt
    rw [wrap64_id (by omega) (by omega)]
    exact be_un 4 _ (by rw [List.length_take, List.length_drop]; omega) (fun x hx => ho x (List.mem_of_mem_drop (List.mem_of_mem_take hx)))
  have p4 : (decL b).flatMap (be 8) = b.drop 13 := by
    have := flat_chunks K (b.drop 13) (by rw [List.length_drop]; omega) (fun x hx => ho x (List.mem_of_mem_drop hx))
    rw [← this]
    unfold decL decTo
    rw [show (b.length - 13) / 8 = K by omega]
    congr 1
    apply List.map_congr_left
    intro i _
    unfold numAt
    rw [List.drop_drop]
  unfold encL
  rw [p1, p2, p3, p4]
  have s1 : b.drop 13 = (b.drop 9).drop 4 := by rw [List.drop_drop]
  have s2 : b.drop 9 = (b.drop 1).drop 8 := by rw [List.drop_drop]
  rw [List.append_assoc, s1, List.take_append_drop, List.append_assoc, s2, List.take_append_drop, List.take_append_drop]
theorem dec_small {b : List Int} : Small (decN b) ∧ ∀ x ∈ decL b, Small x := by
  have hw : ∀ x, Small (wrap64 x) := fun x => by unfold Small wrap64; omega
  refine ⟨hw _, fun x hx => ?_⟩
  unfold decL decTo at hx
  obtain ⟨i, _, rfl⟩ := List.mem_map.1 hx
  exact hw _
end Go.Proofs.YtbenfdbjpefegaaDoor
