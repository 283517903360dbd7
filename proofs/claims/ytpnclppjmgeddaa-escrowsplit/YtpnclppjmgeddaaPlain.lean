/- Plain arithmetic of the layer number: nothing of the program. -/
import Derived.Test.YtpnclppjmgeddaaOpBase
import Derived.RowKit
import Derived.IntWalk
import Derived.Below
namespace Go.Proofs.Ytpnclppjmgeddaa
open Go.RowKit

theorem u64_mod (n : Int) : IntKind.u64.wrap n = n % 18446744073709551616 := by
  simp [IntKind.wrap, IntKind.bits, IntKind.signed]

/-- The upper half of 128 bits. -/
def up (a : Int) : Int := if a < 0 then 18446744073709551615 else 0
theorem up_eq (a : Int) (h1 : -9223372036854775808 ≤ a) (h2 : a ≤ 9223372036854775807) : IntKind.u64.wrap (a / 9223372036854775808) = up a := by
  rw [u64_mod]; unfold up; split <;> omega
theorem up_bd (a : Int) : 0 ≤ up a ∧ up a ≤ 18446744073709551615 := by unfold up; split <;> omega

/-- The size of a number, without its sign. -/
def sz (a : Int) : Int := if a < 0 then -a else a
theorem sz_neg (a : Int) (h1 : -9223372036854775808 ≤ a) (h : a < 0) : IntKind.u64.wrap (-IntKind.u64.wrap a) = sz a := by
  rw [u64_mod, u64_mod]; unfold sz; rw [if_pos h]; omega
theorem sz_pos (a : Int) (h2 : a ≤ 9223372036854775807) (h : ¬ a < 0) : IntKind.u64.wrap a = sz a := by
  rw [u64_mod]; unfold sz; rw [if_neg h]; omega

/-- The lower and the upper half of a sum. -/
def lowS (S : Int) : Int := S % 18446744073709551616
def hiS (S : Int) : Int := (S / 18446744073709551616) % 18446744073709551616
theorem low_step (S n : Int) : (lowS S + IntKind.u64.wrap n) % 18446744073709551616 = lowS (S + n) := by
  rw [u64_mod]; unfold lowS; omega
theorem hi_step (S n : Int) (h1 : -9223372036854775808 ≤ n) (h2 : n ≤ 9223372036854775807) :
    IntKind.u64.wrap (IntKind.u64.wrap (hiS S + up n) + (lowS S + IntKind.u64.wrap n) / 18446744073709551616) = hiS (S + n) := by
  rw [u64_mod, u64_mod, u64_mod]; unfold lowS hiS up; split <;> omega
theorem low_bd (S : Int) : 0 ≤ lowS S ∧ lowS S ≤ 18446744073709551615 := by unfold lowS; omega
theorem hi_bd (S : Int) : 0 ≤ hiS S ∧ hiS S ≤ 18446744073709551615 := by unfold hiS; omega
theorem low_back (S : Int) (h1 : -9223372036854775808 ≤ S) (h2 : S ≤ 9223372036854775807) : IntKind.i64.wrap (lowS S) = S ∧ hiS S = up S := by
  rw [IntWalk.i64_left]; unfold lowS hiS up wrap64; refine ⟨by omega, ?_⟩; split <;> omega
theorem low_out (S : Int) (h0 : -170141183460469231731687303715884105728 ≤ S) (h3 : S ≤ 170141183460469231731687303715884105727) (h : S < -9223372036854775808 ∨ 9223372036854775807 < S) :
    hiS S ≠ up (IntKind.i64.wrap (lowS S)) := by
  rw [IntWalk.i64_left]; unfold lowS hiS up wrap64; split <;> omega
theorem wrap_bd (n : Int) : -9223372036854775808 ≤ IntKind.i64.wrap n ∧ IntKind.i64.wrap n ≤ 9223372036854775807 := by
  rw [IntWalk.i64_left]; unfold wrap64; omega

/-- All of a list together. -/
def tot : List Int → Int
  | [] => 0
  | x :: r => x + tot r
theorem tot_cons (x : Int) (l : List Int) : tot (x :: l) = x + tot l := rfl
theorem tot_append (l m : List Int) : tot (l ++ m) = tot l + tot m := by
  induction l with
  | nil => simp [tot]
  | cons x r ih => simp only [List.cons_append, tot_cons, ih]; omega
theorem tot_snoc (l : List Int) (x : Int) : tot (l ++ [x]) = tot l + x := by rw [tot_append]; simp [tot]
theorem tot_bd (l : List Int) (h : ∀ x ∈ l, -9223372036854775808 ≤ x ∧ x ≤ 9223372036854775807) :
    -(9223372036854775808 * (l.length : Int)) ≤ tot l ∧ tot l ≤ 9223372036854775808 * (l.length : Int) := by
  induction l with
  | nil => simp [tot]
  | cons x r ih =>
    have h1 := h x (by simp)
    have h2 := ih (fun y hy => h y (by simp [hy]))
    rw [tot_cons]; simp only [List.length_cons]; omega

/-- What All tells of a list: the number and the error. -/
def allN (l : List Int) : Int := if -9223372036854775808 ≤ tot l ∧ tot l ≤ 9223372036854775807 then tot l else 0
def allE (l : List Int) : Int := if -9223372036854775808 ≤ tot l ∧ tot l ≤ 9223372036854775807 then 0 else 3

/-- What Sum tells. -/
def sumN (a b : Int) : Int := if -9223372036854775808 ≤ a + b ∧ a + b ≤ 9223372036854775807 then a + b else 0
def sumE (a b : Int) : Int := if -9223372036854775808 ≤ a + b ∧ a + b ≤ 9223372036854775807 then 0 else 3

/-! ### Texts of numbers -/
/-- How many bytes are a sign. -/
def sgn : List UInt8 → Nat
  | 45 :: _ => 1
  | _ => 0
def isD (c : UInt8) : Bool := decide (48 ≤ c.toNat) && decide (c.toNat ≤ 57)
/-- How many bytes may be a number's digits. -/
def dtk (l : List UInt8) (below : Bool) : Nat :=
  match l with
  | 48 :: _ => if below then 0 else 1
  | _ => (l.takeWhile isD).length
/-- The number of digits, most significant first. -/
def valF (m : Nat) : List UInt8 → Nat
  | [] => m
  | c :: r => valF (m * 10 + (c.toNat - 48)) r
def val (l : List UInt8) : Nat := valF 0 l
def most (below : Bool) : Nat := if below then 9223372036854775808 else 9223372036854775807
def signN (l : List UInt8) (below : Bool) : Int := if val l ≤ most below then (if below then -(val l : Int) else (val l : Int)) else 0
def signB (l : List UInt8) (below : Bool) : Bool := decide (val l ≤ most below)

theorem bytes_cons (s : ByteArray) (h : 0 < s.size) : s.data.toList = s[0] :: s.data.toList.tail := by
  obtain ⟨⟨l⟩⟩ := s
  cases l with
  | nil => simp [ByteArray.size] at h
  | cons c r => rfl
theorem sgn_nil (s : ByteArray) (h : s.size = 0) : sgn s.data.toList = 0 := by
  obtain ⟨⟨l⟩⟩ := s
  cases l with
  | nil => rfl
  | cons c r => simp [ByteArray.size] at h
theorem sgn_yes (s : ByteArray) (h : 0 < s.size) (h45 : s[0].toNat = 45) : sgn s.data.toList = 1 := by
  rw [bytes_cons s h]
  have : s[0] = 45 := UInt8.toNat_inj.1 (by simpa using h45)
  rw [this]; rfl
theorem sgn_no (s : ByteArray) (h : 0 < s.size) (h45 : s[0].toNat ≠ 45) : sgn s.data.toList = 0 := by
  rw [bytes_cons s h]
  unfold sgn; split
  · rename_i h'; injection h' with h1 h2; rw [h1] at h45; exact absurd rfl h45
  · rfl
theorem dtk_zero (s : ByteArray) (b : Bool) (h : 0 < s.size) (h48 : s[0].toNat = 48) : dtk s.data.toList b = if b then 0 else 1 := by
  rw [bytes_cons s h]
  have : s[0] = 48 := UInt8.toNat_inj.1 (by simpa using h48)
  rw [this]; rfl
theorem dtk_else (s : ByteArray) (b : Bool) (h : 0 < s.size → s[0]!.toNat ≠ 48) : dtk s.data.toList b = (s.data.toList.takeWhile isD).length := by
  unfold dtk; split
  · rename_i x r h'
    obtain ⟨⟨l⟩⟩ := s
    have h'' : l = 48 :: r := h'
    subst h''
    exact absurd rfl (h (by simp [ByteArray.size]))
  · rfl
theorem takeWhile_len {p : UInt8 → Bool} : ∀ (l : List UInt8) (k : Nat), k ≤ l.length → (∀ j c, j < k → l[j]? = some c → p c = true) → (∀ c, l[k]? = some c → p c = false) → (l.takeWhile p).length = k
  | [], k, hk, _, _ => by simp at hk; simp [hk]
  | c :: r, 0, _, _, h2 => by simp [h2 c (by simp)]
  | c :: r, k + 1, hk, h1, h2 => by
    rw [List.takeWhile_cons, h1 0 c (by omega) (by simp)]
    simp only [if_true, List.length_cons]
    rw [takeWhile_len r k (by simpa using hk) (fun j d hj hd => h1 (j + 1) d (by omega) (by simpa using hd)) (fun d hd => h2 d (by simpa using hd))]
theorem byte_at (s : ByteArray) (k : Nat) (h : k < s.size) : s.data.toList[k]? = some s[k] := by
  obtain ⟨⟨l⟩⟩ := s
  exact List.getElem?_eq_getElem (by simpa [ByteArray.size] using h)
theorem bytes_len (s : ByteArray) : s.data.toList.length = s.size := by rw [Array.length_toList]; rfl
theorem isD_of {c : UInt8} (h1 : 48 ≤ c.toNat) (h2 : c.toNat ≤ 57) : isD c = true := by simp [isD, h1, h2]
theorem isD_not {c : UInt8} (h : c.toNat < 48 ∨ 57 < c.toNat) : isD c = false := by
  unfold isD; rcases h with h | h
  · rw [decide_eq_false (by omega)]; rfl
  · rw [Bool.and_comm, decide_eq_false (by omega)]; rfl
theorem isD_iff {c : UInt8} (h : isD c = true) : 48 ≤ c.toNat ∧ c.toNat ≤ 57 := by simpa [isD] using h

theorem valF_append (m : Nat) (l r : List UInt8) : valF m (l ++ r) = valF (valF m l) r := by
  induction l generalizing m with
  | nil => rfl
  | cons c l ih => exact ih (m * 10 + (c.toNat - 48))
theorem valF_le (m : Nat) (l : List UInt8) : m ≤ valF m l := by
  induction l generalizing m with
  | nil => exact Nat.le_refl _
  | cons c l ih => exact Nat.le_trans (by omega) (ih (m * 10 + (c.toNat - 48)))
theorem val_snoc (l : List UInt8) (c : UInt8) : val (l ++ [c]) = val l * 10 + (c.toNat - 48) := by
  unfold val; rw [valF_append]; rfl
theorem val_take_le (l : List UInt8) (k : Nat) : val (l.take k) ≤ val l := by
  have h := List.take_append_drop k l
  have h2 : val l = valF (val (l.take k)) (l.drop k) := by
    have := valF_append 0 (l.take k) (l.drop k)
    rw [h] at this; exact this
  rw [h2]; exact valF_le _ _
theorem val_take (s : ByteArray) (k : Nat) (h : k < s.size) : val (s.data.toList.take (k + 1)) = val (s.data.toList.take k) * 10 + (s[k].toNat - 48) := by
  rw [List.take_succ_eq_append_getElem (by rw [bytes_len]; exact h), val_snoc]; rfl

theorem most_false : most false = 9223372036854775807 := rfl
theorem most_true : most true = 9223372036854775808 := rfl
theorem val_none (l : List UInt8) (N : Nat) : val (l.take 0) ≤ N := Nat.zero_le _
theorem neg_back (m : Nat) (h : m ≤ 9223372036854775808) : wrap64 (IntKind.u64.wrap (-(m : Int))) = -(m : Int) := by
  rw [u64_mod]; unfold wrap64; omega
theorem signN_no (l : List UInt8) (b : Bool) (h : most b < val l) : signN l b = 0 ∧ signB l b = false := by
  unfold signN signB; rw [if_neg (by omega)]; exact ⟨rfl, decide_eq_false (by omega)⟩
theorem signN_ok (l : List UInt8) (b : Bool) (h : val l ≤ most b) : signN l b = (if b then -(val l : Int) else (val l : Int)) ∧ signB l b = true := by
  unfold signN signB; rw [if_pos h]; exact ⟨rfl, decide_eq_true h⟩

/-- What Get tells: the number, the error, where. -/
def getAt (l : List UInt8) : Nat := sgn l + dtk (l.drop (sgn l)) (decide (0 < sgn l))
def getN (l : List UInt8) : Int :=
  if 20 < l.length then 0 else if getAt l < l.length ∨ getAt l = sgn l then 0 else signN (l.drop (sgn l)) (decide (0 < sgn l))
def getE (l : List UInt8) : Int :=
  if 20 < l.length then 4 else if getAt l < l.length ∨ getAt l = sgn l then 5 else if signB (l.drop (sgn l)) (decide (0 < sgn l)) then 0 else 3
def getP (l : List UInt8) : Int :=
  if 20 < l.length then 20 else if getAt l < l.length ∨ getAt l = sgn l then (getAt l : Int) else 0
theorem get_long (l : List UInt8) (h : 20 < l.length) : getN l = 0 ∧ getE l = 4 ∧ getP l = 20 := by
  unfold getN getE getP; rw [if_pos h, if_pos h, if_pos h]; exact ⟨rfl, rfl, rfl⟩
theorem get_form (l : List UInt8) (h : ¬ 20 < l.length) (h2 : getAt l < l.length ∨ getAt l = sgn l) : getN l = 0 ∧ getE l = 5 ∧ getP l = (getAt l : Int) := by
  unfold getN getE getP; rw [if_neg h, if_neg h, if_neg h, if_pos h2, if_pos h2, if_pos h2]; exact ⟨rfl, rfl, rfl⟩
theorem get_num (l : List UInt8) (h : ¬ 20 < l.length) (h2 : ¬ (getAt l < l.length ∨ getAt l = sgn l)) : getN l = signN (l.drop (sgn l)) (decide (0 < sgn l)) ∧ getE l = (if signB (l.drop (sgn l)) (decide (0 < sgn l)) then 0 else 3) ∧ getP l = 0 := by
  unfold getN getE getP; rw [if_neg h, if_neg h, if_neg h, if_neg h2, if_neg h2, if_neg h2]; exact ⟨rfl, rfl, rfl⟩

theorem signN_zero (l : List UInt8) (b : Bool) (h : signB l b = false) : signN l b = 0 := by
  unfold signB at h; unfold signN; rw [if_neg (of_decide_eq_false h)]

theorem sgn_le : ∀ l : List UInt8, sgn l ≤ 1 ∧ sgn l ≤ l.length
  | [] => by simp [sgn]
  | c :: r => by
    have : sgn (c :: r) ≤ 1 := by unfold sgn; split <;> omega
    exact ⟨this, by simp only [List.length_cons]; omega⟩
theorem takeWhile_le (p : UInt8 → Bool) : ∀ l : List UInt8, (l.takeWhile p).length ≤ l.length
  | [] => by simp
  | c :: r => by
    have := takeWhile_le p r
    rw [List.takeWhile_cons]; split <;> simp <;> omega
theorem dtk_le (l : List UInt8) (b : Bool) : dtk l b ≤ l.length := by
  unfold dtk; split
  · split <;> simp
  · exact takeWhile_le _ _
theorem takeWhile_all {p : UInt8 → Bool} : ∀ (l : List UInt8), (l.takeWhile p).length = l.length → ∀ c ∈ l, p c = true
  | [], _, c, hc => by cases hc
  | d :: r, h, c, hc => by
    rw [List.takeWhile_cons] at h
    by_cases hd : p d = true
    · rw [if_pos hd] at h
      rcases List.mem_cons.1 hc with rfl | hc
      · exact hd
      · exact takeWhile_all r (by simpa using h) c hc
    · rw [if_neg hd] at h; simp at h
/-- Where all of a text may be digits, they are. -/
theorem dtk_all (l : List UInt8) (b : Bool) (h : dtk l b = l.length) : ∀ c ∈ l, isD c = true := by
  unfold dtk at h; split at h
  · rename_i r
    split at h
    · simp at h
    · have : r = [] := List.eq_nil_of_length_eq_zero (by simpa using h.symm)
      subst this
      intro c hc; simp at hc; subst hc; decide
  · exact takeWhile_all l h
theorem extract_data (s : ByteArray) (g : Nat) : (s.extract g s.size).data.toList = s.data.toList.drop g := by
  rw [ByteArray.data_extract, Array.toList_extract, List.extract, List.take_of_length_le]
  rw [List.length_drop, bytes_len]
  exact Nat.le_refl _
theorem extract_size (s : ByteArray) (g : Nat) : (s.extract g s.size).size = s.size - g := by simp

/-! ### The digits of a number, the last one first -/
def dr : Nat → Nat → List Int
  | 0, _ => []
  | f + 1, m => if m < 10 then [48 + (m : Int) % 10] else (48 + (m : Int) % 10) :: dr f (m / 10)
theorem dr_small (f m : Nat) (h : m < 10) : dr (f + 1) m = [48 + (m : Int) % 10] := by rw [dr, if_pos h]
theorem dr_great (f m : Nat) (h : ¬ m < 10) : dr (f + 1) m = (48 + (m : Int) % 10) :: dr f (m / 10) := by rw [dr, if_neg h]
theorem dr_len : ∀ f m : Nat, (dr f m).length ≤ f
  | 0, _ => by simp [dr]
  | f + 1, m => by
    by_cases h : m < 10
    · rw [dr_small f m h]; simp
    · rw [dr_great f m h]; have := dr_len f (m / 10); simp; omega
theorem dr_pos (f m : Nat) : 1 ≤ (dr (f + 1) m).length := by
  by_cases h : m < 10
  · rw [dr_small f m h]; simp
  · rw [dr_great f m h]; simp
theorem dr_bd : ∀ (f m : Nat), ∀ x ∈ dr f m, 48 ≤ x ∧ x ≤ 57
  | 0, _ => by simp [dr]
  | f + 1, m => by
    intro x hx
    by_cases h : m < 10
    · rw [dr_small f m h] at hx; simp at hx; omega
    · rw [dr_great f m h] at hx
      rcases List.mem_cons.1 hx with rfl | hx
      · omega
      · exact dr_bd f _ x hx

/-- A number's text. -/
def putI (n : Int) : List Int := (dr 20 n.natAbs ++ (if n < 0 then [45] else [])).reverse
def putL (n : Int) : List UInt8 := (putI n).map fun x => UInt8.ofNat x.toNat
end Go.Proofs.Ytpnclppjmgeddaa
