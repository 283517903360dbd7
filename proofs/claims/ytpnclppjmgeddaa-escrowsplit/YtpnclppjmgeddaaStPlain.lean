/- Pure: which states are in their form, their bytes, their texts, and what bytes and texts are. -/
import Derived.Test.YtpnclppjmgeddaaOpBase
import Derived.Test.YtpnclppjmgeddaaPlainB
import Derived.Test.YtpnclppjmgeddaaWalkB
namespace Go.Proofs.Ytpnclppjmgeddaa
open Go.RowKit
set_option linter.unusedVariables false

theorem all_range_succ (p : Nat → Bool) (k : Nat) : (List.range (k + 1)).all p = ((List.range k).all p && p k) := by
  rw [List.range_succ, List.all_append]; simp

/-- Do the first k steps of l, s apart, rise? -/
def riseTo (s : Nat) (l : List Int) (k : Nat) : Bool := (List.range k).all fun j => decide (l.length ≤ (j + 1) * s) || decide (l[j * s]?.getD 0 < l[(j + 1) * s]?.getD 0)
def riseB (s : Nat) (l : List Int) : Bool := riseTo s l l.length

theorem rise_step {s : Nat} {l : List Int} {k : Nat} (h : riseTo s l k = true) (h1 : l[k * s]?.getD 0 < l[(k + 1) * s]?.getD 0) : riseTo s l (k + 1) = true := by
  unfold riseTo at h ⊢
  rw [all_range_succ, h]; simp [h1]
theorem rise_end {s : Nat} {l : List Int} {k : Nat} (h : riseTo s l k = true) (h1 : l.length ≤ (k + 1) * s) : riseB s l = true := by
  unfold riseB riseTo at *
  rw [List.all_eq_true] at h ⊢
  intro j hj
  by_cases hk : j < k
  · exact h j (List.mem_range.2 hk)
  · have : (k + 1) * s ≤ (j + 1) * s := Nat.mul_le_mul_right s (by omega)
    simp [show l.length ≤ (j + 1) * s by omega]
theorem rise_no {s : Nat} {l : List Int} {k : Nat} (hs : 1 ≤ s) (h1 : (k + 1) * s < l.length) (h2 : l[(k + 1) * s]?.getD 0 ≤ l[k * s]?.getD 0) : riseB s l = false := by
  unfold riseB riseTo
  rw [List.all_eq_false]
  have hle : (k + 1) * 1 ≤ (k + 1) * s := Nat.mul_le_mul_left _ hs
  refine ⟨k, List.mem_range.2 (by omega), ?_⟩
  simp [show ¬ l.length ≤ (k + 1) * s by omega, Int.not_lt.2 h2]

def fitsB (t n : Int) (l : List Int) : Bool :=
  if t = 1 then decide (l.length = 0)
  else if t = 2 then (n == 0) && riseB 1 l
  else if t = 3 then (n == 0) && decide (l.length % 2 = 0) && riseB 2 l
  else if t = 4 then (n == 0)
  else decide (l.length = 0) && decide (0 ≤ n) && decide (n ≤ 4611686018427387904)
def checkE (t n : Int) (l : List Int) : Int := if t < 1 ∨ 5 < t then 8 else if fitsB t n l = true then 0 else 5
theorem check_type {t n : Int} {l : List Int} (h : t < 1 ∨ 5 < t) : checkE t n l = 8 := by unfold checkE; rw [if_pos h]
theorem check_in {t n : Int} {l : List Int} (h : ¬ (t < 1 ∨ 5 < t)) : checkE t n l = if fitsB t n l = true then 0 else 5 := by unfold checkE; rw [if_neg h]
theorem check_ok {t n : Int} {l : List Int} (h : checkE t n l = 0) : 1 ≤ t ∧ t ≤ 5 ∧ fitsB t n l = true := by
  unfold checkE at h
  split at h
  · cases h
  · split at h
    · next h1 h2 => exact ⟨by omega, by omega, h2⟩
    · cases h
theorem check_cases (t n : Int) (l : List Int) : checkE t n l = 0 ∨ checkE t n l = 5 ∨ checkE t n l = 8 := by
  unfold checkE; split
  · exact .inr (.inr rfl)
  · split
    · exact .inl rfl
    · exact .inr (.inl rfl)

def wordB : Nat → ByteArray
  | 1 => ⟨#[99, 111, 117, 110, 116, 101, 114]⟩
  | 2 => ⟨#[115, 101, 116]⟩
  | 3 => ⟨#[109, 97, 112]⟩
  | 4 => ⟨#[113, 117, 101, 117, 101]⟩
  | 5 => ⟨#[101, 115, 99, 114, 111, 119]⟩
  | _ => ⟨#[]⟩
def wordL (t : Nat) : List UInt8 := (wordB t).data.toList
/-- The type of a word; 0, if it is none's. -/
def typeL (l : List UInt8) : Nat := if l = wordL 1 then 1 else if l = wordL 2 then 2 else if l = wordL 3 then 3 else if l = wordL 4 then 4 else if l = wordL 5 then 5 else 0

/-- The k-th of s bytes of n, the highest first. -/
def beB (s : Nat) (n : Int) (k : Nat) : Int := n / 256 ^ (s - 1 - k) % 256
def be (s : Nat) (n : Int) : List Int := (List.range s).map (beB s n)
def encL (t n : Int) (l : List Int) : List Int := be 1 t ++ be 8 n ++ be 4 l.length ++ l.flatMap (be 8)
theorem be_len (s : Nat) (n : Int) : (be s n).length = s := by simp [be]
theorem be_take {s k : Nat} (n : Int) (h : k < s) : (be s n).take (k + 1) = (be s n).take k ++ [beB s n k] := by
  rw [List.take_succ_eq_append_getElem (by rw [be_len]; exact h)]; simp [be]
theorem flat_len (l : List Int) : (l.flatMap (be 8)).length = 8 * l.length := by
  induction l with
  | nil => rfl
  | cons x r ih => rw [List.flatMap_cons, List.length_append, ih, be_len, List.length_cons]; omega
theorem enc_len (t n : Int) (l : List Int) : (encL t n l).length = 13 + 8 * l.length := by
  unfold encL; rw [List.length_append, List.length_append, List.length_append, be_len, be_len, be_len, flat_len]

def unN (l : List Int) : Int := l.foldl (fun m x => m * 256 + x) 0
theorem un_snoc (l : List Int) (x : Int) : unN (l ++ [x]) = unN l * 256 + x := by simp [unN]
theorem unF_bd : ∀ (l : List Int) (m : Int), 0 ≤ m → (∀ x ∈ l, 0 ≤ x ∧ x ≤ 255) → 0 ≤ l.foldl (fun m x => m * 256 + x) m ∧ l.foldl (fun m x => m * 256 + x) m + 1 ≤ (m + 1) * 256 ^ l.length
  | [], m, hm, _ => by simp; exact hm
  | x :: r, m, hm, h => by
    obtain ⟨h1, h2⟩ := h x (by simp)
    have ih := unF_bd r (m * 256 + x) (by omega) (fun y hy => h y (List.mem_cons_of_mem _ hy))
    refine ⟨ih.1, Int.le_trans ih.2 ?_⟩
    rw [List.length_cons, Int.pow_succ, Int.mul_comm (256 ^ r.length) 256, ← Int.mul_assoc]
    exact Int.mul_le_mul_of_nonneg_right (by omega) (Int.pow_nonneg (by omega))
theorem un_bd (l : List Int) (h : ∀ x ∈ l, 0 ≤ x ∧ x ≤ 255) : 0 ≤ unN l ∧ unN l < 256 ^ l.length := by
  have := unF_bd l 0 (by omega) h
  unfold unN
  exact ⟨this.1, by have := this.2; omega⟩
def numAt (b : List Int) (at' k : Nat) : Int := wrap64 (unN ((b.drop at').take k))
def measB (b : List Int) : Bool := decide (13 ≤ b.length) && decide ((b.length : Int) - 13 = 8 * numAt b 9 4)
def decT (b : List Int) : Int := numAt b 0 1
def decN (b : List Int) : Int := numAt b 1 8
def decTo (b : List Int) (k : Nat) : List Int := (List.range k).map fun i => numAt b (13 + 8 * i) 8
def decL (b : List Int) : List Int := decTo b ((b.length - 13) / 8)
def decOk (b : List Int) : Bool := measB b && (checkE (decT b) (decN b) (decL b) == 0)
def decE (b : List Int) : Int := if decOk b = true then 0 else 5
theorem decTo_succ (b : List Int) (k : Nat) : decTo b (k + 1) = decTo b k ++ [numAt b (13 + 8 * k) 8] := by
  unfold decTo; rw [List.range_succ, List.map_append]; rfl
theorem decTo_len (b : List Int) (k : Nat) : (decTo b k).length = k := by simp [decTo]

def singB (t : Int) : Bool := (t == 1) || (t == 5)
def txtOf (l : List Int) : List UInt8 := l.flatMap fun x => 32 :: putL x
def numsOf (t n : Int) (l : List Int) : List Int := if singB t = true then [n] else l
def txtL (t n : Int) (l : List Int) : List UInt8 := wordL t.toNat ++ txtOf (numsOf t n l)
theorem txtOf_take {l : List Int} {k : Nat} (h : k < l.length) : txtOf (l.take (k + 1)) = txtOf (l.take k) ++ (32 :: putL (l[k]?.getD 0)) := by
  unfold txtOf
  rw [List.take_succ_eq_append_getElem h, List.flatMap_append, List.getElem?_eq_getElem h]
  simp

def partL (s : List UInt8) : List UInt8 := s.takeWhile (· != 32)
theorem part_le (s : List UInt8) : (partL s).length ≤ s.length := takeWhile_le _ _
/-- The numbers of the parts from here on (each behind a space), or what is wrong and where. -/
def behindL : Nat → List UInt8 → Nat → List Int → List Int × Int × Int
  | 0, _, _, acc => (acc, 0, 0)
  | _ + 1, [], _, acc => (acc, 0, 0)
  | f + 1, _ :: r, k, acc => if getE (partL r) = 0 then behindL f (r.drop (partL r).length) (k + 1 + (partL r).length) (acc ++ [getN (partL r)]) else ([], getE (partL r), (k : Int) + 1 + getP (partL r))
def behindR (s : List UInt8) (k : Nat) : List Int × Int × Int := behindL (s.length + 1) (s.drop k) k []

abbrev St := Int × Int × List Int
def st0 : St := (0, 0, [])
/-- The state that a type and numbers make, and whether it is one in its form. -/
def ofNums (t : Int) (l : List Int) : St × Bool :=
  if singB t = true then (if l.length = 1 then ((t, l[0]?.getD 0, []), checkE t (l[0]?.getD 0) [] == 0) else (st0, false))
  else ((t, 0, l), checkE t 0 l == 0)
def readL (s : List UInt8) : St × Int × Int :=
  if typeL (partL s) = 0 then (st0, 6, 0)
  else if (behindR s (partL s).length).2.1 = 0 then
    (if (ofNums (typeL (partL s)) (behindR s (partL s).length).1).2 = true then ((ofNums (typeL (partL s)) (behindR s (partL s).length).1).1, 0, 0) else (st0, 5, 0))
  else (st0, (behindR s (partL s).length).2.1, (behindR s (partL s).length).2.2)
end Go.Proofs.Ytpnclppjmgeddaa
