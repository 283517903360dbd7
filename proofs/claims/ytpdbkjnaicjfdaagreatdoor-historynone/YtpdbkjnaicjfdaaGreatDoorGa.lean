/- Texts of earlier stages over this seat, joined: OpBase GrBase Plain PlainB WalkA WalkB WalkC WalkD WalkR WalkP WalkQ WalkE WalkK WalkF WalkG WalkH WalkI. -/
import Derived.Test.YtpdbkjnaicjfdaaGreatDoorRows
import Derived.RowKit
import Derived.IntWalk
import Derived.Below
import Derived.WalkKit
import Derived.Deep.QuietTactic
import Derived.BigQuiet
import Derived.WalkSpells
import Derived.WalkLawsBesides
import Derived.Lib.Hide
import Derived.Laws.Externs
import Derived.Deep.RegionWith
import Derived.Laws.OwnMore
import Derived.RegionTactic
import Derived.BigRegion
import Derived.OwnWalk
import Derived.RangeFuncNested
import Derived.RangeFuncBound
import Derived.RangeFuncCalls
import Derived.RangeFuncLeaves
import Derived.RangeFuncBox
import Derived.Shelf.Abstract
import Derived.Shelf.RegionOpen
import Derived.OwnWalkIn
import Derived.TacticsInMore
import Derived.LoopNIn
import Derived.LoopIn
import Derived.Maps.AppendAt
import Derived.Laws.BytesArg
import Derived.Deep.AppendLies
import Derived.OpenShut
import Derived.Laws.BitsAllLaws
set_option maxRecDepth 100000
namespace Go.Proofs.YtpdbkjnaicjfdaaGreatDoor
open Go.RowKit
set_option linter.unusedVariables false
theorem below_drewN {B : Nat} {a w : World} (h : Below B a w) (n : Nat) : Below B a (w.drewN n) := ⟨h.os, h.tape, h.output, h.size, h.block⟩
theorem Below.next {a b c : World} {B : Nat} (h : Below B a b) (k : Below b.heap.size b c) (hB : B ≤ a.heap.size) : Below B a c := h.trans (k.mono (Nat.le_trans hB h.size))
def bytesOf (zs : List Int) : List Value := zs.map (Value.int .u8)
theorem info_u8 : (Tryz.prog.info? 5).map (fun i => (i.zero, i.size, i.bytes)) = some (some (.int .u8 0), 1, 1) := by kernel_rfl
theorem ret_int {k : IntKind} {a b : Int} (h : a = b) : Ending.returned (.int k a) = .returned (.int k b) := by rw [h]
def Yes (w : World) (e : Ending) (w' : World) : Prop := e = .returned (.bool true) ∧ Below w.heap.size w w'
end Go.Proofs.YtpdbkjnaicjfdaaGreatDoor

namespace Go.Proofs.YtpdbkjnaicjfdaaGreatDoor
open Go.RowKit
set_option linter.unusedVariables false
instance lawB : LawfulBEq ByteArray where
  eq_of_beq := by
    rintro ⟨a⟩ ⟨b⟩ h
    have h' : (a == b) = true := h
    rw [eq_of_beq h']
  rfl := by
    rintro ⟨a⟩
    show (a == a) = true
    simp
def Says (v : Value) (w : World) (e : Ending) (w' : World) : Prop := e = .returned v ∧ Below w.heap.size w w'
theorem nxt {a b c : World} {B n : Nat} (h : Below B a b) (k : Below n b c) (hn : B ≤ n) : Below B a c := h.trans (k.mono hn)
end Go.Proofs.YtpdbkjnaicjfdaaGreatDoor

namespace Go.Proofs.YtpdbkjnaicjfdaaGreatDoor
open Go.RowKit

theorem u64_mod (n : Int) : IntKind.u64.wrap n = n % 18446744073709551616 := by
  simp [IntKind.wrap, IntKind.bits, IntKind.signed]

/-- The upper half of 128 bits. -/
def up (a : Int) : Int := if a < 0 then 18446744073709551615 else 0
theorem up_eq (a : Int) (h1 : -9223372036854775808 ≤ a) (h2 : a ≤ 9223372036854775807) : IntKind.u64.wrap (a / 9223372036854775808) = up a := by
  rw [u64_mod]; unfold up; split <;> omega
theorem up_bd (a : Int) : 0 ≤ up a ∧ up a ≤ 18446744073709551615 := by unfold up; split <;> omega

/-- The size of a number, without its sign. -/
def sz (a : Int) : Int := if a < 0 then -a else a
theorem sz_neg (a : Int) (h1 : -9223372036854775808 ≤ a) (h : a < 0) : IntKind.u64.wrap (-IntKind.u64.wrap a) = sz a := by
  rw [u64_mod, u64_mod]; unfold sz; rw [if_pos h]; omega
theorem sz_pos (a : Int) (h2 : a ≤ 9223372036854775807) (h : ¬ a < 0) : IntKind.u64.wrap a = sz a := by
  rw [u64_mod]; unfold sz; rw [if_neg h]; omega

/-- The lower and the upper half of a sum. -/
def lowS (S : Int) : Int := S % 18446744073709551616
def hiS (S : Int) : Int := (S / 18446744073709551616) % 18446744073709551616
theorem low_step (S n : Int) : (lowS S + IntKind.u64.wrap n) % 18446744073709551616 = lowS (S + n) := by
  rw [u64_mod]; unfold lowS; omega
theorem hi_step (S n : Int) (h1 : -9223372036854775808 ≤ n) (h2 : n ≤ 9223372036854775807) :
    IntKind.u64.wrap (IntKind.u64.wrap (hiS S + up n) + (lowS S + IntKind.u64.wrap n) / 18446744073709551616) = hiS (S + n) := by
  rw [u64_mod, u64_mod, u64_mod]; unfold lowS hiS up; split <;> omega
theorem low_bd (S : Int) : 0 ≤ lowS S ∧ lowS S ≤ 18446744073709551615 := by unfold lowS; omega
theorem hi_bd (S : Int) : 0 ≤ hiS S ∧ hiS S ≤ 18446744073709551615 := by unfold hiS; omega
theorem low_back (S : Int) (h1 : -9223372036854775808 ≤ S) (h2 : S ≤ 9223372036854775807) : IntKind.i64.wrap (lowS S) = S ∧ hiS S = up S := by
  rw [IntWalk.i64_left]; unfold lowS hiS up wrap64; refine ⟨by omega, ?_⟩; split <;> omega
theorem low_out (S : Int) (h0 : -170141183460469231731687303715884105728 ≤ S) (h3 : S ≤ 170141183460469231731687303715884105727) (h : S < -9223372036854775808 ∨ 9223372036854775807 < S) :
    hiS S ≠ up (IntKind.i64.wrap (lowS S)) := by
  rw [IntWalk.i64_left]; unfold lowS hiS up wrap64; split <;> omega
theorem wrap_bd (n : Int) : -9223372036854775808 ≤ IntKind.i64.wrap n ∧ IntKind.i64.wrap n ≤ 9223372036854775807 := by
  rw [IntWalk.i64_left]; unfold wrap64; omega

/-- All of a list together. -/
def tot : List Int → Int
  | [] => 0
  | x :: r => x + tot r
theorem tot_cons (x : Int) (l : List Int) : tot (x :: l) = x + tot l := rfl
theorem tot_append (l m : List Int) : tot (l ++ m) = tot l + tot m := by
  induction l with
  | nil => simp [tot]
  | cons x r ih => simp only [List.cons_append, tot_cons, ih]; omega
theorem tot_snoc (l : List Int) (x : Int) : tot (l ++ [x]) = tot l + x := by rw [tot_append]; simp [tot]
theorem tot_bd (l : List Int) (h : ∀ x ∈ l, -9223372036854775808 ≤ x ∧ x ≤ 9223372036854775807) :
    -(9223372036854775808 * (l.length : Int)) ≤ tot l ∧ tot l ≤ 9223372036854775808 * (l.length : Int) := by
  induction l with
  | nil => simp [tot]
  | cons x r ih =>
    have h1 := h x (by simp)
    have h2 := ih (fun y hy => h y (by simp [hy]))
    rw [tot_cons]; simp only [List.length_cons]; omega

/-- What All tells of a list: the number and the error. -/
def allN (l : List Int) : Int := if -9223372036854775808 ≤ tot l ∧ tot l ≤ 9223372036854775807 then tot l else 0
def allE (l : List Int) : Int := if -9223372036854775808 ≤ tot l ∧ tot l ≤ 9223372036854775807 then 0 else 3

/-- What Sum tells. -/
def sumN (a b : Int) : Int := if -9223372036854775808 ≤ a + b ∧ a + b ≤ 9223372036854775807 then a + b else 0
def sumE (a b : Int) : Int := if -9223372036854775808 ≤ a + b ∧ a + b ≤ 9223372036854775807 then 0 else 3

/-! ### Texts of numbers -/
/-- How many bytes are a sign. -/
def sgn : List UInt8 → Nat
  | 45 :: _ => 1
  | _ => 0
def isD (c : UInt8) : Bool := decide (48 ≤ c.toNat) && decide (c.toNat ≤ 57)
/-- How many bytes may be a number's digits. -/
def dtk (l : List UInt8) (below : Bool) : Nat :=
  match l with
  | 48 :: _ => if below then 0 else 1
  | _ => (l.takeWhile isD).length
/-- The number of digits, most significant first. -/
def valF (m : Nat) : List UInt8 → Nat
  | [] => m
  | c :: r => valF (m * 10 + (c.toNat - 48)) r
def val (l : List UInt8) : Nat := valF 0 l
def most (below : Bool) : Nat := if below then 9223372036854775808 else 9223372036854775807
def signN (l : List UInt8) (below : Bool) : Int := if val l ≤ most below then (if below then -(val l : Int) else (val l : Int)) else 0
def signB (l : List UInt8) (below : Bool) : Bool := decide (val l ≤ most below)

theorem bytes_cons (s : ByteArray) (h : 0 < s.size) : s.data.toList = s[0] :: s.data.toList.tail := by
  obtain ⟨⟨l⟩⟩ := s
  cases l with
  | nil => simp [ByteArray.size] at h
  | cons c r => rfl
theorem sgn_nil (s : ByteArray) (h : s.size = 0) : sgn s.data.toList = 0 := by
  obtain ⟨⟨l⟩⟩ := s
  cases l with
  | nil => rfl
  | cons c r => simp [ByteArray.size] at h
theorem sgn_yes (s : ByteArray) (h : 0 < s.size) (h45 : s[0].toNat = 45) : sgn s.data.toList = 1 := by
  rw [bytes_cons s h]
  have : s[0] = 45 := UInt8.toNat_inj.1 (by simpa using h45)
  rw [this]; rfl
theorem sgn_no (s : ByteArray) (h : 0 < s.size) (h45 : s[0].toNat ≠ 45) : sgn s.data.toList = 0 := by
  rw [bytes_cons s h]
  unfold sgn; split
  · rename_i h'; injection h' with h1 h2; rw [h1] at h45; exact absurd rfl h45
  · rfl
theorem dtk_zero (s : ByteArray) (b : Bool) (h : 0 < s.size) (h48 : s[0].toNat = 48) : dtk s.data.toList b = if b then 0 else 1 := by
  rw [bytes_cons s h]
  have : s[0] = 48 := UInt8.toNat_inj.1 (by simpa using h48)
  rw [this]; rfl
theorem dtk_else (s : ByteArray) (b : Bool) (h : 0 < s.size → s[0]!.toNat ≠ 48) : dtk s.data.toList b = (s.data.toList.takeWhile isD).length := by
  unfold dtk; split
  · rename_i x r h'
    obtain ⟨⟨l⟩⟩ := s
    have h'' : l = 48 :: r := h'
    subst h''
    exact absurd rfl (h (by simp [ByteArray.size]))
  · rfl
theorem takeWhile_len {p : UInt8 → Bool} : ∀ (l : List UInt8) (k : Nat), k ≤ l.length → (∀ j c, j < k → l[j]? = some c → p c = true) → (∀ c, l[k]? = some c → p c = false) → (l.takeWhile p).length = k
  | [], k, hk, _, _ => by simp at hk; simp [hk]
  | c :: r, 0, _, _, h2 => by simp [h2 c (by simp)]
  | c :: r, k + 1, hk, h1, h2 => by
    rw [List.takeWhile_cons, h1 0 c (by omega) (by simp)]
    simp only [if_true, List.length_cons]
    rw [takeWhile_len r k (by simpa using hk) (fun j d hj hd => h1 (j + 1) d (by omega) (by simpa using hd)) (fun d hd => h2 d (by simpa using hd))]
theorem byte_at (s : ByteArray) (k : Nat) (h : k < s.size) : s.data.toList[k]? = some s[k] := by
  obtain ⟨⟨l⟩⟩ := s
  exact List.getElem?_eq_getElem (by simpa [ByteArray.size] using h)
theorem bytes_len (s : ByteArray) : s.data.toList.length = s.size := by rw [Array.length_toList]; rfl
theorem isD_of {c : UInt8} (h1 : 48 ≤ c.toNat) (h2 : c.toNat ≤ 57) : isD c = true := by simp [isD, h1, h2]
theorem isD_not {c : UInt8} (h : c.toNat < 48 ∨ 57 < c.toNat) : isD c = false := by
  unfold isD; rcases h with h | h
  · rw [decide_eq_false (by omega)]; rfl
  · rw [Bool.and_comm, decide_eq_false (by omega)]; rfl
theorem isD_iff {c : UInt8} (h : isD c = true) : 48 ≤ c.toNat ∧ c.toNat ≤ 57 := by simpa [isD] using h

theorem valF_append (m : Nat) (l r : List UInt8) : valF m (l ++ r) = valF (valF m l) r := by
  induction l generalizing m with
  | nil => rfl
  | cons c l ih => exact ih (m * 10 + (c.toNat - 48))
theorem valF_le (m : Nat) (l : List UInt8) : m ≤ valF m l := by
  induction l generalizing m with
  | nil => exact Nat.le_refl _
  | cons c l ih => exact Nat.le_trans (by omega) (ih (m * 10 + (c.toNat - 48)))
theorem val_snoc (l : List UInt8) (c : UInt8) : val (l ++ [c]) = val l * 10 + (c.toNat - 48) := by
  unfold val; rw [valF_append]; rfl
theorem val_take_le (l : List UInt8) (k : Nat) : val (l.take k) ≤ val l := by
  have h := List.take_append_drop k l
  have h2 : val l = valF (val (l.take k)) (l.drop k) := by
    have := valF_append 0 (l.take k) (l.drop k)
    rw [h] at this; exact this
  rw [h2]; exact valF_le _ _
theorem val_take (s : ByteArray) (k : Nat) (h : k < s.size) : val (s.data.toList.take (k + 1)) = val (s.data.toList.take k) * 10 + (s[k].toNat - 48) := by
  rw [List.take_succ_eq_append_getElem (by rw [bytes_len]; exact h), val_snoc]; rfl

theorem most_false : most false = 9223372036854775807 := rfl
theorem most_true : most true = 9223372036854775808 := rfl
theorem val_none (l : List UInt8) (N : Nat) : val (l.take 0) ≤ N := Nat.zero_le _
theorem neg_back (m : Nat) (h : m ≤ 9223372036854775808) : wrap64 (IntKind.u64.wrap (-(m : Int))) = -(m : Int) := by
  rw [u64_mod]; unfold wrap64; omega
theorem signN_no (l : List UInt8) (b : Bool) (h : most b < val l) : signN l b = 0 ∧ signB l b = false := by
  unfold signN signB; rw [if_neg (by omega)]; exact ⟨rfl, decide_eq_false (by omega)⟩
theorem signN_ok (l : List UInt8) (b : Bool) (h : val l ≤ most b) : signN l b = (if b then -(val l : Int) else (val l : Int)) ∧ signB l b = true := by
  unfold signN signB; rw [if_pos h]; exact ⟨rfl, decide_eq_true h⟩

/-- What Get tells: the number, the error, where. -/
def getAt (l : List UInt8) : Nat := sgn l + dtk (l.drop (sgn l)) (decide (0 < sgn l))
def getN (l : List UInt8) : Int :=
  if 20 < l.length then 0 else if getAt l < l.length ∨ getAt l = sgn l then 0 else signN (l.drop (sgn l)) (decide (0 < sgn l))
def getE (l : List UInt8) : Int :=
  if 20 < l.length then 4 else if getAt l < l.length ∨ getAt l = sgn l then 5 else if signB (l.drop (sgn l)) (decide (0 < sgn l)) then 0 else 3
def getP (l : List UInt8) : Int :=
  if 20 < l.length then 20 else if getAt l < l.length ∨ getAt l = sgn l then (getAt l : Int) else 0
theorem get_long (l : List UInt8) (h : 20 < l.length) : getN l = 0 ∧ getE l = 4 ∧ getP l = 20 := by
  unfold getN getE getP; rw [if_pos h, if_pos h, if_pos h]; exact ⟨rfl, rfl, rfl⟩
theorem get_form (l : List UInt8) (h : ¬ 20 < l.length) (h2 : getAt l < l.length ∨ getAt l = sgn l) : getN l = 0 ∧ getE l = 5 ∧ getP l = (getAt l : Int) := by
  unfold getN getE getP; rw [if_neg h, if_neg h, if_neg h, if_pos h2, if_pos h2, if_pos h2]; exact ⟨rfl, rfl, rfl⟩
theorem get_num (l : List UInt8) (h : ¬ 20 < l.length) (h2 : ¬ (getAt l < l.length ∨ getAt l = sgn l)) : getN l = signN (l.drop (sgn l)) (decide (0 < sgn l)) ∧ getE l = (if signB (l.drop (sgn l)) (decide (0 < sgn l)) then 0 else 3) ∧ getP l = 0 := by
  unfold getN getE getP; rw [if_neg h, if_neg h, if_neg h, if_neg h2, if_neg h2, if_neg h2]; exact ⟨rfl, rfl, rfl⟩

theorem signN_zero (l : List UInt8) (b : Bool) (h : signB l b = false) : signN l b = 0 := by
  unfold signB at h; unfold signN; rw [if_neg (of_decide_eq_false h)]

theorem sgn_le : ∀ l : List UInt8, sgn l ≤ 1 ∧ sgn l ≤ l.length
  | [] => by simp [sgn]
  | c :: r => by
    have : sgn (c :: r) ≤ 1 := by unfold sgn; split <;> omega
    exact ⟨this, by simp only [List.length_cons]; omega⟩
theorem takeWhile_le (p : UInt8 → Bool) : ∀ l : List UInt8, (l.takeWhile p).length ≤ l.length
  | [] => by simp
  | c :: r => by
    have := takeWhile_le p r
    rw [List.takeWhile_cons]; split <;> simp <;> omega
theorem dtk_le (l : List UInt8) (b : Bool) : dtk l b ≤ l.length := by
  unfold dtk; split
  · split <;> simp
  · exact takeWhile_le _ _
theorem takeWhile_all {p : UInt8 → Bool} : ∀ (l : List UInt8), (l.takeWhile p).length = l.length → ∀ c ∈ l, p c = true
  | [], _, c, hc => by cases hc
  | d :: r, h, c, hc => by
    rw [List.takeWhile_cons] at h
    by_cases hd : p d = true
    · rw [if_pos hd] at h
      rcases List.mem_cons.1 hc with rfl | hc
      · exact hd
      · exact takeWhile_all r (by simpa using h) c hc
    · rw [if_neg hd] at h; simp at h
/-- Where all of a text may be digits, they are. -/
theorem dtk_all (l : List UInt8) (b : Bool) (h : dtk l b = l.length) : ∀ c ∈ l, isD c = true := by
  unfold dtk at h; split at h
  · rename_i r
    split at h
    · simp at h
    · have : r = [] := List.eq_nil_of_length_eq_zero (by simpa using h.symm)
      subst this
      intro c hc; simp at hc; subst hc; decide
  · exact takeWhile_all l h
theorem extract_data (s : ByteArray) (g : Nat) : (s.extract g s.size).data.toList = s.data.toList.drop g := by
  rw [ByteArray.data_extract, Array.toList_extract, List.extract, List.take_of_length_le]
  rw [List.length_drop, bytes_len]
  exact Nat.le_refl _
theorem extract_size (s : ByteArray) (g : Nat) : (s.extract g s.size).size = s.size - g := by simp

/-! ### The digits of a number, the last one first -/
def dr : Nat → Nat → List Int
  | 0, _ => []
  | f + 1, m => if m < 10 then [48 + (m : Int) % 10] else (48 + (m : Int) % 10) :: dr f (m / 10)
theorem dr_small (f m : Nat) (h : m < 10) : dr (f + 1) m = [48 + (m : Int) % 10] := by rw [dr, if_pos h]
theorem dr_great (f m : Nat) (h : ¬ m < 10) : dr (f + 1) m = (48 + (m : Int) % 10) :: dr f (m / 10) := by rw [dr, if_neg h]
theorem dr_len : ∀ f m : Nat, (dr f m).length ≤ f
  | 0, _ => by simp [dr]
  | f + 1, m => by
    by_cases h : m < 10
    · rw [dr_small f m h]; simp
    · rw [dr_great f m h]; have := dr_len f (m / 10); simp; omega
theorem dr_pos (f m : Nat) : 1 ≤ (dr (f + 1) m).length := by
  by_cases h : m < 10
  · rw [dr_small f m h]; simp
  · rw [dr_great f m h]; simp
theorem dr_bd : ∀ (f m : Nat), ∀ x ∈ dr f m, 48 ≤ x ∧ x ≤ 57
  | 0, _ => by simp [dr]
  | f + 1, m => by
    intro x hx
    by_cases h : m < 10
    · rw [dr_small f m h] at hx; simp at hx; omega
    · rw [dr_great f m h] at hx
      rcases List.mem_cons.1 hx with rfl | hx
      · omega
      · exact dr_bd f _ x hx

/-- A number's text. -/
def putI (n : Int) : List Int := (dr 20 n.natAbs ++ (if n < 0 then [45] else [])).reverse
def putL (n : Int) : List UInt8 := (putI n).map fun x => UInt8.ofNat x.toNat
end Go.Proofs.YtpdbkjnaicjfdaaGreatDoor

namespace Go.Proofs.YtpdbkjnaicjfdaaGreatDoor
open Go.RowKit

def ub (x : Int) : UInt8 := UInt8.ofNat x.toNat
theorem ub_nat (d : Nat) (h : d < 10) : (ub (48 + (d : Int))).toNat = 48 + d := by
  unfold ub
  have e : (48 + (d : Int)).toNat = 48 + d := by omega
  rw [e, UInt8.toNat_ofNat', Nat.mod_eq_of_lt (by omega)]
theorem ub_mod (m : Nat) : (ub (48 + (m : Int) % 10)).toNat = 48 + m % 10 := by
  have := ub_nat (m % 10) (by omega)
  rw [show (48 + (m : Int) % 10) = 48 + ((m % 10 : Nat) : Int) by omega]; exact this

/-- The digits of m, the first one first. -/
def dsf (f m : Nat) : List UInt8 := (dr f m).reverse.map ub
theorem dsf_small (f m : Nat) (h : m < 10) : dsf (f + 1) m = [ub (48 + (m : Int) % 10)] := by unfold dsf; rw [dr_small f m h]; rfl
theorem dsf_great (f m : Nat) (h : ¬ m < 10) : dsf (f + 1) m = dsf f (m / 10) ++ [ub (48 + (m : Int) % 10)] := by
  unfold dsf; rw [dr_great f m h, List.reverse_cons, List.map_append]; rfl

theorem dsf_val : ∀ (f m : Nat), m < 10 ^ f → 0 < f → val (dsf f m) = m
  | 0, _, _, h => absurd h (by omega)
  | f + 1, m, hm, _ => by
    by_cases h : m < 10
    · rw [dsf_small f m h]
      show 0 * 10 + ((ub (48 + (m : Int) % 10)).toNat - 48) = m
      rw [ub_mod]; omega
    · rw [dsf_great f m h, val_snoc, ub_mod]
      have hf : 0 < f := by
        rcases Nat.eq_zero_or_pos f with rfl | hf
        · simp at hm; omega
        · exact hf
      rw [dsf_val f (m / 10) (by rw [Nat.pow_succ] at hm; exact Nat.div_lt_of_lt_mul (by rw [Nat.mul_comm]; exact hm)) hf]
      omega
theorem dsf_digits (f m : Nat) : ∀ c ∈ dsf f m, isD c = true := by
  intro c hc
  unfold dsf at hc
  obtain ⟨x, hx, rfl⟩ := List.mem_map.1 hc
  obtain ⟨h1, h2⟩ := dr_bd f m x (List.mem_reverse.1 hx)
  have := ub_nat (x - 48).toNat (by omega)
  rw [show (48 + (((x - 48).toNat : Nat) : Int)) = x by omega] at this
  exact isD_of (by omega) (by omega)
theorem dsf_pos (f m : Nat) : 1 ≤ (dsf (f + 1) m).length := by unfold dsf; have := dr_pos f m; simpa using this
theorem dsf_len : ∀ (f k m : Nat), m < 10 ^ k → 1 ≤ k → (dsf f m).length ≤ k
  | 0, k, m, _, _ => by simp [dsf, dr]
  | f + 1, k, m, hm, hk => by
    by_cases h : m < 10
    · rw [dsf_small f m h]; simpa using hk
    · rw [dsf_great f m h]
      obtain ⟨k', rfl⟩ : ∃ k', k = k' + 1 := ⟨k - 1, by omega⟩
      have hk' : 1 ≤ k' := by
        rcases Nat.eq_zero_or_pos k' with rfl | hf
        · simp at hm; omega
        · exact hf
      have := dsf_len f k' (m / 10) (by rw [Nat.pow_succ] at hm; exact Nat.div_lt_of_lt_mul (by rw [Nat.mul_comm]; exact hm)) hk'
      simp; omega
theorem dsf_head : ∀ (f m : Nat), m < 10 ^ f → 1 ≤ m → ∃ c r, dsf f m = c :: r ∧ c.toNat ≠ 48
  | 0, m, hm, h1 => by simp at hm; omega
  | f + 1, m, hm, h1 => by
    by_cases h : m < 10
    · exact ⟨_, [], dsf_small f m h, by rw [ub_mod]; omega⟩
    · obtain ⟨c, r, e, hc⟩ := dsf_head f (m / 10) (by rw [Nat.pow_succ] at hm; exact Nat.div_lt_of_lt_mul (by rw [Nat.mul_comm]; exact hm)) (by omega)
      exact ⟨c, r ++ [ub (48 + (m : Int) % 10)], by rw [dsf_great f m h, e]; rfl, hc⟩

/-- Digits without a nought ahead, unless it is all. -/
def Good (l : List UInt8) : Prop := (∀ c ∈ l, isD c = true) ∧ 1 ≤ l.length ∧ (l.length = 1 ∨ ∀ c r, l = c :: r → c.toNat ≠ 48)

theorem val_head (c : UInt8) (r : List UInt8) : c.toNat - 48 ≤ val (c :: r) := by
  show c.toNat - 48 ≤ valF (0 * 10 + (c.toNat - 48)) r
  rw [Nat.zero_mul, Nat.zero_add]; exact valF_le _ _

theorem good_dsf : ∀ (f : Nat) (l : List UInt8), Good l → l.length ≤ f → dsf f (val l) = l
  | 0, l, h, hl => by have := h.2.1; omega
  | f + 1, l, h, hl => by
    obtain ⟨h1, h2, h3⟩ := h
    rcases List.eq_nil_or_concat l with rfl | ⟨l', c, e⟩
    · simp at h2
    · rw [List.concat_eq_append] at e
      subst e
      have hc := isD_iff (h1 c (by simp))
      rw [val_snoc]
      have hub : ∀ d : Nat, d = c.toNat - 48 → ub (48 + (d : Int)) = c := fun d hd => UInt8.toNat_inj.1 (by rw [ub_nat d (by omega)]; omega)
      rcases Nat.eq_zero_or_pos l'.length with h0 | h0
      · obtain rfl : l' = [] := List.eq_nil_of_length_eq_zero h0
        have e0 : val [] = 0 := rfl
        rw [e0, dsf_small f _ (by omega)]
        have := hub (c.toNat - 48) rfl
        rw [show ((0 * 10 + (c.toNat - 48) : Nat) : Int) % 10 = ((c.toNat - 48 : Nat) : Int) by omega, this]; rfl
      · have h3' : ∀ d r, l' ++ [c] = d :: r → d.toNat ≠ 48 := by
          rcases h3 with h3 | h3
          · rw [List.length_append, List.length_singleton] at h3; omega
          · exact h3
        obtain ⟨d, r, e⟩ : ∃ d r, l' = d :: r := by
          cases l' with
          | nil => simp at h0
          | cons d r => exact ⟨d, r, rfl⟩
        have hd := h3' d (r ++ [c]) (by rw [e]; rfl)
        have hdd := isD_iff (h1 d (by rw [e]; simp))
        have hv : 1 ≤ val l' := by have := val_head d r; rw [← e] at this; omega
        rw [dsf_great f _ (by omega)]
        have e1 : (val l' * 10 + (c.toNat - 48)) / 10 = val l' := by omega
        rw [e1, good_dsf f l' ⟨fun x hx => h1 x (by simp [hx]), h0, .inr fun x y hxy => by
          rw [e] at hxy; injection hxy with hx hy; rw [← hx]; exact hd⟩ (by simp at hl; omega)]
        have := hub (c.toNat - 48) rfl
        rw [show ((val l' * 10 + (c.toNat - 48) : Nat) : Int) % 10 = ((c.toNat - 48 : Nat) : Int) by omega, this]

theorem putL_is (n : Int) : putL n = (if n < 0 then [45] else []) ++ dsf 20 n.natAbs := by
  unfold putL putI dsf ub
  split <;> simp

theorem takeWhile_full {p : UInt8 → Bool} : ∀ (l : List UInt8), (∀ c ∈ l, p c = true) → (l.takeWhile p).length = l.length
  | [], _ => rfl
  | d :: r, h => by
    rw [List.takeWhile_cons, if_pos (h d (by simp))]
    simp only [List.length_cons]
    rw [takeWhile_full r (fun c hc => h c (by simp [hc]))]
theorem dtk_good (l : List UInt8) (b : Bool) (h : Good l) (hb : b = true → ∀ c r, l = c :: r → c.toNat ≠ 48) : dtk l b = l.length := by
  unfold dtk; split
  · rename_i r
    cases b with
    | false =>
      rcases h.2.2 with h' | h'
      · simp; simpa using h'
      · exact absurd rfl (h' 48 r rfl)
    | true => exact absurd rfl (hb rfl 48 r rfl)
  · exact takeWhile_full l h.1
theorem good_of_dtk (l : List UInt8) (b : Bool) (h : dtk l b = l.length) (hp : 1 ≤ l.length) : Good l ∧ (b = true → ∀ c r, l = c :: r → c.toNat ≠ 48) := by
  have hd := dtk_all l b h
  have key : ∀ c r, l = c :: r → c.toNat = 48 → b = false ∧ r = [] := by
    intro c r e hc
    have : c = 48 := UInt8.toNat_inj.1 (by simpa using hc)
    subst this; subst e
    cases b with
    | false => exact ⟨rfl, List.eq_nil_of_length_eq_zero (by have : (1 : Nat) = r.length + 1 := h; omega)⟩
    | true => have : (0 : Nat) = r.length + 1 := h; omega
  refine ⟨⟨hd, hp, ?_⟩, fun hb c r e hc => by have := (key c r e hc).1; rw [hb] at this; cases this⟩
  by_cases h1 : l.length = 1
  · exact .inl h1
  · refine .inr fun c r e hc => h1 ?_
    have := (key c r e hc).2
    rw [e, this]; rfl

theorem sgn_digit (c : UInt8) (r : List UInt8) (h : isD c = true) : sgn (c :: r) = 0 := by
  unfold sgn; split
  · rename_i h'; injection h' with h1 _; rw [h1] at h; exact absurd h (by decide)
  · rfl
theorem sgn_cases (l : List UInt8) : (sgn l = 0) ∨ (sgn l = 1 ∧ ∃ r, l = 45 :: r) := by
  unfold sgn; split
  · rename_i r; exact .inr ⟨rfl, r, rfl⟩
  · exact .inl rfl

theorem pow19 : (10 : Nat) ^ 19 = 10000000000000000000 := by decide
theorem pow20 : (10 : Nat) ^ 20 = 100000000000000000000 := by decide

/-- What is put is got. -/
theorem get_put (n : Int) (h1 : -9223372036854775808 ≤ n) (h2 : n ≤ 9223372036854775807) : getN (putL n) = n ∧ getE (putL n) = 0 ∧ getP (putL n) = 0 := by
  have hm : n.natAbs < 10 ^ 19 := by rw [pow19]; omega
  have hm20 : n.natAbs < 10 ^ 20 := by rw [pow20]; omega
  have hlen := dsf_len 20 19 n.natAbs hm (by omega)
  have hlen1 : n.natAbs = 0 → (dsf 20 n.natAbs).length ≤ 1 := fun h0 => dsf_len 20 1 n.natAbs (by rw [h0]; decide) (by omega)
  have hpos : 1 ≤ (dsf 20 n.natAbs).length := dsf_pos 19 n.natAbs
  have hdig := dsf_digits 20 n.natAbs
  have hval := dsf_val 20 n.natAbs hm20 (by omega)
  have hhead := dsf_head 20 n.natAbs hm20
  rw [putL_is]
  generalize dsf 20 n.natAbs = D at *
  have hne : n.natAbs ≠ 0 → ∀ c r, D = c :: r → c.toNat ≠ 48 := by
    intro h0 c r e
    obtain ⟨c', r', e', hc'⟩ := hhead (by omega)
    rw [e] at e'; injection e' with e1 _; rw [e1]; exact hc'
  clear hhead
  by_cases hneg : n < 0
  · rw [if_pos hneg]
    have hne' := hne (by omega)
    have hs : sgn ([45] ++ D) = 1 := rfl
    have hd1 : List.drop 1 ([45] ++ D) = D := rfl
    have hdt : dtk D true = D.length := dtk_good D _ ⟨hdig, hpos, .inr hne'⟩ (fun _ => hne')
    have hat : getAt ([45] ++ D) = 1 + D.length := by
      unfold getAt; rw [hs, hd1, show decide (0 < 1) = true from rfl, hdt]
    have hl : ([45] ++ D).length = 1 + D.length := by simp; omega
    have hmo : n.natAbs ≤ 9223372036854775808 := by omega
    have hok := signN_ok D true (by rw [hval, most_true]; exact hmo)
    rw [hval] at hok
    have hg := get_num ([45] ++ D) (by rw [hl]; omega) (by rw [hl, hat, hs]; omega)
    rw [hs, hd1, show decide (0 < 1) = true from rfl, hok.1, hok.2] at hg
    refine ⟨by rw [hg.1, if_pos rfl]; omega, by rw [hg.2.1]; rfl, hg.2.2⟩
  · rw [if_neg hneg, List.nil_append]
    obtain ⟨c, r, e⟩ : ∃ c r, D = c :: r := by
      cases D with
      | nil => simp at hpos
      | cons c r => exact ⟨c, r, rfl⟩
    have hs : sgn D = 0 := by rw [e]; exact sgn_digit c r (hdig c (by rw [e]; simp))
    have hG : Good D := by
      refine ⟨hdig, hpos, ?_⟩
      by_cases h0 : n.natAbs = 0
      · have := hlen1 h0
        left; omega
      · exact .inr (hne h0)
    have hdt : dtk D false = D.length := dtk_good D _ hG (fun h => by cases h)
    have hat : getAt D = D.length := by
      unfold getAt; rw [hs, List.drop_zero, show decide (0 < 0) = false from rfl, hdt, Nat.zero_add]
    have hmo : n.natAbs ≤ 9223372036854775807 := by omega
    have hok := signN_ok D false (by rw [hval, most_false]; exact hmo)
    rw [hval] at hok
    have hg := get_num D (by omega) (by rw [hat, hs]; omega)
    rw [hs, List.drop_zero, show decide (0 < 0) = false from rfl, hok.1, hok.2] at hg
    refine ⟨by rw [hg.1, if_neg (by simp)]; omega, by rw [hg.2.1]; rfl, hg.2.2⟩

/-- What is got is put as it was. -/
theorem put_get (l : List UInt8) (h : getE l = 0) : putL (getN l) = l ∧ -9223372036854775808 ≤ getN l ∧ getN l ≤ 9223372036854775807 := by
  by_cases h20 : 20 < l.length
  · have := (get_long l h20).2.1; omega
  by_cases hf : getAt l < l.length ∨ getAt l = sgn l
  · have := (get_form l h20 hf).2.1; omega
  obtain ⟨g1, g2, _⟩ := get_num l h20 hf
  rw [h] at g2
  obtain ⟨hs1, hs2⟩ := sgn_le l
  have hle := dtk_le (l.drop (sgn l)) (decide (0 < sgn l))
  rw [List.length_drop] at hle
  have hat : getAt l = sgn l + dtk (l.drop (sgn l)) (decide (0 < sgn l)) := rfl
  have hdt : dtk (l.drop (sgn l)) (decide (0 < sgn l)) = (l.drop (sgn l)).length := by rw [List.length_drop]; omega
  have hpos : 1 ≤ (l.drop (sgn l)).length := by rw [List.length_drop]; omega
  obtain ⟨hG, hb⟩ := good_of_dtk _ _ hdt hpos
  have hB : signB (l.drop (sgn l)) (decide (0 < sgn l)) = true := by
    by_cases hB : signB (l.drop (sgn l)) (decide (0 < sgn l)) = true
    · exact hB
    · rw [if_neg hB] at g2; omega
  have hv : val (l.drop (sgn l)) ≤ most (decide (0 < sgn l)) := of_decide_eq_true hB
  have hback := good_dsf 20 (l.drop (sgn l)) hG (by rw [List.length_drop]; omega)
  rw [g1, (signN_ok _ _ hv).1]
  rcases sgn_cases l with hs | ⟨hs, r, e⟩
  · rw [hs] at hv hback ⊢
    rw [List.drop_zero] at hv hback ⊢
    rw [show decide (0 < 0) = false from rfl] at hv ⊢
    rw [most_false] at hv
    rw [if_neg (by simp)]
    refine ⟨?_, by omega, by omega⟩
    rw [putL_is, if_neg (by omega), Int.natAbs_natCast, hback]; rfl
  · rw [hs] at hv hback hb hG ⊢
    have hd : List.drop 1 l = r := by rw [e]; rfl
    rw [hd] at hv hback hb hG ⊢
    rw [show decide (0 < 1) = true from rfl] at hv hb ⊢
    rw [most_true] at hv
    rw [if_pos rfl]
    have hv1 : 1 ≤ val r := by
      obtain ⟨c, r', e'⟩ : ∃ c r', r = c :: r' := by
        cases r with
        | nil => have := hG.2.1; simp at this
        | cons c r' => exact ⟨c, r', rfl⟩
      have h1 := hb rfl c r' e'
      have h2 := isD_iff (hG.1 c (by rw [e']; simp))
      have h3 := val_head c r'
      rw [← e'] at h3; omega
    refine ⟨?_, by omega, by omega⟩
    rw [putL_is, if_pos (by omega), Int.natAbs_neg, Int.natAbs_natCast, hback, e]; rfl

/-- Of what is no number's text nothing is told but where. -/
theorem get_not (l : List UInt8) (h : getE l ≠ 0) : getN l = 0 ∧ (l.length ≤ 20 → 0 ≤ getP l ∧ getP l ≤ l.length) ∧ (20 < l.length → getP l = 20) := by
  by_cases h20 : 20 < l.length
  · obtain ⟨h1, _, h3⟩ := get_long l h20
    exact ⟨h1, fun h => by omega, fun _ => h3⟩
  by_cases hf : getAt l < l.length ∨ getAt l = sgn l
  · obtain ⟨h1, _, h3⟩ := get_form l h20 hf
    have hs := sgn_le l
    exact ⟨h1, fun _ => by rw [h3]; omega, fun h => absurd h h20⟩
  · obtain ⟨h1, h2, h3⟩ := get_num l h20 hf
    have hB : signB (l.drop (sgn l)) (decide (0 < sgn l)) = false := by
      cases hB : signB (l.drop (sgn l)) (decide (0 < sgn l)) with
      | false => rfl
      | true => rw [hB, if_pos rfl] at h2; exact absurd h2 h
    exact ⟨by rw [h1]; exact signN_zero _ _ hB, fun _ => by rw [h3]; omega, fun h => absurd h h20⟩
end Go.Proofs.YtpdbkjnaicjfdaaGreatDoor

namespace Go.Proofs.YtpdbkjnaicjfdaaGreatDoor
open Go.RowKit
set_option linter.unusedVariables false

set_option maxHeartbeats 400000 in
theorem size_any (a : Int) (w : World) (h1 : -9223372036854775808 ≤ a) (h2 : a ≤ 9223372036854775807) :
    Calls Tryz.prog 135 #[.int .i64 a] w fun e w' => e = .returned (.int .u64 (sz a)) ∧ w = w' := by
  by_cases h : a < 0
  · have hq := Lib.hid (sz_neg a h1 h)
    go_enter Tryz.func135, Tryz.ntmps135
    go_wp2
    go_ret
    exact ⟨ret_int hq.out, rfl⟩
  · have hz : sz a = a := by unfold sz; rw [if_neg h]
    have hq := Lib.hid hz
    clear hz
    go_enter Tryz.func135, Tryz.ntmps135
    go_wp2
    go_ret
    exact ⟨ret_int hq.out.symm, rfl⟩

end Go.Proofs.YtpdbkjnaicjfdaaGreatDoor

namespace Go.Proofs.YtpdbkjnaicjfdaaGreatDoor
open Go.RowKit
set_option linter.unusedVariables false

/-- A slice's address A, of whatever capacity, reads as the numbers l (nil let in). -/
def Ints (w : World) (A : Option Addr) (l : List Int) : Prop :=
  0 < l.length → ∃ b off, A = some ⟨b, off, none⟩ ∧ b < w.heap.size ∧ ∀ j, j < l.length → w.cell? ⟨b, off + j, none⟩ = some (.int .i64 (l[j]?.getD 0))

theorem Ints.below {w w' : World} {A : Option Addr} {l : List Int} (h : Ints w A l) (hb : Below w.heap.size w w') : Ints w' A l := fun hl => by
  obtain ⟨b, off, e, hlt, hc⟩ := h hl
  exact ⟨b, off, e, Nat.lt_of_lt_of_le hlt hb.size, fun j hj => (hb.cell (p := ⟨b, off + j, none⟩) hlt).trans (hc j hj)⟩

def Small (x : Int) : Prop := -9223372036854775808 ≤ x ∧ x ≤ 9223372036854775807

theorem take_snoc {α : Type} (l : List α) (k : Nat) (h : k < l.length) : l.take (k + 1) = l.take k ++ [l[k]] := List.take_succ_eq_append_getElem h

theorem tot_take (l : List Int) (k : Nat) (h : k < l.length) : tot (l.take (k + 1)) = tot (l.take k) + l[k]?.getD 0 := by
  rw [take_snoc l k h, tot_snoc, List.getElem?_eq_getElem h]; rfl

theorem small_at {l : List Int} (h : ∀ x ∈ l, Small x) (k : Nat) (hk : k < l.length) : Small (l[k]?.getD 0) := by
  rw [List.getElem?_eq_getElem hk]; exact h _ (List.getElem_mem hk)

theorem all_sum_bd (l : List Int) (h : ∀ x ∈ l, Small x) (hl : l.length ≤ 4611686018427387904) : -170141183460469231731687303715884105728 ≤ tot l ∧ tot l ≤ 170141183460469231731687303715884105727 := by
  have := tot_bd l h
  have hl' : (l.length : Int) ≤ 4611686018427387904 := by omega
  omega

def AllPost (l : List Int) (w : World) (e : Ending) (w' : World) : Prop := e = .returned (.tuple #[.int .i64 (allN l), .int .i64 (allE l)]) ∧ Below w.heap.size w w'

end Go.Proofs.YtpdbkjnaicjfdaaGreatDoor

namespace Go.Proofs.YtpdbkjnaicjfdaaGreatDoor
open Go.RowKit
set_option linter.unusedVariables false

set_option maxHeartbeats 400000 in
theorem signs_any (s : ByteArray) (w : World) (hs : s.size ≤ maxLen) :
    Calls Tryz.prog 170 #[.string s] w fun e w' => e = .returned (.int .i64 (sgn s.data.toList)) ∧ w = w' := by
  unfold maxLen at hs
  by_cases h : 0 < s.size
  · by_cases h45 : s[0].toNat = 45
    · have H := Lib.hid (sgn_yes s h h45)
      have hb : ((s[0].toNat : Int) == 45) = true := by rw [h45]; rfl
      clear h45
      go_enter Tryz.func170, Tryz.ntmps170
      go_wp2
      go_ret
      exact ⟨ret_int (by rw [H.out]; rfl), rfl⟩
    · have H := Lib.hid (sgn_no s h h45)
      have hb : ((s[0].toNat : Int) == 45) = false := by simp; omega
      clear h45
      go_enter Tryz.func170, Tryz.ntmps170
      go_wp2
      go_ret
      exact ⟨ret_int (by rw [H.out]; rfl), rfl⟩
  · have H := Lib.hid (sgn_nil s (by omega))
    have hb : decide (0 < s.size) = false := by simpa using h
    clear h
    go_enter Tryz.func170, Tryz.ntmps170
    go_wp2
    go_ret
    exact ⟨ret_int (by rw [H.out]; rfl), rfl⟩

set_option maxHeartbeats 1000000 in
theorem taken_any (s : ByteArray) (b : Bool) (w : World) (hs : s.size ≤ maxLen) :
    Calls Tryz.prog 171 #[.string s, .bool b] w fun e w' => e = .returned (.int .i64 (dtk s.data.toList b)) ∧ w = w' := by
  unfold maxLen at hs
  by_cases hz : 0 < s.size ∧ s[0]!.toNat = 48
  · obtain ⟨h, h48⟩ := hz
    have h48' : s[0].toNat = 48 := by rw [getElem!_pos s 0 h] at h48; exact h48
    have H := Lib.hid (dtk_zero s b h h48')
    have hb : ((s[0].toNat : Int) == 48) = true := by rw [h48']; rfl
    clear h48 h48'
    cases b
    all_goals
      go_enter Tryz.func171, Tryz.ntmps171
      go_wp2
      go_ret
      exact ⟨ret_int (by rw [H.out]; rfl), rfl⟩
  · have H := Lib.hid (dtk_else s b (fun h => fun e => hz ⟨h, e⟩))
    by_cases h : 0 < s.size
    · have h48 : s[0].toNat ≠ 48 := by
        intro e; exact hz ⟨h, by rw [getElem!_pos s 0 h]; exact e⟩
      have hb : ((s[0].toNat : Int) == 48) = false := by simp; omega
      clear hz h48
      go_enter Tryz.func171, Tryz.ntmps171
      go_wp2
      go_loop [17] (fun i => ∃ k : Nat, k ≤ s.size ∧ i = .int .i64 k ∧ ∀ j c, j < k → s.data.toList[j]? = some c → isD c = true) (fun i => s.size - (intOf i).toNat)
      case atStart => exact ⟨0, Nat.zero_le _, rfl, fun j c hj => absurd hj (by omega)⟩
      case round =>
        obtain ⟨k, hk, rfl, hd⟩ := hrel
        have HD := Lib.hid hd
        clear hd
        by_cases hlt : k < s.size
        · have hat := Lib.hid (byte_at s k hlt)
          by_cases h1 : s[k].toNat < 48
          · have HL := Lib.hid (takeWhile_len s.data.toList k (by rw [bytes_len]; exact hk) HD.out (fun c hc => by rw [hat.out] at hc; injection hc with hc; rw [← hc]; exact isD_not (.inl h1)))
            go_wp2
            go_ret
            exact ⟨ret_int (by rw [H.out, HL.out]), rfl⟩
          · by_cases h2 : 57 < s[k].toNat
            · have HL := Lib.hid (takeWhile_len s.data.toList k (by rw [bytes_len]; exact hk) HD.out (fun c hc => by rw [hat.out] at hc; injection hc with hc; rw [← hc]; exact isD_not (.inr h2)))
              go_wp2
              go_ret
              exact ⟨ret_int (by rw [H.out, HL.out]), rfl⟩
            · have hdk : isD s[k] = true := isD_of (by omega) (by omega)
              have HK := Lib.hid hdk
              clear hdk
              go_wp2
              go_round
              case rel => exact ⟨k + 1, by omega, by go_num, fun j c hj hc => by
                rcases Nat.lt_or_ge j k with h' | h'
                · exact HD.out j c h' hc
                · have e : j = k := by omega
                  rw [e, hat.out] at hc; injection hc with hc; rw [← hc]; exact HK.out⟩
              case measure => simp [intOf]; omega
        · have HL := Lib.hid (takeWhile_len s.data.toList k (by rw [bytes_len]; exact hk) HD.out (fun c hc => by rw [List.getElem?_eq_none (by rw [bytes_len]; omega)] at hc; cases hc))
          go_wp2
          go_ret
          exact ⟨ret_int (by rw [H.out, HL.out]; omega), rfl⟩
    · have hb : decide (0 < s.size) = false := by simpa using h
      clear hz
      go_enter Tryz.func171, Tryz.ntmps171
      go_wp2
      go_loop [17] (fun i => ∃ k : Nat, k ≤ s.size ∧ i = .int .i64 k ∧ ∀ j c, j < k → s.data.toList[j]? = some c → isD c = true) (fun i => s.size - (intOf i).toNat)
      case atStart => exact ⟨0, Nat.zero_le _, rfl, fun j c hj => absurd hj (by omega)⟩
      case round =>
        obtain ⟨k, hk, rfl, hd⟩ := hrel
        have HD := Lib.hid hd
        clear hd
        by_cases hlt : k < s.size
        · exact absurd hlt (by omega)
        · have HL := Lib.hid (takeWhile_len s.data.toList k (by rw [bytes_len]; exact hk) HD.out (fun c hc => by rw [List.getElem?_eq_none (by rw [bytes_len]; omega)] at hc; cases hc))
          go_wp2
          go_ret
          exact ⟨ret_int (by rw [H.out, HL.out]; omega), rfl⟩

set_option maxHeartbeats 1000000 in
theorem signed_any (s : ByteArray) (b : Bool) (w : World) (hs : s.size ≤ maxLen) (hd : ∀ (k : Nat) (h : k < s.size), isD s[k] = true) :
    Calls Tryz.prog 172 #[.string s, .bool b] w fun e w' => e = .returned (.tuple #[.int .i64 (signN s.data.toList b), .bool (signB s.data.toList b)]) ∧ w = w' := by
  unfold maxLen at hs
  have HD := Lib.hid hd
  clear hd
  cases b
  · go_enter Tryz.func172, Tryz.ntmps172
    go_wp2
    go_loop [7, 13] (fun m i => ∃ k : Nat, k ≤ s.size ∧ i = .int .i64 k ∧ m = .int .u64 (val (s.data.toList.take k) : Nat) ∧ val (s.data.toList.take k) ≤ 9223372036854775807) (fun m i => s.size - (intOf i).toNat)
    case atStart => exact ⟨0, Nat.zero_le _, rfl, rfl, val_none _ _⟩
    case round =>
      obtain ⟨k, hk, rfl, rfl, hle⟩ := hrel
      by_cases hlt : k < s.size
      · obtain ⟨d1, d2⟩ := isD_iff (HD.out k hlt)
        have HV := Lib.hid (val_take s k hlt)
        generalize hm : val (s.data.toList.take k) = m at *
        have HM := Lib.hid hm
        clear hm
        by_cases hover : m * 10 + (s[k].toNat - 48) ≤ 9223372036854775807
        · go_wp2
          go_round
          case rel => exact ⟨k + 1, by omega, by go_num, by rw [HV.out]; go_num, by rw [HV.out]; exact hover⟩
          case measure => simp [intOf]; omega
        · have HN := Lib.hid (signN_no s.data.toList false (by have := val_take_le s.data.toList (k + 1); rw [HV.out] at this; rw [most_false]; omega))
          go_wp2
          go_ret2
          exact ⟨by rw [HN.out.1, HN.out.2]; rfl, rfl⟩
      · have hkl : s.data.toList.take k = s.data.toList := List.take_of_length_le (by rw [bytes_len]; omega)
        rw [hkl] at hle ⊢
        have HN := Lib.hid (signN_ok s.data.toList false (by rw [most_false]; omega))
        clear hkl
        generalize val s.data.toList = m at *
        have HW := Lib.hid (neg_back m (by omega))
        go_wp2
        go_ret2
        exact ⟨by rw [HN.out.1, HN.out.2]; rfl, rfl⟩
  · go_enter Tryz.func172, Tryz.ntmps172
    go_wp2
    go_loop [7, 13] (fun m i => ∃ k : Nat, k ≤ s.size ∧ i = .int .i64 k ∧ m = .int .u64 (val (s.data.toList.take k) : Nat) ∧ val (s.data.toList.take k) ≤ 9223372036854775808) (fun m i => s.size - (intOf i).toNat)
    case atStart => exact ⟨0, Nat.zero_le _, rfl, rfl, val_none _ _⟩
    case round =>
      obtain ⟨k, hk, rfl, rfl, hle⟩ := hrel
      by_cases hlt : k < s.size
      · obtain ⟨d1, d2⟩ := isD_iff (HD.out k hlt)
        have HV := Lib.hid (val_take s k hlt)
        generalize hm : val (s.data.toList.take k) = m at *
        have HM := Lib.hid hm
        clear hm
        by_cases hover : m * 10 + (s[k].toNat - 48) ≤ 9223372036854775808
        · go_wp2
          go_round
          case rel => exact ⟨k + 1, by omega, by go_num, by rw [HV.out]; go_num, by rw [HV.out]; exact hover⟩
          case measure => simp [intOf]; omega
        · have HN := Lib.hid (signN_no s.data.toList true (by have := val_take_le s.data.toList (k + 1); rw [HV.out] at this; rw [most_true]; omega))
          go_wp2
          go_ret2
          exact ⟨by rw [HN.out.1, HN.out.2]; rfl, rfl⟩
      · have hkl : s.data.toList.take k = s.data.toList := List.take_of_length_le (by rw [bytes_len]; omega)
        rw [hkl] at hle ⊢
        have HN := Lib.hid (signN_ok s.data.toList true (by rw [most_true]; omega))
        clear hkl
        generalize val s.data.toList = m at *
        have HW := Lib.hid (neg_back m (by omega))
        go_wp2
        go_ret2
        exact ⟨by rw [HN.out.1, HN.out.2]; simp [HW.out], rfl⟩
end Go.Proofs.YtpdbkjnaicjfdaaGreatDoor

namespace Go.Proofs.YtpdbkjnaicjfdaaGreatDoor
open Go.RowKit
set_option linter.unusedVariables false

def GetPost (l : List UInt8) (w : World) (e : Ending) (w' : World) : Prop :=
  e = .returned (.tuple #[.int .i64 (getN l), .agg #[.int .i64 (getE l), .int .i64 (getP l)]]) ∧ Below w.heap.size w w'

set_option maxHeartbeats 1000000 in
theorem get_any (s : ByteArray) (w : World) (hs : s.size ≤ maxLen) :
    Calls Tryz.prog 161 #[.string s] w (GetPost s.data.toList w) := by
  have hs' := hs
  unfold maxLen at hs
  have hl := bytes_len s
  by_cases h20 : 20 < s.size
  · have H := Lib.hid (get_long s.data.toList (by omega))
    clear hl
    go_enter Tryz.func161, Tryz.ntmps161
    go_wp2
    exact bodyPost_ret (v := .tuple #[.int .i64 0, .agg #[.int .i64 4, .int .i64 20]]) (by simp [results, Tryz.results161, go_sem]) rfl ⟨by rw [H.out.1, H.out.2.1, H.out.2.2], (Below.refl _ _).alloc (Nat.le_refl _) _⟩
  · obtain ⟨hg1, hg2⟩ := sgn_le s.data.toList
    have hat := dtk_le (s.data.toList.drop (sgn s.data.toList)) (decide (0 < sgn s.data.toList))
    rw [List.length_drop] at hat
    rw [hl] at hat hg2
    have HF := Lib.hid (get_form s.data.toList (by omega))
    have HN := Lib.hid (get_num s.data.toList (by omega))
    have HA : Hid (getAt s.data.toList = sgn s.data.toList + dtk (s.data.toList.drop (sgn s.data.toList)) (decide (0 < sgn s.data.toList))) := rfl
    have HD := Lib.hid (dtk_all (s.data.toList.drop (sgn s.data.toList)) (decide (0 < sgn s.data.toList)))
    have HS := Lib.hid (fun W => signs_any s W hs')
    have HL := Lib.hid hl
    clear hl
    generalize hg : sgn s.data.toList = g at *
    clear hg
    have HX := Lib.hid (extract_data s g)
    have HT := Lib.hid (taken_any (s.extract g s.size) (decide (0 < g)))
    rw [HX.out, extract_size] at HT
    generalize hd : dtk (s.data.toList.drop g) (decide (0 < g)) = d at *
    clear hd
    have hfit : s.size - g ≤ maxLen := Nat.le_trans (Nat.sub_le _ _) hs'
    by_cases hbad : g + d < s.size ∨ d = 0
    · have HF' := Lib.hid (HF.out (by rw [HA.out, HL.out]; omega))
      rw [HA.out] at HF'
      clear HF HN HA HD
      by_cases hlt : g + d < s.size
      · go_enter Tryz.func161, Tryz.ntmps161
        go_wp2_with fail
        refine (HS.out _).mono ?_
        rintro e w' ⟨rfl, rfl⟩
        go_wp2_with fail
        refine (HT.out _ hfit).mono ?_
        rintro e w' ⟨rfl, rfl⟩
        go_wp2
        exact bodyPost_ret (v := .tuple #[.int .i64 0, .agg #[.int .i64 5, .int .i64 (g + d)]]) (by simp [results, Tryz.results161, go_sem]) rfl ⟨by rw [HF'.out.1, HF'.out.2.1, HF'.out.2.2]; rfl, (Below.refl _ _).alloc (Nat.le_refl _) _⟩
      · have hb1 : decide (g + d < s.size) = false := by simpa using hlt
        obtain rfl : d = 0 := by omega
        have hb2 : ((g : Int) == g) = true := by simp
        go_enter Tryz.func161, Tryz.ntmps161
        go_wp2_with fail
        refine (HS.out _).mono ?_
        rintro e w' ⟨rfl, rfl⟩
        go_wp2_with fail
        refine (HT.out _ hfit).mono ?_
        rintro e w' ⟨rfl, rfl⟩
        go_wp2
        exact bodyPost_ret (v := .tuple #[.int .i64 0, .agg #[.int .i64 5, .int .i64 g]]) (by simp [results, Tryz.results161, go_sem]) rfl ⟨by rw [HF'.out.1, HF'.out.2.1, HF'.out.2.2]; rfl, (Below.refl _ _).alloc (Nat.le_refl _) _⟩
    · have HN' := Lib.hid (HN.out (by rw [HA.out, HL.out]; omega))
      have HD' := Lib.hid (HD.out (by rw [List.length_drop, HL.out]; omega))
      have HG := Lib.hid (fun W => signed_any (s.extract g s.size) (decide (0 < g)) W (by rw [extract_size]; exact hfit) (fun k hk => HD'.out _ (by rw [← HX.out]; exact List.mem_of_getElem? (byte_at _ k hk))))
      rw [HX.out] at HG
      clear HF HN HA HD HD'
      have hb1 : decide (g + d < s.size) = false := by simp; omega
      have hb2 : ((g : Int) + d == g) = false := by simp; omega
      have HZ := Lib.hid (signN_zero (s.data.toList.drop g) (decide (0 < g)))
      generalize signN (s.data.toList.drop g) (decide (0 < g)) = x at *
      generalize signB (s.data.toList.drop g) (decide (0 < g)) = ok at *
      cases ok
      · obtain rfl : x = 0 := HZ.out rfl
        go_enter Tryz.func161, Tryz.ntmps161
        go_wp2_with fail
        refine (HS.out _).mono ?_
        rintro e w' ⟨rfl, rfl⟩
        go_wp2_with fail
        refine (HT.out _ hfit).mono ?_
        rintro e w' ⟨rfl, rfl⟩
        go_wp2_with fail
        refine (HG.out _).mono ?_
        rintro e w' ⟨rfl, rfl⟩
        go_wp2
        exact bodyPost_ret (v := .tuple #[.int .i64 0, .agg #[.int .i64 3, .int .i64 0]]) (by simp [results, Tryz.results161, go_sem]) rfl ⟨by rw [HN'.out.1, HN'.out.2.1, HN'.out.2.2]; rfl, (Below.refl _ _).alloc (Nat.le_refl _) _⟩
      · go_enter Tryz.func161, Tryz.ntmps161
        go_wp2_with fail
        refine (HS.out _).mono ?_
        rintro e w' ⟨rfl, rfl⟩
        go_wp2_with fail
        refine (HT.out _ hfit).mono ?_
        rintro e w' ⟨rfl, rfl⟩
        go_wp2_with fail
        refine (HG.out _).mono ?_
        rintro e w' ⟨rfl, rfl⟩
        go_wp2
        exact bodyPost_ret (v := .tuple #[.int .i64 x, .agg #[.int .i64 0, .int .i64 0]]) (by simp [results, Tryz.results161, go_sem]) rfl ⟨by rw [HN'.out.1, HN'.out.2.1, HN'.out.2.2]; rfl, (Below.refl _ _).alloc (Nat.le_refl _) _⟩
end Go.Proofs.YtpdbkjnaicjfdaaGreatDoor

namespace Go.Proofs.YtpdbkjnaicjfdaaGreatDoor
open Go.RowKit
set_option linter.unusedVariables false

/-- Of a list of length n: the first k and the last k exchanged. -/
def Turned (n k : Nat) (zs ys : List Int) : Prop :=
  ys.length = n ∧ ∀ j, j < n → ys[j]? = if j < k ∨ n - 1 - k < j then zs[n - 1 - j]? else zs[j]?

theorem turned_start (zs : List Int) : Turned zs.length 0 zs zs := ⟨rfl, fun j hj => by rw [if_neg (by omega)]⟩
theorem turned_step {n k : Nat} {zs ys : List Int} {a b : Int} (h : Turned n k zs ys) (hz : zs.length = n) (hk : k < n - 1 - k) (ha : ys[k]? = some a) (hb : ys[n - 1 - k]? = some b) :
    Turned n (k + 1) zs ((ys.set k b).set (n - 1 - k) a) := by
  refine ⟨by simp [h.1], fun j hj => ?_⟩
  have hl := h.1
  have e1 := h.2 k (by omega)
  have e2 := h.2 (n - 1 - k) (by omega)
  rw [if_neg (by omega), ha] at e1
  rw [if_neg (by omega), hb] at e2
  rw [List.getElem?_set, List.getElem?_set]
  by_cases h1 : n - 1 - k = j
  · rw [if_pos h1, if_pos (by simp [hl]; omega), if_pos (by omega), show n - 1 - j = k by omega, ← e1]
  · rw [if_neg h1]
    by_cases h2 : k = j
    · rw [if_pos h2, if_pos (by omega), if_pos (by omega), show n - 1 - j = n - 1 - k by omega, ← e2]
    · rw [if_neg h2, h.2 j hj]
      by_cases h3 : j < k ∨ n - 1 - k < j
      · rw [if_pos h3, if_pos (by omega)]
      · rw [if_neg h3, if_neg (by omega)]
theorem turned_end {n k : Nat} {zs ys : List Int} (h : Turned n k zs ys) (hz : zs.length = n) (hk : n ≤ 2 * k + 1) : ys = zs.reverse := by
  apply List.ext_getElem?
  intro j
  by_cases hj : j < n
  · rw [h.2 j hj, List.getElem?_reverse (by omega), hz]
    by_cases h3 : j < k ∨ n - 1 - k < j
    · rw [if_pos h3]
    · rw [if_neg h3, show n - 1 - j = j by omega]
  · rw [List.getElem?_eq_none (by rw [h.1]; omega), List.getElem?_eq_none (by simp; omega)]

theorem bytes_cell {w : World} {base g cap n : Nat} {ys : List Int} (h : w.ownsRow base 5 1 (.slice (some ⟨g, 0, none⟩) n cap) n (bytesOf ys)) {j : Nat} {a : Int} (hj : j < n) (ha : ys[j]? = some a) :
    w.cell? ⟨g, j, none⟩ = some (.int .u8 a) ∧ w.frozen? ⟨g, j, none⟩ = false := by
  refine ⟨?_, h.frozenAt j⟩
  rw [h.cellAt j (by omega), bytesOf, List.getElem?_map, ha]; rfl

def RevPost (base g cap n : Nat) (zs : List Int) (w : World) (e : Ending) (w' : World) : Prop :=
  e = .returned (.tuple #[]) ∧ w'.ownsRow base 5 1 (.slice (some ⟨g, 0, none⟩) n cap) n (bytesOf zs.reverse) ∧ w.grownBy w' (some g)

theorem grown_step {w a : World} {g : Nat} (h : w.grownBy a (some g)) (i j : Nat) (u v : Value) : w.grownBy (((a.setCell ⟨g, i, none⟩ u).setCell ⟨g, j, none⟩ v).drew) (some g) :=
  ⟨h.os, h.tape, h.output, by simpa [World.setCell] using h.size, fun k hk hne => by
    show ((a.setCell ⟨g, i, none⟩ u).setCell ⟨g, j, none⟩ v).heap[k]? = _
    have hkg : k ≠ g := fun e => hne (by rw [e])
    rw [Below.heap_setCell _ _ _ _ hkg, Below.heap_setCell _ _ _ _ hkg]; exact h.block k hk hne⟩

set_option maxHeartbeats 1000000 in
theorem reverse_any (base g cap n : Nat) (zs : List Int) (w : World) (hz : zs.length = n) (hn : 1 ≤ n) (hn2 : n ≤ 1000000) (hown : w.ownsRow base 5 1 (.slice (some ⟨g, 0, none⟩) n cap) n (bytesOf zs)) :
    Calls Tryz.prog 136 #[.slice (some ⟨g, 0, none⟩) n cap] w (RevPost base g cap n zs w) := by
  have HZ := Lib.hid hz
  have HO := Lib.hid hown
  clear hz hown
  go_enter Tryz.func136, Tryz.ntmps136
  go_wp2
  go_loopw [2, 3] (fun s2 s3 wr => ∃ (k jn : Nat) (ys : List Int), s2 = .int .i64 k ∧ s3 = .int .i64 jn ∧ k + jn + 1 = n ∧ Turned n k zs ys ∧ wr.ownsRow base 5 1 (.slice (some ⟨g, 0, none⟩) n cap) n (bytesOf ys) ∧ w.grownBy wr (some g)) (fun s2 s3 wr => (intOf s3).toNat + 1)
  case atStart => exact ⟨0, n - 1, zs, rfl, by congr 1; omega, by omega, by rw [← HZ.out]; exact turned_start zs, HO.out, World.grownBy.refl _ _⟩
  case round =>
    obtain ⟨k, jn, ys, rfl, rfl, hkj, ht, ho, hg⟩ := hrel
    have HT := Lib.hid ht
    have HO' := Lib.hid ho
    have HG := Lib.hid hg
    have HK := Lib.hid hkj
    have hk1 : k < n := by omega
    have hj1 : jn < n := by omega
    clear ht ho hg hkj
    by_cases hlt : k < jn
    · have hl := HT.out.1
      obtain ⟨a, ha⟩ : ∃ a, ys[k]? = some a := ⟨_, List.getElem?_eq_getElem (by omega)⟩
      obtain ⟨b, hb⟩ : ∃ b, ys[jn]? = some b := ⟨_, List.getElem?_eq_getElem (by omega)⟩
      obtain ⟨ca, fa⟩ := bytes_cell HO'.out hk1 ha
      obtain ⟨cb, fb⟩ := bytes_cell HO'.out hj1 hb
      have HA := Lib.hid ha
      have HB := Lib.hid hb
      clear hl ha hb
      go_wp2_with fail
      go_region
      go_wp2
      go_roundw
      case rel =>
        have hkj := HK.out
        have hjn : n - 1 - k = jn := by omega
        refine ⟨k + 1, jn - 1, (ys.set k b).set jn a, by go_num, by congr 1; omega, by omega, ?_, ?_, grown_step HG.out _ _ _ _⟩
        · have := turned_step HT.out HZ.out (by omega) HA.out (by rw [hjn]; exact HB.out)
          rw [hjn] at this; exact this
        · have h1 := (HO'.out.stored k (.int .u8 b)).1
          have h2 := (h1.stored jn (.int .u8 a)).1
          have e : bytesOf ((ys.set k b).set jn a) = ((bytesOf ys).set k (.int .u8 b)).set jn (.int .u8 a) := by simp [bytesOf, List.map_set]
          rw [e]; exact h2.drew
      case measure => simp [intOf]; omega
    · go_wp2
      go_end0
      refine ⟨rfl, ?_, HG.out⟩
      rw [← turned_end HT.out HZ.out (by have := HK.out; omega)]
      exact HO'.out
end Go.Proofs.YtpdbkjnaicjfdaaGreatDoor

namespace Go.Proofs.YtpdbkjnaicjfdaaGreatDoor
open Go.RowKit Go.Shelf
set_option linter.unusedVariables false

attribute [local go_sem] Oper.semAt_some

set_option maxHeartbeats 1000000 in
theorem digits_in (F : Fence) (n : Nat) (h30 : F.fn 134) (hro : F.round = none) (m : Int) (w : World) :
    CallsIn F n Tryz.prog 134 #[.int .u64 m] w fun e w' => e = .returned (.func (.func 159) #[] #[.pointer (some ⟨w.heap.size, 0, none⟩)]) ∧ w' = w.alloc (.cells #[.int .u64 m] 200) := by
  refine callsIn_of_wp Tryz.func134 rfl h30 ?_ hro
  simp only [Tryz.ntmps134, List.size_toArray, List.length_cons, List.length_nil, Nat.reduceAdd, Nat.reduceSub, Array.replicate_succ, Array.replicate_zero, List.push_toArray, List.append_toArray, List.nil_append, List.cons_append]
  gi_wp2
  go_ret
  exact ⟨rfl, rfl⟩

set_option maxRecDepth 100000 in
set_option maxHeartbeats 1000000 in
theorem digits1_in (F : Fence) (n : Nat) (h36 : F.fn 159) (hro : F.round = none) (hn : 1 ≤ n) (l Bn n₀ : Nat) (m : Nat) (hm : m < 10000000000000000000) (J Jx : List Int → World → Prop)
    (hY : ∀ pre x W, J pre W → pre.length < (dr 20 m).length → YieldAt F (n - 1) Tryz.prog l #[.int .u8 x] W fun e W' =>
      (e = .returned (.bool true) ∧ J (pre ++ [x]) W' ∧ Below n₀ W W') ∨ (e = .returned (.bool false) ∧ Jx (pre ++ [x]) W'))
    (W : World) (hBn : W.cell? ⟨Bn, 0, none⟩ = some (.int .u64 m)) (h0 : J [] W) :
    CallsIn F n Tryz.prog 159 #[.func (.yield l) #[] #[], .pointer (some ⟨Bn, 0, none⟩)] W fun e W' => (∃ v, e = .returned v) ∧
      ((∃ ys, ys = dr 20 m ∧ J ys W') ∨ (∃ pre, pre <+: dr 20 m ∧ Jx pre W')) := by
  refine callsIn_of_wp Tryz.func159 rfl h36 ?_ hro
  simp only [Tryz.ntmps159, List.size_toArray, List.length_cons, List.length_nil, Nat.reduceAdd, Nat.reduceSub, Array.replicate_succ, Array.replicate_zero, List.push_toArray, List.append_toArray, List.nil_append, List.cons_append]
  gi_wp2
  gi_loopw [3] (fun p wr => ∃ (pre : List Int) (r f : Nat), p = .int .u64 r ∧ r < 10000000000000000000 ∧ r < 10 ^ f ∧ dr 20 m = pre ++ dr (f + 1) r ∧ J pre wr) (fun p wr => (intOf p).toNat)
  case atStart =>
    exact ⟨[], m, 19, rfl, hm, hm, rfl, h0⟩
  case round =>
    obtain ⟨pre, r, f, rfl, hr, hrf, hx, hJs⟩ := hrel
    by_cases h10 : r < 10
    · rw [dr_small f r h10] at hx
      obtain ⟨fn, tmps, assign, body, hy, hR⟩ := hY pre (48 + (r : Int) % 10) wr hJs (by rw [hx]; simp)
      have HX := Lib.hid hx
      clear hx hrf
      gi_wp2
      refine hR.mono ?_
      rintro e W3 (⟨rfl, hJ3, hk3⟩ | ⟨rfl, hJx3⟩)
      · gi_wp2
        go_end0
        exact ⟨⟨_, rfl⟩, .inl ⟨_, HX.out.symm, hJ3⟩⟩
      · gi_wp2
        go_end0
        exact ⟨⟨_, rfl⟩, .inr ⟨_, ⟨[], by rw [HX.out]; simp⟩, hJx3⟩⟩
    · obtain ⟨f', rfl⟩ : ∃ f', f = f' + 1 := by
        cases f with
        | zero => simp at hrf; omega
        | succ f' => exact ⟨f', rfl⟩
      rw [dr_great (f' + 1) r h10] at hx
      obtain ⟨fn, tmps, assign, body, hy, hR⟩ := hY pre (48 + (r : Int) % 10) wr hJs (by rw [hx]; simp)
      have HX := Lib.hid hx
      have hdiv : r / 10 < 10 ^ f' := by
        rw [Nat.pow_succ] at hrf; exact Nat.div_lt_of_lt_mul (by rw [Nat.mul_comm]; exact hrf)
      have HD := Lib.hid hdiv
      clear hx hrf hdiv
      gi_wp2
      refine hR.mono ?_
      rintro e W3 (⟨rfl, hJ3, hk3⟩ | ⟨rfl, hJx3⟩)
      · gi_wp2
        go_roundw
        case rel => exact ⟨pre ++ [48 + (r : Int) % 10], r / 10, f', by go_num, by omega, HD.out, by rw [HX.out]; simp, hJ3⟩
        case measure => simp [intOf]; omega
      · gi_wp2
        go_end0
        exact ⟨⟨_, rfl⟩, .inr ⟨_, ⟨dr (f' + 1) (r / 10), by rw [HX.out]; simp⟩, hJx3⟩⟩

/-- digits(m) hands back a value that goes through all of m's digits, the last one first. -/
theorem digits_stops (F : Fence) (n : Nat) (h36 : F.fn 159) (hro : F.round = none) (hn : 1 ≤ n) (Bn n₀ : Nat) (m : Nat) (hm : m < 10000000000000000000) (w : World) (hBn : Bn < w.heap.size)
    (hc : w.cell? ⟨Bn, 0, none⟩ = some (.int .u64 m)) :
    SeqStopsK F n Tryz.prog 159 #[.pointer (some ⟨Bn, 0, none⟩)] (fun x : Int => #[Value.int .u8 x]) (Below n₀) (fun ys => ys = dr 20 m) (fun pre => pre <+: dr 20 m) (dr 20 m).length w := fun l J Jx W hW _ _ hY h0 =>
  digits1_in F n h36 hro hn l Bn n₀ m hm J Jx hY W ((hW.cell (p := ⟨Bn, 0, none⟩) hBn).trans hc) h0
end Go.Proofs.YtpdbkjnaicjfdaaGreatDoor

namespace Go.Proofs.YtpdbkjnaicjfdaaGreatDoor
open Go.RowKit Go.Shelf
set_option linter.unusedVariables false

attribute [local go_sem] Oper.semAt_some

def PutPost (n : Int) (w : World) (e : Ending) (w' : World) : Prop := e = .returned (.string ⟨(putL n).toArray⟩) ∧ Below w.heap.size w w'

theorem sz_nat (n : Int) : sz n = ((n.natAbs : Nat) : Int) := by unfold sz; split <;> omega

theorem rev45 (l : List Int) : (l ++ [45]).reverse = 45 :: l.reverse := by simp
theorem putL_neg (n : Int) (h : n < 0) : (⟨(putL n).toArray⟩ : ByteArray) = strOfNums ((dr 20 n.natAbs ++ [45]).reverse) := by
  unfold putL putI strOfNums; rw [if_pos h]
theorem putL_pos (n : Int) (h : ¬ n < 0) : (⟨(putL n).toArray⟩ : ByteArray) = strOfNums ((dr 20 n.natAbs).reverse) := by
  unfold putL putI strOfNums; rw [if_neg h, List.append_nil]

/-- What lies behind slices.Reverse: the box, the block for deferred calls, what is old, and the text. -/
theorem after_rev {w W w3 : World} {B D g cap k : Nat} {zs : List Int} (hz : zs.length = k)
    (hv : Boxed W B 78 (.slice (some ⟨g, 0, none⟩) k cap)) (hr : W.ownsRow B 5 1 (.slice (some ⟨g, 0, none⟩) k cap) k (bytesOf zs)) (hK : W.heap[D]? = some (.deferred (some []))) (hB : Below B w W)
    (hr3 : w3.ownsRow B 5 1 (.slice (some ⟨g, 0, none⟩) k cap) k (bytesOf zs.reverse)) (hg3 : W.grownBy w3 (some g)) :
    w3.cell? ⟨B, 0, none⟩ = some (.slice (some ⟨g, 0, none⟩) k cap) ∧ w3.heap[D]? = some (.deferred (some [])) ∧ Below B w w3 ∧
      (convert 78 9 (.slice (some ⟨g, 0, none⟩) k cap)).run Tryz.prog w3 = .ok (.string (strOfNums zs.reverse)) w3 := by
  have hne : some B ≠ some g := hv.not_row (by decide) hr
  have hgb : B ≤ g ∧ g < W.heap.size := hr.lt g rfl
  have hcells : ∃ cur, W.heap[g]? = some (.cells cur 5 (0, 0)) := by
    rcases hr.2 with ⟨h', _⟩ | ⟨g', cap', cur, h', _, hh, _⟩
    · cases h'
    · cases h'; exact ⟨cur, hh⟩
  obtain ⟨cur, hcur⟩ := hcells
  have hDg : some D ≠ some g := by
    intro e; injection e with e; subst e; rw [hK] at hcur; cases hcur
  refine ⟨(hv.kept hg3 hne).cell, (hg3.block D (Array.getElem?_eq_some_iff.1 hK).1 hDg).trans hK, hB.grown hg3 (by omega) (fun j e => by injection e with e; omega), ?_⟩
  refine run_convert_bytes_arg (P := Tryz.prog) w3 78 5 Tryz.underlying78 Tryz.underlying5 g 0 k cap zs.reverse (by simp [hz]) (fun i hi => ?_) 9 Tryz.underlying9
  rw [Nat.zero_add, hr3.cellAt i (by omega), bytesOf, List.getElem?_map]
  have : i < zs.reverse.length := by simp [hz, hi]
  rw [List.getElem?_eq_getElem this]
  simp only [Option.map_some, List.getD, List.getElem?_eq_getElem this, Option.getD_some]

set_option maxRecDepth 100000 in
set_option maxHeartbeats 2000000 in
theorem put_any (n : Int) (w : World) (h1 : -9223372036854775808 ≤ n) (h2 : n ≤ 9223372036854775807) :
    Calls Tryz.prog 120 #[.int .i64 n] w (PutPost n w) := by
  obtain ⟨i0, hi, hz0, hz1, hz2⟩ := info_parts info_u8
  have hdl := dr_len 20 n.natAbs
  refine (callsIn_wide (n := 6)).1 ?_
  refine callsIn_of_wp_marks Tryz.func120 rfl trivial ?_ rfl
  simp only [Tryz.ntmps120, List.size_toArray, List.length_cons, List.length_nil, Nat.reduceAdd, Nat.reduceSub, Array.replicate_succ, Array.replicate_zero, List.push_toArray, List.append_toArray, List.nil_append, List.cons_append]
  gi_wp2_with (refine ⟨trivial, ?_⟩; first
    | (gi_at_call 135; refine (callsIn_wide.2 (size_any n _ h1 h2)).mono ?_; rw [sz_nat]; rintro e w' ⟨rfl, rfl⟩)
    | (gi_at_call 134; refine (digits_in Fence.wide _ trivial rfl _ _).mono ?_; rintro e w' ⟨rfl, rfl⟩))
  have bO := Boxed.new w 78 (.slice none 0 0)
  have bN := Boxed.new (w.alloc (.cells #[.slice none 0 0] 78)) 200 (.int .u64 ((n.natAbs : Nat) : Int))
  rw [World.size_alloc] at bN
  have hB0 : Below w.heap.size w ((w.alloc (.cells #[.slice none 0 0] 78)).alloc (.cells #[.int .u64 ((n.natAbs : Nat) : Int)] 200)) := ((Below.refl _ w).alloc (Nat.le_refl _) _).alloc (by simp) _
  refine wpIn_rangeFunc_ownG rfl (by omega) (gf := 159) (lb := #[.pointer (some ⟨w.heap.size + 1, 0, none⟩)]) rfl trivial (enters_of Tryz.func159 (by kernel_rfl) rfl)
    (digits_stops Fence.wide 5 trivial rfl (by omega) (w.heap.size + 1) w.heap.size n.natAbs (by omega) _ (by simp) bN.cell) belowK_t (belowK_b (by simp; omega)) (Below.refl _ _) (fun _ => rfl)
    (fun pre W => (∃ v, Boxed W w.heap.size 78 v ∧ W.ownsRow w.heap.size 5 1 v pre.length (bytesOf pre) ∧ True) ∧ Below w.heap.size w W)
    (fun _ _ _ => False)
    (OwnFrom.and (Own.from (holdsRow_own w.heap.size w.heap.size 78 5 1 (fun pre => pre.length) (fun pre => bytesOf pre) (fun pre v => True)) _) (ownFrom_below (Nat.le_refl _) (by simp; omega)))
    (fun _ _ _ _ _ hs _ _ => hs)
    ⟨⟨_, bO.alloc _, World.ownsRow_nil _ _ _ _, trivial⟩, hB0⟩
    (fun x => { tmps := #[.int .i64 n, undef, .string ⟨#[]⟩, .pointer (some ⟨w.heap.size, 0, none⟩), .int .u8 x, .int .i64 n, .int .u64 ((n.natAbs : Nat) : Int), .func (.func 159) #[] #[.pointer (some ⟨w.heap.size + 1, 0, none⟩)], .int .u8 x, undef, undef, undef, undef, undef, undef, undef, undef, undef, undef, undef, undef, undef], defers := [] }) ?assign ?body ?done ?stop
  case assign =>
    intro l x W K hK
    gi_wp2
    exact hK
  case body =>
    rintro l pre x W ⟨⟨v, hv, hrow, _⟩, hB⟩ hlt
    have hc := hv.cell
    gi_wp2_with (gi_at_builtin; refine wpListIn_append_own _ rfl _ _ 78 rfl w.heap.size 5 i0 (.int .u8 0) 1 1 Tryz.underlying78 hi hz0 hz1 hz2 rfl (by decide) _ _ _ rfl (hrow.alloc _) ⟨W.heap.size, 0, none⟩ 1 1 [.int .u8 x] rfl rfl (cell_one_new _ _ _) (by simp [Value.oneCell']) (by simp only [maxLen]; omega) (by omega) (by have := hB.size; simp; omega) ?_; intro v' w1 hown' hgrow _; obtain ⟨g', cap', rfl⟩ := ownsRow_succ hown'; obtain ⟨hv1, hv2, hr2, hk2, hb2⟩ := hv.appended (by decide) hrow hB.size (Nat.le_refl _) hown' hgrow; have hc1 := hv1.cell; have hf1 := hv1.frozen)
    exact ⟨hk2.from _, hb2, ⟨_, hv2, by simpa [bytesOf] using hr2, trivial⟩, hB.trans hb2⟩
  case done =>
    rintro D ys W hD rfl ⟨⟨v, hv, hrow, _⟩, hB⟩ hK
    have hdp : 1 ≤ (dr 20 n.natAbs).length := dr_pos 19 n.natAbs
    by_cases hneg : n < 0
    · have hc := hv.cell
      have HP := Lib.hid (putL_neg n hneg)
      gi_wp2_with (first
        | (gi_at_builtin; refine wpListIn_append_own _ rfl _ _ 78 rfl w.heap.size 5 i0 (.int .u8 0) 1 1 Tryz.underlying78 hi hz0 hz1 hz2 rfl (by decide) _ _ _ rfl (hrow.alloc _) ⟨W.heap.size, 0, none⟩ 1 1 [.int .u8 45] rfl rfl (cell_one_new _ _ _) (by simp [Value.oneCell']) (by simp only [maxLen]; omega) (by omega) (by have := hB.size; simp; omega) ?_; intro v' w1 hown' hgrow _; obtain ⟨g', cap', rfl⟩ := ownsRow_succ hown'; obtain ⟨hv1, hv2, hr2, hk2, hb2⟩ := hv.appended (by decide) hrow hB.size (Nat.le_refl _) hown' hgrow; have hc1 := hv1.cell; have hf1 := hv1.frozen)
        | fail)
      have hr2' : (w1.setCell ⟨w.heap.size, 0, none⟩ (.slice (some ⟨g', 0, none⟩) ((dr 20 n.natAbs).length + 1) cap')).ownsRow w.heap.size 5 1 (.slice (some ⟨g', 0, none⟩) ((dr 20 n.natAbs).length + 1) cap') ((dr 20 n.natAbs).length + 1) (bytesOf (dr 20 n.natAbs ++ [45])) := by simpa [bytesOf] using hr2
      have hK2 := hk2.same D _ hK rfl
      have hB2 := hB.trans hb2
      have hc2 := hv2.cell
      have hz2 : (dr 20 n.natAbs ++ [45]).length = (dr 20 n.natAbs).length + 1 := by simp
      clear hr2 hk2 hb2 hv1 hown' hgrow hc1 hf1
      generalize w1.setCell ⟨w.heap.size, 0, none⟩ (.slice (some ⟨g', 0, none⟩) ((dr 20 n.natAbs).length + 1) cap') = W2 at *
      have HZ2 := Lib.hid hz2
      clear hz2
      gi_wp2_with (refine ⟨trivial, ?_⟩; gi_at_call 136; refine (callsIn_wide.2 (reverse_any w.heap.size g' cap' _ (dr 20 n.natAbs ++ [45]) W2 HZ2.out (by omega) (by omega) hr2')).mono ?_; rintro e w3 ⟨rfl, hr3, hg3⟩; obtain ⟨hc3, hK3, hB3, hcv⟩ := after_rev HZ2.out hv2 hr2' hK2 hB2 hr3 hg3)
      refine ⟨by simp, .inl ⟨_, _, rfl, run_takeDeferred hK3, ?_⟩⟩
      exact ⟨_, results_tmp rfl _ _ _, by rw [HP.out, rev45]; rfl, hB3.trans (belowK_b (w := w) (Nat.le_refl _) w3 D _ _ (by simp at hD; omega) hK3 rfl rfl)⟩
    · have HP := Lib.hid (putL_pos n hneg)
      obtain ⟨g, cap, rfl, _, _⟩ := hrow.form (by omega)
      have hc := hv.cell
      gi_wp2_with (refine ⟨trivial, ?_⟩; gi_at_call 136; refine (callsIn_wide.2 (reverse_any w.heap.size g cap _ (dr 20 n.natAbs) W rfl (by omega) (by omega) hrow)).mono ?_; rintro e w3 ⟨rfl, hr3, hg3⟩; obtain ⟨hc3, hK3, hB3, hcv⟩ := after_rev rfl hv hrow hK hB hr3 hg3)
      refine ⟨by simp, .inl ⟨_, _, rfl, run_takeDeferred hK3, ?_⟩⟩
      exact ⟨_, results_tmp rfl _ _ _, by rw [HP.out]; rfl, hB3.trans (belowK_b (w := w) (Nat.le_refl _) w3 D _ _ (by simp at hD; omega) hK3 rfl rfl)⟩
  case stop =>
    rintro D c pre W _ _ h _
    exact h.elim
end Go.Proofs.YtpdbkjnaicjfdaaGreatDoor

namespace Go.Proofs.YtpdbkjnaicjfdaaGreatDoor
open Go.RowKit
set_option linter.unusedVariables false

end Go.Proofs.YtpdbkjnaicjfdaaGreatDoor

namespace Go.Proofs.YtpdbkjnaicjfdaaGreatDoor
open Go.RowKit
set_option linter.unusedVariables false

theorem put_low : putL (-9223372036854775808) = [45, 57, 50, 50, 51, 51, 55, 50, 48, 51, 54, 56, 53, 52, 55, 55, 53, 56, 48, 56] := by decide +kernel
theorem put_zero : putL 0 = [48] := by decide +kernel
theorem put_7 : putL (-7) = [45, 55] := by decide +kernel
theorem get_m7 : getN [45, 55] = -7 ∧ getE [45, 55] = 0 ∧ getP [45, 55] = 0 := by decide +kernel
theorem get_12x : getN [49, 50, 120] = 0 ∧ getE [49, 50, 120] = 5 ∧ getP [49, 50, 120] = 2 := by decide +kernel
theorem get_low : getN [45, 57, 50, 50, 51, 51, 55, 50, 48, 51, 54, 56, 53, 52, 55, 55, 53, 56, 48, 56] = -9223372036854775808 ∧ getE [45, 57, 50, 50, 51, 51, 55, 50, 48, 51, 54, 56, 53, 52, 55, 55, 53, 56, 48, 56] = 0 ∧ getP [45, 57, 50, 50, 51, 51, 55, 50, 48, 51, 54, 56, 53, 52, 55, 55, 53, 56, 48, 56] = 0 := by decide +kernel
theorem get_over : getN [57, 50, 50, 51, 51, 55, 50, 48, 51, 54, 56, 53, 52, 55, 55, 53, 56, 48, 56] = 0 ∧ getE [57, 50, 50, 51, 51, 55, 50, 48, 51, 54, 56, 53, 52, 55, 55, 53, 56, 48, 56] = 3 ∧ getP [57, 50, 50, 51, 51, 55, 50, 48, 51, 54, 56, 53, 52, 55, 55, 53, 56, 48, 56] = 0 := by decide +kernel
theorem get_none : getN [] = 0 ∧ getE [] = 5 ∧ getP [] = 0 := by decide +kernel
theorem get_sign : getN [45] = 0 ∧ getE [45] = 5 ∧ getP [45] = 1 := by decide +kernel
theorem get_m0 : getN [45, 48] = 0 ∧ getE [45, 48] = 5 ∧ getP [45, 48] = 1 := by decide +kernel
theorem get_007 : getN [48, 48, 55] = 0 ∧ getE [48, 48, 55] = 5 ∧ getP [48, 48, 55] = 1 := by decide +kernel
theorem get_x : getN [120] = 0 ∧ getE [120] = 5 ∧ getP [120] = 0 := by decide +kernel
theorem get_p1 : getN [43, 49] = 0 ∧ getE [43, 49] = 5 ∧ getP [43, 49] = 0 := by decide +kernel

theorem bytes_fit (l : List UInt8) (h : l.length ≤ 100) : (⟨l.toArray⟩ : ByteArray).size ≤ maxLen := by
  have : (⟨l.toArray⟩ : ByteArray).size = l.length := by rw [← bytes_len]
  rw [this]; unfold maxLen; omega

theorem ints_new (w : World) (l : List Int) (t : TypeId) (cs : Array Value) (h : cs = (l.map (Value.int .i64)).toArray) : Ints (w.alloc (.cells cs t)) (some ⟨w.heap.size, 0, none⟩) l := by
  subst h
  intro hl
  refine ⟨w.heap.size, 0, rfl, by simp, fun j hj => ?_⟩
  rw [Nat.zero_add, World.cell?_alloc_new]
  simp [List.getElem?_eq_getElem hj]

theorem all_3 : allN [9223372036854775807, 1, -1] = 9223372036854775807 ∧ allE [9223372036854775807, 1, -1] = 0 := by decide +kernel
theorem small_3 : ∀ x ∈ ([9223372036854775807, 1, -1] : List Int), Small x := by
  intro x hx; simp at hx; unfold Small; omega
theorem all_0 : allN [] = 0 ∧ allE [] = 0 := by decide +kernel
theorem all_2 : allN [9223372036854775807, 1] = 0 ∧ allE [9223372036854775807, 1] = 3 := by decide +kernel
theorem small_2 : ∀ x ∈ ([9223372036854775807, 1] : List Int), Small x := by
  intro x hx; simp at hx; unfold Small; omega
theorem wrap_over : wrap64 (9223372036854775807 + 1) = -9223372036854775808 := by unfold wrap64; omega

end Go.Proofs.YtpdbkjnaicjfdaaGreatDoor

namespace Go.Proofs.YtpdbkjnaicjfdaaGreatDoor
open Go.RowKit
set_option linter.unusedVariables false

theorem rwrap_eq (a b : Int) : wrap64 (IntKind.u64.wrap (IntKind.u64.wrap a + IntKind.u64.wrap b)) = wrap64 (a + b) := by
  rw [u64_mod, u64_mod, u64_mod]; unfold wrap64; omega

theorem ofInt64 (x : Int) : (BitVec.ofInt 64 x).toNat = (x % 18446744073709551616).toNat := by rw [BitVec.toNat_ofInt]; rfl
theorem and32 (x : Int) : bits .and .i64 x 4294967295 = x % 4294967296 := by
  show IntKind.i64.wrap ((BitVec.ofInt 64 x &&& BitVec.ofInt 64 4294967295).toNat : Int) = _
  rw [BitVec.toNat_and, ofInt64, ofInt64]
  have e : ((4294967295 : Int) % 18446744073709551616).toNat = 2 ^ 32 - 1 := by decide
  rw [e, Nat.and_two_pow_sub_one_eq_mod, IntWalk.i64_left]
  have h : ((((x % 18446744073709551616).toNat % 2 ^ 32 : Nat)) : Int) = x % 4294967296 := by omega
  rw [h]; unfold wrap64; omega
theorem or32 (H b : Int) (h1 : -2147483648 ≤ H) (h2 : H < 2147483648) (hb0 : 0 ≤ b) (hb1 : b < 4294967296) : bits .or .i64 (H * 4294967296) b = H * 4294967296 + b := by
  show IntKind.i64.wrap ((BitVec.ofInt 64 (H * 4294967296) ||| BitVec.ofInt 64 b).toNat : Int) = _
  rw [BitVec.toNat_or, ofInt64, ofInt64]
  rw [nat_join 32 _ _ (by omega) (by omega), IntWalk.i64_left]
  unfold wrap64; omega

theorem info_int : (Tryz.prog.info? 3).map (fun i => (i.zero, i.size, i.bytes)) = some (some (.int .i64 0), 1, 8) := by kernel_rfl

def intsOf (l : List Int) : List Value := l.map (Value.int .i64)

def CopyPost (l : List Int) (w : World) (e : Ending) (w' : World) : Prop :=
  ∃ g cap, e = .returned (.slice (some ⟨g, 0, none⟩) l.length cap) ∧ w'.ownsRow w.heap.size 3 1 (.slice (some ⟨g, 0, none⟩) l.length cap) l.length (intsOf l) ∧ Below w.heap.size w w'

theorem add_plain' (b off j : Nat) : (⟨b, off, none⟩ : Addr).add j = ⟨b, off + j, none⟩ := by unfold Addr.add; split <;> simp_all

set_option maxHeartbeats 1000000 in
theorem copy_any (A : Option Addr) (c : Nat) (l : List Int) (w : World) (hA : Ints w A l) (hlen : l.length ≤ 1000) :
    Calls Tryz.prog 61 #[.slice A l.length c] w (CopyPost l w) := by
  obtain ⟨i0, hi, hz0, hz1, hz2⟩ := info_parts info_int
  have hrow := World.ownsRow_lit (base := w.heap.size) (e := 3) (size := 1) w #[] 0 (Nat.le_refl _) (Nat.zero_le _) rfl
  have hsrc : ∀ ad, A = some ad → ∀ j u, (intsOf l)[j]? = some u → (w.alloc (.cells #[] 3)).cell? (ad.add j) = some u := by
    intro ad e j u hu
    subst e
    have hj : j < l.length := by
      rcases Nat.lt_or_ge j l.length with h | h
      · exact h
      · rw [List.getElem?_eq_none (by simp [intsOf]; omega)] at hu; cases hu
    obtain ⟨b, off, e, hb, hc⟩ := hA (by omega)
    injection e with e
    subst e
    rw [add_plain', World.cell?_alloc_lt _ _ _ hb, hc j hj]
    simp [intsOf, List.getElem?_eq_getElem hj] at hu ⊢
    exact hu
  cases A with
  | none =>
    have hl : l = [] := by
      cases l with
      | nil => rfl
      | cons x r => obtain ⟨b, off, e, _⟩ := hA (by simp); cases e
    subst hl
    go_enter Tryz.func61, Tryz.ntmps61
    go_wp2
    go_ret
    exact ⟨w.heap.size, 0, rfl, hrow, (Below.refl _ _).alloc (Nat.le_refl _) _⟩
  | some ad =>
    have hsrc' := Lib.hid (hsrc ad rfl)
    have hrow' := Lib.hid hrow
    clear hsrc hrow hA
    go_enter Tryz.func61, Tryz.ntmps61
    go_wp2_with (at_builtin; refine wpList_append_own_at _ rfl _ _ 51 rfl w.heap.size 3 i0 (.int .i64 0) 1 8 Tryz.underlying51 hi hz0 hz1 hz2 rfl (by decide) _ _ _ rfl hrow'.out ad l.length c (intsOf l) rfl (by simp [intsOf]) hsrc'.out (by intro u hu; simp [intsOf] at hu; obtain ⟨x, _, rfl⟩ := hu; rfl) (by simp only [maxLen]; omega) (by omega) (by simp) ?_; intro v1 w1 hown1 hg1 hnil1 hat1)
    go_ret
    have hB1 : Below w.heap.size w w1 := ((Below.refl _ w).alloc (Nat.le_refl _) _).grown hg1 (by simp) (fun k hk => by cases hk; exact Nat.le_refl _)
    rw [Nat.zero_add, List.nil_append] at hown1
    have hform : ∃ g cap, v1 = .slice (some ⟨g, 0, none⟩) l.length cap := by
      rcases hown1.2 with ⟨e, _⟩ | ⟨g, cap, cur, e, _⟩
      · have := (hnil1.1 e).1
        cases this
      · exact ⟨g, cap, e⟩
    obtain ⟨g, cap, rfl⟩ := hform
    exact ⟨g, cap, rfl, hown1, hB1⟩

/-- A row of the call's own reads as its numbers. -/
theorem ints_own {w : World} {base g n cap : Nat} {l : List Int} (hn : l.length = n) (h : w.ownsRow base 3 1 (.slice (some ⟨g, 0, none⟩) n cap) n (intsOf l)) : Ints w (some ⟨g, 0, none⟩) l := by
  intro hl
  refine ⟨g, 0, rfl, (h.lt g rfl).2, fun j hj => ?_⟩
  rw [Nat.zero_add, h.cellAt j (by omega), intsOf, List.getElem?_map, List.getElem?_eq_getElem hj]
  rfl

set_option maxHeartbeats 1000000 in
theorem same_any (A B : Option Addr) (c d : Nat) (l : List Int) (w : World) (hA : Ints w A l) (hB : Ints w B l) (hlen : l.length ≤ 1000) :
    Calls Tryz.prog 95 #[.slice A l.length c, .slice B l.length d] w fun e w' => e = .returned (.bool true) ∧ ∃ n, w' = w.drewN n := by
  have k0 : ((l.length : Int) != l.length) = false := by simp
  go_enter Tryz.func95, Tryz.ntmps95
  go_wp2
  go_loopw [5] (fun i wr => ∃ (k n : Nat), k ≤ l.length ∧ i = .int .i64 k ∧ wr = w.drewN n) (fun i wr => l.length - (intOf i).toNat)
  case atStart => exact ⟨0, 0, Nat.zero_le _, rfl, rfl⟩
  case round =>
    obtain ⟨k, n, hk, rfl, rfl⟩ := hrel
    by_cases hlt : k < l.length
    · obtain ⟨b, off, rfl, hb, hc⟩ := hA (by omega)
      obtain ⟨b', off', rfl, hb', hc'⟩ := hB (by omega)
      have hck := hc k hlt
      have hck' := hc' k hlt
      clear hc hc'
      generalize l[k]?.getD 0 = x at *
      have kx : (x != x) = false := by simp
      have hk0 : (0 : Int) ≤ (k : Int) := by omega
      have hk1 : (k : Int) < (l.length : Int) := by omega
      go_wp2_with fail
      go_quiet (fail)
      go_wp2
      go_roundw
      case rel => exact ⟨k + 1, _, by omega, by go_num, rfl⟩
      case measure => simp [intOf]; omega
    · go_wp2
      go_ret
      exact ⟨rfl, n, rfl⟩
end Go.Proofs.YtpdbkjnaicjfdaaGreatDoor

namespace Go.Proofs.YtpdbkjnaicjfdaaGreatDoor
open Go.RowKit
set_option linter.unusedVariables false

def StrPost (l : List UInt8) (w : World) (e : Ending) (w' : World) : Prop := e = .returned (.string ⟨l.toArray⟩) ∧ Below w.heap.size w w'

theorem conv_one (w : World) (x : Int) : (convert 78 9 (.slice (some ⟨w.heap.size, 0, none⟩) 1 1)).run Tryz.prog (w.alloc (.cells #[.int .u8 x] 5)) = .ok (.string ⟨#[ub x]⟩) (w.alloc (.cells #[.int .u8 x] 5)) := by
  have h := run_convert_bytes_arg (P := Tryz.prog) (w.alloc (.cells #[.int .u8 x] 5)) 78 5 Tryz.underlying78 Tryz.underlying5 w.heap.size 0 1 1 [x] rfl (fun i hi => by
    obtain rfl : i = 0 := by omega
    rw [Nat.zero_add, World.cell?_alloc_new]; rfl) 9 Tryz.underlying9
  exact h

theorem str_join (a b : List UInt8) : (⟨a.toArray⟩ : ByteArray) ++ ⟨b.toArray⟩ = ⟨(a ++ b).toArray⟩ := by
  apply ByteArray.ext
  rw [ByteArray.data_append]
  simp

theorem rput_post (n : Int) (w : World) (e : Ending) (w' : World) (h1 : e = .returned (.string ⟨(putL n).toArray⟩)) (hB : Below w.heap.size w w') : PutPost n w e w' := ⟨h1, hB⟩

end Go.Proofs.YtpdbkjnaicjfdaaGreatDoor

namespace Go.Proofs.YtpdbkjnaicjfdaaGreatDoor
open Go.RowKit
set_option linter.unusedVariables false

/-- Why a text stops being the beginning of a number's there. -/
def Stops (t : List UInt8) (b : Bool) (j : Nat) : Prop :=
  j = t.length ∨ (∃ c, t[j]? = some c ∧ isD c = false) ∨ (1 ≤ j ∧ t[0]? = some 48) ∨ (j = 0 ∧ b = true ∧ t[0]? = some 48)
/-- All ahead of it may be. -/
def Ahead (t : List UInt8) (b : Bool) (j : Nat) : Prop :=
  j ≤ t.length ∧ (∀ m c, m < j → t[m]? = some c → isD c = true) ∧ (t[0]? = some 48 → j ≤ if b then 0 else 1)

theorem dtk_stop (t : List UInt8) (b : Bool) (j : Nat) (ha : Ahead t b j) (hs : Stops t b j) : dtk t b = j := by
  obtain ⟨hj, hd, hz⟩ := ha
  by_cases h48 : t[0]? = some 48
  · obtain ⟨r, e⟩ : ∃ r, t = 48 :: r := by
      cases t with
      | nil => simp at h48
      | cons c r => simp at h48; exact ⟨r, by rw [h48]⟩
    have hz' := hz h48
    have e2 : dtk t b = if b then 0 else 1 := by rw [e]; rfl
    rw [e2]
    cases b with
    | true => simp at hz' ⊢; omega
    | false =>
      simp at hz' ⊢
      rcases hs with h | ⟨c, h1, h2⟩ | ⟨h, _⟩ | ⟨_, h, _⟩
      · have : 1 ≤ t.length := by rw [e]; simp
        omega
      · rcases Nat.eq_zero_or_pos j with h0 | h0
        · rw [h0, h48] at h1; injection h1 with h1; rw [← h1] at h2; exact absurd h2 (by decide)
        · omega
      · omega
      · cases h
  · have e2 : dtk t b = (t.takeWhile isD).length := by
      unfold dtk; split
      · simp at h48
      · rfl
    rw [e2]
    refine takeWhile_len t j hj hd (fun c hc => ?_)
    rcases hs with h | ⟨c', h1, h2⟩ | ⟨_, h⟩ | ⟨_, _, h⟩
    · rw [h, List.getElem?_eq_none (Nat.le_refl _)] at hc; cases hc
    · rw [h1] at hc; injection hc with hc; rw [← hc]; exact h2
    · exact absurd h h48
    · exact absurd h h48

theorem ahead_zero (t : List UInt8) (b : Bool) : Ahead t b 0 := ⟨Nat.zero_le _, fun m c hm => absurd hm (by omega), fun _ => Nat.zero_le _⟩
theorem ahead_step {t : List UInt8} {b : Bool} {j : Nat} {c : UInt8} (h : Ahead t b j) (hc : t[j]? = some c) (hd : isD c = true) (hz : t[0]? = some 48 → j = 0 ∧ b = false) : Ahead t b (j + 1) := by
  have hj : j < t.length := by
    rcases Nat.lt_or_ge j t.length with h' | h'
    · exact h'
    · rw [List.getElem?_eq_none h'] at hc; cases hc
  refine ⟨hj, fun m d hm hd' => ?_, fun h0 => ?_⟩
  · rcases Nat.lt_or_ge m j with h' | h'
    · exact h.2.1 m d h' hd'
    · have e : m = j := by omega
      rw [e, hc] at hd'; injection hd' with hd'; rw [← hd']; exact hd
  · obtain ⟨h1, h2⟩ := hz h0
    rw [h1, h2]; decide

def formB (l : List UInt8) : Bool := decide (¬ (getAt l < l.length ∨ getAt l = sgn l))
def FormPost (l : List UInt8) (w : World) (e : Ending) (w' : World) : Prop := e = .returned (.tuple #[.int .i64 (getAt l), .bool (formB l)]) ∧ w = w'

theorem drop_at (s : ByteArray) (g j : Nat) (h : g + j < s.size) : (s.data.toList.drop g)[j]? = some s[g + j] := by
  rw [List.getElem?_drop]; exact byte_at s (g + j) h

theorem drop_at0 (s : ByteArray) (j : Nat) (h : j < s.size) : (s.data.toList.drop 0)[j]? = some s[j] := by
  rw [List.drop_zero]; exact byte_at s j h

end Go.Proofs.YtpdbkjnaicjfdaaGreatDoor

namespace Go.Proofs.YtpdbkjnaicjfdaaGreatDoor
open Go.RowKit
set_option linter.unusedVariables false

theorem val_drop_take (s : ByteArray) (g k : Nat) (hg : g ≤ k) (h : k < s.size) : val ((s.data.toList.drop g).take (k + 1 - g)) = val ((s.data.toList.drop g).take (k - g)) * 10 + (s[k].toNat - 48) := by
  have hlen : k - g < (s.data.toList.drop g).length := by rw [List.length_drop, bytes_len]; omega
  rw [show k + 1 - g = (k - g) + 1 by omega, List.take_succ_eq_append_getElem hlen, val_snoc]
  have e : (s.data.toList.drop g)[k - g] = s[k] := by
    have := drop_at s g (k - g) (by omega)
    rw [List.getElem?_eq_getElem hlen] at this
    injection this with this
    rw [this]; congr 1; omega
  rw [e]

/-- Where all of a text behind the sign is digits. -/
theorem form_digits (s : ByteArray) (h : formB s.data.toList = true) : (∀ k (hk : k < s.size), sgn s.data.toList ≤ k → isD s[k] = true) ∧ 0 < s.size ∧ ¬ (getAt s.data.toList < s.data.toList.length ∨ getAt s.data.toList = sgn s.data.toList) := by
  have h' : ¬ (getAt s.data.toList < s.data.toList.length ∨ getAt s.data.toList = sgn s.data.toList) := of_decide_eq_true h
  have hl := bytes_len s
  have hle := dtk_le (s.data.toList.drop (sgn s.data.toList)) (decide (0 < sgn s.data.toList))
  rw [List.length_drop] at hle
  have hs := sgn_le s.data.toList
  have hat : getAt s.data.toList = sgn s.data.toList + dtk (s.data.toList.drop (sgn s.data.toList)) (decide (0 < sgn s.data.toList)) := rfl
  have hall := dtk_all (s.data.toList.drop (sgn s.data.toList)) (decide (0 < sgn s.data.toList)) (by rw [List.length_drop]; omega)
  refine ⟨fun k hk hg => hall _ ?_, by omega, h'⟩
  have := drop_at s (sgn s.data.toList) (k - sgn s.data.toList) (by omega)
  have e : s[sgn s.data.toList + (k - sgn s.data.toList)] = s[k] := by congr 1; omega
  rw [e] at this
  exact List.mem_of_getElem? this

end Go.Proofs.YtpdbkjnaicjfdaaGreatDoor
