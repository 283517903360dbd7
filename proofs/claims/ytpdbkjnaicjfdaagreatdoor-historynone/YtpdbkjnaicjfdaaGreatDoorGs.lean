/- Texts of earlier stages over this seat, joined: StPlain StA StB StC StD StE StF StG StH StI StJ StK StL StM StQ. -/
import Derived.Test.YtpdbkjnaicjfdaaGreatDoorGb
import Derived.Shelf.Abstract
import Derived.Laws.Shifts
import Derived.Laws.BitsAllLaws
import Derived.Deep.Cut
import Derived.Deep.CutRange
import Derived.Lib.Bytealg
import Derived.Lib.ConvBytes
import Derived.ProofKit
import Derived.OpenShut
import Derived.ChangeOld
import Derived.Deep.Strs
set_option maxRecDepth 100000
namespace Go.Proofs.YtpdbkjnaicjfdaaGreatDoor
open Go.RowKit
set_option linter.unusedVariables false

theorem all_range_succ (p : Nat → Bool) (k : Nat) : (List.range (k + 1)).all p = ((List.range k).all p && p k) := by
  rw [List.range_succ, List.all_append]; simp

/-- Do the first k steps of l, s apart, rise? -/
def riseTo (s : Nat) (l : List Int) (k : Nat) : Bool := (List.range k).all fun j => decide (l.length ≤ (j + 1) * s) || decide (l[j * s]?.getD 0 < l[(j + 1) * s]?.getD 0)
def riseB (s : Nat) (l : List Int) : Bool := riseTo s l l.length

theorem rise_step {s : Nat} {l : List Int} {k : Nat} (h : riseTo s l k = true) (h1 : l[k * s]?.getD 0 < l[(k + 1) * s]?.getD 0) : riseTo s l (k + 1) = true := by
  unfold riseTo at h ⊢
  rw [all_range_succ, h]; simp [h1]
theorem rise_end {s : Nat} {l : List Int} {k : Nat} (h : riseTo s l k = true) (h1 : l.length ≤ (k + 1) * s) : riseB s l = true := by
  unfold riseB riseTo at *
  rw [List.all_eq_true] at h ⊢
  intro j hj
  by_cases hk : j < k
  · exact h j (List.mem_range.2 hk)
  · have : (k + 1) * s ≤ (j + 1) * s := Nat.mul_le_mul_right s (by omega)
    simp [show l.length ≤ (j + 1) * s by omega]
theorem rise_no {s : Nat} {l : List Int} {k : Nat} (hs : 1 ≤ s) (h1 : (k + 1) * s < l.length) (h2 : l[(k + 1) * s]?.getD 0 ≤ l[k * s]?.getD 0) : riseB s l = false := by
  unfold riseB riseTo
  rw [List.all_eq_false]
  have hle : (k + 1) * 1 ≤ (k + 1) * s := Nat.mul_le_mul_left _ hs
  refine ⟨k, List.mem_range.2 (by omega), ?_⟩
  simp [show ¬ l.length ≤ (k + 1) * s by omega, Int.not_lt.2 h2]

def fitsB (t n : Int) (l : List Int) : Bool :=
  if t = 1 then decide (l.length = 0)
  else if t = 2 then (n == 0) && riseB 1 l
  else if t = 3 then (n == 0) && decide (l.length % 2 = 0) && riseB 2 l
  else if t = 4 then (n == 0)
  else decide (l.length = 0) && decide (0 ≤ n) && decide (n ≤ 4611686018427387904)
def st_checkE (t n : Int) (l : List Int) : Int := if t < 1 ∨ 5 < t then 8 else if fitsB t n l = true then 0 else 5
theorem check_type {t n : Int} {l : List Int} (h : t < 1 ∨ 5 < t) : st_checkE t n l = 8 := by unfold st_checkE; rw [if_pos h]
theorem check_in {t n : Int} {l : List Int} (h : ¬ (t < 1 ∨ 5 < t)) : st_checkE t n l = if fitsB t n l = true then 0 else 5 := by unfold st_checkE; rw [if_neg h]
theorem check_ok {t n : Int} {l : List Int} (h : st_checkE t n l = 0) : 1 ≤ t ∧ t ≤ 5 ∧ fitsB t n l = true := by
  unfold st_checkE at h
  split at h
  · cases h
  · split at h
    · next h1 h2 => exact ⟨by omega, by omega, h2⟩
    · cases h
theorem check_cases (t n : Int) (l : List Int) : st_checkE t n l = 0 ∨ st_checkE t n l = 5 ∨ st_checkE t n l = 8 := by
  unfold st_checkE; split
  · exact .inr (.inr rfl)
  · split
    · exact .inl rfl
    · exact .inr (.inl rfl)

def st_wordB : Nat → ByteArray
  | 1 => ⟨#[99, 111, 117, 110, 116, 101, 114]⟩
  | 2 => ⟨#[115, 101, 116]⟩
  | 3 => ⟨#[109, 97, 112]⟩
  | 4 => ⟨#[113, 117, 101, 117, 101]⟩
  | 5 => ⟨#[101, 115, 99, 114, 111, 119]⟩
  | _ => ⟨#[]⟩
def wordL (t : Nat) : List UInt8 := (st_wordB t).data.toList
/-- The type of a word; 0, if it is none's. -/
def typeL (l : List UInt8) : Nat := if l = wordL 1 then 1 else if l = wordL 2 then 2 else if l = wordL 3 then 3 else if l = wordL 4 then 4 else if l = wordL 5 then 5 else 0

/-- The k-th of s bytes of n, the highest first. -/
def beB (s : Nat) (n : Int) (k : Nat) : Int := n / 256 ^ (s - 1 - k) % 256
def be (s : Nat) (n : Int) : List Int := (List.range s).map (beB s n)
def encL (t n : Int) (l : List Int) : List Int := be 1 t ++ be 8 n ++ be 4 l.length ++ l.flatMap (be 8)
theorem be_len (s : Nat) (n : Int) : (be s n).length = s := by simp [be]
theorem be_take {s k : Nat} (n : Int) (h : k < s) : (be s n).take (k + 1) = (be s n).take k ++ [beB s n k] := by
  rw [List.take_succ_eq_append_getElem (by rw [be_len]; exact h)]; simp [be]
theorem flat_len (l : List Int) : (l.flatMap (be 8)).length = 8 * l.length := by
  induction l with
  | nil => rfl
  | cons x r ih => rw [List.flatMap_cons, List.length_append, ih, be_len, List.length_cons]; omega
theorem enc_len (t n : Int) (l : List Int) : (encL t n l).length = 13 + 8 * l.length := by
  unfold encL; rw [List.length_append, List.length_append, List.length_append, be_len, be_len, be_len, flat_len]

def unN (l : List Int) : Int := l.foldl (fun m x => m * 256 + x) 0
theorem un_snoc (l : List Int) (x : Int) : unN (l ++ [x]) = unN l * 256 + x := by simp [unN]
theorem unF_bd : ∀ (l : List Int) (m : Int), 0 ≤ m → (∀ x ∈ l, 0 ≤ x ∧ x ≤ 255) → 0 ≤ l.foldl (fun m x => m * 256 + x) m ∧ l.foldl (fun m x => m * 256 + x) m + 1 ≤ (m + 1) * 256 ^ l.length
  | [], m, hm, _ => by simp; exact hm
  | x :: r, m, hm, h => by
    obtain ⟨h1, h2⟩ := h x (by simp)
    have ih := unF_bd r (m * 256 + x) (by omega) (fun y hy => h y (List.mem_cons_of_mem _ hy))
    refine ⟨ih.1, Int.le_trans ih.2 ?_⟩
    rw [List.length_cons, Int.pow_succ, Int.mul_comm (256 ^ r.length) 256, ← Int.mul_assoc]
    exact Int.mul_le_mul_of_nonneg_right (by omega) (Int.pow_nonneg (by omega))
theorem un_bd (l : List Int) (h : ∀ x ∈ l, 0 ≤ x ∧ x ≤ 255) : 0 ≤ unN l ∧ unN l < 256 ^ l.length := by
  have := unF_bd l 0 (by omega) h
  unfold unN
  exact ⟨this.1, by have := this.2; omega⟩
def numAt (b : List Int) (at' k : Nat) : Int := wrap64 (unN ((b.drop at').take k))
def measB (b : List Int) : Bool := decide (13 ≤ b.length) && decide ((b.length : Int) - 13 = 8 * numAt b 9 4)
def decT (b : List Int) : Int := numAt b 0 1
def decN (b : List Int) : Int := numAt b 1 8
def decTo (b : List Int) (k : Nat) : List Int := (List.range k).map fun i => numAt b (13 + 8 * i) 8
def decL (b : List Int) : List Int := decTo b ((b.length - 13) / 8)
def decOk (b : List Int) : Bool := measB b && (st_checkE (decT b) (decN b) (decL b) == 0)
def decE (b : List Int) : Int := if decOk b = true then 0 else 5
theorem decTo_succ (b : List Int) (k : Nat) : decTo b (k + 1) = decTo b k ++ [numAt b (13 + 8 * k) 8] := by
  unfold decTo; rw [List.range_succ, List.map_append]; rfl
theorem decTo_len (b : List Int) (k : Nat) : (decTo b k).length = k := by simp [decTo]

def singB (t : Int) : Bool := (t == 1) || (t == 5)
def txtOf (l : List Int) : List UInt8 := l.flatMap fun x => 32 :: putL x
def numsOf (t n : Int) (l : List Int) : List Int := if singB t = true then [n] else l
def txtL (t n : Int) (l : List Int) : List UInt8 := wordL t.toNat ++ txtOf (numsOf t n l)
theorem txtOf_take {l : List Int} {k : Nat} (h : k < l.length) : txtOf (l.take (k + 1)) = txtOf (l.take k) ++ (32 :: putL (l[k]?.getD 0)) := by
  unfold txtOf
  rw [List.take_succ_eq_append_getElem h, List.flatMap_append, List.getElem?_eq_getElem h]
  simp

def partL (s : List UInt8) : List UInt8 := s.takeWhile (· != 32)
theorem part_le (s : List UInt8) : (partL s).length ≤ s.length := takeWhile_le _ _
/-- The numbers of the parts from here on (each behind a space), or what is wrong and where. -/
def behindL : Nat → List UInt8 → Nat → List Int → List Int × Int × Int
  | 0, _, _, acc => (acc, 0, 0)
  | _ + 1, [], _, acc => (acc, 0, 0)
  | f + 1, _ :: r, k, acc => if getE (partL r) = 0 then behindL f (r.drop (partL r).length) (k + 1 + (partL r).length) (acc ++ [getN (partL r)]) else ([], getE (partL r), (k : Int) + 1 + getP (partL r))
def behindR (s : List UInt8) (k : Nat) : List Int × Int × Int := behindL (s.length + 1) (s.drop k) k []

abbrev st_St := Int × Int × List Int
def st_st0 : st_St := (0, 0, [])
/-- The state that a type and numbers make, and whether it is one in its form. -/
def ofNums (t : Int) (l : List Int) : st_St × Bool :=
  if singB t = true then (if l.length = 1 then ((t, l[0]?.getD 0, []), st_checkE t (l[0]?.getD 0) [] == 0) else (st_st0, false))
  else ((t, 0, l), st_checkE t 0 l == 0)
def readL (s : List UInt8) : st_St × Int × Int :=
  if typeL (partL s) = 0 then (st_st0, 6, 0)
  else if (behindR s (partL s).length).2.1 = 0 then
    (if (ofNums (typeL (partL s)) (behindR s (partL s).length).1).2 = true then ((ofNums (typeL (partL s)) (behindR s (partL s).length).1).1, 0, 0) else (st_st0, 5, 0))
  else (st_st0, (behindR s (partL s).length).2.1, (behindR s (partL s).length).2.2)
end Go.Proofs.YtpdbkjnaicjfdaaGreatDoor

namespace Go.Proofs.YtpdbkjnaicjfdaaGreatDoor
open Go.RowKit Go.Maps
set_option linter.unusedVariables false

theorem ret_bool {a b : Bool} (h : a = b) : Ending.returned (.bool a) = .returned (.bool b) := by rw [h]
theorem below_drew0 (w : World) (n : Nat) : Below w.heap.size w (w.drewN n) := below_drewN (Below.refl _ _) n

def knownB (t : Int) : Bool := decide (1 ≤ t) && decide (t ≤ 5)
theorem known_any (t : Int) (w : World) : Calls Tryz.prog 132 #[.int .i64 t] w fun e w' => e = .returned (.bool (knownB t)) ∧ w' = w := by
  by_cases h1 : 1 ≤ t
  · by_cases h2 : t ≤ 5
    · have e : knownB t = true := by simp [knownB, h1, h2]
      rw [e]
      go_enter Tryz.func132, Tryz.ntmps132
      go_wp2
      go_ret
      exact ⟨rfl, rfl⟩
    · have e : knownB t = false := by simp [knownB, h2]
      rw [e]
      go_enter Tryz.func132, Tryz.ntmps132
      go_wp2
      go_ret
      exact ⟨rfl, rfl⟩
  · have e : knownB t = false := by simp [knownB, h1]
    rw [e]
    go_enter Tryz.func132, Tryz.ntmps132
    go_wp2
    go_ret
    exact ⟨rfl, rfl⟩

theorem single_any (t : Int) (w : World) : Calls Tryz.prog 117 #[.int .i64 t] w fun e w' => e = .returned (.bool (singB t)) ∧ w' = w := by
  cases h1 : (t == 1)
  · cases h2 : (t == 5)
    · have e : singB t = false := by simp [singB, h1, h2]
      rw [e]
      go_enter Tryz.func117, Tryz.ntmps117
      go_wp2
      go_ret
      exact ⟨rfl, rfl⟩
    · have e : singB t = true := by simp [singB, h2]
      rw [e]
      go_enter Tryz.func117, Tryz.ntmps117
      go_wp2
      go_ret
      exact ⟨rfl, rfl⟩
  · have e : singB t = true := by simp [singB, h1]
    rw [e]
    go_enter Tryz.func117, Tryz.ntmps117
    go_wp2
    go_ret
    exact ⟨rfl, rfl⟩

set_option maxHeartbeats 1000000 in
theorem rises_any (A : Option Addr) (c s : Nat) (l : List Int) (w : World) (hA : Ints w A l) (hs : 1 ≤ s) (hs2 : s ≤ 2) (hlen : l.length ≤ 20000) :
    Calls Tryz.prog 168 #[.slice A l.length c, .int .i64 s] w (Says (.bool (riseB s l)) w) := by
  go_enter Tryz.func168, Tryz.ntmps168
  go_wp2
  go_loopw [5] (fun i wr => ∃ (k m n : Nat), m = (k + 1) * s ∧ i = .int .i64 m ∧ m ≤ l.length + 2 ∧ riseTo s l k = true ∧ wr = w.drewN n) (fun i wr => l.length + 2 - (intOf i).toNat)
  case atStart => exact ⟨0, s, 0, by omega, rfl, by omega, rfl, rfl⟩
  case round =>
    obtain ⟨k, m, n, hm, rfl, hml, hr, rfl⟩ := hrel
    have HR := Lib.hid hr
    have HM := Lib.hid hm
    have hsm : s ≤ m := by rw [hm]; exact Nat.le_mul_of_pos_left _ (by omega)
    obtain ⟨m0, hm0⟩ : ∃ m0, m0 = k * s := ⟨_, rfl⟩
    have hmm : m = m0 + s := by rw [hm, hm0, Nat.succ_mul]
    have HM0 := Lib.hid hm0
    clear hr hm hm0
    by_cases hlt : m < l.length
    · obtain ⟨b, off, rfl, hb, hc⟩ := hA (by omega)
      have hck := hc m hlt
      have hck' := hc m0 (by omega)
      clear hc
      obtain ⟨x, hx⟩ : ∃ x, l[m]?.getD 0 = x := ⟨_, rfl⟩
      obtain ⟨y, hy⟩ : ∃ y, l[m0]?.getD 0 = y := ⟨_, rfl⟩
      rw [hx] at hck
      rw [hy] at hck'
      have HX := Lib.hid hx
      have HY := Lib.hid hy
      have hq : (m : Int) - (s : Int) = (m0 : Int) := by omega
      have HMM := Lib.hid hmm
      have hk0 : (0 : Int) ≤ (m : Int) := by omega
      have hk1 : (m : Int) < (l.length : Int) := by omega
      have hk2 : (m0 : Int) < (l.length : Int) := by omega
      have hk3 : (0 : Int) ≤ (m0 : Int) := by omega
      clear hx hy hmm
      by_cases hxy : x ≤ y
      · go_wp2_with fail
        go_quiet (fail)
        go_wp2
        go_ret
        refine ⟨ret_bool (rise_no (k := k) hs (by rw [← HM.out]; exact hlt) (by rw [← HM.out, ← HM0.out, HX.out, HY.out]; exact hxy)).symm, below_drewN (below_drew0 w n) _⟩
      · go_wp2_with fail
        go_quiet (fail)
        go_wp2
        go_roundw
        case rel => exact ⟨k + 1, m + s, _, by rw [HM.out, Nat.succ_mul (k + 1)], by go_num, by have := HMM.out; omega, rise_step HR.out (by rw [← HM.out, ← HM0.out, HX.out, HY.out]; omega), rfl⟩
        case measure => simp [intOf]; omega
    · go_wp2
      go_ret
      exact ⟨ret_bool (rise_end HR.out (by rw [← HM.out]; omega)).symm, below_drew0 w n⟩
set_option maxHeartbeats 1000000 in
theorem rrises_any (A : Option Addr) (c s : Nat) (l : List Int) (w : World) (hA : Ints w A l) (hs : 1 ≤ s) (hs2 : s ≤ 2) (hlen : l.length ≤ 20000) :
    Calls Tryz.prog 107 #[.slice A l.length c, .int .i64 s] w (Says (.bool (riseB s l)) w) := by
  go_enter Tryz.func107, Tryz.ntmps107
  go_wp2
  go_loopw [5] (fun i wr => ∃ (k m n : Nat), m = (k + 1) * s ∧ i = .int .i64 m ∧ m ≤ l.length + 2 ∧ riseTo s l k = true ∧ wr = w.drewN n) (fun i wr => l.length + 2 - (intOf i).toNat)
  case atStart => exact ⟨0, s, 0, by omega, rfl, by omega, rfl, rfl⟩
  case round =>
    obtain ⟨k, m, n, hm, rfl, hml, hr, rfl⟩ := hrel
    have HR := Lib.hid hr
    have HM := Lib.hid hm
    have hsm : s ≤ m := by rw [hm]; exact Nat.le_mul_of_pos_left _ (by omega)
    obtain ⟨m0, hm0⟩ : ∃ m0, m0 = k * s := ⟨_, rfl⟩
    have hmm : m = m0 + s := by rw [hm, hm0, Nat.succ_mul]
    have HM0 := Lib.hid hm0
    clear hr hm hm0
    by_cases hlt : m < l.length
    · obtain ⟨b, off, rfl, hb, hc⟩ := hA (by omega)
      have hck := hc m hlt
      have hck' := hc m0 (by omega)
      clear hc
      obtain ⟨x, hx⟩ : ∃ x, l[m]?.getD 0 = x := ⟨_, rfl⟩
      obtain ⟨y, hy⟩ : ∃ y, l[m0]?.getD 0 = y := ⟨_, rfl⟩
      rw [hx] at hck
      rw [hy] at hck'
      have HX := Lib.hid hx
      have HY := Lib.hid hy
      have hq : (m : Int) - (s : Int) = (m0 : Int) := by omega
      have HMM := Lib.hid hmm
      have hk0 : (0 : Int) ≤ (m : Int) := by omega
      have hk1 : (m : Int) < (l.length : Int) := by omega
      have hk2 : (m0 : Int) < (l.length : Int) := by omega
      have hk3 : (0 : Int) ≤ (m0 : Int) := by omega
      clear hx hy hmm
      by_cases hxy : x ≤ y
      · go_wp2_with fail
        go_quiet (fail)
        go_wp2
        go_ret
        refine ⟨ret_bool (rise_no (k := k) hs (by rw [← HM.out]; exact hlt) (by rw [← HM.out, ← HM0.out, HX.out, HY.out]; exact hxy)).symm, below_drewN (below_drew0 w n) _⟩
      · go_wp2_with fail
        go_quiet (fail)
        go_wp2
        go_roundw
        case rel => exact ⟨k + 1, m + s, _, by rw [HM.out, Nat.succ_mul (k + 1)], by go_num, by have := HMM.out; omega, rise_step HR.out (by rw [← HM.out, ← HM0.out, HX.out, HY.out]; omega), rfl⟩
        case measure => simp [intOf]; omega
    · go_wp2
      go_ret
      exact ⟨ret_bool (rise_end HR.out (by rw [← HM.out]; omega)).symm, below_drew0 w n⟩

def stV (t n : Int) (A : Option Addr) (k c : Nat) : Value := .agg #[.int .i64 t, .int .i64 n, .slice A k c]
theorem alloc1 (w : World) (o : Obj) : Below w.heap.size w (w.alloc o) := (Below.refl _ _).alloc (Nat.le_refl _) _

theorem fit1 (t n : Int) (A : Option Addr) (c : Nat) (l : List Int) (w : World) : Calls Tryz.prog 154 #[stV t n A l.length c] w (Says (.bool (decide (l.length = 0))) w) := by
  unfold stV
  by_cases h : l.length = 0
  · have e : ((l.length : Int) == 0) = true := by simp [h]
    rw [decide_eq_true h]
    go_enter Tryz.func154, Tryz.ntmps154
    go_wp2
    go_ret
    exact ⟨rfl, alloc1 w _⟩
  · have e : ((l.length : Int) == 0) = false := by rw [beq_eq_false_iff_ne]; omega
    rw [decide_eq_false h]
    go_enter Tryz.func154, Tryz.ntmps154
    go_wp2
    go_ret
    exact ⟨rfl, alloc1 w _⟩
theorem fit4 (t n : Int) (A : Option Addr) (c : Nat) (l : List Int) (w : World) : Calls Tryz.prog 157 #[stV t n A l.length c] w (Says (.bool (n == 0)) w) := by
  unfold stV
  go_enter Tryz.func157, Tryz.ntmps157
  go_wp2
  go_ret
  exact ⟨rfl, alloc1 w _⟩
theorem fit2 (t n : Int) (A : Option Addr) (c : Nat) (l : List Int) (w : World) (hA : Ints w A l) (hlen : l.length ≤ 20000) : Calls Tryz.prog 155 #[stV t n A l.length c] w (Says (.bool ((n == 0) && riseB 1 l)) w) := by
  have H := rises_any A c 1 l (w.alloc (.cells #[.int .i64 t, .int .i64 n, .slice A l.length c] 196)) (hA.below (alloc1 w _)) (by omega) (by omega) hlen
  unfold stV
  generalize riseB 1 l = r at *
  cases h : (n == 0)
  · go_enter Tryz.func155, Tryz.ntmps155
    go_wp2
    go_ret
    exact ⟨rfl, alloc1 w _⟩
  · go_enter Tryz.func155, Tryz.ntmps155
    go_wp2_with fail
    refine H.mono ?_
    rintro e w1 ⟨rfl, hB⟩
    go_wp2
    go_ret
    exact ⟨rfl, nxt (alloc1 w _) hB (by simp)⟩
theorem fit3 (t n : Int) (A : Option Addr) (c : Nat) (l : List Int) (w : World) (hA : Ints w A l) (hlen : l.length ≤ 20000) : Calls Tryz.prog 156 #[stV t n A l.length c] w (Says (.bool ((n == 0) && decide (l.length % 2 = 0) && riseB 2 l)) w) := by
  have H := rises_any A c 2 l (w.alloc (.cells #[.int .i64 t, .int .i64 n, .slice A l.length c] 196)) (hA.below (alloc1 w _)) (by omega) (by omega) hlen
  unfold stV
  generalize riseB 2 l = r at *
  cases h : (n == 0)
  · go_enter Tryz.func156, Tryz.ntmps156
    go_wp2
    go_ret
    exact ⟨rfl, alloc1 w _⟩
  · have hm : Int.tmod (l.length : Int) 2 = ((l.length % 2 : Nat) : Int) := rfl
    by_cases h2 : l.length % 2 = 0
    · have e2 : ((Int.tmod (l.length : Int) 2) == 0) = true := by rw [hm, h2]; rfl
      rw [decide_eq_true h2]
      go_enter Tryz.func156, Tryz.ntmps156
      go_wp2_with fail
      refine H.mono ?_
      rintro e w1 ⟨rfl, hB⟩
      go_wp2
      go_ret
      exact ⟨rfl, nxt (alloc1 w _) hB (by simp)⟩
    · have e2 : ((Int.tmod (l.length : Int) 2) == 0) = false := by rw [hm, beq_eq_false_iff_ne]; omega
      rw [decide_eq_false h2]
      go_enter Tryz.func156, Tryz.ntmps156
      go_wp2
      go_ret
      exact ⟨rfl, alloc1 w _⟩
theorem fit5 (t n : Int) (A : Option Addr) (c : Nat) (l : List Int) (w : World) : Calls Tryz.prog 158 #[stV t n A l.length c] w (Says (.bool (decide (l.length = 0) && decide (0 ≤ n) && decide (n ≤ 4611686018427387904))) w) := by
  unfold stV
  by_cases h : l.length = 0
  · have e : ((l.length : Int) == 0) = true := by simp [h]
    rw [decide_eq_true h]
    cases h1 : decide (0 ≤ n) <;> cases h2 : decide (n ≤ 4611686018427387904)
    all_goals go_enter Tryz.func158, Tryz.ntmps158
    all_goals go_wp2
    all_goals go_ret
    all_goals exact ⟨rfl, alloc1 w _⟩
  · have e : ((l.length : Int) == 0) = false := by rw [beq_eq_false_iff_ne]; omega
    rw [decide_eq_false h]
    go_enter Tryz.func158, Tryz.ntmps158
    go_wp2
    go_ret
    exact ⟨rfl, alloc1 w _⟩
def fnV (k : Nat) : Value := .func (.func k) #[] #[]
def askedV : Value := .agg #[.nilFunc, .func (.func 154) #[] #[], .func (.func 155) #[] #[], .func (.func 156) #[] #[], .func (.func 157) #[] #[], .func (.func 158) #[] #[]]
theorem asked_any (w : World) : Calls Tryz.prog 133 #[] w (Says askedV w) := by
  go_enter Tryz.func133, Tryz.ntmps133
  go_wp2
  refine bodyPost_ret (v := askedV) (by simp [results, Tryz.f133, go_sem, askedV]) rfl ?_
  exact ⟨rfl, alloc1 w _⟩
end Go.Proofs.YtpdbkjnaicjfdaaGreatDoor

namespace Go.Proofs.YtpdbkjnaicjfdaaGreatDoor
open Go.RowKit Go.Maps
set_option linter.unusedVariables false

/-- The words lie where the program's text lays them. -/
def Wds (w : World) : Prop := ∀ i, i < 6 → w.cell? ⟨1, i, none⟩ = some (.string (st_wordB i))
theorem Wds.pos {w : World} (h : Wds w) : 1 < w.heap.size := World.block_lt_of_cell? w _ (h 0 (by omega))
theorem Wds.below {w w' : World} {n : Nat} (h : Wds w) (hb : Below n w w') (hn : 1 < n) : Wds w' := fun i hi => (hb.cell (p := ⟨1, i, none⟩) hn).trans (h i hi)
theorem Wds.on {w w' : World} (h : Wds w) (hb : Below w.heap.size w w') : Wds w' := h.below hb h.pos

theorem type_yes {t : Int} (h : ¬ (t < 1 ∨ 5 < t)) : knownB t = true := by simp [knownB]; omega
theorem type_no {t : Int} (h : t < 1 ∨ 5 < t) : knownB t = false := by simp [knownB]; omega

theorem check_none (t n : Int) (A : Option Addr) (c : Nat) (l : List Int) (w : World) (h : t < 1 ∨ 5 < t) : Calls Tryz.prog 116 #[stV t n A l.length c] w (Says (.int .i64 8) w) := by
  have hk := type_no h
  clear h
  unfold stV
  go_enter Tryz.func116, Tryz.ntmps116
  go_wp2_with fail
  refine (known_any _ _).mono ?_
  rintro e w1 ⟨rfl, rfl⟩
  rw [hk]
  go_wp2
  go_ret
  exact ⟨rfl, alloc1 w _⟩

theorem ints_cell {w : World} {x : Int} {W : World} {B : Nat} (h : W.cell? ⟨B, 0, none⟩ = some (.int .i64 x)) (hB : Below W.heap.size W w) (hl : B < W.heap.size) : w.cell? ⟨B, 0, none⟩ = some (.int .i64 x) := (hB.cell (p := ⟨B, 0, none⟩) hl).trans h

set_option maxHeartbeats 1000000 in
theorem check_with (t n : Int) (A : Option Addr) (k c : Nat) (w : World) (g : Nat) (b : Bool) (r : Int) (hk : knownB t = true)
    (hix : ∀ W : World, (Instr.index 194 askedV (.int .i64 t)).run Tryz.prog W = .ok (.func (.func g) #[] #[]) W)
    (eg : ∀ args w, (callFunc g args).run Tryz.prog w = .ok (.enter g args) w) (H : ∀ W, Below w.heap.size w W → Calls Tryz.prog g #[stV t n A k c] W (Says (.bool b) W)) (hr : r = if b = true then 0 else 5) :
    Calls Tryz.prog 116 #[stV t n A k c] w (Says (.int .i64 r) w) := by
  unfold stV at *
  obtain ⟨va, hva⟩ : ∃ va, askedV = va := ⟨_, rfl⟩
  rw [hva] at hix
  have HA : ∀ W : World, Calls Tryz.prog 133 #[] W (Says va W) := fun W => hva ▸ asked_any W
  have HR := Lib.hid hr
  clear hva hr
  go_enter Tryz.func116, Tryz.ntmps116
  go_wp2_with fail
  refine (known_any _ _).mono ?_
  rintro e w1 ⟨rfl, rfl⟩
  rw [hk]
  have HW := Lib.hid (Holds.new w 53 #[.int .i64 t, .int .i64 n, .slice A k c])
  have hB0 : Below w.heap.size w (w.alloc (.cells #[.int .i64 t, .int .i64 n, .slice A k c] 53)) := alloc1 w _
  have hlt0 : w.heap.size < (w.alloc (.cells #[.int .i64 t, .int .i64 n, .slice A k c] 53)).heap.size := by simp
  go_wp2_with fail
  generalize w.alloc (.cells #[.int .i64 t, .int .i64 n, .slice A k c] 53) = W0 at *
  have c0 := HW.out.c (j := 0) rfl
  go_region_held3 (fun w' => w'.cell? ⟨w.heap.size, 0, none⟩ = some (.int .i64 t) ∧ Below W0.heap.size W0 w') (first | exact ⟨c0, (Below.refl _ W0).drew⟩ | exact ⟨(hB6.cell (p := ⟨w.heap.size, 0, none⟩) hlt0).trans c0, (Below.refl _ W0).drew.trans hB6⟩ | go_keep) (first | (go_at_call 133; refine (HA _).mono ?_; rintro e w6 ⟨rfl, hB6⟩))
  have hB6' : Below W0.heap.size W0 w6 := ((Below.refl _ W0).drew).trans hB6
  have HW6 := HW.out.below hB6' hlt0
  have c06 := HW6.c (j := 0) rfl
  have c16 := HW6.c (j := 1) rfl
  have c26 := HW6.c (j := 2) rfl
  have hB : Below w.heap.size w w6 := nxt hB0 hB6' (by omega)
  cases b
  · go_wp2_with fail
    refine (H w6 hB).mono ?_
    rintro e w7 ⟨rfl, hB7⟩
    go_wp2
    go_ret
    exact ⟨ret_int HR.out.symm, nxt hB hB7 hB.size⟩
  · go_wp2_with fail
    refine (H w6 hB).mono ?_
    rintro e w7 ⟨rfl, hB7⟩
    go_wp2
    go_ret
    exact ⟨ret_int HR.out.symm, nxt hB hB7 hB.size⟩

theorem st_check_any (t n : Int) (A : Option Addr) (c : Nat) (l : List Int) (w : World) (hA : Ints w A l) (hlen : l.length ≤ 20000) :
    Calls Tryz.prog 116 #[stV t n A l.length c] w (Says (.int .i64 (st_checkE t n l)) w) := by
  by_cases h : t < 1 ∨ 5 < t
  · rw [check_type h]; exact check_none t n A c l w h
  · have hk := type_yes h
    have hc := check_in (n := n) (l := l) h
    obtain rfl | rfl | rfl | rfl | rfl : t = 1 ∨ t = 2 ∨ t = 3 ∨ t = 4 ∨ t = 5 := by omega
    · exact check_with _ n A _ c w 154 _ _ hk (fun W => by kernel_rfl) (Go.Proofs.enters_of Tryz.func154 (by kernel_rfl) rfl) (fun W hB => fit1 _ n A c l W) hc
    · exact check_with _ n A _ c w 155 _ _ hk (fun W => by kernel_rfl) (Go.Proofs.enters_of Tryz.func155 (by kernel_rfl) rfl) (fun W hB => fit2 _ n A c l W (hA.below hB) hlen) hc
    · exact check_with _ n A _ c w 156 _ _ hk (fun W => by kernel_rfl) (Go.Proofs.enters_of Tryz.func156 (by kernel_rfl) rfl) (fun W hB => fit3 _ n A c l W (hA.below hB) hlen) hc
    · exact check_with _ n A _ c w 157 _ _ hk (fun W => by kernel_rfl) (Go.Proofs.enters_of Tryz.func157 (by kernel_rfl) rfl) (fun W hB => fit4 _ n A c l W) hc
    · exact check_with _ n A _ c w 158 _ _ hk (fun W => by kernel_rfl) (Go.Proofs.enters_of Tryz.func158 (by kernel_rfl) rfl) (fun W hB => fit5 _ n A c l W) hc
end Go.Proofs.YtpdbkjnaicjfdaaGreatDoor

namespace Go.Proofs.YtpdbkjnaicjfdaaGreatDoor
open Go.RowKit Go.Maps
set_option linter.unusedVariables false

/-- The first k numbers are the same. -/
def AlikeTo (l m : List Int) (k : Nat) : Prop := ∀ j, j < k → l[j]?.getD 0 = m[j]?.getD 0
theorem AlikeTo.step {l m : List Int} {k : Nat} (h : AlikeTo l m k) (e : l[k]?.getD 0 = m[k]?.getD 0) : AlikeTo l m (k + 1) := fun j hj => by
  rcases Nat.lt_or_ge j k with h1 | h1
  · exact h j h1
  · rw [show j = k by omega]; exact e
theorem AlikeTo.eq {l m : List Int} {k : Nat} (h : AlikeTo l m k) (h1 : l.length = m.length) (h2 : l.length ≤ k) : l = m := by
  apply List.ext_getElem h1
  intro i h3 h4
  have := h i (by omega)
  rwa [List.getElem?_eq_getElem h3, List.getElem?_eq_getElem h4] at this
theorem unlike {l m : List Int} {k : Nat} {x y : Int} (hx : l[k]?.getD 0 = x) (hy : m[k]?.getD 0 = y) (h : x ≠ y) : (l == m) = false := by
  rw [beq_eq_false_iff_ne]; intro e; subst e; exact h (hx.symm.trans hy)
theorem unlike_len {l m : List Int} (h : l.length ≠ m.length) : (l == m) = false := by
  rw [beq_eq_false_iff_ne]; intro e; subst e; exact h rfl

set_option maxHeartbeats 1000000 in
theorem equal_any (A B : Option Addr) (c d : Nat) (l m : List Int) (w : World) (hA : Ints w A l) (hB : Ints w B m) (hlen : l.length ≤ 20000) :
    Calls Tryz.prog 145 #[.slice A l.length c, .slice B m.length d] w (Says (.bool (l == m)) w) := by
  by_cases hl : l.length = m.length
  · have k0 : ((l.length : Int) != (m.length : Int)) = false := by rw [hl]; simp
    have HL := Lib.hid hl
    have hA' := Lib.hid hA
    have hB' := Lib.hid hB
    clear hl hA hB
    go_enter Tryz.func145, Tryz.ntmps145
    go_wp2
    go_loopw [5, 13] (fun u5 i wr => ∃ (k n : Nat), k ≤ l.length ∧ i = .int .i64 k ∧ AlikeTo l m k ∧ wr = w.drewN n) (fun u5 i wr => l.length - (intOf i).toNat)
    case atStart => exact ⟨0, 0, Nat.zero_le _, rfl, fun j h => absurd h (Nat.not_lt_zero _), rfl⟩
    case round =>
      obtain ⟨k, n, hk, rfl, hal, rfl⟩ := hrel
      have HAL := Lib.hid hal
      clear hal
      by_cases hlt : k < l.length
      · obtain ⟨b, off, rfl, hb, hc⟩ := hA'.out (by omega)
        obtain ⟨b', off', rfl, hb', hc'⟩ := hB'.out (by have := HL.out; omega)
        have hck := hc k hlt
        have hck' := hc' k (by have := HL.out; omega)
        have hk0 : (0 : Int) ≤ (k : Int) := by omega
        have hk1 : (k : Int) < (l.length : Int) := by omega
        have hk2 : (k : Int) < (m.length : Int) := by have := HL.out; omega
        obtain ⟨x, hx⟩ : ∃ x, l[k]?.getD 0 = x := ⟨_, rfl⟩
        obtain ⟨y, hy⟩ : ∃ y, m[k]?.getD 0 = y := ⟨_, rfl⟩
        rw [hx] at hck
        rw [hy] at hck'
        have HX := Lib.hid hx
        have HY := Lib.hid hy
        clear hc hc' hx hy
        by_cases hxy : x = y
        · have HXY := Lib.hid hxy
          have kx : (x != y) = false := by rw [hxy]; simp
          clear hxy
          go_wp2_with fail
          go_quiet (fail)
          go_wp2
          go_roundw
          case rel => exact ⟨k + 1, _, by omega, by go_num, HAL.out.step (by rw [HX.out, HY.out, HXY.out]), rfl⟩
          case measure => simp [intOf]; omega
        · have HXY := Lib.hid hxy
          have kx : (x != y) = true := by rw [bne_iff_ne]; exact hxy
          clear hxy
          go_wp2_with fail
          go_quiet (fail)
          go_wp2
          go_ret
          exact ⟨ret_bool (unlike HX.out HY.out HXY.out).symm, below_drewN (below_drew0 w n) _⟩
      · go_wp2
        go_ret
        exact ⟨ret_bool (by rw [HAL.out.eq HL.out (by omega)]; exact (beq_self_eq_true m).symm), below_drew0 w n⟩
  · have k0 : ((l.length : Int) != (m.length : Int)) = true := by rw [bne_iff_ne]; omega
    have hf := unlike_len hl
    rw [hf]
    clear hl
    go_enter Tryz.func145, Tryz.ntmps145
    go_wp2
    go_ret
    exact ⟨rfl, Below.refl _ _⟩

set_option maxHeartbeats 1000000 in
theorem sameints_any (A B : Option Addr) (c d : Nat) (l m : List Int) (w : World) (hA : Ints w A l) (hB : Ints w B m) (hlen : l.length ≤ 20000) :
    Calls Tryz.prog 95 #[.slice A l.length c, .slice B m.length d] w (Says (.bool (l == m)) w) := by
  by_cases hl : l.length = m.length
  · have k0 : ((l.length : Int) != (m.length : Int)) = false := by rw [hl]; simp
    have HL := Lib.hid hl
    have hA' := Lib.hid hA
    have hB' := Lib.hid hB
    clear hl hA hB
    go_enter Tryz.func95, Tryz.ntmps95
    go_wp2
    go_loopw [5] (fun i wr => ∃ (k n : Nat), k ≤ l.length ∧ i = .int .i64 k ∧ AlikeTo l m k ∧ wr = w.drewN n) (fun i wr => l.length - (intOf i).toNat)
    case atStart => exact ⟨0, 0, Nat.zero_le _, rfl, fun j h => absurd h (Nat.not_lt_zero _), rfl⟩
    case round =>
      obtain ⟨k, n, hk, rfl, hal, rfl⟩ := hrel
      have HAL := Lib.hid hal
      clear hal
      by_cases hlt : k < l.length
      · obtain ⟨b, off, rfl, hb, hc⟩ := hA'.out (by omega)
        obtain ⟨b', off', rfl, hb', hc'⟩ := hB'.out (by have := HL.out; omega)
        have hck := hc k hlt
        have hck' := hc' k (by have := HL.out; omega)
        have hk0 : (0 : Int) ≤ (k : Int) := by omega
        have hk1 : (k : Int) < (l.length : Int) := by omega
        have hk2 : (k : Int) < (m.length : Int) := by have := HL.out; omega
        obtain ⟨x, hx⟩ : ∃ x, l[k]?.getD 0 = x := ⟨_, rfl⟩
        obtain ⟨y, hy⟩ : ∃ y, m[k]?.getD 0 = y := ⟨_, rfl⟩
        rw [hx] at hck
        rw [hy] at hck'
        have HX := Lib.hid hx
        have HY := Lib.hid hy
        clear hc hc' hx hy
        by_cases hxy : x = y
        · have HXY := Lib.hid hxy
          have kx : (x != y) = false := by rw [hxy]; simp
          clear hxy
          go_wp2_with fail
          go_quiet (fail)
          go_wp2
          go_roundw
          case rel => exact ⟨k + 1, _, by omega, by go_num, HAL.out.step (by rw [HX.out, HY.out, HXY.out]), rfl⟩
          case measure => simp [intOf]; omega
        · have HXY := Lib.hid hxy
          have kx : (x != y) = true := by rw [bne_iff_ne]; exact hxy
          clear hxy
          go_wp2_with fail
          go_quiet (fail)
          go_wp2
          go_ret
          exact ⟨ret_bool (unlike HX.out HY.out HXY.out).symm, below_drewN (below_drew0 w n) _⟩
      · go_wp2
        go_ret
        exact ⟨ret_bool (by rw [HAL.out.eq HL.out (by omega)]; exact (beq_self_eq_true m).symm), below_drew0 w n⟩
  · have k0 : ((l.length : Int) != (m.length : Int)) = true := by rw [bne_iff_ne]; omega
    have hf := unlike_len hl
    rw [hf]
    clear hl
    go_enter Tryz.func95, Tryz.ntmps95
    go_wp2
    go_ret
    exact ⟨rfl, Below.refl _ _⟩

def sameB (t n : Int) (l : List Int) (t' n' : Int) (l' : List Int) : Bool := (t == t') && (n == n') && (l == l')
theorem same_iff {t n t' n' : Int} {l l' : List Int} : sameB t n l t' n' l' = true ↔ t = t' ∧ n = n' ∧ l = l' := by
  unfold sameB; rw [Bool.and_eq_true, Bool.and_eq_true, beq_iff_eq, beq_iff_eq, beq_iff_eq]; exact and_assoc

set_option maxHeartbeats 1000000 in
theorem same_st (t n t' n' : Int) (A B : Option Addr) (c d : Nat) (l m : List Int) (w : World) (hA : Ints w A l) (hB : Ints w B m) (hlen : l.length ≤ 20000) :
    Calls Tryz.prog 126 #[stV t n A l.length c, stV t' n' B m.length d] w (Says (.bool (sameB t n l t' n' m)) w) := by
  have hB0 : Below w.heap.size w ((w.alloc (.cells #[.int .i64 t, .int .i64 n, .slice A l.length c] 53)).alloc (.cells #[.int .i64 t', .int .i64 n', .slice B m.length d] 53)) := (alloc1 w _).alloc (by simp) _
  have H := equal_any A B c d l m _ (hA.below hB0) (hB.below hB0) hlen
  unfold stV sameB
  cases h1 : (t == t')
  · go_enter Tryz.func126, Tryz.ntmps126
    go_wp2
    go_ret
    exact ⟨rfl, hB0⟩
  · cases h2 : (n == n')
    · go_enter Tryz.func126, Tryz.ntmps126
      go_wp2
      go_ret
      exact ⟨rfl, hB0⟩
    · generalize (l == m) = r at *
      go_enter Tryz.func126, Tryz.ntmps126
      go_wp2_with fail
      refine H.mono ?_
      rintro e w1 ⟨rfl, hB1⟩
      go_wp2
      go_ret
      exact ⟨rfl, nxt hB0 hB1 (by simp; omega)⟩

set_option maxHeartbeats 1000000 in
theorem samest_any (t n t' n' : Int) (A B : Option Addr) (c d : Nat) (l m : List Int) (w : World) (hA : Ints w A l) (hB : Ints w B m) (hlen : l.length ≤ 20000) :
    Calls Tryz.prog 68 #[stV t n A l.length c, stV t' n' B m.length d] w (Says (.bool (sameB t n l t' n' m)) w) := by
  have hB0 : Below w.heap.size w ((w.alloc (.cells #[.int .i64 t, .int .i64 n, .slice A l.length c] 53)).alloc (.cells #[.int .i64 t', .int .i64 n', .slice B m.length d] 53)) := (alloc1 w _).alloc (by simp) _
  have H := sameints_any A B c d l m _ (hA.below hB0) (hB.below hB0) hlen
  unfold stV sameB
  cases h1 : (t == t')
  · go_enter Tryz.func68, Tryz.ntmps68
    go_wp2
    go_ret
    exact ⟨rfl, hB0⟩
  · cases h2 : (n == n')
    · go_enter Tryz.func68, Tryz.ntmps68
      go_wp2
      go_ret
      exact ⟨rfl, hB0⟩
    · generalize (l == m) = r at *
      go_enter Tryz.func68, Tryz.ntmps68
      go_wp2_with fail
      refine H.mono ?_
      rintro e w1 ⟨rfl, hB1⟩
      go_wp2
      go_ret
      exact ⟨rfl, nxt hB0 hB1 (by simp; omega)⟩

def emptyV (t : Int) : Value := .tuple #[stV (if t < 1 ∨ 5 < t then 0 else t) 0 none 0 0, .int .i64 (if t < 1 ∨ 5 < t then 8 else 0)]
end Go.Proofs.YtpdbkjnaicjfdaaGreatDoor

namespace Go.Proofs.YtpdbkjnaicjfdaaGreatDoor
open Go.RowKit Go.Maps
set_option linter.unusedVariables false

/-- A slice reads as the numbers l, and does not lie in block F. -/
def IntsOff (F : Nat) (w : World) (A : Option Addr) (l : List Int) : Prop :=
  0 < l.length → ∃ b off, A = some ⟨b, off, none⟩ ∧ b < w.heap.size ∧ b ≠ F ∧ ∀ j, j < l.length → w.cell? ⟨b, off + j, none⟩ = some (.int .i64 (l[j]?.getD 0))
theorem cell_kept {w w' : World} {b off : Nat} (e : w'.heap[b]? = w.heap[b]?) : w'.cell? ⟨b, off, none⟩ = w.cell? ⟨b, off, none⟩ := by
  unfold World.cell?; simp only [e]
theorem IntsOff.on {F F' : Nat} {w w' : World} {A : Option Addr} {l : List Int} (h : IntsOff F w A l) (hb : ∀ k, k < w.heap.size → k ≠ F → w'.heap[k]? = w.heap[k]?) (hs : w.heap.size ≤ w'.heap.size) (hF : F' = F ∨ w.heap.size ≤ F') : IntsOff F' w' A l := fun hl => by
  obtain ⟨b, off, e, hlt, hne, hc⟩ := h hl
  refine ⟨b, off, e, by omega, by omega, fun j hj => (cell_kept (hb b hlt hne)).trans (hc j hj)⟩
theorem IntsOff.of {F : Nat} {w : World} {A : Option Addr} {l : List Int} {n : Nat} {w0 : World} (h : Ints w0 A l) (hb : Below w0.heap.size w0 w) (hF : w0.heap.size ≤ F) : IntsOff F w A l := fun hl => by
  obtain ⟨b, off, e, hlt, hc⟩ := h hl
  have := hb.size
  refine ⟨b, off, e, by omega, by omega, fun j hj => (hb.cell (p := ⟨b, off + j, none⟩) hlt).trans (hc j hj)⟩
theorem cell_one (w : World) (t : TypeId) (x : Value) : ∀ j u, [x][j]? = some u → (w.alloc (.cells #[x] t)).cell? ((⟨w.heap.size, 0, none⟩ : Addr).add j) = some u := by
  intro j u h
  match j with
  | 0 => simp at h; subst h; simp [Addr.add, World.cell?_alloc_new]
  | j + 1 => simp at h
theorem own_slice {W : World} {base : Nat} {e : TypeId} {v : Value} {n : Nat} {xs : List Value} {g cap m : Nat} {P : Prop} (h : W.ownsRow base e 1 v n xs) (hn : v = .slice none 0 0 ↔ Value.slice (some ⟨g, 0, none⟩) m cap = .slice none 0 0 ∧ P) : ∃ g' cap', v = .slice (some ⟨g', 0, none⟩) n cap' := form3 h hn

def AppB (base g0 : Nat) (ys : List Int) (w : World) (e : Ending) (w' : World) : Prop :=
  ∃ g cap, e = .returned (.slice (some ⟨g, 0, none⟩) ys.length cap) ∧ w'.ownsRow base 5 1 (.slice (some ⟨g, 0, none⟩) ys.length cap) ys.length (bytesOf ys) ∧ Below base w w' ∧ (g = g0 ∨ w.heap.size ≤ g)

theorem bytesOf_snoc (xs : List Int) (x : Int) : bytesOf xs ++ [.int .u8 x] = bytesOf (xs ++ [x]) := by simp [bytesOf]
theorem pow256 (j : Nat) : (256 : Int) ^ j = 2 ^ (8 * j) := by rw [Int.pow_mul]; rfl

end Go.Proofs.YtpdbkjnaicjfdaaGreatDoor

namespace Go.Proofs.YtpdbkjnaicjfdaaGreatDoor
open Go.RowKit Go.Maps
set_option linter.unusedVariables false

def EncNo (r : Int) (w : World) (e : Ending) (w' : World) : Prop := e = .returned (.tuple #[.slice none 0 0, .int .i64 r]) ∧ Below w.heap.size w w'
def EncYes (ys : List Int) (w : World) (e : Ending) (w' : World) : Prop :=
  ∃ g cap, e = .returned (.tuple #[.slice (some ⟨g, 0, none⟩) ys.length cap, .int .i64 0]) ∧ w'.ownsRow w.heap.size 5 1 (.slice (some ⟨g, 0, none⟩) ys.length cap) ys.length (bytesOf ys) ∧ Below w.heap.size w w'

theorem row_more {W : World} {b b' : Nat} {e : TypeId} {size : Nat} {v : Value} {n : Nat} {xs : List Value} (h : W.ownsRow b e size v n xs) (hb : b' ≤ b) : W.ownsRow b' e size v n xs := by
  refine ⟨h.1, ?_⟩
  rcases h.2 with h | ⟨g, cap, cur, h1, h2, h3⟩
  · exact .inl h
  · exact .inr ⟨g, cap, cur, h1, by omega, h3⟩

theorem intsOff_lit (F : Nat) (w : World) (t : Int) (ty : TypeId) (h : F ≠ w.heap.size) : IntsOff F (w.alloc (.cells #[.int .i64 t] ty)) (some ⟨w.heap.size, 0, none⟩) [t] := fun _ => by
  refine ⟨w.heap.size, 0, rfl, by simp, fun e => h e.symm, fun j hj => ?_⟩
  obtain rfl : j = 0 := by simp at hj; omega
  simp [World.cell?_alloc_new]

end Go.Proofs.YtpdbkjnaicjfdaaGreatDoor

namespace Go.Proofs.YtpdbkjnaicjfdaaGreatDoor
open Go.RowKit Go.Maps
set_option linter.unusedVariables false

theorem octets_take {l : List Int} (h : Octets l) (k : Nat) : Octets (l.take k) := fun x hx => h x (List.mem_of_mem_take hx)
theorem octets_drop {l : List Int} (h : Octets l) (k : Nat) : Octets (l.drop k) := fun x hx => h x (List.mem_of_mem_drop hx)
theorem un_take {l : List Int} {k : Nat} (hk : k < l.length) : unN (l.take (k + 1)) = unN (l.take k) * 256 + l[k]?.getD 0 := by
  rw [take_snoc l k hk, un_snoc, List.getElem?_eq_getElem hk]; rfl
theorem p256_8 : ∀ n, n ≤ 8 → (256 : Int) ^ n ≤ 18446744073709551616 := by decide
theorem p256_7 : ∀ n, n ≤ 7 → (256 : Int) ^ n ≤ 72057594037927936 := by decide
theorem p256_4 : ∀ n, n ≤ 4 → (256 : Int) ^ n ≤ 4294967296 := by decide
theorem un_small {l : List Int} (h : Octets l) (hk : l.length ≤ 8) : 0 ≤ unN l ∧ unN l < 18446744073709551616 := by
  have := un_bd l h
  exact ⟨this.1, Int.lt_of_lt_of_le this.2 (p256_8 _ hk)⟩
theorem un_four {l : List Int} (h : Octets l) (hk : l.length ≤ 4) : 0 ≤ unN l ∧ unN l < 4294967296 := by
  have := un_bd l h
  exact ⟨this.1, Int.lt_of_lt_of_le this.2 (p256_4 _ hk)⟩
theorem un_step {l : List Int} (h : Octets l) {k : Nat} (hk : k < 8) : 0 ≤ unN (l.take k) ∧ unN (l.take k) < 72057594037927936 := by
  have := un_bd (l.take k) (octets_take h k)
  exact ⟨this.1, Int.lt_of_lt_of_le this.2 (p256_7 _ (by rw [List.length_take]; omega))⟩
theorem or_byte (m x : Int) (m0 : 0 ≤ m) (m1 : m < 72057594037927936) (x0 : 0 ≤ x) (x1 : x ≤ 255) : bits .or .u64 (m * 256) x = m * 256 + x := by
  obtain ⟨a, rfl⟩ := Int.eq_ofNat_of_zero_le m0
  obtain ⟨b, rfl⟩ := Int.eq_ofNat_of_zero_le x0
  have e : (a : Int) * 256 = ((2 ^ 8 * a : Nat) : Int) := by omega
  rw [e, u64_or_nat _ _ (by omega) (by omega), ← Nat.two_pow_add_eq_or_of_lt (by omega)]
  omega

theorem bytes_sub {w : World} {b off : Nat} {l : List Int} (h : Bytes w (some ⟨b, off, none⟩) l) (i k : Nat) : Bytes w (some ⟨b, off + i, none⟩) ((l.drop i).take k) := fun hl => by
  rw [List.length_take, List.length_drop] at hl
  obtain ⟨b', off', e, hb, hc⟩ := h (by omega)
  cases e
  refine ⟨b, off + i, rfl, hb, fun j hj => ?_⟩
  rw [List.length_take, List.length_drop] at hj
  rw [Nat.add_assoc, hc (i + j) (by omega), List.getElem?_take, if_pos (by omega), List.getElem?_drop]
theorem wrap64_id {x : Int} (h : -9223372036854775808 ≤ x) (h2 : x ≤ 9223372036854775807) : wrap64 x = x := by
  unfold wrap64; omega
theorem numAt_four {l : List Int} (ho : Octets l) (i : Nat) : 0 ≤ numAt l i 4 ∧ numAt l i 4 < 4294967296 := by
  have := un_four (octets_take (octets_drop ho i) 4) (by rw [List.length_take]; omega)
  unfold numAt
  rw [wrap64_id (by omega) (by omega)]
  exact this

end Go.Proofs.YtpdbkjnaicjfdaaGreatDoor

namespace Go.Proofs.YtpdbkjnaicjfdaaGreatDoor
open Go.RowKit Go.Maps
set_option linter.unusedVariables false

def zeroSt : Array Value := #[.int .i64 0, .int .i64 0, .slice none 0 0]
def DecNo (w : World) (e : Ending) (w' : World) : Prop := e = .returned (.tuple #[stV 0 0 none 0 0, .int .i64 5]) ∧ Below w.heap.size w w'
/-- The numbers l in a row of the call's own, nil if there are none. -/
def OwnInts (base : Nat) (w : World) (v : Value) (l : List Int) : Prop := w.ownsRow base 3 1 v l.length (intsOf l)
def DecYes (t n : Int) (l : List Int) (w : World) (e : Ending) (w' : World) : Prop :=
  ∃ A c, e = .returned (.tuple #[stV t n A l.length c, .int .i64 0]) ∧ OwnInts w.heap.size w' (.slice A l.length c) l ∧ Below w.heap.size w w'

def DecPost (b : List Int) (w : World) (e : Ending) (w' : World) : Prop := (decOk b = true ∧ DecYes (decT b) (decN b) (decL b) w e w') ∨ (decOk b = false ∧ DecNo w e w')
theorem own_form {W : World} {base : Nat} {e : TypeId} {v : Value} {n : Nat} {xs : List Value} (h : W.ownsRow base e 1 v n xs) : ∃ A c, v = .slice A n c := by
  rcases h.2 with ⟨e1, e2⟩ | ⟨g, cap, cur, e1, _⟩
  · subst e2; exact ⟨none, 0, e1⟩
  · exact ⟨_, _, e1⟩
theorem own_ints {W : World} {base : Nat} {A : Option Addr} {c n : Nat} {l : List Int} (hn : l.length = n) (h : W.ownsRow base 3 1 (.slice A n c) n (intsOf l)) : Ints W A l := by
  rcases h.2 with ⟨e1, e2⟩ | ⟨g, cap, cur, e1, _⟩
  · intro hl; omega
  · cases e1; exact ints_own hn h
theorem drew_size (w : World) : w.drew.heap.size = w.heap.size := rfl
theorem Only.more {B : Nat} {a b c : World} {o : Obj} {row : Option Nat} (h : Only B a b) (hg : (b.drew.alloc o).grownBy c row) (hr : ∀ g, row = some g → a.heap.size ≤ g) : Only B a c :=
  ⟨hg.os.trans h.os, hg.tape.trans h.tape, hg.output.trans h.output, by have h1 := h.size; have h2 := hg.size; simp at h2; omega, fun k hk hF => by
    have h1 := h.size
    refine (hg.block k (by simp; omega) (fun e => by have := hr k e.symm; omega)).trans ?_
    refine (Below.heap_alloc b.drew o k (by simp; omega)).trans ?_
    exact h.block k hk hF⟩
theorem intsOf_snoc (xs : List Int) (x : Int) : intsOf xs ++ [.int .i64 x] = intsOf (xs ++ [x]) := by simp [intsOf]

end Go.Proofs.YtpdbkjnaicjfdaaGreatDoor

namespace Go.Proofs.YtpdbkjnaicjfdaaGreatDoor
open Go.RowKit Go.Maps
set_option linter.unusedVariables false

def spB : ByteArray := ⟨#[32]⟩
def partB (s : ByteArray) : ByteArray := ⟨(partL s.data.toList).toArray⟩
theorem part_bytes (s : ByteArray) : (partB s).data.toList = partL s.data.toList := by simp [partB]
theorem part_size (s : ByteArray) : (partB s).size = (partL s.data.toList).length := by rw [← bytes_len, part_bytes]
theorem part_size_le (s : ByteArray) : (partB s).size ≤ s.size := by rw [part_size, ← bytes_len]; exact part_le _
theorem idx_part : ∀ l : List UInt8, Lib.indexByte l 32 = if (partL l).length < l.length then ((partL l).length : Int) else -1
  | [] => rfl
  | b :: l => by
    have ih := idx_part l
    have hle := part_le l
    unfold Lib.indexByte
    by_cases h : b = 32
    · subst h
      have e : partL (32 :: l) = [] := by simp [partL]
      rw [e]; simp
    · have e : partL (b :: l) = b :: partL l := by simp [partL, h]
      have hb : (b == 32) = false := by simpa using h
      rw [e, hb]
      by_cases h2 : (partL l).length < l.length
      · have i : Lib.indexByte l 32 = ((partL l).length : Int) := by rw [ih, if_pos h2]
        have hne : (((partL l).length : Int) == -1) = false := by rw [beq_eq_false_iff_ne]; omega
        rw [i, hne, if_pos (show (b :: partL l).length < (b :: l).length by simp; exact h2)]
        simp
      · have i : Lib.indexByte l 32 = -1 := by rw [ih, if_neg h2]
        rw [i, if_neg (show ¬ (b :: partL l).length < (b :: l).length by simp; omega)]
        simp
theorem part_take : ∀ l : List UInt8, partL l = l.take (partL l).length
  | [] => rfl
  | b :: l => by
    by_cases h : b = 32
    · subst h; simp [partL]
    · have e : partL (b :: l) = b :: partL l := by simp [partL, h]
      rw [e]; simp only [List.length_cons, List.take_succ_cons]; rw [← part_take l]
theorem part_all {l : List UInt8} (h : ¬ (partL l).length < l.length) : partL l = l := by
  rw [part_take, List.take_of_length_le (by omega)]
theorem part_extract (s : ByteArray) : s.extract 0 (partB s).size = partB s := by
  rw [part_size]
  apply ByteArray.ext
  apply Array.ext'
  rw [part_bytes]
  have : (s.extract 0 (partL s.data.toList).length).data.toList = s.data.toList.take (partL s.data.toList).length := by
    simp [ByteArray.data_extract]
  rw [this, ← part_take]
theorem part_whole {s : ByteArray} (h : ¬ (partB s).size < s.size) : partB s = s := by
  apply ByteArray.ext
  apply Array.ext'
  rw [part_bytes]
  exact part_all (by rw [part_size, ← bytes_len] at h; exact h)

theorem extern_index (s : ByteArray) (c : Int) (w : World) : (callFunc 178 #[.string s, .int .u8 c]).run Tryz.prog w = .ok (.value (.int .i64 (Lib.indexByte s.data.toList c.toNat.toUInt8))) w := by
  rw [run_callFunc_extern Tryz.func178 (by kernel_rfl) (by kernel_rfl) (by kernel_rfl) (e := Extern.BytealgIndexByte.indexByte) (by kernel_rfl), Lib.run_indexByteString]; rfl
theorem indexByte_any (s : ByteArray) (c : Int) (w : World) : Calls Tryz.prog 174 #[.string s, .int .u8 c] w fun e w' => e = .returned (.int .i64 (Lib.indexByte s.data.toList c.toNat.toUInt8)) ∧ w' = w := by
  have H := extern_index s c
  go_enter Tryz.func174, Tryz.ntmps174
  go_wp2
  go_ret
  exact ⟨rfl, rfl⟩
set_option maxRecDepth 100000 in
theorem index_any (s : ByteArray) (w : World) : Calls Tryz.prog 169 #[.string s, .string ⟨#[32]⟩] w fun e w' => e = .returned (.int .i64 (Lib.indexByte s.data.toList 32)) ∧ w' = w := by
  have H := indexByte_any s 32 w
  cases h : ([32] == s.toList)
  · go_enter Tryz.func169, Tryz.ntmps169
    go_wp2_with fail
    refine H.mono ?_
    rintro e w1 ⟨rfl, rfl⟩
    go_wp2
    go_ret
    exact ⟨rfl, rfl⟩
  · have hs : s.data.toList = [32] := by
      have := (beq_iff_eq.1 h).symm
      rwa [Go.ByteArray.toList_eq] at this
    have hi : Lib.indexByte s.data.toList 32 = 0 := by rw [hs]; rfl
    rw [hi]
    clear hs hi H
    go_enter Tryz.func169, Tryz.ntmps169
    go_wp2
    go_ret
    exact ⟨rfl, rfl⟩
def CutPost (s : ByteArray) (w : World) (e : Ending) (w' : World) : Prop := ∃ u v, e = .returned (.tuple #[.string (partB s), .string u, .bool v]) ∧ ∃ n, w' = w.drewN n
set_option maxHeartbeats 1000000 in
theorem cutl_any (s : ByteArray) (w : World) (hs : s.size ≤ 1000000) : Calls Tryz.prog 160 #[.string s, .string ⟨#[32]⟩] w (CutPost s w) := by
  have H := index_any s w
  rw [idx_part, ← part_size, bytes_len] at H
  by_cases h : (partB s).size < s.size
  · rw [if_pos h] at H
    obtain ⟨k, hk⟩ : ∃ k, (partB s).size = k := ⟨_, rfl⟩
    have hp : s.extract 0 k = partB s := by rw [← hk]; exact part_extract s
    rw [hk] at H h
    have HP := Lib.hid hp
    have h0 : decide ((k : Int) ≥ 0) = true := decide_eq_true (by omega)
    have h1 : (0 : Int) ≤ (k : Int) := by omega
    have h2 : (k : Int) ≤ (s.size : Int) := by omega
    obtain ⟨k1, hk1⟩ : ∃ k1, k1 = k + 1 := ⟨_, rfl⟩
    have hwr : IntKind.i64.wrap ((k : Int) + 1) = (k1 : Int) := by rw [hk1, IntKind.wrap_i64]; omega
    have h3 : (0 : Int) ≤ (k1 : Int) := by omega
    have h4 : (k1 : Int) ≤ (s.size : Int) := by omega
    clear hk hk1 hp
    go_enter Tryz.func160, Tryz.ntmps160
    go_wp2_with fail
    refine H.mono ?_
    rintro e w1 ⟨rfl, rfl⟩
    go_wp2_with fail
    go_quiet (fail)
    go_wp2
    refine bodyPost_ret (v := .tuple #[.string (s.extract 0 k), .string (s.extract k1 s.size), .bool true]) (by simp [results, Tryz.f160, go_sem]) rfl ?_
    exact ⟨_, _, by rw [HP.out], _, rfl⟩
  · rw [if_neg h] at H
    have hp := part_whole h
    unfold CutPost
    rw [hp]
    clear h hp
    go_enter Tryz.func160, Tryz.ntmps160
    go_wp2_with fail
    refine H.mono ?_
    rintro e w1 ⟨rfl, rfl⟩
    go_wp2
    refine bodyPost_ret (v := .tuple #[.string s, .string ⟨#[]⟩, .bool false]) (by simp [results, Tryz.f160, go_sem]) rfl ?_
    exact ⟨_, _, rfl, 0, rfl⟩
theorem cut_any (s : ByteArray) (w : World) (hs : s.size ≤ 1000000) : Calls Tryz.prog 139 #[.string s, .string ⟨#[32]⟩] w (CutPost s w) := by
  have H := cutl_any s w hs
  go_enter Tryz.func139, Tryz.ntmps139
  go_wp2_with fail
  refine H.mono ?_
  rintro e w1 ⟨u, v, rfl, n, rfl⟩
  go_wp2
  refine bodyPost_ret (v := .tuple #[.string (partB s), .string u, .bool v]) (by simp [results, Tryz.f139, go_sem]) rfl ?_
  exact ⟨u, v, rfl, n, rfl⟩

theorem wordB_list : ∀ i, i < 6 → (st_wordB i).toList = wordL i := fun i _ => Go.ByteArray.toList_eq _
/-- The first of the words from the k-th on that l is. -/
theorem type_first {l : List UInt8} {k : Nat} (hk : k < 6) (h : l = wordL k) (hb : ∀ j, j < k → l ≠ wordL j) : typeL l = k := by
  subst h
  match k, hk with
  | 0, _ => rfl
  | 1, _ => rfl
  | 2, _ => rfl
  | 3, _ => rfl
  | 4, _ => rfl
  | 5, _ => rfl
theorem type_none {l : List UInt8} (h : ∀ j, j < 6 → l ≠ wordL j) : typeL l = 0 := by
  unfold typeL
  rw [if_neg (h 1 (by omega)), if_neg (h 2 (by omega)), if_neg (h 3 (by omega)), if_neg (h 4 (by omega)), if_neg (h 5 (by omega))]
theorem type_le (l : List UInt8) : typeL l ≤ 5 := by unfold typeL; repeat' split <;> try omega
theorem type_word {l : List UInt8} (h : typeL l ≠ 0) : l = wordL (typeL l) := by
  unfold typeL at *
  repeat' split at h
  all_goals first | (next h1 => simp_all) | skip
  all_goals (try exact absurd rfl h)

theorem words_index : ∀ (k : Nat), k < 6 → ∀ W : World, (Instr.index 145 (.agg #[.string (st_wordB 0), .string (st_wordB 1), .string (st_wordB 2), .string (st_wordB 3), .string (st_wordB 4), .string (st_wordB 5)]) (.int .i64 (k : Int))).run Tryz.prog W = .ok (.string (st_wordB k)) W
  | 0, _, W => by kernel_rfl
  | 1, _, W => by kernel_rfl
  | 2, _, W => by kernel_rfl
  | 3, _, W => by kernel_rfl
  | 4, _, W => by kernel_rfl
  | 5, _, W => by kernel_rfl
  | k + 6, h, W => by omega
set_option maxHeartbeats 1000000 in
theorem typeOf_any (s : ByteArray) (w : World) (hw : Wds w) : Calls Tryz.prog 140 #[.string s] w fun e w' => e = .returned (.int .i64 (typeL s.data.toList)) ∧ w' = w := by
  have c0 := hw 0 (by omega)
  have c1 := hw 1 (by omega)
  have c2 := hw 2 (by omega)
  have c3 := hw 3 (by omega)
  have c4 := hw 4 (by omega)
  have c5 := hw 5 (by omega)
  clear hw
  have HIX := words_index
  go_enter Tryz.func140, Tryz.ntmps140
  go_wp2
  generalize (Value.agg #[.string (st_wordB 0), .string (st_wordB 1), .string (st_wordB 2), .string (st_wordB 3), .string (st_wordB 4), .string (st_wordB 5)]) = va at *
  clear c0 c1 c2 c3 c4 c5
  go_loopw [3, 4, 6] (fun s3 s4 i wr => ∃ k : Nat, k ≤ 6 ∧ i = .int .i64 k ∧ (∀ j, j < k → s.data.toList ≠ wordL j) ∧ wr = w) (fun s3 s4 i wr => 6 - (intOf i).toNat)
  case atStart => exact ⟨0, by omega, rfl, fun j h => absurd h (Nat.not_lt_zero _), rfl⟩
  case round =>
    obtain ⟨k, hk, rfl, hall, rfl⟩ := hrel
    have HALL := Lib.hid hall
    clear hall
    by_cases hlt : k < 6
    · have hix := HIX k hlt
      have q2 : decide ((k : Int) < 6) = true := decide_eq_true (by omega)
      have hwl := wordB_list k hlt
      obtain ⟨sk, hsk⟩ : ∃ sk, st_wordB k = sk := ⟨_, rfl⟩
      rw [hsk] at hix hwl
      have HSK := Lib.hid hwl
      clear HIX hsk hwl
      cases he : (sk.toList == s.toList)
      · go_wp2
        go_roundw
        case rel =>
          refine ⟨k + 1, by omega, by go_num, fun j hj => ?_, trivial⟩
          rcases Nat.lt_or_ge j k with h1 | h1
          · exact HALL.out j h1
          · rw [show j = k by omega, ← HSK.out]
            intro e
            rw [beq_eq_false_iff_ne, Go.ByteArray.toList_eq s] at he
            exact he e.symm
        case measure => simp [intOf]; omega
      · go_wp2
        go_ret
        refine ⟨ret_int ?_, rfl⟩
        have h1 := beq_iff_eq.1 he
        rw [HSK.out, Go.ByteArray.toList_eq s] at h1
        have := type_first hlt h1.symm HALL.out
        omega
    · have q2 : decide ((k : Int) < 6) = false := decide_eq_false (by omega)
      clear HIX
      go_wp2
      go_ret
      exact ⟨ret_int (by rw [type_none (fun j hj => HALL.out j (by omega))]; rfl), rfl⟩
end Go.Proofs.YtpdbkjnaicjfdaaGreatDoor

namespace Go.Proofs.YtpdbkjnaicjfdaaGreatDoor
open Go.RowKit Go.Maps
set_option linter.unusedVariables false

def u8s (bs : List UInt8) : List Value := bs.map fun b => Value.int .u8 b.toNat
theorem strCells_u8 (s : ByteArray) : Lib.strCells s = u8s s.data.toList := by simp [Lib.strCells, u8s]
theorem u8s_append (a b : List UInt8) : u8s (a ++ b) = u8s a ++ u8s b := by simp [u8s]
theorem u8s_len (a : List UInt8) : (u8s a).length = a.length := by simp [u8s]

/-- A slice of bytes that lies in a block of the call's own, of whose places none is marked. -/
def Txt (w : World) (base : Nat) (v : Value) (bs : List UInt8) : Prop :=
  ∃ g cap cur fz, v = .slice (some ⟨g, 0, none⟩) bs.length cap ∧ base ≤ g ∧ w.heap[g]? = some (.cells cur 5 fz) ∧ (fz.2 = 0 ∨ cur.size ≤ fz.1) ∧ bs.length ≤ cap ∧ cap ≤ maxLen ∧ cur.size = cap ∧ cur.toList.take bs.length = u8s bs

theorem Txt.kept {w w' : World} {base : Nat} {v : Value} {bs : List UInt8} {row : Option Nat} (h : Txt w base v bs) (hg : w.grownBy w' row) (hne : v.ownBlock ≠ row) : Txt w' base v bs := by
  obtain ⟨g, cap, cur, fz, rfl, h1, h2, h3⟩ := h
  exact ⟨g, cap, cur, fz, rfl, h1, (hg.block g (Array.getElem?_eq_some_iff.1 h2).1 (fun e => hne e)).trans h2, h3⟩
theorem Txt.below {w w' : World} {base : Nat} {v : Value} {bs : List UInt8} (h : Txt w base v bs) (hb : Below w.heap.size w w') : Txt w' base v bs := by
  obtain ⟨g, cap, cur, fz, rfl, h1, h2, h3⟩ := h
  exact ⟨g, cap, cur, fz, rfl, h1, (hb.block g (Array.getElem?_eq_some_iff.1 h2).1).trans h2, h3⟩
theorem Txt.lt {w : World} {base : Nat} {v : Value} {bs : List UInt8} (h : Txt w base v bs) : ∀ k, v.ownBlock = some k → base ≤ k ∧ k < w.heap.size := by
  obtain ⟨g, cap, cur, fz, rfl, h1, h2, h3⟩ := h
  intro k hk
  obtain rfl : g = k := Option.some.inj hk
  exact ⟨h1, (Array.getElem?_eq_some_iff.1 h2).1⟩
theorem Txt.cellsAt {w : World} {base g cap : Nat} {bs : List UInt8} (h : Txt w base (.slice (some ⟨g, 0, none⟩) bs.length cap) bs) {j : Nat} (hj : j < bs.length) : w.cell? ⟨g, j, none⟩ = some (.int .u8 (bs[j]).toNat) := by
  obtain ⟨g', cap', cur, fz, e, h1, h2, _, _, _, _, h3⟩ := h
  cases e
  rw [cell_of_row w g j cur _ fz h2]
  have : (cur.toList.take bs.length)[j]? = (u8s bs)[j]? := by rw [h3]
  rw [List.getElem?_take, if_pos hj, Array.getElem?_toList] at this
  rw [this]; simp [u8s, hj]

/-- Cells laid one behind the other from place k on. -/
def laidC (cur : Array Value) (k : Nat) : List Value → Array Value
  | [] => cur
  | v :: r => laidC (cur.setIfInBounds k v) (k + 1) r
theorem laidC_size : ∀ (vs : List Value) (cur : Array Value) (k : Nat), (laidC cur k vs).size = cur.size
  | [], _, _ => rfl
  | v :: r, cur, k => by unfold laidC; rw [laidC_size r]; simp
theorem laidC_take : ∀ (vs : List Value) (cur : Array Value) (k : Nat), k + vs.length ≤ cur.size → (laidC cur k vs).toList.take (k + vs.length) = cur.toList.take k ++ vs
  | [], cur, k, _ => by simp [laidC]
  | v :: r, cur, k, h => by
    have hk : k < cur.size := by simp at h; omega
    have ih := laidC_take r (cur.setIfInBounds k v) (k + 1) (by simp at h ⊢; omega)
    unfold laidC
    rw [show k + (v :: r).length = k + 1 + r.length by simp; omega, ih]
    have : (cur.setIfInBounds k v).toList.take (k + 1) = cur.toList.take k ++ [v] := by
      rw [List.take_succ_eq_append_getElem (by simpa using hk)]
      simp [Array.toList_setIfInBounds, List.take_set]
      exact List.set_eq_of_length_le (by rw [List.length_take]; omega)
    rw [this]; simp

theorem stores_run (P : Program) (g o : Nat) (t : TypeId) (fz : Nat × Nat) : ∀ (vs : List Value) (i : Nat) (cur : Array Value) (w : World), w.heap[g]? = some (.cells cur t fz) → (fz.2 = 0 ∨ cur.size ≤ fz.1) → o + i + vs.length ≤ cur.size → (∀ v ∈ vs, v.oneCell' = true) →
    (storeCells ⟨g, o, none⟩ vs i).run P w = .ok () (w.setRow g (laidC cur (o + i) vs))
  | [], i, cur, w, hg, _, _, _ => by
    rw [laidC, setRow_self w g cur t fz hg]; rfl
  | v :: r, i, cur, w, hg, hf, hl, h1 => by
    have hk : o + i < cur.size := by simp at hl; omega
    have e1 : (⟨g, o, none⟩ : Addr).add i = ⟨g, o + i, none⟩ := add_flat g o i
    have hc : w.cell? ⟨g, o + i, none⟩ = some cur[o + i] := by rw [cell_of_row w g _ cur t fz hg]; simp [hk]
    have hz : w.frozen? ⟨g, o + i, none⟩ = false := by
      obtain ⟨a, b⟩ := fz
      simp only [World.frozen?, hg, Bool.and_eq_false_iff, decide_eq_false_iff_not]
      simp only at hf
      omega
    have hs : (store ((⟨g, o, none⟩ : Addr).add i) v).run P w = .ok () (w.setRow g (cur.setIfInBounds (o + i) v)) := by
      rw [e1, run_store P w _ v _ (h1 v (by simp)), hc]
      simp [hz, setCell_eq_setRow w g (o + i) cur t fz v hg]
    have ih := stores_run P g o t fz r (i + 1) (cur.setIfInBounds (o + i) v) (w.setRow g (cur.setIfInBounds (o + i) v)) (setRow_heap w g cur _ t _ hg) (by simpa using hf) (by simp at hl ⊢; omega) (fun x hx => h1 x (by simp [hx]))
    simp only [storeCells, Sem.run_bind, hs, Result.andThen_ok, ih, setRow_setRow, laidC, Nat.add_assoc]

theorem txt_append (w : World) (base : Nat) (v : Value) (bs : List UInt8) (ty : TypeId) (s : ByteArray) (h : Txt w base v bs) (hb : base ≤ w.heap.size) (hm : bs.length ≤ 1000000) (hs : s.size ≤ 1000000) :
    ∃ v' w', (Builtin.append_ #[78, 9] ty #[v, .string s]).run Tryz.prog w = .ok v' w' ∧ Txt w' base v' (bs ++ s.data.toList) ∧ w.grownBy w' v.ownBlock ∧ (v'.ownBlock = v.ownBlock ∨ v'.ownBlock = some w.heap.size) := by
  obtain ⟨i0, hi, hz0, hz1, hz2⟩ := info_parts info_u8
  have h0 := h
  obtain ⟨g, cap, cur, fz, rfl, hg1, hg2, hf, hc1, hc2, hcs, htk⟩ := h
  have hlen : (bs ++ s.data.toList).length = bs.length + s.size := by rw [List.length_append, bytes_len]
  by_cases hroom : bs.length + s.size ≤ cap
  · have hfirst := Lib.run_firstCells_string (P := Tryz.prog) w 1 s
    have hst := stores_run Tryz.prog g bs.length 5 fz (Lib.strCells s) 0 cur w hg2 hf (by rw [Lib.strCells_length]; omega) (Lib.strCells_oneCell s)
    rw [Nat.add_zero] at hst
    refine ⟨.slice (some ⟨g, 0, none⟩) (bs.length + s.size) cap, w.setRow g (laidC cur bs.length (Lib.strCells s)), ?_, ?_, ?_, .inl rfl⟩
    · simp [Builtin.append_, run_underlying Tryz.underlying78, run_underlying Tryz.underlying9, sizeOf, typeInfo, hi, hz1, Builtin.lenOf, hroom, hfirst, Addr.add_lit, hst]
    · refine ⟨g, cap, _, fz, by rw [hlen], hg1, setRow_heap w g cur _ _ _ hg2, by rw [laidC_size]; exact hf, by omega, hc2, by rw [laidC_size]; exact hcs, ?_⟩
      have := laidC_take (Lib.strCells s) cur bs.length (by rw [Lib.strCells_length]; omega)
      rw [Lib.strCells_length] at this
      rw [hlen, this, htk, u8s_append, strCells_u8]
    · exact ⟨rfl, rfl, rfl, by simp [World.setRow], fun k _ hk => setRow_other w g k _ (fun e => hk (by simp [Value.ownBlock, e]))⟩
  · have hold : ∀ j u, (u8s bs)[j]? = some u → w.cell? ((⟨g, 0, none⟩ : Addr).add j) = some u := fun j u hu => by
      rw [add_flat, Nat.zero_add]
      have hj : j < bs.length := by rw [← u8s_len bs]; exact (List.getElem?_eq_some_iff.1 hu).1
      rw [h0.cellsAt hj]; simpa [u8s, hj] using hu
    have hr := Lib.run_append_grow_string (P := Tryz.prog) w 78 9 ty 5 i0 (.int .u8 0) Tryz.underlying78 Tryz.underlying9 hi hz0 ⟨g, 0, none⟩ bs.length cap (u8s bs) (by rw [hz1, u8s_len]; omega) hold s (by omega) (by omega) (by rw [hz2]; exact growslice_fits (by omega) (by omega))
    have hge := grownCap_ge w (bs.length + s.size) cap 5
    have hle := grownCap_le_maxLen w (bs.length + s.size) cap 5 (by unfold maxLen; omega)
    refine ⟨_, _, hr, ⟨w.heap.size, _, _, (0, 0), by rw [hlen], hb, heap_alloc_new w.drew _, .inl rfl, by rw [hlen]; exact hge, hle, ?_, ?_⟩, ⟨rfl, rfl, rfl, by simp, fun k hk _ => Below.heap_alloc w.drew _ k hk⟩, .inr rfl⟩
    · have hz : (Value.int IntKind.u8 0).cells.size = 1 := rfl
      simp only [Array.size_append, List.size_toArray, size_zeroCells, hz, u8s_len, Lib.strCells_length]
      omega
    · rw [hlen, u8s_append, ← strCells_u8]
      simp only [Array.toList_append, List.append_assoc]
      rw [← List.append_assoc, show bs.length + s.size = (u8s bs ++ Lib.strCells s).length by rw [List.length_append, u8s_len, Lib.strCells_length]]
      exact List.take_left

theorem wpList_txt (w : World) {ops : Array Oper} {rest : List Oper} {o : Oper} {a : Act} {Q : Exit → Act → World → Prop} (hgd : o.guard = none) (sl x : Operand)
    (ho : o.op = .call { callee := .builtin .append, args := #[sl, x], argTypes := #[78, 9] }) (base : Nat) (v : Value) (bs : List UInt8) (hs : a.eval sl = v) (h : Txt w base v bs) (s : ByteArray) (hx : a.eval x = .string s)
    (hb : base ≤ w.heap.size) (hm : bs.length ≤ 1000000) (hm2 : s.size ≤ 1000000)
    (hK : ∀ v' w', Txt w' base v' (bs ++ s.data.toList) → w.grownBy w' v.ownBlock → (v'.ownBlock = v.ownBlock ∨ v'.ownBlock = some w.heap.size) → wpList Tryz.prog ops Q rest (a.put o.dst v') w') : wpList Tryz.prog ops Q (o :: rest) a w := by
  refine wpList_plain hgd fun K hK' => ?_
  obtain ⟨v', w', hr, h2, h3, h4⟩ := txt_append w base v bs o.type s h hb hm hm2
  unfold Oper.wp execOp
  simp only [ho, resolve, invoke, builtin, Sem.run_bind, Sem.run_pure, Result.andThen_ok, List.map_toArray, List.map_cons, List.map_nil, hs, hx, hr]
  exact hK' _ _ (hK v' w' h2 h3 h4)

theorem Txt.form {w : World} {base : Nat} {v : Value} {bs : List UInt8} (h : Txt w base v bs) : ∃ g cap, v = .slice (some ⟨g, 0, none⟩) bs.length cap := by
  obtain ⟨g, cap, _, _, e, _⟩ := h
  exact ⟨g, cap, e⟩
theorem txt_conv (w : World) (s : ByteArray) (base : Nat) (hb : base ≤ w.heap.size) (hs : s.size ≤ 1000) :
    ∃ c, (∀ src u, Tryz.prog.underlying src = some u → (convert src 78 (.string s)).run Tryz.prog w = .ok (.slice (some ⟨w.heap.size, 0, none⟩) s.size c) (Lib.bytesWorld w 5 s)) ∧ Txt (Lib.bytesWorld w 5 s) base (.slice (some ⟨w.heap.size, 0, none⟩) s.size c) s.data.toList ∧ Below w.heap.size w (Lib.bytesWorld w 5 s) := by
  have hge := grownCap_ge w s.size 0 5
  have hle := grownCap_le_maxLen w s.size 0 5 (by unfold maxLen; omega)
  refine ⟨grownCap w s.size 0 5, fun src u hu => Lib.run_convert_string_bytes w src 78 5 s hu Tryz.underlying78 Tryz.underlying5, ?_, ?_⟩
  · refine ⟨w.heap.size, _, _, _, by rw [bytes_len], hb, Lib.bytesWorld_at_new w _ s, .inr (Nat.le_refl _), by rw [bytes_len]; exact hge, hle, ?_, ?_⟩
    · simp only [Lib.bytesCells, Array.size_append, Array.size_map, Array.size_replicate]
      have : s.data.size = s.size := rfl
      omega
    · simp only [Lib.bytesCells, Array.toList_append, Array.toList_map, Array.toList_replicate]
      rw [show s.data.toList.length = (s.data.toList.map fun b => Value.int .u8 b.toNat).length by simp]
      exact List.take_left
  · refine ⟨rfl, rfl, rfl, by rw [Lib.bytesWorld_size]; omega, fun k hk => Lib.bytesWorld_at_old w _ s k hk⟩
theorem Txt.bytes {w : World} {base g cap : Nat} {bs : List UInt8} (h : Txt w base (.slice (some ⟨g, 0, none⟩) bs.length cap) bs) : BytesB w.heap.size w (some ⟨g, 0, none⟩) (bs.map fun b => (b.toNat : Int)) := fun hl => by
  refine ⟨g, 0, rfl, (h.lt g rfl).2, fun j hj => ?_⟩
  rw [List.length_map] at hj
  rw [Nat.zero_add, h.cellsAt hj]; simp [hj]
theorem str_of (bs : List UInt8) : strOfNums (bs.map fun b => (b.toNat : Int)) = ⟨bs.toArray⟩ := by
  unfold strOfNums
  congr 1
  apply Array.ext'
  simp only [List.map_map]
  refine Eq.trans (List.map_congr_left (g := id) fun b _ => ?_) (List.map_id bs)
  simp
end Go.Proofs.YtpdbkjnaicjfdaaGreatDoor

namespace Go.Proofs.YtpdbkjnaicjfdaaGreatDoor
open Go.RowKit Go.Maps
set_option linter.unusedVariables false

theorem put_len (n : Int) (h : Small n) : (putL n).length ≤ 20 := by
  have := (get_put n h.1 h.2).2.1
  rcases Nat.lt_or_ge 20 (putL n).length with h1 | h1
  · have := (get_long (putL n) h1).2.1; omega
  · exact h1
theorem txtOf_len : ∀ (l : List Int), (∀ x ∈ l, Small x) → (txtOf l).length ≤ 21 * l.length
  | [], _ => by simp [txtOf]
  | x :: r, h => by
    have h1 := put_len x (h x (by simp))
    have h2 := txtOf_len r (fun y hy => h y (List.mem_cons_of_mem _ hy))
    have : txtOf (x :: r) = (32 :: putL x) ++ txtOf r := rfl
    rw [this, List.length_append, List.length_cons, List.length_cons]; omega

def AppT (base : Nat) (ys : List UInt8) (w : World) (e : Ending) (w' : World) : Prop := ∃ v, e = .returned v ∧ Txt w' base v ys ∧ Below base w w'

set_option maxHeartbeats 2000000 in
theorem appT_any (base g0 cap0 : Nat) (bs : List UInt8) (A : Option Addr) (c : Nat) (l : List Int) (w : World)
    (htx : Txt w base (.slice (some ⟨g0, 0, none⟩) bs.length cap0) bs) (hA : IntsOff g0 w A l) (hbase : base ≤ w.heap.size) (hl : l.length ≤ 8000) (hx : bs.length ≤ 1000) (hsm : ∀ x ∈ l, Small x) :
    Calls Tryz.prog 118 #[.slice (some ⟨g0, 0, none⟩) bs.length cap0, .slice A l.length c] w (AppT base (bs ++ txtOf l) w) := by
  have HTX := Lib.hid htx
  have HA := Lib.hid hA
  clear htx hA
  go_enter Tryz.func118, Tryz.ntmps118
  go_wp2
  go_loopw [0, 6, 9] (fun s0 s6 i wr => ∃ (k g cap m : Nat) (ys : List UInt8), k ≤ l.length ∧ i = .int .i64 k ∧ s0 = .slice (some ⟨g, 0, none⟩) m cap ∧ m = ys.length ∧ ys = bs ++ txtOf (l.take k) ∧ Txt wr base (.slice (some ⟨g, 0, none⟩) m cap) ys ∧ IntsOff g wr A l ∧ Below base w wr) (fun s0 s6 i wr => l.length - (intOf i).toNat)
  case atStart => exact ⟨0, g0, cap0, bs.length, bs, Nat.zero_le _, rfl, rfl, rfl, by simp [txtOf], HTX.out, HA.out, Below.refl _ _⟩
  case round =>
    obtain ⟨k, g, cap, m, ys, hk, rfl, rfl, hm, hys, htx, hoff, hB⟩ := hrel
    have HT := Lib.hid htx
    have HOFF := Lib.hid hoff
    have HYS := Lib.hid hys
    have HM := Lib.hid hm
    have HB := Lib.hid hB
    have hsz := hB.size
    have hyl : ys.length ≤ 300000 := by
      have := txtOf_len (l.take k) (fun x hx => hsm x (List.mem_of_mem_take hx))
      rw [List.length_take] at this
      rw [hys, List.length_append]; omega
    clear htx hoff hys hm hB
    by_cases hlt : k < l.length
    · obtain ⟨b, off, rfl, hb, hne, hc⟩ := HOFF.out (by omega)
      have hck := hc k hlt
      have hk0 : (0 : Int) ≤ (k : Int) := by omega
      have hk1 : (k : Int) < (l.length : Int) := by omega
      have hsk := small_at hsm k hlt
      have HST := Lib.hid (txtOf_take hlt)
      obtain ⟨x, hx'⟩ : ∃ x, l[k]?.getD 0 = x := ⟨_, rfl⟩
      rw [hx'] at hck hsk HST
      have hpl := put_len x hsk
      have HPUT := fun W => put_any x W hsk.1 hsk.2
      clear hc hx'
      have HGL := Lib.hid (HT.out.lt g rfl)
      go_wp2_with (at_builtin; refine wpList_txt _ rfl _ _ rfl base _ ys rfl HT.out ⟨#[32]⟩ rfl (by omega) (by omega) (by decide) ?_; intro v5 w5 ht5 hg5 hat5; obtain ⟨y5, hy5⟩ : ∃ y5, ys ++ (⟨#[32]⟩ : ByteArray).data.toList = y5 := ⟨_, rfl⟩; rw [hy5] at ht5; have HY5 := Lib.hid hy5; clear hy5; obtain ⟨g5, cap5, rfl⟩ := ht5.form; have HT5 := Lib.hid ht5; have HG5 := Lib.hid hg5; have HAT5 := Lib.hid hat5; clear ht5 hg5 hat5)
      have hs5 := HG5.out.size
      refine (HPUT w5).mono ?_
      rintro e w6 ⟨rfl, hB6⟩
      have HT6 := Lib.hid (HT5.out.below hB6)
      have hs6 := hB6.size
      have HB6 := Lib.hid hB6
      clear hB6
      have hyl5 : y5.length ≤ 300001 := by rw [← HY5.out, List.length_append]; simp; omega
      go_wp2_with (at_builtin; refine wpList_txt _ rfl _ _ rfl base _ y5 rfl HT6.out ⟨(putL x).toArray⟩ rfl (by omega) (by omega) (by rw [← bytes_len]; simp; omega) ?_; intro v7 w7 ht7 hg7 hat7; obtain ⟨y7, hy7⟩ : ∃ y7, y5 ++ (⟨(putL x).toArray⟩ : ByteArray).data.toList = y7 := ⟨_, rfl⟩; rw [hy7] at ht7; have HY7 := Lib.hid hy7; clear hy7; obtain ⟨g7, cap7, rfl⟩ := ht7.form; have HT7 := Lib.hid ht7; have HG7 := Lib.hid hg7; have HAT7 := Lib.hid hat7; clear ht7 hg7 hat7)
      go_roundw
      case rel =>
        have hgl := HGL.out
        have hg5l := HT5.out.lt g5 rfl
        have hs7 := HG7.out.size
        have hat5 : g5 = g ∨ g5 = wr.heap.size := by
          rcases HAT5.out with e | e
          · exact .inl (Option.some.inj e)
          · exact .inr (Option.some.inj e)
        have hat7 : g7 = g5 ∨ g7 = w6.heap.size := by
          rcases HAT7.out with e | e
          · exact .inl (Option.some.inj e)
          · exact .inr (Option.some.inj e)
        refine ⟨k + 1, g7, cap7, y7.length, y7, by omega, by go_num, rfl, rfl, ?_, HT7.out, ?_, ?_⟩
        · rw [← HY7.out, ← HY5.out, HYS.out, HST.out]; simp
        · have o5 : IntsOff g5 w5 (some ⟨b, off, none⟩) l := HOFF.out.on (fun k' h1 h2 => HG5.out.block k' h1 (fun e => h2 (Option.some.inj e))) hs5 (by omega)
          have o6 : IntsOff g5 w6 (some ⟨b, off, none⟩) l := o5.on (fun k' h1 h2 => HB6.out.block k' h1) hs6 (.inl rfl)
          exact o6.on (fun k' h1 h2 => HG7.out.block k' h1 (fun e => h2 (Option.some.inj e))) hs7 (by omega)
        · refine (nxt (HB.out.grown HG5.out (by omega) (fun k' e => by obtain rfl : g = k' := Option.some.inj e; exact hgl.1)) HB6.out (by omega)).grown HG7.out (by omega) (fun k' e => by obtain rfl : g5 = k' := Option.some.inj e; exact hg5l.1)
      case measure => simp [intOf]; omega
    · have hkl : l.take k = l := List.take_of_length_le (by omega)
      have hfin : ys = bs ++ txtOf l := by rw [HYS.out, hkl]
      have HFIN := Lib.hid hfin
      clear hkl hfin
      go_wp2
      go_ret
      refine ⟨_, rfl, ?_, HB.out⟩
      rw [← HFIN.out]; exact HT.out

def TextNo (r : Int) (w : World) (e : Ending) (w' : World) : Prop := e = .returned (.tuple #[.string ⟨#[]⟩, .int .i64 r]) ∧ Below w.heap.size w w'
def TextYes (bs : List UInt8) (w : World) (e : Ending) (w' : World) : Prop := e = .returned (.tuple #[.string ⟨bs.toArray⟩, .int .i64 0]) ∧ Below w.heap.size w w'

theorem text_no (t n : Int) (A : Option Addr) (c : Nat) (l : List Int) (w : World) (hA : Ints w A l) (hlen : l.length ≤ 8000) (h : st_checkE t n l ≠ 0) :
    Calls Tryz.prog 99 #[stV t n A l.length c] w (TextNo (st_checkE t n l) w) := by
  have H := st_check_any t n A c l (w.alloc (.cells #[.int .i64 t, .int .i64 n, .slice A l.length c] 53)) (hA.below (alloc1 w _)) (by omega)
  unfold stV at *
  generalize st_checkE t n l = r at *
  have hb : (r != 0) = true := by rw [bne_iff_ne]; exact h
  go_enter Tryz.func99, Tryz.ntmps99
  go_wp2_with fail
  refine H.mono ?_
  rintro e w1 ⟨rfl, hB1⟩
  go_wp2
  go_ret2
  exact ⟨rfl, nxt (alloc1 w _) hB1 (by simp)⟩

theorem word_len (k : Nat) : (st_wordB k).size ≤ 7 := by unfold st_wordB; split <;> decide

theorem appT_m (base g0 cap0 m : Nat) (bs : List UInt8) (A : Option Addr) (c k : Nat) (l : List Int) (w : World) (hm : m = bs.length) (hk : k = l.length)
    (htx : Txt w base (.slice (some ⟨g0, 0, none⟩) m cap0) bs) (hA : IntsOff g0 w A l) (hbase : base ≤ w.heap.size) (hl : l.length ≤ 8000) (hx : bs.length ≤ 1000) (hsm : ∀ x ∈ l, Small x) :
    Calls Tryz.prog 118 #[.slice (some ⟨g0, 0, none⟩) m cap0, .slice A k c] w (AppT base (bs ++ txtOf l) w) := by
  subst hm hk
  exact appT_any base g0 cap0 bs A c l w htx hA hbase hl hx hsm
theorem txt_str {w : World} {base g cap : Nat} {bs : List UInt8} (h : Txt w base (.slice (some ⟨g, 0, none⟩) bs.length cap) bs) : (convert 78 9 (.slice (some ⟨g, 0, none⟩) bs.length cap)).run Tryz.prog w = .ok (.string ⟨bs.toArray⟩) w := by
  have := conv_any (c := cap) h.bytes
  rwa [List.length_map, str_of] at this

set_option maxHeartbeats 2000000 in
theorem text_yes (t n : Int) (A : Option Addr) (c : Nat) (l : List Int) (w : World) (hw : Wds w) (hA : Ints w A l) (hlen : l.length ≤ 8000) (hsm : ∀ x ∈ l, Small x) (hn : Small n) (h : st_checkE t n l = 0) :
    Calls Tryz.prog 99 #[stV t n A l.length c] w (TextYes (txtL t n l) w) := by
  obtain ⟨ht1, ht5, _⟩ := check_ok h
  obtain ⟨k, rfl⟩ := Int.eq_ofNat_of_zero_le (show 0 ≤ t by omega)
  have hB0 := alloc1 w (.cells #[.int .i64 (k : Int), .int .i64 n, .slice A l.length c] 53)
  have H := st_check_any k n A c l (w.alloc (.cells #[.int .i64 (k : Int), .int .i64 n, .slice A l.length c] 53)) (hA.below hB0) (by omega)
  rw [h] at H
  have HW := Lib.hid (Holds.new w 53 #[.int .i64 (k : Int), .int .i64 n, .slice A l.length c])
  have HA := Lib.hid (hA.below hB0)
  have HWD := Lib.hid (hw.on hB0)
  have hlt0 : w.heap.size < (w.alloc (.cells #[.int .i64 (k : Int), .int .i64 n, .slice A l.length c] 53)).heap.size := by simp
  have HL : txtL (k : Int) n l = wordL k ++ txtOf (numsOf k n l) := by unfold txtL; simp
  have HLH := Lib.hid HL
  have HSM := Lib.hid hsm
  have HN := Lib.hid hn
  unfold stV
  clear h hA hw HL hsm hn
  go_enter Tryz.func99, Tryz.ntmps99
  go_wp2_with fail
  refine H.mono ?_
  rintro e w1 ⟨rfl, hB1⟩
  generalize w.alloc (.cells #[.int .i64 (k : Int), .int .i64 n, .slice A l.length c] 53) = W0 at *
  have hsz1 := hB1.size
  have HW1 := Lib.hid (HW.out.below hB1 hlt0)
  have c0 := HW1.out.c (j := 0) rfl
  have c1 := HW1.out.c (j := 1) rfl
  have c2 := HW1.out.c (j := 2) rfl
  have HA1 := Lib.hid (HA.out.below hB1)
  have hcw := (HWD.out.on hB1) k (by omega)
  have HB1 := Lib.hid (nxt hB0 hB1 (by omega))
  have hk0 : (0 : Int) ≤ (k : Int) := by omega
  have hk1 : (k : Int) < 6 := by omega
  have hwl := word_len k
  obtain ⟨s, hs⟩ : ∃ s, st_wordB k = s := ⟨_, rfl⟩
  rw [hs] at hcw hwl
  obtain ⟨cc, hcv, htx, hBc⟩ := txt_conv w1 s w1.heap.size (Nat.le_refl _) (by omega)
  have hcv' := hcv 9 _ Tryz.underlying9
  have HS := Lib.hid (show s.data.toList = wordL k by rw [← hs]; rfl)
  have HTX := Lib.hid htx
  have HBC := Lib.hid hBc
  have hsc : (Lib.bytesWorld w1 5 s).heap.size = w1.heap.size + 1 := Lib.bytesWorld_size w1 _ s
  have HW2 := Lib.hid (HW1.out.below hBc (by omega))
  have d0 := HW2.out.c (j := 0) rfl
  have d1 := HW2.out.c (j := 1) rfl
  have d2 := HW2.out.c (j := 2) rfl
  have hsc2 : w1.heap.size < (Lib.bytesWorld w1 5 s).heap.size := by omega
  clear hcv htx hBc hs H hB0 hB1 hsc
  generalize Lib.bytesWorld w1 5 s = W2 at *
  go_wp2_with fail
  refine (single_any _ _).mono ?_
  rintro e w3 ⟨rfl, rfl⟩
  cases hsg : singB (k : Int)
  · go_wp2_with fail
    refine (appT_m w1.heap.size w1.heap.size cc s.size s.data.toList A c l.length l w3 (bytes_len s).symm rfl HTX.out (IntsOff.of (n := 0) HA1.out HBC.out (Nat.le_refl _)) (by omega) (by omega) (by rw [bytes_len]; omega) HSM.out).mono ?_
    rintro e w4 ⟨v4, rfl, ht4, hB4⟩
    obtain ⟨g4, cap4, rfl⟩ := ht4.form
    have cv4 := txt_str ht4
    obtain ⟨y4, hy4⟩ : ∃ y4, (s.data.toList ++ txtOf l) = y4 := ⟨_, rfl⟩
    rw [hy4] at ht4 cv4 ⊢
    have hfin : txtL (k : Int) n l = y4 := by rw [HLH.out, ← hy4, HS.out, numsOf, hsg]; rfl
    have HFIN := Lib.hid hfin
    clear hy4 hfin
    go_wp2
    go_ret2
    refine ⟨by rw [HFIN.out]; rfl, nxt (nxt HB1.out HBC.out (by omega)) hB4 (by omega)⟩
  · go_wp2_with fail
    refine (appT_m w1.heap.size w1.heap.size cc s.size s.data.toList (some ⟨w3.heap.size, 0, none⟩) 1 1 [n] (w3.alloc (.cells #[.int .i64 n] 3)) (bytes_len s).symm rfl (HTX.out.below (alloc1 w3 _)) (intsOff_lit _ _ _ _ (by omega)) (by simp; omega) (by simp) (by rw [bytes_len]; omega) (fun x hx => by simp at hx; subst hx; exact HN.out)).mono ?_
    rintro e w4 ⟨v4, rfl, ht4, hB4⟩
    obtain ⟨g4, cap4, rfl⟩ := ht4.form
    have cv4 := txt_str ht4
    obtain ⟨y4, hy4⟩ : ∃ y4, (s.data.toList ++ txtOf [n]) = y4 := ⟨_, rfl⟩
    rw [hy4] at ht4 cv4 ⊢
    have hfin : txtL (k : Int) n l = y4 := by rw [HLH.out, ← hy4, HS.out, numsOf, hsg]; rfl
    have HFIN := Lib.hid hfin
    clear hy4 hfin
    go_wp2
    go_ret2
    refine ⟨by rw [HFIN.out]; rfl, nxt (nxt HB1.out HBC.out (by omega)) (nxt ((alloc1 w3 _).mono (show w1.heap.size ≤ w3.heap.size by omega)) hB4 (Nat.le_refl _)) (by omega)⟩
end Go.Proofs.YtpdbkjnaicjfdaaGreatDoor

namespace Go.Proofs.YtpdbkjnaicjfdaaGreatDoor
open Go.RowKit Go.Maps
set_option linter.unusedVariables false

theorem getP_bd (l : List UInt8) (h : l.length ≤ 100000) : 0 ≤ getP l ∧ getP l ≤ 100000 := by
  by_cases he : getE l = 0
  · have h20 : ¬ 20 < l.length := fun h1 => by have := (get_long l h1).2.1; omega
    by_cases h2 : getAt l < l.length ∨ getAt l = sgn l
    · have := (get_form l h20 h2).2.1; omega
    · have := (get_num l h20 h2).2.2; omega
  · have h1 := get_not l he
    rcases Nat.lt_or_ge 20 l.length with h2 | h2
    · have := h1.2.2 h2; omega
    · have := h1.2.1 h2; omega

def BehPost (R : List Int × Int × Int) (w : World) (e : Ending) (w' : World) : Prop :=
  (R.2.1 = 0 ∧ ∃ A c, e = .returned (.tuple #[.slice A R.1.length c, .agg #[.int .i64 0, .int .i64 0]]) ∧ OwnInts w.heap.size w' (.slice A R.1.length c) R.1 ∧ Below w.heap.size w w') ∨
  (R.2.1 ≠ 0 ∧ e = .returned (.tuple #[.slice none 0 0, .agg #[.int .i64 R.2.1, .int .i64 R.2.2]]) ∧ Below w.heap.size w w')

theorem beh_end {f k : Nat} {s : List UInt8} {acc : List Int} (h : s.length ≤ k) (hf : 0 < f) : behindL f (s.drop k) k acc = (acc, 0, 0) := by
  rw [List.drop_of_length_le h]
  cases f with
  | zero => omega
  | succ f => rfl
theorem beh_step {f k : Nat} {s : List UInt8} {acc : List Int} (h : k < s.length) (he : getE (partL (s.drop (k + 1))) = 0) :
    behindL (f + 1) (s.drop k) k acc = behindL f (s.drop (k + 1 + (partL (s.drop (k + 1))).length)) (k + 1 + (partL (s.drop (k + 1))).length) (acc ++ [getN (partL (s.drop (k + 1)))]) := by
  rw [List.drop_eq_getElem_cons h]
  show (if getE (partL (s.drop (k + 1))) = 0 then _ else _) = _
  rw [if_pos he, List.drop_drop]
theorem beh_bad {f k : Nat} {s : List UInt8} {acc : List Int} (h : k < s.length) (he : getE (partL (s.drop (k + 1))) ≠ 0) :
    behindL (f + 1) (s.drop k) k acc = ([], getE (partL (s.drop (k + 1))), (k : Int) + 1 + getP (partL (s.drop (k + 1)))) := by
  rw [List.drop_eq_getElem_cons h]
  show (if getE (partL (s.drop (k + 1))) = 0 then _ else _) = _
  rw [if_neg he]

set_option maxRecDepth 100000 in
set_option maxHeartbeats 1000000 in
theorem behind_any (s : ByteArray) (p0 : Nat) (w : World) (hs : s.size ≤ 16000) (hp : p0 ≤ s.size) :
    Calls Tryz.prog 141 #[.string s, .int .i64 p0] w (BehPost (behindR s.data.toList p0) w) := by
  obtain ⟨i0, hi, hz0, hz1, hz2⟩ := info_parts info_int
  have hB0 := alloc1 w (.cells #[.int .i64 0, .int .i64 0] 29)
  have HZ := Lib.hid (Holds.new w 29 #[.int .i64 0, .int .i64 0])
  have hs0 : (w.alloc (.cells #[.int .i64 0, .int .i64 0] 29)).heap.size = w.heap.size + 1 := by simp
  obtain ⟨R, hR⟩ : ∃ R, behindR s.data.toList p0 = R := ⟨_, rfl⟩
  rw [hR]
  unfold behindR at hR
  have HR := Lib.hid hR
  clear hR
  go_enter Tryz.func141, Tryz.ntmps141
  go_wp2
  generalize w.alloc (.cells #[.int .i64 0, .int .i64 0] 29) = W0 at *
  have HB0 := Lib.hid hB0
  have HS0 := Lib.hid hs0
  clear hB0 hs0
  go_loopw [1, 6, 7, 8, 9, 10, 11] (fun at1 v s7 s8 s9 s10 s11 wr => ∃ (k f : Nat) (acc : List Int), k ≤ s.size ∧ at1 = .int .i64 k ∧ s.size < f + k ∧ behindL f (s.data.toList.drop k) k acc = R ∧ acc.length ≤ k ∧ wr.ownsRow W0.heap.size 3 1 v acc.length (intsOf acc) ∧ Below W0.heap.size W0 wr) (fun at1 v s7 s8 s9 s10 s11 wr => s.size - (intOf at1).toNat)
  case atStart => exact ⟨p0, s.data.toList.length + 1, [], hp, rfl, by rw [bytes_len]; omega, HR.out, by simp, World.ownsRow_nil _ _ _ _, Below.refl _ _⟩
  case round =>
    obtain ⟨k, f, acc, hk, rfl, hf, hbeh, hal, hown, hB⟩ := hrel
    have HBEH := Lib.hid hbeh
    have HOWN := Lib.hid hown
    have HB := Lib.hid hB
    have hsz := hB.size
    have hsz0 := HS0.out
    obtain ⟨A6, c6, rfl⟩ := own_form hown
    clear hbeh hown hB
    by_cases hlt : k < s.size
    · obtain ⟨f, rfl⟩ : ∃ f', f = f' + 1 := ⟨f - 1, by omega⟩
      have hll : k < s.data.toList.length := by rw [bytes_len]; exact hlt
      have hd : (s.extract (k + 1) s.size).data.toList = s.data.toList.drop (k + 1) := extract_data s (k + 1)
      have hds : (s.extract (k + 1) s.size).size ≤ s.size := by simp
      obtain ⟨s1, hs1⟩ : ∃ s1, s.extract (k + 1) s.size = s1 := ⟨_, rfl⟩
      have hes : s1.size = s.size - (k + 1) := by rw [← hs1]; simp
      rw [hs1] at hd hds
      have HCUT := fun W => cut_any s1 W (by omega)
      have hpd : (partB s1).data.toList = partL (s.data.toList.drop (k + 1)) := by rw [part_bytes, hd]
      have hple := part_size_le s1
      have hpsz := part_size s1
      rw [hd] at hpsz
      have HSTEP := Lib.hid (fun he => beh_step (f := f) (acc := acc) hll he)
      have HBAD := Lib.hid (fun he => beh_bad (f := f) (acc := acc) hll he)
      rw [← hpsz] at HSTEP
      rw [← hpd] at HSTEP HBAD
      obtain ⟨pb, hpb⟩ : ∃ pb, partB s1 = pb := ⟨_, rfl⟩
      have HCUT' : ∀ W, Calls Tryz.prog 139 #[.string s1, .string ⟨#[32]⟩] W fun e w' => ∃ u v, e = .returned (.tuple #[.string pb, .string u, .bool v]) ∧ ∃ n, w' = W.drewN n := by rw [← hpb]; exact HCUT
      rw [hpb] at HSTEP HBAD hple
      have hgP := getP_bd pb.data.toList (by rw [bytes_len]; omega)
      have HGET := fun W => get_any pb W (by unfold maxLen; omega)
      unfold GetPost at HGET
      obtain ⟨gN, hgN⟩ : ∃ x, getN pb.data.toList = x := ⟨_, rfl⟩
      obtain ⟨gE, hgE⟩ : ∃ x, getE pb.data.toList = x := ⟨_, rfl⟩
      obtain ⟨gP, hgP'⟩ : ∃ x, getP pb.data.toList = x := ⟨_, rfl⟩
      rw [hgN, hgE, hgP'] at HGET
      rw [hgE] at HSTEP HBAD
      rw [hgN] at HSTEP
      rw [hgP'] at HBAD hgP
      have hk0 : (0 : Int) ≤ (k : Int) := by omega
      obtain ⟨k1, hk1⟩ : ∃ k1, k1 = k + 1 := ⟨_, rfl⟩
      have e1 : (k : Int) + 1 = (k1 : Int) := by omega
      have hk10 : (0 : Int) ≤ (k1 : Int) := by omega
      have hk1s : (k1 : Int) ≤ (s.size : Int) := by omega
      rw [← hk1] at hs1
      have HK1 := Lib.hid hk1
      have q2 : decide (k < s.size) = true := decide_eq_true hlt
      have hk1b : k1 ≤ 16000 := by omega
      have hpbk : k1 + pb.size ≤ s.size := by omega
      clear hd hds hes hpd hpsz hpb hgN hgE hgP' HCUT hk1 hll
      go_wp2_with fail
      refine (HCUT' wr).mono ?_
      rintro e w1 ⟨u, v, rfl, n1, rfl⟩
      go_wp2_with fail
      refine (HGET (wr.drewN n1)).mono ?_
      rintro e w2 ⟨rfl, hB2⟩
      have HB2 := Lib.hid (show Below wr.heap.size wr w2 from (below_drew0 wr n1).trans hB2)
      have hsz2 := HB2.out.size
      have HB2a := Lib.hid (nxt HB.out HB2.out (by omega))
      clear hB2
      by_cases he : gE = 0
      · subst he
        go_wp2_with (at_builtin; refine wpList_append_own_at _ rfl _ _ 51 rfl W0.heap.size 3 i0 (.int .i64 0) 1 8 Tryz.underlying51 hi hz0 hz1 hz2 rfl (by decide) _ _ _ rfl ((row_below HOWN.out HB2.out).alloc _ |>.alloc _) ⟨w2.heap.size + 1, 0, none⟩ 1 1 [.int .i64 gN] rfl rfl (by have := cell_one (w2.alloc (.cells #[.int .i64 0, .int .i64 gP] 29)) 3 (.int .i64 gN); rw [World.size_alloc] at this; exact this) (by intro u hu; simp at hu; subst hu; rfl) (by unfold maxLen; omega) (by omega) (by simp; omega) ?_; intro v5 w5 hown5 hg5 hnil5 hat5; obtain ⟨A5, c5, rfl⟩ := own_form hown5; have HOWN5 := Lib.hid hown5; have HG5 := Lib.hid hg5; clear hown5 hg5 hnil5 hat5)
        go_roundw
        case rel =>
          have hst := HSTEP.out trivial
          refine ⟨k1 + pb.size, f, acc ++ [gN], by omega, by go_num, by have := HK1.out; omega, ?_, by rw [List.length_append]; simp; have := HK1.out; omega, ?_, ?_⟩
          · rw [HK1.out, ← hst]; exact HBEH.out
          · have := HOWN5.out
            rw [intsOf_snoc] at this
            rw [List.length_append]; exact this
          · exact (((HB2a.out.alloc (by omega) _).alloc (by simp; omega) _)).grown HG5.out (by simp; omega) (fun g e => (HOWN.out.lt g e).1)
        case measure => have := HK1.out; simp [intOf]; omega
      · have hne : (gE != 0) = true := by rw [bne_iff_ne]; exact he
        have HE := Lib.hid he
        have HZ2 := HZ.out.below HB2a.out (by omega)
        have hB3 : Below w2.heap.size w2 (w2.alloc (.cells #[.int .i64 gE, .int .i64 gP] 29)) := alloc1 w2 _
        have HF := Holds.new w2 29 #[.int .i64 gE, .int .i64 gP]
        have hzl := HZ2.lt
        have HZ3 := HZ2.below hB3 hzl
        have hsz3 : w2.heap.size < (w2.alloc (.cells #[.int .i64 gE, .int .i64 gP] 29)).heap.size := by simp
        obtain ⟨pp, hpp⟩ : ∃ pp, pp = (k1 : Int) + gP := ⟨_, rfl⟩
        have hwr : IntKind.i64.wrap ((k1 : Int) + gP) = pp := by rw [hpp, IntKind.wrap_i64]; omega
        have HPP := Lib.hid hpp
        clear hpp he
        go_upto_region 7 with fail
        generalize w2.alloc (.cells #[.int .i64 gE, .int .i64 gP] 29) = W3 at *
        have f0 := HF.c (j := 0) rfl
        have f1 := HF.c (j := 1) rfl
        have z0 := HZ3.c (j := 0) rfl
        have z1 := HZ3.c (j := 1) rfl
        have y0 := HZ3.frozen 0
        have y1 := HZ3.frozen 1
        have hapart : w.heap.size ≠ w2.heap.size := by omega
        go_cut [4] from 34 to 40 (fun s4 wx => s4 = .slice none 0 0 ∧ wx = ((W3.drew.setCell ⟨w.heap.size, 0, none⟩ (.int .i64 gE)).setCell ⟨w.heap.size, 1, none⟩ (.int .i64 pp)))
        case first =>
          go_region
          all_goals (go_wp2_with fail; go_meet; exact ⟨rfl, rfl⟩)
        case rest =>
          obtain ⟨rfl, rfl⟩ := hcut
          have HZ6 := ((HZ3.of (W' := W3.drew) rfl).set 0 (.int .i64 gE)).set 1 (.int .i64 pp)
          have hO6 := ((Only.of (Below.refl W3.drew.heap.size W3.drew) (Nat.le_refl _)).set (B := w.heap.size) 0 (.int .i64 gE)).set 1 (.int .i64 pp)
          have hRR := (HBAD.out HE.out).symm.trans HBEH.out
          have HRR := Lib.hid hRR
          clear hRR
          generalize (W3.drew.setCell ⟨w.heap.size, 0, none⟩ (.int .i64 gE)).setCell ⟨w.heap.size, 1, none⟩ (.int .i64 pp) = W6 at *
          have x0 := HZ6.c (j := 0) rfl
          have x1 := HZ6.c (j := 1) rfl
          go_wp2
          refine bodyPost_ret (v := .tuple #[.slice none 0 0, .agg #[.int .i64 gE, .int .i64 pp]]) (by simp [results, Tryz.f141, go_sem, x0, x1]) rfl ?_
          have hb6 := hO6.below (lo := w.heap.size) (Nat.le_refl _) (show w.heap.size ≤ W3.heap.size by omega)
          refine .inr ⟨by rw [← HRR.out]; exact HE.out, ?_, nxt (nxt (nxt HB0.out HB2a.out (by omega)) hB3.drew (by omega)) hb6 (Nat.le_refl _)⟩
          rw [← HRR.out, HPP.out, HK1.out]
          simp only [Int.natCast_add, Int.natCast_one]
    · have hend := beh_end (k := k) (s := s.data.toList) (acc := acc) (f := f) (by rw [bytes_len]; omega) (by omega)
      have hRR := hend.symm.trans HBEH.out
      have HRR := Lib.hid hRR
      have HZ2 := HZ.out.below HB.out (by omega)
      have z0 := HZ2.c (j := 0) rfl
      have z1 := HZ2.c (j := 1) rfl
      have y0 := HZ2.frozen 0
      have y1 := HZ2.frozen 1
      have q2 : decide (k < s.size) = false := decide_eq_false hlt
      clear hend hRR
      go_wp2
      have HZ6 := (HZ2.set 0 (.int .i64 0)).set 1 (.int .i64 0)
      have hO6 := ((Only.of (Below.refl wr.heap.size wr) (Nat.le_refl _)).set (B := w.heap.size) 0 (.int .i64 0)).set 1 (.int .i64 0)
      generalize (wr.setCell ⟨w.heap.size, 0, none⟩ (.int .i64 0)).setCell ⟨w.heap.size, 1, none⟩ (.int .i64 0) = W6 at *
      have x0 := HZ6.c (j := 0) rfl
      have x1 := HZ6.c (j := 1) rfl
      refine bodyPost_ret (v := .tuple #[.slice A6 acc.length c6, .agg #[.int .i64 0, .int .i64 0]]) (by simp [results, Tryz.f141, go_sem, x0, x1]) rfl ?_
      have hb6 := hO6.below (lo := w.heap.size) (Nat.le_refl _) (show w.heap.size ≤ wr.heap.size by omega)
      rw [← HRR.out]
      refine .inl ⟨rfl, A6, c6, rfl, ?_, nxt (nxt HB0.out HB.out (by omega)) hb6 (Nat.le_refl _)⟩
      exact row_more (HOWN.out.kept hO6.grown (.inr (HZ2.not_row HOWN.out (by decide)).symm)) (by omega)
end Go.Proofs.YtpdbkjnaicjfdaaGreatDoor

namespace Go.Proofs.YtpdbkjnaicjfdaaGreatDoor
open Go.RowKit Go.Maps
set_option linter.unusedVariables false

theorem of_bad (t : Int) (A : Option Addr) (c : Nat) (l : List Int) (w : World) (hs : singB t = true) (hl : l.length ≠ 1) :
    Calls Tryz.prog 142 #[.int .i64 t, .slice A l.length c] w (Says (.tuple #[stV 0 0 none 0 0, .bool false]) w) := by
  have hk : ((l.length : Int) != 1) = true := by rw [bne_iff_ne]; omega
  unfold stV
  go_enter Tryz.func142, Tryz.ntmps142
  go_wp2_with fail
  refine (single_any _ _).mono ?_
  rintro e w1 ⟨rfl, rfl⟩
  rw [hs]
  go_wp2
  refine bodyPost_ret (v := .tuple #[.agg #[.int .i64 0, .int .i64 0, .slice none 0 0], .bool false]) (by simp [results, Tryz.f142, go_sem]) rfl ?_
  exact ⟨rfl, (alloc1 w _).alloc (by simp) _⟩

set_option maxHeartbeats 1000000 in
theorem of_many (t : Int) (A : Option Addr) (c : Nat) (l : List Int) (w : World) (hs : singB t = false) (hA : Ints w A l) (hl : l.length ≤ 20000) :
    Calls Tryz.prog 142 #[.int .i64 t, .slice A l.length c] w (Says (.tuple #[stV t 0 A l.length c, .bool (st_checkE t 0 l == 0)]) w) := by
  unfold stV
  have HZ := Holds.new w 53 #[.int .i64 0, .int .i64 0, .slice none 0 0] |>.alloc (.cells #[.int .i64 t, .int .i64 0, .slice A l.length c] 53)
  have HX := Holds.new (w.alloc (.cells #[.int .i64 0, .int .i64 0, .slice none 0 0] 53)) 53 #[.int .i64 t, .int .i64 0, .slice A l.length c]
  rw [World.size_alloc] at HX
  have hB0 : Below w.heap.size w ((w.alloc (.cells #[.int .i64 0, .int .i64 0, .slice none 0 0] 53)).alloc (.cells #[.int .i64 t, .int .i64 0, .slice A l.length c] 53)) := (alloc1 w _).alloc (by simp) _
  have hs0 : w.heap.size + 1 < ((w.alloc (.cells #[.int .i64 0, .int .i64 0, .slice none 0 0] 53)).alloc (.cells #[.int .i64 t, .int .i64 0, .slice A l.length c] 53)).heap.size := by simp
  have H : ∀ W, Below w.heap.size w W → Calls Tryz.prog 116 #[.agg #[.int .i64 t, .int .i64 0, .slice A l.length c]] W (Says (.int .i64 (st_checkE t 0 l)) W) := fun W hW => st_check_any t 0 A c l W (hA.below hW) hl
  obtain ⟨r, hr⟩ : ∃ r, st_checkE t 0 l = r := ⟨_, rfl⟩
  rw [hr] at H ⊢
  clear hr
  go_enter Tryz.func142, Tryz.ntmps142
  go_wp2_with fail
  refine (single_any _ _).mono ?_
  rintro e w1 ⟨rfl, rfl⟩
  rw [hs]
  go_wp2_with fail
  generalize (w.alloc (.cells #[.int .i64 0, .int .i64 0, .slice none 0 0] 53)).alloc (.cells #[.int .i64 t, .int .i64 0, .slice A l.length c] 53) = W0 at *
  have x0 := HX.c (j := 0) rfl
  have x1 := HX.c (j := 1) rfl
  have x2 := HX.c (j := 2) rfl
  have z0 := HZ.c (j := 0) rfl
  have z1 := HZ.c (j := 1) rfl
  have z2 := HZ.c (j := 2) rfl
  have y0 := HZ.frozen 0
  have y1 := HZ.frozen 1
  have y2 := HZ.frozen 2
  have hl1 : w.heap.size + 1 < W0.heap.size := hs0
  have hD : Below W0.heap.size W0 W0.drew := (Below.refl _ _).drew
  go_region_held3 (fun w' => w'.cell? ⟨w.heap.size + 1, 0, none⟩ = some (.int .i64 t) ∧ w'.cell? ⟨w.heap.size + 1, 1, none⟩ = some (.int .i64 0) ∧ w'.cell? ⟨w.heap.size + 1, 2, none⟩ = some (.slice A l.length c)) (first | exact ⟨x0, x1, x2⟩ | exact ⟨p0, p1, p2⟩ | go_keep) (first | (go_at_call 116; refine (H _ (nxt hB0 hD (by omega))).mono ?_; rintro e w6 ⟨rfl, hB6⟩; have hB6' := hD.trans hB6; have HX6 := HX.below hB6' hl1; have p0 := HX6.c (j := 0) rfl; have p1 := HX6.c (j := 1) rfl; have p2 := HX6.c (j := 2) rfl; have HZ6 := HZ.below hB6' (by omega); have z60 := HZ6.c (j := 0) rfl; have z61 := HZ6.c (j := 1) rfl; have z62 := HZ6.c (j := 2) rfl; have y60 := HZ6.frozen 0; have y61 := HZ6.frozen 1; have y62 := HZ6.frozen 2))
  go_wp2
  have HZ7 := ((HZ6.set 0 (.int .i64 t)).set 1 (.int .i64 0)).set 2 (.slice A l.length c)
  have hO7 := ((((Only.of (Below.refl w6.heap.size w6) (Nat.le_refl _)).set (B := w.heap.size) 0 (.int .i64 t)).set 1 (.int .i64 0)).set 2 (.slice A l.length c))
  generalize ((w6.setCell ⟨w.heap.size, 0, none⟩ (.int .i64 t)).setCell ⟨w.heap.size, 1, none⟩ (.int .i64 0)).setCell ⟨w.heap.size, 2, none⟩ (.slice A l.length c) = W7 at *
  have k0 := HZ7.c (j := 0) rfl
  have k1 := HZ7.c (j := 1) rfl
  have k2 := HZ7.c (j := 2) rfl
  have hs6 := hB6'.size
  refine bodyPost_ret (v := .tuple #[.agg #[.int .i64 t, .int .i64 0, .slice A l.length c], .bool (r == 0)]) (by simp [results, Tryz.f142, go_sem, k0, k1, k2]) rfl ?_
  exact ⟨rfl, nxt (nxt hB0 hB6' (by omega)) (hO7.below (lo := w.heap.size) (Nat.le_refl _) (by omega)) (Nat.le_refl _)⟩

set_option maxHeartbeats 1000000 in
theorem of_one (t x : Int) (A : Option Addr) (c : Nat) (w : World) (hs : singB t = true) (hA : Ints w A [x]) :
    Calls Tryz.prog 142 #[.int .i64 t, .slice A 1 c] w (Says (.tuple #[stV t x none 0 0, .bool (st_checkE t x [] == 0)]) w) := by
  obtain ⟨b, off, rfl, hb, hc⟩ := hA (by simp)
  have hck := hc 0 (by simp)
  simp only [List.getElem?_cons_zero, Option.getD_some, Nat.add_zero] at hck
  clear hc hA
  unfold stV
  have HZ := Holds.new w 53 #[.int .i64 0, .int .i64 0, .slice none 0 0] |>.alloc (.cells #[.int .i64 t, .int .i64 x, .slice none 0 0] 53)
  have HX := Holds.new (w.alloc (.cells #[.int .i64 0, .int .i64 0, .slice none 0 0] 53)) 53 #[.int .i64 t, .int .i64 x, .slice none 0 0]
  rw [World.size_alloc] at HX
  have hB0 : Below w.heap.size w ((w.alloc (.cells #[.int .i64 0, .int .i64 0, .slice none 0 0] 53)).alloc (.cells #[.int .i64 t, .int .i64 x, .slice none 0 0] 53)) := (alloc1 w _).alloc (by simp) _
  have hs0 : w.heap.size + 1 < ((w.alloc (.cells #[.int .i64 0, .int .i64 0, .slice none 0 0] 53)).alloc (.cells #[.int .i64 t, .int .i64 x, .slice none 0 0] 53)).heap.size := by simp
  have H : ∀ W, Below w.heap.size w W → Calls Tryz.prog 116 #[.agg #[.int .i64 t, .int .i64 x, .slice none 0 0]] W (Says (.int .i64 (st_checkE t x [])) W) := fun W hW => st_check_any t x none 0 [] W (fun h => by simp at h) (by simp)
  obtain ⟨r, hr⟩ : ∃ r, st_checkE t x [] = r := ⟨_, rfl⟩
  rw [hr] at H ⊢
  clear hr
  go_enter Tryz.func142, Tryz.ntmps142
  go_wp2_with fail
  refine (single_any _ _).mono ?_
  rintro e w1 ⟨rfl, rfl⟩
  rw [hs]
  go_wp2_with fail
  generalize (w.alloc (.cells #[.int .i64 0, .int .i64 0, .slice none 0 0] 53)).alloc (.cells #[.int .i64 t, .int .i64 x, .slice none 0 0] 53) = W0 at *
  have x0 := HX.c (j := 0) rfl
  have x1 := HX.c (j := 1) rfl
  have x2 := HX.c (j := 2) rfl
  have z0 := HZ.c (j := 0) rfl
  have z1 := HZ.c (j := 1) rfl
  have z2 := HZ.c (j := 2) rfl
  have y0 := HZ.frozen 0
  have y1 := HZ.frozen 1
  have y2 := HZ.frozen 2
  have hl1 : w.heap.size + 1 < W0.heap.size := hs0
  have hD : Below W0.heap.size W0 W0.drew := (Below.refl _ _).drew
  go_region_held3 (fun w' => w'.cell? ⟨w.heap.size + 1, 0, none⟩ = some (.int .i64 t) ∧ w'.cell? ⟨w.heap.size + 1, 1, none⟩ = some (.int .i64 x) ∧ w'.cell? ⟨w.heap.size + 1, 2, none⟩ = some (.slice none 0 0)) (first | exact ⟨x0, x1, x2⟩ | exact ⟨p0, p1, p2⟩ | go_keep) (first | (go_at_call 116; refine (H _ (nxt hB0 hD (by omega))).mono ?_; rintro e w6 ⟨rfl, hB6⟩; have hB6' := hD.trans hB6; have HX6 := HX.below hB6' hl1; have p0 := HX6.c (j := 0) rfl; have p1 := HX6.c (j := 1) rfl; have p2 := HX6.c (j := 2) rfl; have HZ6 := HZ.below hB6' (by omega); have z60 := HZ6.c (j := 0) rfl; have z61 := HZ6.c (j := 1) rfl; have z62 := HZ6.c (j := 2) rfl; have y60 := HZ6.frozen 0; have y61 := HZ6.frozen 1; have y62 := HZ6.frozen 2))
  go_wp2
  have HZ7 := ((HZ6.set 0 (.int .i64 t)).set 1 (.int .i64 x)).set 2 (.slice none 0 0)
  have hO7 := ((((Only.of (Below.refl w6.heap.size w6) (Nat.le_refl _)).set (B := w.heap.size) 0 (.int .i64 t)).set 1 (.int .i64 x)).set 2 (.slice none 0 0))
  generalize ((w6.setCell ⟨w.heap.size, 0, none⟩ (.int .i64 t)).setCell ⟨w.heap.size, 1, none⟩ (.int .i64 x)).setCell ⟨w.heap.size, 2, none⟩ (.slice none 0 0) = W7 at *
  have k0 := HZ7.c (j := 0) rfl
  have k1 := HZ7.c (j := 1) rfl
  have k2 := HZ7.c (j := 2) rfl
  have hs6 := hB6'.size
  refine bodyPost_ret (v := .tuple #[.agg #[.int .i64 t, .int .i64 x, .slice none 0 0], .bool (r == 0)]) (by simp [results, Tryz.f142, go_sem, k0, k1, k2]) rfl ?_
  exact ⟨rfl, nxt (nxt hB0 hB6' (by omega)) (hO7.below (lo := w.heap.size) (Nat.le_refl _) (by omega)) (Nat.le_refl _)⟩
end Go.Proofs.YtpdbkjnaicjfdaaGreatDoor

namespace Go.Proofs.YtpdbkjnaicjfdaaGreatDoor
open Go.RowKit Go.Maps
set_option linter.unusedVariables false

def ReadPost (R : st_St × Int × Int) (w : World) (e : Ending) (w' : World) : Prop :=
  ∃ A c, e = .returned (.tuple #[stV R.1.1 R.1.2.1 A R.1.2.2.length c, .agg #[.int .i64 R.2.1, .int .i64 R.2.2]]) ∧ OwnInts w.heap.size w' (.slice A R.1.2.2.length c) R.1.2.2 ∧ Below w.heap.size w w'

theorem read_none {s : List UInt8} (h : typeL (partL s) = 0) : readL s = (st_st0, 6, 0) := by unfold readL; rw [if_pos h]
theorem read_bad {s : List UInt8} (h : typeL (partL s) ≠ 0) (h2 : (behindR s (partL s).length).2.1 ≠ 0) : readL s = (st_st0, (behindR s (partL s).length).2.1, (behindR s (partL s).length).2.2) := by
  unfold readL; rw [if_neg h, if_neg h2]
theorem read_no {s : List UInt8} (h : typeL (partL s) ≠ 0) (h2 : (behindR s (partL s).length).2.1 = 0) (h3 : (ofNums (typeL (partL s)) (behindR s (partL s).length).1).2 = false) : readL s = (st_st0, 5, 0) := by
  unfold readL; rw [if_neg h, if_pos h2, h3]; rfl
theorem read_yes {s : List UInt8} (h : typeL (partL s) ≠ 0) (h2 : (behindR s (partL s).length).2.1 = 0) (h3 : (ofNums (typeL (partL s)) (behindR s (partL s).length).1).2 = true) : readL s = ((ofNums (typeL (partL s)) (behindR s (partL s).length).1).1, 0, 0) := by
  unfold readL; rw [if_neg h, if_pos h2, if_pos h3]

theorem get_nil {l : List UInt8} (h : getE l = 0) : 1 ≤ l.length := by
  cases l with
  | nil => exact absurd h (by decide)
  | cons x r => simp
theorem beh_len : ∀ (f : Nat) (r : List UInt8) (k : Nat) (acc : List Int), 2 * (behindL f r k acc).1.length ≤ 2 * acc.length + r.length
  | 0, _, _, acc => by simp [behindL]
  | f + 1, [], _, acc => by simp [behindL]
  | f + 1, x :: r, k, acc => by
    unfold behindL
    split
    · next he =>
      have h1 := get_nil he
      have h2 := part_le r
      refine Nat.le_trans (beh_len f _ _ _) ?_
      rw [List.length_append, List.length_drop]; simp; omega
    · simp
theorem Holds.off {W : World} {B B' o : Nat} {t : TypeId} {cs : Array Value} (h : Holds W B t cs) (u : Value) (hne : B' ≠ B) : Holds (W.setCell ⟨B', o, none⟩ u) B t cs := h.of (Below.heap_setCell _ _ _ _ (fun e => hne e.symm))
theorem sets_fin {B : Nat} {W : World} {cs ds : Array Value} (T N E Q : Value) (V : Value) (hz : Holds W B 53 cs) (hf : Holds W (B + 1) 29 ds) (h3 : cs.size = 3) (h2 : ds.size = 2) :
    ∃ W', W' = ((((W.setCell ⟨B, 0, none⟩ T).setCell ⟨B, 1, none⟩ N).setCell ⟨B, 2, none⟩ V).setCell ⟨B + 1, 0, none⟩ E).setCell ⟨B + 1, 1, none⟩ Q ∧ W'.cell? ⟨B, 0, none⟩ = some T ∧ W'.cell? ⟨B, 1, none⟩ = some N ∧ W'.cell? ⟨B, 2, none⟩ = some V ∧ W'.cell? ⟨B + 1, 0, none⟩ = some E ∧ W'.cell? ⟨B + 1, 1, none⟩ = some Q ∧
      Below B W W' ∧ ∀ base v n xs, W.ownsRow base 3 1 v n xs → W'.ownsRow base 3 1 v n xs := by
  refine ⟨_, rfl, ?_⟩
  have g1 := ((hz.set 0 T).set 1 N).set 2 V
  have g2 := ((hf.off (B' := B) (o := 0) T (by omega)).off (B' := B) (o := 1) N (by omega)).off (B' := B) (o := 2) V (by omega)
  have o1 : Only B W (((W.setCell ⟨B, 0, none⟩ T).setCell ⟨B, 1, none⟩ N).setCell ⟨B, 2, none⟩ V) := (((Only.of (Below.refl W.heap.size W) (Nat.le_refl _)).set 0 T).set 1 N).set 2 V
  have hl1 := hf.lt
  have hl2 := g2.lt
  generalize ((W.setCell ⟨B, 0, none⟩ T).setCell ⟨B, 1, none⟩ N).setCell ⟨B, 2, none⟩ V = W1 at *
  have g3 := (g2.set 0 E).set 1 Q
  have g4 := (g1.off (B' := B + 1) (o := 0) E (by omega)).off (B' := B + 1) (o := 1) Q (by omega)
  have o2 : Only (B + 1) W1 ((W1.setCell ⟨B + 1, 0, none⟩ E).setCell ⟨B + 1, 1, none⟩ Q) := ((Only.of (Below.refl W1.heap.size W1) (Nat.le_refl _)).set 0 E).set 1 Q
  generalize (W1.setCell ⟨B + 1, 0, none⟩ E).setCell ⟨B + 1, 1, none⟩ Q = W2 at *
  obtain ⟨c0, c1, c2, rfl⟩ : ∃ c0 c1 c2, cs = #[c0, c1, c2] := by
    obtain ⟨l⟩ := cs
    match l, h3 with
    | [a, b, c], _ => exact ⟨a, b, c, rfl⟩
  obtain ⟨d0, d1, rfl⟩ : ∃ d0 d1, ds = #[d0, d1] := by
    obtain ⟨l⟩ := ds
    match l, h2 with
    | [a, b], _ => exact ⟨a, b, rfl⟩
  refine ⟨g4.c (j := 0) rfl, g4.c (j := 1) rfl, g4.c (j := 2) rfl, g3.c (j := 0) rfl, g3.c (j := 1) rfl, ?_, ?_⟩
  · exact nxt (o1.below (Nat.le_refl _) (by omega)) (o2.below (lo := B) (by omega) (by omega)) (Nat.le_refl _)
  · intro base v n xs h
    have r1 := h.kept o1.grown (.inr (hz.not_row h (by decide)).symm)
    exact r1.kept o2.grown (.inr (g2.not_row r1 (by decide)).symm)

def zSt : Obj := .cells #[.int .i64 0, .int .i64 0, .slice none 0 0] 53
def zFt : Obj := .cells #[.int .i64 0, .int .i64 0] 29

/-- What stateOf answers, in whichever way. -/
def OfPost (t : Int) (l : List Int) (base : Nat) (w : World) (e : Ending) (w' : World) : Prop :=
  ∃ A c, e = .returned (.tuple #[stV (ofNums t l).1.1 (ofNums t l).1.2.1 A (ofNums t l).1.2.2.length c, .bool (ofNums t l).2]) ∧ OwnInts base w' (.slice A (ofNums t l).1.2.2.length c) (ofNums t l).1.2.2 ∧ Below w.heap.size w w'
theorem nil_row (base : Nat) (w : World) : OwnInts base w (.slice none 0 0) [] := World.ownsRow_nil _ _ _ _
theorem st_of_any (t : Int) (A : Option Addr) (c : Nat) (l : List Int) (base : Nat) (w : World) (ho : OwnInts base w (.slice A l.length c) l) (hl : l.length ≤ 20000) :
    Calls Tryz.prog 142 #[.int .i64 t, .slice A l.length c] w (OfPost t l base w) := by
  have hints := own_ints rfl ho
  cases hs : singB t
  · refine (of_many t A c l w hs hints hl).mono ?_
    rintro e w' ⟨rfl, hB⟩
    have e1 : ofNums t l = ((t, 0, l), st_checkE t 0 l == 0) := by unfold ofNums; rw [hs]; rfl
    unfold OfPost
    rw [e1]
    exact ⟨A, c, rfl, row_below ho hB, hB⟩
  · by_cases h1 : l.length = 1
    · obtain ⟨x, rfl⟩ : ∃ x, l = [x] := by
        match l, h1 with
        | [x], _ => exact ⟨x, rfl⟩
      refine (of_one t x A c w hs hints).mono ?_
      rintro e w' ⟨rfl, hB⟩
      have e1 : ofNums t [x] = ((t, x, []), st_checkE t x [] == 0) := by unfold ofNums; rw [hs]; rfl
      unfold OfPost
      rw [e1]
      exact ⟨none, 0, rfl, nil_row _ _, hB⟩
    · refine (of_bad t A c l w hs h1).mono ?_
      rintro e w' ⟨rfl, hB⟩
      have e1 : ofNums t l = (st_st0, false) := by unfold ofNums; rw [hs, if_pos rfl, if_neg h1]
      unfold OfPost
      rw [e1]
      exact ⟨none, 0, rfl, nil_row _ _, hB⟩

set_option maxRecDepth 100000 in
set_option maxHeartbeats 1000000 in
theorem st_read_any (s : ByteArray) (w : World) (hw : Wds w) (hs : s.size ≤ 16000) :
    Calls Tryz.prog 123 #[.string s] w (ReadPost (readL s.data.toList) w) := by
  have hB0 : Below w.heap.size w ((w.alloc zSt).alloc zFt) := (alloc1 w _).alloc (by simp) _
  have HZ := Lib.hid (show Holds ((w.alloc zSt).alloc zFt) w.heap.size 53 #[.int .i64 0, .int .i64 0, .slice none 0 0] from (Holds.new w 53 #[.int .i64 0, .int .i64 0, .slice none 0 0]).alloc _)
  have HF := Lib.hid (show Holds ((w.alloc zSt).alloc zFt) (w.heap.size + 1) 29 #[.int .i64 0, .int .i64 0] from by have := Holds.new (w.alloc zSt) 29 #[.int .i64 0, .int .i64 0]; rwa [World.size_alloc] at this)
  have hs0 : w.heap.size + 1 < ((w.alloc zSt).alloc zFt).heap.size := by simp
  have HWD := Lib.hid (hw.on hB0)
  have HB0 := Lib.hid hB0
  have hple := part_size_le s
  have hpd := part_bytes s
  have hpsz := part_size s
  have HCUT := fun W => cut_any s W (by omega)
  unfold CutPost at HCUT
  unfold zSt zFt at *
  obtain ⟨R, hR⟩ : ∃ R, readL s.data.toList = R := ⟨_, rfl⟩
  rw [hR]
  have h1 := read_none (s := s.data.toList)
  have h2 := read_bad (s := s.data.toList)
  have h3 := read_no (s := s.data.toList)
  have h4 := read_yes (s := s.data.toList)
  rw [hR] at h1 h2 h3 h4
  rw [← hpsz] at h2 h3 h4
  rw [← hpd] at h1 h2 h3 h4
  have HBH := fun W => behind_any s (partB s).size W hs hple
  have HTY := fun W hW => typeOf_any (partB s) W hW
  have htl := type_le (partB s).data.toList
  obtain ⟨pb, hpb⟩ : ∃ pb, partB s = pb := ⟨_, rfl⟩
  rw [hpb] at h1 h2 h3 h4 HBH HTY HCUT hple htl
  obtain ⟨tk, htk⟩ : ∃ tk, typeL pb.data.toList = tk := ⟨_, rfl⟩
  rw [htk] at h1 h2 h3 h4 HTY htl
  obtain ⟨Rb, hRb⟩ : ∃ Rb, behindR s.data.toList pb.size = Rb := ⟨_, rfl⟩
  rw [hRb] at h2 h3 h4 HBH
  have hlb : Rb.1.length ≤ 20000 := by
    have h1 := beh_len (s.data.toList.length + 1) (s.data.toList.drop pb.size) pb.size []
    rw [List.length_drop, bytes_len] at h1
    rw [← hRb]
    unfold behindR
    rw [bytes_len]
    simp at h1
    omega
  have H1 := Lib.hid h1
  have H2 := Lib.hid h2
  have H3 := Lib.hid h3
  have H4 := Lib.hid h4
  clear h1 h2 h3 h4 hR hRb htk hpb hpd hpsz hw
  go_enter Tryz.func123, Tryz.ntmps123
  go_wp2_with fail
  generalize (w.alloc (.cells #[.int .i64 0, .int .i64 0, .slice none 0 0] 53)).alloc (.cells #[.int .i64 0, .int .i64 0] 29) = W0 at *
  refine (HCUT W0).mono ?_
  rintro e w1 ⟨u1, v1, rfl, n1, rfl⟩
  have hD1 : Below W0.heap.size W0 (W0.drewN n1) := below_drew0 W0 n1
  go_wp2_with fail
  refine (HTY _ (HWD.out.on hD1)).mono ?_
  rintro e w2 ⟨rfl, rfl⟩
  go_wp2_with fail
  refine (known_any _ _).mono ?_
  rintro e w2 ⟨rfl, rfl⟩
  have HZ1 := Lib.hid (HZ.out.below hD1 (by omega))
  have HF1 := Lib.hid (HF.out.below hD1 hs0)
  have HB1 := Lib.hid (nxt HB0.out hD1 (by omega))
  have hs1 : w.heap.size + 1 < (W0.drewN n1).heap.size := hs0
  clear hD1 hB0
  generalize W0.drewN n1 = W1 at *
  by_cases htk : tk = 0
  · subst htk
    have e1 := H1.out rfl
    subst e1
    have hk : knownB ((0 : Nat) : Int) = false := rfl
    rw [hk]
    have z0 := HZ1.out.c (j := 0) rfl
    have z1 := HZ1.out.c (j := 1) rfl
    have z2 := HZ1.out.c (j := 2) rfl
    have y0 := HZ1.out.frozen 0
    have y1 := HZ1.out.frozen 1
    have y2 := HZ1.out.frozen 2
    have a0 := HF1.out.c (j := 0) rfl
    have a1 := HF1.out.c (j := 1) rfl
    have b0 := HF1.out.frozen 0
    have b1 := HF1.out.frozen 1
    go_wp2
    obtain ⟨W9, hW9, k0, k1, k2, k3, k4, hB9, hrow9⟩ := sets_fin (.int .i64 0) (.int .i64 0) (.int .i64 6) (.int .i64 0) (.slice none 0 0) HZ1.out HF1.out rfl rfl
    rw [← hW9]
    refine bodyPost_ret (v := .tuple #[.agg #[.int .i64 0, .int .i64 0, .slice none 0 0], .agg #[.int .i64 6, .int .i64 0]]) (by simp [results, Tryz.f123, go_sem, k0, k1, k2, k3, k4]) rfl ?_
    exact ⟨none, 0, rfl, nil_row _ _, nxt HB1.out hB9 (Nat.le_refl _)⟩
  · have hk : knownB (tk : Int) = true := type_yes (by omega)
    rw [hk]
    have HTK := Lib.hid htk
    clear htk hk
    go_wp2_with fail
    refine (HBH W1).mono ?_
    intro e w2 hpost
    rcases hpost with ⟨hR0, A2, c2, rfl, ho2, hB2⟩ | ⟨hR0, rfl, hB2⟩
    · have HZ2 := HZ1.out.below hB2 (by omega)
      have HF2 := HF1.out.below hB2 hs1
      have hs2 := hB2.size
      have hBw2 := nxt HB1.out hB2 (by omega)
      have HOF := fun W (hW : Below w2.heap.size w2 W) => st_of_any tk A2 c2 Rb.1 W1.heap.size W (row_below ho2 hW) hlb
      have HR0 := Lib.hid hR0
      clear hR0
      have hB3 := alloc1 w2 (.cells #[.int .i64 0, .int .i64 0] 29)
      go_wp2_with fail
      generalize hW3 : w2.alloc (.cells #[.int .i64 0, .int .i64 0] 29) = W3 at *
      have hs3 := hB3.size
      clear hW3
      refine (HOF W3 hB3).mono ?_
      rintro e w4 ⟨A4, c4, rfl, ho4, hB4⟩
      have hB24 := nxt hB3 hB4 hs3
      have hs4 := hB4.size
      have hB5 := alloc1 w4 (.cells #[.int .i64 (ofNums tk Rb.1).1.1, .int .i64 (ofNums tk Rb.1).1.2.1, .slice A4 (ofNums tk Rb.1).1.2.2.length c4] 53)
      have HX5 := Holds.new w4 53 #[.int .i64 (ofNums tk Rb.1).1.1, .int .i64 (ofNums tk Rb.1).1.2.1, .slice A4 (ofNums tk Rb.1).1.2.2.length c4]
      have ho5 := row_below ho4 hB5
      have h3 := H3.out HTK.out HR0.out
      have h4 := H4.out HTK.out HR0.out
      unfold stV
      obtain ⟨⟨⟨T, N, L⟩, ok⟩, hof⟩ : ∃ x, ofNums tk Rb.1 = x := ⟨_, rfl⟩
      rw [hof] at h3 h4 ho4 hB5 HX5 ho5 ⊢
      dsimp only at h3 h4 ho4 hB5 HX5 ho5 ⊢
      clear hof HBH HCUT HTY HOF
      have hB25 := nxt hB24 hB5 (by omega)
      have hw4l : w4.heap.size < (w4.alloc (.cells #[.int .i64 T, .int .i64 N, .slice A4 L.length c4] 53)).heap.size := by simp
      have HZ5 := HZ2.below hB25 (by omega)
      have HF5 := HF2.below hB25 (by omega)
      have hBw5 := nxt hBw2 hB25 (by omega)
      have HO5 := Lib.hid ho5
      have H3' := Lib.hid h3
      have H4' := Lib.hid h4
      clear h3 h4 ho4 ho5 hB5
      go_upto_region 9 with fail
      generalize w4.alloc (.cells #[.int .i64 T, .int .i64 N, .slice A4 L.length c4] 53) = W5 at *
      have z0 := HZ5.c (j := 0) rfl
      have z1 := HZ5.c (j := 1) rfl
      have z2 := HZ5.c (j := 2) rfl
      have y0 := HZ5.frozen 0
      have y1 := HZ5.frozen 1
      have y2 := HZ5.frozen 2
      have a0 := HF5.c (j := 0) rfl
      have a1 := HF5.c (j := 1) rfl
      have b0 := HF5.frozen 0
      have b1 := HF5.frozen 1
      have x0 := HX5.c (j := 0) rfl
      have x1 := HX5.c (j := 1) rfl
      have x2 := HX5.c (j := 2) rfl
      cases ok
      · go_wp2
        obtain ⟨W9, hW9, k0, k1, k2, k3, k4, hB9, hrow9⟩ := sets_fin (.int .i64 0) (.int .i64 0) (.int .i64 5) (.int .i64 0) (.slice none 0 0) HZ5 HF5 rfl rfl
        rw [← hW9]
        refine bodyPost_ret (v := .tuple #[.agg #[.int .i64 0, .int .i64 0, .slice none 0 0], .agg #[.int .i64 5, .int .i64 0]]) (by simp [results, Tryz.f123, go_sem, k0, k1, k2, k3, k4]) rfl ?_
        rw [H3'.out trivial]
        exact ⟨none, 0, rfl, nil_row _ _, nxt hBw5 hB9 (Nat.le_refl _)⟩
      · go_wp2
        obtain ⟨W9, hW9, k0, k1, k2, k3, k4, hB9, hrow9⟩ := sets_fin (.int .i64 T) (.int .i64 N) (.int .i64 0) (.int .i64 0) (.slice A4 L.length c4) HZ5 HF5 rfl rfl
        rw [← hW9]
        refine bodyPost_ret (v := .tuple #[.agg #[.int .i64 T, .int .i64 N, .slice A4 L.length c4], .agg #[.int .i64 0, .int .i64 0]]) (by simp [results, Tryz.f123, go_sem, k0, k1, k2, k3, k4]) rfl ?_
        rw [H4'.out trivial]
        exact ⟨A4, c4, rfl, row_more (hrow9 _ _ _ _ HO5.out) (by omega), nxt hBw5 hB9 (Nat.le_refl _)⟩
    · have HZ2 := HZ1.out.below hB2 (by omega)
      have HF2 := HF1.out.below hB2 hs1
      have hs2 := hB2.size
      have hBw2 := nxt HB1.out hB2 (by omega)
      have e1 := H2.out HTK.out hR0
      subst e1
      obtain ⟨fE, hfE⟩ : ∃ x, Rb.2.1 = x := ⟨_, rfl⟩
      obtain ⟨fP, hfP⟩ : ∃ x, Rb.2.2 = x := ⟨_, rfl⟩
      rw [hfE] at hR0
      rw [hfE, hfP]
      have hne : (fE != 0) = true := by rw [bne_iff_ne]; exact hR0
      have hB3 := alloc1 w2 (.cells #[.int .i64 fE, .int .i64 fP] 29)
      have HX3 := Holds.new w2 29 #[.int .i64 fE, .int .i64 fP]
      have HZ3 := HZ2.below hB3 (by omega)
      have HF3 := HF2.below hB3 (by omega)
      have HFE := Lib.hid hfE
      have HFP := Lib.hid hfP
      clear hfE hfP H1 H2 H3 H4 HBH HCUT HTY
      go_upto_region 7 with fail
      generalize w2.alloc (.cells #[.int .i64 fE, .int .i64 fP] 29) = W3 at *
      have z0 := HZ3.c (j := 0) rfl
      have z1 := HZ3.c (j := 1) rfl
      have z2 := HZ3.c (j := 2) rfl
      have y0 := HZ3.frozen 0
      have y1 := HZ3.frozen 1
      have y2 := HZ3.frozen 2
      have a0 := HF3.c (j := 0) rfl
      have a1 := HF3.c (j := 1) rfl
      have b0 := HF3.frozen 0
      have b1 := HF3.frozen 1
      have x0 := HX3.c (j := 0) rfl
      have x1 := HX3.c (j := 1) rfl
      go_cut [] from 35 to 36 (fun wx => wx = (((((W3.drew.setCell ⟨w.heap.size, 0, none⟩ (.int .i64 0)).setCell ⟨w.heap.size, 1, none⟩ (.int .i64 0)).setCell ⟨w.heap.size, 2, none⟩ (.slice none 0 0)).setCell ⟨w.heap.size + 1, 0, none⟩ (.int .i64 fE)).setCell ⟨w.heap.size + 1, 1, none⟩ (.int .i64 fP)))
      case first =>
        go_region
        all_goals (go_wp2_with fail; go_meet; exact rfl)
      case rest =>
        subst hcut
        go_wp2
        obtain ⟨W9, hW9, k0, k1, k2, k3, k4, hB9, hrow9⟩ := sets_fin (.int .i64 0) (.int .i64 0) (.int .i64 fE) (.int .i64 fP) (.slice none 0 0) (HZ3.of (W' := W3.drew) rfl) (HF3.of (W' := W3.drew) rfl) rfl rfl
        rw [← hW9]
        refine bodyPost_ret (v := .tuple #[.agg #[.int .i64 0, .int .i64 0, .slice none 0 0], .agg #[.int .i64 fE, .int .i64 fP]]) (by simp [results, Tryz.f123, go_sem, k0, k1, k2, k3, k4]) rfl ?_
        exact ⟨none, 0, by dsimp only; rw [HFE.out, HFP.out]; rfl, nil_row _ _, nxt (nxt hBw2 hB3.drew (by omega)) hB9 (Nat.le_refl _)⟩
end Go.Proofs.YtpdbkjnaicjfdaaGreatDoor

namespace Go.Proofs.YtpdbkjnaicjfdaaGreatDoor
open Go.ChangeShapes Go.WideShapes Go.ChangeAt Go.RowKit
set_option linter.unusedVariables false

/-- What a row tells of a slice of numbers. -/
theorem row_ints {w : World} {A : Option Addr} {len cap : Nat} {zs : List Int}
    (h : (A = none ∧ len = 0 ∧ cap = 0 ∧ zs = []) ∨ ∃ x, A = some x ∧ len ≤ cap ∧ cap ≤ maxLen ∧ zs.length = cap ∧ (∀ i, i < zs.length → w.cell? (x.add i) = some (.int .i64 (zs.getD i 0))) ∧ ∀ n ∈ zs, (Lit.int .i64 n).wf = true) :
    ∃ l : List Int, l.length = len ∧ Ints w A l ∧ (∀ x ∈ l, Small x) ∧ len ≤ maxLen := by
  rcases h with ⟨rfl, rfl, _, rfl⟩ | ⟨x, rfl, hl, hm, hz, hc, hw⟩
  · exact ⟨[], rfl, fun h => absurd h (by simp), (fun _ h => by cases h), Nat.zero_le _⟩
  · refine ⟨zs.take len, by rw [List.length_take]; omega, ?_, fun y hy => bounds_i64 (hw y (List.mem_of_mem_take hy)), by omega⟩
    intro hp
    rw [List.length_take] at hp
    obtain ⟨b, off, rfl, hc'⟩ := ints_at hc (by omega)
    refine ⟨b, off, rfl, cell_lt (hc' 0 (by omega)), fun j hj => ?_⟩
    rw [List.length_take] at hj
    rw [hc' j (by omega), List.getElem?_take, if_pos (by omega)]
    rfl

theorem array3 {α : Type} {cs : Array α} (h : cs.size = 3) : ∃ c0 c1 c2, cs = #[c0, c1, c2] := by
  obtain ⟨l⟩ := cs
  match l, h with
  | [a, b, c], _ => exact ⟨a, b, c, rfl⟩
theorem small_wf {n : Int} (h : (Lit.int .i64 n).wf = true) : Small n := ⟨(bounds_i64 h).1, (bounds_i64 h).2⟩
theorem cells_st : Tryz.prog.cellsOf 53 = 3 := by kernel_rfl
theorem cells_i : Tryz.prog.cellsOf 3 = 1 := by kernel_rfl
theorem cells_sl : Tryz.prog.cellsOf 51 = 1 := by kernel_rfl

set_option maxRecDepth 100000 in
theorem open_st {H : Type} {enc : TypeId × Value → H} {W : World} {base : Nat} {held : Bool} {r : Reach} {b0 : Nat} {v : Value} {d : DataW H} {p : List MemPlace} (hv : Value.okWide Tryz.prog W r b0 53 v) (h : DataW.Trod enc Tryz.prog W base (fun _ => true) held 53 v d p) :
    ∃ (t n : Int) (A : Option Addr) (c : Nat) (l : List Int), v = stV t n A l.length c ∧ Small t ∧ Small n ∧ Ints W A l ∧ (∀ x ∈ l, Small x) ∧ l.length ≤ maxLen := by
  obtain ⟨cs, rfl, hsz⟩ := okWide_struct Tryz.underlying53 hv
  obtain ⟨c0, c1, c2, rfl⟩ := array3 (hsz.trans cells_st)
  obtain ⟨fuel, hf⟩ := h
  obtain ⟨y0, y1, y2, n, hx, _, h0, h1, h2⟩ := Go.Deep.trod_struct3 Tryz.underlying53 hf
  simp only [cells_i, cells_sl, Value.cells, List.drop_zero, List.drop_succ_cons, List.take_succ_cons, List.take_zero] at h0 h1 h2
  obtain ⟨t, e0, _, w0⟩ := DataW.trod_int Tryz.underlying3 h0
  obtain ⟨m, e1, _, w1⟩ := DataW.trod_int Tryz.underlying3 h1
  simp at e0 e1
  subst e0 e1
  rcases open_ints Tryz.underlying51 Tryz.underlying3 (by kernel_rfl) h2 with ⟨hcs, _⟩ | ⟨x, len, c, zs, hcs, _, hl, hm, hz, _, hcell, hwz⟩
  · simp at hcs
    subst hcs
    exact ⟨t, m, none, 0, [], rfl, small_wf w0, small_wf w1, (fun h => by simp at h), (fun _ h => by cases h), by simp⟩
  · simp at hcs
    subst hcs
    obtain ⟨l, rfl, hA, hs, hm'⟩ := row_ints (w := W) (A := some x) (len := len) (cap := c) (zs := zs) (.inr ⟨x, rfl, hl, hm, by simpa using hz, hcell, hwz⟩)
    exact ⟨t, m, some x, c, l, rfl, small_wf w0, small_wf w1, hA, hs, hm'⟩
theorem open_bs {H : Type} {enc : TypeId × Value → H} {W : World} {base : Nat} {held : Bool} {r : Reach} {b0 : Nat} {v : Value} {d : DataW H} {p : List MemPlace} (hv : Value.okWide Tryz.prog W r b0 78 v) (h : DataW.Trod enc Tryz.prog W base (fun _ => true) held 78 v d p) :
    ∃ (A : Option Addr) (c : Nat) (l : List Int), v = .slice A l.length c ∧ Bytes W A l ∧ Octets l ∧ l.length ≤ c ∧ c ≤ maxLen ∧ (A = none → c = 0) := by
  obtain ⟨A, len, c, rfl⟩ := okWide_slice Tryz.underlying78 hv
  obtain ⟨fuel, hf⟩ := h
  rcases open_ints Tryz.underlying78 Tryz.underlying5 (by kernel_rfl) hf with ⟨hcs, _⟩ | ⟨x, len', c', zs, hcs, _, hl, hm, hz, _, hcell, hwz⟩
  · simp [Value.cells] at hcs
    obtain ⟨rfl, rfl, rfl⟩ := hcs
    exact ⟨none, 0, [], rfl, (fun h => by simp at h), (fun _ h => by cases h), Nat.zero_le _, Nat.zero_le _, fun _ => rfl⟩
  · simp [Value.cells] at hcs
    obtain ⟨rfl, rfl, rfl⟩ := hcs
    obtain ⟨l, rfl, hA, hs, h1, h2, h3⟩ := row_bytes (w := W) (A := some x) (len := len) (cap := c) (zs := zs) (.inr ⟨x, rfl, hl, hm, by simpa using hz, hcell, hwz⟩)
    exact ⟨some x, c, l, rfl, hA, hs, h1, hm, h3⟩
end Go.Proofs.YtpdbkjnaicjfdaaGreatDoor
