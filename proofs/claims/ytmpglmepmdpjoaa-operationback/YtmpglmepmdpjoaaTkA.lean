/- Contracts of the layer token: passedOver, firstWrong. -/
import Derived.Test.YtmpglmepmdpjoaaOpBase
import Derived.Test.YtmpglmepmdpjoaaRows
import Derived.Test.YtmpglmepmdpjoaaTkPlain
import Derived.WalkKit
import Derived.WalkSpells
import Derived.WalkLawsBesides
import Derived.Lib.Hide
import Derived.IntWalk
import Derived.Laws.Externs
import Derived.Laws.OwnMore
import Derived.Deep.QuietTactic
import Derived.BigQuiet
import Derived.Deep.RegionWith
namespace Go.Proofs.Ytmpglmepmdpjoaa
open Go.RowKit
set_option linter.unusedVariables false

/-- A slice's address A, of whatever capacity, reads as the bytes l (nil let in). -/
def Bytes (w : World) (A : Option Addr) (l : List Int) : Prop :=
  0 < l.length → ∃ b off, A = some ⟨b, off, none⟩ ∧ b < w.heap.size ∧ ∀ j, j < l.length → w.cell? ⟨b, off + j, none⟩ = some (.int .u8 (l[j]?.getD 0))

theorem Bytes.below {B : Nat} {w w' : World} {A : Option Addr} {l : List Int} (h : Bytes w A l) (hb : Below w.heap.size w w') : Bytes w' A l := fun hl => by
  obtain ⟨b, off, e, hlt, hc⟩ := h hl
  exact ⟨b, off, e, Nat.lt_of_lt_of_le hlt hb.size, fun j hj => (hb.cell (p := ⟨b, off + j, none⟩) hlt).trans (hc j hj)⟩

/-- Bytes that lie below B lie on wherever what lay below B lies on. -/
def BytesB (B : Nat) (w : World) (A : Option Addr) (l : List Int) : Prop :=
  0 < l.length → ∃ b off, A = some ⟨b, off, none⟩ ∧ b < B ∧ ∀ j, j < l.length → w.cell? ⟨b, off + j, none⟩ = some (.int .u8 (l[j]?.getD 0))

theorem BytesB.below {B : Nat} {w w' : World} {A : Option Addr} {l : List Int} (h : BytesB B w A l) (hb : Below B w w') : BytesB B w' A l := fun hl => by
  obtain ⟨b, off, e, hlt, hc⟩ := h hl
  exact ⟨b, off, e, hlt, fun j hj => (hb.cell (p := ⟨b, off + j, none⟩) hlt).trans (hc j hj)⟩

theorem BytesB.mono {B B' : Nat} {w : World} {A : Option Addr} {l : List Int} (h : BytesB B w A l) (hb : B ≤ B') : BytesB B' w A l := fun hl => by
  obtain ⟨b, off, e, hlt, hc⟩ := h hl
  exact ⟨b, off, e, by omega, hc⟩

theorem Bytes.b {w : World} {A : Option Addr} {l : List Int} (h : Bytes w A l) : BytesB w.heap.size w A l := h

def Octets (l : List Int) : Prop := ∀ x ∈ l, 0 ≤ x ∧ x ≤ 255

theorem octet_at {l : List Int} (h : Octets l) (k : Nat) (hk : k < l.length) : 0 ≤ l[k]?.getD 0 ∧ l[k]?.getD 0 ≤ 255 := by
  rw [List.getElem?_eq_getElem hk]; exact h _ (List.getElem_mem hk)

set_option maxHeartbeats 400000 in
theorem over_any (A : Option Addr) (c : Nat) (l : List Int) (w : World) (B : Nat) (hA : BytesB B w A l) (hm : l.length ≤ maxLen) :
    Calls Try.prog 58 #[.slice A l.length c] w fun e w' => e = .returned (.bool (over l)) ∧ w = w' := by
  unfold maxLen at hm
  cases l with
  | nil =>
    go_enter Try.func58, Try.ntmps58
    go_wp2
    go_ret
    exact ⟨rfl, rfl⟩
  | cons x r =>
    obtain ⟨b, off, rfl, hb, hc⟩ := hA (by simp)
    have hc0 := hc 0 (by simp)
    simp only [Nat.add_zero, List.getElem?_cons_zero, Option.getD_some] at hc0
    clear hc hA
    rw [List.length_cons] at hm ⊢
    have hz : (((r.length + 1 : Nat) : Int) == 0) = false := beq_eq_false_iff_ne.2 (by omega)
    obtain ⟨v, hv⟩ : ∃ v, (x == 35) = v := ⟨_, rfl⟩
    have HV := Lib.hid hv
    go_enter Try.func58, Try.ntmps58
    go_wp2
    go_ret
    exact ⟨by rw [← HV.out]; rfl, rfl⟩

set_option maxHeartbeats 1000000 in
theorem wrong_any (A : Option Addr) (c : Nat) (l : List Int) (w : World) (B : Nat) (hA : BytesB B w A l) (ho : Octets l) (hm : l.length ≤ maxLen) :
    Calls Try.prog 59 #[.slice A l.length c] w fun e w' => e = .returned (.int .i64 (fwI l)) ∧ w = w' := by
  unfold maxLen at hm
  go_enter Try.func59, Try.ntmps59
  go_wp2
  go_loop [3, 4, 7, 8, 9, 10, 11, 12, 13, 14, 15, 16, 17, 18, 19] (fun s3 s4 i s8 s9 s10 s11 s12 s13 s14 s15 s16 s17 s18 s19 => ∃ k : Nat, k ≤ l.length ∧ i = .int .i64 k ∧ ∀ j (hj : j < l.length), j < k → bad l[j] = false) (fun s3 s4 i s8 s9 s10 s11 s12 s13 s14 s15 s16 s17 s18 s19 => l.length - (intOf i).toNat)
  case atStart => exact ⟨0, Nat.zero_le _, rfl, fun j _ hj => absurd hj (by omega)⟩
  case round =>
    obtain ⟨k, hk, rfl, hq⟩ := hrel
    have HQ := Lib.hid hq
    clear hq
    by_cases hlt : k < l.length
    · obtain ⟨b, off, rfl, hb, hc⟩ := hA (by omega)
      have hck := hc k hlt
      obtain ⟨o1, o2⟩ := octet_at ho k hlt
      have hx' : l[k]?.getD 0 = l[k] := by rw [List.getElem?_eq_getElem hlt]; rfl
      have HX := Lib.hid hx'
      generalize l[k]?.getD 0 = x at *
      clear hc hx' hA
      have hlt' : decide ((k : Int) < l.length) = true := decide_eq_true (by omega)
      by_cases h33 : x < 33
      · have HB := Lib.hid (fw_some hlt (by rw [← HX.out]; simp [bad, h33]) HQ.out)
        have hd : decide (x < 33) = true := decide_eq_true h33
        go_wp2
        go_ret
        exact ⟨ret_int (fwI_some HB.out).symm, rfl⟩
      · have hd : decide (x < 33) = false := decide_eq_false h33
        by_cases h126 : 126 < x
        · have HB := Lib.hid (fw_some hlt (by rw [← HX.out]; simp [bad, h126]) HQ.out)
          have hd2 : decide (126 < x) = true := decide_eq_true h126
          go_wp2
          go_ret
          exact ⟨ret_int (fwI_some HB.out).symm, rfl⟩
        · have hd2 : decide (126 < x) = false := decide_eq_false h126
          have HB : Hid (bad l[k] = false) := Lib.hid (by rw [← HX.out]; simp [bad]; omega)
          go_wp2
          go_roundw
          case rel =>
            refine ⟨k + 1, by omega, by go_num, fun j hj hj' => ?_⟩
            by_cases e : j = k
            · subst e; exact HB.out
            · exact HQ.out j hj (by omega)
          case measure => simp [intOf]; omega
    · have hd : decide ((k : Int) < l.length) = false := decide_eq_false (by omega)
      by_cases h0 : l.length = 0
      · have e : l = [] := List.eq_nil_of_length_eq_zero h0
        subst e
        go_wp2
        go_ret
        exact ⟨rfl, rfl⟩
      · have HN : Hid (fwI l = -1) := Lib.hid (fwI_none (fw_none (fun e => h0 (by rw [e]; rfl)) (fun x hx => by
          obtain ⟨j, hj, rfl⟩ := List.mem_iff_getElem.1 hx
          exact HQ.out j hj (by omega))))
        have hz : ((l.length : Int) == 0) = false := beq_eq_false_iff_ne.2 (by omega)
        go_wp2
        go_ret
        exact ⟨ret_int HN.out.symm, rfl⟩
end Go.Proofs.Ytmpglmepmdpjoaa
