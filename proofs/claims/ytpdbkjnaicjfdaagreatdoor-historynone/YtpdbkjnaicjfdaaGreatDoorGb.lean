/- Texts of earlier stages over this seat, joined: TkPlain TkA TkB TkC TkE TkF TkD TkR TkY TkG TkTwH StBase StV OpRg NmX StRg. -/
import Derived.Test.YtpdbkjnaicjfdaaGreatDoorGa
import Derived.RowKit
import Derived.IntWalk
import Derived.Below
import Derived.Test.YtpdbkjnaicjfdaaGreatDoorRows
import Derived.WalkKit
import Derived.WalkSpells
import Derived.WalkLawsBesides
import Derived.Lib.Hide
import Derived.Laws.Externs
import Derived.Laws.OwnMore
import Derived.Deep.QuietTactic
import Derived.BigQuiet
import Derived.Deep.RegionWith
import Derived.RangeFuncNested
import Derived.RangeFuncBound
import Derived.RangeFuncCalls
import Derived.RangeFuncLeaves
import Derived.RangeFuncBox
import Derived.Shelf.Abstract
import Derived.Shelf.RegionOpen
import Derived.OwnWalkIn
import Derived.TacticsInMore
import Derived.LoopNIn
import Derived.LoopIn
import Derived.Maps.AppendAt
import Derived.Laws.BytesArg
import Derived.Deep.AppendLies
import Derived.Lib.ConvBytes
import Derived.Lib.AppendStr
import Derived.OwnWalk
import Derived.WalkMore
import Derived.ControlIn
import Derived.OpenShut
import Derived.StillTail
import Derived.OrdersHeld
import Derived.Laws.StructEq
import Derived.Laws.EntriesVeiled
import Derived.Deep.RegionHeld3
import Derived.Lib.SlBytesConst
import Derived.OneCell
set_option maxRecDepth 100000
namespace Go.Proofs.YtpdbkjnaicjfdaaGreatDoor
open Go.RowKit

/-- A list cut at a separator: each part with its place. -/
def cuts (sep : Int) : Nat → List Int → List (Nat × List Int)
  | o, [] => [(o, [])]
  | o, x :: r => if x = sep then (o, []) :: cuts sep (o + 1) r else
    match cuts sep (o + 1) r with
    | [] => []
    | (_, p) :: t => (o, x :: p) :: t

theorem cuts_head (sep : Int) : ∀ (l : List Int) (o : Nat), ∃ p t, cuts sep o l = (o, p) :: t
  | [], o => ⟨[], [], rfl⟩
  | x :: r, o => by
    unfold cuts
    split
    · exact ⟨_, _, rfl⟩
    · obtain ⟨p, t, h⟩ := cuts_head sep r (o + 1)
      rw [h]; exact ⟨_, _, rfl⟩

theorem cuts_cons_ne {sep x : Int} (h : x ≠ sep) (o : Nat) (r p : List Int) (t : List (Nat × List Int)) (e : cuts sep (o + 1) r = (o + 1, p) :: t) : cuts sep o (x :: r) = (o, x :: p) :: t := by
  rw [cuts, if_neg h, e]

theorem cuts_sep {sep : Int} : ∀ (p r : List Int) (o : Nat), sep ∉ p → cuts sep o (p ++ sep :: r) = (o, p) :: cuts sep (o + p.length + 1) r
  | [], r, o, _ => by simp [cuts]
  | x :: p, r, o, h => by
    have hx : x ≠ sep := fun e => h (by simp [e])
    have hp : sep ∉ p := fun e => h (by simp [e])
    rw [List.cons_append, cuts_cons_ne hx o _ p _ (cuts_sep p r (o + 1) hp)]
    rw [List.length_cons, show o + 1 + p.length + 1 = o + (p.length + 1) + 1 by omega]

theorem cuts_none {sep : Int} : ∀ (p : List Int) (o : Nat), sep ∉ p → cuts sep o p = [(o, p)]
  | [], o, _ => rfl
  | x :: p, o, h => by
    have hx : x ≠ sep := fun e => h (by simp [e])
    have hp : sep ∉ p := fun e => h (by simp [e])
    exact cuts_cons_ne hx o _ p _ (cuts_none p (o + 1) hp)

/-- Two texts, a separator between. -/
theorem cuts_app (sep : Int) : ∀ (a b : List Int) (o : Nat), cuts sep o (a ++ sep :: b) = cuts sep o a ++ cuts sep (o + a.length + 1) b
  | [], b, o => by simp [cuts]
  | x :: a, b, o => by
    have ih := cuts_app sep a b (o + 1)
    rw [show o + 1 + a.length + 1 = o + (a.length + 1) + 1 by omega] at ih
    rw [List.cons_append, List.length_cons]
    by_cases hx : x = sep
    · rw [cuts, if_pos hx, ih, cuts, if_pos hx, List.cons_append]
    · obtain ⟨p, t, hp⟩ := cuts_head sep a (o + 1)
      rw [hp, List.cons_append] at ih
      rw [cuts_cons_ne hx o _ p _ ih, cuts_cons_ne hx o _ p t hp, List.cons_append]

def shift (n : Nat) (x : Nat × List Int) : Nat × List Int := (x.1 + n, x.2)

theorem cuts_shift (sep : Int) (n : Nat) : ∀ (l : List Int) (o : Nat), cuts sep (o + n) l = (cuts sep o l).map (shift n)
  | [], o => rfl
  | x :: r, o => by
    have ih := cuts_shift sep n r (o + 1)
    rw [show o + 1 + n = o + n + 1 by omega] at ih
    by_cases hx : x = sep
    · rw [cuts, if_pos hx, cuts, if_pos hx, ih]; rfl
    · obtain ⟨p, t, hp⟩ := cuts_head sep r (o + 1)
      rw [hp, List.map_cons] at ih
      rw [cuts_cons_ne hx (o + n) r p (t.map (shift n)) (by rw [ih]; rw [show o + n + 1 = o + 1 + n by omega]; rfl), cuts_cons_ne hx o r p t hp]; rfl

theorem cuts_no_sep (sep : Int) : ∀ (l : List Int) (o : Nat) (x : Nat × List Int), x ∈ cuts sep o l → sep ∉ x.2
  | [], o, x, h => by simp [cuts] at h; subst h; simp
  | y :: r, o, x, h => by
    have ih := cuts_no_sep sep r (o + 1)
    by_cases hy : y = sep
    · rw [cuts, if_pos hy] at h
      rcases List.mem_cons.1 h with rfl | h
      · simp
      · exact ih x h
    · obtain ⟨p, t, hp⟩ := cuts_head sep r (o + 1)
      rw [hp] at ih
      rw [cuts_cons_ne hy o r p t hp] at h
      rcases List.mem_cons.1 h with rfl | h
      · have := ih _ List.mem_cons_self
        simp only [List.mem_cons, not_or]; exact ⟨fun e => hy e.symm, this⟩
      · exact ih x (List.mem_cons_of_mem _ h)

/-- Each part lies in the text, where it says. -/
theorem cuts_in (sep : Int) : ∀ (l : List Int) (o : Nat) (x : Nat × List Int), x ∈ cuts sep o l → ∃ a b, l = a ++ (x.2 ++ b) ∧ x.1 = o + a.length
  | [], o, x, h => by simp [cuts] at h; subst h; exact ⟨[], [], rfl, rfl⟩
  | y :: r, o, x, h => by
    have ih := cuts_in sep r (o + 1)
    by_cases hy : y = sep
    · rw [cuts, if_pos hy] at h
      rcases List.mem_cons.1 h with rfl | h
      · exact ⟨[], y :: r, rfl, rfl⟩
      · obtain ⟨a, b, e1, e2⟩ := ih x h
        exact ⟨y :: a, b, by rw [e1]; rfl, by rw [e2, List.length_cons]; omega⟩
    · obtain ⟨p, t, hp⟩ := cuts_head sep r (o + 1)
      rw [hp] at ih
      rw [cuts_cons_ne hy o r p t hp] at h
      rcases List.mem_cons.1 h with rfl | h
      · obtain ⟨a, b, e1, e2⟩ := ih _ List.mem_cons_self
        have : a = [] := List.eq_nil_of_length_eq_zero (by simp only at e2; omega)
        subst this
        exact ⟨[], b, by rw [e1]; rfl, rfl⟩
      · obtain ⟨a, b, e1, e2⟩ := ih x (List.mem_cons_of_mem _ h)
        exact ⟨y :: a, b, by rw [e1]; rfl, by rw [e2, List.length_cons]; omega⟩

theorem cuts_le {sep : Int} {l : List Int} {o : Nat} {x : Nat × List Int} (h : x ∈ cuts sep o l) : o ≤ x.1 ∧ x.1 + x.2.length ≤ o + l.length := by
  obtain ⟨a, b, e1, e2⟩ := cuts_in sep l o x h
  rw [e1]; simp; omega

theorem cuts_len (sep : Int) : ∀ (l : List Int) (o : Nat), (cuts sep o l).length ≤ l.length + 1
  | [], o => by simp [cuts]
  | y :: r, o => by
    have ih := cuts_len sep r (o + 1)
    by_cases hy : y = sep
    · rw [cuts, if_pos hy]; simp; omega
    · obtain ⟨p, t, hp⟩ := cuts_head sep r (o + 1)
      rw [hp] at ih
      rw [cuts_cons_ne hy o r p t hp]; simp at ih ⊢; omega

/-! ### Words, lines -/

/-- No byte of a word. -/
def bad (x : Int) : Bool := decide (x < 33) || decide (126 < x)

/-- The first byte of what should be a word that is none of a word's. -/
def fw (p : List Int) : Option Nat := if p = [] then some 0 else p.findIdx? bad

/-- firstWrong's number. -/
def fwI (p : List Int) : Int := match fw p with | none => -1 | some k => k

theorem fw_some {p : List Int} {k : Nat} (hk : k < p.length) (hb : bad p[k] = true) (h : ∀ j (hj : j < p.length), j < k → bad p[j] = false) : fw p = some k := by
  unfold fw
  rw [if_neg (fun e => by rw [e] at hk; simp at hk)]
  rw [List.findIdx?_eq_some_iff_getElem]
  exact ⟨hk, hb, fun j hj => by rw [h j (by omega) hj]; simp⟩

theorem fw_none {p : List Int} (hp : p ≠ []) (h : ∀ x ∈ p, bad x = false) : fw p = none := by
  unfold fw
  rw [if_neg hp]
  exact List.findIdx?_eq_none_iff.2 h

theorem fw_none_inv {p : List Int} (h : fw p = none) : p ≠ [] ∧ ∀ x ∈ p, bad x = false := by
  unfold fw at h
  split at h
  · cases h
  · rename_i hp
    exact ⟨hp, List.findIdx?_eq_none_iff.1 h⟩

theorem fw_nil : fw [] = some 0 := by simp [fw]

theorem fw_lt {p : List Int} {k : Nat} (h : fw p = some k) : k ≤ p.length := by
  unfold fw at h
  split at h
  · cases h; omega
  · rw [List.findIdx?_eq_some_iff_getElem] at h
    obtain ⟨h, _⟩ := h; omega

theorem fwI_none {p : List Int} (h : fw p = none) : fwI p = -1 := by simp [fwI, h]
theorem fwI_some {p : List Int} {k : Nat} (h : fw p = some k) : fwI p = k := by simp [fwI, h]

/-- Is a line passed over? -/
def over (p : List Int) : Bool := match p with | [] => true | x :: _ => x == 35

def wordF (x : Nat × List Int) : Option (Nat × Nat) := (fw x.2).map fun k => (5, x.1 + k)
def lineF (x : Nat × List Int) : Option (Nat × Nat) :=
  if 65536 < x.2.length then some (4, x.1) else if over x.2 then none else (cuts 32 x.1 x.2).findSome? wordF
def lineL (x : Nat × List Int) : Option (Nat × List (Nat × List Int)) :=
  if over x.2 then none else some (x.1, cuts 32 x.1 x.2)

theorem lineF_long {x : Nat × List Int} (h : 65536 < x.2.length) : lineF x = some (4, x.1) := by unfold lineF; rw [if_pos h]
theorem lineF_over {x : Nat × List Int} (h : ¬ 65536 < x.2.length) (ho : over x.2 = true) : lineF x = none := by unfold lineF; rw [if_neg h, if_pos ho]
theorem lineF_words {x : Nat × List Int} (h : ¬ 65536 < x.2.length) (ho : over x.2 = false) : lineF x = (cuts 32 x.1 x.2).findSome? wordF := by
  unfold lineF; rw [if_neg h, if_neg (by rw [ho]; decide)]
theorem lineL_over {x : Nat × List Int} (ho : over x.2 = true) : lineL x = none := by unfold lineL; rw [if_pos ho]
theorem lineL_words {x : Nat × List Int} (ho : over x.2 = false) : lineL x = some (x.1, cuts 32 x.1 x.2) := by unfold lineL; rw [if_neg (by rw [ho]; decide)]

theorem find_snoc {α β : Type} {f : α → Option β} {xs : List α} {y : α} (h : xs.findSome? f = none) : (xs ++ [y]).findSome? f = f y := by
  rw [List.findSome?_append, h]; simp [List.findSome?]; cases f y <;> rfl
theorem find_prefix {α β : Type} {f : α → Option β} {xs ys : List α} {z : β} (h : xs <+: ys) (hx : xs.findSome? f = some z) : ys.findSome? f = some z := by
  obtain ⟨t, rfl⟩ := h
  rw [List.findSome?_append, hx]; rfl
theorem keep_snoc {α β : Type} (f : α → Option β) (xs : List α) (y : α) : (xs ++ [y]).filterMap f = xs.filterMap f ++ (f y).toList := by
  rw [List.filterMap_append]; simp [List.filterMap]; cases f y <;> rfl
theorem cuts_at (sep : Int) (o : Nat) (l : List Int) : cuts sep o l = (cuts sep 0 l).map (shift o) := by
  have := cuts_shift sep o l 0
  rwa [Nat.zero_add] at this
theorem wordF_some {x : Nat × List Int} {k : Nat} (h : fw x.2 = some k) : wordF x = some (5, x.1 + k) := by unfold wordF; rw [h]; rfl
theorem wordF_none {x : Nat × List Int} (h : fw x.2 = none) : wordF x = none := by unfold wordF; rw [h]; rfl
theorem wordF_none_inv {x : Nat × List Int} (h : wordF x = none) : fw x.2 = none := by
  unfold wordF at h; cases e : fw x.2 with
  | none => rfl
  | some k => rw [e] at h; cases h

theorem wordF_five {x : Nat × List Int} {f : Nat × Nat} (h : wordF x = some f) : f.1 = 5 := by
  unfold wordF at h
  cases e : fw x.2 with
  | none => rw [e] at h; cases h
  | some k => rw [e] at h; cases h; rfl
theorem find_one {α β : Type} {f : α → Option β} {xs : List α} {z : β} (h : xs.findSome? f = some z) : ∃ x ∈ xs, f x = some z := by
  obtain ⟨a, x, b, rfl, hx, _⟩ := List.findSome?_eq_some_iff.1 h
  exact ⟨x, by simp, hx⟩
theorem lineF_not {x : Nat × List Int} {f : Nat × Nat} (h : lineF x = some f) : f.1 = 4 ∨ f.1 = 5 := by
  unfold lineF at h
  split at h
  · cases h; exact .inl rfl
  · split at h
    · cases h
    · obtain ⟨y, _, hy⟩ := find_one h
      exact .inr (wordF_five hy)

/-- The fault of a text, and its lines. -/
def textF (l : List Int) : Option (Nat × Nat) := if 67108864 < l.length then some (4, 67108864) else (cuts 10 0 l).findSome? lineF
def textL (l : List Int) : List (Nat × List (Nat × List Int)) := if textF l = none then (cuts 10 0 l).filterMap lineL else []
def textE (l : List Int) : Int := match textF l with | none => 0 | some x => (x.1 : Int)
def textP (l : List Int) : Int := match textF l with | none => 0 | some x => (x.2 : Int)
end Go.Proofs.YtpdbkjnaicjfdaaGreatDoor

namespace Go.Proofs.YtpdbkjnaicjfdaaGreatDoor
open Go.RowKit
set_option linter.unusedVariables false

/-- A slice's address A, of whatever capacity, reads as the bytes l (nil let in). -/
def Bytes (w : World) (A : Option Addr) (l : List Int) : Prop :=
  0 < l.length → ∃ b off, A = some ⟨b, off, none⟩ ∧ b < w.heap.size ∧ ∀ j, j < l.length → w.cell? ⟨b, off + j, none⟩ = some (.int .u8 (l[j]?.getD 0))

theorem Bytes.below {B : Nat} {w w' : World} {A : Option Addr} {l : List Int} (h : Bytes w A l) (hb : Below w.heap.size w w') : Bytes w' A l := fun hl => by
  obtain ⟨b, off, e, hlt, hc⟩ := h hl
  exact ⟨b, off, e, Nat.lt_of_lt_of_le hlt hb.size, fun j hj => (hb.cell (p := ⟨b, off + j, none⟩) hlt).trans (hc j hj)⟩

/-- Bytes that lie below B lie on wherever what lay below B lies on. -/
def BytesB (B : Nat) (w : World) (A : Option Addr) (l : List Int) : Prop :=
  0 < l.length → ∃ b off, A = some ⟨b, off, none⟩ ∧ b < B ∧ ∀ j, j < l.length → w.cell? ⟨b, off + j, none⟩ = some (.int .u8 (l[j]?.getD 0))

theorem BytesB.below {B : Nat} {w w' : World} {A : Option Addr} {l : List Int} (h : BytesB B w A l) (hb : Below B w w') : BytesB B w' A l := fun hl => by
  obtain ⟨b, off, e, hlt, hc⟩ := h hl
  exact ⟨b, off, e, hlt, fun j hj => (hb.cell (p := ⟨b, off + j, none⟩) hlt).trans (hc j hj)⟩

theorem BytesB.mono {B B' : Nat} {w : World} {A : Option Addr} {l : List Int} (h : BytesB B w A l) (hb : B ≤ B') : BytesB B' w A l := fun hl => by
  obtain ⟨b, off, e, hlt, hc⟩ := h hl
  exact ⟨b, off, e, by omega, hc⟩

theorem Bytes.b {w : World} {A : Option Addr} {l : List Int} (h : Bytes w A l) : BytesB w.heap.size w A l := h

def Octets (l : List Int) : Prop := ∀ x ∈ l, 0 ≤ x ∧ x ≤ 255

theorem octet_at {l : List Int} (h : Octets l) (k : Nat) (hk : k < l.length) : 0 ≤ l[k]?.getD 0 ∧ l[k]?.getD 0 ≤ 255 := by
  rw [List.getElem?_eq_getElem hk]; exact h _ (List.getElem_mem hk)

set_option maxHeartbeats 400000 in
theorem over_any (A : Option Addr) (c : Nat) (l : List Int) (w : World) (B : Nat) (hA : BytesB B w A l) (hm : l.length ≤ maxLen) :
    Calls Tryz.prog 80 #[.slice A l.length c] w fun e w' => e = .returned (.bool (over l)) ∧ w = w' := by
  unfold maxLen at hm
  cases l with
  | nil =>
    go_enter Tryz.func80, Tryz.ntmps80
    go_wp2
    go_ret
    exact ⟨rfl, rfl⟩
  | cons x r =>
    obtain ⟨b, off, rfl, hb, hc⟩ := hA (by simp)
    have hc0 := hc 0 (by simp)
    simp only [Nat.add_zero, List.getElem?_cons_zero, Option.getD_some] at hc0
    clear hc hA
    rw [List.length_cons] at hm ⊢
    have hz : (((r.length + 1 : Nat) : Int) == 0) = false := beq_eq_false_iff_ne.2 (by omega)
    obtain ⟨v, hv⟩ : ∃ v, (x == 35) = v := ⟨_, rfl⟩
    have HV := Lib.hid hv
    go_enter Tryz.func80, Tryz.ntmps80
    go_wp2
    go_ret
    exact ⟨by rw [← HV.out]; rfl, rfl⟩

set_option maxHeartbeats 1000000 in
theorem wrong_any (A : Option Addr) (c : Nat) (l : List Int) (w : World) (B : Nat) (hA : BytesB B w A l) (ho : Octets l) (hm : l.length ≤ maxLen) :
    Calls Tryz.prog 81 #[.slice A l.length c] w fun e w' => e = .returned (.int .i64 (fwI l)) ∧ w = w' := by
  unfold maxLen at hm
  go_enter Tryz.func81, Tryz.ntmps81
  go_wp2
  go_loop [3, 4, 7, 8, 9, 10, 11, 12, 13, 14, 15, 16, 17, 18, 19] (fun s3 s4 i s8 s9 s10 s11 s12 s13 s14 s15 s16 s17 s18 s19 => ∃ k : Nat, k ≤ l.length ∧ i = .int .i64 k ∧ ∀ j (hj : j < l.length), j < k → bad l[j] = false) (fun s3 s4 i s8 s9 s10 s11 s12 s13 s14 s15 s16 s17 s18 s19 => l.length - (intOf i).toNat)
  case atStart => exact ⟨0, Nat.zero_le _, rfl, fun j _ hj => absurd hj (by omega)⟩
  case round =>
    obtain ⟨k, hk, rfl, hq⟩ := hrel
    have HQ := Lib.hid hq
    clear hq
    by_cases hlt : k < l.length
    · obtain ⟨b, off, rfl, hb, hc⟩ := hA (by omega)
      have hck := hc k hlt
      obtain ⟨o1, o2⟩ := octet_at ho k hlt
      have hx' : l[k]?.getD 0 = l[k] := by rw [List.getElem?_eq_getElem hlt]; rfl
      have HX := Lib.hid hx'
      generalize l[k]?.getD 0 = x at *
      clear hc hx' hA
      have hlt' : decide ((k : Int) < l.length) = true := decide_eq_true (by omega)
      by_cases h33 : x < 33
      · have HB := Lib.hid (fw_some hlt (by rw [← HX.out]; simp [bad, h33]) HQ.out)
        have hd : decide (x < 33) = true := decide_eq_true h33
        go_wp2
        go_ret
        exact ⟨ret_int (fwI_some HB.out).symm, rfl⟩
      · have hd : decide (x < 33) = false := decide_eq_false h33
        by_cases h126 : 126 < x
        · have HB := Lib.hid (fw_some hlt (by rw [← HX.out]; simp [bad, h126]) HQ.out)
          have hd2 : decide (126 < x) = true := decide_eq_true h126
          go_wp2
          go_ret
          exact ⟨ret_int (fwI_some HB.out).symm, rfl⟩
        · have hd2 : decide (126 < x) = false := decide_eq_false h126
          have HB : Hid (bad l[k] = false) := Lib.hid (by rw [← HX.out]; simp [bad]; omega)
          go_wp2
          go_roundw
          case rel =>
            refine ⟨k + 1, by omega, by go_num, fun j hj hj' => ?_⟩
            by_cases e : j = k
            · subst e; exact HB.out
            · exact HQ.out j hj (by omega)
          case measure => simp [intOf]; omega
    · have hd : decide ((k : Int) < l.length) = false := decide_eq_false (by omega)
      by_cases h0 : l.length = 0
      · have e : l = [] := List.eq_nil_of_length_eq_zero h0
        subst e
        go_wp2
        go_ret
        exact ⟨rfl, rfl⟩
      · have HN : Hid (fwI l = -1) := Lib.hid (fwI_none (fw_none (fun e => h0 (by rw [e]; rfl)) (fun x hx => by
          obtain ⟨j, hj, rfl⟩ := List.mem_iff_getElem.1 hx
          exact HQ.out j hj (by omega))))
        have hz : ((l.length : Int) == 0) = false := beq_eq_false_iff_ne.2 (by omega)
        go_wp2
        go_ret
        exact ⟨ret_int HN.out.symm, rfl⟩
end Go.Proofs.YtpdbkjnaicjfdaaGreatDoor

namespace Go.Proofs.YtpdbkjnaicjfdaaGreatDoor
open Go.RowKit Go.Shelf
set_option linter.unusedVariables false

attribute [local go_sem] Oper.semAt_some

/-- A part of the bytes at A: where it begins, its bytes, and the slice that is told. -/
structure Piece (A : Option Addr) (bs : List Int) where
  f : Nat
  p : List Int
  a : Option Addr
  k : Nat
  inn : ∃ u v, bs = u ++ (p ++ v) ∧ f = u.length
  addr : 0 < p.length → ∃ b off, A = some ⟨b, off, none⟩ ∧ a = some ⟨b, off + f, none⟩
  cap : p.length ≤ k

def Piece.pr {A : Option Addr} {bs : List Int} (x : Piece A bs) : Nat × List Int := (x.f, x.p)
def Piece.enc {A : Option Addr} {bs : List Int} (x : Piece A bs) : Array Value := #[.int .i64 (x.f : Int), .slice x.a x.p.length x.k]

theorem Piece.len {A : Option Addr} {bs : List Int} (x : Piece A bs) : x.f + x.p.length ≤ bs.length := by
  obtain ⟨u, v, e1, e2⟩ := x.inn
  have := congrArg List.length e1
  simp at this; omega

theorem Piece.bytes {B : Nat} {w : World} {A : Option Addr} {bs : List Int} (x : Piece A bs) (h : BytesB B w A bs) : BytesB B w x.a x.p := fun hl => by
  obtain ⟨b, off, e, ea⟩ := x.addr hl
  have hlen := x.len
  obtain ⟨b', off', e', hlt, hc⟩ := h (by omega)
  rw [e] at e'
  cases e'
  refine ⟨b, off + x.f, ea, hlt, fun j hj => ?_⟩
  rw [Nat.add_assoc, hc (x.f + j) (by omega)]
  obtain ⟨u, v, e1, e2⟩ := x.inn
  have e3 : bs[x.f + j]? = x.p[j]? := by
    have this : bs[x.f + j]? = (u ++ (x.p ++ v))[x.f + j]? := congrArg (fun z => z[x.f + j]?) e1
    rw [this, List.getElem?_append_right (by omega), e2, Nat.add_sub_cancel_left, List.getElem?_append_left hj]
  rw [e3]

theorem Piece.octets {A : Option Addr} {bs : List Int} (x : Piece A bs) (h : Octets bs) : Octets x.p := fun y hy => by
  obtain ⟨u, v, e1, _⟩ := x.inn
  exact h y (by rw [e1]; simp [hy])

/-- What a round of a loop over cut keeps: all below n₀, and cut's two boxes. -/
structure KeptB (n₀ B1 B2 : Nat) (W W' : World) : Prop where
  below : Below n₀ W W'
  b1 : W'.heap[B1]? = W.heap[B1]?
  b2 : W'.heap[B2]? = W.heap[B2]?

theorem KeptB.refl (n₀ B1 B2 : Nat) (W : World) : KeptB n₀ B1 B2 W W := ⟨Below.refl _ _, rfl, rfl⟩
theorem KeptB.trans {n₀ B1 B2 : Nat} {a b c : World} (h : KeptB n₀ B1 B2 a b) (k : KeptB n₀ B1 B2 b c) : KeptB n₀ B1 B2 a c := ⟨h.below.trans k.below, k.b1.trans h.b1, k.b2.trans h.b2⟩
theorem KeptB.alloc (n₀ B1 B2 : Nat) (W : World) (o : Obj) (h0 : n₀ ≤ W.heap.size) (h1 : B1 < W.heap.size) (h2 : B2 < W.heap.size) : KeptB n₀ B1 B2 W (W.alloc o) :=
  ⟨(Below.refl _ W).alloc h0 o, Below.heap_alloc W o B1 h1, Below.heap_alloc W o B2 h2⟩
theorem KeptB.put {n₀ B1 B2 : Nat} {w : World} (h0 : n₀ ≤ w.heap.size) (h1 : B1 < w.heap.size) (h2 : B2 < w.heap.size) (W : World) (l : Nat) (o o' : Obj) (hl : w.heap.size ≤ l) (h : W.heap[l]? = some o) (hc : o.isCells = false) (hw : o.isWalk = false) : KeptB n₀ B1 B2 W (W.putObj l o') :=
  ⟨belowK_b (w := w) h0 W l o o' hl h hc hw, World.putObj_heap_other (by omega), World.putObj_heap_other (by omega)⟩
theorem KeptB.of_below {n n₀ B1 B2 : Nat} {W W' : World} (h : Below n W W') (h0 : n₀ ≤ n) (h1 : B1 < n) (h2 : B2 < n) : KeptB n₀ B1 B2 W W' := ⟨h.mono h0, h.block _ h1, h.block _ h2⟩
theorem KeptB.set (n₀ B1 B2 : Nat) (W : World) (p : Addr) (v : Value) (h0 : n₀ ≤ p.block) (h1 : B1 ≠ p.block) (h2 : B2 ≠ p.block) : KeptB n₀ B1 B2 W (W.setCell p v) :=
  ⟨(Below.refl _ W).setCell h0 v, Below.heap_setCell _ _ _ _ h1, Below.heap_setCell _ _ _ _ h2⟩

theorem cell_of_heap {W W' : World} {B : Nat} {o : Nat} {v : Value} (h : W'.heap[B]? = W.heap[B]?) (hc : W.cell? ⟨B, o, none⟩ = some v) : W'.cell? ⟨B, o, none⟩ = some v :=
  (World.cell?_of_block (a := ⟨B, o, none⟩) h).trans hc

set_option maxHeartbeats 1000000 in
theorem cut_in (F : Fence) (n : Nat) (h21 : F.fn 79) (hro : F.round = none) (A : Option Addr) (m c : Nat) (sep : Int) (w : World) :
    CallsIn F n Tryz.prog 79 #[.slice A m c, .int .u8 sep] w fun e w' => e = .returned (.func (.func 101) #[] #[.pointer (some ⟨w.heap.size, 0, none⟩), .pointer (some ⟨w.heap.size + 1, 0, none⟩)]) ∧ w' = (w.alloc (.cells #[.slice A m c] 78)).alloc (.cells #[.int .u8 sep] 5) := by
  refine callsIn_of_wp Tryz.func79 rfl h21 ?_ hro
  simp only [Tryz.ntmps79, List.size_toArray, List.length_cons, List.length_nil, Nat.reduceAdd, Nat.reduceSub, Array.replicate_succ, Array.replicate_zero, List.push_toArray, List.append_toArray, List.nil_append, List.cons_append]
  gi_wp2
  go_ret
  exact ⟨rfl, rfl⟩

theorem sub_addr (A : Option Addr) (c f : Nat) (bs p v u : List Int) (W : World) (n₀ : Nat) (hA : BytesB n₀ W A bs) (hc : bs.length ≤ c) (e : bs = u ++ (p ++ v)) (hf : f = u.length) (hp : 0 < p.length) :
    ∃ b off, A = some ⟨b, off, none⟩ ∧ (if c = f then A else A.map (·.add f)) = some ⟨b, off + f, none⟩ := by
  have hl : 0 < bs.length := by rw [e]; simp; omega
  obtain ⟨b, off, rfl, _, _⟩ := hA hl
  refine ⟨b, off, rfl, ?_⟩
  have : c ≠ f := by
    have : bs.length = u.length + (p.length + v.length) := by rw [e]; simp
    omega
  rw [if_neg this]
  simp [Addr.add]

set_option maxRecDepth 100000 in
set_option maxHeartbeats 1000000 in
theorem cut1_in (F : Fence) (n : Nat) (h28 : F.fn 101) (hro : F.round = none) (hn : 1 ≤ n) (l Bb Bs n₀ : Nat) (A : Option Addr) (c : Nat) (bs : List Int) (sep : Int) (hc : bs.length ≤ c) (hm : bs.length ≤ maxLen)
    (J Jx : List (Piece A bs) → World → Prop)
    (hY : ∀ pre x W, J pre W → pre.length < (cuts sep 0 bs).length → YieldAt F (n - 1) Tryz.prog l (Piece.enc x) W fun e W' =>
      (e = .returned (.bool true) ∧ J (pre ++ [x]) W' ∧ KeptB n₀ Bb Bs W W') ∨ (e = .returned (.bool false) ∧ Jx (pre ++ [x]) W'))
    (W : World) (hBb : W.cell? ⟨Bb, 0, none⟩ = some (.slice A bs.length c)) (hBs : W.cell? ⟨Bs, 0, none⟩ = some (.int .u8 sep)) (hA : BytesB n₀ W A bs) (h0 : J [] W) :
    CallsIn F n Tryz.prog 101 #[.func (.yield l) #[] #[], .pointer (some ⟨Bb, 0, none⟩), .pointer (some ⟨Bs, 0, none⟩)] W fun e W' => (∃ v, e = .returned v) ∧
      ((∃ ys, ys.map Piece.pr = cuts sep 0 bs ∧ J ys W') ∨ (∃ pre, pre.map Piece.pr <+: cuts sep 0 bs ∧ Jx pre W')) := by
  unfold maxLen at hm
  refine callsIn_of_wp Tryz.func101 rfl h28 ?_ hro
  simp only [Tryz.ntmps101, List.size_toArray, List.length_cons, List.length_nil, Nat.reduceAdd, Nat.reduceSub, Array.replicate_succ, Array.replicate_zero, List.push_toArray, List.append_toArray, List.nil_append, List.cons_append]
  gi_wp2
  gi_loopw [4, 9] (fun s4 i wr => ∃ (pre : List (Piece A bs)) (u p r : List Int) (f k : Nat), s4 = .int .i64 f ∧ i = .int .i64 k ∧ f = u.length ∧ k = f + p.length ∧ bs = u ++ (p ++ r) ∧ sep ∉ p ∧ cuts sep 0 bs = pre.map Piece.pr ++ cuts sep f (p ++ r) ∧ J pre wr ∧ KeptB n₀ Bb Bs W wr) (fun s4 i wr => bs.length - (intOf i).toNat)
  case atStart => exact ⟨[], [], [], bs, 0, 0, rfl, rfl, rfl, rfl, rfl, by simp, rfl, h0, KeptB.refl _ _ _ _⟩
  case round =>
    obtain ⟨pre, u, p, r, f, k, rfl, rfl, hfu, hkf, hbs, hsep, hcut, hJs, hkp⟩ := hrel
    have cB := cell_of_heap hkp.b1 hBb
    have cS := cell_of_heap hkp.b2 hBs
    have hlen : bs.length = u.length + p.length + r.length := by rw [hbs]; simp; omega
    cases r with
    | nil =>
      rw [List.append_nil] at hcut
      rw [cuts_none p _ hsep] at hcut
      simp at hlen
      have hp : p.length = bs.length - f := by omega
      obtain ⟨x, hxe, hxp⟩ : ∃ x : Piece A bs, x.enc = #[.int .i64 (f : Int), .slice (if c = f then A else A.map (·.add f)) (bs.length - f) (c - f)] ∧ x.pr = (f, p) :=
        ⟨⟨f, p, if c = f then A else A.map (·.add f), c - f, ⟨u, [], hbs, hfu⟩, sub_addr A c _ bs p [] u W n₀ hA hc hbs hfu, by omega⟩, by rw [← hp]; rfl, rfl⟩
      have hYx := hY pre x wr hJs (by rw [hcut]; simp)
      rw [hxe] at hYx
      obtain ⟨fn, tmps, assign, body, hy, hR⟩ := hYx
      have HC := Lib.hid hcut
      have HX := Lib.hid hxp
      have l1 : f ≤ bs.length := by omega
      have hd : decide (k < bs.length) = false := decide_eq_false (by omega)
      clear hcut hsep hbs hlen hkp hkf hfu hp hxe hxp
      gi_wp2
      all_goals
        refine hR.mono ?_
        rintro e W3 (⟨rfl, hJ3, hk3⟩ | ⟨rfl, hJx3⟩)
        · gi_wp2
          go_end0
          exact ⟨⟨_, rfl⟩, .inl ⟨_, by rw [List.map_append, List.map_cons, List.map_nil, HX.out]; exact HC.out.symm, hJ3⟩⟩
        · gi_wp2
          go_end0
          exact ⟨⟨_, rfl⟩, .inr ⟨_, by rw [List.map_append, List.map_cons, List.map_nil, HX.out, HC.out]; exact List.prefix_refl _, hJx3⟩⟩
    | cons y r =>
      have hlk : k < bs.length := by simp at hlen; omega
      obtain ⟨b, off, rfl, hb, hcs⟩ := hA (by omega)
      have hck := (hkp.below.cell (p := ⟨b, off + k, none⟩) hb).trans (hcs k hlk)
      have hy0 : bs[k]?.getD 0 = y := by
        rw [hbs, List.getElem?_append_right (by omega), List.getElem?_append_right (by omega), show k - u.length - p.length = 0 by omega]; rfl
      rw [hy0] at hck
      have HBS := Lib.hid hbs
      have HLE := Lib.hid hlen
      have HKP := Lib.hid hkp
      have HKF := Lib.hid hkf
      have HFU := Lib.hid hfu
      have HSP := Lib.hid hsep
      have HCT := Lib.hid hcut
      by_cases hys : y = sep
      · subst hys
        rw [cuts_sep p r _ hsep] at hcut
        have hp : p.length = k - f := by omega
        obtain ⟨x, hxe, hxp⟩ : ∃ x : Piece (some ⟨b, off, none⟩) bs, x.enc = #[.int .i64 (f : Int), .slice (some ⟨b, off + f, none⟩) (k - f) (c - f)] ∧ x.pr = (f, p) :=
          ⟨⟨f, p, some ⟨b, off + f, none⟩, c - f, ⟨u, y :: r, hbs, hfu⟩, fun _ => ⟨b, off, rfl, rfl⟩, by omega⟩, by rw [← hp]; rfl, rfl⟩
        have hYx := hY pre x wr hJs (by rw [hcut]; simp)
        rw [hxe] at hYx
        obtain ⟨fn, tmps, assign, body, hy, hR⟩ := hYx
        have HC := Lib.hid hcut
        have HX := Lib.hid hxp
        have l1 : f ≤ k := by omega
        have l2 : k ≤ c := by omega
        have hyy : (y == y) = true := by simp
        clear hcut hsep hbs hlen hkp hkf hfu hp hxe hxp hcs hy0
        gi_wp2
        refine hR.mono ?_
        rintro e W3 (⟨rfl, hJ3, hk3⟩ | ⟨rfl, hJx3⟩)
        · gi_wp2
          go_roundw
          case rel =>
            refine ⟨pre ++ [x], u ++ p ++ [y], [], r, k + 1, k + 1, by go_num, by go_num, ?_, rfl, ?_, by simp, ?_, hJ3, HKP.out.trans hk3⟩
            · have := HKF.out; have := HFU.out; simp; omega
            · rw [HBS.out]; simp
            · rw [HC.out, List.map_append, List.map_cons, List.map_nil, HX.out, HKF.out]; simp
          case measure => simp [intOf]; omega
        · gi_wp2
          refine bodyPost_ret (results_none rfl _ _ _) rfl ?_
          exact ⟨⟨_, rfl⟩, .inr ⟨_, by rw [List.map_append, List.map_cons, List.map_nil, HX.out, HC.out]; exact ⟨_, by rw [List.append_assoc]; rfl⟩, hJx3⟩⟩
      · have hyy : (y == sep) = false := beq_eq_false_iff_ne.2 hys
        clear hcut hsep hbs hlen hkp hkf hfu hcs hy0
        gi_wp2
        go_roundw
        case rel =>
          refine ⟨pre, u, p ++ [y], r, f, k + 1, rfl, by go_num, HFU.out, ?_, ?_, ?_, ?_, hJs, HKP.out⟩
          · have := HKF.out; simp; omega
          · rw [HBS.out]; simp
          · have := HSP.out; simp [this]; exact fun e => hys e.symm
          · rw [HCT.out]; simp
        case measure => simp [intOf]; omega

/-- cut hands back a value that goes through all parts, in their order. -/
theorem cut_stops (F : Fence) (n : Nat) (h28 : F.fn 101) (hro : F.round = none) (hn : 1 ≤ n) (Bb Bs n₀ : Nat) (A : Option Addr) (c : Nat) (bs : List Int) (sep : Int) (hc : bs.length ≤ c) (hm : bs.length ≤ maxLen) (w : World)
    (hBb : Bb < w.heap.size) (hBs : Bs < w.heap.size) (hn₀ : n₀ ≤ w.heap.size) (cBb : w.cell? ⟨Bb, 0, none⟩ = some (.slice A bs.length c)) (cBs : w.cell? ⟨Bs, 0, none⟩ = some (.int .u8 sep)) (hA : BytesB n₀ w A bs) :
    SeqStopsK F n Tryz.prog 101 #[.pointer (some ⟨Bb, 0, none⟩), .pointer (some ⟨Bs, 0, none⟩)] (Piece.enc (A := A) (bs := bs)) (KeptB n₀ Bb Bs) (fun ys => ys.map Piece.pr = cuts sep 0 bs) (fun pre => pre.map Piece.pr <+: cuts sep 0 bs) (cuts sep 0 bs).length w := fun l J Jx W hW _ _ hY h0 =>
  cut1_in F n h28 hro hn l Bb Bs n₀ A c bs sep hc hm J Jx hY W ((hW.cell (p := ⟨Bb, 0, none⟩) hBb).trans cBb) ((hW.cell (p := ⟨Bs, 0, none⟩) hBs).trans cBs) (hA.below (hW.mono hn₀)) h0
end Go.Proofs.YtpdbkjnaicjfdaaGreatDoor

namespace Go.Proofs.YtpdbkjnaicjfdaaGreatDoor
open Go.RowKit Go.Shelf
set_option linter.unusedVariables false

abbrev Wd := Nat × List Int
abbrev Ln := Nat × List Wd

/-- Block B holds two cells. -/
def Pair2 (W : World) (B : Nat) (t : TypeId) (a b : Value) : Prop := W.heap[B]? = some (.cells #[a, b] t (0, 0))
theorem Pair2.lt {W : World} {B : Nat} {t : TypeId} {a b : Value} (h : Pair2 W B t a b) : B < W.heap.size := (Array.getElem?_eq_some_iff.1 h).1
theorem Pair2.c0 {W : World} {B : Nat} {t : TypeId} {a b : Value} (h : Pair2 W B t a b) : W.cell? ⟨B, 0, none⟩ = some a := by simp [World.cell?, show W.heap[B]? = _ from h]
theorem Pair2.c1 {W : World} {B : Nat} {t : TypeId} {a b : Value} (h : Pair2 W B t a b) : W.cell? ⟨B, 1, none⟩ = some b := by simp [World.cell?, show W.heap[B]? = _ from h]
theorem Pair2.frozen {W : World} {B : Nat} {t : TypeId} {a b : Value} (h : Pair2 W B t a b) (j : Nat) : W.frozen? ⟨B, j, none⟩ = false := by simp [World.frozen?, show W.heap[B]? = _ from h]
theorem Pair2.new (W : World) (t : TypeId) (a b : Value) : Pair2 (W.alloc (.cells #[a, b] t)) W.heap.size t a b := World.alloc_heap_new W _
theorem Pair2.alloc {W : World} {B : Nat} {t : TypeId} {a b : Value} (h : Pair2 W B t a b) (o : Obj) : Pair2 (W.alloc o) B t a b := (Below.heap_alloc W o B h.lt).trans h
theorem Pair2.of {W W' : World} {B : Nat} {t : TypeId} {a b : Value} (h : Pair2 W B t a b) (e : W'.heap[B]? = W.heap[B]?) : Pair2 W' B t a b := e.trans h
theorem Pair2.other {W : World} {B : Nat} {t : TypeId} {a b : Value} (h : Pair2 W B t a b) (p : Addr) (hne : B ≠ p.block) (u : Value) : Pair2 (W.setCell p u) B t a b := (Below.heap_setCell _ _ _ _ hne).trans h
theorem Pair2.set {W : World} {B : Nat} {t : TypeId} {a b : Value} (h : Pair2 W B t a b) (a' b' : Value) : Pair2 ((W.setCell ⟨B, 0, none⟩ a').setCell ⟨B, 1, none⟩ b') B t a' b' := by
  have h1 : (W.setCell ⟨B, 0, none⟩ a').heap[B]? = some (.cells (#[a, b].setIfInBounds 0 a') t (0, 0)) := heap_setCell_same W B 0 #[a, b] t a' h
  exact heap_setCell_same _ B 1 _ t b' h1
theorem pair2_own {β : Type} (B : Nat) (t : TypeId) (f g : β → Value) : Own (fun s W => Pair2 W B t (f s) (g s)) := fun s X Y row hs hg hrow =>
  hs.of (hg.block B hs.lt (fun e => by obtain ⟨o, ho, hc⟩ := hrow B e.symm; rw [show X.heap[B]? = _ from hs] at ho; cases ho; cases hc))

theorem boxed_of {W W' : World} {B : Nat} {t : TypeId} {v : Value} (h : Boxed W B t v) (e : W'.heap[B]? = W.heap[B]?) : Boxed W' B t v := e.trans h

theorem conv_some (B : Nat) (W : World) (A : Option Addr) (c : Nat) (l : List Int) (h : BytesB B W A l) (hl : l ≠ []) : (convert 78 9 (.slice A l.length c)).run Tryz.prog W = .ok (.string (strOfNums l)) W := by
  obtain ⟨b, off, rfl, _, hc⟩ := h (List.length_pos_iff.2 hl)
  refine run_convert_bytes_arg (P := Tryz.prog) W 78 5 Tryz.underlying78 Tryz.underlying5 b off l.length c l rfl (fun i hi => ?_) 9 Tryz.underlying9
  rw [hc i hi, List.getD]

/-! ### Rows -/

def wordCells (ws : List Wd) : List Value := ws.flatMap fun x => [.string (strOfNums x.2), .int .i64 x.1]
def lineCells (zs : List (Ln × Value)) : List Value := zs.flatMap fun z => [.int .i64 z.1.1, z.2]

theorem wordCells_snoc (ws : List Wd) (x : Wd) : wordCells (ws ++ [x]) = wordCells ws ++ [.string (strOfNums x.2), .int .i64 x.1] := by simp [wordCells]
theorem lineCells_snoc (zs : List (Ln × Value)) (z : Ln × Value) : lineCells (zs ++ [z]) = lineCells zs ++ [.int .i64 z.1.1, z.2] := by simp [lineCells]

theorem row_below {W W' : World} {base : Nat} {e : TypeId} {size : Nat} {v : Value} {n : Nat} {xs : List Value} (h : W.ownsRow base e size v n xs) (hb : Below W.heap.size W W') : W'.ownsRow base e size v n xs :=
  h.kept (row := none) ⟨hb.os, hb.tape, hb.output, hb.size, fun k hk _ => hb.block k hk⟩ (by
    rcases h.2 with ⟨rfl, _⟩ | ⟨g, cap, cur, rfl, _⟩
    · exact .inl rfl
    · exact .inr (by simp [Value.ownBlock]))

theorem row_mono {W : World} {base base' : Nat} {e : TypeId} {size : Nat} {v : Value} {n : Nat} {xs : List Value} (h : W.ownsRow base e size v n xs) (hb : base' ≤ base) : W.ownsRow base' e size v n xs := by
  refine ⟨h.1, ?_⟩
  rcases h.2 with h' | ⟨g, cap, cur, h1, h2, h3⟩
  · exact .inl h'
  · exact .inr ⟨g, cap, cur, h1, by omega, h3⟩

theorem row_apart {W : World} {base base' : Nat} {e e' : TypeId} {size size' : Nat} {v v' : Value} {n n' : Nat} {xs xs' : List Value} (h : W.ownsRow base e size v n xs) (h' : W.ownsRow base' e' size' v' n' xs') (hne : e ≠ e') :
    v.ownBlock = none ∨ v.ownBlock ≠ v'.ownBlock := by
  rcases h.2 with ⟨rfl, _⟩ | ⟨g, cap, cur, rfl, _, hg, _⟩
  · exact .inl rfl
  · refine .inr fun eq => ?_
    rcases h'.2 with ⟨rfl, _⟩ | ⟨g', cap', cur', rfl, _, hg', _⟩
    · simp [Value.ownBlock] at eq
    · obtain rfl : g = g' := by simpa [Value.ownBlock] using eq
      rw [hg] at hg'; simp at hg'; exact hne hg'.2

theorem row_box {W : World} {base : Nat} {e t : TypeId} {size : Nat} {v u : Value} {n : Nat} {xs : List Value} {B : Nat} (h : W.ownsRow base e size v n xs) (hB : Boxed W B t u) (hne : t ≠ e) : v.ownBlock = none ∨ v.ownBlock ≠ some B := .inr (hB.not_row hne h).symm

theorem row_one {W : World} {base : Nat} {e : TypeId} {size : Nat} {v : Value} {n : Nat} {xs : List Value} (h : W.ownsRow base e size v n xs) : ∃ A c, v = .slice A n c := by
  rcases h.2 with ⟨rfl, rfl⟩ | ⟨g, cap, cur, rfl, _⟩
  · exact ⟨_, _, rfl⟩
  · exact ⟨_, _, rfl⟩

/-- Rows of words, one a line. -/
def WRows (W : World) (base : Nat) (zs : List (Ln × Value)) : Prop := ∀ z ∈ zs, W.ownsRow base 144 2 z.2 z.1.2.length (wordCells z.1.2)

theorem WRows.kept {W W' : World} {base : Nat} {zs : List (Ln × Value)} {row : Option Nat} (h : WRows W base zs) (hg : W.grownBy W' row) (hne : ∀ z ∈ zs, z.2.ownBlock = none ∨ z.2.ownBlock ≠ row) : WRows W' base zs :=
  fun z hz => (h z hz).kept hg (hne z hz)
theorem WRows.below {W W' : World} {base : Nat} {zs : List (Ln × Value)} (h : WRows W base zs) (hb : Below W.heap.size W W') : WRows W' base zs := fun z hz => row_below (h z hz) hb
theorem WRows.alloc {W : World} {base : Nat} {zs : List (Ln × Value)} (h : WRows W base zs) (o : Obj) : WRows (W.alloc o) base zs := fun z hz => (h z hz).alloc o

/-- A slice of lines of its own. -/
def OwnLines (W : World) (base : Nat) (v : Value) (ls : List Ln) : Prop :=
  ∃ zs : List (Ln × Value), zs.map Prod.fst = ls ∧ W.ownsRow base 121 2 v zs.length (lineCells zs) ∧ WRows W base zs

theorem OwnLines.below {W W' : World} {base : Nat} {v : Value} {ls : List Ln} (h : OwnLines W base v ls) (hb : Below W.heap.size W W') : OwnLines W' base v ls := by
  obtain ⟨zs, h1, h2, h3⟩ := h
  exact ⟨zs, h1, row_below h2 hb, h3.below hb⟩
theorem OwnLines.mono {W : World} {base base' : Nat} {v : Value} {ls : List Ln} (h : OwnLines W base v ls) (hb : base' ≤ base) : OwnLines W base' v ls := by
  obtain ⟨zs, h1, h2, h3⟩ := h
  exact ⟨zs, h1, row_mono h2 hb, fun z hz => row_mono (h3 z hz) hb⟩
theorem OwnLines.nil (W : World) (base : Nat) : OwnLines W base (.slice none 0 0) [] := ⟨[], rfl, World.ownsRow_nil _ _ _ _, fun z hz => by cases hz⟩
theorem OwnLines.kept {W W' : World} {base : Nat} {v : Value} {ls : List Ln} {row : Option Nat} (h : OwnLines W base v ls) (hg : W.grownBy W' row)
    (hrow : ∀ r, row = some r → ∃ o : Obj, W.heap[r]? = some o ∧ ∀ cs, o ≠ .cells cs 121 (0, 0) ∧ o ≠ .cells cs 144 (0, 0)) : OwnLines W' base v ls := by
  obtain ⟨zs, h1, h2, h3⟩ := h
  refine ⟨zs, h1, h2.kept hg ?_, h3.kept hg fun z hz => ?_⟩
  · rcases h2.2 with ⟨rfl, _⟩ | ⟨g, cap, cur, rfl, _, hgb, _⟩
    · exact .inl rfl
    · refine .inr fun e => ?_
      obtain ⟨o, ho, hc⟩ := hrow g (by simpa [Value.ownBlock] using e.symm)
      rw [hgb] at ho; cases ho; exact (hc cur).1 rfl
  · rcases (h3 z hz).2 with ⟨hn, _⟩ | ⟨g, cap, cur, hn, _, hgb, _⟩
    · exact .inl (by rw [hn]; rfl)
    · refine .inr fun e => ?_
      rw [hn] at e
      obtain ⟨o, ho, hc⟩ := hrow g (by simpa [Value.ownBlock] using e.symm)
      rw [hgb] at ho; cases ho; exact (hc cur).2 rfl

theorem cell_two_new (W : World) (t : TypeId) (a b : Value) : ∀ j u, [a, b][j]? = some u → (W.alloc (.cells #[a, b] t)).cell? ((⟨W.heap.size, 0, none⟩ : Addr).add j) = some u := by
  intro j u h
  match j with
  | 0 => simp at h; subst h; simp [Addr.add, World.cell?_alloc_new]
  | 1 => simp at h; subst h; simp [Addr.add, World.cell?_alloc_new]
  | j + 2 => simp at h

/-- Behind 'lines = append(lines, line)'. -/
theorem lines_appended {W w1 : World} {n₀ B : Nat} {v v' : Value} {zs : List (Ln × Value)} {z : Ln × Value} {tmp : Obj} (hv : Boxed W B 109 v) (hrow : W.ownsRow n₀ 121 2 v zs.length (lineCells zs)) (hrs : WRows W n₀ zs)
    (hz : W.ownsRow n₀ 144 2 z.2 z.1.2.length (wordCells z.1.2))
    (hown' : w1.ownsRow n₀ 121 2 v' (zs.length + 1) (lineCells zs ++ [.int .i64 z.1.1, z.2])) (hgrow : (W.alloc tmp).grownBy w1 v.ownBlock) :
    OwnLines (w1.setCell ⟨B, 0, none⟩ v') n₀ v' ((zs ++ [z]).map Prod.fst) := by
  have hrs' : WRows W n₀ (zs ++ [z]) := fun y hy => by
    rcases List.mem_append.1 hy with h | h
    · exact hrs y h
    · obtain rfl : y = z := by simpa using h
      exact hz
  have h1 : WRows w1 n₀ (zs ++ [z]) := (hrs'.alloc tmp).kept hgrow (fun y hy => row_apart (hrs' y hy) hrow (by decide))
  have hv1 : Boxed w1 B 109 v := (hv.alloc tmp).kept hgrow (hv.not_row (by decide) hrow)
  refine ⟨zs ++ [z], rfl, ?_, h1.kept (grownBy_setCell' w1 B v') fun y hy => row_box (h1 y hy) hv1 (by decide)⟩
  rw [List.length_append, lineCells_snoc]
  exact hown'.kept (grownBy_setCell' w1 B v') (row_box hown' hv1 (by decide))
end Go.Proofs.YtpdbkjnaicjfdaaGreatDoor

namespace Go.Proofs.YtpdbkjnaicjfdaaGreatDoor
open Go.RowKit
set_option linter.unusedVariables false

/-- A string's bytes as numbers. -/
def nums (s : ByteArray) : List Int := s.data.toList.map fun b => (b.toNat : Int)

theorem nums_len (s : ByteArray) : (nums s).length = s.size := by
  rw [nums, List.length_map, Array.length_toList]; rfl
theorem strOf_nums (s : ByteArray) : strOfNums (nums s) = s := by
  apply ByteArray.ext
  apply Array.ext'
  rw [strOfNums_data, nums, List.map_map]
  conv => rhs; rw [← List.map_id s.data.toList]
  apply List.map_congr_left
  intro b _
  simp
theorem nums_octets (s : ByteArray) : Octets (nums s) := by
  intro x hx
  obtain ⟨b, _, rfl⟩ := List.mem_map.1 hx
  have := b.toNat_lt
  omega
theorem nums_strOf (l : List Int) (h : Octets l) : nums (strOfNums l) = l := by
  rw [nums, strOfNums_data, List.map_map]
  conv => rhs; rw [← List.map_id l]
  apply List.map_congr_left
  intro x hx
  have := h x hx
  simp [UInt8.toNat_ofNat']
  omega
theorem nums_inj {s t : ByteArray} (h : nums s = nums t) : s = t := by rw [← strOf_nums s, h, strOf_nums]
theorem nums_get (s : ByteArray) (j : Nat) : (nums s)[j]?.getD 0 = ((s.data.toList.getD j 0).toNat : Int) := by
  rw [nums, List.getElem?_map, List.getD]
  cases s.data.toList[j]? <;> rfl

theorem bytes_of_str (w : World) (s : ByteArray) : Bytes (Lib.bytesWorld w 5 s) (some ⟨w.heap.size, 0, none⟩) (nums s) := by
  intro _
  refine ⟨w.heap.size, 0, rfl, by rw [Lib.bytesWorld_size]; omega, fun j hj => ?_⟩
  rw [nums_len] at hj
  rw [Nat.zero_add, Lib.bytesWorld_cell w _ s j hj, nums_get]

theorem below_bytes {w W : World} {B : Nat} (h : Below B w W) (hB : B ≤ W.heap.size) (s : ByteArray) : Below B w (Lib.bytesWorld W 5 s) :=
  h.trans ⟨rfl, rfl, rfl, by rw [Lib.bytesWorld_size]; omega, fun k hk => Lib.bytesWorld_at_old W _ s k (by omega)⟩

/-- A slice's address A reads as the texts ss; all below B. -/
def Strs (B : Nat) (w : World) (A : Option Addr) (ss : List ByteArray) : Prop :=
  0 < ss.length → ∃ b off, A = some ⟨b, off, none⟩ ∧ b < B ∧ ∀ j, j < ss.length → w.cell? ⟨b, off + j, none⟩ = some (.string (ss[j]?.getD ⟨#[]⟩))

theorem Strs.below {B : Nat} {w w' : World} {A : Option Addr} {ss : List ByteArray} (h : Strs B w A ss) (hb : Below B w w') : Strs B w' A ss := fun hl => by
  obtain ⟨b, off, e, hlt, hc⟩ := h hl
  exact ⟨b, off, e, hlt, fun j hj => (hb.cell (p := ⟨b, off + j, none⟩) hlt).trans (hc j hj)⟩
theorem Strs.mono {B B' : Nat} {w : World} {A : Option Addr} {ss : List ByteArray} (h : Strs B w A ss) (hb : B ≤ B') : Strs B' w A ss := fun hl => by
  obtain ⟨b, off, e, hlt, hc⟩ := h hl
  exact ⟨b, off, e, by omega, hc⟩

/-- All words are words. -/
def fineW (ss : List ByteArray) : Bool := ss.all fun s => (fw (nums s)).isNone
/-- Words that may be joined. -/
def joinOk (ss : List ByteArray) : Bool := fineW ss && (match ss with | [] => false | s :: _ => !(over (nums s)))

theorem fine_bad {ss : List ByteArray} {k j : Nat} (hk : k < ss.length) (h : fw (nums (ss[k]?.getD ⟨#[]⟩)) = some j) : fineW ss = false := by
  rw [List.getElem?_eq_getElem hk] at h
  simp only [Option.getD_some] at h
  apply Bool.eq_false_iff.2
  intro hf
  have := List.all_eq_true.1 hf _ (List.getElem_mem hk)
  rw [h] at this; cases this
theorem fine_all {ss : List ByteArray} (h : ∀ j, j < ss.length → fw (nums (ss[j]?.getD ⟨#[]⟩)) = none) : fineW ss = true := by
  refine List.all_eq_true.2 fun s hs => ?_
  obtain ⟨j, hj, rfl⟩ := List.mem_iff_getElem.1 hs
  have := h j hj
  rw [List.getElem?_eq_getElem hj] at this
  simp only [Option.getD_some] at this
  rw [this]; rfl

theorem joinOk_pos {ss : List ByteArray} (h : 0 < ss.length) : joinOk ss = (fineW ss && !(over (nums (ss[0]?.getD ⟨#[]⟩)))) := by
  cases ss with
  | nil => cases h
  | cons s r => rfl

theorem over_str (s : ByteArray) (h : 0 < s.size) : over (nums s) = ((s[0].toNat : Int) == 35) := by
  have : nums s = (s[0].toNat : Int) :: (nums s).tail := by
    have hd : s.data.toList = s[0] :: s.data.toList.tail := by
      have hl : 0 < s.data.toList.length := by rw [Array.length_toList]; exact h
      conv => lhs; rw [← List.cons_head_tail (List.ne_nil_of_length_pos hl)]
      congr 1
      rw [List.head_eq_getElem]; rfl
    rw [nums, hd]; rfl
  rw [this]; rfl

set_option maxHeartbeats 1000000 in
theorem joinable_any (A : Option Addr) (c : Nat) (ss : List ByteArray) (w : World) (hA : Strs w.heap.size w A ss) (hm : ss.length ≤ 1000) (hz : ∀ s ∈ ss, s.size ≤ 1000000) :
    Calls Tryz.prog 137 #[.slice A ss.length c] w fun e w' => e = .returned (.bool (joinOk ss)) ∧ Below w.heap.size w w' := by
  have hcv := fun (W : World) (s : ByteArray) => Lib.run_convert_string_bytes (P := Tryz.prog) W 9 78 5 s Tryz.underlying9 Tryz.underlying78 Tryz.underlying5
  have HA := Lib.hid hA
  have HZ := Lib.hid hz
  clear hA hz
  go_enter Tryz.func137, Tryz.ntmps137
  go_wp2
  go_loopw [7] (fun i wr => ∃ k : Nat, k ≤ ss.length ∧ i = .int .i64 k ∧ Below w.heap.size w wr ∧ ∀ j, j < ss.length → j < k → fw (nums (ss[j]?.getD ⟨#[]⟩)) = none) (fun i wr => ss.length - (intOf i).toNat)
  case atStart => exact ⟨0, Nat.zero_le _, rfl, Below.refl _ _, fun j _ hj => absurd hj (by omega)⟩
  case round =>
    obtain ⟨k, hk, rfl, hB, hq⟩ := hrel
    have HQ := Lib.hid hq
    have hwr := hB.size
    clear hq
    by_cases hlt : k < ss.length
    · obtain ⟨b, off, rfl, hb, hc⟩ := HA.out.below hB (by omega)
      have hck := hc k hlt
      have hsz : (ss[k]?.getD ⟨#[]⟩).size ≤ 1000000 := by
        rw [List.getElem?_eq_getElem hlt]; exact HZ.out _ (List.getElem_mem hlt)
      obtain ⟨s, hs⟩ : ∃ s, ss[k]?.getD ⟨#[]⟩ = s := ⟨_, rfl⟩
      rw [hs] at hck hsz
      have HS := Lib.hid hs
      clear hc hs
      have hbw := bytes_of_str wr s
      have HW := Lib.hid (fun c => wrong_any (some ⟨wr.heap.size, 0, none⟩) c (nums s) (Lib.bytesWorld wr 5 s) _ hbw.b (nums_octets s) (by rw [nums_len]; unfold maxLen; omega))
      rw [nums_len] at HW
      cases hfw : fw (nums s) with
      | some j =>
        have HF := Lib.hid (fine_bad hlt (by rw [HS.out]; exact hfw))
        have HI := Lib.hid (fwI_some hfw)
        have hge : decide ((0 : Int) ≤ (j : Int)) = true := decide_eq_true (by omega)
        clear hfw hbw
        go_wp2_with fail
        refine (HW.out _).mono ?_
        rw [HI.out]
        rintro e w1 ⟨rfl, rfl⟩
        go_wp2
        go_ret
        exact ⟨by unfold joinOk; rw [HF.out]; rfl, below_bytes hB (by omega) s⟩
      | none =>
        have HN := Lib.hid hfw
        have HI := Lib.hid (fwI_none hfw)
        clear hfw hbw
        go_wp2_with fail
        refine (HW.out _).mono ?_
        rw [HI.out]
        rintro e w1 ⟨rfl, rfl⟩
        go_wp2
        go_roundw
        case rel =>
          refine ⟨k + 1, by omega, by go_num, below_bytes hB (by omega) s, fun j hj hj' => ?_⟩
          by_cases e : j = k
          · subst e; rw [HS.out]; exact HN.out
          · exact HQ.out j hj (by omega)
        case measure => simp [intOf]; omega
    · have hd : decide (k < ss.length) = false := decide_eq_false hlt
      have HF := Lib.hid (fine_all (fun j hj => HQ.out j hj (by omega)))
      by_cases h0 : ss.length = 0
      · have e : ss = [] := List.eq_nil_of_length_eq_zero h0
        subst e
        go_wp2
        go_ret
        exact ⟨rfl, hB⟩
      · obtain ⟨b, off, rfl, hb, hc⟩ := HA.out.below hB (by omega)
        have hc0 := hc 0 (by omega)
        have HJ := Lib.hid (joinOk_pos (by omega : 0 < ss.length))
        have hs0 : 0 < (ss[0]?.getD (⟨#[]⟩ : ByteArray)).size := by
          have := (fw_none_inv (HQ.out 0 (by omega) (by omega))).1
          rw [← nums_len]; exact List.length_pos_iff.2 this
        simp only [Nat.add_zero] at hc0
        obtain ⟨s, hs⟩ : ∃ s, ss[0]?.getD ⟨#[]⟩ = s := ⟨_, rfl⟩
        rw [hs] at hc0 hs0 HJ
        have hov := over_str s hs0
        have HO := Lib.hid hov
        have hgt : 0 < ss.length := by omega
        clear hov hc hs h0
        go_wp2
        go_ret
        exact ⟨by rw [HJ.out, HF.out, HO.out]; rfl, hB⟩
end Go.Proofs.YtpdbkjnaicjfdaaGreatDoor

namespace Go.Proofs.YtpdbkjnaicjfdaaGreatDoor
open Go.RowKit
set_option linter.unusedVariables false

/-- Words, a space between two. -/
def joined : List (List Int) → List Int
  | [] => []
  | [p] => p
  | p :: q :: r => p ++ 32 :: joined (q :: r)

theorem joined_snoc : ∀ (l : List (List Int)) (p : List Int), l ≠ [] → joined (l ++ [p]) = joined l ++ 32 :: p
  | [], p, h => absurd rfl h
  | [a], p, _ => rfl
  | a :: b :: r, p, _ => by
    have := joined_snoc (b :: r) p (by simp)
    show a ++ 32 :: joined (b :: r ++ [p]) = _
    rw [this]; simp [joined]

def jl (ss : List ByteArray) : List Int := joined (ss.map nums)
def szs (ss : List ByteArray) : Nat := (ss.map ByteArray.size).sum

theorem jl_snoc (l : List ByteArray) (s : ByteArray) (h : l ≠ []) : jl (l ++ [s]) = jl l ++ 32 :: nums s := by
  unfold jl; rw [List.map_append]; exact joined_snoc _ _ (by simpa using h)
theorem jl_one (s : ByteArray) : jl [s] = nums s := rfl
theorem szs_snoc (l : List ByteArray) (s : ByteArray) : szs (l ++ [s]) = szs l + s.size := by simp [szs]
theorem szs_take (ss : List ByteArray) (k : Nat) (h : k < ss.length) : szs (ss.take (k + 1)) = szs (ss.take k) + (ss[k]?.getD ⟨#[]⟩).size := by
  rw [List.take_succ_eq_append_getElem h, szs_snoc, List.getElem?_eq_getElem h]; rfl
theorem szs_app (a b : List ByteArray) : szs (a ++ b) = szs a + szs b := by simp [szs]
theorem szs_le (ss : List ByteArray) (k : Nat) : szs (ss.take k) ≤ szs ss := by
  have h := szs_app (ss.take k) (ss.drop k)
  rw [List.take_append_drop] at h
  omega
theorem szs_mem {ss : List ByteArray} {s : ByteArray} (h : s ∈ ss) : s.size ≤ szs ss := by
  induction ss with
  | nil => cases h
  | cons a r ih =>
    have e : szs (a :: r) = a.size + szs r := by simp [szs]
    rcases List.mem_cons.1 h with rfl | h
    · omega
    · have := ih h; omega
theorem jl_len : ∀ (ss : List ByteArray), 0 < ss.length → (jl ss).length + 1 = ss.length + szs ss
  | [], h => by cases h
  | [s], _ => by simp [jl_one, nums_len, szs]; omega
  | s :: t :: r, _ => by
    have ih := jl_len (t :: r) (by simp)
    have e1 : jl (s :: t :: r) = nums s ++ 32 :: jl (t :: r) := rfl
    have e2 : szs (s :: t :: r) = s.size + szs (t :: r) := by simp [szs]
    rw [e1, e2, List.length_append, List.length_cons, nums_len]
    simp only [List.length_cons] at ih ⊢
    omega

set_option maxHeartbeats 1000000 in
theorem jsize_any (A : Option Addr) (c : Nat) (ss : List ByteArray) (w : World) (hA : Strs w.heap.size w A ss) (hm : ss.length ≤ 1000) (h0 : 0 < ss.length) (hz : szs ss ≤ 1000000) :
    Calls Tryz.prog 138 #[.slice A ss.length c] w fun e w' => e = .returned (.int .i64 (jl ss).length) ∧ w = w' := by
  have HL := Lib.hid (jl_len ss h0)
  obtain ⟨b, off, rfl, hb, hc⟩ := hA h0
  have HC := Lib.hid hc
  have HT := Lib.hid (szs_take ss)
  have HE := Lib.hid (szs_le ss)
  clear hA hc
  go_enter Tryz.func138, Tryz.ntmps138
  go_wp2
  go_loop [3, 11] (fun s3 i => ∃ k z : Nat, k ≤ ss.length ∧ i = .int .i64 k ∧ s3 = .int .i64 ((ss.length : Int) - 1 + z) ∧ z = szs (ss.take k)) (fun s3 i => ss.length - (intOf i).toNat)
  case atStart => exact ⟨0, 0, Nat.zero_le _, rfl, by simp, by simp [szs]⟩
  case round =>
    obtain ⟨k, z, hk, rfl, rfl, hzk⟩ := hrel
    have HZ := Lib.hid hzk
    have hle : z ≤ 1000000 := by have := HE.out k; omega
    clear hzk
    by_cases hlt : k < ss.length
    · have hck := HC.out k hlt
      have hst := HT.out k hlt
      have hle2 := HE.out (k + 1)
      obtain ⟨s, hs⟩ : ∃ s, ss[k]?.getD ⟨#[]⟩ = s := ⟨_, rfl⟩
      rw [hs] at hck hst
      have hsz : s.size ≤ 1000000 := by omega
      have HST := Lib.hid hst
      clear hs hst hle2
      go_wp2
      go_roundw
      case rel => exact ⟨k + 1, z + s.size, by omega, by go_num, by go_num, by rw [HST.out, HZ.out]⟩
      case measure => simp [intOf]; omega
    · have hd : decide (k < ss.length) = false := decide_eq_false hlt
      have HK : Hid (szs (ss.take k) = szs ss) := Lib.hid (by rw [List.take_of_length_le (by omega)])
      go_wp2
      go_ret
      refine ⟨ret_int ?_, rfl⟩
      have := HZ.out
      have := HK.out
      have := HL.out
      omega

/-- Join's answer. -/
def jE (ss : List ByteArray) : Int := if joinOk ss then (if 65536 < (jl ss).length then 4 else 0) else 5
def jS (ss : List ByteArray) : List Int := if joinOk ss = true ∧ ¬ 65536 < (jl ss).length then jl ss else []
def JoinPost (ss : List ByteArray) (w : World) (e : Ending) (w' : World) : Prop := e = .returned (.tuple #[.string (strOfNums (jS ss)), .int .i64 (jE ss)]) ∧ Below w.heap.size w w'

theorem strCells_nums (s : ByteArray) : Lib.strCells s = bytesOf (nums s) := by simp [Lib.strCells, bytesOf, nums]
theorem jl_take (ss : List ByteArray) (k : Nat) (h : k < ss.length) : jl (ss.take (k + 1)) = if k = 0 then nums (ss[k]?.getD ⟨#[]⟩) else jl (ss.take k) ++ 32 :: nums (ss[k]?.getD ⟨#[]⟩) := by
  rw [List.take_succ_eq_append_getElem h, List.getElem?_eq_getElem h]
  by_cases hk : k = 0
  · subst hk; rw [if_pos rfl]; simp [jl_one]
  · rw [if_neg hk, jl_snoc _ _ (by
      intro e
      have this : (ss.take k).length = 0 := by rw [e]; rfl
      rw [List.length_take] at this; omega)]; rfl

theorem jl_take_len (ss : List ByteArray) (k : Nat) (h : k ≤ ss.length) : (jl (ss.take k)).length ≤ ss.length + szs ss := by
  by_cases hk : 0 < (ss.take k).length
  · have := jl_len (ss.take k) hk
    have := szs_le ss k
    rw [List.length_take] at *
    omega
  · have : ss.take k = [] := List.eq_nil_of_length_eq_zero (by omega)
    rw [this]; simp [jl, joined]

theorem conv_own {w : World} {base g n cap : Nat} {zs : List Int} (hn : zs.length = n) (h : w.ownsRow base 5 1 (.slice (some ⟨g, 0, none⟩) n cap) n (bytesOf zs)) :
    (convert 78 9 (.slice (some ⟨g, 0, none⟩) n cap)).run Tryz.prog w = .ok (.string (strOfNums zs)) w := by
  refine run_convert_bytes_arg (P := Tryz.prog) w 78 5 Tryz.underlying78 Tryz.underlying5 g 0 n cap zs hn (fun i hi => ?_) 9 Tryz.underlying9
  rw [Nat.zero_add, h.cellAt i (by omega), bytesOf, List.getElem?_map]
  have : i < zs.length := by omega
  rw [List.getElem?_eq_getElem this]
  simp only [Option.map_some, List.getD, List.getElem?_eq_getElem this, Option.getD_some]

theorem form3 {w : World} {base g n cap m : Nat} {e : TypeId} {v : Value} {xs : List Value} {P : Prop} (h : w.ownsRow base e 1 v m xs) (hn : v = .slice none 0 0 ↔ Value.slice (some ⟨g, 0, none⟩) n cap = .slice none 0 0 ∧ P) : ∃ g' cap', v = .slice (some ⟨g', 0, none⟩) m cap' := by
  rcases h.2 with ⟨e', _⟩ | ⟨g', cap', cur, e', _⟩
  · have := (hn.1 e').1
    cases this
  · exact ⟨g', cap', e'⟩

set_option maxHeartbeats 2000000 in
theorem join_any (A : Option Addr) (c : Nat) (ss : List ByteArray) (w : World) (hA : Strs w.heap.size w A ss) (hm : ss.length ≤ 1000) (hz : szs ss ≤ 1000000) :
    Calls Tryz.prog 122 #[.slice A ss.length c] w (JoinPost ss w) := by
  have HJ := Lib.hid (joinable_any A c ss w hA hm (fun s hs => Nat.le_trans (szs_mem hs) hz))
  have HA := Lib.hid hA
  clear hA
  cases hok : joinOk ss with
  | false =>
    have HE : Hid (jE ss = 5 ∧ jS ss = []) := Lib.hid ⟨by simp [jE, hok], by simp [jS, hok]⟩
    rw [hok] at HJ
    clear hok
    go_enter Tryz.func122, Tryz.ntmps122
    go_wp2_with fail
    refine HJ.out.mono ?_
    rintro e w1 ⟨rfl, hB1⟩
    go_wp2
    go_ret2
    exact ⟨by rw [HE.out.1, HE.out.2]; rfl, hB1⟩
  | true =>
    have h0 : 0 < ss.length := by
      cases ss with
      | nil => simp [joinOk] at hok
      | cons s r => simp
    have hlen := jl_len ss h0
    rw [hok] at HJ
    by_cases h65 : 65536 < (jl ss).length
    · have HE : Hid (jE ss = 4 ∧ jS ss = []) := Lib.hid ⟨by simp [jE, hok, h65], by simp [jS, h65]⟩
      have hd : decide ((65536 : Int) < ((jl ss).length : Int)) = true := decide_eq_true (by omega)
      clear hok
      have HLn := Lib.hid hlen
      clear hlen
      go_enter Tryz.func122, Tryz.ntmps122
      go_wp2_with fail
      refine HJ.out.mono ?_
      rintro e w1 ⟨rfl, hB1⟩
      go_wp2_with fail
      refine (jsize_any A c ss _ ((HA.out.below hB1).mono hB1.size) hm h0 hz).mono ?_
      rintro e w2 ⟨rfl, rfl⟩
      go_wp2
      go_ret2
      exact ⟨by rw [HE.out.1, HE.out.2]; rfl, hB1⟩
    · have HE : Hid (jE ss = 0 ∧ jS ss = jl ss) := Lib.hid ⟨by simp [jE, hok, h65], by simp [jS, hok, h65]⟩
      have hd : decide ((65536 : Int) < ((jl ss).length : Int)) = false := decide_eq_false (by omega)
      obtain ⟨i0, hi, hz0, hz1, hz2⟩ := info_parts info_u8
      have HT := Lib.hid (jl_take ss)
      have HTL := Lib.hid (jl_take_len ss)
      clear hok
      have HLn := Lib.hid hlen
      clear hlen
      obtain ⟨m, hmm⟩ : ∃ m, (jl ss).length = m := ⟨_, rfl⟩
      rw [hmm] at hd h65
      have HM := Lib.hid hmm
      clear hmm
      go_enter Tryz.func122, Tryz.ntmps122
      go_wp2_with fail
      refine HJ.out.mono ?_
      rintro e w1 ⟨rfl, hB1⟩
      go_wp2_with fail
      refine (jsize_any A c ss _ ((HA.out.below hB1).mono hB1.size) hm h0 hz).mono ?_
      rw [HM.out]
      rintro e w2 ⟨rfl, rfl⟩
      have hw1 := hB1.size
      go_wp2_with (at_make; refine wpList_make_own _ rfl _ _ 78 rfl w.heap.size 5 i0 (.int .u8 0) 1 Tryz.underlying78 hi hz0 hz1 .i64 .i64 _ m rfl rfl rfl (by rw [hz2]; omega) (by unfold maxLen; omega) hw1 ?_; intro w2 hown hgrow)
      have hB2 : Below w.heap.size w w2 := hB1.grown hgrow hw1 (fun k e => by cases e)
      go_loopw [5, 19] (fun s5 i wr => ∃ (k g n cap : Nat), k ≤ ss.length ∧ i = .int .i64 k ∧ s5 = .slice (some ⟨g, 0, none⟩) n cap ∧ wr.ownsRow w.heap.size 5 1 (.slice (some ⟨g, 0, none⟩) n cap) n (bytesOf (jl (ss.take k))) ∧ Below w.heap.size w wr) (fun s5 i wr => ss.length - (intOf i).toNat)
      case atStart => exact ⟨0, w1.heap.size, 0, m, Nat.zero_le _, rfl, rfl, by simpa [jl, joined, bytesOf] using hown, hB2⟩
      case round =>
        obtain ⟨k, g, n, cap, hk, rfl, rfl, hrow, hB⟩ := hrel
        have hwr := hB.size
        have hn : (jl (ss.take k)).length = n := by have := hrow.1; simpa [bytesOf] using this
        have hnl := HTL.out k hk
        rw [hn] at hnl
        have HN := Lib.hid hn
        clear hn
        by_cases hlt : k < ss.length
        · have htk := HT.out k hlt
          obtain ⟨b, off, rfl, hb, hc⟩ := HA.out.below hB h0
          have hck := hc k hlt
          have hsz : (ss[k]?.getD ⟨#[]⟩).size ≤ szs ss := by
            rw [List.getElem?_eq_getElem hlt]; exact szs_mem (List.getElem_mem hlt)
          obtain ⟨s, hs⟩ : ∃ s, ss[k]?.getD ⟨#[]⟩ = s := ⟨_, rfl⟩
          rw [hs] at hck htk hsz
          have HTK := Lib.hid htk
          clear hc hs htk
          have hmx : n + 1 + s.size ≤ maxLen := by unfold maxLen; omega
          by_cases hk0 : k = 0
          · subst hk0
            rw [Nat.add_zero] at hck
            go_wp2_with (at_builtin; refine Lib.wpList_append_own_string _ rfl _ _ 78 9 rfl w.heap.size 5 i0 Tryz.underlying78 Tryz.underlying9 hi hz0 hz1 hz2 _ _ _ rfl hrow s rfl (by omega) (by omega) hwr ?_; intro v1 w3 hown3 hg3 hnil3)
            go_roundw
            case rel =>
              obtain ⟨g3, cap3, rfl⟩ := form3 hown3 hnil3
              refine ⟨1, g3, n + s.size, cap3, by omega, by go_num, rfl, ?_, hB.grown hg3 hwr (fun j e => by have := (hrow.lt j e).1; omega)⟩
              have e1 : jl (ss.take 0) = [] := by simp [jl, joined]
              rw [HTK.out, if_pos rfl]
              rw [e1, strCells_nums] at hown3
              simpa [bytesOf] using hown3
            case measure => simp [intOf]; omega
          · have hgt : 0 < k := by omega
            go_wp2_with (first
              | (at_builtin; refine wpList_append_own _ rfl _ _ 78 rfl w.heap.size 5 i0 (.int .u8 0) 1 1 Tryz.underlying78 hi hz0 hz1 hz2 rfl (by decide) _ _ _ rfl (hrow.alloc _) ⟨wr.heap.size, 0, none⟩ 1 1 [.int .u8 32] rfl rfl (cell_one_new _ _ _) (by simp [Value.oneCell']) (by omega) (by omega) (by simp; omega) ?_; intro v1 w3 hown3 hg3 hnil3; obtain ⟨g3, cap3, rfl⟩ := ownsRow_succ hown3; have hw3 : w.heap.size ≤ w3.heap.size := Nat.le_trans hwr (Nat.le_trans (by simp) hg3.size))
              | (at_builtin; refine Lib.wpList_append_own_string _ rfl _ _ 78 9 rfl w.heap.size 5 i0 Tryz.underlying78 Tryz.underlying9 hi hz0 hz1 hz2 _ _ _ rfl hown3 s rfl (by omega) (by omega) hw3 ?_; intro v4 w4 hown4 hg4 hnil4))
            go_roundw
            case rel =>
              obtain ⟨g4, cap4, rfl⟩ := form3 hown4 hnil4
              refine ⟨k + 1, g4, n + 1 + s.size, cap4, by omega, by go_num, rfl, ?_, ((hB.alloc hwr _).grown hg3 (by simp; omega) (fun j e => (hrow.lt j e).1)).grown hg4 hw3 (fun j e => (hown3.lt j e).1)⟩
              rw [HTK.out, if_neg hk0]
              rw [strCells_nums] at hown4
              simpa [bytesOf] using hown4
            case measure => simp [intOf]; omega
        · have hd2 : decide (k < ss.length) = false := decide_eq_false hlt
          have hkl : ss.take k = ss := List.take_of_length_le (by omega)
          rw [hkl] at hrow HN
          have hcv := conv_own HN.out hrow
          have HKL := Lib.hid hkl
          clear hkl
          go_wp2
          go_ret2
          exact ⟨by rw [HE.out.1, HE.out.2]; rfl, hB⟩
end Go.Proofs.YtpdbkjnaicjfdaaGreatDoor

namespace Go.Proofs.YtpdbkjnaicjfdaaGreatDoor
open Go.RowKit Go.Shelf
set_option linter.unusedVariables false

attribute [local go_sem] Oper.semAt_some

theorem wpIn_scope_wide {n : Nat} {P : Program} {c : Code} {Q : Exit → Act → World → Prop} {a : Act} {w : World} (h : c.wpIn Fence.wide n P (Exit.noGoto Q) a w) : (Code.scope c).wpIn Fence.wide n P Q a w :=
  wpIn_wide.2 (wp_scope_straight ((wpIn_wide (n := n)).1 h))

theorem info_word : (Tryz.prog.info? 144).map (fun i => (i.zero, i.size, i.bytes)) = some (some (.agg #[.string ⟨#[]⟩, .int .i64 0]), 2, 24) := by kernel_rfl
theorem info_line : (Tryz.prog.info? 121).map (fun i => (i.zero, i.size, i.bytes)) = some (some (.agg #[.int .i64 0, .slice none 0 0]), 2, 32) := by kernel_rfl

def LinesPost (bs : List Int) (w : World) (e : Ending) (w' : World) : Prop :=
  ∃ v, e = .returned (.tuple #[v, .agg #[.int .i64 (textE bs), .int .i64 (textP bs)]]) ∧ OwnLines w' w.heap.size v (textL bs) ∧ Below w.heap.size w w'

/-- Between two lines. -/
structure OutI (s : Nat) (w : World) (xs : List Wd) (W : World) : Prop where
  box : ∃ v, Boxed W (s + 1) 109 v ∧ OwnLines W s v (xs.filterMap lineL)
  fault : Pair2 W (s + 1 + 1) 29 (.int .i64 0) (.int .i64 0)
  res : Pair2 W s 29 (.int .i64 0) (.int .i64 0)
  below : Below s w W
  fine : xs.findSome? lineF = none
  big : s + 5 ≤ W.heap.size
  cb1 : ∃ u, Boxed W (s + 1 + 1 + 1) 78 u
  cb2 : ∃ u, Boxed W (s + 1 + 1 + 1 + 1) 5 u

/-- A line has a fault. -/
structure OutX (s : Nat) (w : World) (xs : List Wd) (W : World) : Prop where
  fault : ∃ f : Nat × Nat, xs.findSome? lineF = some f ∧ Pair2 W (s + 1 + 1) 29 (.int .i64 f.1) (.int .i64 f.2)
  res : Pair2 W s 29 (.int .i64 0) (.int .i64 0)
  below : Below s w W

theorem pair_kept {X Y : World} {B : Nat} {t : TypeId} {a b : Value} {row : Option Nat} (h : Pair2 X B t a b) (hg : X.grownBy Y row) (hr : ∀ r, row = some r → ∃ o : Obj, X.heap[r]? = some o ∧ o.isCells = false) : Pair2 Y B t a b :=
  pair2_own B t (fun (_ : Unit) => a) (fun _ => b) () X Y row h hg hr
theorem box_kept {X Y : World} {B : Nat} {t : TypeId} {a : Value} {row : Option Nat} (h : Boxed X B t a) (hg : X.grownBy Y row) (hr : ∀ r, row = some r → ∃ o : Obj, X.heap[r]? = some o ∧ o.isCells = false) : Boxed Y B t a :=
  boxed_own B t (fun (_ : Unit) => a) () X Y row h hg hr
theorem lines_kept {X Y : World} {base : Nat} {v : Value} {ls : List Ln} {row : Option Nat} (h : OwnLines X base v ls) (hg : X.grownBy Y row) (hr : ∀ r, row = some r → ∃ o : Obj, X.heap[r]? = some o ∧ o.isCells = false) : OwnLines Y base v ls :=
  h.kept hg fun r e => by
    obtain ⟨o, ho, hc⟩ := hr r e
    exact ⟨o, ho, fun cs => ⟨fun e => (by subst e; cases hc), fun e => (by subst e; cases hc)⟩⟩
theorem row_kept {X Y : World} {base : Nat} {e : TypeId} {size n : Nat} {v : Value} {xs : List Value} {row : Option Nat} (h : X.ownsRow base e size v n xs) (hg : X.grownBy Y row) (hr : ∀ r, row = some r → ∃ o : Obj, X.heap[r]? = some o ∧ o.isCells = false) : Y.ownsRow base e size v n xs := by
  refine h.kept hg ?_
  rcases h.2 with ⟨rfl, _⟩ | ⟨g, cap, cur, rfl, _, hgb, _⟩
  · exact .inl rfl
  · refine .inr fun e => ?_
    obtain ⟨o, ho, hc⟩ := hr g (by simpa [Value.ownBlock] using e.symm)
    rw [hgb] at ho; cases ho; cases hc
theorem below_kept {X Y w : World} {s : Nat} {row : Option Nat} (h : Below s w X) (hs : s ≤ w.heap.size) (hg : X.grownBy Y row) (hr : ∀ r, row = some r → s ≤ r) : Below s w Y :=
  h.grown hg (Nat.le_trans hs h.size) hr

theorem OutI.kept {s B : Nat} {w : World} {xs : List Wd} {X Y : World} {row : Option Nat} (hs : s ≤ w.heap.size) (hB : s ≤ B) (h : OutI s w xs X) (hg : X.grownBy Y row) (hr : ∀ r, row = some r → B ≤ r ∧ ∃ o : Obj, X.heap[r]? = some o ∧ o.isCells = false) : OutI s w xs Y := by
  obtain ⟨v, h1, h2⟩ := h.box
  have hr2 := fun r e => (hr r e).2
  exact ⟨⟨v, box_kept h1 hg hr2, lines_kept h2 hg hr2⟩, pair_kept h.fault hg hr2, pair_kept h.res hg hr2, below_kept h.below hs hg (fun r e => Nat.le_trans hB (hr r e).1), h.fine, Nat.le_trans h.big hg.size, h.cb1.imp fun _ h => box_kept h hg hr2, h.cb2.imp fun _ h => box_kept h hg hr2⟩
theorem OutX.kept {s B : Nat} {w : World} {xs : List Wd} {X Y : World} {row : Option Nat} (hs : s ≤ w.heap.size) (hB : s ≤ B) (h : OutX s w xs X) (hg : X.grownBy Y row) (hr : ∀ r, row = some r → B ≤ r ∧ ∃ o : Obj, X.heap[r]? = some o ∧ o.isCells = false) : OutX s w xs Y := by
  obtain ⟨f, h1, h2⟩ := h.fault
  have hr2 := fun r e => (hr r e).2
  exact ⟨⟨f, h1, pair_kept h2 hg hr2⟩, pair_kept h.res hg hr2, below_kept h.below hs hg (fun r e => Nat.le_trans hB (hr r e).1)⟩

/-- Between two words of a line that begins at o; the round began at W. -/
structure InI (B0 o : Nat) (W : World) (xs : List Wd) (W' : World) : Prop where
  box : ∃ v, Boxed W' W.heap.size 115 v ∧ W'.ownsRow W.heap.size 144 2 v xs.length (wordCells (xs.map (shift o)))
  below : Below W.heap.size W W'
  keeps : KeepsFrom B0 W W'
  fine : (xs.map (shift o)).findSome? wordF = none
  cb1 : ∃ u, Boxed W' (W.heap.size + 1) 78 u
  cb2 : ∃ u, Boxed W' (W.heap.size + 1 + 1) 5 u

/-- A word has a fault. -/
structure InX (s B0 o : Nat) (W : World) (xs : List Wd) (W' : World) : Prop where
  fault : ∃ f : Nat × Nat, (xs.map (shift o)).findSome? wordF = some f ∧ Pair2 W' (s + 1 + 1) 29 (.int .i64 f.1) (.int .i64 f.2)
  res : W'.heap[s]? = W.heap[s]?
  below : Below s W W'
  keeps : KeepsFrom B0 W W'

theorem keeps_kept {X Y W : World} {B0 : Nat} {row : Option Nat} (h : KeepsFrom B0 W X) (hg : X.grownBy Y row) (hr : ∀ r, row = some r → W.heap.size ≤ r ∧ ∃ o : Obj, X.heap[r]? = some o ∧ o.isCells = false) : KeepsFrom B0 W Y :=
  ownFrom_keepsFrom (β := Unit) (Nat.le_refl _) () X Y row h hg hr

theorem InI.kept {B0 o B : Nat} {W : World} {xs : List Wd} {X Y : World} {row : Option Nat} (hB : W.heap.size ≤ B) (h : InI B0 o W xs X) (hg : X.grownBy Y row) (hr : ∀ r, row = some r → B ≤ r ∧ ∃ o : Obj, X.heap[r]? = some o ∧ o.isCells = false) : InI B0 o W xs Y := by
  obtain ⟨v, h1, h2⟩ := h.box
  have hr2 := fun r e => (hr r e).2
  have hr3 := fun r e => Nat.le_trans hB (hr r e).1
  exact ⟨⟨v, box_kept h1 hg hr2, row_kept h2 hg hr2⟩, below_kept h.below (Nat.le_refl _) hg hr3, keeps_kept h.keeps hg (fun r e => ⟨hr3 r e, hr2 r e⟩), h.fine, h.cb1.imp fun _ h => box_kept h hg hr2, h.cb2.imp fun _ h => box_kept h hg hr2⟩
theorem InX.kept {s B0 o B : Nat} {W : World} {xs : List Wd} {X Y : World} {row : Option Nat} (hs : s < W.heap.size) (hB : W.heap.size ≤ B) (h : InX s B0 o W xs X) (hg : X.grownBy Y row) (hr : ∀ r, row = some r → B ≤ r ∧ ∃ o : Obj, X.heap[r]? = some o ∧ o.isCells = false) : InX s B0 o W xs Y := by
  obtain ⟨f, h1, h2⟩ := h.fault
  have hr2 := fun r e => (hr r e).2
  have hr3 := fun r e => Nat.le_trans hB (hr r e).1
  have := h.below.size
  exact ⟨⟨f, h1, pair_kept h2 hg hr2⟩, (hg.block s (by omega) (fun e => by have := hr3 s e.symm; omega)).trans h.res, below_kept h.below (by omega) hg (fun r e => by have := hr3 r e; omega), keeps_kept h.keeps hg (fun r e => ⟨hr3 r e, hr2 r e⟩)⟩

theorem grown_box {W w1 : World} {B B' : Nat} {t e : TypeId} {u v z : Value} {n k size : Nat} {xs : List Value} {tmp : Obj} (h : Boxed W B t u) (hte : t ≠ e) (hr : W.ownsRow n e size v k xs) (hg : (W.alloc tmp).grownBy w1 v.ownBlock) (hne : B ≠ B') : (w1.setCell ⟨B', 0, none⟩ z).heap[B]? = W.heap[B]? := by
  rw [Below.heap_setCell _ _ _ _ hne, hg.block B (by have := h.lt; simp; omega) (h.not_row hte hr)]
  exact Below.heap_alloc W tmp B h.lt

theorem grown_pair {W w1 : World} {B B' : Nat} {t e : TypeId} {a b v z : Value} {n k size : Nat} {xs : List Value} {tmp : Obj} (h : Pair2 W B t a b) (hte : t ≠ e) (hr : W.ownsRow n e size v k xs) (hg : (W.alloc tmp).grownBy w1 v.ownBlock) (hne : B ≠ B') : (w1.setCell ⟨B', 0, none⟩ z).heap[B]? = W.heap[B]? := by
  rw [Below.heap_setCell _ _ _ _ hne, hg.block B (by have := h.lt; simp; omega) ?_]
  · exact Below.heap_alloc W tmp B h.lt
  · rcases hr.2 with ⟨rfl, _⟩ | ⟨g, cap, cur, rfl, _, hgb, _⟩
    · simp [Value.ownBlock]
    · intro e'
      obtain rfl : B = g := by simpa [Value.ownBlock] using e'
      have := (show W.heap[B]? = _ from h).symm.trans hgb
      simp at this
      exact hte this.2

theorem text_none {bs : List Int} (hm : bs.length ≤ 67108864) (h : (cuts 10 0 bs).findSome? lineF = none) : textF bs = none := by unfold textF; rw [if_neg (by omega), h]
theorem text_some {bs : List Int} {f : Nat × Nat} (hm : bs.length ≤ 67108864) (h : (cuts 10 0 bs).findSome? lineF = some f) : textF bs = some f := by unfold textF; rw [if_neg (by omega), h]

set_option maxRecDepth 100000 in
set_option maxHeartbeats 2000000 in
theorem lines_main (A : Option Addr) (c : Nat) (bs : List Int) (w : World) (hA : Bytes w A bs) (ho : Octets bs) (hc : bs.length ≤ c) (hm : bs.length ≤ 67108864) :
    Calls Tryz.prog 57 #[.slice A bs.length c] w (LinesPost bs w) := by
  obtain ⟨i0, hi, hz0, hz1, hz2⟩ := info_parts info_word
  obtain ⟨i1, ki, kz0, kz1, kz2⟩ := info_parts info_line
  have hd0 : decide (67108864 < (bs.length : Int)) = false := decide_eq_false (by omega)
  refine (callsIn_wide (n := 8)).1 ?_
  refine callsIn_of_wp_marks Tryz.func57 rfl trivial ?_ rfl
  simp only [Tryz.ntmps57, List.size_toArray, List.length_cons, List.length_nil, Nat.reduceAdd, Nat.reduceSub, Array.replicate_succ, Array.replicate_zero, List.push_toArray, List.append_toArray, List.nil_append, List.cons_append]
  gi_wp2
  refine wpIn_scope_wide ?_
  gi_wp2
  refine wpIn_label ?_
  gi_wp2_with (refine ⟨trivial, ?_⟩; gi_at_call 79; refine (cut_in Fence.wide _ trivial rfl _ _ _ _ _).mono ?_; rintro e w' ⟨rfl, rfl⟩)
  obtain ⟨W0, hW0⟩ : ∃ W0, ((((w.alloc (.cells #[.int .i64 0, .int .i64 0] 29)).alloc (.cells #[.slice none 0 0] 109)).alloc (.cells #[.int .i64 0, .int .i64 0] 29)).alloc (.cells #[.slice A bs.length c] 78)).alloc (.cells #[.int .u8 10] 5) = W0 := ⟨_, rfl⟩
  have hsz : W0.heap.size = w.heap.size + 5 := by rw [← hW0]; simp
  have bR : Pair2 W0 w.heap.size 29 (.int .i64 0) (.int .i64 0) := by
    rw [← hW0]; exact ((((Pair2.new w _ _ _).alloc _).alloc _).alloc _).alloc _
  have bL : Boxed W0 (w.heap.size + 1) 109 (.slice none 0 0) := by
    rw [← hW0]; have := (((Boxed.new (w.alloc (.cells #[.int .i64 0, .int .i64 0] 29)) 109 (.slice none 0 0)).alloc (.cells #[.int .i64 0, .int .i64 0] 29)).alloc (.cells #[.slice A bs.length c] 78)).alloc (.cells #[.int .u8 10] 5); rwa [World.size_alloc] at this
  have bF : Pair2 W0 (w.heap.size + 1 + 1) 29 (.int .i64 0) (.int .i64 0) := by
    rw [← hW0]; have := ((Pair2.new ((w.alloc (.cells #[.int .i64 0, .int .i64 0] 29)).alloc (.cells #[.slice none 0 0] 109)) 29 (.int .i64 0) (.int .i64 0)).alloc (.cells #[.slice A bs.length c] 78)).alloc (.cells #[.int .u8 10] 5); rwa [World.size_alloc, World.size_alloc] at this
  have bB : Boxed W0 (w.heap.size + 1 + 1 + 1) 78 (.slice A bs.length c) := by
    rw [← hW0]; have := (Boxed.new (((w.alloc (.cells #[.int .i64 0, .int .i64 0] 29)).alloc (.cells #[.slice none 0 0] 109)).alloc (.cells #[.int .i64 0, .int .i64 0] 29)) 78 (.slice A bs.length c)).alloc (.cells #[.int .u8 10] 5); rwa [World.size_alloc, World.size_alloc, World.size_alloc] at this
  have bS : Boxed W0 (w.heap.size + 1 + 1 + 1 + 1) 5 (.int .u8 10) := by
    rw [← hW0]; have := Boxed.new ((((w.alloc (.cells #[.int .i64 0, .int .i64 0] 29)).alloc (.cells #[.slice none 0 0] 109)).alloc (.cells #[.int .i64 0, .int .i64 0] 29)).alloc (.cells #[.slice A bs.length c] 78)) 5 (.int .u8 10); rwa [World.size_alloc, World.size_alloc, World.size_alloc, World.size_alloc] at this
  have hB0 : Below w.heap.size w W0 := by
    rw [← hW0]; exact (((((Below.refl _ w).alloc (Nat.le_refl _) _).alloc (by simp) _).alloc (by simp; omega) _).alloc (by simp; omega) _).alloc (by simp; omega) _
  rw [hW0]
  clear hW0
  have hml : bs.length ≤ maxLen := by unfold maxLen; omega
  refine wpIn_rangeFunc_ownH rfl (by omega) (gf := 101) (lb := #[.pointer (some ⟨w.heap.size + 1 + 1 + 1, 0, none⟩), .pointer (some ⟨w.heap.size + 1 + 1 + 1 + 1, 0, none⟩)]) rfl trivial (enters_of Tryz.func101 (by kernel_rfl) rfl)
    (cut_stops Fence.wide 7 trivial rfl (by omega) (w.heap.size + 1 + 1 + 1) (w.heap.size + 1 + 1 + 1 + 1) w.heap.size A c bs 10 hc hml W0 (by omega) (by omega) (by omega) bB.cell bS.cell (hA.b.below hB0)) KeptB.trans (KeptB.put (by omega) (by omega) (by omega)) (Below.refl _ _) (fun _ => rfl)
    (fun pre W => OutI w.heap.size w (pre.map Piece.pr) W)
    (fun cd pre W => cd = .exit 0 ∧ OutX w.heap.size w (pre.map Piece.pr) W)
    (fun pre X Y row hs hg hr => hs.kept (Nat.le_refl _) (by omega) hg hr)
    (fun cd pre X Y row hs hg hr => ⟨hs.1, hs.2.kept (Nat.le_refl _) (by omega) hg hr⟩)
    ⟨⟨_, bL, OwnLines.nil _ _⟩, bF, bR, hB0, rfl, by omega, ⟨_, bB⟩, ⟨_, bS⟩⟩
    (fun x a' W => ∃ Bx, w.heap.size + 4 < Bx ∧ Boxed W Bx 3 (.int .i64 x.f) ∧ a' = { tmps := #[.slice A bs.length c, undef, .slice none 0 0, .pointer (some ⟨w.heap.size, 0, none⟩), .pointer (some ⟨w.heap.size + 1, 0, none⟩), .pointer (some ⟨w.heap.size + 1 + 1, 0, none⟩), .pointer (some ⟨Bx, 0, none⟩), .slice x.a x.p.length x.k, undef, undef, undef, undef, .slice A bs.length c, .int .i64 bs.length, .bool false, undef, .slice A bs.length c, .func (.func 101) #[] #[.pointer (some ⟨w.heap.size + 1 + 1 + 1, 0, none⟩), .pointer (some ⟨w.heap.size + 1 + 1 + 1 + 1, 0, none⟩)], .int .i64 x.f, .slice x.a x.p.length x.k, undef, undef, undef, undef, undef, undef, undef, undef, undef, undef, undef, undef, undef, undef, undef, undef, undef, undef, undef, undef, undef, undef, undef, undef, undef, undef, undef, undef, undef, undef, undef, undef, undef, undef, undef, undef, undef, undef, undef, undef, undef, undef], defers := [] })
    (fun x a' _ X Y row hs hg hr => by obtain ⟨Bx, h1, h2, h3⟩ := hs; exact ⟨Bx, h1, box_kept h2 hg (fun r e => (hr r e).2), h3⟩)
    ?assign ?body ?done ?stop
  case assign =>
    rintro l pre x W K hI hK
    dsimp only [Piece.enc]
    gi_wp2
    have hbig := hI.big
    obtain ⟨v, b1, b2⟩ := hI.box
    exact hK _ _ ((KeepsOthers.alloc _ _).from _) (KeptB.alloc _ _ _ W _ (by omega) (by omega) (by omega)) ⟨⟨v, b1.alloc _, b2.below ((Below.refl _ W).alloc (Nat.le_refl _) _)⟩, hI.fault.alloc _, hI.res.alloc _, hI.below.alloc (by omega) _, hI.fine, by simp; omega, hI.cb1.imp fun _ h => h.alloc _, hI.cb2.imp fun _ h => h.alloc _⟩ ⟨W.heap.size, by omega, Boxed.new W _ _, rfl⟩
  case body =>
    rintro l pre x a' W hl ⟨r, hr⟩ hI ⟨Bx, hBx, bX, rfl⟩ hlt
    have hbig := hI.big
    have cX := bX.cell
    have hplen := x.len
    have hbx : BytesB w.heap.size W x.a x.p := x.bytes (hA.b.below hI.below)
    have hox := x.octets ho
    have hpm : x.p.length ≤ maxLen := by omega
    have HB := Lib.hid hbx
    have HO := Lib.hid hox
    clear hbx hox
    by_cases h65 : 65536 < x.p.length
    · have hd : decide (65536 < (x.p.length : Int)) = true := decide_eq_true (by omega)
      have f0 := hI.fault.c0
      have f1 := hI.fault.c1
      have g0 := hI.fault.frozen 0
      have g1 := hI.fault.frozen 1
      gi_wp2
      refine ⟨((KeepsOthers.setCell _ _ _).trans (KeepsOthers.setCell _ _ _)).from _, rfl, ⟨(4, x.f), ?_, hI.fault.set _ _⟩, (hI.res.other _ (by simp; omega) _).other _ (by simp; omega) _, (hI.below.setCell (by simp; omega) _).setCell (by simp; omega) _⟩
      rw [List.map_append, List.map_cons, List.map_nil, find_snoc hI.fine]
      exact lineF_long h65
    · have hd : decide (65536 < (x.p.length : Int)) = false := decide_eq_false (by omega)
      have h1' : 1 ≤ 8 - 1 - 1 := by omega
      cases hov : over x.p with
      | true =>
        have HV := Lib.hid hov
        clear hov
        gi_wp2_with (refine ⟨trivial, ?_⟩; gi_at_call 80; refine (CallsIn.inRound l (callsIn_wide.2 (over_any x.a x.k x.p _ _ HB.out hpm))).mono ?_; rw [HV.out]; rintro e w' ⟨rfl, rfl⟩)
        refine ⟨KeepsFrom.refl _ _, KeptB.refl _ _ _ _, ?_⟩
        obtain ⟨v, b1, b2⟩ := hI.box
        refine ⟨⟨v, b1, ?_⟩, hI.fault, hI.res, hI.below, ?_, hI.big, hI.cb1, hI.cb2⟩
        · rw [List.map_append, List.map_cons, List.map_nil, keep_snoc, lineL_over HV.out]; simpa using b2
        · rw [List.map_append, List.map_cons, List.map_nil, find_snoc hI.fine]; exact lineF_over h65 HV.out
      | false =>
        have HV := Lib.hid hov
        clear hov
        gi_wp2_with (refine ⟨trivial, ?_⟩; first
          | (gi_at_call 80; refine (CallsIn.inRound l (callsIn_wide.2 (over_any x.a x.k x.p _ _ HB.out hpm))).mono ?_; rw [HV.out]; rintro e w' ⟨rfl, rfl⟩)
          | (gi_at_call 79; refine (CallsIn.inRound l (cut_in Fence.wide _ trivial rfl _ _ _ _ _)).mono ?_; rintro e w' ⟨rfl, rfl⟩))
        have bN1 : Boxed (((W.alloc (.cells #[.slice none 0 0] 115)).alloc (.cells #[.slice x.a x.p.length x.k] 78)).alloc (.cells #[.int .u8 32] 5)) W.heap.size 115 (.slice none 0 0) := ((Boxed.new W _ _).alloc _).alloc _
        have bN2 : Boxed (((W.alloc (.cells #[.slice none 0 0] 115)).alloc (.cells #[.slice x.a x.p.length x.k] 78)).alloc (.cells #[.int .u8 32] 5)) (W.heap.size + 1) 78 (.slice x.a x.p.length x.k) := by
          have := (Boxed.new (W.alloc (.cells #[.slice none 0 0] 115)) 78 (.slice x.a x.p.length x.k)).alloc (.cells #[.int .u8 32] 5); rwa [World.size_alloc] at this
        have bN3 : Boxed (((W.alloc (.cells #[.slice none 0 0] 115)).alloc (.cells #[.slice x.a x.p.length x.k] 78)).alloc (.cells #[.int .u8 32] 5)) (W.heap.size + 1 + 1) 5 (.int .u8 32) := by
          have := Boxed.new ((W.alloc (.cells #[.slice none 0 0] 115)).alloc (.cells #[.slice x.a x.p.length x.k] 78)) 5 (.int .u8 32); rwa [World.size_alloc, World.size_alloc] at this
        have hBW : Below W.heap.size W (((W.alloc (.cells #[.slice none 0 0] 115)).alloc (.cells #[.slice x.a x.p.length x.k] 78)).alloc (.cells #[.int .u8 32] 5)) := (((Below.refl _ W).alloc (Nat.le_refl _) _).alloc (by simp) _).alloc (by simp; omega) _
        have hKW : KeepsFrom W0.heap.size W (((W.alloc (.cells #[.slice none 0 0] 115)).alloc (.cells #[.slice x.a x.p.length x.k] 78)).alloc (.cells #[.int .u8 32] 5)) := (((KeepsOthers.alloc _ _).trans (KeepsOthers.alloc _ _)).trans (KeepsOthers.alloc _ _)).from _
        have hszW : (((W.alloc (.cells #[.slice none 0 0] 115)).alloc (.cells #[.slice x.a x.p.length x.k] 78)).alloc (.cells #[.int .u8 32] 5)).heap.size = W.heap.size + 3 := by simp
        obtain ⟨W1, hW1⟩ : ∃ W1, ((W.alloc (.cells #[.slice none 0 0] 115)).alloc (.cells #[.slice x.a x.p.length x.k] 78)).alloc (.cells #[.int .u8 32] 5) = W1 := ⟨_, rfl⟩
        rw [hW1] at bN1 bN2 bN3 hBW hKW hszW ⊢
        clear hW1
        have hr' : W1.heap[l]? = some (.loop r) := (hBW.block l (Array.getElem?_eq_some_iff.1 hr).1).trans hr
        have hBx2 : Bx < W.heap.size := bX.lt
        refine wpIn_rangeFunc_ownN (l₀ := l) (r₀ := r) rfl hr' h1' (gf := 101) (lb := #[.pointer (some ⟨W.heap.size + 1, 0, none⟩), .pointer (some ⟨W.heap.size + 1 + 1, 0, none⟩)]) rfl trivial (enters_of Tryz.func101 (by kernel_rfl) rfl)
          ((cut_stops Fence.wide (8 - 1 - 1 - 1) trivial rfl (by omega) (W.heap.size + 1) (W.heap.size + 1 + 1) w.heap.size x.a x.k x.p 32 x.cap hpm W1 (by omega) (by omega) (by omega) bN2.cell bN3.cell (HB.out.below (hBW.mono (by omega)))).inRound l) KeptB.trans (KeptB.put (by omega) (by omega) (by omega)) (Below.refl _ _) (fun _ => rfl)
          (fun pre' W' => InI W0.heap.size x.f W (pre'.map Piece.pr) W')
          (fun cd pre' W' => cd = .exit 0 ∧ InX w.heap.size W0.heap.size x.f W (pre'.map Piece.pr) W')
          (fun pre' X Y row hs hg hr => hs.kept (by omega) hg hr)
          (fun cd pre' X Y row hs hg hr => ⟨hs.1, hs.2.kept (by omega) (by omega) hg hr⟩)
          ⟨⟨_, bN1, World.ownsRow_nil _ _ _ _⟩, hBW, hKW, rfl, ⟨_, bN2⟩, ⟨_, bN3⟩⟩
          (fun y a'' _ => a'' = { tmps := #[.slice A bs.length c, undef, .slice none 0 0, .pointer (some ⟨w.heap.size, 0, none⟩), .pointer (some ⟨w.heap.size + 1, 0, none⟩), .pointer (some ⟨w.heap.size + 1 + 1, 0, none⟩), .pointer (some ⟨Bx, 0, none⟩), .slice x.a x.p.length x.k, .pointer (some ⟨W.heap.size, 0, none⟩), .int .i64 y.f, .slice y.a y.p.length y.k, undef, .slice A bs.length c, .int .i64 bs.length, .bool false, undef, .slice A bs.length c, .func (.func 101) #[] #[.pointer (some ⟨w.heap.size + 1 + 1 + 1, 0, none⟩), .pointer (some ⟨w.heap.size + 1 + 1 + 1 + 1, 0, none⟩)], .int .i64 x.f, .slice x.a x.p.length x.k, .slice x.a x.p.length x.k, .int .i64 x.p.length, .bool false, undef, undef, .slice x.a x.p.length x.k, .bool false, .slice x.a x.p.length x.k, .func (.func 101) #[] #[.pointer (some ⟨W.heap.size + 1, 0, none⟩), .pointer (some ⟨W.heap.size + 1 + 1, 0, none⟩)], .int .i64 y.f, .slice y.a y.p.length y.k, undef, undef, undef, undef, undef, undef, undef, undef, undef, undef, undef, undef, undef, undef, undef, undef, undef, undef, undef, undef, undef, undef, undef, undef, undef, undef, undef, undef, undef, undef, undef], defers := [] })
          (fun _ _ _ _ _ _ hs _ _ => hs)
          ?assign2 ?body2 ?done2 ?stop2
        case assign2 =>
          rintro l2 pre' y W' K hI2 hK
          dsimp only [Piece.enc]
          gi_wp2
          exact hK _ _ (KeepsFrom.refl _ _) (KeptB.refl _ _ _ _) hI2 rfl
        case body2 =>
          rintro l2 pre' y a'' W' _ _ hI2 rfl hlt2
          obtain ⟨v, bW, rW⟩ := hI2.box
          have cX2 : W'.cell? ⟨Bx, 0, none⟩ = some (.int .i64 x.f) := (hI2.below.cell (p := ⟨Bx, 0, none⟩) hBx2).trans cX
          have hylen := y.len
          have hby : BytesB w.heap.size W' y.a y.p := y.bytes (HB.out.below (hI2.below.mono (by omega)))
          have hoy := y.octets HO.out
          have hym : y.p.length ≤ maxLen := by omega
          have HBy := Lib.hid hby
          have HOy := Lib.hid hoy
          clear hby hoy
          cases hfw : fw y.p with
          | some k =>
            have hk := fw_lt hfw
            have HF := Lib.hid hfw
            have HFI := Lib.hid (fwI_some hfw)
            have fP : Pair2 W' (w.heap.size + 1 + 1) 29 (.int .i64 0) (.int .i64 0) := hI.fault.of (hI2.below.block _ (by omega))
            have f0 := fP.c0
            have f1 := fP.c1
            have g0 := fP.frozen 0
            have g1 := fP.frozen 1
            have hge : decide ((0 : Int) ≤ (k : Int)) = true := decide_eq_true (by omega)
            have hm1 : x.f + y.f + k ≤ 67108864 := by omega
            clear hfw
            gi_wp2_with (refine ⟨trivial, ?_⟩; gi_at_call 81; refine (CallsIn.inRound l2 (callsIn_wide.2 (wrong_any y.a y.k y.p _ _ HBy.out HOy.out hym))).mono ?_; rw [HFI.out]; rintro e w' ⟨rfl, rfl⟩)
            refine ⟨((KeepsOthers.setCell _ _ _).trans (KeepsOthers.setCell _ _ _)).from _, rfl, ⟨(5, y.f + x.f + k), ?_, ?_⟩, ?_, ?_, hI2.keeps.trans (((KeepsOthers.setCell _ _ _).trans (KeepsOthers.setCell _ _ _)).from _)⟩
            · rw [List.map_append, List.map_cons, List.map_nil, List.map_append, List.map_cons, List.map_nil, find_snoc hI2.fine]
              exact wordF_some (x := shift x.f y.pr) HF.out
            · have := fP.set (.int .i64 5) (.int .i64 ((x.f : Int) + y.f + k))
              rw [show (((5, y.f + x.f + k) : Nat × Nat).2 : Int) = (x.f : Int) + y.f + k by simp; omega]
              exact this
            · rw [Below.heap_setCell _ _ _ _ (by simp; omega), Below.heap_setCell _ _ _ _ (by simp; omega)]
              exact hI2.below.block _ (by omega)
            · exact ((hI2.below.mono (by omega)).setCell (p := ⟨w.heap.size + 1 + 1, 0, none⟩) (by simp; omega) _).setCell (p := ⟨w.heap.size + 1 + 1, 1, none⟩) (by simp; omega) _
          | none =>
            have HF := Lib.hid hfw
            have HFI := Lib.hid (fwI_none hfw)
            have hcv := conv_some _ W' y.a y.k y.p HBy.out (fw_none_inv hfw).1
            have cW := bW.cell
            have hm1 : x.f + y.f ≤ 67108864 := by omega
            clear hfw
            have hpl : pre'.length ≤ x.p.length + 1 := by have := cuts_len 32 x.p 0; omega
            rw [List.length_map] at rW
            have hwb := hI2.below.size
            have hml2 : pre'.length + 1 ≤ maxLen := by unfold maxLen; omega
            gi_wp2_with (first
              | (gi_at_builtin; refine wpListIn_append_own _ rfl _ _ 115 rfl W.heap.size 144 i0 (.agg #[.string ⟨#[]⟩, .int .i64 0]) 2 24 Tryz.underlying115 hi hz0 hz1 hz2 rfl (by decide) _ _ _ rfl (rW.alloc _) ⟨W'.heap.size, 0, none⟩ 1 1 [.string (strOfNums y.p), .int .i64 ((x.f : Int) + y.f)] rfl rfl (cell_two_new _ _ _ _) (by simp [Value.oneCell']) hml2 (by omega) (by simp; omega) ?_; intro v' w1 hown' hgrow _; obtain ⟨g', cap', rfl⟩ := ownsRow_succ hown'; obtain ⟨hv1, hv2, hr2, hk2, hb2⟩ := bW.appended (by decide) rW hwb (Nat.le_refl _) hown' hgrow; have hc1 := hv1.cell; have hf1 := hv1.frozen)
              | (refine ⟨trivial, ?_⟩; gi_at_call 81; refine (CallsIn.inRound l2 (callsIn_wide.2 (wrong_any y.a y.k y.p _ _ HBy.out HOy.out hym))).mono ?_; rw [HFI.out]; rintro e w' ⟨rfl, rfl⟩))
            obtain ⟨u1, hu1⟩ := hI2.cb1
            obtain ⟨u2, hu2⟩ := hI2.cb2
            have e1 := grown_box (z := .slice (some ⟨g', 0, none⟩) (pre'.length + 1) cap') (B' := W.heap.size) hu1 (by decide) rW hgrow (by omega)
            have e2 := grown_box (z := .slice (some ⟨g', 0, none⟩) (pre'.length + 1) cap') (B' := W.heap.size) hu2 (by decide) rW hgrow (by omega)
            refine ⟨hk2.from _, ⟨hb2.mono (by omega), e1, e2⟩, ⟨_, hv2, ?_⟩, hI2.below.trans hb2, hI2.keeps.trans (hk2.from _), ?_, ⟨_, boxed_of hu1 e1⟩, ⟨_, boxed_of hu2 e2⟩⟩
            · rw [List.map_append, List.map_cons, List.map_nil, List.map_append, List.map_cons, List.map_nil, wordCells_snoc, List.length_append, List.length_map]
              have e3 : (((shift x.f y.pr).1 : Nat) : Int) = (x.f : Int) + y.f := by simp [shift, Piece.pr]; omega
              rw [e3]; exact hr2
            · rw [List.map_append, List.map_cons, List.map_nil, List.map_append, List.map_cons, List.map_nil, find_snoc hI2.fine]
              exact wordF_none (x := shift x.f y.pr) HF.out
        case done2 =>
          rintro ys W' hys hI2
          obtain ⟨v2, bW, rW⟩ := hI2.box
          have hfine := hI2.fine
          rw [hys] at rW hfine
          have HFine := Lib.hid hfine
          obtain ⟨m, hm'⟩ : ∃ m, (cuts 32 0 x.p).length = m := ⟨_, rfl⟩
          rw [hm'] at rW
          have HM := Lib.hid hm'
          clear hm' hfine hys
          have cX2 : W'.cell? ⟨Bx, 0, none⟩ = some (.int .i64 x.f) := (hI2.below.cell (p := ⟨Bx, 0, none⟩) hBx2).trans cX
          obtain ⟨v, b1, b2⟩ := hI.box
          replace b1 : Boxed W' (w.heap.size + 1) 109 v := boxed_of b1 (hI2.below.block _ (by omega))
          replace b2 := b2.below hI2.below
          obtain ⟨zs, hzs, rL, rs⟩ := b2
          obtain ⟨A2, c2, rfl⟩ := row_one rW
          have cL := b1.cell
          have cW := bW.cell
          have hzl : zs.length + 1 ≤ 67108866 := by
            have h1 := congrArg List.length hzs
            have h2 := List.length_filterMap_le lineL (pre.map Piece.pr)
            have h3 := cuts_len 10 bs 0
            rw [List.length_map] at h1 h2
            omega
          have HZS := Lib.hid hzs
          clear hzs
          have hml2 : zs.length + 1 ≤ maxLen := by unfold maxLen; omega
          have hwb := hI2.below.size
          gi_wp2_with (gi_at_builtin; refine wpListIn_append_own _ rfl _ _ 109 rfl w.heap.size 121 i1 (.agg #[.int .i64 0, .slice none 0 0]) 2 32 Tryz.underlying109 ki kz0 kz1 kz2 rfl (by decide) _ _ _ rfl (rL.alloc _) ⟨W'.heap.size, 0, none⟩ 1 1 [.int .i64 x.f, .slice A2 m c2] rfl rfl (cell_two_new _ _ _ _) (by simp [Value.oneCell']) hml2 (by omega) (by simp; omega) ?_; intro v' w1 hown' hgrow _; obtain ⟨g', cap', rfl⟩ := ownsRow_succ hown'; obtain ⟨hv1, hv2, hr2, hk2, hb2⟩ := b1.appended (by decide) rL (by omega) (by omega) hown' hgrow; have hc1 := hv1.cell; have hf1 := hv1.frozen)
          obtain ⟨u1, hu1⟩ := hI.cb1
          obtain ⟨u2, hu2⟩ := hI.cb2
          replace hu1 := boxed_of hu1 (hI2.below.block _ (by omega))
          replace hu2 := boxed_of hu2 (hI2.below.block _ (by omega))
          have hfa := hI.fault.of (hI2.below.block _ (by omega))
          have hre := hI.res.of (hI2.below.block _ (by omega))
          have e1 := grown_box (z := .slice (some ⟨g', 0, none⟩) (zs.length + 1) cap') (B' := w.heap.size + 1) hu1 (by decide) rL hgrow (by omega)
          have e2 := grown_box (z := .slice (some ⟨g', 0, none⟩) (zs.length + 1) cap') (B' := w.heap.size + 1) hu2 (by decide) rL hgrow (by omega)
          have e3 := grown_pair (z := .slice (some ⟨g', 0, none⟩) (zs.length + 1) cap') (B' := w.heap.size + 1) hfa (by decide) rL hgrow (by omega)
          have e4 := grown_pair (z := .slice (some ⟨g', 0, none⟩) (zs.length + 1) cap') (B' := w.heap.size + 1) hre (by decide) rL hgrow (by omega)
          have hz : W'.ownsRow w.heap.size 144 2 (.slice A2 m c2) (cuts 32 x.f x.p).length (wordCells (cuts 32 x.f x.p)) := by
            rw [cuts_at 32 x.f, List.length_map, HM.out]
            exact row_mono rW (by omega)
          have hBW2 : Below w.heap.size W (w1.setCell ⟨w.heap.size + 1, 0, none⟩ (.slice (some ⟨g', 0, none⟩) (zs.length + 1) cap')) := (hI2.below.mono (by omega)).trans hb2
          refine ⟨hI2.keeps.trans (hk2.from _), ⟨hBW2, e1.trans (hI2.below.block _ (by omega)), e2.trans (hI2.below.block _ (by omega))⟩, ⟨_, hv2, ?_⟩, hfa.of e3, hre.of e4, hI.below.trans hBW2, ?_, Nat.le_trans hbig (Nat.le_trans hwb hb2.size), ⟨_, boxed_of hu1 e1⟩, ⟨_, boxed_of hu2 e2⟩⟩
          · have := lines_appended (z := ((x.f, cuts 32 x.f x.p), .slice A2 m c2)) b1 rL rs hz hown' hgrow
            rw [List.map_append, HZS.out] at this
            rw [List.map_append, List.map_cons, List.map_nil, keep_snoc, lineL_words (x := x.pr) HV.out]
            exact this
          · rw [List.map_append, List.map_cons, List.map_nil, find_snoc hI.fine, lineF_words (x := x.pr) h65 HV.out]
            show (cuts 32 x.f x.p).findSome? wordF = none
            rw [cuts_at]; exact HFine.out
        case stop2 =>
          rintro cd pre' W' hpre ⟨rfl, hX⟩
          have HPre := Lib.hid hpre
          clear hpre
          gi_wp2
          obtain ⟨f, hf, fP⟩ := hX.fault
          refine ⟨hX.keeps, rfl, ⟨f, ?_, fP⟩, hI.res.of hX.res, hI.below.trans hX.below⟩
          rw [List.map_append, List.map_cons, List.map_nil, find_snoc hI.fine, lineF_words (x := x.pr) h65 HV.out]
          show (cuts 32 x.f x.p).findSome? wordF = some f
          rw [cuts_at]
          exact find_prefix (HPre.out.map _) hf
  case done =>
    rintro D ys W hD hys hI hK
    obtain ⟨v, b1, b2⟩ := hI.box
    have hfine := hI.fine
    rw [hys] at hfine b2
    have HF := Lib.hid (text_none hm hfine)
    have HO := Lib.hid b2
    clear hys hfine b2
    obtain ⟨zs, hzs, rL, rs⟩ := HO.out
    have HZ := Lib.hid hzs
    clear hzs
    obtain ⟨A2, c2, rfl⟩ := row_one rL
    have cL := b1.cell
    have f0 := hI.fault.c0
    have f1 := hI.fault.c1
    have r0 := hI.res.c0
    have r1 := hI.res.c1
    have q0 := hI.res.frozen 0
    have q1 := hI.res.frozen 1
    gi_wp2
    rw [Exit.noGoto_ret]
    have hKO : KeepsOthers W ((W.setCell ⟨w.heap.size, 0, none⟩ (.int .i64 0)).setCell ⟨w.heap.size, 1, none⟩ (.int .i64 0)) := (KeepsOthers.setCell _ _ _).trans (KeepsOthers.setCell _ _ _)
    have hK' := hKO.same D _ hK rfl
    have hP := hI.res.set (.int .i64 0) (.int .i64 0)
    refine ⟨by simp, .inl ⟨_, _, rfl, run_takeDeferred hK', ?_⟩⟩
    have hBe : Below w.heap.size w (((W.setCell ⟨w.heap.size, 0, none⟩ (.int .i64 0)).setCell ⟨w.heap.size, 1, none⟩ (.int .i64 0)).putObj D (.deferred none)) :=
      ((hI.below.setCell (p := ⟨w.heap.size, 0, none⟩) (Nat.le_refl _) _).setCell (p := ⟨w.heap.size, 1, none⟩) (Nat.le_refl _) _).trans (belowK_b (w := w) (Nat.le_refl _) _ D _ _ (by omega) hK' rfl rfl)
    have hP2 : Pair2 (((W.setCell ⟨w.heap.size, 0, none⟩ (.int .i64 0)).setCell ⟨w.heap.size, 1, none⟩ (.int .i64 0)).putObj D (.deferred none)) w.heap.size 29 (.int .i64 0) (.int .i64 0) := hP.of (World.putObj_heap_other (by omega))
    have p0 := hP2.c0
    have p1 := hP2.c1
    refine ⟨.tuple #[.slice A2 zs.length c2, .agg #[.int .i64 0, .int .i64 0]], by simp [results, Tryz.f57, go_sem, p0, p1], .slice A2 zs.length c2, ?_, ?_, hBe⟩
    · rw [textE, textP, HF.out]
    · rw [textL, if_pos HF.out]
      have hset : ∀ (X : World) (j : Nat) (u : Value), OwnLines X w.heap.size (.slice A2 zs.length c2) ((cuts 10 0 bs).filterMap lineL) → (∃ a b, Pair2 X w.heap.size 29 a b) → OwnLines (X.setCell ⟨w.heap.size, j, none⟩ u) w.heap.size (.slice A2 zs.length c2) ((cuts 10 0 bs).filterMap lineL) := by
        rintro X j u hX ⟨a, b, hab⟩
        refine hX.kept (row := some w.heap.size) ⟨rfl, rfl, rfl, by simp [World.setCell], fun k _ hk => Below.heap_setCell _ _ _ k (fun e => hk (by rw [e]))⟩ fun r e => ?_
        cases e
        exact ⟨_, hab, fun cs => ⟨by simp, by simp⟩⟩
      have h1 := hset W 0 (.int .i64 0) HO.out ⟨_, _, hI.res⟩
      have h2 := hset _ 1 (.int .i64 0) h1 ⟨.int .i64 0, .int .i64 0, heap_setCell_same W w.heap.size 0 #[.int .i64 0, .int .i64 0] _ _ hI.res⟩
      exact lines_kept h2 (grownBy_putObj' _ D (.deferred none)) (fun r e => by cases e; exact ⟨_, hK', rfl⟩)
  case stop =>
    rintro D cd pre W hD hpre ⟨rfl, hX⟩ hK
    obtain ⟨f, hf, fP⟩ := hX.fault
    have HF := Lib.hid (text_some hm (find_prefix hpre hf))
    obtain ⟨fx, _, hfx⟩ := find_one hf
    have h45 := lineF_not hfx
    have hne : ((f.1 : Int) == 0) = false := beq_eq_false_iff_ne.2 (by omega)
    have f0 := fP.c0
    have f1 := fP.c1
    have r0 := hX.res.c0
    have r1 := hX.res.c1
    have q0 := hX.res.frozen 0
    have q1 := hX.res.frozen 1
    clear hf hfx hpre
    gi_wp2
    gi_region
    gi_wp2
    rw [Exit.noGoto_ret]
    have hKO : KeepsOthers W ((W.setCell ⟨w.heap.size, 0, none⟩ (.int .i64 f.1)).setCell ⟨w.heap.size, 1, none⟩ (.int .i64 f.2)).drew := ((KeepsOthers.setCell _ _ _).trans (KeepsOthers.setCell _ _ _)).trans (KeepsOthers.drew _)
    have hK' := hKO.same D _ hK rfl
    have hP := hX.res.set (.int .i64 f.1) (.int .i64 f.2)
    refine ⟨by simp, .inl ⟨_, _, rfl, run_takeDeferred hK', ?_⟩⟩
    have hBe : Below w.heap.size w (((W.setCell ⟨w.heap.size, 0, none⟩ (.int .i64 f.1)).setCell ⟨w.heap.size, 1, none⟩ (.int .i64 f.2)).drew.putObj D (.deferred none)) :=
      (((hX.below.setCell (p := ⟨w.heap.size, 0, none⟩) (Nat.le_refl _) _).setCell (p := ⟨w.heap.size, 1, none⟩) (Nat.le_refl _) _).drew).trans (belowK_b (w := w) (Nat.le_refl _) _ D _ _ (by omega) hK' rfl rfl)
    have hP2 : Pair2 (((W.setCell ⟨w.heap.size, 0, none⟩ (.int .i64 f.1)).setCell ⟨w.heap.size, 1, none⟩ (.int .i64 f.2)).drew.putObj D (.deferred none)) w.heap.size 29 (.int .i64 f.1) (.int .i64 f.2) := Pair2.of (W := ((W.setCell ⟨w.heap.size, 0, none⟩ (.int .i64 f.1)).setCell ⟨w.heap.size, 1, none⟩ (.int .i64 f.2)).drew) hP (World.putObj_heap_other (by omega))
    have p0 := hP2.c0
    have p1 := hP2.c1
    refine ⟨.tuple #[.slice none 0 0, .agg #[.int .i64 f.1, .int .i64 f.2]], by simp [results, Tryz.f57, go_sem, p0, p1], .slice none 0 0, ?_, ?_, hBe⟩
    · rw [textE, textP, HF.out]
    · rw [textL, if_neg (by rw [HF.out]; simp)]
      exact OwnLines.nil _ _

set_option maxHeartbeats 1000000 in
theorem lines_long (A : Option Addr) (c : Nat) (bs : List Int) (w : World) (hm : 67108864 < bs.length) (hx : bs.length ≤ maxLen) :
    Calls Tryz.prog 57 #[.slice A bs.length c] w (LinesPost bs w) := by
  have hd0 : decide (67108864 < (bs.length : Int)) = true := decide_eq_true (by omega)
  have HF : Hid (textF bs = some (4, 67108864)) := Lib.hid (by unfold textF; rw [if_pos hm])
  unfold maxLen at hx
  go_enter Tryz.func57, Tryz.ntmps57
  go_wp2
  go_step3
  go_wp2
  rw [Exit.noGoto_ret]
  refine bodyPost_ret (v := .tuple #[.slice none 0 0, .agg #[.int .i64 4, .int .i64 67108864]]) (by simp [results, Tryz.f57, go_sem]) rfl ?_
  refine ⟨.slice none 0 0, ?_, ?_, ?_⟩
  · rw [textE, textP, HF.out]; rfl
  · rw [textL, if_neg (by rw [HF.out]; simp)]
    exact OwnLines.nil _ _
  · exact (Below.refl _ w).alloc (Nat.le_refl _) _

/-- Lines, at every text. -/
theorem lines_any (A : Option Addr) (c : Nat) (bs : List Int) (w : World) (hA : Bytes w A bs) (ho : Octets bs) (hc : bs.length ≤ c) (hm : bs.length ≤ maxLen) :
    Calls Tryz.prog 57 #[.slice A bs.length c] w (LinesPost bs w) := by
  by_cases h : bs.length ≤ 67108864
  · exact lines_main A c bs w hA ho hc h
  · exact lines_long A c bs w (by omega) hm
end Go.Proofs.YtpdbkjnaicjfdaaGreatDoor

namespace Go.Proofs.YtpdbkjnaicjfdaaGreatDoor
open Go.RowKit
set_option linter.unusedVariables false

theorem cell_lt {w : World} {a : Addr} {v : Value} (h : w.cell? a = some v) : a.block < w.heap.size := by
  rcases Nat.lt_or_ge a.block w.heap.size with hlt | hge
  · exact hlt
  · rw [World.cell?, Array.getElem?_eq_none hge] at h; cases h

theorem texts_at {w : World} {a : Addr} {ss : List ByteArray} (h : ∀ i, i < ss.length → w.cell? (a.add i) = some (.string (ss.getD i ByteArray.empty))) (hp : 0 < ss.length) :
    ∃ b off, a = ⟨b, off, none⟩ ∧ ∀ j, j < ss.length → w.cell? ⟨b, off + j, none⟩ = some (.string (ss.getD j ByteArray.empty)) := by
  obtain ⟨b, off, spot⟩ := a
  have hspot : spot = none := by simpa [Addr.add] using World.cell?_spot (h 0 hp)
  subst hspot
  exact ⟨b, off, rfl, fun j hj => by rw [← Go.WideShapes.add_plain]; exact h j hj⟩

theorem octet_wf {x : Int} (h : (Lit.int .u8 x).wf = true) : 0 ≤ x ∧ x ≤ 255 := by
  simp [Lit.wf, IntKind.min, IntKind.max, IntKind.signed, IntKind.bits] at h
  omega

/-- What a row tells of a slice of bytes. -/
theorem row_bytes {w : World} {A : Option Addr} {len cap : Nat} {zs : List Int}
    (h : (A = none ∧ len = 0 ∧ cap = 0 ∧ zs = []) ∨ ∃ x, A = some x ∧ len ≤ cap ∧ cap ≤ maxLen ∧ zs.length = cap ∧ (∀ i, i < zs.length → w.cell? (x.add i) = some (.int .u8 (zs.getD i 0))) ∧ ∀ n ∈ zs, (Lit.int .u8 n).wf = true) :
    ∃ l : List Int, l.length = len ∧ Bytes w A l ∧ Octets l ∧ len ≤ cap ∧ len ≤ maxLen ∧ (A = none → cap = 0) := by
  rcases h with ⟨rfl, rfl, rfl, rfl⟩ | ⟨x, rfl, hl, hm, hz, hc, hw⟩
  · exact ⟨[], rfl, fun h => absurd h (by simp), (fun _ h => by cases h), Nat.zero_le _, Nat.zero_le _, fun _ => rfl⟩
  · refine ⟨zs.take len, by rw [List.length_take]; omega, ?_, fun y hy => octet_wf (hw y (List.mem_of_mem_take hy)), hl, by omega, fun e => by cases e⟩
    intro hp
    rw [List.length_take] at hp
    obtain ⟨b, off, rfl, hc'⟩ := ints_at hc (by omega)
    refine ⟨b, off, rfl, cell_lt (hc' 0 (by omega)), fun j hj => ?_⟩
    rw [List.length_take] at hj
    rw [hc' j (by omega), List.getElem?_take, if_pos (by omega)]
    rfl
end Go.Proofs.YtpdbkjnaicjfdaaGreatDoor

namespace Go.Proofs.YtpdbkjnaicjfdaaGreatDoor
open Go.RowKit
set_option linter.unusedVariables false

/-- Words at their places. -/
def wat : Nat → List ByteArray → List Wd
  | _, [] => []
  | o, s :: r => (o, nums s) :: wat (o + s.size + 1) r

theorem wat_len : ∀ (ss : List ByteArray) (o : Nat), (wat o ss).length = ss.length
  | [], _ => rfl
  | s :: r, o => by rw [wat, List.length_cons, List.length_cons, wat_len r]

theorem wat_get : ∀ (ss : List ByteArray) (o k : Nat), k < ss.length → (wat o ss)[k]? = some (o + szs (ss.take k) + k, nums (ss[k]?.getD ⟨#[]⟩))
  | [], _, _, h => by cases h
  | s :: r, o, 0, _ => by simp [wat, szs]
  | s :: r, o, k + 1, h => by
    rw [wat, List.getElem?_cons_succ, wat_get r _ k (by simpa using h), List.take_succ_cons, List.getElem?_cons_succ]
    have e : szs (s :: r.take k) = s.size + szs (r.take k) := by simp [szs]
    rw [e]
    congr 2
    omega

theorem fine_mem {ss : List ByteArray} (h : fineW ss = true) {s : ByteArray} (hs : s ∈ ss) : fw (nums s) = none := by
  have := List.all_eq_true.1 h s hs
  cases e : fw (nums s) with
  | none => rfl
  | some k => rw [e] at this; cases this

theorem bad_ten : bad 10 = true := by decide
theorem word_no {l : List Int} (h : fw l = none) : (32 : Int) ∉ l ∧ (10 : Int) ∉ l := by
  have hg := (fw_none_inv h).2
  exact ⟨fun e => by have h2 := hg _ e; revert h2; decide, fun e => by have h2 := hg _ e; revert h2; decide⟩

theorem jl_cuts : ∀ (ss : List ByteArray) (o : Nat), ss ≠ [] → fineW ss = true → cuts 32 o (jl ss) = wat o ss
  | [], _, h, _ => absurd rfl h
  | [s], o, _, hf => by
    rw [jl_one, cuts_none _ _ (word_no (fine_mem hf List.mem_cons_self)).1]; rfl
  | s :: t :: r, o, _, hf => by
    have e1 : jl (s :: t :: r) = nums s ++ 32 :: jl (t :: r) := rfl
    have hf2 : fineW (t :: r) = true := List.all_eq_true.2 fun x hx => List.all_eq_true.1 hf x (List.mem_cons_of_mem _ hx)
    rw [e1, cuts_sep _ _ _ (word_no (fine_mem hf List.mem_cons_self)).1, jl_cuts (t :: r) _ (by simp) hf2, nums_len]; rfl

theorem jl_ten : ∀ (ss : List ByteArray), fineW ss = true → (10 : Int) ∉ jl ss
  | [], _ => by simp [jl, joined]
  | [s], hf => by rw [jl_one]; exact (word_no (fine_mem hf List.mem_cons_self)).2
  | s :: t :: r, hf => by
    have e1 : jl (s :: t :: r) = nums s ++ 32 :: jl (t :: r) := rfl
    have hf2 : fineW (t :: r) = true := List.all_eq_true.2 fun x hx => List.all_eq_true.1 hf x (List.mem_cons_of_mem _ hx)
    have h1 := (word_no (fine_mem hf List.mem_cons_self)).2
    have h2 := jl_ten (t :: r) hf2
    rw [e1]; simp only [List.mem_append, List.mem_cons, not_or]
    exact ⟨h1, by decide, h2⟩

theorem wat_fine : ∀ (ss : List ByteArray) (o : Nat), fineW ss = true → (wat o ss).findSome? wordF = none
  | [], _, _ => rfl
  | s :: r, o, hf => by
    have hf2 : fineW r = true := List.all_eq_true.2 fun x hx => List.all_eq_true.1 hf x (List.mem_cons_of_mem _ hx)
    rw [wat, List.findSome?_cons, wordF_none (x := (o, nums s)) (fine_mem hf List.mem_cons_self)]
    exact wat_fine r _ hf2

theorem jl_over (ss : List ByteArray) (h : joinOk ss = true) : over (jl ss) = false ∧ fineW ss = true ∧ ss ≠ [] := by
  unfold joinOk at h
  rw [Bool.and_eq_true] at h
  obtain ⟨hf, ho⟩ := h
  refine ⟨?_, hf, fun e => by subst e; cases ho⟩
  cases ss with
  | nil => cases ho
  | cons s r =>
    have ho' : over (nums s) = false := by simpa using ho
    have hne := (fw_none_inv (fine_mem hf List.mem_cons_self)).1
    have e1 : ∃ q, jl (s :: r) = nums s ++ q := by
      cases r with
      | nil => exact ⟨[], by rw [jl_one]; simp⟩
      | cons t r => exact ⟨32 :: jl (t :: r), rfl⟩
    obtain ⟨q, hq⟩ := e1
    rw [hq]
    cases hn : nums s with
    | nil => exact absurd hn hne
    | cons x l => rw [hn] at ho'; exact ho'

/-- What is joined, behind other lines. -/
def backT (ss : List ByteArray) : List Int := [120, 32, 121, 10, 10, 35, 32, 32, 35, 10] ++ (jl ss ++ [10])

theorem back_cuts (ss : List ByteArray) (hf : fineW ss = true) : cuts 10 0 (backT ss) = [(0, [120, 32, 121]), (4, []), (5, [35, 32, 32, 35]), (10, jl ss), (10 + (jl ss).length + 1, [])] := by
  have e : backT ss = [120, 32, 121] ++ 10 :: ([] ++ 10 :: ([35, 32, 32, 35] ++ 10 :: (jl ss ++ 10 :: []))) := rfl
  rw [e, cuts_sep _ _ _ (by decide), cuts_sep _ _ _ (by decide), cuts_sep _ _ _ (by decide), cuts_sep _ _ _ (jl_ten ss hf)]
  rfl

theorem back_text (ss : List ByteArray) (h : joinOk ss = true) (hl : (jl ss).length ≤ 65536) : textF (backT ss) = none ∧ textL (backT ss) = [(0, [(0, [120]), (2, [121])]), (10, wat 10 ss)] := by
  obtain ⟨ho, hf, hne⟩ := jl_over ss h
  have hlen : (backT ss).length ≤ 67108864 := by simp [backT]; omega
  have h3 : lineF (10, jl ss) = none := by
    rw [lineF_words (x := (10, jl ss)) (by simp; omega) ho]
    show (cuts 32 10 (jl ss)).findSome? wordF = none
    rw [jl_cuts ss 10 hne hf]; exact wat_fine ss 10 hf
  have h1 : textF (backT ss) = none := by
    unfold textF
    rw [if_neg (by omega), back_cuts ss hf]
    simp only [List.findSome?_cons, List.findSome?_nil]
    rw [show lineF (0, [120, 32, 121]) = none by decide, show lineF (4, []) = none by decide, show lineF (5, [35, 32, 32, 35]) = none by decide, h3, lineF_over (x := (10 + (jl ss).length + 1, [])) (by simp) rfl]
  refine ⟨h1, ?_⟩
  rw [textL, if_pos h1, back_cuts ss hf]
  have e4 : lineL (10, jl ss) = some (10, wat 10 ss) := by
    rw [lineL_words (x := (10, jl ss)) ho]
    show some (10, cuts 32 10 (jl ss)) = _
    rw [jl_cuts ss 10 hne hf]
  have e5 : lineL (10 + (jl ss).length + 1, []) = none := lineL_over (x := (10 + (jl ss).length + 1, [])) rfl
  simp only [List.filterMap_cons, List.filterMap_nil]
  rw [show lineL (0, [120, 32, 121]) = some (0, [(0, [120]), (2, [121])]) by decide, show lineL (4, []) = none by decide, show lineL (5, [35, 32, 32, 35]) = none by decide, e4, e5]

theorem back_str (ss : List ByteArray) : (⟨#[120, 32, 121, 10, 10, 35, 32, 32, 35, 10]⟩ : ByteArray) ++ strOfNums (jl ss) ++ ⟨#[10]⟩ = strOfNums (backT ss) := by
  apply ByteArray.ext
  rw [ByteArray.data_append, ByteArray.data_append]
  simp [strOfNums, backT]
theorem jl_octets : ∀ (ss : List ByteArray), Octets (jl ss)
  | [] => fun x hx => by simp [jl, joined] at hx
  | [s] => nums_octets s
  | s :: t :: r => fun x hx => by
    have e1 : jl (s :: t :: r) = nums s ++ 32 :: jl (t :: r) := rfl
    rw [e1] at hx
    rcases List.mem_append.1 hx with h | h
    · exact nums_octets s x h
    · rcases List.mem_cons.1 h with rfl | h
      · omega
      · exact jl_octets (t :: r) x h
theorem back_octets (ss : List ByteArray) : Octets (backT ss) := fun x hx => by
  unfold backT at hx
  rcases List.mem_append.1 hx with h | h
  · simp at h; omega
  · rcases List.mem_append.1 h with h | h
    · exact jl_octets ss x h
    · simp at h; omega
end Go.Proofs.YtpdbkjnaicjfdaaGreatDoor

namespace Go.Proofs.YtpdbkjnaicjfdaaGreatDoor
open Go.RowKit
set_option linter.unusedVariables false

def ReadWords (B : Nat) (W : World) (A : Option Addr) (ws : List Wd) : Prop :=
  0 < ws.length → ∃ b off, A = some ⟨b, off, none⟩ ∧ b < B ∧ ∀ j, j < ws.length → W.cell? ⟨b, off + j * 2, none⟩ = some (.string (strOfNums (ws[j]?.getD (0, [])).2)) ∧ W.cell? ⟨b, off + j * 2 + 1, none⟩ = some (.int .i64 (ws[j]?.getD (0, [])).1)

def ReadLines (B : Nat) (W : World) (A : Option Addr) (ls : List Ln) : Prop :=
  0 < ls.length → ∃ b off, A = some ⟨b, off, none⟩ ∧ b < B ∧ ∀ j, j < ls.length → ∃ Aw cw, W.cell? ⟨b, off + j * 2, none⟩ = some (.int .i64 (ls[j]?.getD (0, [])).1) ∧ W.cell? ⟨b, off + j * 2 + 1, none⟩ = some (.slice Aw (ls[j]?.getD (0, [])).2.length cw) ∧ ReadWords B W Aw (ls[j]?.getD (0, [])).2

theorem ReadWords.below {B : Nat} {W W' : World} {A : Option Addr} {ws : List Wd} (h : ReadWords B W A ws) (hb : Below B W W') : ReadWords B W' A ws := fun hl => by
  obtain ⟨b, off, e, hlt, hc⟩ := h hl
  exact ⟨b, off, e, hlt, fun j hj => ⟨(hb.cell (p := ⟨b, off + j * 2, none⟩) hlt).trans (hc j hj).1, (hb.cell (p := ⟨b, off + j * 2 + 1, none⟩) hlt).trans (hc j hj).2⟩⟩
theorem ReadLines.below {B : Nat} {W W' : World} {A : Option Addr} {ls : List Ln} (h : ReadLines B W A ls) (hb : Below B W W') : ReadLines B W' A ls := fun hl => by
  obtain ⟨b, off, e, hlt, hc⟩ := h hl
  refine ⟨b, off, e, hlt, fun j hj => ?_⟩
  obtain ⟨Aw, cw, h1, h2, h3⟩ := hc j hj
  exact ⟨Aw, cw, (hb.cell (p := ⟨b, off + j * 2, none⟩) hlt).trans h1, (hb.cell (p := ⟨b, off + j * 2 + 1, none⟩) hlt).trans h2, h3.below hb⟩
theorem ReadWords.mono {B B' : Nat} {W : World} {A : Option Addr} {ws : List Wd} (h : ReadWords B W A ws) (hb : B ≤ B') : ReadWords B' W A ws := fun hl => by
  obtain ⟨b, off, e, hlt, hc⟩ := h hl
  exact ⟨b, off, e, by omega, hc⟩
theorem ReadLines.mono {B B' : Nat} {W : World} {A : Option Addr} {ls : List Ln} (h : ReadLines B W A ls) (hb : B ≤ B') : ReadLines B' W A ls := fun hl => by
  obtain ⟨b, off, e, hlt, hc⟩ := h hl
  refine ⟨b, off, e, by omega, fun j hj => ?_⟩
  obtain ⟨Aw, cw, h1, h2, h3⟩ := hc j hj
  exact ⟨Aw, cw, h1, h2, h3.mono hb⟩

theorem ReadLines.grow {W W' : World} {A : Option Addr} {ls : List Ln} (h : ReadLines W.heap.size W A ls) (hb : Below W.heap.size W W') : ReadLines W'.heap.size W' A ls := (h.below hb).mono hb.size

theorem flat2_even {α β : Type} (f g : α → β) : ∀ (l : List α) (j : Nat), (l.flatMap fun x => [f x, g x])[j * 2]? = l[j]?.map f
  | [], j => by simp
  | x :: r, 0 => by simp
  | x :: r, j + 1 => by
    have := flat2_even f g r j
    rw [List.flatMap_cons, show (j + 1) * 2 = j * 2 + 1 + 1 by omega]; simpa using this
theorem flat2_odd {α β : Type} (f g : α → β) : ∀ (l : List α) (j : Nat), (l.flatMap fun x => [f x, g x])[j * 2 + 1]? = l[j]?.map g
  | [], j => by simp
  | x :: r, 0 => by simp
  | x :: r, j + 1 => by
    have := flat2_odd f g r j
    rw [List.flatMap_cons, show (j + 1) * 2 + 1 = j * 2 + 1 + 1 + 1 by omega]; simpa using this

theorem read_row {W : World} {base : Nat} {A : Option Addr} {c : Nat} {ws : List Wd} (h : W.ownsRow base 144 2 (.slice A ws.length c) ws.length (wordCells ws)) : ReadWords W.heap.size W A ws := by
  intro hl
  rcases h.2 with ⟨e, hn⟩ | ⟨g, cap, cur, e, hb, hg, _⟩
  · omega
  · cases e
    refine ⟨g, 0, rfl, (Array.getElem?_eq_some_iff.1 hg).1, fun j hj => ?_⟩
    rw [Nat.zero_add, h.cellAt (j * 2) (by omega), h.cellAt (j * 2 + 1) (by omega)]
    unfold wordCells
    rw [flat2_even, flat2_odd, List.getElem?_eq_getElem hj]
    exact ⟨rfl, rfl⟩

theorem OwnLines.read {W : World} {base : Nat} {v : Value} {ls : List Ln} (h : OwnLines W base v ls) : ∃ A c, v = .slice A ls.length c ∧ ReadLines W.heap.size W A ls := by
  obtain ⟨zs, hz, hr, hw⟩ := h
  have hlen : zs.length = ls.length := by rw [← hz, List.length_map]
  rw [hlen] at hr
  obtain ⟨A, c, rfl⟩ := row_one hr
  refine ⟨A, c, rfl, fun hl => ?_⟩
  rcases hr.2 with ⟨e, hn⟩ | ⟨g, cap, cur, e, hb, hg, _⟩
  · omega
  · cases e
    refine ⟨g, 0, rfl, (Array.getElem?_eq_some_iff.1 hg).1, fun j hj => ?_⟩
    have hj' : j < zs.length := by omega
    have e1 : ls[j]?.getD (0, []) = zs[j].1 := by rw [← hz, List.getElem?_map, List.getElem?_eq_getElem hj']; rfl
    have hwj := hw _ (List.getElem_mem hj')
    obtain ⟨Aw, cw, ew⟩ := row_one hwj
    rw [ew] at hwj
    refine ⟨Aw, cw, ?_, ?_, ?_⟩
    · rw [Nat.zero_add, hr.cellAt (j * 2) (by omega)]
      unfold lineCells
      rw [flat2_even, List.getElem?_eq_getElem hj', e1]; rfl
    · rw [Nat.zero_add, hr.cellAt (j * 2 + 1) (by omega)]
      unfold lineCells
      rw [flat2_odd, List.getElem?_eq_getElem hj', e1]
      show some zs[j].2 = _
      rw [ew]
    · rw [e1]; exact read_row hwj

end Go.Proofs.YtpdbkjnaicjfdaaGreatDoor

namespace Go.Proofs.YtpdbkjnaicjfdaaGreatDoor
open Go
set_option linter.unusedVariables false

section
variable {P : Program} {ops : Array Oper} {Q : Exit → Act → World → Prop} {md : Region.Mode} {S : World → Prop}

/-- Either the tail alone is left, and it is well whatever comes; or something of the head may come up, and behind each such S holds, and so on. -/
def Till (P : Program) (md : Region.Mode) (ops : Array Oper) (Q : Exit → Act → World → Prop) (S : World → Prop) (n : Nat) : Nat → Array Bool → Act → World → Prop
  | 0, got, a, w => (∀ j ∈ Region.ready md ops got, n ≤ j) ∧ wpAny P md ops Q 0 got a w
  | f + 1, got, a, w => ((∀ j ∈ Region.ready md ops got, n ≤ j) ∧ wpAny P md ops Q (f + 1) got a w) ∨
      (Region.ready md ops got ≠ [] ∧ ∀ j ∈ Region.ready md ops got, wpOp P ops Q j (fun a' w' => S w' ∧ Till P md ops Q S n f (got.setIfInBounds j true) a' w') a w)

theorem Till.any {n : Nat} : ∀ {f : Nat} {got : Array Bool} {a : Act} {w : World}, Till P md ops Q S n f got a w → wpAny P md ops Q f got a w
  | 0, _, _, _, h => h.2
  | _ + 1, _, _, _, .inl h => h.2
  | _ + 1, _, _, _, .inr h => ⟨fun h0 => absurd h0 h.1, fun j hj => wpOp_mono (fun _ _ k => k.2.any) (h.2 j hj)⟩

/-- Behind number i: if the tail alone is left, nothing of the head may come up; else what the right side says. -/
theorem Till.at {n f j : Nat} {got : Array Bool} {a : Act} {w : World} (h : Till P md ops Q S n f got a w) (hj : j ∈ Region.ready md ops got) (hjn : j < n) :
    ∃ g, f = g + 1 ∧ wpOp P ops Q j (fun a' w' => S w' ∧ Till P md ops Q S n g (got.setIfInBounds j true) a' w') a w := by
  match f, h with
  | 0, h => exact absurd (h.1 j hj) (by omega)
  | _ + 1, .inl h => exact absurd (h.1 j hj) (by omega)
  | g + 1, .inr h => exact ⟨g, rfl, h.2 j hj⟩

theorem free_more {got : Array Bool} {i j : Nat} (h : Region.free md ops got i = true) : Region.free md ops (got.setIfInBounds j true) i = true := by
  unfold Region.free at h ⊢
  split
  · rename_i h0; rw [h0] at h; exact h
  · rename_i oi h0
    rw [h0] at h
    refine List.all_eq_true.2 fun k hk => ?_
    have h1 := List.all_eq_true.1 h k hk
    by_cases hjk : j = k
    · subst hjk
      rcases Nat.lt_or_ge j got.size with h2 | h2
      · simp [h2]
      · simp [h2]
    · rw [getD_set_ne true hjk]; exact h1

/-- Number i of the head may be taken first. -/
theorem Till.take {n i : Nat} {o : Oper} {v : Value} (ho : ops[i]? = some o) (hsel : Region.noSelect ops = true) (hQ : ∀ c a w, Q (.panic c) (a.put o.dst v) w → Q (.panic c) a w)
    (hs : Region.sinkB md ops n = true) (hc : Region.chainB md ops n = true) (hn : n < ops.size) (hin : i < n) :
    ∀ (f : Nat) (got : Array Bool) (a : Act) (w : World), HeadInv md ops n got → Region.free md ops got i = true → i ∈ Region.ready md ops got → YieldsIf P ops S o v a → S w →
      Till P md ops Q S n f (got.setIfInBounds i true) (a.put o.dst v) w → Till P md ops Q S n (f + 1) got a w
  | f, got, a, w, inv, hf, hr, hy, hS, H => by
    refine .inr ⟨List.ne_nil_of_mem hr, fun j hj => ?_⟩
    by_cases hji : j = i
    · rw [hji]; exact hy.wpOp ho hS ⟨hS, H⟩
    have hi0 := (mem_ready.1 hr).1
    have hjn : j < n := Nat.lt_of_not_le fun h => tail_waits hs hc hn inv _ i rfl hin hi0 j h hj
    obtain ⟨g, rfl, hstep⟩ := H.at (ready_mono hj hji) hjn
    obtain ⟨hj0, p, hp, hwait⟩ := mem_ready.1 hj
    have hap : o.apart ops p = true := Region.free_spec ho hf j p hp hji hj0 fun e he hb hon => by simpa [hon, getD_both hi0] using hwait e he hb
    refine wpOp_mono (fun a' w' k => ⟨k.2.1, ?_⟩) (wpOp_putIf hp hap (fun cs b => Region.noSelect_spec hsel i o cs b ho) (fun cs b => Region.noSelect_spec hsel j p cs b hp) hQ hy hstep)
    exact Till.take ho hsel hQ hs hc hn hin g _ a' w' (inv.set hj hjn) (free_more hf) (ready_mono hr (Ne.symm hji)) k.1 k.2.1 (by rw [Array.setIfInBounds_comm _ _ hji]; exact k.2.2)

/-- The first c operations yield in every world that meets S; the next is carried out; the others follow in their order. -/
def readsN (P : Program) (ops : Array Oper) (Q : Exit → Act → World → Prop) (S : World → Prop) (w : World) : Nat → List Oper → Act → Prop
  | 0, o :: l, a => ∃ v w1, Region.wanted o (yielded ops a.tmps) = true ∧ (execOp a.eval o).run P w = .ok (.value v) w1 ∧ S w1 ∧ wpList P ops Q l (a.put o.dst v) w1
  | c + 1, o :: l, a => ∃ v, YieldsIf P ops S o v a ∧ readsN P ops Q S w c l (a.put o.dst v)
  | _, [], _ => False

theorem readsN.cons {w : World} {c : Nat} {o : Oper} {l : List Oper} {a : Act} (v : Value) (h1 : Region.wanted o (yielded ops a.tmps) = true) (h2 : ∀ w, S w → (execOp a.eval o).run P w = .ok (.value v) w)
    (h : readsN P ops Q S w c l (a.put o.dst v)) : readsN P ops Q S w (c + 1) (o :: l) a := ⟨v, .inl ⟨h1, h2⟩, h⟩
theorem readsN.done {w : World} {o : Oper} {l : List Oper} {a : Act} (v : Value) (w1 : World) (h1 : Region.wanted o (yielded ops a.tmps) = true) (h2 : (execOp a.eval o).run P w = .ok (.value v) w1) (h3 : S w1)
    (h : wpList P ops Q l (a.put o.dst v) w1) : readsN P ops Q S w 0 (o :: l) a := ⟨v, w1, h1, h2, h3, h⟩

theorem tail_of {o : Oper} {l : List Oper} {k : Nat} (hl : ∀ j, (o :: l)[j]? = ops[k + j]?) : ops[k]? = some o ∧ ∀ j, l[j]? = ops[k + 1 + j]? :=
  ⟨by simpa using (hl 0).symm, fun j => by have := hl (j + 1); rw [show k + 1 + j = k + (j + 1) by omega]; simpa using this⟩

theorem readsN.till {m : Nat} {w : World} (hsel : Region.noSelect ops = true) (hs : Region.sinkB md ops (m + 1) = true) (hc : Region.chainB md ops (m + 1) = true) (hn : m + 1 < ops.size)
    (hQ : ∀ c a d v w, Q (.panic c) (Act.put a d v) w → Q (.panic c) a w) (hS : S w) :
    ∀ (c : Nat) (l : List Oper) (k : Nat) (got : Array Bool) (a : Act), (∀ j, l[j]? = ops[k + j]?) → k + c = m → HeadInv md ops (m + 1) got →
    Region.lexHead md ops (l.length - c) c k got = true → readsN P ops Q S w c l a → Till P md ops Q S (m + 1) l.length got a w
  | c, [], _, _, _, _, _, _, _, h => by cases c <;> exact h.elim
  | 0, o :: l, k, got, a, hl, hk, inv, hB, ⟨v, w1, h1, h2, h3, h4⟩ => by
    obtain ⟨h0, hl'⟩ := tail_of hl
    simp only [List.length_cons, Nat.sub_zero, Region.lexHead, Region.seqB, Bool.and_eq_true, decide_eq_true_eq] at hB
    obtain ⟨hr, hB⟩ := hB
    refine .inr ⟨by rw [hr]; simp, fun j hj => ?_⟩
    obtain rfl : j = k := by rw [hr] at hj; simpa using hj
    have hlast : Till P md ops Q S (m + 1) l.length (got.setIfInBounds j true) (a.put o.dst v) w1 := by
      have h5 := wpAny_of_seq l (j + 1) _ _ _ hl' hB h4
      have h6 : ∀ i ∈ Region.ready md ops (got.setIfInBounds j true), m + 1 ≤ i := fun i hi => by have := seqB_ready hB i hi; omega
      generalize l.length = f at *
      cases f with
      | zero => exact ⟨h6, h5⟩
      | succ f => exact .inl ⟨h6, h5⟩
    unfold Go.wpOp
    simp only [h0, h1, if_true, Oper.wp, h2, Oper.upon]
    exact .inl ⟨h3, hlast⟩
  | c + 1, o :: l, k, got, a, hl, hk, inv, hB, ⟨v, hy, hK⟩ => by
    obtain ⟨h0, hl'⟩ := tail_of hl
    simp only [List.length_cons, Nat.add_sub_add_right, Region.lexHead, Bool.and_eq_true] at hB
    have hr : k ∈ Region.ready md ops got := by simpa using hB.1.1
    exact Till.take h0 hsel (fun c a w => hQ c a _ _ w) hs hc hn (by omega) _ got a w inv hB.1.2 hr hy hS (readsN.till hsel hs hc hn hQ hS c l (k + 1) _ _ hl' (by omega) (inv.set hr (by omega)) hB.2 hK)

/-- What the kernel reckons of the region: m reads, one more, and a forced tail. -/
def tillB (md : Region.Mode) (ops : Array Oper) (m : Nat) : Bool :=
  Region.noSelect ops && decide (m + 1 < ops.size) && Region.sinkB md ops (m + 1) && Region.chainB md ops (m + 1) && Region.lexHead md ops (ops.size - m) m 0 (Array.replicate ops.size false)

theorem wp_region_till {id : Nat} {a : Act} {w : World} {l : List Oper} (m : Nat) (S : World → Prop) (hm : P.follows .mixedOrders = true) (hB : tillB .any l.toArray m = true)
    (hQ : ∀ c a d v w, Q (.panic c) (Act.put a d v) w → Q (.panic c) a w) (hS : S w.drew) (h : readsN P l.toArray Q S w.drew m l a) : (Code.region id l.toArray true).wp P Q a w := by
  simp only [tillB, Bool.and_eq_true, decide_eq_true_eq] at hB
  refine wp_region_any hm (Till.any (readsN.till hB.1.1.1.1 hB.1.1.2 hB.1.2 hB.1.1.1.2 hQ hS m l 0 _ a (fun j => by simp) (by omega) ⟨by simp, ?_, ?_⟩ (by simpa using hB.2) h))
  · intro j _ _ h1; rw [getD_replicate_false] at h1; cases h1
  · intro t _ h1; exact getD_in (by simpa using h1) (getD_replicate_false _ _)
end
end Go.Proofs.YtpdbkjnaicjfdaaGreatDoor

namespace Go.Proofs.YtpdbkjnaicjfdaaGreatDoor
open Go.RowKit Go.Maps
set_option linter.unusedVariables false

theorem bytes_new (w : World) (l : List Int) (t : TypeId) (cs : Array Value) (fr : Nat × Nat) (h : cs = (l.map (Value.int .u8)).toArray) : Bytes (w.alloc (.cells cs t fr)) (some ⟨w.heap.size, 0, none⟩) l := by
  subst h
  intro hl
  refine ⟨w.heap.size, 0, rfl, by simp, fun j hj => ?_⟩
  rw [Nat.zero_add, World.cell?_alloc_mark]
  simp [List.getElem?_eq_getElem hj]
theorem info_parts {P : Program} {t : TypeId} {z : Option Value} {n b : Nat} (h : (P.info? t).map (fun i => (i.zero, i.size, i.bytes)) = some (z, n, b)) : ∃ i, P.info? t = some i ∧ i.zero = z ∧ i.size = n ∧ i.bytes = b := by
  cases hi : P.info? t with
  | none => rw [hi] at h; cases h
  | some i =>
    rw [hi] at h
    simp only [Option.map_some, Option.some.injEq, Prod.mk.injEq] at h
    exact ⟨i, rfl, h.1, h.2.1, h.2.2⟩
/-- Block B holds these cells, and is the program's own. -/
def Holds (W : World) (B : Nat) (t : TypeId) (cs : Array Value) : Prop := W.heap[B]? = some (.cells cs t (0, 0))
theorem Holds.lt {W : World} {B : Nat} {t : TypeId} {cs : Array Value} (h : Holds W B t cs) : B < W.heap.size := (Array.getElem?_eq_some_iff.1 h).1
theorem Holds.c {W : World} {B : Nat} {t : TypeId} {cs : Array Value} (h : Holds W B t cs) {j : Nat} {v : Value} (hj : cs[j]? = some v) : W.cell? ⟨B, j, none⟩ = some v := by simp [World.cell?, show W.heap[B]? = _ from h, hj]
theorem Holds.frozen {W : World} {B : Nat} {t : TypeId} {cs : Array Value} (h : Holds W B t cs) (j : Nat) : W.frozen? ⟨B, j, none⟩ = false := by simp [World.frozen?, show W.heap[B]? = _ from h]
theorem Holds.new (W : World) (t : TypeId) (cs : Array Value) : Holds (W.alloc (.cells cs t)) W.heap.size t cs := World.alloc_heap_new W _
theorem Holds.alloc {W : World} {B : Nat} {t : TypeId} {cs : Array Value} (h : Holds W B t cs) (o : Obj) : Holds (W.alloc o) B t cs := (Below.heap_alloc W o B h.lt).trans h
theorem Holds.of {W W' : World} {B : Nat} {t : TypeId} {cs : Array Value} (h : Holds W B t cs) (e : W'.heap[B]? = W.heap[B]?) : Holds W' B t cs := e.trans h
theorem Holds.below {W W' : World} {B n : Nat} {t : TypeId} {cs : Array Value} (h : Holds W B t cs) (hb : Below n W W') (hl : B < n) : Holds W' B t cs := h.of (hb.block B hl)
theorem Holds.not_row {W : World} {B : Nat} {t : TypeId} {cs : Array Value} (h : Holds W B t cs) {base : Nat} {e : TypeId} {size : Nat} {v : Value} {n : Nat} {xs : List Value} (hr : W.ownsRow base e size v n xs) (hne : t ≠ e) : some B ≠ v.ownBlock := by
  rcases hr.2 with ⟨rfl, _⟩ | ⟨g, cap, cur, rfl, _, hg, _⟩
  · simp [Value.ownBlock]
  · intro eq
    obtain rfl : B = g := by simpa [Value.ownBlock] using eq
    rw [show W.heap[B]? = _ from h] at hg
    simp at hg
    exact hne hg.2
theorem Holds.kept {W W' : World} {B : Nat} {t : TypeId} {cs : Array Value} (h : Holds W B t cs) {row : Option Nat} (hg : W.grownBy W' row) (hne : some B ≠ row) : Holds W' B t cs := h.of (hg.block B h.lt hne)
/-- But for block B the world is as it was. -/
structure Only (B : Nat) (w w' : World) : Prop where
  os : w'.os = w.os
  tape : w'.tape = w.tape
  output : w'.output = w.output
  size : w.heap.size ≤ w'.heap.size
  block : ∀ k, k < w.heap.size → k ≠ B → w'.heap[k]? = w.heap[k]?
theorem Only.of {B n : Nat} {w w' : World} (h : Below n w w') (hn : w.heap.size ≤ n) : Only B w w' := ⟨h.os, h.tape, h.output, h.size, fun k hk _ => h.block k (by omega)⟩
theorem Only.set {B : Nat} {w w' : World} (h : Only B w w') (off : Nat) (u : Value) : Only B w (w'.setCell ⟨B, off, none⟩ u) :=
  ⟨h.os, h.tape, h.output, by have := h.size; simpa [World.setCell] using this, fun k hk hF => (Below.heap_setCell _ _ _ _ hF).trans (h.block k hk hF)⟩
theorem Only.below {B lo : Nat} {w w' : World} (h : Only B w w') (hlo : lo ≤ B) (hle : lo ≤ w.heap.size) : Below lo w w' := ⟨h.os, h.tape, h.output, h.size, fun k hk => h.block k (by omega) (by omega)⟩
theorem Only.then {B : Nat} {a b c : World} (h : Only B a b) (k : Only B b c) : Only B a c :=
  ⟨k.os.trans h.os, k.tape.trans h.tape, k.output.trans h.output, Nat.le_trans h.size k.size, fun i hi hF => (k.block i (Nat.lt_of_lt_of_le hi h.size) hF).trans (h.block i hi hF)⟩
theorem Only.grown {B : Nat} {w w' : World} (h : Only B w w') : w.grownBy w' (some B) := ⟨h.os, h.tape, h.output, h.size, fun k hk hF => h.block k hk (fun e => hF (by rw [e]))⟩
theorem Holds.set {W : World} {B : Nat} {t : TypeId} {cs : Array Value} (h : Holds W B t cs) (off : Nat) (u : Value) : Holds (W.setCell ⟨B, off, none⟩ u) B t (cs.setIfInBounds off u) := heap_setCell_same W B off cs t u h
theorem add_flat (b off j : Nat) : (⟨b, off, none⟩ : Addr).add j = ⟨b, off + j, none⟩ := by unfold Addr.add; split <;> simp_all
theorem cell_four_new (W : World) (t : TypeId) (a b c d : Value) : ∀ j u, [a, b, c, d][j]? = some u → (W.alloc (.cells #[a, b, c, d] t)).cell? ((⟨W.heap.size, 0, none⟩ : Addr).add j) = some u := by
  intro j u h
  match j with
  | 0 => simp at h; subst h; simp [Addr.add, World.cell?_alloc_new]
  | 1 => simp at h; subst h; simp [Addr.add, World.cell?_alloc_new]
  | 2 => simp at h; subst h; simp [Addr.add, World.cell?_alloc_new]
  | 3 => simp at h; subst h; simp [Addr.add, World.cell?_alloc_new]
  | j + 4 => simp at h
theorem bytes_src {w : World} {ad : Addr} {bs : List Int} (hA : Bytes w (some ad) bs) : ∀ j u, (bytesOf bs)[j]? = some u → (w.alloc (.cells #[] 5)).cell? (ad.add j) = some u := by
  intro j u hu
  have hj : j < bs.length := by
    rcases Nat.lt_or_ge j bs.length with h | h
    · exact h
    · rw [List.getElem?_eq_none (by simp [bytesOf]; omega)] at hu; cases hu
  obtain ⟨b, off, e, hb, hc⟩ := hA (by omega)
  injection e with e
  subst e
  rw [add_flat, World.cell?_alloc_lt _ _ _ hb, hc j hj]
  simp [bytesOf, List.getElem?_eq_getElem hj] at hu ⊢
  exact hu
theorem bytes_none {w : World} {bs : List Int} (hA : Bytes w none bs) : bs = [] := by
  cases bs with
  | nil => rfl
  | cons x r => obtain ⟨b, off, e, _⟩ := hA (by simp); cases e
theorem row_cap {W : World} {base : Nat} {e : TypeId} {size g n cap : Nat} {xs : List Value} (h : W.ownsRow base e size (.slice (some ⟨g, 0, none⟩) n cap) n xs) : n ≤ cap := by
  rcases h.2 with ⟨e', _⟩ | ⟨g', cap', cur, e', _, _, hn, _⟩
  · cases e'
  · cases e'; exact hn
theorem conv_zero (W : World) (A : Option Addr) (c : Nat) : (convert 78 9 (.slice A 0 c)).run Tryz.prog W = .ok (.string ⟨#[]⟩) W := by
  rw [run_convert_bytes_string W 78 9 5 _ 0 c Tryz.underlying78 Tryz.underlying5 Tryz.underlying9]
  cases A <;> simp [Conv.bytesToString, loadCells]
  all_goals rfl
theorem conv_any {B : Nat} {W : World} {A : Option Addr} {c : Nat} {l : List Int} (h : BytesB B W A l) : (convert 78 9 (.slice A l.length c)).run Tryz.prog W = .ok (.string (strOfNums l)) W := by
  cases l with
  | nil => exact conv_zero W A c
  | cons x r => exact conv_some B W A c _ h (by simp)
theorem bytes_row {W : World} {base g n cap : Nat} {l : List Int} (h : W.ownsRow base 5 1 (.slice (some ⟨g, 0, none⟩) n cap) n (bytesOf l)) (a k : Nat) (hk : a + k ≤ n) : BytesB W.heap.size W (some ⟨g, a, none⟩) ((l.drop a).take k) := by
  have hl : l.length = n := by have := h.1; simpa [bytesOf] using this
  intro hp
  rw [List.length_take, List.length_drop] at hp
  refine ⟨g, a, rfl, (h.lt g rfl).2, fun j hj => ?_⟩
  rw [List.length_take, List.length_drop] at hj
  rw [h.cellAt (a + j) (by omega), bytesOf, List.getElem?_map, List.getElem?_take, if_pos (by omega), List.getElem?_drop, List.getElem?_eq_getElem (by omega)]
  rfl
end Go.Proofs.YtpdbkjnaicjfdaaGreatDoor

namespace Go.Proofs.YtpdbkjnaicjfdaaGreatDoor
open Go.RowKit
set_option linter.unusedVariables false

def LentPost (bs : List Int) (w : World) (e : Ending) (w' : World) : Prop :=
  ∃ g cap, e = .returned (.slice (some ⟨g, 0, none⟩) bs.length cap) ∧ bs.length + 4 ≤ cap ∧ w'.ownsRow w.heap.size 5 1 (.slice (some ⟨g, 0, none⟩) (bs.length + 4) cap) (bs.length + 4) (bytesOf (bs ++ [201, 202, 203, 204])) ∧ Below w.heap.size w w'
end Go.Proofs.YtpdbkjnaicjfdaaGreatDoor

namespace Go.Proofs.YtpdbkjnaicjfdaaGreatDoor
open Go
set_option linter.unusedVariables false

section
variable {P : Program} {ops : Array Oper} {Q : Exit → Act → World → Prop} {md : Region.Mode} {S : World → Prop}

def Alone (P : Program) (ops : Array Oper) (Q : Exit → Act → World → Prop) (S : World → Prop) : List Bool → List Oper → Act → World → Prop
  | _, [], a, w => Q .normal a w
  | true :: ms, o :: l, a, w => ∃ v, YieldsIf P ops S o v a ∧ Alone P ops Q S ms l (a.put o.dst v) w
  | false :: ms, o :: l, a, w => Region.wanted o (yielded ops a.tmps) = true ∧ o.wp P a w (fun a' w' => S w' ∧ Alone P ops Q S ms l a' w') Q
  | [], _ :: _, _, _ => False

theorem Alone.take {ms : List Bool} {o : Oper} {l : List Oper} {a : Act} {w : World} (v : Value) (h1 : Region.wanted o (yielded ops a.tmps) = true) (h2 : ∀ w, S w → (execOp a.eval o).run P w = .ok (.value v) w)
    (h : Alone P ops Q S ms l (a.put o.dst v) w) : Alone P ops Q S (true :: ms) (o :: l) a w := ⟨v, .inl ⟨h1, h2⟩, h⟩
theorem Alone.call {ms : List Bool} {o : Oper} {l : List Oper} {a : Act} {w : World} (f : FuncId) (args : Array Value) (h1 : Region.wanted o (yielded ops a.tmps) = true) (h2 : (execOp a.eval o).run P w = .ok (.enter f args) w)
    (h : Calls P f args w fun e w' => ∃ v, e = .returned v ∧ S w' ∧ Alone P ops Q S ms l (a.put o.dst v) w') : Alone P ops Q S (false :: ms) (o :: l) a w := by
  refine ⟨h1, ?_⟩
  simp only [Oper.wp, h2, Oper.upon]
  refine h.mono ?_
  rintro e w' ⟨v, rfl, hS', h'⟩
  exact ⟨hS', h'⟩
theorem Alone.make {ms : List Bool} {o : Oper} {l : List Oper} {a : Act} {w w1 : World} (v : Value) (h1 : Region.wanted o (yielded ops a.tmps) = true) (h2 : (execOp a.eval o).run P w = .ok (.value v) w1) (hS : S w1)
    (h : Alone P ops Q S ms l (a.put o.dst v) w1) : Alone P ops Q S (false :: ms) (o :: l) a w := by
  refine ⟨h1, ?_⟩
  simp only [Oper.wp, h2, Oper.upon]
  exact ⟨hS, h⟩
theorem Alone.other {ms : List Bool} {o : Oper} {l : List Oper} {a : Act} {w : World} (h1 : Region.wanted o (yielded ops a.tmps) = true) (h2 : o.wp P a w (fun a' w' => S w' ∧ Alone P ops Q S ms l a' w') Q) : Alone P ops Q S (false :: ms) (o :: l) a w := ⟨h1, h2⟩
theorem Alone.done {ms : List Bool} {a : Act} {w : World} (h : Q .normal a w) : Alone P ops Q S ms [] a w := by
  cases ms <;> exact h

def aloneB (md : Region.Mode) (ops : Array Oper) : List Bool → Nat → Array Bool → Bool
  | [], _, got => (Region.ready md ops got).isEmpty
  | true :: ms, k, got => (Region.ready md ops got).contains k && Region.free md ops got k && aloneB md ops ms (k + 1) (got.setIfInBounds k true)
  | false :: ms, k, got => decide (Region.ready md ops got = [k]) && aloneB md ops ms (k + 1) (got.setIfInBounds k true)

theorem alone_held (hsel : Region.noSelect ops = true) (hQ : ∀ c a d v w, Q (.panic c) (Act.put a d v) w → Q (.panic c) a w) :
    ∀ (l : List Oper) (ms : List Bool) (k : Nat) (got : Array Bool) (a : Act) (w : World), (∀ j, l[j]? = ops[k + j]?) → ms.length = l.length → aloneB md ops ms k got = true → S w →
      Alone P ops Q S ms l a w → wpAnyH P md ops Q S l.length got a w
  | [], [], _, got, a, w, _, _, hB, _, h => ⟨by simpa [aloneB] using hB, h⟩
  | [], _ :: _, _, _, _, _, _, hl, _, _, _ => by simp at hl
  | _ :: _, [], _, _, _, _, _, hl, _, _, _ => by simp at hl
  | o :: l, true :: ms, k, got, a, w, hl, hm, hB, hS, ⟨v, hy, h⟩ => by
    have h0 : ops[k]? = some o := by simpa using (hl 0).symm
    have hl' : ∀ j, l[j]? = ops[k + 1 + j]? := fun j => by
      have := hl (j + 1)
      rw [show k + 1 + j = k + (j + 1) by omega]; simpa using this
    simp only [aloneB, Bool.and_eq_true] at hB
    exact wpAnyH_take h0 hsel hB.1.2 hB.1.1 (fun c a w => hQ c a _ _ w) hy hS (alone_held hsel hQ l ms (k + 1) _ _ _ hl' (by simpa using hm) hB.2 hS h)
  | o :: l, false :: ms, k, got, a, w, hl, hm, hB, hS, ⟨h1, h⟩ => by
    have h0 : ops[k]? = some o := by simpa using (hl 0).symm
    have hl' : ∀ j, l[j]? = ops[k + 1 + j]? := fun j => by
      have := hl (j + 1)
      rw [show k + 1 + j = k + (j + 1) by omega]; simpa using this
    simp only [aloneB, Bool.and_eq_true, decide_eq_true_eq] at hB
    refine wpAnyH_all hB.1 (by simp) fun i hi => ?_
    obtain rfl : i = k := by simpa using hi
    unfold Go.wpOp
    simp only [h0, h1, if_true]
    exact .inl (Oper.wp_mono (fun a' w' q => ⟨q.1, alone_held hsel hQ l ms (i + 1) _ _ _ hl' (by simpa using hm) hB.2 q.1 q.2⟩) h)

theorem wp_region_alone {id : Nat} {a : Act} {w : World} {l : List Oper} (ms : List Bool) (S : World → Prop) (hm : P.follows .mixedOrders = true) (hB : (Region.noSelect l.toArray && decide (ms.length = l.length) && aloneB .any l.toArray ms 0 (Array.replicate l.toArray.size false)) = true)
    (hQ : ∀ c a d v w, Q (.panic c) (Act.put a d v) w → Q (.panic c) a w) (hS : S w.drew) (h : Alone P l.toArray Q S ms l a w.drew) : (Code.region id l.toArray true).wp P Q a w := by
  simp only [Bool.and_eq_true, decide_eq_true_eq] at hB
  exact wp_region_held hm (alone_held hB.1.1 hQ l ms 0 _ a w.drew (fun j => by simp) hB.1.2 hB.2 hS h)
end
end Go.Proofs.YtpdbkjnaicjfdaaGreatDoor

namespace Go.Proofs.YtpdbkjnaicjfdaaGreatDoor
open Go
set_option linter.unusedVariables false

section
variable {P : Program} {ops : Array Oper} {Q : Exit → Act → World → Prop} {md : Region.Mode} {S : World → Prop}

def Steps (P : Program) (ops : Array Oper) (Q : Exit → Act → World → Prop) (S : World → Prop) : List Bool → List Oper → Act → World → Prop
  | _, [], a, w => Q .normal a w
  | true :: ms, o :: l, a, w => ∃ v, YieldsIf P ops S o v a ∧ Steps P ops Q S ms l (a.put o.dst v) w
  | false :: ms, o :: l, a, w => ∃ f args, Region.wanted o (yielded ops a.tmps) = true ∧ (execOp a.eval o).run P w = .ok (.enter f args) w ∧
      Calls P f args w fun e w' => ∃ v, e = .returned v ∧ S w' ∧ Steps P ops Q S ms l (a.put o.dst v) w'
  | [], _ :: _, _, _ => False

theorem Steps.skip {ms : List Bool} {o : Oper} {l : List Oper} {a : Act} {w : World} (h1 : Region.wanted o (yielded ops a.tmps) = false) (h : Steps P ops Q S ms l (a.put o.dst undef) w) : Steps P ops Q S (true :: ms) (o :: l) a w :=
  ⟨undef, .inr ⟨h1, rfl⟩, h⟩
theorem Steps.take {ms : List Bool} {o : Oper} {l : List Oper} {a : Act} {w : World} (v : Value) (h1 : Region.wanted o (yielded ops a.tmps) = true) (h2 : ∀ w, S w → (execOp a.eval o).run P w = .ok (.value v) w)
    (h : Steps P ops Q S ms l (a.put o.dst v) w) : Steps P ops Q S (true :: ms) (o :: l) a w := ⟨v, .inl ⟨h1, h2⟩, h⟩
theorem Steps.call {ms : List Bool} {o : Oper} {l : List Oper} {a : Act} {w : World} (f : FuncId) (args : Array Value) (h1 : Region.wanted o (yielded ops a.tmps) = true) (h2 : (execOp a.eval o).run P w = .ok (.enter f args) w)
    (h : Calls P f args w fun e w' => ∃ v, e = .returned v ∧ S w' ∧ Steps P ops Q S ms l (a.put o.dst v) w') : Steps P ops Q S (false :: ms) (o :: l) a w := ⟨f, args, h1, h2, h⟩
theorem Steps.done {ms : List Bool} {a : Act} {w : World} (h : Q .normal a w) : Steps P ops Q S ms [] a w := by
  cases ms <;> exact h

def stepsB (md : Region.Mode) (ops : Array Oper) : List Bool → Nat → Array Bool → Bool
  | [], _, got => (Region.ready md ops got).isEmpty
  | true :: ms, k, got => (Region.ready md ops got).contains k && Region.free md ops got k && stepsB md ops ms (k + 1) (got.setIfInBounds k true)
  | false :: ms, k, got => decide (Region.ready md ops got = [k]) && stepsB md ops ms (k + 1) (got.setIfInBounds k true)

theorem steps_held (hsel : Region.noSelect ops = true) (hQ : ∀ c a d v w, Q (.panic c) (Act.put a d v) w → Q (.panic c) a w) :
    ∀ (l : List Oper) (ms : List Bool) (k : Nat) (got : Array Bool) (a : Act) (w : World), (∀ j, l[j]? = ops[k + j]?) → ms.length = l.length → stepsB md ops ms k got = true → S w →
      Steps P ops Q S ms l a w → wpAnyH P md ops Q S l.length got a w
  | [], [], _, got, a, w, _, _, hB, _, h => ⟨by simpa [stepsB] using hB, h⟩
  | [], _ :: _, _, _, _, _, _, hl, _, _, _ => by simp at hl
  | _ :: _, [], _, _, _, _, _, hl, _, _, _ => by simp at hl
  | o :: l, true :: ms, k, got, a, w, hl, hm, hB, hS, ⟨v, hy, h⟩ => by
    have h0 : ops[k]? = some o := by simpa using (hl 0).symm
    have hl' : ∀ j, l[j]? = ops[k + 1 + j]? := fun j => by
      have := hl (j + 1)
      rw [show k + 1 + j = k + (j + 1) by omega]; simpa using this
    simp only [stepsB, Bool.and_eq_true] at hB
    exact wpAnyH_take h0 hsel hB.1.2 hB.1.1 (fun c a w => hQ c a _ _ w) hy hS (steps_held hsel hQ l ms (k + 1) _ _ _ hl' (by simpa using hm) hB.2 hS h)
  | o :: l, false :: ms, k, got, a, w, hl, hm, hB, hS, ⟨f, args, h1, h2, h⟩ => by
    have h0 : ops[k]? = some o := by simpa using (hl 0).symm
    have hl' : ∀ j, l[j]? = ops[k + 1 + j]? := fun j => by
      have := hl (j + 1)
      rw [show k + 1 + j = k + (j + 1) by omega]; simpa using this
    simp only [stepsB, Bool.and_eq_true, decide_eq_true_eq] at hB
    refine wpAnyH_all hB.1 (by simp) fun i hi => ?_
    obtain rfl : i = k := by simpa using hi
    unfold Go.wpOp
    simp only [h0, h1, if_true, Oper.wp, h2, Oper.upon]
    refine .inl (h.mono ?_)
    rintro e w' ⟨v, rfl, hS', h'⟩
    exact ⟨hS', steps_held hsel hQ l ms (i + 1) _ _ _ hl' (by simpa using hm) hB.2 hS' h'⟩

theorem wp_region_steps {id : Nat} {a : Act} {w : World} {l : List Oper} (ms : List Bool) (S : World → Prop) (hm : P.follows .mixedOrders = true) (hB : (Region.noSelect l.toArray && decide (ms.length = l.length) && stepsB .any l.toArray ms 0 (Array.replicate l.toArray.size false)) = true)
    (hQ : ∀ c a d v w, Q (.panic c) (Act.put a d v) w → Q (.panic c) a w) (hS : S w.drew) (h : Steps P l.toArray Q S ms l a w.drew) : (Code.region id l.toArray true).wp P Q a w := by
  simp only [Bool.and_eq_true, decide_eq_true_eq] at hB
  exact wp_region_held hm (steps_held hB.1.1 hQ l ms 0 _ a w.drew (fun j => by simp) hB.1.2 hB.2 hS h)
end
end Go.Proofs.YtpdbkjnaicjfdaaGreatDoor

namespace Go.Proofs.YtpdbkjnaicjfdaaGreatDoor
open Go
set_option linter.unusedVariables false

section
variable {P : Program} {ops : Array Oper} {Q : Exit → Act → World → Prop} {md : Region.Mode} {S : World → Prop}

def Heads (P : Program) (ops : Array Oper) (Q : Exit → Act → World → Prop) (S : World → Prop) : List Bool → List Oper → Act → World → Prop
  | [], l, a, w => wpList P ops Q l a w
  | true :: ms, o :: l, a, w => ∃ v, YieldsIf P ops S o v a ∧ Heads P ops Q S ms l (a.put o.dst v) w
  | false :: ms, o :: l, a, w => Region.wanted o (yielded ops a.tmps) = true ∧ o.wp P a w (fun a' w' => S w' ∧ Heads P ops Q S ms l a' w') Q
  | _ :: _, [], _, _ => False

theorem Heads.take {ms : List Bool} {o : Oper} {l : List Oper} {a : Act} {w : World} (v : Value) (h1 : Region.wanted o (yielded ops a.tmps) = true) (h2 : ∀ w, S w → (execOp a.eval o).run P w = .ok (.value v) w)
    (h : Heads P ops Q S ms l (a.put o.dst v) w) : Heads P ops Q S (true :: ms) (o :: l) a w := ⟨v, .inl ⟨h1, h2⟩, h⟩
theorem Heads.call {ms : List Bool} {o : Oper} {l : List Oper} {a : Act} {w : World} (f : FuncId) (args : Array Value) (h1 : Region.wanted o (yielded ops a.tmps) = true) (h2 : (execOp a.eval o).run P w = .ok (.enter f args) w)
    (h : Calls P f args w fun e w' => ∃ v, e = .returned v ∧ S w' ∧ Heads P ops Q S ms l (a.put o.dst v) w') : Heads P ops Q S (false :: ms) (o :: l) a w := by
  refine ⟨h1, ?_⟩
  simp only [Oper.wp, h2, Oper.upon]
  refine h.mono ?_
  rintro e w' ⟨v, rfl, hS', h'⟩
  exact ⟨hS', h'⟩
theorem Heads.make {ms : List Bool} {o : Oper} {l : List Oper} {a : Act} {w w1 : World} (v : Value) (h1 : Region.wanted o (yielded ops a.tmps) = true) (h2 : (execOp a.eval o).run P w = .ok (.value v) w1) (hS : S w1)
    (h : Heads P ops Q S ms l (a.put o.dst v) w1) : Heads P ops Q S (false :: ms) (o :: l) a w := by
  refine ⟨h1, ?_⟩
  simp only [Oper.wp, h2, Oper.upon]
  exact ⟨hS, h⟩
theorem Heads.done {l : List Oper} {a : Act} {w : World} (h : wpList P ops Q l a w) : Heads P ops Q S [] l a w := by
  unfold Heads; exact h

def headsB (md : Region.Mode) (ops : Array Oper) : List Bool → Nat → Array Bool → Bool
  | [], k, got => Region.seqB md ops (ops.size - k) k got
  | true :: ms, k, got => (Region.ready md ops got).contains k && Region.free md ops got k && headsB md ops ms (k + 1) (got.setIfInBounds k true)
  | false :: ms, k, got => decide (Region.ready md ops got = [k]) && headsB md ops ms (k + 1) (got.setIfInBounds k true)

theorem heads_till {n : Nat} (hsel : Region.noSelect ops = true) (hs : Region.sinkB md ops n = true) (hc : Region.chainB md ops n = true) (hn : n < ops.size)
    (hQ : ∀ c a d v w, Q (.panic c) (Act.put a d v) w → Q (.panic c) a w) :
    ∀ (ms : List Bool) (l : List Oper) (k : Nat) (got : Array Bool) (a : Act) (w : World), (∀ j, l[j]? = ops[k + j]?) → k + ms.length = n → l.length = ops.size - k → HeadInv md ops n got →
    headsB md ops ms k got = true → S w → Heads P ops Q S ms l a w → Till P md ops Q S n l.length got a w
  | [], l, k, got, a, w, hl, hk, hlen, inv, hB, hS, h => by
    obtain rfl : k = n := by simpa using hk
    unfold headsB at hB
    rw [← hlen] at hB
    unfold Heads at h
    have h5 := wpAny_of_seq l k _ _ _ hl hB h
    have h6 : ∀ i ∈ Region.ready md ops got, k ≤ i := fun i hi => by have := seqB_ready hB i hi; omega
    generalize l.length = f at *
    cases f with
    | zero => exact ⟨h6, h5⟩
    | succ f => exact .inl ⟨h6, h5⟩
  | m :: _, [], k, got, a, w, _, _, _, _, _, _, h => by
    cases m <;> exact (show False from h).elim
  | true :: ms, o :: l, k, got, a, w, hl, hk, hlen, inv, hB, hS, ⟨v, hy, h⟩ => by
    obtain ⟨h0, hl'⟩ := tail_of hl
    simp only [headsB, Bool.and_eq_true] at hB
    have hr : k ∈ Region.ready md ops got := by simpa using hB.1.1
    have hkn : k < n := by simp at hk; omega
    exact Till.take h0 hsel (fun c a w => hQ c a _ _ w) hs hc hn hkn _ got a w inv hB.1.2 hr hy hS (heads_till hsel hs hc hn hQ ms l (k + 1) _ _ _ hl' (by simp at hk; omega) (by simp at hlen; omega) (inv.set hr hkn) hB.2 hS h)
  | false :: ms, o :: l, k, got, a, w, hl, hk, hlen, inv, hB, hS, ⟨h1, h⟩ => by
    obtain ⟨h0, hl'⟩ := tail_of hl
    simp only [headsB, Bool.and_eq_true, decide_eq_true_eq] at hB
    have hkn : k < n := by simp at hk; omega
    refine .inr ⟨by rw [hB.1]; simp, fun j hj => ?_⟩
    obtain rfl : j = k := by rw [hB.1] at hj; simpa using hj
    unfold Go.wpOp
    simp only [h0, h1, if_true]
    exact .inl (Oper.wp_mono (fun a' w' q => ⟨q.1, heads_till hsel hs hc hn hQ ms l (j + 1) _ _ _ hl' (by simp at hk; omega) (by simp at hlen; omega) (inv.set hj hkn) hB.2 q.1 q.2⟩) h)

/-- What the kernel reckons of the region. -/
def headsAll (md : Region.Mode) (ops : Array Oper) (ms : List Bool) : Bool :=
  Region.noSelect ops && decide (ms.length < ops.size) && Region.sinkB md ops ms.length && Region.chainB md ops ms.length && headsB md ops ms 0 (Array.replicate ops.size false)

theorem wp_region_heads {id : Nat} {a : Act} {w : World} {l : List Oper} (ms : List Bool) (S : World → Prop) (hm : P.follows .mixedOrders = true) (hB : headsAll .any l.toArray ms = true)
    (hQ : ∀ c a d v w, Q (.panic c) (Act.put a d v) w → Q (.panic c) a w) (hS : S w.drew) (h : Heads P l.toArray Q S ms l a w.drew) : (Code.region id l.toArray true).wp P Q a w := by
  simp only [headsAll, Bool.and_eq_true, decide_eq_true_eq] at hB
  refine wp_region_any hm (Till.any (heads_till hB.1.1.1.1 hB.1.1.2 hB.1.2 hB.1.1.1.2 hQ ms l 0 _ a _ (fun j => by simp) (by omega) (by simp) ⟨by simp, ?_, ?_⟩ (by simpa using hB.2) hS h))
  · intro j _ _ h1; rw [getD_replicate_false] at h1; cases h1
  · intro t _ h1; exact getD_in (by simpa using h1) (getD_replicate_false _ _)
end
end Go.Proofs.YtpdbkjnaicjfdaaGreatDoor
