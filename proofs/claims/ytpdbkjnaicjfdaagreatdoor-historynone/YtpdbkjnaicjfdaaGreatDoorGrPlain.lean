/- Plain: events, what is wrong with one, its line, their text; what a line's words are, and a text. -/
import Derived.Test.YtpdbkjnaicjfdaaGreatDoorGn
import Derived.Test.YtpdbkjnaicjfdaaGreatDoorGo
import Derived.Test.YtpdbkjnaicjfdaaGreatDoorGs
import Derived.Test.YtpdbkjnaicjfdaaGreatDoorGrKw
namespace Go.Proofs.YtpdbkjnaicjfdaaGreatDoor
open Go.RowKit
set_option linter.unusedVariables false

abbrev OpT := Int × Int × Int × Int × Int
abbrev StT := Int × Int × List Int
def op0 : OpT := (0, 0, 0, 0, 0)
def stz : StT := (0, 0, [])

structure Ev where
  kd : Int
  nm : ByteArray
  ob : ByteArray
  op : OpT
  st : StT

def sameOpT (a b : OpT) : Bool := (a.1 == b.1) && ((a.2.1 == b.2.1) && ((a.2.2.1 == b.2.2.1) && ((a.2.2.2.1 == b.2.2.2.1) && (a.2.2.2.2 == b.2.2.2.2))))
theorem sameOpT_iff (a b : OpT) : sameOpT a b = true ↔ a = b := by
  obtain ⟨a1, a2, a3, a4, a5⟩ := a
  obtain ⟨b1, b2, b3, b4, b5⟩ := b
  simp [sameOpT]
def stzB (s : StT) : Bool := sameB s.1 s.2.1 s.2.2 0 0 []
def bareA (e : Ev) : Bool := (e.kd == 1) || stzB e.st
def bareO (e : Ev) : Bool := (e.ob == emB) && sameOpT e.op op0
def bareB (e : Ev) : Bool := bareA e && ((e.kd == 3) || bareO e)
def firstE (s : StT) : Int := if st_checkE s.1 s.2.1 s.2.2 ≠ 0 then st_checkE s.1 s.2.1 s.2.2 else if 1000 < s.2.2.length then 4 else 0
def opE (o : OpT) : Int := checkP o.1 o.2.1 o.2.2.1 o.2.2.2.1 o.2.2.2.2
def doneE (ob : ByteArray) (o : OpT) : Int := if nm_checkE ob ≠ 0 then nm_checkE ob else opE o
/-- Why an event may not be. -/
def evE (e : Ev) : Int :=
  if e.kd < 1 ∨ 5 < e.kd then 6 else if bareB e = false then 2 else if nm_checkE e.nm ≠ 0 then nm_checkE e.nm
  else if e.kd = 1 then firstE e.st else if e.kd = 3 then doneE e.ob e.op else 0
/-- An event's line. -/
def evH (e : Ev) : ByteArray := kwB e.kd.toNat ++ blB ++ e.nm
def stS (s : StT) : ByteArray := ⟨(txtL s.1 s.2.1 s.2.2).toArray⟩
def opS (o : OpT) : ByteArray := textS o.1 o.2.1 o.2.2.1 o.2.2.2.1 o.2.2.2.2
def evS (e : Ev) : ByteArray := if e.kd = 1 then evH e ++ (blB ++ stS e.st) else if e.kd = 3 then evH e ++ (blB ++ e.ob ++ blB ++ opS e.op) else evH e
/-- What Line answers as a text. -/
def evT (e : Ev) : ByteArray := if evE e = 0 then evS e else emB
/-- The first error. -/
def prE : List Ev → Int
  | [] => 0
  | e :: r => if evE e = 0 then prE r else evE e
def prL (l : List Ev) : List Int := l.flatMap fun e => nums (evS e) ++ [10]
def prS (l : List Ev) : ByteArray := if prE l = 0 then strOfNums (prL l) else emB

/-! ### Reading -/

def wdS (ws : List Wd) (i : Nat) : ByteArray := strOfNums (ws[i]?.getD (0, [])).2
def wdP (ws : List Wd) (i : Nat) : Nat := (ws[i]?.getD (0, [])).1
def endP (ws : List Wd) : Nat := wdP ws (ws.length - 1) + (ws[ws.length - 1]?.getD (0, [])).2.length
def placeP (ws : List Wd) (n : Nat) : Nat := if n < ws.length then wdP ws n else endP ws
abbrev Rx (α : Type) := Except (Int × Int) α
def stopX {α : Type} (ws : List Wd) (err : Int) (n : Nat) : Rx α := .error (err, (placeP ws n : Int))
def wordX (ws : List Wd) (n : Nat) : Rx ByteArray := if ws.length ≤ n then stopX ws 5 n else .ok (wdS ws n)
def nameX (ws : List Wd) (n : Nat) : Rx ByteArray :=
  match wordX ws n with
  | .error f => .error f
  | .ok s => if nm_checkE s = 0 then .ok s else stopX ws (nm_checkE s) n
def namedX (ws : List Wd) (k : Int) : Rx Ev :=
  match nameX ws 1 with
  | .error f => .error f
  | .ok s => if 2 < ws.length then stopX ws 5 2 else .ok ⟨k, s, emB, op0, stz⟩
/-- The text from a word on to the line's end. -/
def restT (ws : List Wd) (n : Nat) : List Int := joined ((ws.drop n).map Prod.snd)
def rdS (ws : List Wd) (n : Nat) : StT × Int × Int := readL (strOfNums (restT ws n)).data.toList
def firstX (ws : List Wd) (n : Nat) : Rx StT :=
  match wordX ws n with
  | .error f => .error f
  | .ok _ => if (rdS ws n).2.1 ≠ 0 then .error ((rdS ws n).2.1, (placeP ws n : Int) + (rdS ws n).2.2)
    else if 1000 < (rdS ws n).1.2.2.length then stopX ws 4 n else .ok (rdS ws n).1
def rdO (ws : List Wd) (n : Nat) : Res := readP ((ws.drop n).map fun x => strOfNums x.2)
def doneX (ws : List Wd) (n : Nat) : Rx OpT := if (rdO ws n).2.2 ≠ 0 then stopX ws (rdO ws n).2.2 (n + (rdO ws n).2.1.toNat) else .ok (rdO ws n).1
def objX (ws : List Wd) : Rx Ev :=
  match nameX ws 1 with
  | .error f => .error f
  | .ok s => match firstX ws 2 with
    | .error f => .error f
    | .ok t => .ok ⟨1, s, emB, op0, t⟩
def opX (ws : List Wd) : Rx Ev :=
  match nameX ws 1 with
  | .error f => .error f
  | .ok s => match nameX ws 2 with
    | .error f => .error f
    | .ok o => match doneX ws 3 with
      | .error f => .error f
      | .ok p => .ok ⟨3, s, o, p, stz⟩
/-- A line's event, or what is wrong with it and where. -/
def lineX (ws : List Wd) : Rx Ev :=
  match kwI (wdS ws 0) with
  | 0 => stopX ws 6 0
  | 1 => objX ws
  | 3 => opX ws
  | k => namedX ws (k : Int)
def linesX : List Ln → Rx (List Ev)
  | [] => .ok []
  | l :: r => match lineX l.2 with
    | .error f => .error f
    | .ok e => match linesX r with
      | .error f => .error f
      | .ok es => .ok (e :: es)
def parseX (bs : List Int) : Rx (List Ev) := match textF bs with
  | some f => .error ((f.1 : Int), (f.2 : Int))
  | none => linesX (textL bs)

theorem lines_error : ∀ (l r : List Ln) (f : Int × Int), linesX l = .error f → linesX (l ++ r) = .error f
  | [], r, f, h => by cases h
  | y :: l, r, f, h => by
    rw [List.cons_append, linesX]
    rw [linesX] at h
    cases hy : lineX y.2 with
    | error g => rw [hy] at h; exact h
    | ok e =>
      rw [hy] at h
      cases hr : linesX l with
      | error g =>
        rw [hr] at h
        rw [show linesX (l ++ r) = .error g from lines_error l r g hr]; exact h
      | ok es' => rw [hr] at h; cases h
theorem lines_app : ∀ (l r : List Ln) (es : List Ev), linesX l = .ok es → linesX (l ++ r) = match linesX r with
    | .error f => .error f
    | .ok fs => .ok (es ++ fs)
  | [], r, es, h => by cases h; rw [List.nil_append]; cases linesX r <;> rfl
  | y :: l, r, es, h => by
    rw [List.cons_append, linesX]
    rw [linesX] at h
    cases hy : lineX y.2 with
    | error f => rw [hy] at h; cases h
    | ok e =>
      rw [hy] at h
      cases hr : linesX l with
      | error f => rw [hr] at h; cases h
      | ok es' =>
        rw [hr] at h
        cases h
        show (match linesX (l ++ r) with | .error f => (.error f : Rx (List Ev)) | .ok es => .ok (e :: es)) = _
        rw [lines_app l r es' hr]
        cases linesX r <;> rfl
theorem lines_snoc (l : List Ln) (x : Ln) (es : List Ev) (h : linesX l = .ok es) : linesX (l ++ [x]) = match lineX x.2 with
    | .error f => .error f
    | .ok e => .ok (es ++ [e]) := by
  rw [lines_app l [x] es h, linesX]
  cases lineX x.2 <;> rfl
theorem lines_take {l : List Ln} {k : Nat} (hk : k < l.length) : l.take (k + 1) = l.take k ++ [l[k]?.getD (0, [])] := by
  rw [List.take_succ_eq_append_getElem hk, List.getElem?_eq_getElem hk]; rfl

/-! ### Side by side -/

def evEq (a b : Ev) : Bool := (a.kd == b.kd) && ((a.nm == b.nm) && ((a.ob == b.ob) && (sameOpT a.op b.op && sameB a.st.1 a.st.2.1 a.st.2.2 b.st.1 b.st.2.1 b.st.2.2)))
theorem evEq_iff (a b : Ev) : evEq a b = true ↔ a = b := by
  obtain ⟨k, n, o, p, s, t, u⟩ := a
  obtain ⟨k', n', o', p', s', t', u'⟩ := b
  simp only [evEq, Bool.and_eq_true, sameOpT_iff, same_iff, beq_iff_eq, Ev.mk.injEq, Prod.mk.injEq]
def evsEq : List Ev → List Ev → Bool
  | [], [] => true
  | a :: r, b :: s => evEq a b && evsEq r s
  | _, _ => false
theorem evsEq_iff : ∀ (l m : List Ev), evsEq l m = true ↔ l = m
  | [], [] => by simp [evsEq]
  | [], b :: s => by simp [evsEq]
  | a :: r, [] => by simp [evsEq]
  | a :: r, b :: s => by simp only [evsEq, Bool.and_eq_true, evEq_iff, evsEq_iff r s, List.cons.injEq]
theorem evsEq_len {l m : List Ev} (h : ¬ l.length = m.length) : evsEq l m = false := by
  cases e : evsEq l m with
  | false => rfl
  | true => exact absurd (congrArg List.length ((evsEq_iff l m).1 e)) h
theorem evsEq_refl (l : List Ev) : evsEq l l = true := (evsEq_iff l l).2 rfl
theorem evsEq_no {l m : List Ev} {k : Nat} (hk : k < l.length) (hl : l.length = m.length) (h : evEq (l[k]?.getD ⟨0, emB, emB, op0, stz⟩) (m[k]?.getD ⟨0, emB, emB, op0, stz⟩) = false) : evsEq l m = false := by
  cases e : evsEq l m with
  | false => rfl
  | true =>
    have := (evsEq_iff l m).1 e
    subst this
    rw [(evEq_iff _ _).2 rfl] at h; cases h
theorem evsEq_all {l m : List Ev} (hl : l.length = m.length) (h : ∀ k, k < l.length → evEq (l[k]?.getD ⟨0, emB, emB, op0, stz⟩) (m[k]?.getD ⟨0, emB, emB, op0, stz⟩) = true) : evsEq l m = true := by
  rw [evsEq_iff]
  apply List.ext_getElem hl
  intro k h1 h2
  have := (evEq_iff _ _).1 (h k h1)
  rwa [List.getElem?_eq_getElem h1, List.getElem?_eq_getElem h2] at this
end Go.Proofs.YtpdbkjnaicjfdaaGreatDoor
