/- Contracts of the layer names: Clone, Of, Name. -/
import Derived.Test.YtdjmpmogmkiegaaNmB
import Derived.Test.YtdjmpmogmkiegaaNmShA
import Derived.Maps.OwnOps
namespace Go.Proofs.Ytdjmpmogmkiegaa
open Go.RowKit Go.Maps
set_option linter.unusedVariables false

/-- Which number a text has among names; and why none. -/
def ofI (ns : List ByteArray) (s : ByteArray) : Nat := if ns.contains s then ns.idxOf s else 0
def ofE (ns : List ByteArray) (s : ByteArray) : Int := if ns.contains s then 0 else 11

theorem ofI_yes {ns : List ByteArray} {s : ByteArray} (h : ns.contains s = true) : ofI ns s = ns.idxOf s := by rw [ofI, if_pos h]
theorem ofI_no {ns : List ByteArray} {s : ByteArray} (h : ns.contains s = false) : ofI ns s = 0 := by rw [ofI, h]; rfl
theorem ofE_yes {ns : List ByteArray} {s : ByteArray} (h : ns.contains s = true) : ofE ns s = 0 := by rw [ofE, if_pos h]
theorem ofE_no {ns : List ByteArray} {s : ByteArray} (h : ns.contains s = false) : ofE ns s = 11 := by rw [ofE, h]; rfl
theorem at_idx {ns : List ByteArray} {s : ByteArray} (h : ns.contains s = true) : ns[ns.idxOf s]? = some s := by
  have hm : s ∈ ns := by simpa using h
  rw [List.getElem?_eq_getElem (List.idxOf_lt_length_of_mem hm), List.getElem_idxOf]
theorem ofI_le (ns : List ByteArray) (s : ByteArray) : ofI ns s ≤ ns.length := by
  unfold ofI; split
  · exact List.idxOf_le_length
  · omega

theorem Keeps.at {D : DataW Unit} {ns : List ByteArray} (h : Keeps D ns) (s : ByteArray) : D.atKey (key s) (.lit (.int .i64 0)) = .lit (.int .i64 (ofI ns s)) := by
  cases hc : ns.contains s with
  | true => rw [ofI_yes hc]; exact h.2 _ s (at_idx hc) _
  | false => rw [ofI_no hc]; exact atKey_of_not_has ((h.1 s).trans hc) _

theorem wpList_lookup_ent (w : World) {ops : Array Oper} {rest : List Oper} {o : Oper} {a : Act} {Q : Exit → Act → World → Prop}
    (hg : o.guard = none) (m x : Operand) (t : TypeId) (hop : o.op = Op.lookup t m x true) (ht : Try.prog.underlying t = some (.map 9 51))
    (M : Nat) (ns : List ByteArray) (hm : a.eval m = .map (some M)) (hown : ∃ D, w.ownsMap Try.prog 9 entElem M ns.length D ∧ Keeps D ns)
    (s : ByteArray) (hx : a.eval x = .string s) (hs : s.size ≤ maxLen)
    (hK : wpList Try.prog ops Q rest (a.put o.dst (.tuple #[.agg #[.int .i64 (ofI ns s)], .bool (ns.contains s)])) w) :
    wpList Try.prog ops Q (o :: rest) a w := by
  obtain ⟨D, hD, hKp⟩ := hown
  refine wpList_lookup_own_ok w hg m x t hop 9 51 keyLaw ht entElem (zeroEnt w) (.lit (.int .i64 0)) [] (entElem_mk 0) M ns.length D hm hD (.string s) (key s) hx (keyName hs) ?_
  intro v ps hv
  obtain ⟨n, rfl, e⟩ := entElem_inv hv
  have e1 := hKp.at s
  have e3 : D.atKey (key s) (.lit (.int .i64 0)) = .lit (.int .i64 n) := congrArg Prod.fst e
  rw [e3] at e1
  have e2 : n = (ofI ns s : Int) := by injection e1 with e1; injection e1
  subst e2
  rw [hKp.1 s]
  exact hK

def Pair (a b : Value) (w : World) (e : Ending) (w' : World) : Prop := e = .returned (.tuple #[a, b]) ∧ Below w.heap.size w w'

theorem clone_any (s : ByteArray) (w : World) (hs : s.size ≤ 281474976710656) : Calls Try.prog 29 #[.string s] w (Says (.string s) w) := by
  have h := Any.stringslite_Clone Try.clonL s w hs
  change Calls Try.prog 37 _ _ _ at h
  go_enter Try.func29, Try.ntmps29
  go_wp2_with fail
  refine h.mono ?_
  rintro e w1 ⟨rfl, hB⟩
  go_wp2
  go_ret
  exact ⟨rfl, hB⟩

set_option maxHeartbeats 1000000 in
theorem of_any {lo B M : Nat} {v : Value} {ns : List ByteArray} (s : ByteArray) (w : World) (h : Tab w lo B M v ns) (hs : s.size ≤ maxLen) :
    Calls Try.prog 16 #[.pointer (some ⟨B, 0, none⟩), .string s] w (Pair (.int .i64 (ofI ns s)) (.int .i64 (ofE ns s)) w) := by
  have h0 := made_yes B w h.c0
  have c1 := h.c1
  have HM := Lib.hid h.map
  clear h
  cases hc : ns.contains s with
  | true =>
    have HE := Lib.hid (ofE_yes hc)
    have HC := Lib.hid hc
    clear hc
    go_enter Try.func16, Try.ntmps16
    go_wp2_with fail
    refine h0.mono ?_
    rintro e w1 ⟨rfl, rfl⟩
    go_wp2_with (at_lookup; refine wpList_lookup_ent _ rfl _ _ 42 rfl Try.underlying42 M ns rfl HM.out s rfl hs ?_; rw [HC.out])
    go_ret2
    exact ⟨by rw [HE.out]; rfl, (Below.refl _ _).alloc (Nat.le_refl _) _⟩
  | false =>
    have HE := Lib.hid (ofE_no hc)
    have HI := Lib.hid (ofI_no hc)
    have HC := Lib.hid hc
    clear hc
    go_enter Try.func16, Try.ntmps16
    go_wp2_with fail
    refine h0.mono ?_
    rintro e w1 ⟨rfl, rfl⟩
    go_wp2_with (at_lookup; refine wpList_lookup_ent _ rfl _ _ 42 rfl Try.underlying42 M ns rfl HM.out s rfl hs ?_; rw [HC.out])
    go_ret2
    exact ⟨by rw [HE.out, HI.out]; rfl, (Below.refl _ _).alloc (Nat.le_refl _) _⟩

def nameT (ns : List ByteArray) (n : Int) : ByteArray := if 0 ≤ n ∧ n < ns.length then ns[n.toNat]?.getD ⟨#[]⟩ else ⟨#[]⟩
def nameE (ns : List ByteArray) (n : Int) : Int := if 0 ≤ n ∧ n < ns.length then 0 else 3

theorem row_at {w : World} {base : Nat} {A : Option Addr} {c : Nat} {ns : List ByteArray} (h : w.ownsRow base 9 1 (.slice A ns.length c) ns.length (texts ns)) (i : Nat) (hi : i < ns.length) :
    ∃ g, A = some ⟨g, 0, none⟩ ∧ g < w.heap.size ∧ base ≤ g ∧ ∀ j, j < ns.length → w.cell? ⟨g, j, none⟩ = some (.string (ns[j]?.getD ⟨#[]⟩)) := by
  rcases h.2 with ⟨e, hn⟩ | ⟨g, cap, cur, e, hb, hg, _⟩
  · omega
  · cases e
    refine ⟨g, rfl, (Array.getElem?_eq_some_iff.1 hg).1, hb, fun j hj => ?_⟩
    have := h.cells (g := g) rfl j (.string ns[j]) (by rw [texts, List.getElem?_map, List.getElem?_eq_getElem hj]; rfl)
    rw [List.getElem?_eq_getElem hj]
    have e2 : (⟨g, 0, none⟩ : Addr).add j = ⟨g, j, none⟩ := by unfold Addr.add; split <;> simp_all
    rw [e2] at this
    exact this

set_option maxHeartbeats 1000000 in
theorem name_any {lo B M : Nat} {v : Value} {ns : List ByteArray} (n : Int) (w : World) (h : Tab w lo B M v ns) :
    Calls Try.prog 18 #[.pointer (some ⟨B, 0, none⟩), .int .i64 n] w (Pair (.string (nameT ns n)) (.int .i64 (nameE ns n)) w) := by
  obtain ⟨A, c, rfl⟩ := h.shape
  have h0 := made_yes B w h.c0
  have c2 := h.c2
  by_cases h1 : n < 0
  · have ht : nameT ns n = ⟨#[]⟩ ∧ nameE ns n = 3 := by rw [nameT, nameE, if_neg (by omega), if_neg (by omega)]; exact ⟨rfl, rfl⟩
    have HT := Lib.hid ht
    have k1 : decide (n < 0) = true := decide_eq_true h1
    clear h ht
    go_enter Try.func18, Try.ntmps18
    go_wp2_with fail
    refine h0.mono ?_
    rintro e w1 ⟨rfl, rfl⟩
    go_wp2
    go_ret2
    exact ⟨by rw [HT.out.1, HT.out.2]; rfl, Below.refl _ _⟩
  · by_cases h2 : n < ns.length
    · obtain ⟨j, rfl⟩ : ∃ j : Nat, n = j := ⟨n.toNat, by omega⟩
      have hj : j < ns.length := by omega
      obtain ⟨g, rfl, hg, _, hc⟩ := row_at h.row j hj
      have hcj := hc j hj
      have hsz : (ns[j]?.getD ⟨#[]⟩).size ≤ 281474976710656 := by
        rw [List.getElem?_eq_getElem hj]
        have := (name_size (h.names _ (List.getElem_mem hj))).2
        exact Nat.le_trans this (by omega)
      have ht : nameT ns j = ns[j]?.getD ⟨#[]⟩ ∧ nameE ns j = 0 := by rw [nameT, nameE, if_pos (by omega), if_pos (by omega)]; exact ⟨rfl, rfl⟩
      generalize ns[j]?.getD ⟨#[]⟩ = s at hcj hsz ht
      have HT := Lib.hid ht
      have k1 : decide ((j : Int) < 0) = false := decide_eq_false h1
      have k2 : decide (ns.length ≤ j) = false := decide_eq_false (by omega)
      have k3 : (0 : Int) ≤ (j : Int) := by omega
      have k4 : (j : Int) < (ns.length : Int) := by omega
      clear h ht hc
      go_enter Try.func18, Try.ntmps18
      go_wp2_with fail
      refine h0.mono ?_
      rintro e w1 ⟨rfl, rfl⟩
      go_wp2_with fail
      refine (clone_any s _ hsz).mono ?_
      rintro e w2 ⟨rfl, hB⟩
      go_wp2
      go_ret2
      exact ⟨by rw [HT.out.1, HT.out.2]; rfl, hB⟩
    · have ht : nameT ns n = ⟨#[]⟩ ∧ nameE ns n = 3 := by rw [nameT, nameE, if_neg (by omega), if_neg (by omega)]; exact ⟨rfl, rfl⟩
      have HT := Lib.hid ht
      have k1 : decide (n < 0) = false := decide_eq_false h1
      have k2 : decide ((ns.length : Int) ≤ n) = true := decide_eq_true (by omega)
      clear h ht
      go_enter Try.func18, Try.ntmps18
      go_wp2_with fail
      refine h0.mono ?_
      rintro e w1 ⟨rfl, rfl⟩
      go_wp2
      go_ret2
      exact ⟨by rw [HT.out.1, HT.out.2]; rfl, Below.refl _ _⟩
end Go.Proofs.Ytdjmpmogmkiegaa
