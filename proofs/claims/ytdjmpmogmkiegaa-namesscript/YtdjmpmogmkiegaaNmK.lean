/- The names among texts, and their order: plain lists. -/
import Derived.Test.YtdjmpmogmkiegaaNmJ
namespace Go.Proofs.Ytdjmpmogmkiegaa
set_option linter.unusedVariables false

theorem mem_addN {ns : List ByteArray} {s t : ByteArray} : t ∈ addN ns s ↔ t ∈ ns ∨ (t = s ∧ nameB s = true) := by
  cases hn : nameB s with
  | false => rw [(add_no (ns := ns) hn).2.2]; simp
  | true =>
    cases hc : ns.contains s with
    | true =>
      rw [(add_twice hn hc).2.2]
      have : s ∈ ns := by simpa using hc
      constructor
      · exact .inl
      · rintro (h | ⟨rfl, _⟩)
        · exact h
        · exact this
    | false => rw [(add_new hn hc).2.2]; simp
theorem nodup_addN {ns : List ByteArray} {s : ByteArray} (h : ns.Nodup) : (addN ns s).Nodup := by
  cases hn : nameB s with
  | false => rw [(add_no (ns := ns) hn).2.2]; exact h
  | true =>
    cases hc : ns.contains s with
    | true => rw [(add_twice hn hc).2.2]; exact h
    | false =>
      rw [(add_new hn hc).2.2, List.nodup_append]
      refine ⟨h, by simp, fun a ha b hb e => ?_⟩
      have hb' : b = s := by simpa using hb
      subst hb'
      subst e
      have : ns.contains a = true := by simpa using ha
      rw [this] at hc; cases hc
theorem mem_fold : ∀ (ss ns : List ByteArray) (t : ByteArray), t ∈ ss.foldl addN ns ↔ t ∈ ns ∨ (t ∈ ss ∧ nameB t = true)
  | [], ns, t => by simp
  | s :: r, ns, t => by
    rw [List.foldl_cons, mem_fold r, mem_addN, List.mem_cons]
    constructor
    · rintro ((h | ⟨rfl, h⟩) | ⟨h, h'⟩)
      · exact .inl h
      · exact .inr ⟨.inl rfl, h⟩
      · exact .inr ⟨.inr h, h'⟩
    · rintro (h | ⟨rfl | h, h'⟩)
      · exact .inl (.inl h)
      · exact .inl (.inr ⟨rfl, h'⟩)
      · exact .inr ⟨h, h'⟩
theorem nodup_fold : ∀ (ss ns : List ByteArray), ns.Nodup → (ss.foldl addN ns).Nodup
  | [], _, h => h
  | s :: r, ns, h => nodup_fold r _ (nodup_addN h)
theorem mem_allN (ss : List ByteArray) (t : ByteArray) : t ∈ allN ss ↔ t ∈ ss ∧ nameB t = true := by
  rw [allN, mem_fold]; simp
theorem nodup_allN (ss : List ByteArray) : (allN ss).Nodup := nodup_fold ss [] List.nodup_nil

/-- The i-th name in order. -/
def ordT (ns : List ByteArray) (o : List Nat) (i : Nat) : ByteArray := ns[o[i]?.getD 0]?.getD ⟨#[]⟩

/-- Two rising lists with the same members are one. -/
theorem rise_one : ∀ {l m : List (List UInt8)}, l.Pairwise (fun x y => Op.bytesLess x y = true) → m.Pairwise (fun x y => Op.bytesLess x y = true) → (∀ x, x ∈ l ↔ x ∈ m) → l = m
  | [], [], _, _, _ => rfl
  | [], y :: m, _, _, h => by have := (h y).2 List.mem_cons_self; cases this
  | x :: l, [], _, _, h => by have := (h x).1 List.mem_cons_self; cases this
  | x :: l, y :: m, h1, h2, h => by
    rw [List.pairwise_cons] at h1 h2
    have exy : x = y := by
      rcases List.mem_cons.1 ((h x).1 List.mem_cons_self) with e | hx
      · exact e
      · rcases List.mem_cons.1 ((h y).2 List.mem_cons_self) with e | hy
        · exact e.symm
        · have a := h1.1 y hy
          have b := bl_asymm (h2.1 x hx)
          rw [a] at b; cases b
    subst exy
    rw [rise_one h1.2 h2.2 (fun z => ?_)]
    constructor
    · intro hz
      rcases List.mem_cons.1 ((h z).1 (List.mem_cons_of_mem _ hz)) with e | hm
      · subst e
        have := h1.1 z hz
        rw [bl_irrefl] at this; cases this
      · exact hm
    · intro hz
      rcases List.mem_cons.1 ((h z).2 (List.mem_cons_of_mem _ hz)) with e | hm
      · subst e
        have := h2.1 z hz
        rw [bl_irrefl] at this; cases this
      · exact hm

theorem ord_names {ns : List ByteArray} {o : List Nat} (h : IsOrd ns o) : (o.map (nm ns)).Pairwise (fun x y => Op.bytesLess x y = true) ∧ ∀ x, x ∈ o.map (nm ns) ↔ ∃ s ∈ ns, x = s.data.toList := by
  refine ⟨List.pairwise_map.2 h.rise, fun x => ?_⟩
  rw [List.mem_map]
  constructor
  · rintro ⟨i, hi, rfl⟩
    have hl := h.lt hi
    refine ⟨ns[i], List.getElem_mem hl, ?_⟩
    rw [nm, List.getElem?_eq_getElem hl]; rfl
  · rintro ⟨s, hs, rfl⟩
    obtain ⟨i, hi, rfl⟩ := List.mem_iff_getElem.1 hs
    refine ⟨i, h.perm.mem_iff.2 (List.mem_range.2 hi), ?_⟩
    rw [nm, List.getElem?_eq_getElem hi]; rfl

theorem ordT_bytes {ns : List ByteArray} {o : List Nat} {i : Nat} (hi : i < o.length) : (ordT ns o i).data.toList = (o.map (nm ns))[i]'(by simpa using hi) := by
  rw [List.getElem_map, ordT, List.getElem?_eq_getElem hi]
  rfl

/-- The same names are in the same order. -/
theorem ord_same {ns ns' : List ByteArray} {o o' : List Nat} (h : IsOrd ns o) (h' : IsOrd ns' o') (hm : ∀ t, t ∈ ns ↔ t ∈ ns') : ns.length = ns'.length ∧ ∀ i, i < ns.length → ordT ns o i = ordT ns' o' i := by
  obtain ⟨h1, m1⟩ := ord_names h
  obtain ⟨h2, m2⟩ := ord_names h'
  have e := rise_one h1 h2 (fun x => by
    rw [m1, m2]
    constructor
    · rintro ⟨s, hs, e⟩; exact ⟨s, (hm s).1 hs, e⟩
    · rintro ⟨s, hs, e⟩; exact ⟨s, (hm s).2 hs, e⟩)
  have hl : o.length = o'.length := by simpa using congrArg List.length e
  refine ⟨by rw [← h.len, ← h'.len, hl], fun i hi => ?_⟩
  rw [← h.len] at hi
  apply ByteArray.ext
  apply Array.ext'
  rw [ordT_bytes hi, ordT_bytes (by omega)]
  simp only [e]

theorem ordT_mem {ns : List ByteArray} {o : List Nat} (h : IsOrd ns o) {i : Nat} (hi : i < ns.length) : o[i]?.getD 0 < ns.length ∧ ordT ns o i ∈ ns := by
  rw [← h.len] at hi
  have hl : o[i]?.getD 0 < ns.length := by
    rw [List.getElem?_eq_getElem hi]; exact h.lt (List.getElem_mem hi)
  refine ⟨hl, ?_⟩
  rw [ordT, List.getElem?_eq_getElem hl]
  exact List.getElem_mem hl

/-- The name that came last. -/
def lastT (ns : List ByteArray) (o : List Nat) (k : Nat) : ByteArray := if k = 0 then ⟨#[]⟩ else ordT ns o (k - 1)

theorem last_less {ns : List ByteArray} {o : List Nat} (h : IsOrd ns o) (hn : ∀ s ∈ ns, nameB s = true) {k : Nat} (hk : k < ns.length) :
    Op.bytesLess (ordT ns o k).toList (lastT ns o k).toList = false ∧ ((ordT ns o k).toList == (lastT ns o k).toList) = false := by
  have hb : Op.bytesLess (lastT ns o k).toList (ordT ns o k).toList = true := by
    rw [ByteArray.toList_eq, ByteArray.toList_eq]
    unfold lastT
    split
    · have hp := (name_size (hn _ (ordT_mem h hk).2)).1
      cases hd : (ordT ns o k).data.toList with
      | nil =>
        have : (ordT ns o k).data.toList.length = 0 := by rw [hd]; rfl
        rw [Array.length_toList] at this
        have h2 : (ordT ns o k).size = 0 := this
        omega
      | cons a r => rfl
    · have hk' : k < o.length := by rw [h.len]; exact hk
      rw [ordT_bytes (i := k - 1) (by omega), ordT_bytes hk']
      exact List.pairwise_iff_getElem.1 (ord_names h).1 (k - 1) k (by simp; omega) (by simpa using hk') (by omega)
  refine ⟨bl_asymm hb, beq_eq_false_iff_ne.2 (fun e => ?_)⟩
  rw [e, bl_irrefl] at hb; cases hb

theorem name_ord {ns : List ByteArray} {o : List Nat} (h : IsOrd ns o) {k : Nat} (hk : k < ns.length) : nameT ns (o[k]?.getD 0 : Nat) = ordT ns o k ∧ nameE ns (o[k]?.getD 0 : Nat) = 0 := by
  have hl := (ordT_mem h hk).1
  rw [nameT, nameE, if_pos (by omega), if_pos (by omega)]
  exact ⟨rfl, rfl⟩
theorem lastT_succ {ns : List ByteArray} {o : List Nat} (k : Nat) : lastT ns o (k + 1) = ordT ns o k := by rw [lastT, if_neg (by omega)]; rfl

theorem back_names (ss : List ByteArray) (t : ByteArray) : t ∈ allN ss ↔ t ∈ allN ss.reverse := by
  rw [mem_allN, mem_allN, List.mem_reverse]
theorem back_len (ss : List ByteArray) : (allN ss.reverse).length = (allN ss).length :=
  ((List.perm_ext_iff_of_nodup (nodup_allN _) (nodup_allN _)).2 (fun a => (back_names ss a).symm)).length_eq

theorem back_step {ss : List ByteArray} {i : Nat} (hi : i < ss.length) : (ss.drop i).reverse = (ss.drop (i + 1)).reverse ++ [ss[i]?.getD ⟨#[]⟩] := by
  rw [List.getElem?_eq_getElem hi, List.drop_eq_getElem_cons hi, List.reverse_cons]; rfl
end Go.Proofs.Ytdjmpmogmkiegaa
