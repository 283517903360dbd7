/- The order of names: plain lists. -/
import Derived.Test.YtdjmpmogmkiegaaNmPlain
import Derived.Lib.Bytealg
import Derived.Sort.Statements
import Derived.Shelf.SlSortCmp.Insertion
namespace Go.Proofs.Ytdjmpmogmkiegaa
set_option linter.unusedVariables false

theorem bl_irrefl : ∀ x : List UInt8, Op.bytesLess x x = false
  | [] => rfl
  | a :: x => by
    have := bl_irrefl x
    simp [Op.bytesLess, this, UInt8.lt_irrefl]
theorem bl_trans : ∀ x y z : List UInt8, Op.bytesLess x y = true → Op.bytesLess y z = true → Op.bytesLess x z = true
  | _, [], _, h, _ => by simp [Op.bytesLess] at h
  | [], _ :: _, [], _, h => by simp [Op.bytesLess] at h
  | [], _ :: _, _ :: _, _, _ => rfl
  | _ :: _, _ :: _, [], _, h => by simp [Op.bytesLess] at h
  | a :: x, b :: y, c :: z, h1, h2 => by
    simp only [Op.bytesLess, Bool.or_eq_true, decide_eq_true_eq, Bool.and_eq_true, beq_iff_eq] at h1 h2 ⊢
    rcases h1 with h1 | ⟨rfl, h1⟩
    · rcases h2 with h2 | ⟨rfl, h2⟩
      · exact .inl (UInt8.lt_trans h1 h2)
      · exact .inl h1
    · rcases h2 with h2 | ⟨rfl, h2⟩
      · exact .inl h2
      · exact .inr ⟨rfl, bl_trans x y z h1 h2⟩
theorem bl_total : ∀ x y : List UInt8, Op.bytesLess x y = false → Op.bytesLess y x = false → x = y
  | [], [], _, _ => rfl
  | [], _ :: _, h, _ => by simp [Op.bytesLess] at h
  | _ :: _, [], _, h => by simp [Op.bytesLess] at h
  | a :: x, b :: y, h1, h2 => by
    simp only [Op.bytesLess, Bool.or_eq_false_iff, decide_eq_false_iff_not, Bool.and_eq_false_imp, beq_iff_eq] at h1 h2
    have hab : a = b := UInt8.le_antisymm (UInt8.not_lt.1 h2.1) (UInt8.not_lt.1 h1.1)
    subst hab
    rw [bl_total x y (h1.2 rfl) (h2.2 rfl)]
theorem bl_asymm {x y : List UInt8} (h : Op.bytesLess x y = true) : Op.bytesLess y x = false := by
  apply Bool.eq_false_iff.2
  intro h'
  have := bl_trans x y x h h'
  rw [bl_irrefl] at this; cases this
theorem bl_ntrans {x y z : List UInt8} (h1 : Op.bytesLess x y = false) (h2 : Op.bytesLess y z = false) : Op.bytesLess x z = false := by
  apply Bool.eq_false_iff.2
  intro h
  by_cases e : Op.bytesLess y x = true
  · have := bl_trans y x z e h
    rw [this] at h2; cases h2
  · have e' := bl_total x y h1 (Bool.eq_false_iff.2 e)
    subst e'
    rw [h] at h2; cases h2

theorem cmp_bl : ∀ x y : List UInt8, decide (Lib.compareBytes x y < 0) = Op.bytesLess x y
  | [], [] => rfl
  | [], _ :: _ => rfl
  | _ :: _, [] => rfl
  | a :: x, b :: y => by
    have ih := cmp_bl x y
    unfold Lib.compareBytes Op.bytesLess
    by_cases h1 : a < b
    · simp [h1]
    · by_cases h2 : b < a
      · have hne : (a == b) = false := beq_eq_false_iff_ne.2 (fun e => by subst e; exact UInt8.lt_irrefl _ h2)
        simp [h1, h2, hne]
      · have hab : a = b := UInt8.le_antisymm (UInt8.not_lt.1 h2) (UInt8.not_lt.1 h1)
        subst hab
        simp [UInt8.lt_irrefl, ← ih]

/-- The bytes of the i-th name. -/
def nm (ns : List ByteArray) (i : Nat) : List UInt8 := (ns[i]?.getD ⟨#[]⟩).data.toList

/-- o is the names' numbers, the names rising. -/
structure IsOrd (ns : List ByteArray) (o : List Nat) : Prop where
  perm : o.Perm (List.range ns.length)
  rise : o.Pairwise fun i j => Op.bytesLess (nm ns i) (nm ns j) = true

theorem IsOrd.len {ns : List ByteArray} {o : List Nat} (h : IsOrd ns o) : o.length = ns.length := by rw [h.perm.length_eq, List.length_range]
theorem IsOrd.lt {ns : List ByteArray} {o : List Nat} (h : IsOrd ns o) {i : Nat} (hi : i ∈ o) : i < ns.length := List.mem_range.1 (h.perm.mem_iff.1 hi)

def cfN (ns : List ByteArray) (i j : Fin ns.length) : Int := Lib.compareBytes (nm ns i) (nm ns j)
theorem lt_cfN (ns : List ByteArray) (i j : Fin ns.length) : ltOf (cfN ns) i j = Op.bytesLess (nm ns i) (nm ns j) := cmp_bl _ _
theorem swoN (ns : List ByteArray) : Sort.SWO (ltOf (cfN ns)) where
  irrefl x := by rw [lt_cfN]; exact bl_irrefl _
  trans x y z h1 h2 := by rw [lt_cfN] at *; exact bl_trans _ _ _ h1 h2
  ntrans x y z h1 h2 := by rw [lt_cfN] at *; exact bl_ntrans h1 h2

theorem nodup_inj {α : Type} {l : List α} (h : l.Nodup) {i j : Nat} (hi : i < l.length) (hj : j < l.length) (e : l[i] = l[j]) : i = j := by
  have h' := List.pairwise_iff_getElem.1 h
  rcases Nat.lt_trichotomy i j with hl | hl | hl
  · exact absurd e (h' i j hi hj hl)
  · exact hl
  · exact absurd e.symm (h' j i hj hi hl)

theorem nm_inj {ns : List ByteArray} (hn : ns.Nodup) {i j : Nat} (hi : i < ns.length) (hj : j < ns.length) (h : nm ns i = nm ns j) : i = j := by
  unfold nm at h
  rw [List.getElem?_eq_getElem hi, List.getElem?_eq_getElem hj] at h
  have e : ns[i] = ns[j] := by
    apply ByteArray.ext
    exact Array.ext' h
  exact nodup_inj hn hi hj e

/-- What the sort leaves is an order. -/
theorem ord_of_sort {ns : List ByteArray} (hn : ns.Nodup) [Inhabited (Fin ns.length)] (d' : Array (Fin ns.length)) (hp : Sort.PermIn 0 ns.length (List.finRange ns.length).toArray d') (hs : Sort.SortedIn (ltOf (cfN ns)) 0 ns.length d') :
    IsOrd ns (d'.toList.map Fin.val) ∧ d'.size = ns.length := by
  obtain ⟨h1, _, h3⟩ := hp
  have hsz : d'.size = ns.length := by rw [h1]; simp
  have hx : d'.extract 0 ns.length = d' := by
    apply Array.extract_eq_self_of_le; omega
  have hy : ((List.finRange ns.length).toArray.extract 0 ns.length).toList = List.finRange ns.length := by
    rw [Array.toList_extract]; simp [List.take_of_length_le]
  rw [hx, hy] at h3
  have hr : (List.finRange ns.length).map Fin.val = List.range ns.length := by
    apply List.ext_getElem
    · simp
    · intro i _ _; simp
  refine ⟨⟨?_, ?_⟩, hsz⟩
  · rw [← hr]; exact h3.map _
  · rw [List.pairwise_map, List.pairwise_iff_getElem]
    intro i j hi hj hij
    have hi' : i < d'.size := by simpa using hi
    have hj' : j < d'.size := by simpa using hj
    have h := hs i j (Nat.zero_le _) hij (by omega)
    rw [getElem!_pos d' i hi', getElem!_pos d' j hj', lt_cfN] at h
    rw [Array.getElem_toList, Array.getElem_toList]
    apply Bool.of_not_eq_false
    intro hf
    have e := nm_inj hn d'[i].isLt d'[j].isLt (bl_total _ _ hf h)
    have hnd : d'.toList.Nodup := h3.nodup_iff.2 (List.nodup_finRange _)
    have := nodup_inj hnd (i := i) (j := j) (by simpa using hi') (by simpa using hj') (by rw [Array.getElem_toList, Array.getElem_toList]; exact Fin.ext e)
    omega

/-- How many names are ahead of the i-th. -/
def rank (ns : List ByteArray) (i : Nat) : Nat := (List.range ns.length).countP fun k => Op.bytesLess (nm ns k) (nm ns i)

theorem IsOrd.rank {ns : List ByteArray} {o : List Nat} (h : IsOrd ns o) (p : Nat) (hp : p < o.length) : rank ns o[p] = p := by
  have e1 : Go.Proofs.Ytdjmpmogmkiegaa.rank ns o[p] = o.countP fun k => Op.bytesLess (nm ns k) (nm ns o[p]) := (h.perm.countP_eq _).symm
  have e2 : o = o.take p ++ o[p] :: o.drop (p + 1) := by simp
  have hr := h.rise
  rw [List.pairwise_iff_getElem] at hr
  rw [e1]
  generalize hx : o[p] = x at *
  rw [e2, List.countP_append, List.countP_cons, bl_irrefl]
  have h1 : (o.take p).countP (fun k => Op.bytesLess (nm ns k) (nm ns x)) = p := by
    have : (o.take p).countP (fun k => Op.bytesLess (nm ns k) (nm ns x)) = (o.take p).length := by
      rw [List.countP_eq_length]
      intro a ha
      obtain ⟨i, hi, rfl⟩ := List.mem_iff_getElem.1 ha
      rw [List.length_take] at hi
      rw [List.getElem_take, ← hx]
      exact hr i p (by omega) hp (by omega)
    rw [this, List.length_take]; omega
  have h2 : (o.drop (p + 1)).countP (fun k => Op.bytesLess (nm ns k) (nm ns x)) = 0 := by
    rw [List.countP_eq_zero]
    intro a ha
    obtain ⟨i, hi, rfl⟩ := List.mem_iff_getElem.1 ha
    rw [List.length_drop] at hi
    rw [List.getElem_drop, ← hx, bl_asymm (hr p (p + 1 + i) hp (by omega) (by omega))]
    simp
  rw [h1, h2]
  simp

theorem IsOrd.one {ns : List ByteArray} {o o' : List Nat} (h : IsOrd ns o) (h' : IsOrd ns o') : o = o' := by
  have hl : o.length = o'.length := h.len.trans h'.len.symm
  refine List.ext_getElem hl fun p hp hp' => ?_
  obtain ⟨q, hq, e⟩ := List.mem_iff_getElem.1 (h'.perm.mem_iff.2 (h.perm.mem_iff.1 (List.getElem_mem hp)))
  have r1 := h.rank p hp
  have r2 := h'.rank q hq
  rw [e, r1] at r2
  subst r2
  exact e.symm
end Go.Proofs.Ytdjmpmogmkiegaa
