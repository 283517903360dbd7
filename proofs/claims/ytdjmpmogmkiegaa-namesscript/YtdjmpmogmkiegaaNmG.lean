/- Contracts of the layer names: Order, whole. -/
import Derived.Test.YtdjmpmogmkiegaaNmF
import Derived.Shelf.SlSortCmp.NoneTotal

namespace Go.Proofs.Ytdjmpmogmkiegaa
open Go.RowKit Go.Maps
set_option linter.unusedVariables false

def numsV (o : List Nat) : List Value := o.map fun (i : Nat) => .int .i64 i
def fillV (n k : Nat) : List Value := (List.range n).map fun i => if i < k then .int .i64 i else .int .i64 0

theorem fill_start (n : Nat) : (madeCells (Value.int .i64 0).cells (n * 1)).toList = fillV n 0 := by
  apply List.ext_getElem
  · simp [madeCells, fillV]
  · intro i h1 h2
    simp [madeCells, fillV, Value.cells, Nat.mod_one]
theorem fill_step (n k : Nat) (hk : k < n) : (fillV n k).set k (.int .i64 k) = fillV n (k + 1) := by
  apply List.ext_getElem
  · simp [fillV]
  · intro i h1 h2
    rw [List.getElem_set]
    simp only [fillV, List.getElem_map, List.getElem_range]
    by_cases e : k = i
    · subst e; rw [if_pos rfl, if_pos (by omega)]
    · rw [if_neg e]
      by_cases h : i < k
      · rw [if_pos h, if_pos (by omega)]
      · rw [if_neg h, if_neg (by omega)]
theorem fill_end (n : Nat) : fillV n n = numsV (List.range n) := by
  unfold fillV numsV
  apply List.map_congr_left
  intro i hi
  rw [if_pos (List.mem_range.1 hi)]

def encF (n : Nat) (i : Fin n) : Value := .int .i64 i.val

theorem sw_block {α : Type} [Inhabited α] (enc : α → Value) (w : World) (g m : Nat) (d : Array α) (os : Array Obj) (k : Nat) (hk : k < w.heap.size) (hne : g ≠ k) : (sortWorld enc w g 0 m d os).heap[k]? = w.heap[k]? := by
  unfold sortWorld
  rw [Sort.heap_grow_old _ _ (by simpa [size_putRow] using hk)]
  simp [Sort.putRow, Sort.mapBlock, Sort.ahead, Array.getElem?_modify, hne]
theorem sw_size {α : Type} [Inhabited α] (enc : α → Value) (w : World) (g m : Nat) (d : Array α) (os : Array Obj) : w.heap.size ≤ (sortWorld enc w g 0 m d os).heap.size := by
  unfold sortWorld
  simp [Sort.grow]
theorem sw_grown {α : Type} [Inhabited α] (enc : α → Value) (w : World) (g m : Nat) (d : Array α) (os : Array Obj) : w.grownBy (sortWorld enc w g 0 m d os) (some g) :=
  ⟨rfl, rfl, rfl, sw_size enc w g m d os, fun k hk hne => sw_block enc w g m d os k hk (fun e => hne (by rw [e]))⟩

theorem holds_start {w : World} {base g cap n : Nat} (h : w.ownsRow base 3 1 (.slice (some ⟨g, 0, none⟩) n cap) n (numsV (List.range n))) [Inhabited (Fin n)] : Sort.Holds (encF n) w g 0 (List.finRange n).toArray := by
  intro j hj
  have hj' : j < n := by simpa using hj
  rw [Nat.zero_add]
  refine ⟨?_, h.frozenAt j⟩
  rw [h.cellAt j (by omega), getElem!_pos _ j hj]
  simp [numsV, encF, hj']

theorem putCells_take {α : Type} [Inhabited α] (enc : α → Value) (d : Array α) (cur : Array Value) (h : d.size ≤ cur.size) : (Sort.putCells enc 0 d cur).toList.take d.size = d.toList.map enc := by
  apply List.ext_getElem
  · simp [Sort.putCells]; omega
  · intro i h1 h2
    have hi : i < d.size := by simpa using h2
    simp [Sort.putCells, hi]

theorem row_sorted {w : World} {base g cap n m : Nat} {os : Array Obj} {xs : List Value} (h : w.ownsRow base 3 1 (.slice (some ⟨g, 0, none⟩) n cap) n xs) [Inhabited (Fin n)] (d : Array (Fin n)) (hd : d.size = n) :
    (sortWorld (encF n) w g 0 m d os).ownsRow base 3 1 (.slice (some ⟨g, 0, none⟩) n cap) n (numsV (d.toList.map Fin.val)) := by
  rcases h.2 with ⟨e, _⟩ | ⟨g', cap', cur, e, hb, hg, hnc, hcm, hcs, _⟩
  · cases e
  · cases e
    refine ⟨by simp [numsV, hd], .inr ⟨g, cap, Sort.putCells (encF n) 0 d cur, rfl, hb, ?_, hnc, hcm, by simp [Sort.putCells, hcs], ?_⟩⟩
    · unfold sortWorld
      rw [Sort.heap_grow_old _ _ (by simpa [size_putRow] using (Array.getElem?_eq_some_iff.1 hg).1)]
      have hg' : (Sort.ahead w m).heap[g]? = some (.cells cur 3 (0, 0)) := hg
      simp only [Sort.putRow, Sort.mapBlock, Array.getElem?_modify, if_true, hg', Option.map_some]
      rfl
    · have := putCells_take (encF n) d cur (by omega)
      rw [hd] at this
      rw [Nat.mul_one, this]
      simp [numsV, encF]

def OrderPost (ns : List ByteArray) (w : World) (e : Ending) (w' : World) : Prop :=
  ∃ g c o, e = .returned (.slice (some ⟨g, 0, none⟩) ns.length c) ∧ IsOrd ns o ∧ w'.ownsRow w.heap.size 3 1 (.slice (some ⟨g, 0, none⟩) ns.length c) ns.length (numsV o) ∧ Below w.heap.size w w'

theorem info_int : (Try.prog.info? 3).map (fun i => (i.zero, i.size, i.bytes)) = some (some (.int .i64 0), 1, 8) := by kernel_rfl

/-- The sort, called by Order. -/
theorem sort_any {lo B M X G c : Nat} {v : Value} {ns : List ByteArray} (W : World) (h : Tab W lo B M v ns) (hX : W.cell? ⟨X, 0, none⟩ = some (.pointer (some ⟨B, 0, none⟩))) (hl : ns.length ≤ 1000000)
    (hG : W.ownsRow G 3 1 (.slice (some ⟨G, 0, none⟩) ns.length c) ns.length (numsV (List.range ns.length))) (hXG : X ≠ G) (hBG : B ≠ G) (hvG : v.ownBlock ≠ some G) :
    Calls Try.prog 33 #[.slice (some ⟨G, 0, none⟩) ns.length c, .func (.func 34) #[] #[.pointer (some ⟨X, 0, none⟩)]] W fun e w' =>
      e = .returned (.tuple #[]) ∧ ∃ o, IsOrd ns o ∧ w'.ownsRow G 3 1 (.slice (some ⟨G, 0, none⟩) ns.length c) ns.length (numsV o) ∧ W.grownBy w' (some G) := by
  obtain ⟨A, cA, rfl⟩ := h.shape
  by_cases hz : ns.length = 0
  · have hS := AnyF.slices_SortFunc_none (P := Try.prog) (ρ := Try.sortL_ren) { Try.sortL with } (some ⟨G, 0, none⟩) c (.func (.func 34) #[] #[.pointer (some ⟨X, 0, none⟩)]) W
    rw [hz] at hG ⊢
    refine Calls.mono hS ?_
    rintro e w' ⟨rfl, rfl⟩
    exact ⟨rfl, [], ⟨by rw [hz]; exact List.Perm.refl _, List.Pairwise.nil⟩, hG, World.grownBy.refl _ _⟩
  · haveI : Inhabited (Fin ns.length) := ⟨⟨0, by omega⟩⟩
    have eg : ∀ args w, (callFunc 34 args).run Try.prog w = .ok (.enter 34 args) w := Go.Proofs.enters_of Try.func34 (by kernel_rfl) rfl
    obtain ⟨g, rfl, hg, _, hc⟩ := row_at h.row 0 (by omega)
    have hgG : G ≠ g := fun e => hvG (by rw [e]; rfl)
    have hGl : G < W.heap.size := (hG.lt G rfl).2
    have hcmp : CmpReads Try.prog 34 #[.pointer (some ⟨X, 0, none⟩)] (encF ns.length) (cfN ns) G 0 ns.length W := by
      intro m os dk hs x y
      have hb := fun k hk hne => sw_block (encF ns.length) W G m dk os k hk hne
      refine order1_any X B g cA ns x.val y.val _ x.isLt y.isLt ?_ ?_ ?_
      · rw [World.cell?_of_block (a := ⟨X, 0, none⟩) (hb X (lt_of_cell hX) (Ne.symm hXG))]; exact hX
      · rw [World.cell?_of_block (a := ⟨B, 2, none⟩) (hb B (lt_of_cell h.c2) (Ne.symm hBG))]; exact h.c2
      · intro j hj
        rw [World.cell?_of_block (a := ⟨g, j, none⟩) (hb g hg hgG)]; exact hc j hj
    have hsz : (List.finRange ns.length).toArray.size = ns.length := by simp
    have hcon := Any.slices_SortFunc Try.sortL (encF ns.length) (fun _ => rfl) (cfN ns) (swoN ns) 34 #[.pointer (some ⟨X, 0, none⟩)] G 0 c (List.finRange ns.length).toArray W eg (by rw [hsz]; exact hcmp.lays) (holds_start hG) hGl (by rw [hsz]; omega)
    rw [hsz] at hcon
    refine Calls.mono hcon ?_
    rintro e w' ⟨rfl, d', n, os, hp, hs, rfl⟩
    obtain ⟨h1, h2⟩ := ord_of_sort h.nodup d' hp hs
    exact ⟨rfl, _, h1, row_sorted hG d' h2, sw_grown _ _ _ _ _ _⟩

set_option maxHeartbeats 1000000 in
theorem order_any {lo B M : Nat} {v : Value} {ns : List ByteArray} (w : World) (h : Tab w lo B M v ns) (hl : ns.length ≤ 1000000) :
    Calls Try.prog 20 #[.pointer (some ⟨B, 0, none⟩)] w (OrderPost ns w) := by
  obtain ⟨W1, hW1⟩ : ∃ W1, w.alloc (.cells #[.pointer (some ⟨B, 0, none⟩)] 25) = W1 := ⟨_, rfl⟩
  have hB1 : Below w.heap.size w W1 := by rw [← hW1]; exact (Below.refl _ _).alloc (Nat.le_refl _) _
  have hs1 : W1.heap.size = w.heap.size + 1 := by rw [← hW1]; simp
  have hX : W1.cell? ⟨w.heap.size, 0, none⟩ = some (.pointer (some ⟨B, 0, none⟩)) := by rw [← hW1]; simp
  have hT1 := h.below hB1
  have h0 := made_yes B W1 hT1.c0
  have hBl : B < w.heap.size := lt_of_cell h.c0
  have hvl := fun k (e : v.ownBlock = some k) => (h.row.lt k e).2
  have HVL := Lib.hid hvl
  obtain ⟨A, cA, hv⟩ := h.shape
  subst hv
  have c2 := hT1.c2
  have HT1 := Lib.hid hT1
  have HS1 := Lib.hid hs1
  have HW1 := Lib.hid hW1
  obtain ⟨i0, hi, hz0, hz1, hz2⟩ := info_parts info_int
  clear h hT1 hvl hs1
  go_enter Try.func20, Try.ntmps20
  go_wp2_with fail
  refine h0.mono ?_
  rintro e w1 ⟨rfl, rfl⟩
  clear hW1
  go_wp2_with (at_make; refine wpList_make_full _ rfl _ _ 37 rfl W1.heap.size 3 i0 (.int .i64 0) 1 Try.underlying37 hi hz0 hz1 .i64 .i64 _ _ ns.length rfl rfl rfl rfl (by rw [hz2]; omega) (by unfold maxLen; omega) (Nat.le_refl _) ?_; intro w2 hown2 hg2; rw [fill_start] at hown2)
  have HO2 := Lib.hid hown2
  have HB2 := Lib.hid ((Below.refl W1.heap.size W1).grown hg2 (Nat.le_refl _) (fun k e => by cases e))
  clear hown2 hg2
  go_loopw [4, 16] (fun u i wr => ∃ k : Nat, k ≤ ns.length ∧ i = .int .i64 k ∧ wr.ownsRow W1.heap.size 3 1 (.slice (some ⟨W1.heap.size, 0, none⟩) ns.length ns.length) ns.length (fillV ns.length k) ∧ Below W1.heap.size W1 wr) (fun u i wr => ns.length - (intOf i).toNat)
  case atStart => exact ⟨0, Nat.zero_le _, rfl, HO2.out, HB2.out⟩
  case round =>
    obtain ⟨k, hk, rfl, hown, hB⟩ := hrel
    by_cases hlt : k < ns.length
    · have k1 : (0 : Int) ≤ (k : Int) := by omega
      have k2 : (k : Int) < (ns.length : Int) := by omega
      have hcell := hown.cellAt k (by omega)
      have hfro := hown.frozenAt k
      have hget : (fillV ns.length k)[k]? = some (.int .i64 0) := by simp [fillV, hlt]
      rw [hget] at hcell
      have hst := hown.stored k (.int .i64 k)
      rw [fill_step _ _ hlt] at hst
      have HST := Lib.hid hst
      clear hget hst hown
      go_wp2
      go_roundw
      case rel => exact ⟨k + 1, by omega, by go_num, HST.out.1, hB.grown HST.out.2 hB.size (fun j e => by cases e; exact Nat.le_refl _)⟩
      case measure => simp [intOf]; omega
    · have hkn : k = ns.length := by omega
      have hd : decide (k < ns.length) = false := decide_eq_false hlt
      rw [hkn, fill_end] at hown
      have hT := HT1.out.below hB
      have hX' : wr.cell? ⟨w.heap.size, 0, none⟩ = some (.pointer (some ⟨B, 0, none⟩)) := (hB.cell (p := ⟨w.heap.size, 0, none⟩) (by rw [HS1.out]; exact Nat.lt_succ_self _)).trans hX
      have HSort := Lib.hid (sort_any wr hT hX' hl hown (by have := HS1.out; omega) (by have := HS1.out; omega) (fun e => by have := HVL.out _ e; have := HS1.out; omega))
      clear hown hT hX' hkn
      go_wp2_with fail
      refine HSort.out.mono ?_
      rintro e w3 ⟨rfl, o, ho, hrow, hg⟩
      go_wp2
      go_ret
      have hBf : Below w.heap.size w w3 := (nxt hB1 hB hB1.size).grown hg (Nat.le_trans hB1.size hB.size) (fun j e => by cases e; exact hB1.size)
      refine ⟨W1.heap.size, ns.length, o, rfl, ho, ⟨hrow.1, ?_⟩, hBf⟩
      rcases hrow.2 with h' | ⟨g', cap', cur, e', hb', r⟩
      · exact .inl h'
      · exact .inr ⟨g', cap', cur, e', Nat.le_trans hB1.size hb', r⟩
end Go.Proofs.Ytdjmpmogmkiegaa
