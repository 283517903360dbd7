/- A queue in a box; boxes that are made anywhere in a region. (After SeQ.) -/
import Derived.Test.YthnaogdiiflljaaFiI
namespace Go.Proofs.Ythnaogdiiflljaa
open Go.RowKit Go.Maps
set_option linter.unusedVariables false
set_option linter.unusedSimpArgs false

/-- A queue in a box: the box's three cells, and a row of the call's own. -/
structure QBox (base : Nat) (W : World) (B : Nat) (s : List Int) (A : Option Addr) (c : Nat) : Prop where
  box : Holds W B 24 #[.int .i64 4, .int .i64 0, .slice A s.length c]
  row : W.ownsRow base 3 1 (.slice A s.length c) s.length (intsOf s)
theorem QBox.below {base B : Nat} {W W' : World} {s : List Int} {A : Option Addr} {c : Nat} (h : QBox base W B s A c) (hb : Below W.heap.size W W') : QBox base W' B s A c := ⟨h.box.below hb h.box.lt, row_below h.row hb⟩
theorem QBox.only {base B B' : Nat} {W W' : World} {s : List Int} {A : Option Addr} {c : Nat} {t : TypeId} {cs : Array Value} (h : QBox base W B s A c) (ho : Only B' W W') (hne : B ≠ B') (hh : Holds W B' t cs) (ht : t ≠ 3) : QBox base W' B s A c :=
  ⟨h.box.of (ho.block B h.box.lt hne), h.row.kept ho.grown (.inr (hh.not_row h.row ht).symm)⟩

/-- What a call of Apply has told, in two boxes of its own: the state then and what is returned. -/
def ToldQ (w wr : World) (m : List Int) (k r : Int) (s8 s9 : Value) (wx : World) : Prop :=
  ∃ (X R : Nat) (Y : Option Addr) (cY : Nat), s8 = .pointer (some ⟨X, 0, none⟩) ∧ s9 = .pointer (some ⟨R, 0, none⟩) ∧ wr.heap.size ≤ X ∧ wr.heap.size ≤ R ∧ QBox w.heap.size wx X m Y cY ∧ Holds wx R 28 #[.int .i64 k, .int .i64 r] ∧ Below wr.heap.size wr wx
section
variable {w wr w6 : World} {m : List Int} {k r : Int} {Y : Option Addr} {cY b6 : Nat}
abbrev TstQ (Y : Option Addr) (k c : Nat) : Obj := .cells #[.int .i64 4, .int .i64 0, .slice Y k c] 24
abbrev TrtQ (k r : Int) : Obj := .cells #[.int .i64 k, .int .i64 r] 28
theorem toldq_sets {X R : Nat} {W5 : World} {x0 x1 x2 y0 y1 : Value} (hX : Holds W5 X 24 #[x0, x1, x2]) (hR : Holds W5 R 28 #[y0, y1]) (hne : X ≠ R) (ho : W5.ownsRow w.heap.size 3 1 (.slice Y m.length cY) m.length (intsOf m)) (h1 : wr.heap.size ≤ X) (h2 : wr.heap.size ≤ R) (hB : Below wr.heap.size wr W5) :
    ToldQ w wr m k r (.pointer (some ⟨X, 0, none⟩)) (.pointer (some ⟨R, 0, none⟩)) (((((W5.setCell ⟨X, 0, none⟩ (.int .i64 4)).setCell ⟨X, 1, none⟩ (.int .i64 0)).setCell ⟨X, 2, none⟩ (.slice Y m.length cY)).setCell ⟨R, 0, none⟩ (.int .i64 k)).setCell ⟨R, 1, none⟩ (.int .i64 r)) := by
  have nx : ∀ g, (Value.slice Y m.length cY).ownBlock = some g → g ≠ X := fun g e e' => hX.not_row ho (by decide) (by rw [e, e'])
  have nr : ∀ g, (Value.slice Y m.length cY).ownBlock = some g → g ≠ R := fun g e e' => hR.not_row ho (by decide) (by rw [e, e'])
  refine ⟨X, R, Y, cY, rfl, rfl, h1, h2, ⟨?_, ?_⟩, ?_, ?_⟩
  · exact set_other (set_other (set_three hX) _ _ hne) _ _ hne
  · exact row_set (row_set (row_set (row_set (row_set ho _ _ _ nx) _ _ _ nx) _ _ _ nx) _ _ _ nr) _ _ _ nr
  · exact set_two (set_other (set_other (set_other hR _ _ hne.symm) _ _ hne.symm) _ _ hne.symm)
  · exact gro_set (gro_set (gro_set (gro_set (gro_set hB _ _ h1) _ _ h1) _ _ h1) _ _ h2) _ _ h2
theorem toldq_a (hB : Below wr.heap.size wr w6) (ho : w6.ownsRow b6 3 1 (.slice Y m.length cY) m.length (intsOf m)) (hb : w.heap.size ≤ b6) :
    ToldQ w wr m k r (.pointer (some ⟨w6.heap.size, 0, none⟩)) (.pointer (some ⟨w6.heap.size + 1, 0, none⟩)) ((w6.alloc (TstQ Y m.length cY)).alloc (TrtQ k r)) :=
  ⟨_, _, Y, cY, rfl, rfl, hB.size, Nat.le_succ_of_le hB.size, ⟨(Holds.new _ _ _).alloc _, row_more (row_below (row_below ho (alloc1 _ _)) (alloc1 _ _)) hb⟩, new_second _ _ _ _, gro_alloc (gro_alloc hB _) _⟩
theorem toldq_b (hB : Below wr.heap.size wr w6) (ho : w6.ownsRow b6 3 1 (.slice Y m.length cY) m.length (intsOf m)) (hb : w.heap.size ≤ b6) :
    ToldQ w wr m k r (.pointer (some ⟨w6.heap.size + 1, 0, none⟩)) (.pointer (some ⟨w6.heap.size, 0, none⟩)) ((w6.alloc (TrtQ k r)).alloc (TstQ Y m.length cY)) :=
  ⟨_, _, Y, cY, rfl, rfl, Nat.le_succ_of_le hB.size, hB.size, ⟨new_second _ _ _ _, row_more (row_below (row_below ho (alloc1 _ _)) (alloc1 _ _)) hb⟩, (Holds.new _ _ _).alloc _, gro_alloc (gro_alloc hB _) _⟩
theorem toldq_c {x0 x1 x2 y0 y1 : Value} (hB : Below wr.heap.size wr w6) (ho : w6.ownsRow b6 3 1 (.slice Y m.length cY) m.length (intsOf m)) (hb : w.heap.size ≤ b6) (hX : Holds w6 wr.heap.size 24 #[x0, x1, x2]) :
    ToldQ w wr m k r (.pointer (some ⟨wr.heap.size, 0, none⟩)) (.pointer (some ⟨w6.heap.size, 0, none⟩)) ((((((w6.alloc (.cells #[y0, y1] 28)).setCell ⟨wr.heap.size, 0, none⟩ (.int .i64 4)).setCell ⟨wr.heap.size, 1, none⟩ (.int .i64 0)).setCell ⟨wr.heap.size, 2, none⟩ (.slice Y m.length cY)).setCell ⟨w6.heap.size, 0, none⟩ (.int .i64 k)).setCell ⟨w6.heap.size, 1, none⟩ (.int .i64 r)) :=
  toldq_sets (hX.alloc _) (Holds.new _ _ _) (by have := hX.lt; omega) (row_more (row_below ho (alloc1 _ _)) hb) (Nat.le_refl _) hB.size (gro_alloc hB _)
theorem toldq_e {y0 y1 : Value} (hB : Below wr.heap.size wr w6) (ho : w6.ownsRow b6 3 1 (.slice Y m.length cY) m.length (intsOf m)) (hb : w.heap.size ≤ b6) (hR : Holds w6 wr.heap.size 28 #[y0, y1]) :
    ToldQ w wr m k r (.pointer (some ⟨w6.heap.size, 0, none⟩)) (.pointer (some ⟨wr.heap.size, 0, none⟩)) (((w6.alloc (TstQ Y m.length cY)).setCell ⟨wr.heap.size, 0, none⟩ (.int .i64 k)).setCell ⟨wr.heap.size, 1, none⟩ (.int .i64 r)) := by
  have hlt := hR.lt
  have nr : ∀ g, (Value.slice Y m.length cY).ownBlock = some g → g ≠ wr.heap.size := fun g e e' => hR.not_row ho (by decide) (by rw [e, e'])
  refine ⟨_, _, Y, cY, rfl, rfl, hB.size, Nat.le_refl _, ⟨?_, ?_⟩, ?_, ?_⟩
  · exact set_other (set_other (Holds.new _ _ _) _ _ (by omega)) _ _ (by omega)
  · exact row_more (row_set (row_set (row_below ho (alloc1 _ _)) _ _ _ nr) _ _ _ nr) hb
  · exact set_two (hR.alloc _)
  · exact gro_set (gro_set (gro_alloc hB _) _ _ (Nat.le_refl _)) _ _ (Nat.le_refl _)
end

/-- What is in the queue when p have been put in and q taken off. -/
def qlist (l : List Int) (p q : Nat) : List Int := (l.take p).drop q
theorem qlist_len {l : List Int} {p q : Nat} (hp : p ≤ l.length) : (qlist l p q).length = p - q := by
  unfold qlist; rw [List.length_drop, List.length_take]; omega
theorem qlist_put {l : List Int} {p q : Nat} {x : Int} (hq : q ≤ p) (hx : l[p]? = some x) : qlist l p q ++ [x] = qlist l (p + 1) q := by
  have hp : p < l.length := (List.getElem?_eq_some_iff.1 hx).1
  unfold qlist
  rw [List.take_add_one, hx, List.drop_append_of_le_length (by rw [List.length_take]; omega)]
  rfl
theorem qlist_none (l : List Int) (p : Nat) : qlist l p p = [] := by
  unfold qlist; rw [List.drop_eq_nil_iff, List.length_take]; omega
theorem qlist_take {l : List Int} {p q : Nat} {y : Int} (hq : q < p) (hy : l[q]? = some y) : qlist l p q = y :: qlist l p (q + 1) := by
  unfold qlist
  rw [List.drop_eq_getElem_cons (by rw [List.length_take]; have := (List.getElem?_eq_some_iff.1 hy).1; omega)]
  congr 1
  have := (List.getElem?_eq_some_iff.1 hy).2
  rw [List.getElem_take]; exact this
set_option maxHeartbeats 1000000 in
theorem neq_ret (w : World) (a b c d : Int) : (binOp .neq 28 (.agg #[.int .i64 a, .int .i64 b]) (.agg #[.int .i64 c, .int .i64 d])).run Try.prog w = .ok (.bool (!sameRet a b c d)) w := by
  unfold sameRet
  cases h1 : (a == c) <;> cases h2 : (b == d)
  all_goals go_simp
/-- The state handed over from one box to another. -/
theorem qbox_move {base : Nat} {W : World} {X Sb : Nat} {m : List Int} {Y : Option Addr} {cY : Nat} {a b c : Value} (h : QBox base W X m Y cY) (hS : Holds W Sb 24 #[a, b, c]) :
    QBox base (((W.setCell ⟨Sb, 0, none⟩ (.int .i64 4)).setCell ⟨Sb, 1, none⟩ (.int .i64 0)).setCell ⟨Sb, 2, none⟩ (.slice Y m.length cY)) Sb m Y cY := by
  have n1 : ∀ g, (Value.slice Y m.length cY).ownBlock = some g → g ≠ Sb := fun g e e' => hS.not_row h.row (by decide) (by rw [e, e'])
  exact ⟨set_three hS, row_set (row_set (row_set h.row _ _ _ n1) _ _ _ n1) _ _ _ n1⟩
end Go.Proofs.Ythnaogdiiflljaa
