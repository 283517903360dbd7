/- Boxes that are made anywhere in a region: what the walk of SetGrows leans on. (Written by wip/tools/gen_seq.py.) -/
import Derived.Test.YtmhnnilfehankaaSeJ
namespace Go.Proofs.Ytmhnnilfehankaa
open Go.RowKit Go.Maps
set_option linter.unusedVariables false

theorem rev_at (l : List Int) (k : Nat) (h : k < l.length) : l.reverse[k]?.getD 0 = l[l.length - 1 - k]?.getD 0 := by
  rw [List.getElem?_reverse h]
theorem ris_rev (l : List Int) : risL l.reverse = risL l := rise_ext (ris_rise _) (ris_rise _) fun y => by rw [mem_ris, mem_ris, List.mem_reverse]

/-- A set in a box: the box's three cells, and a row of the call's own. -/
structure SetBox (base : Nat) (W : World) (B : Nat) (s : List Int) (A : Option Addr) (c : Nat) : Prop where
  box : Holds W B 24 #[.int .i64 2, .int .i64 0, .slice A s.length c]
  row : W.ownsRow base 3 1 (.slice A s.length c) s.length (intsOf s)
theorem SetBox.below {base B : Nat} {W W' : World} {s : List Int} {A : Option Addr} {c : Nat} (h : SetBox base W B s A c) (hb : Below W.heap.size W W') : SetBox base W' B s A c := ⟨h.box.below hb h.box.lt, row_below h.row hb⟩
theorem SetBox.only {base B B' : Nat} {W W' : World} {s : List Int} {A : Option Addr} {c : Nat} {t : TypeId} {cs : Array Value} (h : SetBox base W B s A c) (ho : Only B' W W') (hne : B ≠ B') (hh : Holds W B' t cs) (ht : t ≠ 3) : SetBox base W' B s A c :=
  ⟨h.box.of (ho.block B h.box.lt hne), h.row.kept ho.grown (.inr (hh.not_row h.row ht).symm)⟩

theorem gro_alloc {a w : World} (h : Below a.heap.size a w) (o : Obj) : Below a.heap.size a (w.alloc o) := h.alloc h.size o
theorem gro_set {a w : World} (h : Below a.heap.size a w) {b : Nat} (off : Nat) (u : Value) (hb : a.heap.size ≤ b) : Below a.heap.size a (w.setCell ⟨b, off, none⟩ u) := h.setCell (p := ⟨b, off, none⟩) hb u
theorem set_other {W : World} {B b : Nat} {t : TypeId} {cs : Array Value} (h : Holds W B t cs) (off : Nat) (u : Value) (hne : B ≠ b) : Holds (W.setCell ⟨b, off, none⟩ u) B t cs := h.of (Below.heap_setCell _ _ _ _ hne)
theorem set_three {W : World} {B : Nat} {t : TypeId} {a b c a' b' c' : Value} (h : Holds W B t #[a, b, c]) : Holds (((W.setCell ⟨B, 0, none⟩ a').setCell ⟨B, 1, none⟩ b').setCell ⟨B, 2, none⟩ c') B t #[a', b', c'] := ((h.set 0 a').set 1 b').set 2 c'
theorem set_two {W : World} {B : Nat} {t : TypeId} {a b a' b' : Value} (h : Holds W B t #[a, b]) : Holds ((W.setCell ⟨B, 0, none⟩ a').setCell ⟨B, 1, none⟩ b') B t #[a', b'] := (h.set 0 a').set 1 b'
theorem row_set {W : World} {base : Nat} {e : TypeId} {size : Nat} {v : Value} {n : Nat} {xs : List Value} (h : W.ownsRow base e size v n xs) (b off : Nat) (u : Value) (hne : ∀ g, v.ownBlock = some g → g ≠ b) : (W.setCell ⟨b, off, none⟩ u).ownsRow base e size v n xs := by
  refine h.kept (row := some b) ⟨rfl, rfl, rfl, by simp [World.setCell], fun k _ hk => Below.heap_setCell _ _ _ _ (fun e => hk (by rw [e]))⟩ ?_
  rcases h.2 with ⟨rfl, _⟩ | ⟨g, cap, cur, rfl, _⟩
  · exact .inl rfl
  · refine .inr ?_
    intro e
    exact hne g rfl (Option.some.inj e)
theorem new_second (w : World) (o : Obj) (t : TypeId) (cs : Array Value) : Holds ((w.alloc o).alloc (.cells cs t)) (w.heap.size + 1) t cs := by
  have := Holds.new (w.alloc o) t cs
  rwa [World.size_alloc] at this

/-- What a call of Apply has told, in two boxes of its own: the state then and what is returned. -/
def Told (w wr : World) (m : List Int) (r : Int) (s8 s9 : Value) (wx : World) : Prop :=
  ∃ (X R : Nat) (Y : Option Addr) (cY : Nat), s8 = .pointer (some ⟨X, 0, none⟩) ∧ s9 = .pointer (some ⟨R, 0, none⟩) ∧ wr.heap.size ≤ X ∧ wr.heap.size ≤ R ∧ SetBox w.heap.size wx X m Y cY ∧ Holds wx R 28 #[.int .i64 2, .int .i64 r] ∧ Below wr.heap.size wr wx
section
variable {w wr w6 : World} {m : List Int} {r : Int} {Y : Option Addr} {cY b6 : Nat}
abbrev Tst (Y : Option Addr) (k c : Nat) : Obj := .cells #[.int .i64 2, .int .i64 0, .slice Y k c] 24
abbrev Trt (r : Int) : Obj := .cells #[.int .i64 2, .int .i64 r] 28
theorem told_sets {X R : Nat} {W5 : World} {x0 x1 x2 y0 y1 : Value} (hX : Holds W5 X 24 #[x0, x1, x2]) (hR : Holds W5 R 28 #[y0, y1]) (hne : X ≠ R) (ho : W5.ownsRow w.heap.size 3 1 (.slice Y m.length cY) m.length (intsOf m)) (h1 : wr.heap.size ≤ X) (h2 : wr.heap.size ≤ R) (hB : Below wr.heap.size wr W5) :
    Told w wr m r (.pointer (some ⟨X, 0, none⟩)) (.pointer (some ⟨R, 0, none⟩)) (((((W5.setCell ⟨X, 0, none⟩ (.int .i64 2)).setCell ⟨X, 1, none⟩ (.int .i64 0)).setCell ⟨X, 2, none⟩ (.slice Y m.length cY)).setCell ⟨R, 0, none⟩ (.int .i64 2)).setCell ⟨R, 1, none⟩ (.int .i64 r)) := by
  have nx : ∀ g, (Value.slice Y m.length cY).ownBlock = some g → g ≠ X := fun g e e' => hX.not_row ho (by decide) (by rw [e, e'])
  have nr : ∀ g, (Value.slice Y m.length cY).ownBlock = some g → g ≠ R := fun g e e' => hR.not_row ho (by decide) (by rw [e, e'])
  refine ⟨X, R, Y, cY, rfl, rfl, h1, h2, ⟨?_, ?_⟩, ?_, ?_⟩
  · exact set_other (set_other (set_three hX) _ _ hne) _ _ hne
  · exact row_set (row_set (row_set (row_set (row_set ho _ _ _ nx) _ _ _ nx) _ _ _ nx) _ _ _ nr) _ _ _ nr
  · exact set_two (set_other (set_other (set_other hR _ _ hne.symm) _ _ hne.symm) _ _ hne.symm)
  · exact gro_set (gro_set (gro_set (gro_set (gro_set hB _ _ h1) _ _ h1) _ _ h1) _ _ h2) _ _ h2
theorem told_a (hB : Below wr.heap.size wr w6) (ho : w6.ownsRow b6 3 1 (.slice Y m.length cY) m.length (intsOf m)) (hb : w.heap.size ≤ b6) :
    Told w wr m r (.pointer (some ⟨w6.heap.size, 0, none⟩)) (.pointer (some ⟨w6.heap.size + 1, 0, none⟩)) ((w6.alloc (Tst Y m.length cY)).alloc (Trt r)) :=
  ⟨_, _, Y, cY, rfl, rfl, hB.size, Nat.le_succ_of_le hB.size, ⟨(Holds.new _ _ _).alloc _, row_more (row_below (row_below ho (alloc1 _ _)) (alloc1 _ _)) hb⟩, new_second _ _ _ _, gro_alloc (gro_alloc hB _) _⟩
theorem told_b (hB : Below wr.heap.size wr w6) (ho : w6.ownsRow b6 3 1 (.slice Y m.length cY) m.length (intsOf m)) (hb : w.heap.size ≤ b6) :
    Told w wr m r (.pointer (some ⟨w6.heap.size + 1, 0, none⟩)) (.pointer (some ⟨w6.heap.size, 0, none⟩)) ((w6.alloc (Trt r)).alloc (Tst Y m.length cY)) :=
  ⟨_, _, Y, cY, rfl, rfl, Nat.le_succ_of_le hB.size, hB.size, ⟨new_second _ _ _ _, row_more (row_below (row_below ho (alloc1 _ _)) (alloc1 _ _)) hb⟩, (Holds.new _ _ _).alloc _, gro_alloc (gro_alloc hB _) _⟩
theorem told_c {x0 x1 x2 y0 y1 : Value} (hB : Below wr.heap.size wr w6) (ho : w6.ownsRow b6 3 1 (.slice Y m.length cY) m.length (intsOf m)) (hb : w.heap.size ≤ b6) (hX : Holds w6 wr.heap.size 24 #[x0, x1, x2]) :
    Told w wr m r (.pointer (some ⟨wr.heap.size, 0, none⟩)) (.pointer (some ⟨w6.heap.size, 0, none⟩)) ((((((w6.alloc (.cells #[y0, y1] 28)).setCell ⟨wr.heap.size, 0, none⟩ (.int .i64 2)).setCell ⟨wr.heap.size, 1, none⟩ (.int .i64 0)).setCell ⟨wr.heap.size, 2, none⟩ (.slice Y m.length cY)).setCell ⟨w6.heap.size, 0, none⟩ (.int .i64 2)).setCell ⟨w6.heap.size, 1, none⟩ (.int .i64 r)) :=
  told_sets (hX.alloc _) (Holds.new _ _ _) (by have := hX.lt; omega) (row_more (row_below ho (alloc1 _ _)) hb) (Nat.le_refl _) hB.size (gro_alloc hB _)
theorem told_e {y0 y1 : Value} (hB : Below wr.heap.size wr w6) (ho : w6.ownsRow b6 3 1 (.slice Y m.length cY) m.length (intsOf m)) (hb : w.heap.size ≤ b6) (hR : Holds w6 wr.heap.size 28 #[y0, y1]) :
    Told w wr m r (.pointer (some ⟨w6.heap.size, 0, none⟩)) (.pointer (some ⟨wr.heap.size, 0, none⟩)) (((w6.alloc (Tst Y m.length cY)).setCell ⟨wr.heap.size, 0, none⟩ (.int .i64 2)).setCell ⟨wr.heap.size, 1, none⟩ (.int .i64 r)) := by
  have hlt := hR.lt
  have nr : ∀ g, (Value.slice Y m.length cY).ownBlock = some g → g ≠ wr.heap.size := fun g e e' => hR.not_row ho (by decide) (by rw [e, e'])
  refine ⟨_, _, Y, cY, rfl, rfl, hB.size, Nat.le_refl _, ⟨?_, ?_⟩, ?_, ?_⟩
  · exact set_other (set_other (Holds.new _ _ _) _ _ (by omega)) _ _ (by omega)
  · exact row_more (row_set (row_set (row_below ho (alloc1 _ _)) _ _ _ nr) _ _ _ nr) hb
  · exact set_two (hR.alloc _)
  · exact gro_set (gro_set (gro_alloc hB _) _ _ (Nat.le_refl _)) _ _ (Nat.le_refl _)
end
/-- Between two rounds of the first loop. -/
def Grow (w : World) (Bs : Nat) (l : List Int) (k : Nat) (wr : World) : Prop :=
  ∃ (A1 A2 : Option Addr) (c1 c2 : Nat), SetBox w.heap.size wr Bs (risL (l.take k)) A1 c1 ∧ SetBox w.heap.size wr (Bs + 1) (risL (l.reverse.take k)) A2 c2 ∧ Below w.heap.size w wr
theorem grow_next {w wd : World} {Bs k : Nat} {l m m2 : List Int} {X X2 : Nat} {Y Y2 : Option Addr} {cY cY2 : Nat} {a b c a' b' c' : Value} (hm : risL (l.take k) = m) (hm2 : risL (l.reverse.take k) = m2)
    (h1 : SetBox w.heap.size wd X m Y cY) (h2 : SetBox w.heap.size wd X2 m2 Y2 cY2) (hb1 : Holds wd Bs 24 #[a, b, c]) (hb2 : Holds wd (Bs + 1) 24 #[a', b', c']) (hs : w.heap.size ≤ Bs) (hB : Below w.heap.size w wd) :
    Grow w Bs l k ((((((wd.setCell ⟨Bs, 0, none⟩ (.int .i64 2)).setCell ⟨Bs, 1, none⟩ (.int .i64 0)).setCell ⟨Bs, 2, none⟩ (.slice Y m.length cY)).setCell ⟨Bs + 1, 0, none⟩ (.int .i64 2)).setCell ⟨Bs + 1, 1, none⟩ (.int .i64 0)).setCell ⟨Bs + 1, 2, none⟩ (.slice Y2 m2.length cY2)) := by
  subst hm hm2
  have n1 : ∀ {s : List Int} {A : Option Addr} {cA : Nat}, wd.ownsRow w.heap.size 3 1 (.slice A s.length cA) s.length (intsOf s) → ∀ g, (Value.slice A s.length cA).ownBlock = some g → g ≠ Bs := fun ho g e e' => hb1.not_row ho (by decide) (by rw [e, e'])
  have n2 : ∀ {s : List Int} {A : Option Addr} {cA : Nat}, wd.ownsRow w.heap.size 3 1 (.slice A s.length cA) s.length (intsOf s) → ∀ g, (Value.slice A s.length cA).ownBlock = some g → g ≠ Bs + 1 := fun ho g e e' => hb2.not_row ho (by decide) (by rw [e, e'])
  have hrow : ∀ {s : List Int} {A : Option Addr} {cA : Nat} (u v : Value), wd.ownsRow w.heap.size 3 1 (.slice A s.length cA) s.length (intsOf s) → ((((((wd.setCell ⟨Bs, 0, none⟩ (.int .i64 2)).setCell ⟨Bs, 1, none⟩ (.int .i64 0)).setCell ⟨Bs, 2, none⟩ u).setCell ⟨Bs + 1, 0, none⟩ (.int .i64 2)).setCell ⟨Bs + 1, 1, none⟩ (.int .i64 0)).setCell ⟨Bs + 1, 2, none⟩ v).ownsRow w.heap.size 3 1 (.slice A s.length cA) s.length (intsOf s) := fun u v ho =>
    row_set (row_set (row_set (row_set (row_set (row_set ho _ _ _ (n1 ho)) _ _ _ (n1 ho)) _ _ _ (n1 ho)) _ _ _ (n2 ho)) _ _ _ (n2 ho)) _ _ _ (n2 ho)
  refine ⟨Y, Y2, cY, cY2, ⟨?_, hrow _ _ h1.row⟩, ⟨?_, hrow _ _ h2.row⟩, ?_⟩
  · exact set_other (set_other (set_other (set_three hb1) _ _ (by omega)) _ _ (by omega)) _ _ (by omega)
  · exact set_three (set_other (set_other (set_other hb2 _ _ (by omega)) _ _ (by omega)) _ _ (by omega))
  · exact gro_set (gro_set (gro_set (gro_set (gro_set (gro_set hB _ _ hs) _ _ hs) _ _ hs) _ _ (by omega)) _ _ (by omega)) _ _ (by omega)
end Go.Proofs.Ytmhnnilfehankaa
