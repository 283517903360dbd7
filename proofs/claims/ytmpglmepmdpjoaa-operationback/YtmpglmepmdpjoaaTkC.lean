/- Rows of words and of lines, and boxes of two cells. -/
import Derived.Test.YtmpglmepmdpjoaaOpBase
import Derived.Test.YtmpglmepmdpjoaaTkB
import Derived.Laws.BytesArg
import Derived.Deep.AppendLies
namespace Go.Proofs.Ytmpglmepmdpjoaa
open Go.RowKit Go.Shelf
set_option linter.unusedVariables false

abbrev Wd := Nat × List Int
abbrev Ln := Nat × List Wd

/-- Block B holds two cells. -/
def Pair2 (W : World) (B : Nat) (t : TypeId) (a b : Value) : Prop := W.heap[B]? = some (.cells #[a, b] t (0, 0))
theorem Pair2.lt {W : World} {B : Nat} {t : TypeId} {a b : Value} (h : Pair2 W B t a b) : B < W.heap.size := (Array.getElem?_eq_some_iff.1 h).1
theorem Pair2.c0 {W : World} {B : Nat} {t : TypeId} {a b : Value} (h : Pair2 W B t a b) : W.cell? ⟨B, 0, none⟩ = some a := by simp [World.cell?, show W.heap[B]? = _ from h]
theorem Pair2.c1 {W : World} {B : Nat} {t : TypeId} {a b : Value} (h : Pair2 W B t a b) : W.cell? ⟨B, 1, none⟩ = some b := by simp [World.cell?, show W.heap[B]? = _ from h]
theorem Pair2.frozen {W : World} {B : Nat} {t : TypeId} {a b : Value} (h : Pair2 W B t a b) (j : Nat) : W.frozen? ⟨B, j, none⟩ = false := by simp [World.frozen?, show W.heap[B]? = _ from h]
theorem Pair2.new (W : World) (t : TypeId) (a b : Value) : Pair2 (W.alloc (.cells #[a, b] t)) W.heap.size t a b := World.alloc_heap_new W _
theorem Pair2.alloc {W : World} {B : Nat} {t : TypeId} {a b : Value} (h : Pair2 W B t a b) (o : Obj) : Pair2 (W.alloc o) B t a b := (Below.heap_alloc W o B h.lt).trans h
theorem Pair2.of {W W' : World} {B : Nat} {t : TypeId} {a b : Value} (h : Pair2 W B t a b) (e : W'.heap[B]? = W.heap[B]?) : Pair2 W' B t a b := e.trans h
theorem Pair2.other {W : World} {B : Nat} {t : TypeId} {a b : Value} (h : Pair2 W B t a b) (p : Addr) (hne : B ≠ p.block) (u : Value) : Pair2 (W.setCell p u) B t a b := (Below.heap_setCell _ _ _ _ hne).trans h
theorem Pair2.set {W : World} {B : Nat} {t : TypeId} {a b : Value} (h : Pair2 W B t a b) (a' b' : Value) : Pair2 ((W.setCell ⟨B, 0, none⟩ a').setCell ⟨B, 1, none⟩ b') B t a' b' := by
  have h1 : (W.setCell ⟨B, 0, none⟩ a').heap[B]? = some (.cells (#[a, b].setIfInBounds 0 a') t (0, 0)) := heap_setCell_same W B 0 #[a, b] t a' h
  exact heap_setCell_same _ B 1 _ t b' h1
theorem pair2_own {β : Type} (B : Nat) (t : TypeId) (f g : β → Value) : Own (fun s W => Pair2 W B t (f s) (g s)) := fun s X Y row hs hg hrow =>
  hs.of (hg.block B hs.lt (fun e => by obtain ⟨o, ho, hc⟩ := hrow B e.symm; rw [show X.heap[B]? = _ from hs] at ho; cases ho; cases hc))

theorem boxed_of {W W' : World} {B : Nat} {t : TypeId} {v : Value} (h : Boxed W B t v) (e : W'.heap[B]? = W.heap[B]?) : Boxed W' B t v := e.trans h

theorem conv_some (B : Nat) (W : World) (A : Option Addr) (c : Nat) (l : List Int) (h : BytesB B W A l) (hl : l ≠ []) : (convert 85 9 (.slice A l.length c)).run Try.prog W = .ok (.string (strOfNums l)) W := by
  obtain ⟨b, off, rfl, _, hc⟩ := h (List.length_pos_iff.2 hl)
  refine run_convert_bytes_arg (P := Try.prog) W 85 5 Try.underlying85 Try.underlying5 b off l.length c l rfl (fun i hi => ?_) 9 Try.underlying9
  rw [hc i hi, List.getD]

/-! ### Rows -/

def wordCells (ws : List Wd) : List Value := ws.flatMap fun x => [.string (strOfNums x.2), .int .i64 x.1]
def lineCells (zs : List (Ln × Value)) : List Value := zs.flatMap fun z => [.int .i64 z.1.1, z.2]

theorem wordCells_snoc (ws : List Wd) (x : Wd) : wordCells (ws ++ [x]) = wordCells ws ++ [.string (strOfNums x.2), .int .i64 x.1] := by simp [wordCells]
theorem lineCells_snoc (zs : List (Ln × Value)) (z : Ln × Value) : lineCells (zs ++ [z]) = lineCells zs ++ [.int .i64 z.1.1, z.2] := by simp [lineCells]

theorem row_below {W W' : World} {base : Nat} {e : TypeId} {size : Nat} {v : Value} {n : Nat} {xs : List Value} (h : W.ownsRow base e size v n xs) (hb : Below W.heap.size W W') : W'.ownsRow base e size v n xs :=
  h.kept (row := none) ⟨hb.os, hb.tape, hb.output, hb.size, fun k hk _ => hb.block k hk⟩ (by
    rcases h.2 with ⟨rfl, _⟩ | ⟨g, cap, cur, rfl, _⟩
    · exact .inl rfl
    · exact .inr (by simp [Value.ownBlock]))

theorem row_mono {W : World} {base base' : Nat} {e : TypeId} {size : Nat} {v : Value} {n : Nat} {xs : List Value} (h : W.ownsRow base e size v n xs) (hb : base' ≤ base) : W.ownsRow base' e size v n xs := by
  refine ⟨h.1, ?_⟩
  rcases h.2 with h' | ⟨g, cap, cur, h1, h2, h3⟩
  · exact .inl h'
  · exact .inr ⟨g, cap, cur, h1, by omega, h3⟩

theorem row_apart {W : World} {base base' : Nat} {e e' : TypeId} {size size' : Nat} {v v' : Value} {n n' : Nat} {xs xs' : List Value} (h : W.ownsRow base e size v n xs) (h' : W.ownsRow base' e' size' v' n' xs') (hne : e ≠ e') :
    v.ownBlock = none ∨ v.ownBlock ≠ v'.ownBlock := by
  rcases h.2 with ⟨rfl, _⟩ | ⟨g, cap, cur, rfl, _, hg, _⟩
  · exact .inl rfl
  · refine .inr fun eq => ?_
    rcases h'.2 with ⟨rfl, _⟩ | ⟨g', cap', cur', rfl, _, hg', _⟩
    · simp [Value.ownBlock] at eq
    · obtain rfl : g = g' := by simpa [Value.ownBlock] using eq
      rw [hg] at hg'; simp at hg'; exact hne hg'.2

theorem row_box {W : World} {base : Nat} {e t : TypeId} {size : Nat} {v u : Value} {n : Nat} {xs : List Value} {B : Nat} (h : W.ownsRow base e size v n xs) (hB : Boxed W B t u) (hne : t ≠ e) : v.ownBlock = none ∨ v.ownBlock ≠ some B := .inr (hB.not_row hne h).symm

theorem row_one {W : World} {base : Nat} {e : TypeId} {size : Nat} {v : Value} {n : Nat} {xs : List Value} (h : W.ownsRow base e size v n xs) : ∃ A c, v = .slice A n c := by
  rcases h.2 with ⟨rfl, rfl⟩ | ⟨g, cap, cur, rfl, _⟩
  · exact ⟨_, _, rfl⟩
  · exact ⟨_, _, rfl⟩

/-- Rows of words, one a line. -/
def WRows (W : World) (base : Nat) (zs : List (Ln × Value)) : Prop := ∀ z ∈ zs, W.ownsRow base 90 2 z.2 z.1.2.length (wordCells z.1.2)

theorem WRows.kept {W W' : World} {base : Nat} {zs : List (Ln × Value)} {row : Option Nat} (h : WRows W base zs) (hg : W.grownBy W' row) (hne : ∀ z ∈ zs, z.2.ownBlock = none ∨ z.2.ownBlock ≠ row) : WRows W' base zs :=
  fun z hz => (h z hz).kept hg (hne z hz)
theorem WRows.below {W W' : World} {base : Nat} {zs : List (Ln × Value)} (h : WRows W base zs) (hb : Below W.heap.size W W') : WRows W' base zs := fun z hz => row_below (h z hz) hb
theorem WRows.alloc {W : World} {base : Nat} {zs : List (Ln × Value)} (h : WRows W base zs) (o : Obj) : WRows (W.alloc o) base zs := fun z hz => (h z hz).alloc o

/-- A slice of lines of its own. -/
def OwnLines (W : World) (base : Nat) (v : Value) (ls : List Ln) : Prop :=
  ∃ zs : List (Ln × Value), zs.map Prod.fst = ls ∧ W.ownsRow base 88 2 v zs.length (lineCells zs) ∧ WRows W base zs

theorem OwnLines.below {W W' : World} {base : Nat} {v : Value} {ls : List Ln} (h : OwnLines W base v ls) (hb : Below W.heap.size W W') : OwnLines W' base v ls := by
  obtain ⟨zs, h1, h2, h3⟩ := h
  exact ⟨zs, h1, row_below h2 hb, h3.below hb⟩
theorem OwnLines.mono {W : World} {base base' : Nat} {v : Value} {ls : List Ln} (h : OwnLines W base v ls) (hb : base' ≤ base) : OwnLines W base' v ls := by
  obtain ⟨zs, h1, h2, h3⟩ := h
  exact ⟨zs, h1, row_mono h2 hb, fun z hz => row_mono (h3 z hz) hb⟩
theorem OwnLines.nil (W : World) (base : Nat) : OwnLines W base (.slice none 0 0) [] := ⟨[], rfl, World.ownsRow_nil _ _ _ _, fun z hz => by cases hz⟩
theorem OwnLines.kept {W W' : World} {base : Nat} {v : Value} {ls : List Ln} {row : Option Nat} (h : OwnLines W base v ls) (hg : W.grownBy W' row)
    (hrow : ∀ r, row = some r → ∃ o : Obj, W.heap[r]? = some o ∧ ∀ cs, o ≠ .cells cs 88 (0, 0) ∧ o ≠ .cells cs 90 (0, 0)) : OwnLines W' base v ls := by
  obtain ⟨zs, h1, h2, h3⟩ := h
  refine ⟨zs, h1, h2.kept hg ?_, h3.kept hg fun z hz => ?_⟩
  · rcases h2.2 with ⟨rfl, _⟩ | ⟨g, cap, cur, rfl, _, hgb, _⟩
    · exact .inl rfl
    · refine .inr fun e => ?_
      obtain ⟨o, ho, hc⟩ := hrow g (by simpa [Value.ownBlock] using e.symm)
      rw [hgb] at ho; cases ho; exact (hc cur).1 rfl
  · rcases (h3 z hz).2 with ⟨hn, _⟩ | ⟨g, cap, cur, hn, _, hgb, _⟩
    · exact .inl (by rw [hn]; rfl)
    · refine .inr fun e => ?_
      rw [hn] at e
      obtain ⟨o, ho, hc⟩ := hrow g (by simpa [Value.ownBlock] using e.symm)
      rw [hgb] at ho; cases ho; exact (hc cur).2 rfl

theorem cell_two_new (W : World) (t : TypeId) (a b : Value) : ∀ j u, [a, b][j]? = some u → (W.alloc (.cells #[a, b] t)).cell? ((⟨W.heap.size, 0, none⟩ : Addr).add j) = some u := by
  intro j u h
  match j with
  | 0 => simp at h; subst h; simp [Addr.add, World.cell?_alloc_new]
  | 1 => simp at h; subst h; simp [Addr.add, World.cell?_alloc_new]
  | j + 2 => simp at h

/-- Behind 'lines = append(lines, line)'. -/
theorem lines_appended {W w1 : World} {n₀ B : Nat} {v v' : Value} {zs : List (Ln × Value)} {z : Ln × Value} {tmp : Obj} (hv : Boxed W B 80 v) (hrow : W.ownsRow n₀ 88 2 v zs.length (lineCells zs)) (hrs : WRows W n₀ zs)
    (hz : W.ownsRow n₀ 90 2 z.2 z.1.2.length (wordCells z.1.2))
    (hown' : w1.ownsRow n₀ 88 2 v' (zs.length + 1) (lineCells zs ++ [.int .i64 z.1.1, z.2])) (hgrow : (W.alloc tmp).grownBy w1 v.ownBlock) :
    OwnLines (w1.setCell ⟨B, 0, none⟩ v') n₀ v' ((zs ++ [z]).map Prod.fst) := by
  have hrs' : WRows W n₀ (zs ++ [z]) := fun y hy => by
    rcases List.mem_append.1 hy with h | h
    · exact hrs y h
    · obtain rfl : y = z := by simpa using h
      exact hz
  have h1 : WRows w1 n₀ (zs ++ [z]) := (hrs'.alloc tmp).kept hgrow (fun y hy => row_apart (hrs' y hy) hrow (by decide))
  have hv1 : Boxed w1 B 80 v := (hv.alloc tmp).kept hgrow (hv.not_row (by decide) hrow)
  refine ⟨zs ++ [z], rfl, ?_, h1.kept (grownBy_setCell' w1 B v') fun y hy => row_box (h1 y hy) hv1 (by decide)⟩
  rw [List.length_append, lineCells_snoc]
  exact hown'.kept (grownBy_setCell' w1 B v') (row_box hown' hv1 (by decide))
end Go.Proofs.Ytmpglmepmdpjoaa
