/- TokenLines, walked. -/
import Derived.Test.YtmmehfpkcheaiaaTkV
namespace Go.Proofs.Ytmmehfpkcheaiaa
open Go.RowKit
set_option linter.unusedVariables false

/-- Rows of words, whatever they hold. -/
def WSome (W : World) (base : Nat) (zs : List (Ln × Value)) : Prop := ∀ z ∈ zs, ∃ xs, W.ownsRow base 36 2 z.2 z.1.2.length xs

theorem cells_set (W : World) (g j : Nat) (u : Value) : W.grownBy (W.setCell ⟨g, j, none⟩ u) (some g) :=
  ⟨rfl, rfl, rfl, by simp [World.setCell], fun k _ hk => Below.heap_setCell _ _ _ k (fun e => hk (by rw [e]))⟩

theorem WSome.stored {W : World} {base : Nat} {zs : List (Ln × Value)} (h : WSome W base zs) (g j : Nat) (u : Value) : WSome (W.setCell ⟨g, j, none⟩ u) base zs := by
  intro z hz
  obtain ⟨xs, hx⟩ := h z hz
  have hx' := hx
  rcases hx.2 with ⟨e, _⟩ | ⟨g', cap, cur, e, _, _⟩
  · exact ⟨xs, hx'.kept (cells_set W g j u) (.inl (by rw [e]; rfl))⟩
  · by_cases hg : g' = g
    · subst hg
      rw [e] at hx' ⊢
      exact ⟨_, (hx'.stored j u).1⟩
    · exact ⟨xs, hx'.kept (cells_set W g j u) (.inr (by rw [e]; simp [Value.ownBlock]; exact hg))⟩

theorem row_stored {W : World} {base base' : Nat} {e e' : TypeId} {size size' n n' cap g j : Nat} {v u : Value} {xs xs' : List Value} (h : W.ownsRow base e size v n xs) (hw : W.ownsRow base' e' size' (.slice (some ⟨g, 0, none⟩) n' cap) n' xs') (hne : e ≠ e') : (W.setCell ⟨g, j, none⟩ u).ownsRow base e size v n xs :=
  h.kept (cells_set W g j u) (row_apart h hw hne)

/-- While lines are written over. -/
structure OverI (w : World) (g cap : Nat) (bs : List Int) (A : Option Addr) (c : Nat) (zs : List (Ln × Value)) (wr : World) : Prop where
  lent : wr.ownsRow w.heap.size 5 1 (.slice (some ⟨g, 0, none⟩) (bs.length + 4) cap) (bs.length + 4) (bytesOf (bs ++ [201, 202, 203, 204]))
  rows : wr.ownsRow w.heap.size 34 2 (.slice A zs.length c) zs.length (lineCells zs)
  words : WSome wr w.heap.size zs
  below : Below w.heap.size w wr

theorem OverI.store {w : World} {g cap : Nat} {bs : List Int} {A : Option Addr} {c : Nat} {zs : List (Ln × Value)} {wr : World} (h : OverI w g cap bs A c zs wr) {gw n' cw : Nat} {xs' : List Value} (hw : wr.ownsRow w.heap.size 36 2 (.slice (some ⟨gw, 0, none⟩) n' cw) n' xs') (j : Nat) (u : Value) :
    OverI w g cap bs A c zs (wr.setCell ⟨gw, j, none⟩ u) :=
  ⟨row_stored h.lent hw (by decide), row_stored h.rows hw (by decide), h.words.stored gw j u, h.below.setCell (p := ⟨gw, j, none⟩) (hw.lt gw rfl).1 u⟩

theorem OverI.at {w : World} {g cap : Nat} {bs : List Int} {A : Option Addr} {c : Nat} {zs : List (Ln × Value)} {wr : World} (h : OverI w g cap bs A c zs wr) {k : Nat} (hk : k < zs.length) : ∃ gl Aw cw, A = some ⟨gl, 0, none⟩ ∧ zs[k].2 = .slice Aw zs[k].1.2.length cw := by
  obtain ⟨xs, hx⟩ := h.words _ (List.getElem_mem hk)
  obtain ⟨Aw, cw, e⟩ := row_one hx
  rcases h.rows.2 with ⟨e', hn⟩ | ⟨gl, cap', cur, e', _, _⟩
  · omega
  · cases e'; exact ⟨gl, Aw, cw, rfl, e⟩

theorem OverI.line {w : World} {g cap : Nat} {bs : List Int} {gl : Nat} {c : Nat} {zs : List (Ln × Value)} {wr : World} (h : OverI w g cap bs (some ⟨gl, 0, none⟩) c zs wr) {k : Nat} (hk : k < zs.length) : wr.cell? ⟨gl, k * 2 + 1, none⟩ = some zs[k].2 := by
  rw [h.rows.cellAt (k * 2 + 1) (by omega), lineCells, flat2_odd, List.getElem?_eq_getElem hk]; rfl

theorem OverI.word {w : World} {g cap : Nat} {bs : List Int} {A : Option Addr} {c : Nat} {zs : List (Ln × Value)} {wr : World} (h : OverI w g cap bs A c zs wr) {k : Nat} (hk : k < zs.length) {Aw : Option Addr} {n cw j : Nat} (hv : zs[k].2 = .slice Aw n cw) (hn : zs[k].1.2.length = n) (hj : j < n) :
    ∃ gw xs u0 u1, Aw = some ⟨gw, 0, none⟩ ∧ wr.ownsRow w.heap.size 36 2 (.slice (some ⟨gw, 0, none⟩) n cw) n xs ∧ wr.cell? ⟨gw, j * 2, none⟩ = some u0 ∧ wr.cell? ⟨gw, j * 2 + 1, none⟩ = some u1 := by
  obtain ⟨xs, hx⟩ := h.words _ (List.getElem_mem hk)
  rw [hv, hn] at hx
  rcases hx.2 with ⟨e', hn⟩ | ⟨gw, cap', cur, e', _, _⟩
  · omega
  · cases e'
    have hl := hx.1
    refine ⟨gw, xs, xs[j * 2]'(by omega), xs[j * 2 + 1]'(by omega), rfl, hx, ?_, ?_⟩
    · rw [hx.cellAt (j * 2) (by omega)]; exact List.getElem?_eq_getElem (by omega)
    · rw [hx.cellAt (j * 2 + 1) (by omega)]; exact List.getElem?_eq_getElem (by omega)
end Go.Proofs.Ytmmehfpkcheaiaa
