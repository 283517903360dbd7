/- Lines side by side: same. -/
import Derived.Test.YtmpglmepmdpjoaaOpBase
import Derived.Test.YtmpglmepmdpjoaaTkD
import Derived.Test.YtmpglmepmdpjoaaTkF
namespace Go.Proofs.Ytmpglmepmdpjoaa
open Go.RowKit
set_option linter.unusedVariables false

def ReadWords (B : Nat) (W : World) (A : Option Addr) (ws : List Wd) : Prop :=
  0 < ws.length → ∃ b off, A = some ⟨b, off, none⟩ ∧ b < B ∧ ∀ j, j < ws.length → W.cell? ⟨b, off + j * 2, none⟩ = some (.string (strOfNums (ws[j]?.getD (0, [])).2)) ∧ W.cell? ⟨b, off + j * 2 + 1, none⟩ = some (.int .i64 (ws[j]?.getD (0, [])).1)

def ReadLines (B : Nat) (W : World) (A : Option Addr) (ls : List Ln) : Prop :=
  0 < ls.length → ∃ b off, A = some ⟨b, off, none⟩ ∧ b < B ∧ ∀ j, j < ls.length → ∃ Aw cw, W.cell? ⟨b, off + j * 2, none⟩ = some (.int .i64 (ls[j]?.getD (0, [])).1) ∧ W.cell? ⟨b, off + j * 2 + 1, none⟩ = some (.slice Aw (ls[j]?.getD (0, [])).2.length cw) ∧ ReadWords B W Aw (ls[j]?.getD (0, [])).2

theorem ReadWords.below {B : Nat} {W W' : World} {A : Option Addr} {ws : List Wd} (h : ReadWords B W A ws) (hb : Below B W W') : ReadWords B W' A ws := fun hl => by
  obtain ⟨b, off, e, hlt, hc⟩ := h hl
  exact ⟨b, off, e, hlt, fun j hj => ⟨(hb.cell (p := ⟨b, off + j * 2, none⟩) hlt).trans (hc j hj).1, (hb.cell (p := ⟨b, off + j * 2 + 1, none⟩) hlt).trans (hc j hj).2⟩⟩
theorem ReadLines.below {B : Nat} {W W' : World} {A : Option Addr} {ls : List Ln} (h : ReadLines B W A ls) (hb : Below B W W') : ReadLines B W' A ls := fun hl => by
  obtain ⟨b, off, e, hlt, hc⟩ := h hl
  refine ⟨b, off, e, hlt, fun j hj => ?_⟩
  obtain ⟨Aw, cw, h1, h2, h3⟩ := hc j hj
  exact ⟨Aw, cw, (hb.cell (p := ⟨b, off + j * 2, none⟩) hlt).trans h1, (hb.cell (p := ⟨b, off + j * 2 + 1, none⟩) hlt).trans h2, h3.below hb⟩
theorem ReadWords.mono {B B' : Nat} {W : World} {A : Option Addr} {ws : List Wd} (h : ReadWords B W A ws) (hb : B ≤ B') : ReadWords B' W A ws := fun hl => by
  obtain ⟨b, off, e, hlt, hc⟩ := h hl
  exact ⟨b, off, e, by omega, hc⟩
theorem ReadLines.mono {B B' : Nat} {W : World} {A : Option Addr} {ls : List Ln} (h : ReadLines B W A ls) (hb : B ≤ B') : ReadLines B' W A ls := fun hl => by
  obtain ⟨b, off, e, hlt, hc⟩ := h hl
  refine ⟨b, off, e, by omega, fun j hj => ?_⟩
  obtain ⟨Aw, cw, h1, h2, h3⟩ := hc j hj
  exact ⟨Aw, cw, h1, h2, h3.mono hb⟩

theorem ReadLines.grow {W W' : World} {A : Option Addr} {ls : List Ln} (h : ReadLines W.heap.size W A ls) (hb : Below W.heap.size W W') : ReadLines W'.heap.size W' A ls := (h.below hb).mono hb.size

theorem flat2_even {α β : Type} (f g : α → β) : ∀ (l : List α) (j : Nat), (l.flatMap fun x => [f x, g x])[j * 2]? = l[j]?.map f
  | [], j => by simp
  | x :: r, 0 => by simp
  | x :: r, j + 1 => by
    have := flat2_even f g r j
    rw [List.flatMap_cons, show (j + 1) * 2 = j * 2 + 1 + 1 by omega]; simpa using this
theorem flat2_odd {α β : Type} (f g : α → β) : ∀ (l : List α) (j : Nat), (l.flatMap fun x => [f x, g x])[j * 2 + 1]? = l[j]?.map g
  | [], j => by simp
  | x :: r, 0 => by simp
  | x :: r, j + 1 => by
    have := flat2_odd f g r j
    rw [List.flatMap_cons, show (j + 1) * 2 + 1 = j * 2 + 1 + 1 + 1 by omega]; simpa using this

theorem read_row {W : World} {base : Nat} {A : Option Addr} {c : Nat} {ws : List Wd} (h : W.ownsRow base 90 2 (.slice A ws.length c) ws.length (wordCells ws)) : ReadWords W.heap.size W A ws := by
  intro hl
  rcases h.2 with ⟨e, hn⟩ | ⟨g, cap, cur, e, hb, hg, _⟩
  · omega
  · cases e
    refine ⟨g, 0, rfl, (Array.getElem?_eq_some_iff.1 hg).1, fun j hj => ?_⟩
    rw [Nat.zero_add, h.cellAt (j * 2) (by omega), h.cellAt (j * 2 + 1) (by omega)]
    unfold wordCells
    rw [flat2_even, flat2_odd, List.getElem?_eq_getElem hj]
    exact ⟨rfl, rfl⟩

theorem OwnLines.read {W : World} {base : Nat} {v : Value} {ls : List Ln} (h : OwnLines W base v ls) : ∃ A c, v = .slice A ls.length c ∧ ReadLines W.heap.size W A ls := by
  obtain ⟨zs, hz, hr, hw⟩ := h
  have hlen : zs.length = ls.length := by rw [← hz, List.length_map]
  rw [hlen] at hr
  obtain ⟨A, c, rfl⟩ := row_one hr
  refine ⟨A, c, rfl, fun hl => ?_⟩
  rcases hr.2 with ⟨e, hn⟩ | ⟨g, cap, cur, e, hb, hg, _⟩
  · omega
  · cases e
    refine ⟨g, 0, rfl, (Array.getElem?_eq_some_iff.1 hg).1, fun j hj => ?_⟩
    have hj' : j < zs.length := by omega
    have e1 : ls[j]?.getD (0, []) = zs[j].1 := by rw [← hz, List.getElem?_map, List.getElem?_eq_getElem hj']; rfl
    have hwj := hw _ (List.getElem_mem hj')
    obtain ⟨Aw, cw, ew⟩ := row_one hwj
    rw [ew] at hwj
    refine ⟨Aw, cw, ?_, ?_, ?_⟩
    · rw [Nat.zero_add, hr.cellAt (j * 2) (by omega)]
      unfold lineCells
      rw [flat2_even, List.getElem?_eq_getElem hj', e1]; rfl
    · rw [Nat.zero_add, hr.cellAt (j * 2 + 1) (by omega)]
      unfold lineCells
      rw [flat2_odd, List.getElem?_eq_getElem hj', e1]
      show some zs[j].2 = _
      rw [ew]
    · rw [e1]; exact read_row hwj

end Go.Proofs.Ytmpglmepmdpjoaa
