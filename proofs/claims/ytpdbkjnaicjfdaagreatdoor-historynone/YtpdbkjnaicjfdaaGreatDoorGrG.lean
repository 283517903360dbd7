/- Rows of events; lines with the room of their words. -/
import Derived.Test.YtpdbkjnaicjfdaaGreatDoorGrF
namespace Go.Proofs.YtpdbkjnaicjfdaaGreatDoor
open Go.RowKit Go.Maps
set_option linter.unusedVariables false
set_option maxRecDepth 100000

abbrev EvZ := Ev × Option Addr × Nat
def evL (z : EvZ) : List Value := (evC z.1 z.2.1 z.2.2).toList
def evsC (zs : List EvZ) : List Value := zs.flatMap evL
theorem evL_len (z : EvZ) : (evL z).length = 11 := rfl
theorem evsC_snoc (zs : List EvZ) (z : EvZ) : evsC (zs ++ [z]) = evsC zs ++ evL z := by simp [evsC]
theorem evsC_at : ∀ (zs : List EvZ) (k j : Nat), j < 11 → (evsC zs)[k * 11 + j]? = (zs[k]?).bind fun z => (evL z)[j]?
  | [], k, j, h => by simp [evsC]
  | z :: r, 0, j, h => by
    show (evL z ++ evsC r)[0 * 11 + j]? = _
    rw [List.getElem?_append_left (by rw [evL_len]; omega)]
    simp
  | z :: r, k + 1, j, h => by
    show (evL z ++ evsC r)[(k + 1) * 11 + j]? = _
    rw [List.getElem?_append_right (by rw [evL_len]; omega), evL_len, show (k + 1) * 11 + j - 11 = k * 11 + j by omega, evsC_at r k j h]
    simp

/-- The numbers of the events' states lie in rows of their own. -/
def EvRows (W : World) (base : Nat) (zs : List EvZ) : Prop := ∀ z ∈ zs, OwnInts base W (.slice z.2.1 z.1.st.2.2.length z.2.2) z.1.st.2.2
theorem EvRows.kept {W W' : World} {base : Nat} {zs : List EvZ} {row : Option Nat} (h : EvRows W base zs) (hg : W.grownBy W' row) (hr : ∀ r, row = some r → ∃ cs t m, W.heap[r]? = some (.cells cs t m) ∧ t ≠ 3) : EvRows W' base zs := fun z hz => by
  refine (h z hz).kept hg ?_
  rcases (h z hz).2 with ⟨e, _⟩ | ⟨g, cap, cur, e, _, hgb, _⟩
  · exact .inl (by rw [e]; rfl)
  · refine .inr fun eq => ?_
    rw [e] at eq
    obtain ⟨cs, t, m, h1, h2⟩ := hr g (by simpa [Value.ownBlock] using eq.symm)
    rw [hgb] at h1
    simp only [Option.some.injEq, Obj.cells.injEq] at h1
    exact h2 h1.2.1.symm
theorem EvRows.below {W W' : World} {base : Nat} {zs : List EvZ} (h : EvRows W base zs) (hb : Below W.heap.size W W') : EvRows W' base zs := fun z hz => row_below (h z hz) hb
theorem EvRows.mono {W : World} {base base' : Nat} {zs : List EvZ} (h : EvRows W base zs) (hb : base' ≤ base) : EvRows W base' zs := fun z hz => row_mono (h z hz) hb

theorem EvRows.alloc {W : World} {base : Nat} {zs : List EvZ} (h : EvRows W base zs) (o : Obj) : EvRows (W.alloc o) base zs := fun z hz => (h z hz).alloc o
theorem EvRows.one {W : World} {base : Nat} {z : EvZ} (h : OwnInts base W (.slice z.2.1 z.1.st.2.2.length z.2.2) z.1.st.2.2) : EvRows W base [z] := fun y hy => by
  obtain rfl : y = z := by simpa using hy
  exact h

/-- A slice of events of its own. -/
def OwnEvs (W : World) (base : Nat) (v : Value) (es : List Ev) : Prop :=
  ∃ zs : List EvZ, zs.map Prod.fst = es ∧ W.ownsRow base 55 11 v zs.length (evsC zs) ∧ EvRows W base zs
theorem OwnEvs.below {W W' : World} {base : Nat} {v : Value} {es : List Ev} (h : OwnEvs W base v es) (hb : Below W.heap.size W W') : OwnEvs W' base v es := by
  obtain ⟨zs, h1, h2, h3⟩ := h
  exact ⟨zs, h1, row_below h2 hb, h3.below hb⟩
theorem OwnEvs.mono {W : World} {base base' : Nat} {v : Value} {es : List Ev} (h : OwnEvs W base v es) (hb : base' ≤ base) : OwnEvs W base' v es := by
  obtain ⟨zs, h1, h2, h3⟩ := h
  exact ⟨zs, h1, row_mono h2 hb, h3.mono hb⟩
theorem OwnEvs.nil (W : World) (base : Nat) : OwnEvs W base (.slice none 0 0) [] := ⟨[], rfl, World.ownsRow_nil _ _ _ _, fun z hz => by cases hz⟩

/-- Events to be read. -/
def ReadEvs (B : Nat) (W : World) (A : Option Addr) (zs : List EvZ) : Prop :=
  0 < zs.length → ∃ b off, A = some ⟨b, off, none⟩ ∧ b < B ∧ ∀ k, k < zs.length → ∀ j, j < 11 → W.cell? ⟨b, off + k * 11 + j, none⟩ = (evL (zs[k]?.getD (⟨0, emB, emB, op0, stz⟩, none, 0)))[j]?
theorem ReadEvs.below {B : Nat} {W W' : World} {A : Option Addr} {zs : List EvZ} (h : ReadEvs B W A zs) (hb : Below B W W') : ReadEvs B W' A zs := fun hl => by
  obtain ⟨b, off, e, hlt, hc⟩ := h hl
  exact ⟨b, off, e, hlt, fun k hk j hj => (hb.cell (p := ⟨b, off + k * 11 + j, none⟩) hlt).trans (hc k hk j hj)⟩
theorem ReadEvs.mono {B B' : Nat} {W : World} {A : Option Addr} {zs : List EvZ} (h : ReadEvs B W A zs) (hb : B ≤ B') : ReadEvs B' W A zs := fun hl => by
  obtain ⟨b, off, e, hlt, hc⟩ := h hl
  exact ⟨b, off, e, by omega, hc⟩
theorem read_evs {W : World} {base : Nat} {A : Option Addr} {c : Nat} {zs : List EvZ} (h : W.ownsRow base 55 11 (.slice A zs.length c) zs.length (evsC zs)) : ReadEvs W.heap.size W A zs := by
  intro hl
  rcases h.2 with ⟨e, hn⟩ | ⟨g, cap, cur, e, hb, hg, _⟩
  · omega
  · cases e
    refine ⟨g, 0, rfl, (Array.getElem?_eq_some_iff.1 hg).1, fun k hk j hj => ?_⟩
    rw [Nat.zero_add, h.cellAt (k * 11 + j) (by omega), evsC_at zs k j hj, List.getElem?_eq_getElem hk]
    rfl
/-- The states' numbers to be read. -/
def ReadNums (W : World) (zs : List EvZ) : Prop := ∀ z ∈ zs, Ints W z.2.1 z.1.st.2.2
theorem ReadNums.below {W W' : World} {zs : List EvZ} (h : ReadNums W zs) (hb : Below W.heap.size W W') : ReadNums W' zs := fun z hz => (h z hz).below hb
theorem EvRows.read {W : World} {base : Nat} {zs : List EvZ} (h : EvRows W base zs) : ReadNums W zs := fun z hz => own_ints rfl (h z hz)

theorem cell_new_any (W : World) (t : TypeId) (cs : Array Value) : ∀ j u, cs.toList[j]? = some u → (W.alloc (.cells cs t)).cell? ((⟨W.heap.size, 0, none⟩ : Addr).add j) = some u := by
  intro j u h
  have e : (⟨W.heap.size, 0, none⟩ : Addr).add j = ⟨W.heap.size, j, none⟩ := by rw [add_flat, Nat.zero_add]
  rw [e]
  exact (Holds.new W t cs).c (by rw [← Array.getElem?_toList]; exact h)

/-- Lines to be read, with the room of their words. -/
def ReadLinesC (B : Nat) (W : World) (A : Option Addr) (ls : List Ln) : Prop :=
  0 < ls.length → ∃ b off, A = some ⟨b, off, none⟩ ∧ b < B ∧ ∀ j, j < ls.length → ∃ Aw cw, W.cell? ⟨b, off + j * 2, none⟩ = some (.int .i64 (ls[j]?.getD (0, [])).1) ∧ W.cell? ⟨b, off + j * 2 + 1, none⟩ = some (.slice Aw (ls[j]?.getD (0, [])).2.length cw) ∧ ReadWords B W Aw (ls[j]?.getD (0, [])).2 ∧ (ls[j]?.getD (0, [])).2.length ≤ cw
theorem ReadLinesC.below {B : Nat} {W W' : World} {A : Option Addr} {ls : List Ln} (h : ReadLinesC B W A ls) (hb : Below B W W') : ReadLinesC B W' A ls := fun hl => by
  obtain ⟨b, off, e, hlt, hc⟩ := h hl
  refine ⟨b, off, e, hlt, fun j hj => ?_⟩
  obtain ⟨Aw, cw, h1, h2, h3, h4⟩ := hc j hj
  exact ⟨Aw, cw, (hb.cell (p := ⟨b, off + j * 2, none⟩) hlt).trans h1, (hb.cell (p := ⟨b, off + j * 2 + 1, none⟩) hlt).trans h2, h3.below hb, h4⟩
theorem own_cap {W : World} {base : Nat} {e : TypeId} {size n c : Nat} {A : Option Addr} {xs : List Value} (h : W.ownsRow base e size (.slice A n c) n xs) : n ≤ c := by
  rcases h.2 with ⟨e1, e2⟩ | ⟨g, cap, cur, e1, _, _, h3, _⟩
  · omega
  · injection e1 with _ _ e4
    omega
theorem OwnLines.readC {W : World} {base : Nat} {v : Value} {ls : List Ln} (h : OwnLines W base v ls) : ∃ A c, v = .slice A ls.length c ∧ ReadLinesC W.heap.size W A ls := by
  obtain ⟨zs, hz, hr, hw⟩ := h
  have hlen : zs.length = ls.length := by rw [← hz, List.length_map]
  rw [hlen] at hr
  obtain ⟨A, c, rfl⟩ := row_one hr
  refine ⟨A, c, rfl, fun hl => ?_⟩
  rcases hr.2 with ⟨e, hn⟩ | ⟨g, cap, cur, e, hb, hg, _⟩
  · omega
  · cases e
    refine ⟨g, 0, rfl, (Array.getElem?_eq_some_iff.1 hg).1, fun j hj => ?_⟩
    have hj' : j < zs.length := by omega
    have e1 : ls[j]?.getD (0, []) = zs[j].1 := by rw [← hz, List.getElem?_map, List.getElem?_eq_getElem hj']; rfl
    have hwj := hw _ (List.getElem_mem hj')
    obtain ⟨Aw, cw, ew⟩ := row_one hwj
    rw [ew] at hwj
    refine ⟨Aw, cw, ?_, ?_, ?_, ?_⟩
    · rw [Nat.zero_add, hr.cellAt (j * 2) (by omega)]
      unfold lineCells
      rw [flat2_even, List.getElem?_eq_getElem hj', e1]; rfl
    · rw [Nat.zero_add, hr.cellAt (j * 2 + 1) (by omega)]
      unfold lineCells
      rw [flat2_odd, List.getElem?_eq_getElem hj', e1]
      show some zs[j].2 = _
      rw [ew]
    · rw [e1]; exact read_row hwj
    · rw [e1]; exact own_cap hwj
end Go.Proofs.YtpdbkjnaicjfdaaGreatDoor
