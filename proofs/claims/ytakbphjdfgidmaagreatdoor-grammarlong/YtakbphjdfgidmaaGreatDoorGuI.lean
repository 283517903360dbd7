/- Contracts of the kit: OverInts, OverState, OverEvents. -/
import Derived.Test.YtakbphjdfgidmaaGreatDoorGuH
namespace Go.Proofs.YtakbphjdfgidmaaGreatDoor
open Go.RowKit Go.Maps
set_option linter.unusedVariables false
set_option maxRecDepth 100000

theorem fst_memX {zs : List EvZ} {es : List Ev} (h : zs.map Prod.fst = es) {z : EvZ} (hz : z ∈ zs) : z.1 ∈ es := by rw [← h]; exact List.mem_map_of_mem hz
/-- A row of numbers, whichever. -/
def AnyRow (W : World) (base : Nat) (v : Value) (n : Nat) : Prop := ∃ xs, W.ownsRow base 3 1 v n xs
theorem AnyRow.set {W : World} {base lo g n c m : Nat} {v : Value} {ys : List Value} (h : AnyRow W base v m) (hown : W.ownsRow lo 3 1 (.slice (some ⟨g, 0, none⟩) n c) n ys) (j : Nat) (u : Value) : AnyRow (W.setCell ⟨g, j, none⟩ u) base v m := by
  obtain ⟨xs, hx⟩ := h
  by_cases hb : v.ownBlock = some g
  · rcases hx.2 with ⟨e, _⟩ | ⟨g', cap', cur, e, _⟩
    · rw [e] at hb; cases hb
    · subst e
      obtain rfl : g' = g := by simpa [Value.ownBlock] using hb
      exact ⟨_, (hx.stored j u).1⟩
  · exact ⟨xs, hx.kept (hown.stored j u).2 (.inr hb)⟩
theorem AnyRow.setE {W : World} {base lo g n c m : Nat} {v : Value} {ys : List Value} (h : AnyRow W base v m) (hown : W.ownsRow lo 38 11 (.slice (some ⟨g, 0, none⟩) n c) n ys) (j : Nat) (u : Value) : AnyRow (W.setCell ⟨g, j, none⟩ u) base v m := by
  obtain ⟨xs, hx⟩ := h
  refine ⟨xs, hx.kept (hown.stored j u).2 (.inr fun e => ?_)⟩
  obtain ⟨cur, h1⟩ := row_cells hx e
  obtain ⟨cur', h2⟩ := row_cells hown rfl
  rw [h1] at h2
  simp only [Option.some.injEq, Obj.cells.injEq] at h2
  exact absurd h2.2.1 (by decide)
theorem AnyRow.alloc {W : World} {base m : Nat} {v : Value} (h : AnyRow W base v m) (o : Obj) : AnyRow (W.alloc o) base v m := by
  obtain ⟨xs, hx⟩ := h
  exact ⟨xs, hx.alloc o⟩

def OvPost (v : Value) (w : World) (e : Ending) (w' : World) : Prop := e = .returned (.tuple #[]) ∧ w.grownBy w' v.ownBlock ∧ ∀ base u m, AnyRow w base u m → AnyRow w' base u m
set_option maxHeartbeats 1000000 in
theorem overrow_any (g c n lo : Nat) (xs : List Value) (w : World) (h : w.ownsRow lo 3 1 (.slice (some ⟨g, 0, none⟩) n c) n xs) (hn : n ≤ 100000000) :
    Calls Tryz.prog 88 #[.slice (some ⟨g, 0, none⟩) n c] w fun e w' => e = .returned (.tuple #[]) ∧ w.grownBy w' (some g) ∧ ∀ base u m, AnyRow w base u m → AnyRow w' base u m := by
  have HO := Lib.hid h
  clear h
  go_enter Tryz.func88, Tryz.ntmps88
  go_wp2
  go_loopw [2] (fun i wr => ∃ (k : Nat) (ys : List Value), k ≤ n ∧ i = .int .i64 k ∧ wr.ownsRow lo 3 1 (.slice (some ⟨g, 0, none⟩) n c) n ys ∧ w.grownBy wr (some g) ∧ ∀ base u m, AnyRow w base u m → AnyRow wr base u m) (fun i wr => n - (intOf i).toNat)
  case atStart => exact ⟨0, xs, Nat.zero_le _, rfl, HO.out, World.grownBy.refl _ _, fun _ _ _ h => h⟩
  case round =>
    obtain ⟨k, ys, hk, rfl, hown, hg, hany⟩ := hrel
    have HANY := Lib.hid hany
    clear hany
    by_cases hlt : k < n
    · have q0 : (0 : Int) ≤ (k : Int) := by omega
      have q1 : (k : Int) < (n : Int) := by omega
      have q2 : decide (k < n) = true := decide_eq_true hlt
      have hlen : ys.length = n := by have := hown.1; omega
      have hcell := hown.cellAt k (by omega)
      rw [List.getElem?_eq_getElem (by omega)] at hcell
      have hfro := hown.frozenAt k
      have HOWN := Lib.hid hown
      have HST := Lib.hid (hown.stored k (.int .i64 (-77)))
      generalize ys[k] = y at hcell
      clear hown
      go_wp2
      exact ⟨⟨k + 1, _, by omega, by go_num, HST.out.1, hg.trans HST.out.2, fun base u m h => (HANY.out base u m h).set HOWN.out k _⟩, by simp [intOf]; omega⟩
    · have q2 : decide (k < n) = false := decide_eq_false hlt
      go_wp2
      go_end0
      exact ⟨rfl, hg, HANY.out⟩
theorem overnil_any (w : World) : Calls Tryz.prog 88 #[.slice none 0 0] w fun e w' => e = .returned (.tuple #[]) ∧ w' = w := by
  go_enter Tryz.func88, Tryz.ntmps88
  go_wp2
  go_loopw [2] (fun i wr => i = .int .i64 0 ∧ wr = w) (fun i wr => 0)
  case atStart => exact ⟨rfl, rfl⟩
  case round =>
    obtain ⟨rfl, rfl⟩ := hrel
    go_wp2
    go_end0
    exact ⟨rfl, rfl⟩
theorem overints_any (A : Option Addr) (c n lo : Nat) (w : World) (h : AnyRow w lo (.slice A n c) n) (hn : n ≤ 100000000) :
    Calls Tryz.prog 88 #[.slice A n c] w (OvPost (.slice A n c) w) := by
  obtain ⟨xs, h⟩ := h
  rcases h.2 with ⟨e1, e2⟩ | ⟨g, cap', cur, e1, hg, _⟩
  · injection e1 with e3 e4 e5
    subst e3 e4 e5
    refine (overnil_any w).mono ?_
    rintro e w' ⟨rfl, rfl⟩
    exact ⟨rfl, World.grownBy.refl _ _, fun _ _ _ h => h⟩
  · injection e1 with e3 e4 e5
    subst e3
    exact overrow_any g c n lo _ _ h hn
theorem overstate_any (t n : Int) (A : Option Addr) (c k lo : Nat) (w : World) (h : AnyRow w lo (.slice A k c) k) (hk : k ≤ 100000000) :
    Calls Tryz.prog 50 #[.agg #[.int .i64 t, .int .i64 n, .slice A k c]] w fun e w' => e = .returned (.tuple #[]) ∧ (w.alloc (.cells #[.int .i64 t, .int .i64 n, .slice A k c] 36)).grownBy w' (Value.slice A k c).ownBlock ∧ ∀ base u m, AnyRow w base u m → AnyRow w' base u m := by
  have HOV := Lib.hid (overints_any A c k lo _ (h.alloc (.cells #[.int .i64 t, .int .i64 n, .slice A k c] 36)) hk)
  clear h
  go_enter Tryz.func50, Tryz.ntmps50
  go_wp2_with fail
  refine HOV.out.mono ?_
  rintro e w1 ⟨rfl, hg, ha⟩
  have HA := Lib.hid ha
  clear ha
  go_wp2
  go_end0
  exact ⟨rfl, hg, fun base u m h => HA.out base u m (h.alloc _)⟩

set_option maxHeartbeats 4000000 in
theorem overevs_some (g c base : Nat) (zs : List EvZ) (w : World) (hrow : w.ownsRow base 38 11 (.slice (some ⟨g, 0, none⟩) zs.length c) zs.length (evsC zs)) (hany : ∀ z ∈ zs, AnyRow w base (.slice z.2.1 z.1.st.2.2.length z.2.2) z.1.st.2.2.length) (hb : base ≤ w.heap.size) (hlen : ∀ z ∈ zs, z.1.st.2.2.length ≤ 100000000) (hm : zs.length ≤ 100000000) :
    Calls Tryz.prog 23 #[.slice (some ⟨g, 0, none⟩) zs.length c] w fun e w' => e = .returned (.tuple #[]) ∧ Below base w w' := by
  have HROW := Lib.hid hrow
  have HANY := Lib.hid hany
  have HLEN := Lib.hid hlen
  obtain ⟨m, hmm⟩ : ∃ m, zs.length = m := ⟨_, rfl⟩
  rw [hmm] at hm HROW ⊢
  have HMM := Lib.hid hmm
  clear hrow hany hlen hmm
  go_enter Tryz.func23, Tryz.ntmps23
  go_wp2
  go_loopw [2] (fun i wr => ∃ (k : Nat) (ys : List Value), k ≤ m ∧ i = .int .i64 k ∧ wr.ownsRow base 38 11 (.slice (some ⟨g, 0, none⟩) m c) m ys ∧ (∀ j, k * 11 ≤ j → ys[j]? = (evsC zs)[j]?) ∧ (∀ z ∈ zs, AnyRow wr base (.slice z.2.1 z.1.st.2.2.length z.2.2) z.1.st.2.2.length) ∧ Below base w wr) (fun i wr => m - (intOf i).toNat)
  case atStart => exact ⟨0, _, Nat.zero_le _, rfl, HROW.out, fun _ _ => rfl, HANY.out, Below.refl _ _⟩
  case round =>
    obtain ⟨k, ys, hk, rfl, hown, hys, hany, hB⟩ := hrel
    have HYS := Lib.hid hys
    have HA := Lib.hid hany
    clear hys hany
    by_cases hlt : k < m
    · have q0 : (0 : Int) ≤ (k : Int) := by omega
      have q1 : (k : Int) < (m : Int) := by omega
      have q2 : decide (k < m) = true := decide_eq_true hlt
      have hz := wd_memE (zs := zs) (by rw [HMM.out]; exact hlt)
      have x8 := hown.cellAt (k * 11 + 8) (by omega)
      have x9 := hown.cellAt (k * 11 + 9) (by omega)
      have x10 := hown.cellAt (k * 11 + 10) (by omega)
      have hget : zs[k]? = some (zs[k]?.getD (⟨0, emB, emB, op0, stz⟩, none, 0)) := by rw [List.getElem?_eq_getElem (by rw [HMM.out]; exact hlt)]; rfl
      rw [HYS.out _ (by omega), evsC_at zs k _ (by omega), hget] at x8 x9 x10
      generalize zs[k]?.getD (⟨0, emB, emB, op0, stz⟩, none, 0) = z at *
      obtain ⟨⟨kd, nm, ob, ⟨o1, o2, o3, o4, o5⟩, t, n, l⟩, Ae, ce⟩ := z
      replace x8 : wr.cell? ⟨g, k * 11 + 8, none⟩ = some (.int .i64 t) := x8
      replace x9 : wr.cell? ⟨g, k * 11 + 9, none⟩ = some (.int .i64 n) := x9
      replace x10 : wr.cell? ⟨g, k * 11 + 10, none⟩ = some (.slice Ae l.length ce) := x10
      have HO := Lib.hid (overstate_any t n Ae ce l.length base wr (HA.out _ hz) (HLEN.out _ hz))
      have hrl : ∃ xs, wr.ownsRow base 3 1 (.slice Ae l.length ce) l.length xs := HA.out _ hz
      have HRL := Lib.hid hrl
      have HOWN := Lib.hid hown
      have hsw := hB.size
      clear hget hz hown hrl
      go_wp2_with fail
      refine HO.out.mono ?_
      rintro e w2 ⟨rfl, hg2, ha2⟩
      have HA2 := Lib.hid (fun z hz => ha2 _ _ _ (HA.out z hz))
      have hown2 : w2.ownsRow base 38 11 (.slice (some ⟨g, 0, none⟩) m c) m ys := (HOWN.out.alloc (.cells #[.int .i64 t, .int .i64 n, .slice Ae l.length ce] 36)).kept hg2 (.inr fun e => by
        obtain ⟨xs, hx⟩ := HRL.out
        obtain ⟨cur, h1⟩ := row_cells hx e.symm
        obtain ⟨cur', h2⟩ := row_cells HOWN.out rfl
        have e9 : (Value.slice (some ⟨g, 0, none⟩) m c).ownBlock = some g := rfl
        rw [h1] at h2
        simp only [Option.some.injEq, Obj.cells.injEq] at h2
        exact absurd h2.2.1 (by decide))
      have hB2 : Below base w w2 := (hB.alloc (Nat.le_trans hb hsw) _).grown hg2 (by simp; omega) (fun r e => by
        obtain ⟨xs, hx⟩ := HRL.out
        exact (hx.lt r e).1)
      have HOWN2 := Lib.hid hown2
      have yf := hown2.frozenAt
      have hlen2 : ys.length = m * 11 := hown2.1
      clear ha2 x8 x9 x10
      have cs : ∀ i, i < 11 → ∃ v, w2.cell? ⟨g, k * 11 + i, none⟩ = some v := fun i hi => by
        rw [hown2.cellAt (k * 11 + i) (by omega), List.getElem?_eq_getElem (by omega)]
        exact ⟨_, rfl⟩
      obtain ⟨v0, c0⟩ := cs 0 (by omega)
      obtain ⟨v1, c1⟩ := cs 1 (by omega)
      obtain ⟨v2, c2⟩ := cs 2 (by omega)
      obtain ⟨v3, c3⟩ := cs 3 (by omega)
      obtain ⟨v4, c4⟩ := cs 4 (by omega)
      obtain ⟨v5, c5⟩ := cs 5 (by omega)
      obtain ⟨v6, c6⟩ := cs 6 (by omega)
      obtain ⟨v7, c7⟩ := cs 7 (by omega)
      obtain ⟨v8, c8⟩ := cs 8 (by omega)
      obtain ⟨v9, c9⟩ := cs 9 (by omega)
      obtain ⟨v10, c10⟩ := cs 10 (by omega)
      rw [Nat.add_zero] at c0
      have r0 := hown2.stored (k * 11) (.int .i64 (-7))
      have r1 := r0.1.stored (k * 11 + 1) (.string ⟨#[111, 118, 101, 114]⟩)
      have r2 := r1.1.stored (k * 11 + 2) (.string ⟨#[]⟩)
      have r3 := r2.1.stored (k * 11 + 3) (.int .i64 0)
      have r4 := r3.1.stored (k * 11 + 4) (.int .i64 0)
      have r5 := r4.1.stored (k * 11 + 5) (.int .i64 0)
      have r6 := r5.1.stored (k * 11 + 6) (.int .i64 0)
      have r7 := r6.1.stored (k * 11 + 7) (.int .i64 0)
      have r8 := r7.1.stored (k * 11 + 8) (.int .i64 0)
      have r9 := r8.1.stored (k * 11 + 9) (.int .i64 0)
      have r10 := r9.1.stored (k * 11 + 10) (.slice none 0 0)
      have hgg := ((((((((((r0.2.trans r1.2).trans r2.2).trans r3.2).trans r4.2).trans r5.2).trans r6.2).trans r7.2).trans r8.2).trans r9.2).trans r10.2)
      have HG := Lib.hid hgg
      have HR := Lib.hid r10.1
      have HA3 := Lib.hid (fun z hz => (fun (h : AnyRow w2 base (.slice z.2.1 z.1.st.2.2.length z.2.2) z.1.st.2.2.length) => (((((((((((h).setE hown2 (k * 11) (.int .i64 (-7))).setE r0.1 (k * 11 + 1) (.string ⟨#[111, 118, 101, 114]⟩)).setE r1.1 (k * 11 + 2) (.string ⟨#[]⟩)).setE r2.1 (k * 11 + 3) (.int .i64 0)).setE r3.1 (k * 11 + 4) (.int .i64 0)).setE r4.1 (k * 11 + 5) (.int .i64 0)).setE r5.1 (k * 11 + 6) (.int .i64 0)).setE r6.1 (k * 11 + 7) (.int .i64 0)).setE r7.1 (k * 11 + 8) (.int .i64 0)).setE r8.1 (k * 11 + 9) (.int .i64 0)).setE r9.1 (k * 11 + 10) (.slice none 0 0)) (HA2.out z hz))
      have hgb : base ≤ g := (hown2.lt g rfl).1
      clear hgg r0 r1 r2 r3 r4 r5 r6 r7 r8 r9 r10 hown2 cs
      go_wp2
      refine ⟨⟨k + 1, _, by omega, by go_num, HR.out, fun j hj => ?_, HA3.out, ?_⟩, by simp [intOf]; omega⟩
      · repeat rw [List.getElem?_set_ne (by omega)]
        exact HYS.out j (by omega)
      · exact hB2.grown HG.out (by have := hB2.size; omega) (fun r e => by obtain rfl : g = r := Option.some.inj e; exact hgb)
    · have q2 : decide (k < m) = false := decide_eq_false hlt
      go_wp2
      go_end0
      exact ⟨rfl, hB⟩
theorem overevs_none (w : World) (c : Nat) : Calls Tryz.prog 23 #[.slice none 0 0] w fun e w' => e = .returned (.tuple #[]) ∧ w' = w := by
  go_enter Tryz.func23, Tryz.ntmps23
  go_wp2
  go_loopw [2] (fun i wr => i = .int .i64 0 ∧ wr = w) (fun i wr => 0)
  case atStart => exact ⟨rfl, rfl⟩
  case round =>
    obtain ⟨rfl, rfl⟩ := hrel
    go_wp2
    go_end0
    exact ⟨rfl, rfl⟩
theorem overevs_any (A : Option Addr) (c base : Nat) (es : List Ev) (w : World) (h : OwnEvs w base (.slice A es.length c) es) (hb : base ≤ w.heap.size) (hlen : ∀ e ∈ es, e.st.2.2.length ≤ 100000000) (hm : es.length ≤ 100000000) :
    Calls Tryz.prog 23 #[.slice A es.length c] w fun e w' => e = .returned (.tuple #[]) ∧ Below base w w' := by
  obtain ⟨zs, h1, h2, h3⟩ := h
  have hl : zs.length = es.length := by rw [← h1, List.length_map]
  rw [← hl] at h2 hm ⊢
  rcases h2.2 with ⟨e1, e2⟩ | ⟨g, cap', cur, e1, hg, _⟩
  · injection e1 with e3 e4 e5
    rw [e4]
    subst e3 e5
    refine (overevs_none w 0).mono ?_
    rintro e w' ⟨rfl, rfl⟩
    exact ⟨rfl, Below.refl _ _⟩
  · injection e1 with e3 e4 e5
    subst e3
    exact overevs_some g c base zs w h2 (fun z hz => ⟨_, h3 z hz⟩) hb (fun z hz => hlen _ (fst_memX h1 hz)) hm
end Go.Proofs.YtakbphjdfgidmaaGreatDoor
