/- Contracts of the layer grammar: the reader; named, begin, commit, abort, object. -/
import Derived.Test.YtpdbkjnaicjfdaaGreatDoorGrB
namespace Go.Proofs.YtpdbkjnaicjfdaaGreatDoor
open Go.RowKit Go.Maps
set_option linter.unusedVariables false
set_option maxRecDepth 100000

def evC (e : Ev) (A : Option Addr) (c : Nat) : Array Value := #[.int .i64 e.kd, .string e.nm, .string e.ob, .int .i64 e.op.1, .int .i64 e.op.2.1, .int .i64 e.op.2.2.1, .int .i64 e.op.2.2.2.1, .int .i64 e.op.2.2.2.2, .int .i64 e.st.1, .int .i64 e.st.2.1, .slice A e.st.2.2.length c]
def evV (e : Ev) (A : Option Addr) (c : Nat) : Value := .agg (evC e A c)
def EvPost (x : Rx Ev) (w : World) : Ending → World → Prop := RxPost x (fun ev e w' => ∃ A c, e = .returned (evV ev A c) ∧ OwnInts w.heap.size w' (.slice A ev.st.2.2.length c) ev.st.2.2 ∧ Below w.heap.size w w') w
def evZ : Array Value := #[.int .i64 0, .string ⟨#[]⟩, .string ⟨#[]⟩, .int .i64 0, .int .i64 0, .int .i64 0, .int .i64 0, .int .i64 0, .int .i64 0, .int .i64 0, .slice none 0 0]

/-- An event is stored whole. -/
theorem ev_stored {B : Nat} {W : World} {cs : Array Value} (v0 v1 v2 v3 v4 v5 v6 v7 v8 v9 v10 : Value) (hz : Holds W B 55 cs) (hs : cs.size = 11) :
    ∃ W', W' = ((((((((((W.setCell ⟨B, 0, none⟩ v0).setCell ⟨B, 1, none⟩ v1).setCell ⟨B, 2, none⟩ v2).setCell ⟨B, 3, none⟩ v3).setCell ⟨B, 4, none⟩ v4).setCell ⟨B, 5, none⟩ v5).setCell ⟨B, 6, none⟩ v6).setCell ⟨B, 7, none⟩ v7).setCell ⟨B, 8, none⟩ v8).setCell ⟨B, 9, none⟩ v9).setCell ⟨B, 10, none⟩ v10 ∧
      Holds W' B 55 #[v0, v1, v2, v3, v4, v5, v6, v7, v8, v9, v10] ∧ Only B W W' := by
  refine ⟨_, rfl, ?_, ?_⟩
  · obtain ⟨l⟩ := cs
    match l, hs with
    | [a0, a1, a2, a3, a4, a5, a6, a7, a8, a9, a10], _ =>
      have g := ((((((((((hz.set 0 v0).set 1 v1).set 2 v2).set 3 v3).set 4 v4).set 5 v5).set 6 v6).set 7 v7).set 8 v8).set 9 v9).set 10 v10
      simp only [List.setIfInBounds_toArray, List.set_cons_zero, List.set_cons_succ] at g
      exact g
  · exact ((((((((((((Only.of (Below.refl W.heap.size W) (Nat.le_refl _)).set 0 _).set 1 _).set 2 _).set 3 _).set 4 _).set 5 _).set 6 _).set 7 _).set 8 _).set 9 _).set 10 _)

theorem ev_cells {B : Nat} {W : World} {v0 v1 v2 v3 v4 v5 v6 v7 v8 v9 v10 : Value} (h : Holds W B 55 #[v0, v1, v2, v3, v4, v5, v6, v7, v8, v9, v10]) :
    W.cell? ⟨B, 0, none⟩ = some v0 ∧ W.cell? ⟨B, 1, none⟩ = some v1 ∧ W.cell? ⟨B, 2, none⟩ = some v2 ∧ W.cell? ⟨B, 3, none⟩ = some v3 ∧ W.cell? ⟨B, 4, none⟩ = some v4 ∧ W.cell? ⟨B, 5, none⟩ = some v5 ∧ W.cell? ⟨B, 6, none⟩ = some v6 ∧ W.cell? ⟨B, 7, none⟩ = some v7 ∧ W.cell? ⟨B, 8, none⟩ = some v8 ∧ W.cell? ⟨B, 9, none⟩ = some v9 ∧ W.cell? ⟨B, 10, none⟩ = some v10 ∧ (∀ j, W.frozen? ⟨B, j, none⟩ = false) :=
  ⟨h.c (j := 0) rfl, h.c (j := 1) rfl, h.c (j := 2) rfl, h.c (j := 3) rfl, h.c (j := 4) rfl, h.c (j := 5) rfl, h.c (j := 6) rfl, h.c (j := 7) rfl, h.c (j := 8) rfl, h.c (j := 9) rfl, h.c (j := 10) rfl, h.frozen⟩

set_option maxHeartbeats 4000000 in
theorem named_any (R : Nat) (AT : Option Addr) (cT : Nat) (bs : List Int) (ws : List Wd) (k : Int) (w : World) (h : Rdr w R AT cT bs ws) :
    Calls Tryz.prog 104 #[.pointer (some ⟨R, 0, none⟩), .int .i64 k] w (EvPost (namedX ws k) w) := by
  unfold EvPost
  have hB0 := alloc1 w (.cells evZ 55)
  have HZ := Lib.hid (Holds.new w 55 evZ)
  have HN := Lib.hid (fun W (hB : Below w.heap.size w W) => name_any R AT cT bs ws 1 W (h.below hB))
  have HST := Lib.hid (fun W (hB : Below w.heap.size w W) => stop_any R AT cT bs ws 5 2 W (h.below hB))
  obtain ⟨AW, cW, hbox, hrd⟩ := h.box
  have c1 : w.cell? ⟨R, 1, none⟩ = some (.slice AW ws.length cW) := hbox.c (j := 1) rfl
  have hR := h.lt
  have hx : namedX ws k = match nameX ws 1 with | .error f => .error f | .ok s => if 2 < ws.length then stopX ws 5 2 else .ok ⟨k, s, emB, op0, stz⟩ := rfl
  clear h hbox hrd
  unfold evZ at *
  cases hn : nameX ws 1 with
  | error f =>
    rw [hn] at HN hx
    rw [hx]
    go_enter Tryz.func104, Tryz.ntmps104
    go_wp2_with fail
    refine (HN.out _ hB0).mono ?_
    rintro e w1 ⟨rfl, hB⟩
    go_wp2
    exact ⟨rfl, rfl, nxt hB0 hB hB0.size⟩
  | ok s =>
    rw [hn] at HN hx
    have HX := Lib.hid hx
    clear hx
    go_enter Tryz.func104, Tryz.ntmps104
    go_wp2_with fail
    refine (HN.out _ hB0).mono ?_
    rintro e w1 ⟨rfl, hB⟩
    have hB1 := nxt hB0 hB hB0.size
    have HZ1 := Lib.hid (HZ.out.below hB HZ.out.lt)
    have d1 := (hB1.cell (p := ⟨R, 1, none⟩) hR).trans c1
    have hR1 := Nat.lt_of_lt_of_le hR hB1.size
    have hB2 := alloc1 w1 (.cells #[.int .i64 k, .string s, .string ⟨#[]⟩, .int .i64 0, .int .i64 0, .int .i64 0, .int .i64 0, .int .i64 0, .int .i64 0, .int .i64 0, .slice none 0 0] 55)
    have d2 := (hB2.cell (p := ⟨R, 1, none⟩) hR1).trans d1
    have hB3 := nxt hB1 hB2 hB1.size
    have HZ2 := Lib.hid (HZ1.out.below hB2 HZ1.out.lt)
    have HX2 := Lib.hid (Holds.new w1 55 #[.int .i64 k, .string s, .string ⟨#[]⟩, .int .i64 0, .int .i64 0, .int .i64 0, .int .i64 0, .int .i64 0, .int .i64 0, .int .i64 0, .slice none 0 0])
    clear hB
    by_cases hm : 2 < ws.length
    · have hd : decide ((2 : Int) < (ws.length : Int)) = true := decide_eq_true (by omega)
      have hx2 : namedX ws k = stopX ws 5 2 := HX.out.trans (if_pos hm)
      have HX3 := Lib.hid hx2
      clear hx2
      go_wp2_with fail
      generalize w1.alloc (.cells #[.int .i64 k, .string s, .string ⟨#[]⟩, .int .i64 0, .int .i64 0, .int .i64 0, .int .i64 0, .int .i64 0, .int .i64 0, .int .i64 0, .slice none 0 0] 55) = W2 at *
      refine (HST.out _ hB3).mono ?_
      rintro e w3 ⟨rfl, hB4⟩
      go_wp2
      rw [HX3.out]
      exact ⟨rfl, rfl, nxt hB3 hB4 hB3.size⟩
    · have hd : decide ((2 : Int) < (ws.length : Int)) = false := decide_eq_false (by omega)
      have hx2 : namedX ws k = .ok ⟨k, s, emB, op0, stz⟩ := HX.out.trans (if_neg hm)
      have HX3 := Lib.hid hx2
      clear hx2
      go_upto_region 4 with fail
      generalize w1.alloc (.cells #[.int .i64 k, .string s, .string ⟨#[]⟩, .int .i64 0, .int .i64 0, .int .i64 0, .int .i64 0, .int .i64 0, .int .i64 0, .int .i64 0, .slice none 0 0] 55) = W2 at *
      obtain ⟨x0, x1, x2, x3, x4, x5, x6, x7, x8, x9, x10, _⟩ := ev_cells HX2.out
      obtain ⟨z0, z1, z2, z3, z4, z5, z6, z7, z8, z9, z10, y0⟩ := ev_cells HZ2.out
      go_wp2
      obtain ⟨W9, hW9, g, o⟩ := ev_stored (.int .i64 k) (.string s) (.string ⟨#[]⟩) (.int .i64 0) (.int .i64 0) (.int .i64 0) (.int .i64 0) (.int .i64 0) (.int .i64 0) (.int .i64 0) (.slice none 0 0) HZ2.out rfl
      rw [← hW9]
      have hb9 : Below w.heap.size w W9 := hB3.trans (o.below (Nat.le_refl _) hB3.size)
      obtain ⟨k0, k1, k2, k3, k4, k5, k6, k7, k8, k9, k10, _⟩ := ev_cells g
      refine bodyPost_ret (v := .agg #[.int .i64 k, .string s, .string ⟨#[]⟩, .int .i64 0, .int .i64 0, .int .i64 0, .int .i64 0, .int .i64 0, .int .i64 0, .int .i64 0, .slice none 0 0]) (by simp [results, Tryz.f104, go_sem, k0, k1, k2, k3, k4, k5, k6, k7, k8, k9, k10]) rfl ?_
      rw [HX3.out]
      exact ⟨none, 0, rfl, nil_row _ _, hb9⟩

set_option maxHeartbeats 4000000 in
theorem begin_any (R : Nat) (AT : Option Addr) (cT : Nat) (bs : List Int) (ws : List Wd) (w : World) (h : Rdr w R AT cT bs ws) :
    Calls Tryz.prog 83 #[.pointer (some ⟨R, 0, none⟩)] w (EvPost (namedX ws 2) w) := by
  have hB0 := alloc1 w (.cells evZ 55)
  have HZ := Lib.hid (Holds.new w 55 evZ)
  have HN := named_any R AT cT bs ws 2 _ (h.below hB0)
  unfold EvPost at *
  unfold evZ at *
  clear h
  cases hn : namedX ws 2 with
  | error f =>
    rw [hn] at HN
    go_enter Tryz.func83, Tryz.ntmps83
    go_wp2_with fail
    refine HN.mono ?_
    rintro e w1 ⟨rfl, hB⟩
    go_wp2
    exact ⟨rfl, rfl, nxt hB0 hB hB0.size⟩
  | ok ev =>
    rw [hn] at HN
    go_enter Tryz.func83, Tryz.ntmps83
    go_wp2_with fail
    refine HN.mono ?_
    rintro e w1 ⟨A, c, rfl, ho, hB⟩
    have HO := Lib.hid ho
    have hB1 := nxt hB0 hB hB0.size
    have HZ1 := Lib.hid (HZ.out.below hB HZ.out.lt)
    have hBs := hB0.size
    obtain ⟨z0, z1, z2, z3, z4, z5, z6, z7, z8, z9, z10, y0⟩ := ev_cells HZ1.out
    unfold evV evC
    clear ho
    go_wp2
    obtain ⟨W9, hW9, g, o⟩ := ev_stored (.int .i64 (ev.kd)) (.string (ev.nm)) (.string (ev.ob)) (.int .i64 (ev.op.1)) (.int .i64 (ev.op.2.1)) (.int .i64 (ev.op.2.2.1)) (.int .i64 (ev.op.2.2.2.1)) (.int .i64 (ev.op.2.2.2.2)) (.int .i64 (ev.st.1)) (.int .i64 (ev.st.2.1)) (.slice A ev.st.2.2.length c) HZ1.out rfl
    rw [← hW9]
    have hb9 : Below w.heap.size w W9 := hB1.trans (o.below (Nat.le_refl _) hB1.size)
    have r := HO.out.kept o.grown (.inr (HZ1.out.not_row HO.out (by decide)).symm)
    obtain ⟨k0, k1, k2, k3, k4, k5, k6, k7, k8, k9, k10, _⟩ := ev_cells g
    refine bodyPost_ret (v := .agg #[.int .i64 (ev.kd), .string (ev.nm), .string (ev.ob), .int .i64 (ev.op.1), .int .i64 (ev.op.2.1), .int .i64 (ev.op.2.2.1), .int .i64 (ev.op.2.2.2.1), .int .i64 (ev.op.2.2.2.2), .int .i64 (ev.st.1), .int .i64 (ev.st.2.1), .slice A ev.st.2.2.length c]) (by simp [results, Tryz.f83, go_sem, k0, k1, k2, k3, k4, k5, k6, k7, k8, k9, k10]) rfl ?_
    exact ⟨A, c, rfl, row_mono r hBs, hb9⟩

set_option maxHeartbeats 4000000 in
theorem commit_any (R : Nat) (AT : Option Addr) (cT : Nat) (bs : List Int) (ws : List Wd) (w : World) (h : Rdr w R AT cT bs ws) :
    Calls Tryz.prog 85 #[.pointer (some ⟨R, 0, none⟩)] w (EvPost (namedX ws 4) w) := by
  have hB0 := alloc1 w (.cells evZ 55)
  have HZ := Lib.hid (Holds.new w 55 evZ)
  have HN := named_any R AT cT bs ws 4 _ (h.below hB0)
  unfold EvPost at *
  unfold evZ at *
  clear h
  cases hn : namedX ws 4 with
  | error f =>
    rw [hn] at HN
    go_enter Tryz.func85, Tryz.ntmps85
    go_wp2_with fail
    refine HN.mono ?_
    rintro e w1 ⟨rfl, hB⟩
    go_wp2
    exact ⟨rfl, rfl, nxt hB0 hB hB0.size⟩
  | ok ev =>
    rw [hn] at HN
    go_enter Tryz.func85, Tryz.ntmps85
    go_wp2_with fail
    refine HN.mono ?_
    rintro e w1 ⟨A, c, rfl, ho, hB⟩
    have HO := Lib.hid ho
    have hB1 := nxt hB0 hB hB0.size
    have HZ1 := Lib.hid (HZ.out.below hB HZ.out.lt)
    have hBs := hB0.size
    obtain ⟨z0, z1, z2, z3, z4, z5, z6, z7, z8, z9, z10, y0⟩ := ev_cells HZ1.out
    unfold evV evC
    clear ho
    go_wp2
    obtain ⟨W9, hW9, g, o⟩ := ev_stored (.int .i64 (ev.kd)) (.string (ev.nm)) (.string (ev.ob)) (.int .i64 (ev.op.1)) (.int .i64 (ev.op.2.1)) (.int .i64 (ev.op.2.2.1)) (.int .i64 (ev.op.2.2.2.1)) (.int .i64 (ev.op.2.2.2.2)) (.int .i64 (ev.st.1)) (.int .i64 (ev.st.2.1)) (.slice A ev.st.2.2.length c) HZ1.out rfl
    rw [← hW9]
    have hb9 : Below w.heap.size w W9 := hB1.trans (o.below (Nat.le_refl _) hB1.size)
    have r := HO.out.kept o.grown (.inr (HZ1.out.not_row HO.out (by decide)).symm)
    obtain ⟨k0, k1, k2, k3, k4, k5, k6, k7, k8, k9, k10, _⟩ := ev_cells g
    refine bodyPost_ret (v := .agg #[.int .i64 (ev.kd), .string (ev.nm), .string (ev.ob), .int .i64 (ev.op.1), .int .i64 (ev.op.2.1), .int .i64 (ev.op.2.2.1), .int .i64 (ev.op.2.2.2.1), .int .i64 (ev.op.2.2.2.2), .int .i64 (ev.st.1), .int .i64 (ev.st.2.1), .slice A ev.st.2.2.length c]) (by simp [results, Tryz.f85, go_sem, k0, k1, k2, k3, k4, k5, k6, k7, k8, k9, k10]) rfl ?_
    exact ⟨A, c, rfl, row_mono r hBs, hb9⟩

set_option maxHeartbeats 4000000 in
theorem abort_any (R : Nat) (AT : Option Addr) (cT : Nat) (bs : List Int) (ws : List Wd) (w : World) (h : Rdr w R AT cT bs ws) :
    Calls Tryz.prog 86 #[.pointer (some ⟨R, 0, none⟩)] w (EvPost (namedX ws 5) w) := by
  have hB0 := alloc1 w (.cells evZ 55)
  have HZ := Lib.hid (Holds.new w 55 evZ)
  have HN := named_any R AT cT bs ws 5 _ (h.below hB0)
  unfold EvPost at *
  unfold evZ at *
  clear h
  cases hn : namedX ws 5 with
  | error f =>
    rw [hn] at HN
    go_enter Tryz.func86, Tryz.ntmps86
    go_wp2_with fail
    refine HN.mono ?_
    rintro e w1 ⟨rfl, hB⟩
    go_wp2
    exact ⟨rfl, rfl, nxt hB0 hB hB0.size⟩
  | ok ev =>
    rw [hn] at HN
    go_enter Tryz.func86, Tryz.ntmps86
    go_wp2_with fail
    refine HN.mono ?_
    rintro e w1 ⟨A, c, rfl, ho, hB⟩
    have HO := Lib.hid ho
    have hB1 := nxt hB0 hB hB0.size
    have HZ1 := Lib.hid (HZ.out.below hB HZ.out.lt)
    have hBs := hB0.size
    obtain ⟨z0, z1, z2, z3, z4, z5, z6, z7, z8, z9, z10, y0⟩ := ev_cells HZ1.out
    unfold evV evC
    clear ho
    go_wp2
    obtain ⟨W9, hW9, g, o⟩ := ev_stored (.int .i64 (ev.kd)) (.string (ev.nm)) (.string (ev.ob)) (.int .i64 (ev.op.1)) (.int .i64 (ev.op.2.1)) (.int .i64 (ev.op.2.2.1)) (.int .i64 (ev.op.2.2.2.1)) (.int .i64 (ev.op.2.2.2.2)) (.int .i64 (ev.st.1)) (.int .i64 (ev.st.2.1)) (.slice A ev.st.2.2.length c) HZ1.out rfl
    rw [← hW9]
    have hb9 : Below w.heap.size w W9 := hB1.trans (o.below (Nat.le_refl _) hB1.size)
    have r := HO.out.kept o.grown (.inr (HZ1.out.not_row HO.out (by decide)).symm)
    obtain ⟨k0, k1, k2, k3, k4, k5, k6, k7, k8, k9, k10, _⟩ := ev_cells g
    refine bodyPost_ret (v := .agg #[.int .i64 (ev.kd), .string (ev.nm), .string (ev.ob), .int .i64 (ev.op.1), .int .i64 (ev.op.2.1), .int .i64 (ev.op.2.2.1), .int .i64 (ev.op.2.2.2.1), .int .i64 (ev.op.2.2.2.2), .int .i64 (ev.st.1), .int .i64 (ev.st.2.1), .slice A ev.st.2.2.length c]) (by simp [results, Tryz.f86, go_sem, k0, k1, k2, k3, k4, k5, k6, k7, k8, k9, k10]) rfl ?_
    exact ⟨A, c, rfl, row_mono r hBs, hb9⟩

set_option maxHeartbeats 4000000 in
theorem object_any (R : Nat) (AT : Option Addr) (cT : Nat) (bs : List Int) (ws : List Wd) (w : World) (h : Rdr w R AT cT bs ws) (hl : Lined bs ws) (hcT : bs.length ≤ cT) (hw : Wds w) :
    Calls Tryz.prog 82 #[.pointer (some ⟨R, 0, none⟩)] w (EvPost (objX ws) w) := by
  unfold EvPost
  have hB0 := alloc1 w (.cells evZ 55)
  have HZ := Lib.hid (Holds.new w 55 evZ)
  have HN := Lib.hid (fun W (hB : Below w.heap.size w W) => name_any R AT cT bs ws 1 W (h.below hB))
  have HF := Lib.hid (fun W (hB : Below w.heap.size w W) => first_any R AT cT bs ws 2 W (h.below hB) hl hcT (hw.on hB))
  have hx : objX ws = match nameX ws 1 with | .error f => .error f | .ok s => match firstX ws 2 with | .error f => .error f | .ok t => .ok ⟨1, s, emB, op0, t⟩ := rfl
  clear h hl hcT hw
  unfold evZ at *
  cases hn : nameX ws 1 with
  | error f =>
    rw [hn] at HN hx
    rw [hx]
    go_enter Tryz.func82, Tryz.ntmps82
    go_wp2_with fail
    refine (HN.out _ hB0).mono ?_
    rintro e w1 ⟨rfl, hB⟩
    go_wp2
    exact ⟨rfl, rfl, nxt hB0 hB hB0.size⟩
  | ok s =>
    rw [hn] at HN hx
    have hx1 : objX ws = match firstX ws 2 with | .error f => .error f | .ok t => .ok ⟨1, s, emB, op0, t⟩ := hx
    have HX := Lib.hid hx1
    clear hx hx1
    go_enter Tryz.func82, Tryz.ntmps82
    go_wp2_with fail
    refine (HN.out _ hB0).mono ?_
    rintro e w1 ⟨rfl, hB⟩
    have hB1 := nxt hB0 hB hB0.size
    have HZ1 := Lib.hid (HZ.out.below hB HZ.out.lt)
    have hB2 := alloc1 w1 (.cells #[.int .i64 1, .string s, .string ⟨#[]⟩, .int .i64 0, .int .i64 0, .int .i64 0, .int .i64 0, .int .i64 0, .int .i64 0, .int .i64 0, .slice none 0 0] 55)
    have hB3 := nxt hB1 hB2 hB1.size
    have HZ2 := Lib.hid (HZ1.out.below hB2 HZ1.out.lt)
    have HX2 := Lib.hid (Holds.new w1 55 #[.int .i64 1, .string s, .string ⟨#[]⟩, .int .i64 0, .int .i64 0, .int .i64 0, .int .i64 0, .int .i64 0, .int .i64 0, .int .i64 0, .slice none 0 0])
    have hl1 := HZ1.out.lt
    clear hB
    go_wp2_with fail
    generalize w1.alloc (.cells #[.int .i64 1, .string s, .string ⟨#[]⟩, .int .i64 0, .int .i64 0, .int .i64 0, .int .i64 0, .int .i64 0, .int .i64 0, .int .i64 0, .slice none 0 0] 55) = W2 at *
    have HF2 := HF.out _ hB3
    unfold FirstPost at HF2
    cases hf : firstX ws 2 with
    | error f =>
      rw [hf] at HF2 HX
      refine HF2.mono ?_
      rintro e w3 ⟨rfl, hB4⟩
      go_wp2
      rw [HX.out]
      exact ⟨rfl, rfl, nxt hB3 hB4 hB3.size⟩
    | ok t =>
      obtain ⟨st, sn, sl⟩ := t
      rw [hf] at HF2 HX
      refine HF2.mono ?_
      rintro e w3 ⟨A, c, rfl, ho, hB4⟩
      have hB5 := nxt hB3 hB4 hB3.size
      have HZ3 := Lib.hid (HZ2.out.below hB4 HZ2.out.lt)
      have HX3 := Lib.hid (HX2.out.below hB4 HX2.out.lt)
      have HO := Lib.hid (row_mono ho hB3.size)
      unfold stV
      dsimp only
      clear HF2 ho
      obtain ⟨x0, x1, x2, x3, x4, x5, x6, x7, x8, x9, x10, q0⟩ := ev_cells HX3.out
      go_upto_region 3 with fail
      have g4 := ((HX3.out.set 8 (.int .i64 st)).set 9 (.int .i64 sn)).set 10 (.slice A sl.length c)
      simp only [List.setIfInBounds_toArray, List.set_cons_zero, List.set_cons_succ] at g4
      have o4 : Only w1.heap.size w3 (((w3.setCell ⟨w1.heap.size, 8, none⟩ (.int .i64 st)).setCell ⟨w1.heap.size, 9, none⟩ (.int .i64 sn)).setCell ⟨w1.heap.size, 10, none⟩ (.slice A sl.length c)) := (((Only.of (Below.refl w3.heap.size w3) (Nat.le_refl _)).set 8 _).set 9 _).set 10 _
      have r4 := HO.out.kept o4.grown (.inr (HX3.out.not_row HO.out (by decide)).symm)
      have z4 := HZ3.out.of (o4.block w.heap.size HZ3.out.lt (by omega))
      have hb4 := hB5.trans (o4.below hB1.size hB5.size)
      generalize ((w3.setCell ⟨w1.heap.size, 8, none⟩ (.int .i64 st)).setCell ⟨w1.heap.size, 9, none⟩ (.int .i64 sn)).setCell ⟨w1.heap.size, 10, none⟩ (.slice A sl.length c) = W4 at *
      clear x0 x1 x2 x3 x4 x5 x6 x7 x8 x9 x10 q0
      obtain ⟨x0, x1, x2, x3, x4, x5, x6, x7, x8, x9, x10, q0⟩ := ev_cells g4
      obtain ⟨z0, z1, z2, z3, z4, z5, z6, z7, z8, z9, z10, y0⟩ := ev_cells z4
      have HR4 := Lib.hid r4
      have HZ4 := Lib.hid (show Holds W4 w.heap.size _ _ from ‹Holds W4 w.heap.size _ _›)
      clear r4
      go_wp2
      obtain ⟨W9, hW9, g, o⟩ := ev_stored (.int .i64 1) (.string s) (.string ⟨#[]⟩) (.int .i64 0) (.int .i64 0) (.int .i64 0) (.int .i64 0) (.int .i64 0) (.int .i64 st) (.int .i64 sn) (.slice A sl.length c) HZ4.out rfl
      rw [← hW9]
      have hb9 : Below w.heap.size w W9 := hb4.trans (o.below (Nat.le_refl _) hb4.size)
      have r := HR4.out.kept o.grown (.inr (HZ4.out.not_row HR4.out (by decide)).symm)
      obtain ⟨k0, k1, k2, k3, k4, k5, k6, k7, k8, k9, k10, _⟩ := ev_cells g
      refine bodyPost_ret (v := .agg #[.int .i64 1, .string s, .string ⟨#[]⟩, .int .i64 0, .int .i64 0, .int .i64 0, .int .i64 0, .int .i64 0, .int .i64 st, .int .i64 sn, .slice A sl.length c]) (by simp [results, Tryz.f82, go_sem, k0, k1, k2, k3, k4, k5, k6, k7, k8, k9, k10]) rfl ?_
      rw [HX.out]
      exact ⟨A, c, rfl, r, hb9⟩
end Go.Proofs.YtpdbkjnaicjfdaaGreatDoor
