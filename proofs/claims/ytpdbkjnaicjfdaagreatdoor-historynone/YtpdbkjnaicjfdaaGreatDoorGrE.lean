/- Contracts of the layer grammar: the reader; op, event. Written by wip/tools/gen_gre.py. -/
import Derived.Test.YtpdbkjnaicjfdaaGreatDoorGrD
import Derived.Test.YtpdbkjnaicjfdaaGreatDoorGrK
namespace Go.Proofs.YtpdbkjnaicjfdaaGreatDoor
open Go.RowKit Go.Maps
set_option linter.unusedVariables false
set_option maxRecDepth 100000

set_option maxHeartbeats 4000000 in
theorem op_any (R : Nat) (AT : Option Addr) (cT : Nat) (bs : List Int) (ws : List Wd) (w : World) (h : Rdr w R AT cT bs ws) :
    Calls Tryz.prog 84 #[.pointer (some ⟨R, 0, none⟩)] w (EvPost (opX ws) w) := by
  unfold EvPost
  have hB0 := alloc1 w (.cells evZ 55)
  have HZ := Lib.hid (Holds.new w 55 evZ)
  have HN := Lib.hid (fun W (hB : Below w.heap.size w W) => name_any R AT cT bs ws 1 W (h.below hB))
  have HN2 := Lib.hid (fun W (hB : Below w.heap.size w W) => name_any R AT cT bs ws 2 W (h.below hB))
  have HD := Lib.hid (fun W (hB : Below w.heap.size w W) (h3 : 3 ≤ ws.length) => done_any R AT cT bs ws 3 W (h.below hB) h3)
  have hx : opX ws = match nameX ws 1 with | .error f => .error f | .ok s => match nameX ws 2 with | .error f => .error f | .ok o => match doneX ws 3 with | .error f => .error f | .ok p => .ok ⟨3, s, o, p, stz⟩ := rfl
  clear h
  unfold evZ at *
  cases hn : nameX ws 1 with
  | error f =>
    rw [hn] at HN hx
    rw [hx]
    go_enter Tryz.func84, Tryz.ntmps84
    go_wp2_with fail
    refine (HN.out _ hB0).mono ?_
    rintro e w1 ⟨rfl, hB⟩
    go_wp2
    exact ⟨rfl, rfl, nxt hB0 hB hB0.size⟩
  | ok s =>
    rw [hn] at HN hx
    have hx1 : opX ws = match nameX ws 2 with | .error f => .error f | .ok o => match doneX ws 3 with | .error f => .error f | .ok p => .ok ⟨3, s, o, p, stz⟩ := hx
    clear hx
    go_enter Tryz.func84, Tryz.ntmps84
    go_wp2_with fail
    refine (HN.out _ hB0).mono ?_
    rintro e w1 ⟨rfl, hB⟩
    have hB1 := nxt hB0 hB hB0.size
    have HZ1 := Lib.hid (HZ.out.below hB HZ.out.lt)
    have hB2 := alloc1 w1 (.cells #[.int .i64 3, .string s, .string ⟨#[]⟩, .int .i64 0, .int .i64 0, .int .i64 0, .int .i64 0, .int .i64 0, .int .i64 0, .int .i64 0, .slice none 0 0] 55)
    have hB3 := nxt hB1 hB2 hB1.size
    have HZ2 := Lib.hid (HZ1.out.below hB2 HZ1.out.lt)
    have HX2 := Lib.hid (Holds.new w1 55 #[.int .i64 3, .string s, .string ⟨#[]⟩, .int .i64 0, .int .i64 0, .int .i64 0, .int .i64 0, .int .i64 0, .int .i64 0, .int .i64 0, .slice none 0 0])
    have hl1 := HZ1.out.lt
    clear hB
    cases hn2 : nameX ws 2 with
    | error f =>
      rw [hn2] at HN2 hx1
      have HX := Lib.hid hx1
      clear hx1
      go_wp2_with fail
      generalize w1.alloc (.cells #[.int .i64 3, .string s, .string ⟨#[]⟩, .int .i64 0, .int .i64 0, .int .i64 0, .int .i64 0, .int .i64 0, .int .i64 0, .int .i64 0, .slice none 0 0] 55) = W2 at *
      refine (HN2.out _ hB3).mono ?_
      rintro e w3 ⟨rfl, hB4⟩
      go_wp2
      rw [HX.out]
      exact ⟨rfl, rfl, nxt hB3 hB4 hB3.size⟩
    | ok s2 =>
      rw [hn2] at HN2 hx1
      have hlen : 3 ≤ ws.length := by
        unfold nameX wordX at hn2
        by_cases hl : ws.length ≤ 2
        · rw [if_pos hl] at hn2; cases hn2
        · omega
      have hx2 : opX ws = match doneX ws 3 with | .error f => .error f | .ok p => .ok ⟨3, s, s2, p, stz⟩ := hx1
      have HX := Lib.hid hx2
      clear hx1 hx2
      go_wp2_with fail
      generalize w1.alloc (.cells #[.int .i64 3, .string s, .string ⟨#[]⟩, .int .i64 0, .int .i64 0, .int .i64 0, .int .i64 0, .int .i64 0, .int .i64 0, .int .i64 0, .slice none 0 0] 55) = W2 at *
      refine (HN2.out _ hB3).mono ?_
      rintro e w3 ⟨rfl, hB4⟩
      have hB5 := nxt hB3 hB4 hB3.size
      have HZ3 := Lib.hid (HZ2.out.below hB4 HZ2.out.lt)
      have HX3 := Lib.hid (HX2.out.below hB4 HX2.out.lt)
      obtain ⟨x0, x1, x2, x3, x4, x5, x6, x7, x8, x9, x10, q0⟩ := ev_cells HX3.out
      have g4 := HX3.out.set 2 (.string s2)
      simp only [List.setIfInBounds_toArray, List.set_cons_zero, List.set_cons_succ] at g4
      have o4 : Only w1.heap.size w3 (w3.setCell ⟨w1.heap.size, 2, none⟩ (.string s2)) := (Only.of (Below.refl w3.heap.size w3) (Nat.le_refl _)).set 2 _
      have z4 := HZ3.out.of (o4.block w.heap.size HZ3.out.lt (by omega))
      have hb4 := hB5.trans (o4.below hB1.size hB5.size)
      have G4 := Lib.hid g4
      have Z4 := Lib.hid z4
      clear g4 z4
      go_wp2_with fail
      generalize w3.setCell ⟨w1.heap.size, 2, none⟩ (.string s2) = W4 at *
      clear x0 x1 x2 x3 x4 x5 x6 x7 x8 x9 x10 q0 o4
      have HD2 := HD.out _ hb4 hlen
      unfold DonePost at HD2
      cases hd : doneX ws 3 with
      | error f =>
        rw [hd] at HD2 HX
        refine HD2.mono ?_
        rintro e w5 ⟨rfl, hB6⟩
        go_wp2
        rw [HX.out]
        exact ⟨rfl, rfl, nxt hb4 hB6 hb4.size⟩
      | ok p =>
        obtain ⟨o1, o2, o3, o4, o5⟩ := p
        rw [hd] at HD2 HX
        refine HD2.mono ?_
        rintro e w5 ⟨rfl, hB6⟩
        have hB7 := nxt hb4 hB6 hb4.size
        have HZ5 := Lib.hid (Z4.out.below hB6 Z4.out.lt)
        have HX5 := Lib.hid (G4.out.below hB6 G4.out.lt)
        unfold opVT opV
        dsimp only
        clear HD2
        obtain ⟨x0, x1, x2, x3, x4, x5, x6, x7, x8, x9, x10, q0⟩ := ev_cells HX5.out
        have g6 := ((((HX5.out.set 3 (.int .i64 o1)).set 4 (.int .i64 o2)).set 5 (.int .i64 o3)).set 6 (.int .i64 o4)).set 7 (.int .i64 o5)
        simp only [List.setIfInBounds_toArray, List.set_cons_zero, List.set_cons_succ] at g6
        have o6 : Only w1.heap.size w5 (((((w5.setCell ⟨w1.heap.size, 3, none⟩ (.int .i64 o1)).setCell ⟨w1.heap.size, 4, none⟩ (.int .i64 o2)).setCell ⟨w1.heap.size, 5, none⟩ (.int .i64 o3)).setCell ⟨w1.heap.size, 6, none⟩ (.int .i64 o4)).setCell ⟨w1.heap.size, 7, none⟩ (.int .i64 o5)) := (((((Only.of (Below.refl w5.heap.size w5) (Nat.le_refl _)).set 3 _).set 4 _).set 5 _).set 6 _).set 7 _
        have z6 := HZ5.out.of (o6.block w.heap.size HZ5.out.lt (by omega))
        have hb6 := hB7.trans (o6.below hB1.size hB7.size)
        have G6 := Lib.hid g6
        have Z6 := Lib.hid z6
        clear g6 z6
        go_upto_region 4 with fail
        generalize ((((w5.setCell ⟨w1.heap.size, 3, none⟩ (.int .i64 o1)).setCell ⟨w1.heap.size, 4, none⟩ (.int .i64 o2)).setCell ⟨w1.heap.size, 5, none⟩ (.int .i64 o3)).setCell ⟨w1.heap.size, 6, none⟩ (.int .i64 o4)).setCell ⟨w1.heap.size, 7, none⟩ (.int .i64 o5) = W6 at *
        clear x0 x1 x2 x3 x4 x5 x6 x7 x8 x9 x10 q0 o6
        obtain ⟨x0, x1, x2, x3, x4, x5, x6, x7, x8, x9, x10, q0⟩ := ev_cells G6.out
        obtain ⟨z0, z1, z2, z3, z4, z5, z6, z7, z8, z9, z10, y0⟩ := ev_cells Z6.out
        go_wp2
        obtain ⟨W9, hW9, g, o⟩ := ev_stored (.int .i64 3) (.string s) (.string s2) (.int .i64 o1) (.int .i64 o2) (.int .i64 o3) (.int .i64 o4) (.int .i64 o5) (.int .i64 0) (.int .i64 0) (.slice none 0 0) Z6.out rfl
        rw [← hW9]
        have hb9 : Below w.heap.size w W9 := hb6.trans (o.below (Nat.le_refl _) hb6.size)
        obtain ⟨k0, k1, k2, k3, k4, k5, k6, k7, k8, k9, k10, _⟩ := ev_cells g
        refine bodyPost_ret (v := .agg #[.int .i64 3, .string s, .string s2, .int .i64 o1, .int .i64 o2, .int .i64 o3, .int .i64 o4, .int .i64 o5, .int .i64 0, .int .i64 0, .slice none 0 0]) (by simp [results, Tryz.f84, go_sem, k0, k1, k2, k3, k4, k5, k6, k7, k8, k9, k10]) rfl ?_
        rw [HX.out]
        exact ⟨none, 0, rfl, nil_row _ _, hb9⟩

theorem kmap_yes (w : World) {ops : Array Oper} {rest : List Oper} {o : Oper} {a : Act} {Q : Exit → Act → World → Prop}
    (hg : o.guard = none) (m x : Operand) (t : TypeId) (hop : o.op = Op.lookup t m x true) (ht : Tryz.prog.underlying t = some (.map 9 146))
    (M R : Nat) (hm : a.eval m = .map (some M)) (hown : KMap w M R) (s : ByteArray) (hx : a.eval x = .string s) (hs : s.size ≤ maxLen) (k : Nat) (h1 : 1 ≤ k) (hk : kwI s = k)
    (hK : wpList Tryz.prog ops Q rest (a.put o.dst (.tuple #[kfV R k, .bool true])) w) :
    wpList Tryz.prog ops Q (o :: rest) a w := by
  obtain ⟨D, hD, hKp⟩ := hown
  refine wpList_lookup_own_ok w hg m x t hop 9 146 keyLaw ht (kfElem R) (zeroKf w) (.lit (.int .i64 0)) [] rfl M 5 D hm hD (.string s) (key s) hx (keyName hs) ?_
  intro v ps hv
  obtain ⟨h5, rfl⟩ := kwI_of hk h1
  rw [hKp.2 k h1 h5 rfl] at hv
  have hf : 0 < kfN k := by
    have : k = 1 ∨ k = 2 ∨ k = 3 ∨ k = 4 ∨ k = 5 := by omega
    rcases this with rfl | rfl | rfl | rfl | rfl <;> decide
  have e := kfElem_inv hf hv
  subst e
  rw [hKp.1 (kwB k), kwI_kw k h1 h5]
  have : (decide (1 ≤ k) && true) = true := by simp [h1]
  rw [this]
  exact hK
theorem kmap_no (w : World) {ops : Array Oper} {rest : List Oper} {o : Oper} {a : Act} {Q : Exit → Act → World → Prop}
    (hg : o.guard = none) (m x : Operand) (t : TypeId) (hop : o.op = Op.lookup t m x true) (ht : Tryz.prog.underlying t = some (.map 9 146))
    (M R : Nat) (hm : a.eval m = .map (some M)) (hown : KMap w M R) (s : ByteArray) (hx : a.eval x = .string s) (hs : s.size ≤ maxLen) (hk : kwI s = 0)
    (hK : ∀ v, wpList Tryz.prog ops Q rest (a.put o.dst (.tuple #[v, .bool false])) w) :
    wpList Tryz.prog ops Q (o :: rest) a w := by
  obtain ⟨D, hD, hKp⟩ := hown
  refine wpList_lookup_own_ok w hg m x t hop 9 146 keyLaw ht (kfElem R) (zeroKf w) (.lit (.int .i64 0)) [] rfl M 5 D hm hD (.string s) (key s) hx (keyName hs) ?_
  intro v ps hv
  rw [hKp.1 s, hk]
  exact hK v

def lineK (ws : List Wd) : Nat → Rx Ev
  | 0 => stopX ws 6 0
  | 1 => objX ws
  | 3 => opX ws
  | k => namedX ws (k : Int)
theorem line_kind (ws : List Wd) (k : Nat) (h : kwI (wdS ws 0) = k) : lineX ws = lineK ws k := by
  subst h; rfl

set_option maxHeartbeats 4000000 in
theorem event_any (R M : Nat) (AT : Option Addr) (cT : Nat) (bs : List Int) (ws : List Wd) (w : World) (h : Rdr w R AT cT bs ws) (hl : Lined bs ws) (hcT : bs.length ≤ cT) (hw : Wds w) (hM : KMap w M R) :
    Calls Tryz.prog 60 #[.pointer (some ⟨R, 0, none⟩), .map (some M)] w (EvPost (lineX ws) w) := by
  have hB0 := alloc1 w (.cells evZ 55)
  have HZ := Lib.hid (Holds.new w 55 evZ)
  have hwx : wordX ws 0 = .ok (wdS ws 0) := by
    have := h.fine.pos
    unfold wordX; rw [if_neg (by omega)]
  have HW := Lib.hid (fun W (hB : Below w.heap.size w W) => word_any R AT cT bs ws 0 W (h.below hB))
  rw [hwx] at HW
  have hsz : (wdS ws 0).size ≤ maxLen := Nat.le_trans (wdS_size h.fine) (by unfold maxLen; omega)
  have HST := Lib.hid (fun W (hB : Below w.heap.size w W) => stop_any R AT cT bs ws 6 0 W (h.below hB))
  have HC1 := Lib.hid (fun W (hB : Below w.heap.size w W) => object_any R AT cT bs ws W (h.below hB) hl hcT (hw.on hB))
  have HC2 := Lib.hid (fun W (hB : Below w.heap.size w W) => begin_any R AT cT bs ws W (h.below hB))
  have HC3 := Lib.hid (fun W (hB : Below w.heap.size w W) => op_any R AT cT bs ws W (h.below hB))
  have HC4 := Lib.hid (fun W (hB : Below w.heap.size w W) => commit_any R AT cT bs ws W (h.below hB))
  have HC5 := Lib.hid (fun W (hB : Below w.heap.size w W) => abort_any R AT cT bs ws W (h.below hB))
  have HM := Lib.hid hM
  have hk := line_kind ws
  generalize wdS ws 0 = s at *
  clear h hl hcT hw hM hwx
  obtain ⟨k, hkk⟩ : ∃ k, kwI s = k := ⟨_, rfl⟩
  have hx := hk k hkk
  have HK := Lib.hid hkk
  have hk5 : k ≤ 5 := by
    rcases Nat.eq_zero_or_pos k with e | e
    · omega
    · exact (kwI_of hkk e).1
  clear hk hkk
  have hR : R < w.heap.size ∨ True := .inr trivial
  rcases Nat.eq_zero_or_pos k with e | hpos
  · subst e
    have hx1 : lineX ws = stopX ws 6 0 := hx
    rw [hx1]
    clear hx hx1
    unfold evZ at *
    go_enter Tryz.func60, Tryz.ntmps60
    go_wp2_with fail
    refine (HW.out _ hB0).mono ?_
    rintro e w1 ⟨rfl, hB⟩
    have hB1 := nxt hB0 hB hB0.size
    go_wp2_with (at_lookup; refine kmap_no _ rfl _ _ 118 rfl Tryz.underlying118 M R rfl (HM.out.below hB1) s rfl hsz HK.out ?_; intro v)
    refine (HST.out _ hB1).mono ?_
    rintro e w2 ⟨rfl, hB2⟩
    go_wp2
    exact ⟨rfl, rfl, nxt hB1 hB2 hB1.size⟩
  · have hcase : k = 1 ∨ k = 2 ∨ k = 3 ∨ k = 4 ∨ k = 5 := by omega
    rcases hcase with rfl | rfl | rfl | rfl | rfl
    · have hx1 : lineX ws = objX ws := hx
      rw [hx1]
      have HC := Lib.hid HC1.out
      clear hx hx1 HC1 HC2 HC3 HC4 HC5 HST
      unfold EvPost at *
      unfold evZ at *
      generalize objX ws = x at *
      have eg : ∀ args w, (callFunc 82 args).run Tryz.prog w = .ok (.enter 82 args) w := fun _ _ => by go_simp
      go_enter Tryz.func60, Tryz.ntmps60
      go_wp2_with fail
      refine (HW.out _ hB0).mono ?_
      rintro e w1 ⟨rfl, hB⟩
      have hB1 := nxt hB0 hB hB0.size
      have HZ1 := Lib.hid (HZ.out.below hB HZ.out.lt)
      have hBs := hB1.size
      have hHC := HC.out _ hB1
      go_wp2_with (at_lookup; refine kmap_yes _ rfl _ _ 118 rfl Tryz.underlying118 M R rfl (HM.out.below hB1) s rfl hsz 1 (by omega) HK.out ?_; unfold kfV kfN)
      cases x with
      | error f =>
        refine hHC.mono ?_
        rintro e w2 ⟨rfl, hB2⟩
        go_wp2
        exact ⟨rfl, rfl, nxt hB1 hB2 hB1.size⟩
      | ok ev =>
        refine hHC.mono ?_
        rintro e w2 ⟨A, c, rfl, ho, hB2⟩
        have hB2' := nxt hB1 hB2 hB1.size
        have HO := Lib.hid ho
        have HZ2 := Lib.hid (HZ1.out.below hB2 HZ1.out.lt)
        obtain ⟨z0, z1, z2, z3, z4, z5, z6, z7, z8, z9, z10, y0⟩ := ev_cells HZ2.out
        unfold evV evC
        clear ho hHC
        go_wp2
        obtain ⟨W9, hW9, g, o⟩ := ev_stored (.int .i64 (ev.kd)) (.string (ev.nm)) (.string (ev.ob)) (.int .i64 (ev.op.1)) (.int .i64 (ev.op.2.1)) (.int .i64 (ev.op.2.2.1)) (.int .i64 (ev.op.2.2.2.1)) (.int .i64 (ev.op.2.2.2.2)) (.int .i64 (ev.st.1)) (.int .i64 (ev.st.2.1)) (.slice A ev.st.2.2.length c) HZ2.out rfl
        rw [← hW9]
        have hb9 : Below w.heap.size w W9 := hB2'.trans (o.below (Nat.le_refl _) hB2'.size)
        have r := HO.out.kept o.grown (.inr (HZ2.out.not_row HO.out (by decide)).symm)
        obtain ⟨k0, k1, k2, k3, k4, k5, k6, k7, k8, k9, k10, _⟩ := ev_cells g
        refine bodyPost_ret (v := .agg #[.int .i64 (ev.kd), .string (ev.nm), .string (ev.ob), .int .i64 (ev.op.1), .int .i64 (ev.op.2.1), .int .i64 (ev.op.2.2.1), .int .i64 (ev.op.2.2.2.1), .int .i64 (ev.op.2.2.2.2), .int .i64 (ev.st.1), .int .i64 (ev.st.2.1), .slice A ev.st.2.2.length c]) (by simp [results, Tryz.f60, go_sem, k0, k1, k2, k3, k4, k5, k6, k7, k8, k9, k10]) rfl ?_
        exact ⟨A, c, rfl, row_mono r hBs, hb9⟩
    · have hx1 : lineX ws = namedX ws 2 := hx
      rw [hx1]
      have HC := Lib.hid HC2.out
      clear hx hx1 HC1 HC2 HC3 HC4 HC5 HST
      unfold EvPost at *
      unfold evZ at *
      generalize namedX ws 2 = x at *
      have eg : ∀ args w, (callFunc 83 args).run Tryz.prog w = .ok (.enter 83 args) w := fun _ _ => by go_simp
      go_enter Tryz.func60, Tryz.ntmps60
      go_wp2_with fail
      refine (HW.out _ hB0).mono ?_
      rintro e w1 ⟨rfl, hB⟩
      have hB1 := nxt hB0 hB hB0.size
      have HZ1 := Lib.hid (HZ.out.below hB HZ.out.lt)
      have hBs := hB1.size
      have hHC := HC.out _ hB1
      go_wp2_with (at_lookup; refine kmap_yes _ rfl _ _ 118 rfl Tryz.underlying118 M R rfl (HM.out.below hB1) s rfl hsz 2 (by omega) HK.out ?_; unfold kfV kfN)
      cases x with
      | error f =>
        refine hHC.mono ?_
        rintro e w2 ⟨rfl, hB2⟩
        go_wp2
        exact ⟨rfl, rfl, nxt hB1 hB2 hB1.size⟩
      | ok ev =>
        refine hHC.mono ?_
        rintro e w2 ⟨A, c, rfl, ho, hB2⟩
        have hB2' := nxt hB1 hB2 hB1.size
        have HO := Lib.hid ho
        have HZ2 := Lib.hid (HZ1.out.below hB2 HZ1.out.lt)
        obtain ⟨z0, z1, z2, z3, z4, z5, z6, z7, z8, z9, z10, y0⟩ := ev_cells HZ2.out
        unfold evV evC
        clear ho hHC
        go_wp2
        obtain ⟨W9, hW9, g, o⟩ := ev_stored (.int .i64 (ev.kd)) (.string (ev.nm)) (.string (ev.ob)) (.int .i64 (ev.op.1)) (.int .i64 (ev.op.2.1)) (.int .i64 (ev.op.2.2.1)) (.int .i64 (ev.op.2.2.2.1)) (.int .i64 (ev.op.2.2.2.2)) (.int .i64 (ev.st.1)) (.int .i64 (ev.st.2.1)) (.slice A ev.st.2.2.length c) HZ2.out rfl
        rw [← hW9]
        have hb9 : Below w.heap.size w W9 := hB2'.trans (o.below (Nat.le_refl _) hB2'.size)
        have r := HO.out.kept o.grown (.inr (HZ2.out.not_row HO.out (by decide)).symm)
        obtain ⟨k0, k1, k2, k3, k4, k5, k6, k7, k8, k9, k10, _⟩ := ev_cells g
        refine bodyPost_ret (v := .agg #[.int .i64 (ev.kd), .string (ev.nm), .string (ev.ob), .int .i64 (ev.op.1), .int .i64 (ev.op.2.1), .int .i64 (ev.op.2.2.1), .int .i64 (ev.op.2.2.2.1), .int .i64 (ev.op.2.2.2.2), .int .i64 (ev.st.1), .int .i64 (ev.st.2.1), .slice A ev.st.2.2.length c]) (by simp [results, Tryz.f60, go_sem, k0, k1, k2, k3, k4, k5, k6, k7, k8, k9, k10]) rfl ?_
        exact ⟨A, c, rfl, row_mono r hBs, hb9⟩
    · have hx1 : lineX ws = opX ws := hx
      rw [hx1]
      have HC := Lib.hid HC3.out
      clear hx hx1 HC1 HC2 HC3 HC4 HC5 HST
      unfold EvPost at *
      unfold evZ at *
      generalize opX ws = x at *
      have eg : ∀ args w, (callFunc 84 args).run Tryz.prog w = .ok (.enter 84 args) w := fun _ _ => by go_simp
      go_enter Tryz.func60, Tryz.ntmps60
      go_wp2_with fail
      refine (HW.out _ hB0).mono ?_
      rintro e w1 ⟨rfl, hB⟩
      have hB1 := nxt hB0 hB hB0.size
      have HZ1 := Lib.hid (HZ.out.below hB HZ.out.lt)
      have hBs := hB1.size
      have hHC := HC.out _ hB1
      go_wp2_with (at_lookup; refine kmap_yes _ rfl _ _ 118 rfl Tryz.underlying118 M R rfl (HM.out.below hB1) s rfl hsz 3 (by omega) HK.out ?_; unfold kfV kfN)
      cases x with
      | error f =>
        refine hHC.mono ?_
        rintro e w2 ⟨rfl, hB2⟩
        go_wp2
        exact ⟨rfl, rfl, nxt hB1 hB2 hB1.size⟩
      | ok ev =>
        refine hHC.mono ?_
        rintro e w2 ⟨A, c, rfl, ho, hB2⟩
        have hB2' := nxt hB1 hB2 hB1.size
        have HO := Lib.hid ho
        have HZ2 := Lib.hid (HZ1.out.below hB2 HZ1.out.lt)
        obtain ⟨z0, z1, z2, z3, z4, z5, z6, z7, z8, z9, z10, y0⟩ := ev_cells HZ2.out
        unfold evV evC
        clear ho hHC
        go_wp2
        obtain ⟨W9, hW9, g, o⟩ := ev_stored (.int .i64 (ev.kd)) (.string (ev.nm)) (.string (ev.ob)) (.int .i64 (ev.op.1)) (.int .i64 (ev.op.2.1)) (.int .i64 (ev.op.2.2.1)) (.int .i64 (ev.op.2.2.2.1)) (.int .i64 (ev.op.2.2.2.2)) (.int .i64 (ev.st.1)) (.int .i64 (ev.st.2.1)) (.slice A ev.st.2.2.length c) HZ2.out rfl
        rw [← hW9]
        have hb9 : Below w.heap.size w W9 := hB2'.trans (o.below (Nat.le_refl _) hB2'.size)
        have r := HO.out.kept o.grown (.inr (HZ2.out.not_row HO.out (by decide)).symm)
        obtain ⟨k0, k1, k2, k3, k4, k5, k6, k7, k8, k9, k10, _⟩ := ev_cells g
        refine bodyPost_ret (v := .agg #[.int .i64 (ev.kd), .string (ev.nm), .string (ev.ob), .int .i64 (ev.op.1), .int .i64 (ev.op.2.1), .int .i64 (ev.op.2.2.1), .int .i64 (ev.op.2.2.2.1), .int .i64 (ev.op.2.2.2.2), .int .i64 (ev.st.1), .int .i64 (ev.st.2.1), .slice A ev.st.2.2.length c]) (by simp [results, Tryz.f60, go_sem, k0, k1, k2, k3, k4, k5, k6, k7, k8, k9, k10]) rfl ?_
        exact ⟨A, c, rfl, row_mono r hBs, hb9⟩
    · have hx1 : lineX ws = namedX ws 4 := hx
      rw [hx1]
      have HC := Lib.hid HC4.out
      clear hx hx1 HC1 HC2 HC3 HC4 HC5 HST
      unfold EvPost at *
      unfold evZ at *
      generalize namedX ws 4 = x at *
      have eg : ∀ args w, (callFunc 85 args).run Tryz.prog w = .ok (.enter 85 args) w := fun _ _ => by go_simp
      go_enter Tryz.func60, Tryz.ntmps60
      go_wp2_with fail
      refine (HW.out _ hB0).mono ?_
      rintro e w1 ⟨rfl, hB⟩
      have hB1 := nxt hB0 hB hB0.size
      have HZ1 := Lib.hid (HZ.out.below hB HZ.out.lt)
      have hBs := hB1.size
      have hHC := HC.out _ hB1
      go_wp2_with (at_lookup; refine kmap_yes _ rfl _ _ 118 rfl Tryz.underlying118 M R rfl (HM.out.below hB1) s rfl hsz 4 (by omega) HK.out ?_; unfold kfV kfN)
      cases x with
      | error f =>
        refine hHC.mono ?_
        rintro e w2 ⟨rfl, hB2⟩
        go_wp2
        exact ⟨rfl, rfl, nxt hB1 hB2 hB1.size⟩
      | ok ev =>
        refine hHC.mono ?_
        rintro e w2 ⟨A, c, rfl, ho, hB2⟩
        have hB2' := nxt hB1 hB2 hB1.size
        have HO := Lib.hid ho
        have HZ2 := Lib.hid (HZ1.out.below hB2 HZ1.out.lt)
        obtain ⟨z0, z1, z2, z3, z4, z5, z6, z7, z8, z9, z10, y0⟩ := ev_cells HZ2.out
        unfold evV evC
        clear ho hHC
        go_wp2
        obtain ⟨W9, hW9, g, o⟩ := ev_stored (.int .i64 (ev.kd)) (.string (ev.nm)) (.string (ev.ob)) (.int .i64 (ev.op.1)) (.int .i64 (ev.op.2.1)) (.int .i64 (ev.op.2.2.1)) (.int .i64 (ev.op.2.2.2.1)) (.int .i64 (ev.op.2.2.2.2)) (.int .i64 (ev.st.1)) (.int .i64 (ev.st.2.1)) (.slice A ev.st.2.2.length c) HZ2.out rfl
        rw [← hW9]
        have hb9 : Below w.heap.size w W9 := hB2'.trans (o.below (Nat.le_refl _) hB2'.size)
        have r := HO.out.kept o.grown (.inr (HZ2.out.not_row HO.out (by decide)).symm)
        obtain ⟨k0, k1, k2, k3, k4, k5, k6, k7, k8, k9, k10, _⟩ := ev_cells g
        refine bodyPost_ret (v := .agg #[.int .i64 (ev.kd), .string (ev.nm), .string (ev.ob), .int .i64 (ev.op.1), .int .i64 (ev.op.2.1), .int .i64 (ev.op.2.2.1), .int .i64 (ev.op.2.2.2.1), .int .i64 (ev.op.2.2.2.2), .int .i64 (ev.st.1), .int .i64 (ev.st.2.1), .slice A ev.st.2.2.length c]) (by simp [results, Tryz.f60, go_sem, k0, k1, k2, k3, k4, k5, k6, k7, k8, k9, k10]) rfl ?_
        exact ⟨A, c, rfl, row_mono r hBs, hb9⟩
    · have hx1 : lineX ws = namedX ws 5 := hx
      rw [hx1]
      have HC := Lib.hid HC5.out
      clear hx hx1 HC1 HC2 HC3 HC4 HC5 HST
      unfold EvPost at *
      unfold evZ at *
      generalize namedX ws 5 = x at *
      have eg : ∀ args w, (callFunc 86 args).run Tryz.prog w = .ok (.enter 86 args) w := fun _ _ => by go_simp
      go_enter Tryz.func60, Tryz.ntmps60
      go_wp2_with fail
      refine (HW.out _ hB0).mono ?_
      rintro e w1 ⟨rfl, hB⟩
      have hB1 := nxt hB0 hB hB0.size
      have HZ1 := Lib.hid (HZ.out.below hB HZ.out.lt)
      have hBs := hB1.size
      have hHC := HC.out _ hB1
      go_wp2_with (at_lookup; refine kmap_yes _ rfl _ _ 118 rfl Tryz.underlying118 M R rfl (HM.out.below hB1) s rfl hsz 5 (by omega) HK.out ?_; unfold kfV kfN)
      cases x with
      | error f =>
        refine hHC.mono ?_
        rintro e w2 ⟨rfl, hB2⟩
        go_wp2
        exact ⟨rfl, rfl, nxt hB1 hB2 hB1.size⟩
      | ok ev =>
        refine hHC.mono ?_
        rintro e w2 ⟨A, c, rfl, ho, hB2⟩
        have hB2' := nxt hB1 hB2 hB1.size
        have HO := Lib.hid ho
        have HZ2 := Lib.hid (HZ1.out.below hB2 HZ1.out.lt)
        obtain ⟨z0, z1, z2, z3, z4, z5, z6, z7, z8, z9, z10, y0⟩ := ev_cells HZ2.out
        unfold evV evC
        clear ho hHC
        go_wp2
        obtain ⟨W9, hW9, g, o⟩ := ev_stored (.int .i64 (ev.kd)) (.string (ev.nm)) (.string (ev.ob)) (.int .i64 (ev.op.1)) (.int .i64 (ev.op.2.1)) (.int .i64 (ev.op.2.2.1)) (.int .i64 (ev.op.2.2.2.1)) (.int .i64 (ev.op.2.2.2.2)) (.int .i64 (ev.st.1)) (.int .i64 (ev.st.2.1)) (.slice A ev.st.2.2.length c) HZ2.out rfl
        rw [← hW9]
        have hb9 : Below w.heap.size w W9 := hB2'.trans (o.below (Nat.le_refl _) hB2'.size)
        have r := HO.out.kept o.grown (.inr (HZ2.out.not_row HO.out (by decide)).symm)
        obtain ⟨k0, k1, k2, k3, k4, k5, k6, k7, k8, k9, k10, _⟩ := ev_cells g
        refine bodyPost_ret (v := .agg #[.int .i64 (ev.kd), .string (ev.nm), .string (ev.ob), .int .i64 (ev.op.1), .int .i64 (ev.op.2.1), .int .i64 (ev.op.2.2.1), .int .i64 (ev.op.2.2.2.1), .int .i64 (ev.op.2.2.2.2), .int .i64 (ev.st.1), .int .i64 (ev.st.2.1), .slice A ev.st.2.2.length c]) (by simp [results, Tryz.f60, go_sem, k0, k1, k2, k3, k4, k5, k6, k7, k8, k9, k10]) rfl ?_
        exact ⟨A, c, rfl, row_mono r hBs, hb9⟩
end Go.Proofs.YtpdbkjnaicjfdaaGreatDoor
