/- What may follow: the desk's five askers. -/
import Derived.Test.YtpdbkjnaicjfdaaGreatDoorHsB
import Derived.Test.YtpdbkjnaicjfdaaGreatDoorGrJ
import Derived.BigQuiet
namespace Go.Proofs.YtpdbkjnaicjfdaaGreatDoor
open Go.RowKit Go.Maps
set_option linter.unusedVariables false
set_option maxRecDepth 100000

theorem belowN {w w' : World} {B : Nat} (h : Below B w w') (q : Nat) : Below B w (w'.drewN q) := ⟨h.os, h.tape, h.output, h.size, h.block⟩
theorem Dsk.drewN {w : World} {lo : Nat} {L : Lay} {d : Dk} (h : Dsk w lo L d) (q : Nat) : Dsk (w.drewN q) lo L d := h.below (belowN (Below.refl _ _) q)

theorem askF_any (B : Nat) (e : Ev) (A : Option Addr) (c : Nat) (w : World) (hA : Ints w A e.st.2.2) (hlen : e.st.2.2.length ≤ 20000) (hnm : e.nm.size ≤ 8000) (hob : e.ob.size ≤ 8000) :
    Calls Tryz.prog 70 #[.pointer (some ⟨B, 0, none⟩), evV e A c] w (Says (.int .i64 (evE e)) w) := by
  obtain ⟨kd, nm, ob, ⟨o1, o2, o3, o4, o5⟩, t, n, l⟩ := e
  dsimp only at hA hlen hnm hob
  have hb1 := alloc1 w (.cells (evC ⟨kd, nm, ob, (o1, o2, o3, o4, o5), t, n, l⟩ A c) 55)
  have HC := check_ev ⟨kd, nm, ob, (o1, o2, o3, o4, o5), t, n, l⟩ A c _ (hA.below hb1) hlen hnm hob
  unfold evV evC at *
  dsimp only at HC hb1 ⊢
  clear hA hlen hnm hob
  go_enter Tryz.func70, Tryz.ntmps70
  go_wp2_with fail
  refine HC.mono ?_
  rintro e w1 ⟨rfl, hB⟩
  go_wp2
  go_ret
  exact ⟨rfl, nxt hb1 hB hb1.size⟩

theorem same_q {P : Program} {f : FuncId} {args : Array Value} {w : World} {v : Value} (h : Calls P f args w fun e w' => e = .returned v ∧ w = w') : Calls P f args w fun e w' => e = .returned v ∧ ∃ m, w' = w.drewN m :=
  h.mono (by rintro e w' ⟨rfl, rfl⟩; exact ⟨rfl, 0, rfl⟩)

theorem same_q2 {P : Program} {f : FuncId} {args : Array Value} {w : World} {v : Value} {q x : Nat} (h : Calls P f args (w.drewN (q + x)) fun e w' => e = .returned v ∧ w.drewN (q + x) = w') : Calls P f args (w.drewN (q + x)) fun e w' => e = .returned v ∧ ∃ m, w' = w.drewN (q + m) :=
  h.mono (by rintro e w' ⟨rfl, rfl⟩; exact ⟨rfl, x, rfl⟩)

set_option maxHeartbeats 4000000 in
theorem askO_any {lo : Nat} {L : Lay} {d : Dk} (e : Ev) (A : Option Addr) (c : Nat) (w : World) (h : Dsk w lo L d) (hnm : e.nm.size ≤ 8000) (hob : e.ob.size ≤ 8000) :
    Calls Tryz.prog 71 #[.pointer (some ⟨L.B, 0, none⟩), evV e A c] w (Says (.int .i64 (askO d e)) w) := by
  obtain ⟨kd, nm, ob, ⟨o1, o2, o3, o4, o5⟩, t, n, l⟩ := e
  dsimp only at hnm hob
  have hx : askO d ⟨kd, nm, ob, (o1, o2, o3, o4, o5), t, n, l⟩ = if kd ≠ 1 then 0 else if d.obs.length < d.evs then 13 else if (obAt d nm).isSome then 10 else 0 := rfl
  obtain ⟨F, hF⟩ : ∃ F, askO d ⟨kd, nm, ob, (o1, o2, o3, o4, o5), t, n, l⟩ = F := ⟨_, rfl⟩
  rw [hF] at hx ⊢
  have HF := Lib.hid hx
  have hb1 := alloc1 w (.cells (evC ⟨kd, nm, ob, (o1, o2, o3, o4, o5), t, n, l⟩ A c) 55)
  have HD1 := Lib.hid (h.below hb1)
  unfold evV evC at *
  dsimp only at HD1 hb1 ⊢
  clear hx hF h
  go_enter Tryz.func71, Tryz.ntmps71
  go_upto_region 1 with fail
  have HX := Lib.hid (Holds.new w 55 #[.int .i64 kd, .string nm, .string ob, .int .i64 o1, .int .i64 o2, .int .i64 o3, .int .i64 o4, .int .i64 o5, .int .i64 t, .int .i64 n, .slice A l.length c])
  generalize w.alloc (.cells #[.int .i64 kd, .string nm, .string ob, .int .i64 o1, .int .i64 o2, .int .i64 o3, .int .i64 o4, .int .i64 o5, .int .i64 t, .int .i64 n, .slice A l.length c] 55) = W1 at *
  obtain ⟨x0, x1, x2, x3, x4, x5, x6, x7, x8, x9, x10, y0⟩ := ev_cells HX.out
  obtain ⟨c0, c1, c2, c3, c4, c5, c6, fz⟩ := desk_cells HD1.out
  by_cases hk : kd = 1
  · subst hk
    obtain ⟨A1, k1, hv1⟩ := HD1.out.ob.shape
    have hl : d.obs.length = L.bs.length := by have := HD1.out.ob.nl; unfold onm at this; rwa [List.length_map] at this
    rw [hv1] at c2
    have HCt := fun n => count_O L.B (W1.drewN n) A1 L.bs.length k1 c2
    have HOf := fun n => of_O L.B (W1.drewN n) c1 (HD1.out.drewN n).ob nm (by unfold maxLen; omega)
    have hmany := HD1.out.ok.many
    have hfew := HD1.out.few
    by_cases k2 : d.obs.length < d.evs
    · have hd2 : decide (L.bs.length < d.evs) = true := decide_eq_true (by omega)
      have e1 : F = 13 := by rw [HF.out, if_neg (by simp), if_pos k2]
      subst e1
      go_wp2_with fail
      go_quiet ((go_at_call 42; exact Calls.quiet_of (same_q (HCt _))))
      go_wp2
      go_ret
      exact ⟨rfl, belowN hb1 _⟩
    · have hd2 : decide (L.bs.length < d.evs) = false := decide_eq_false (by omega)
      have hd3 : decide ((256 : Int) ≤ (L.bs.length : Int)) = false := decide_eq_false (by omega)
      rcases HD1.out.obOf nm with ⟨hn, hbn⟩ | ⟨x, b, hn, hbn, _⟩
      · have e1 : F = 0 := by rw [HF.out, if_neg (by simp), if_neg k2, hn]; rfl
        subst e1
        simp only [hbn, ptrO] at HOf
        clear hn hbn hl HF k2
        go_wp2_with fail
        go_quiet ((go_at_call 42; exact Calls.quiet_of (same_q (HCt _))))
        go_wp2_with fail
        go_quiet ((go_at_call 97; exact same_q2 (HOf _)))
        go_wp2_with fail
        refine (HCt _).mono ?_
        rintro e w1 ⟨rfl, rfl⟩
        go_wp2
        go_ret
        exact ⟨rfl, by first | exact belowN (belowN hb1 _) _ | exact belowN hb1 _⟩
      · have e1 : F = 10 := by rw [HF.out, if_neg (by simp), if_neg k2, hn]; rfl
        subst e1
        simp only [hbn, ptrO] at HOf
        clear hn hbn hl HF k2
        go_wp2_with fail
        go_quiet ((go_at_call 42; exact Calls.quiet_of (same_q (HCt _))))
        go_wp2_with fail
        go_quiet ((go_at_call 97; exact same_q2 (HOf _)))
        go_wp2
        go_ret
        exact ⟨rfl, by first | exact belowN (belowN hb1 _) _ | exact belowN hb1 _⟩
  · have e1 : F = 0 := by rw [HF.out, if_pos hk]
    subst e1
    have hkd : (kd == 1) = false := beq_eq_false_iff_ne.2 hk
    go_wp2
    go_ret
    exact ⟨rfl, hb1⟩

set_option maxHeartbeats 4000000 in
theorem askB_any {lo : Nat} {L : Lay} {d : Dk} (e : Ev) (A : Option Addr) (c : Nat) (w : World) (h : Dsk w lo L d) (hnm : e.nm.size ≤ 8000) (hob : e.ob.size ≤ 8000) :
    Calls Tryz.prog 72 #[.pointer (some ⟨L.B, 0, none⟩), evV e A c] w (Says (.int .i64 (askB d e)) w) := by
  obtain ⟨kd, nm, ob, ⟨o1, o2, o3, o4, o5⟩, t, n, l⟩ := e
  dsimp only at hnm hob
  have hx : askB d ⟨kd, nm, ob, (o1, o2, o3, o4, o5), t, n, l⟩ = if kd ≠ 2 then 0 else if (lfAt d nm).isSome then 10 else 0 := rfl
  obtain ⟨F, hF⟩ : ∃ F, askB d ⟨kd, nm, ob, (o1, o2, o3, o4, o5), t, n, l⟩ = F := ⟨_, rfl⟩
  rw [hF] at hx ⊢
  have HF := Lib.hid hx
  have hb1 := alloc1 w (.cells (evC ⟨kd, nm, ob, (o1, o2, o3, o4, o5), t, n, l⟩ A c) 55)
  have HD1 := Lib.hid (h.below hb1)
  unfold evV evC at *
  dsimp only at HD1 hb1 ⊢
  clear hx hF h
  go_enter Tryz.func72, Tryz.ntmps72
  go_upto_region 1 with fail
  have HX := Lib.hid (Holds.new w 55 #[.int .i64 kd, .string nm, .string ob, .int .i64 o1, .int .i64 o2, .int .i64 o3, .int .i64 o4, .int .i64 o5, .int .i64 t, .int .i64 n, .slice A l.length c])
  generalize w.alloc (.cells #[.int .i64 kd, .string nm, .string ob, .int .i64 o1, .int .i64 o2, .int .i64 o3, .int .i64 o4, .int .i64 o5, .int .i64 t, .int .i64 n, .slice A l.length c] 55) = W1 at *
  obtain ⟨x0, x1, x2, x3, x4, x5, x6, x7, x8, x9, x10, y0⟩ := ev_cells HX.out
  obtain ⟨c0, c1, c2, c3, c4, c5, c6, fz⟩ := desk_cells HD1.out
  by_cases hk : kd = 2
  · subst hk
    obtain ⟨A1, k1, hv1⟩ := HD1.out.tr.shape
    have hl : d.trs.length = L.ls.length := by have := HD1.out.tr.nl; unfold tnm at this; rwa [List.length_map] at this
    rw [hv1] at c4
    have HCt := fun n => count_L L.B (W1.drewN n) A1 L.ls.length k1 c4
    have HOf := fun n => of_L L.B (W1.drewN n) c3 (HD1.out.drewN n).tr nm (by unfold maxLen; omega)
    have hmany := HD1.out.ok.many
    have hfew := HD1.out.few
    have hd3 : decide ((4096 : Int) ≤ (L.ls.length : Int)) = false := decide_eq_false (by omega)
    rcases HD1.out.lfOf nm with ⟨hn, hbn⟩ | ⟨x, b, hn, hbn, _⟩
    · have e1 : F = 0 := by rw [HF.out, if_neg (by simp), hn]; rfl
      subst e1
      simp only [hbn, ptrO] at HOf
      clear hn hbn hl HF
      go_wp2_with fail
      go_quiet ((go_at_call 53; exact Calls.quiet_of (same_q (HOf _))))
      go_wp2_with fail
      refine (HCt _).mono ?_
      rintro e w1 ⟨rfl, rfl⟩
      go_wp2
      go_ret
      exact ⟨rfl, belowN hb1 _⟩
    · have e1 : F = 10 := by rw [HF.out, if_neg (by simp), hn]; rfl
      subst e1
      simp only [hbn, ptrO] at HOf
      clear hn hbn hl HF
      go_wp2_with fail
      go_quiet ((go_at_call 53; exact Calls.quiet_of (same_q (HOf _))))
      go_wp2
      go_ret
      exact ⟨rfl, belowN hb1 _⟩
  · have e1 : F = 0 := by rw [HF.out, if_pos hk]
    subst e1
    have hkd : (kd == 2) = false := beq_eq_false_iff_ne.2 hk
    go_wp2
    go_ret
    exact ⟨rfl, hb1⟩

set_option maxHeartbeats 4000000 in
theorem askR_any {lo : Nat} {L : Lay} {d : Dk} (e : Ev) (A : Option Addr) (c : Nat) (w : World) (h : Dsk w lo L d) (hnm : e.nm.size ≤ 8000) (hob : e.ob.size ≤ 8000) :
    Calls Tryz.prog 73 #[.pointer (some ⟨L.B, 0, none⟩), evV e A c] w (Says (.int .i64 (askR d e)) w) := by
  obtain ⟨kd, nm, ob, ⟨o1, o2, o3, o4, o5⟩, t, n, l⟩ := e
  dsimp only at hnm hob
  have hx : askR d ⟨kd, nm, ob, (o1, o2, o3, o4, o5), t, n, l⟩ = if kd = 1 ∨ kd = 2 then 0 else match lfAt d nm with
    | none => 11
    | some x => if x.en = -1 then 0 else 13 := rfl
  obtain ⟨F, hF⟩ : ∃ F, askR d ⟨kd, nm, ob, (o1, o2, o3, o4, o5), t, n, l⟩ = F := ⟨_, rfl⟩
  rw [hF] at hx ⊢
  have HF := Lib.hid hx
  have hb1 := alloc1 w (.cells (evC ⟨kd, nm, ob, (o1, o2, o3, o4, o5), t, n, l⟩ A c) 55)
  have HD1 := Lib.hid (h.below hb1)
  unfold evV evC at *
  dsimp only at HD1 hb1 ⊢
  clear hx hF h
  go_enter Tryz.func73, Tryz.ntmps73
  go_upto_region 1 with fail
  have HX := Lib.hid (Holds.new w 55 #[.int .i64 kd, .string nm, .string ob, .int .i64 o1, .int .i64 o2, .int .i64 o3, .int .i64 o4, .int .i64 o5, .int .i64 t, .int .i64 n, .slice A l.length c])
  generalize w.alloc (.cells #[.int .i64 kd, .string nm, .string ob, .int .i64 o1, .int .i64 o2, .int .i64 o3, .int .i64 o4, .int .i64 o5, .int .i64 t, .int .i64 n, .slice A l.length c] 55) = W1 at *
  obtain ⟨x0, x1, x2, x3, x4, x5, x6, x7, x8, x9, x10, y0⟩ := ev_cells HX.out
  obtain ⟨c0, c1, c2, c3, c4, c5, c6, fz⟩ := desk_cells HD1.out
  by_cases hk1 : kd = 1
  · have e1 : F = 0 := by rw [HF.out, if_pos (.inl hk1)]
    subst e1
    have hkd : (kd == 1) = true := by rw [hk1]; rfl
    clear hk1
    go_wp2
    go_ret
    exact ⟨rfl, hb1⟩
  · have hkd : (kd == 1) = false := beq_eq_false_iff_ne.2 hk1
    by_cases hk2 : kd = 2
    · have e1 : F = 0 := by rw [HF.out, if_pos (.inr hk2)]
      subst e1
      have hkd2 : (kd == 2) = true := by rw [hk2]; rfl
      clear hk1 hk2
      go_wp2
      go_ret
      exact ⟨rfl, hb1⟩
    · have hkd2 : (kd == 2) = false := beq_eq_false_iff_ne.2 hk2
      have HOf := fun n => of_L L.B (W1.drewN n) c3 (HD1.out.drewN n).tr nm (by unfold maxLen; omega)
      rcases HD1.out.lfOf nm with ⟨hn, hbn⟩ | ⟨x, b, hn, hbn, hH, _⟩
      · have e1 : F = 11 := by rw [HF.out, if_neg (by omega), hn]
        subst e1
        simp only [hbn, ptrO] at HOf
        clear hn hbn HF hk1 hk2
        go_wp2_with fail
        go_quiet ((go_at_call 53; exact Calls.quiet_of (same_q (HOf _))))
        go_wp2
        go_ret
        exact ⟨rfl, belowN hb1 _⟩
      · have e1 : F = if x.en = -1 then 0 else 13 := by rw [HF.out, if_neg (by omega), hn]
        simp only [hbn, ptrO] at HOf
        have cE : W1.cell? ⟨b, 2, none⟩ = some (.int .i64 x.en) := hH.c rfl
        generalize x.en = en at *
        clear hn hbn HF hk1 hk2 hH
        by_cases he : en = -1
        · rw [if_pos he] at e1
          subst e1
          have hee : (en == -1) = true := by rw [he]; rfl
          clear he
          go_wp2_with fail
          go_quiet ((go_at_call 53; exact Calls.quiet_of (same_q (HOf _))))
          go_wp2
          go_ret
          exact ⟨rfl, belowN hb1 _⟩
        · rw [if_neg he] at e1
          subst e1
          have hee : (en == -1) = false := beq_eq_false_iff_ne.2 he
          clear he
          go_wp2_with fail
          go_quiet ((go_at_call 53; exact Calls.quiet_of (same_q (HOf _))))
          go_wp2
          go_ret
          exact ⟨rfl, belowN hb1 _⟩

set_option maxHeartbeats 4000000 in
theorem askP_any {lo : Nat} {L : Lay} {d : Dk} (e : Ev) (A : Option Addr) (c : Nat) (w : World) (h : Dsk w lo L d) (hnm : e.nm.size ≤ 8000) (hob : e.ob.size ≤ 8000) :
    Calls Tryz.prog 74 #[.pointer (some ⟨L.B, 0, none⟩), evV e A c] w (Says (.int .i64 (askP d e)) w) := by
  obtain ⟨kd, nm, ob, ⟨o1, o2, o3, o4, o5⟩, t, n, l⟩ := e
  dsimp only at hnm hob
  have hx : askP d ⟨kd, nm, ob, (o1, o2, o3, o4, o5), t, n, l⟩ = if kd ≠ 3 then 0 else match obAt d ob with
    | none => 11
    | some x => if typeO (kindI o1) = x.2 then 0 else 8 := rfl
  obtain ⟨F, hF⟩ : ∃ F, askP d ⟨kd, nm, ob, (o1, o2, o3, o4, o5), t, n, l⟩ = F := ⟨_, rfl⟩
  rw [hF] at hx ⊢
  have HF := Lib.hid hx
  have hb1 := alloc1 w (.cells (evC ⟨kd, nm, ob, (o1, o2, o3, o4, o5), t, n, l⟩ A c) 55)
  have HD1 := Lib.hid (h.below hb1)
  unfold evV evC at *
  dsimp only at HD1 hb1 ⊢
  clear hx hF h
  go_enter Tryz.func74, Tryz.ntmps74
  go_upto_region 1 with fail
  have HX := Lib.hid (Holds.new w 55 #[.int .i64 kd, .string nm, .string ob, .int .i64 o1, .int .i64 o2, .int .i64 o3, .int .i64 o4, .int .i64 o5, .int .i64 t, .int .i64 n, .slice A l.length c])
  generalize w.alloc (.cells #[.int .i64 kd, .string nm, .string ob, .int .i64 o1, .int .i64 o2, .int .i64 o3, .int .i64 o4, .int .i64 o5, .int .i64 t, .int .i64 n, .slice A l.length c] 55) = W1 at *
  obtain ⟨x0, x1, x2, x3, x4, x5, x6, x7, x8, x9, x10, y0⟩ := ev_cells HX.out
  obtain ⟨c0, c1, c2, c3, c4, c5, c6, fz⟩ := desk_cells HD1.out
  by_cases hk : kd = 3
  · subst hk
    have HOf := fun n => of_O L.B (W1.drewN n) c1 (HD1.out.drewN n).ob ob (by unfold maxLen; omega)
    have hmany := HD1.out.ok.few
    have hfew := HD1.out.few
    have hd3 : decide ((1048576 : Int) ≤ (d.ops : Int)) = false := decide_eq_false (by omega)
    rcases HD1.out.obOf ob with ⟨hn, hbn⟩ | ⟨x, b, hn, hbn, hH, _⟩
    · have e1 : F = 11 := by rw [HF.out, if_neg (by simp), hn]
      subst e1
      simp only [hbn, ptrO] at HOf
      clear hn hbn HF
      go_wp2_with fail
      go_quiet ((go_at_call 97; exact Calls.quiet_of (same_q (HOf _))))
      go_wp2
      go_ret
      exact ⟨rfl, belowN hb1 _⟩
    · have e1 : F = if typeO (kindI o1) = x.2 then 0 else 8 := by rw [HF.out, if_neg (by simp), hn]
      simp only [hbn, ptrO] at HOf
      have HT := fun W => type_any o1 W
      generalize typeO (kindI o1) = ty at *
      generalize errOf (kindI o1) = er at *
      have cE : W1.cell? ⟨b, 1, none⟩ = some (.int .i64 x.2) := hH.c rfl
      have hbl := hH.lt
      generalize x.2 = xk at *
      clear hn hbn HF hH
      by_cases he : ty = xk
      · rw [if_pos he] at e1
        subst e1
        have hee : (ty == xk) = true := by rw [he]; simp
        clear he
        go_wp2_with fail
        go_quiet ((go_at_call 97; exact Calls.quiet_of (same_q (HOf _))))
        go_wp2_with fail
        refine (HT _).mono ?_
        rintro e w1 ⟨rfl, hB2⟩
        have hBf := nxt (belowN hb1 _) hB2 hb1.size
        have cE' := (hB2.cell (p := ⟨b, 1, none⟩) hbl).trans cE
        have c6' := (hB2.cell (p := ⟨L.B, 6, none⟩) (World.block_lt_of_cell? _ _ c6)).trans c6
        clear cE c6 HT
        go_wp2
        go_ret
        exact ⟨rfl, hBf⟩
      · rw [if_neg he] at e1
        subst e1
        have hee : (ty == xk) = false := beq_eq_false_iff_ne.2 he
        clear he
        go_wp2_with fail
        go_quiet ((go_at_call 97; exact Calls.quiet_of (same_q (HOf _))))
        go_wp2_with fail
        refine (HT _).mono ?_
        rintro e w1 ⟨rfl, hB2⟩
        have hBf := nxt (belowN hb1 _) hB2 hb1.size
        have cE' := (hB2.cell (p := ⟨b, 1, none⟩) hbl).trans cE
        clear cE HT
        go_wp2
        go_ret
        exact ⟨rfl, hBf⟩
  · have e1 : F = 0 := by rw [HF.out, if_pos hk]
    subst e1
    have hkd : (kd == 3) = false := beq_eq_false_iff_ne.2 hk
    go_wp2
    go_ret
    exact ⟨rfl, hb1⟩
end Go.Proofs.YtpdbkjnaicjfdaaGreatDoor
