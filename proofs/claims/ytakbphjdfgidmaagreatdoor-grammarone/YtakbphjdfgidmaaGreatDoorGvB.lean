/- Pure: what is printed is parsed as it was. -/
import Derived.Test.YtakbphjdfgidmaaGreatDoorGvA
namespace Go.Proofs.YtakbphjdfgidmaaGreatDoor
open Go.RowKit
set_option linter.unusedVariables false

theorem wat_snd : ∀ (ss : List ByteArray) (o : Nat), (wat o ss).map Prod.snd = ss.map nums
  | [], _ => rfl
  | s :: r, o => by rw [wat, List.map_cons, List.map_cons, wat_snd r]
theorem wat_rest (o n : Nat) (ss : List ByteArray) : restT (wat o ss) n = jl (ss.drop n) := by
  unfold restT jl
  rw [List.map_drop, wat_snd, List.map_drop]
theorem wat_strs (o n : Nat) (ss : List ByteArray) : wdsS ((wat o ss).drop n) = ss.drop n := by
  unfold wdsS
  have e : ((wat o ss).drop n).map (fun x => strOfNums x.2) = (((wat o ss).drop n).map Prod.snd).map strOfNums := by rw [List.map_map]; rfl
  rw [e, List.map_drop, wat_snd, ← List.map_drop, List.map_map]
  conv => rhs; rw [← List.map_id (ss.drop n)]
  apply List.map_congr_left
  intro s _
  exact strOf_nums s
theorem wat_wd (o k : Nat) (ss : List ByteArray) (h : k < ss.length) : wdS (wat o ss) k = ss[k]?.getD ⟨#[]⟩ := by
  unfold wdS
  rw [wat_get ss o k h]
  exact strOf_nums _
theorem sameO_zero {o : OpT} (h : sameOpT o op0 = true) : o = op0 := (sameOpT_iff _ _).1 h
theorem stz_zero {s : StT} (h : stzB s = true) : s = stz := by
  obtain ⟨t, n, l⟩ := s
  obtain ⟨h1, h2, h3⟩ := same_iff.1 h
  dsimp only at h1 h2 h3
  rw [h1, h2, h3]; rfl
theorem bare_form {e : Ev} (h : bareB e = true) : (e.kd ≠ 1 → e.st = stz) ∧ (e.kd ≠ 3 → e.ob = emB ∧ e.op = op0) := by
  unfold bareB bareA bareO at h
  rw [Bool.and_eq_true, Bool.or_eq_true, Bool.or_eq_true, Bool.and_eq_true, beq_iff_eq, beq_iff_eq, beq_iff_eq] at h
  obtain ⟨h1, h2⟩ := h
  refine ⟨fun k => ?_, fun k => ?_⟩
  · rcases h1 with h1 | h1
    · exact absurd h1 k
    · exact stz_zero h1
  · rcases h2 with h2 | h2
    · exact absurd h2 k
    · exact ⟨h2.1, sameO_zero h2.2⟩

theorem line_told {e : Ev} (hok : EvOk e) (h : evE e = 0) (o : Nat) : lineX (wat o (evWd e)) = .ok e := by
  obtain ⟨hk, hb, hn, h1, h3⟩ := evE_cases h
  obtain ⟨f1, f3⟩ := bare_form hb
  rw [← lineR_is]
  have hlen : 2 ≤ (evWd e).length := by unfold evWd; simp
  have w0 : wdS (wat o (evWd e)) 0 = kwB e.kd.toNat := by rw [wat_wd o 0 _ (by omega)]; rfl
  have w1 : wdS (wat o (evWd e)) 1 = e.nm := by rw [wat_wd o 1 _ (by omega)]; rfl
  have hkw : kwI (wdS (wat o (evWd e)) 0) = e.kd.toNat := by rw [w0, kwI_kw _ (by omega) (by omega)]
  have hnx : nameX (wat o (evWd e)) 1 = .ok e.nm := by
    unfold nameX wordX
    rw [wat_len, if_neg (by omega), w1]
    dsimp only
    rw [if_pos hn]
  unfold lineR
  rw [hkw, if_neg (by omega), hnx]
  dsimp only
  by_cases k1 : e.kd = 1
  · rw [if_pos (by omega)]
    obtain ⟨c1, c2⟩ := firstE_zero (h1 k1)
    have hwd : evWd e = kwB e.kd.toNat :: e.nm :: stW e.st := by unfold evWd; rw [if_pos k1]
    have hl3 : 2 < (evWd e).length := by rw [hwd]; unfold stW; simp
    have hr : rdS (wat o (evWd e)) 2 = (e.st, 0, 0) := by
      unfold rdS
      rw [wat_rest, hwd]
      show readL (strOfNums (jl (stW e.st))).data.toList = _
      rw [stW_jl, strOf_nums]
      show readL (txtL e.st.1 e.st.2.1 e.st.2.2) = _
      exact st_read_told c1 hok.n hok.small
    have hf : firstX (wat o (evWd e)) 2 = .ok e.st := by
      unfold firstX wordX
      rw [wat_len, if_neg (by omega), hr]
      dsimp only
      rw [if_neg (by simp), if_neg (by omega)]
    unfold objR
    rw [hf, w1]
    dsimp only
    obtain ⟨g1, g2⟩ := f3 (by omega)
    obtain ⟨kd, nm, ob, op, st⟩ := e
    dsimp only at k1 g1 g2
    rw [k1, g1, g2]
  · rw [if_neg (by omega)]
    by_cases k3 : e.kd = 3
    · rw [if_pos (by omega)]
      obtain ⟨d1, d2⟩ := doneE_zero (h3 k3)
      obtain ⟨i, i1, i2, i3, i4⟩ := op_some d2
      have hwd : evWd e = kwB e.kd.toNat :: e.nm :: e.ob :: opWd e.op := by unfold evWd; rw [if_neg k1, if_pos k3]
      have hl3 : 2 < (evWd e).length := by rw [hwd]; simp
      have w2 : wdS (wat o (evWd e)) 2 = e.ob := by rw [wat_wd o 2 _ hl3, hwd]; rfl
      have hn2 : nameX (wat o (evWd e)) 2 = .ok e.ob := by
        unfold nameX wordX
        rw [wat_len, if_neg (by omega), w2]
        dsimp only
        rw [if_pos d1]
      have hr : rdO (wat o (evWd e)) 3 = (e.op, 0, 0) := by
        show readP (wdsS ((wat o (evWd e)).drop 3)) = _
        rw [wat_strs, hwd]
        show readP (opWd e.op) = _
        unfold opWd
        rw [i2]
        dsimp only
        rw [(op_read_told i1 hok.a hok.b hok.r i4).1, i3]
      have hd : doneX (wat o (evWd e)) 3 = .ok e.op := by
        unfold doneX
        rw [hr]
        dsimp only
        rw [if_neg (by simp)]
      unfold opR
      rw [hn2, hd, w1]
      dsimp only
      have g := f1 (by omega)
      obtain ⟨kd, nm, ob, op, st⟩ := e
      dsimp only at k3 g
      rw [k3, g]
    · rw [if_neg (by omega)]
      have hwd : (evWd e).length = 2 := by unfold evWd; rw [if_neg k1, if_neg k3]; rfl
      rw [wat_len, if_neg (by omega)]
      obtain ⟨g1, g2⟩ := f3 k3
      have g := f1 k1
      obtain ⟨kd, nm, ob, op, st⟩ := e
      dsimp only at hk k1 k3 g g1 g2 ⊢
      rw [g, g1, g2, Int.toNat_of_nonneg (by omega)]

/-- Lines of just these words. -/
inductive Told : List Ln → List Ev → Prop
  | nil : Told [] []
  | cons {l : Ln} {ls : List Ln} {e : Ev} {es : List Ev} (o : Nat) (h : l.2 = wat o (evWd e)) (t : Told ls es) : Told (l :: ls) (e :: es)
theorem wat_shift (n : Nat) : ∀ (ss : List ByteArray) (o : Nat), (wat o ss).map (shift n) = wat (o + n) ss
  | [], _ => rfl
  | s :: r, o => by
    rw [wat, wat, List.map_cons, wat_shift n r]
    rw [show o + s.size + 1 + n = o + n + s.size + 1 by omega]; rfl
theorem Told.shift {ls : List Ln} {es : List Ev} (h : Told ls es) (n : Nat) : Told (ls.map (shiftL n)) es := by
  induction h with
  | nil => exact .nil
  | cons o h t ih =>
    refine .cons (o + n) ?_ ih
    unfold shiftL
    dsimp only
    rw [h, wat_shift]
theorem Told.lines {ls : List Ln} {es : List Ev} (h : Told ls es) (hok : ∀ e ∈ es, EvOk e ∧ evE e = 0) : linesX ls = .ok es := by
  induction h with
  | nil => rfl
  | cons o h t ih =>
    obtain ⟨h1, h2⟩ := hok _ List.mem_cons_self
    rw [linesX, h, line_told h1 h2, ih fun e he => hok e (List.mem_cons_of_mem _ he)]

theorem prE_zero : ∀ {es : List Ev}, prE es = 0 ↔ ∀ e ∈ es, evE e = 0
  | [] => by simp [prE]
  | e :: r => by
    rw [prE]
    by_cases h : evE e = 0
    · rw [if_pos h, prE_zero]; simp [h]
    · rw [if_neg h]; simp [h]
theorem prL_cons (e : Ev) (r : List Ev) : prL (e :: r) = (nums (evS e) ++ [10]) ++ prL r := by unfold prL; simp
theorem prL_len : ∀ {es : List Ev}, (∀ e ∈ es, EvOk e ∧ evE e = 0) → (prL es).length ≤ es.length * 22001
  | [], _ => by simp [prL]
  | e :: r, h => by
    obtain ⟨h1, h2⟩ := h e List.mem_cons_self
    have := prL_len (es := r) fun x hx => h x (List.mem_cons_of_mem _ hx)
    have hs := ev_size h1 h2
    simp only [prL_cons, List.length_append, nums_len, List.length_cons, List.length_nil]
    omega
theorem line_feed {a : List Int} (hl : (a ++ [10]).length ≤ 67108864) (h : textF a = none) : textF (a ++ [10]) = none ∧ textL (a ++ [10]) = textL a := by
  have hl2 : a.length ≤ 67108864 := by rw [List.length_append] at hl; omega
  have hf : textF (a ++ [10]) = none := by
    rw [text_short hl, (two_cuts a []).2, find_app_none (by rw [text_short hl2] at h; exact h)]
    rw [List.findSome?_cons, lineF_over (by simp) rfl]; rfl
  refine ⟨hf, ?_⟩
  rw [(two_none hl hf).2]
  unfold textL
  rw [if_pos h]
theorem print_told : ∀ {es : List Ev}, es.length ≤ 2000 → (∀ e ∈ es, EvOk e ∧ evE e = 0) → textF (prL es) = none ∧ Told (textL (prL es)) es
  | [], _, _ => by
    have e1 : textF (prL []) = none := by decide
    have e2 : textL (prL []) = [] := by decide
    rw [e1, e2]
    exact ⟨rfl, .nil⟩
  | e :: r, hn, h => by
    obtain ⟨h1, h2⟩ := h e List.mem_cons_self
    have hr := fun x hx => h x (List.mem_cons_of_mem _ hx)
    rw [List.length_cons] at hn
    obtain ⟨i1, i2⟩ := print_told (es := r) (by omega) hr
    have hs := ev_size h1 h2
    have hj := evWd_jl h2
    have hjl : (jl (evWd e)).length ≤ 22000 := by rw [← hj, nums_len]; exact hs
    have hp := prL_len hr
    have h22 : r.length * 22001 ≤ 1999 * 22001 := Nat.mul_le_mul_right _ (by omega)
    obtain ⟨t1, t2⟩ := one_text (evWd e) (evWd_fine h2) (by omega)
    rw [← hj] at t1 t2
    have hla : (nums (evS e)).length ≤ 22000 := by rw [nums_len]; exact hs
    obtain ⟨u1, u2⟩ := line_feed (a := nums (evS e)) (by rw [List.length_append, List.length_singleton]; omega) t1
    have hlen : ((nums (evS e) ++ [10]) ++ prL r).length ≤ 67108864 := by rw [List.length_append, List.length_append, List.length_singleton]; omega
    obtain ⟨v1, v2⟩ := two_both (a := nums (evS e)) (b := prL r) hlen u1 i1
    rw [prL_cons, v1, v2, u2, t2]
    exact ⟨rfl, .cons 0 rfl (i2.shift _)⟩
theorem parse_print {es : List Ev} (hn : es.length ≤ 2000) (hok : ∀ e ∈ es, EvOk e) (h : prE es = 0) : parseX (prL es) = .ok es := by
  have hz := prE_zero.1 h
  have ho : ∀ e ∈ es, EvOk e ∧ evE e = 0 := fun e he => ⟨hok e he, hz e he⟩
  obtain ⟨t1, t2⟩ := print_told hn ho
  unfold parseX
  rw [t1]
  exact t2.lines ho
end Go.Proofs.YtakbphjdfgidmaaGreatDoor
