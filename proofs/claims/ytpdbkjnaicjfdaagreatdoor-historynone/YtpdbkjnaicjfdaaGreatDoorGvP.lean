/- Texts of earlier stages over this seat, joined: GuJ GvA GvB GvD GvE GvG GvH. -/
import Derived.Test.YtpdbkjnaicjfdaaGreatDoorGuP
import Derived.Test.YtpdbkjnaicjfdaaGreatDoorGp
import Derived.Test.YtpdbkjnaicjfdaaGreatDoorGtw
import Derived.Test.YtpdbkjnaicjfdaaGreatDoorGrO
import Derived.Test.YtpdbkjnaicjfdaaGreatDoorGrW
set_option maxRecDepth 100000
namespace Go.Proofs.YtpdbkjnaicjfdaaGreatDoor
open Go.RowKit Go.Maps
set_option linter.unusedVariables false
set_option maxRecDepth 100000

theorem OwnEvs.readX {W : World} {base : Nat} {A : Option Addr} {n c : Nat} {es : List Ev} (h : OwnEvs W base (.slice A n c) es) (hn : es.length = n) : ∃ ys : List EvZ, ys.map Prod.fst = es ∧ ys.length = n ∧ ReadEvs W.heap.size W A ys ∧ ReadNums W ys := by
  obtain ⟨ys, h1, h2, h3⟩ := h
  have hl : ys.length = n := by rw [← hn, ← h1, List.length_map]
  rw [← hl] at h2
  exact ⟨ys, h1, hl, read_evs h2, h3.read⟩
theorem lineX_few {ws : List Wd} {e : Ev} (h : lineX ws = .ok e) : e.st.2.2.length ≤ 1000 := by
  rw [← lineR_is] at h
  unfold lineR at h
  by_cases h0 : kwI (wdS ws 0) = 0
  · rw [if_pos h0] at h; cases h
  · rw [if_neg h0] at h
    cases hn : nameX ws 1 with
    | error g => rw [hn] at h; cases h
    | ok s =>
      rw [hn] at h
      dsimp only at h
      by_cases h1 : kwI (wdS ws 0) = 1
      · rw [if_pos h1] at h
        unfold objR at h
        cases hf : firstX ws 2 with
        | error g => rw [hf] at h; cases h
        | ok t =>
          rw [hf] at h
          cases h
          unfold firstX at hf
          cases hw : wordX ws 2 with
          | error g => rw [hw] at hf; cases hf
          | ok s =>
            rw [hw] at hf
            dsimp only at hf
            by_cases c1 : (rdS ws 2).2.1 ≠ 0
            · rw [if_pos c1] at hf; cases hf
            · rw [if_neg c1] at hf
              by_cases c2 : 1000 < (rdS ws 2).1.2.2.length
              · rw [if_pos c2] at hf; cases hf
              · rw [if_neg c2] at hf
                injection hf with hf
                rw [← hf]
                show (rdS ws 2).1.2.2.length ≤ 1000
                omega
      · rw [if_neg h1] at h
        by_cases h3 : kwI (wdS ws 0) = 3
        · rw [if_pos h3] at h
          unfold opR at h
          cases hm : nameX ws 2 with
          | error g => rw [hm] at h; cases h
          | ok o =>
            rw [hm] at h
            dsimp only at h
            cases hd : doneX ws 3 with
            | error g => rw [hd] at h; cases h
            | ok p => rw [hd] at h; cases h; exact Nat.zero_le _
        · rw [if_neg h3] at h
          by_cases h2 : 2 < ws.length
          · rw [if_pos h2] at h; cases h
          · rw [if_neg h2] at h; cases h; exact Nat.zero_le _
theorem lines_all {P : Ev → Prop} (hP : ∀ ws e, lineX ws = .ok e → P e) : ∀ (ls : List Ln) (es : List Ev), linesX ls = .ok es → es.length = ls.length ∧ ∀ e ∈ es, P e
  | [], es, h => by cases h; exact ⟨rfl, fun e he => by cases he⟩
  | l :: r, es, h => by
    rw [linesX] at h
    cases hl : lineX l.2 with
    | error f => rw [hl] at h; cases h
    | ok e0 =>
      rw [hl] at h
      cases hr : linesX r with
      | error f => rw [hr] at h; cases h
      | ok es' =>
        rw [hr] at h
        cases h
        obtain ⟨i1, i2⟩ := lines_all hP r es' hr
        refine ⟨by simp [i1], fun e he => ?_⟩
        rcases List.mem_cons.1 he with rfl | h'
        · exact hP _ _ hl
        · exact i2 e h'
theorem parse_few {bs : List Int} {es : List Ev} (h : parseX bs = .ok es) : es.length ≤ bs.length + 1 ∧ ∀ e ∈ es, e.st.2.2.length ≤ 1000 := by
  unfold parseX at h
  cases hf : textF bs with
  | some f => rw [hf] at h; cases h
  | none =>
    rw [hf] at h
    obtain ⟨h1, h2⟩ := lines_all (P := fun e => e.st.2.2.length ≤ 1000) (fun ws e hw => lineX_few hw) _ es h
    exact ⟨by rw [h1]; exact text_len bs, h2⟩

end Go.Proofs.YtpdbkjnaicjfdaaGreatDoor

namespace Go.Proofs.YtpdbkjnaicjfdaaGreatDoor
open Go.RowKit
set_option linter.unusedVariables false

theorem nums_app (a b : ByteArray) : nums (a ++ b) = nums a ++ nums b := by
  unfold nums
  rw [ByteArray.data_append]
  simp
theorem jl_cons (w : ByteArray) : ∀ ps : List ByteArray, jl (w :: ps) = nums w ++ ps.flatMap fun p => 32 :: nums p
  | [] => by rw [jl_one]; simp
  | p :: r => by
    have e : jl (w :: p :: r) = nums w ++ 32 :: jl (p :: r) := rfl
    rw [e, jl_cons p r, List.flatMap_cons]; simp
theorem name_fw {s : ByteArray} (h : nm_checkE s = 0) : fw (nums s) = none := by
  have h1 := nm_name h
  unfold nameB nameL at h1
  simp only [Bool.and_eq_true, decide_eq_true_eq] at h1
  obtain ⟨⟨⟨a1, a2⟩, a3⟩, a4⟩ := h1
  refine fw_none (fun e => by rw [e] at a1; simp at a1) fun x hx => ?_
  have hb : begB x = true ∨ folB x = true := by
    rw [← List.take_append_drop 1 (nums s)] at hx
    rcases List.mem_append.1 hx with h | h
    · exact .inl (List.all_eq_true.1 a3 x h)
    · exact .inr (List.all_eq_true.1 a4 x h)
  unfold folB begB at hb
  simp only [Bool.or_eq_true, Bool.and_eq_true, decide_eq_true_eq, beq_iff_eq] at hb
  unfold bad
  simp only [Bool.or_eq_false_iff, decide_eq_false_iff_not]
  omega
/-- A state's words. -/
def stW (s : StT) : List ByteArray := st_wordB s.1.toNat :: (numsOf s.1 s.2.1 s.2.2).map putB
theorem nums_list (l : List UInt8) : nums ⟨l.toArray⟩ = l.map fun b => (b.toNat : Int) := by simp [nums]
theorem stW_jl (s : StT) : jl (stW s) = nums (stS s) := by
  obtain ⟨t, n, l⟩ := s
  unfold stW stS txtL
  dsimp only
  rw [jl_cons, nums_list (wordL t.toNat ++ txtOf (numsOf t n l)), List.map_append]
  congr 1
  unfold txtOf
  generalize numsOf t n l = ys
  induction ys with
  | nil => rfl
  | cons y r ih =>
    rw [List.map_cons, List.flatMap_cons, List.flatMap_cons, List.map_append, ih]
    congr 1
theorem st_word_fw (k : Nat) (h1 : 1 ≤ k) (h5 : k ≤ 5) : fw (nums (st_wordB k)) = none := by
  have : k = 1 ∨ k = 2 ∨ k = 3 ∨ k = 4 ∨ k = 5 := by omega
  rcases this with rfl | rfl | rfl | rfl | rfl <;> decide
theorem kw_fw (k : Nat) (h1 : 1 ≤ k) (h5 : k ≤ 5) : fw (nums (kwB k)) = none ∧ over (nums (kwB k)) = false := by
  have : k = 1 ∨ k = 2 ∨ k = 3 ∨ k = 4 ∨ k = 5 := by omega
  rcases this with rfl | rfl | rfl | rfl | rfl <;> decide
/-- An operation's words. -/
def opWd (o : OpT) : List ByteArray := match kindI o.1 with
  | none => []
  | some i => opW i o.2.1 o.2.2.1 o.2.2.2.1 o.2.2.2.2
/-- The words of an event's line. -/
def evWd (e : Ev) : List ByteArray := kwB e.kd.toNat :: e.nm :: (if e.kd = 1 then stW e.st else if e.kd = 3 then e.ob :: opWd e.op else [])
theorem op_some {o : OpT} (h : opE o = 0) : ∃ i, i < 15 ∧ kindI o.1 = some i ∧ (i : Int) + 1 = o.1 ∧ checkI i o.2.1 o.2.2.1 o.2.2.2.1 o.2.2.2.2 = 0 := by
  unfold opE checkP at h
  cases hk : kindI o.1 with
  | none => rw [hk] at h; cases h
  | some i =>
    rw [hk] at h
    exact ⟨i, (kindI_lt hk).1, rfl, (kindI_lt hk).2, h⟩
theorem fine_of {ss : List ByteArray} (h : ∀ s ∈ ss, fw (nums s) = none) : fineW ss = true := by
  unfold fineW
  rw [List.all_eq_true]
  intro s hs
  rw [h s hs]; rfl
theorem st_type {s : StT} (h : st_checkE s.1 s.2.1 s.2.2 = 0) : 1 ≤ s.1 ∧ s.1 ≤ 5 := ⟨(check_ok h).1, (check_ok h).2.1⟩
theorem evWd_fine {e : Ev} (h : evE e = 0) : joinOk (evWd e) = true := by
  obtain ⟨hk, hb, hn, h1, h3⟩ := evE_cases h
  have hkk : 1 ≤ e.kd.toNat ∧ e.kd.toNat ≤ 5 := by omega
  obtain ⟨f1, f2⟩ := kw_fw _ hkk.1 hkk.2
  unfold joinOk
  rw [Bool.and_eq_true]
  refine ⟨fine_of fun s hs => ?_, by unfold evWd; simp [f2]⟩
  unfold evWd at hs
  rcases List.mem_cons.1 hs with rfl | hs
  · exact f1
  · rcases List.mem_cons.1 hs with rfl | hs
    · exact name_fw hn
    · by_cases k1 : e.kd = 1
      · rw [if_pos k1] at hs
        obtain ⟨c1, c2⟩ := firstE_zero (h1 k1)
        have ht := st_type c1
        unfold stW at hs
        rcases List.mem_cons.1 hs with rfl | hs
        · exact st_word_fw _ (by omega) (by omega)
        · obtain ⟨x, _, rfl⟩ := List.mem_map.1 hs
          exact putB_fine x
      · rw [if_neg k1] at hs
        by_cases k3 : e.kd = 3
        · rw [if_pos k3] at hs
          obtain ⟨d1, d2⟩ := doneE_zero (h3 k3)
          obtain ⟨i, i1, i2, i3, i4⟩ := op_some d2
          rcases List.mem_cons.1 hs with rfl | hs
          · exact name_fw d1
          · unfold opWd at hs
            rw [i2] at hs
            exact (opW_mem i1 hs).1
        · rw [if_neg k3] at hs; cases hs
theorem evWd_jl {e : Ev} (h : evE e = 0) : nums (evS e) = jl (evWd e) := by
  obtain ⟨hk, hb, hn, h1, h3⟩ := evE_cases h
  obtain ⟨kd, nm, ob, o, s⟩ := e
  dsimp only at hk hb hn h1 h3
  have hbl : nums blB = [32] := by decide
  have j2 : ∀ (a b : ByteArray) (r : List ByteArray), jl (a :: b :: r) = nums a ++ 32 :: jl (b :: r) := fun a b r => rfl
  unfold evS evH evWd
  dsimp only
  by_cases k1 : kd = 1
  · rw [if_pos k1, if_pos k1, nums_app, nums_app, nums_app, nums_app, hbl]
    have e1 : ∃ w r, stW s = w :: r := ⟨_, _, rfl⟩
    obtain ⟨w, r, e1⟩ := e1
    rw [← stW_jl, e1, j2, j2]
    simp
  · rw [if_neg k1, if_neg k1]
    by_cases k3 : kd = 3
    · rw [if_pos k3, if_pos k3]
      obtain ⟨d1, d2⟩ := doneE_zero (h3 k3)
      obtain ⟨i, i1, i2, i3, i4⟩ := op_some d2
      have hop : nums (opS o) = jl (opWd o) := by
        unfold opS opWd textS
        rw [i2]
        dsimp only
        rw [if_pos i4, nums_strOf _ (jl_octets _)]
      have e1 : ∃ w r, opWd o = w :: r := by unfold opWd; rw [i2]; exact ⟨_, _, rfl⟩
      obtain ⟨w, r, e1⟩ := e1
      rw [nums_app, nums_app, nums_app, nums_app, nums_app, nums_app, hbl, hop, e1, j2, j2, j2]
      simp
    · rw [if_neg k3, if_neg k3, j2, jl_one, nums_app, nums_app, hbl]
      simp
end Go.Proofs.YtpdbkjnaicjfdaaGreatDoor

namespace Go.Proofs.YtpdbkjnaicjfdaaGreatDoor
open Go.RowKit
set_option linter.unusedVariables false

theorem wat_snd : ∀ (ss : List ByteArray) (o : Nat), (wat o ss).map Prod.snd = ss.map nums
  | [], _ => rfl
  | s :: r, o => by rw [wat, List.map_cons, List.map_cons, wat_snd r]
theorem wat_rest (o n : Nat) (ss : List ByteArray) : restT (wat o ss) n = jl (ss.drop n) := by
  unfold restT jl
  rw [List.map_drop, wat_snd, List.map_drop]
theorem wat_strs (o n : Nat) (ss : List ByteArray) : wdsS ((wat o ss).drop n) = ss.drop n := by
  unfold wdsS
  have e : ((wat o ss).drop n).map (fun x => strOfNums x.2) = (((wat o ss).drop n).map Prod.snd).map strOfNums := by rw [List.map_map]; rfl
  rw [e, List.map_drop, wat_snd, ← List.map_drop, List.map_map]
  conv => rhs; rw [← List.map_id (ss.drop n)]
  apply List.map_congr_left
  intro s _
  exact strOf_nums s
theorem wat_wd (o k : Nat) (ss : List ByteArray) (h : k < ss.length) : wdS (wat o ss) k = ss[k]?.getD ⟨#[]⟩ := by
  unfold wdS
  rw [wat_get ss o k h]
  exact strOf_nums _
theorem sameO_zero {o : OpT} (h : sameOpT o op0 = true) : o = op0 := (sameOpT_iff _ _).1 h
theorem stz_zero {s : StT} (h : stzB s = true) : s = stz := by
  obtain ⟨t, n, l⟩ := s
  obtain ⟨h1, h2, h3⟩ := same_iff.1 h
  dsimp only at h1 h2 h3
  rw [h1, h2, h3]; rfl
theorem bare_form {e : Ev} (h : bareB e = true) : (e.kd ≠ 1 → e.st = stz) ∧ (e.kd ≠ 3 → e.ob = emB ∧ e.op = op0) := by
  unfold bareB bareA bareO at h
  rw [Bool.and_eq_true, Bool.or_eq_true, Bool.or_eq_true, Bool.and_eq_true, beq_iff_eq, beq_iff_eq, beq_iff_eq] at h
  obtain ⟨h1, h2⟩ := h
  refine ⟨fun k => ?_, fun k => ?_⟩
  · rcases h1 with h1 | h1
    · exact absurd h1 k
    · exact stz_zero h1
  · rcases h2 with h2 | h2
    · exact absurd h2 k
    · exact ⟨h2.1, sameO_zero h2.2⟩

theorem line_told {e : Ev} (hok : EvOk e) (h : evE e = 0) (o : Nat) : lineX (wat o (evWd e)) = .ok e := by
  obtain ⟨hk, hb, hn, h1, h3⟩ := evE_cases h
  obtain ⟨f1, f3⟩ := bare_form hb
  rw [← lineR_is]
  have hlen : 2 ≤ (evWd e).length := by unfold evWd; simp
  have w0 : wdS (wat o (evWd e)) 0 = kwB e.kd.toNat := by rw [wat_wd o 0 _ (by omega)]; rfl
  have w1 : wdS (wat o (evWd e)) 1 = e.nm := by rw [wat_wd o 1 _ (by omega)]; rfl
  have hkw : kwI (wdS (wat o (evWd e)) 0) = e.kd.toNat := by rw [w0, kwI_kw _ (by omega) (by omega)]
  have hnx : nameX (wat o (evWd e)) 1 = .ok e.nm := by
    unfold nameX wordX
    rw [wat_len, if_neg (by omega), w1]
    dsimp only
    rw [if_pos hn]
  unfold lineR
  rw [hkw, if_neg (by omega), hnx]
  dsimp only
  by_cases k1 : e.kd = 1
  · rw [if_pos (by omega)]
    obtain ⟨c1, c2⟩ := firstE_zero (h1 k1)
    have hwd : evWd e = kwB e.kd.toNat :: e.nm :: stW e.st := by unfold evWd; rw [if_pos k1]
    have hl3 : 2 < (evWd e).length := by rw [hwd]; unfold stW; simp
    have hr : rdS (wat o (evWd e)) 2 = (e.st, 0, 0) := by
      unfold rdS
      rw [wat_rest, hwd]
      show readL (strOfNums (jl (stW e.st))).data.toList = _
      rw [stW_jl, strOf_nums]
      show readL (txtL e.st.1 e.st.2.1 e.st.2.2) = _
      exact st_read_told c1 hok.n hok.small
    have hf : firstX (wat o (evWd e)) 2 = .ok e.st := by
      unfold firstX wordX
      rw [wat_len, if_neg (by omega), hr]
      dsimp only
      rw [if_neg (by simp), if_neg (by omega)]
    unfold objR
    rw [hf, w1]
    dsimp only
    obtain ⟨g1, g2⟩ := f3 (by omega)
    obtain ⟨kd, nm, ob, op, st⟩ := e
    dsimp only at k1 g1 g2
    rw [k1, g1, g2]
  · rw [if_neg (by omega)]
    by_cases k3 : e.kd = 3
    · rw [if_pos (by omega)]
      obtain ⟨d1, d2⟩ := doneE_zero (h3 k3)
      obtain ⟨i, i1, i2, i3, i4⟩ := op_some d2
      have hwd : evWd e = kwB e.kd.toNat :: e.nm :: e.ob :: opWd e.op := by unfold evWd; rw [if_neg k1, if_pos k3]
      have hl3 : 2 < (evWd e).length := by rw [hwd]; simp
      have w2 : wdS (wat o (evWd e)) 2 = e.ob := by rw [wat_wd o 2 _ hl3, hwd]; rfl
      have hn2 : nameX (wat o (evWd e)) 2 = .ok e.ob := by
        unfold nameX wordX
        rw [wat_len, if_neg (by omega), w2]
        dsimp only
        rw [if_pos d1]
      have hr : rdO (wat o (evWd e)) 3 = (e.op, 0, 0) := by
        show readP (wdsS ((wat o (evWd e)).drop 3)) = _
        rw [wat_strs, hwd]
        show readP (opWd e.op) = _
        unfold opWd
        rw [i2]
        dsimp only
        rw [(op_read_told i1 hok.a hok.b hok.r i4).1, i3]
      have hd : doneX (wat o (evWd e)) 3 = .ok e.op := by
        unfold doneX
        rw [hr]
        dsimp only
        rw [if_neg (by simp)]
      unfold opR
      rw [hn2, hd, w1]
      dsimp only
      have g := f1 (by omega)
      obtain ⟨kd, nm, ob, op, st⟩ := e
      dsimp only at k3 g
      rw [k3, g]
    · rw [if_neg (by omega)]
      have hwd : (evWd e).length = 2 := by unfold evWd; rw [if_neg k1, if_neg k3]; rfl
      rw [wat_len, if_neg (by omega)]
      obtain ⟨g1, g2⟩ := f3 k3
      have g := f1 k1
      obtain ⟨kd, nm, ob, op, st⟩ := e
      dsimp only at hk k1 k3 g g1 g2 ⊢
      rw [g, g1, g2, Int.toNat_of_nonneg (by omega)]

/-- Lines of just these words. -/
inductive Told : List Ln → List Ev → Prop
  | nil : Told [] []
  | cons {l : Ln} {ls : List Ln} {e : Ev} {es : List Ev} (o : Nat) (h : l.2 = wat o (evWd e)) (t : Told ls es) : Told (l :: ls) (e :: es)
theorem wat_shift (n : Nat) : ∀ (ss : List ByteArray) (o : Nat), (wat o ss).map (shift n) = wat (o + n) ss
  | [], _ => rfl
  | s :: r, o => by
    rw [wat, wat, List.map_cons, wat_shift n r]
    rw [show o + s.size + 1 + n = o + n + s.size + 1 by omega]; rfl
theorem Told.shift {ls : List Ln} {es : List Ev} (h : Told ls es) (n : Nat) : Told (ls.map (shiftL n)) es := by
  induction h with
  | nil => exact .nil
  | cons o h t ih =>
    refine .cons (o + n) ?_ ih
    unfold shiftL
    dsimp only
    rw [h, wat_shift]
theorem Told.lines {ls : List Ln} {es : List Ev} (h : Told ls es) (hok : ∀ e ∈ es, EvOk e ∧ evE e = 0) : linesX ls = .ok es := by
  induction h with
  | nil => rfl
  | cons o h t ih =>
    obtain ⟨h1, h2⟩ := hok _ List.mem_cons_self
    rw [linesX, h, line_told h1 h2, ih fun e he => hok e (List.mem_cons_of_mem _ he)]

theorem prE_zero : ∀ {es : List Ev}, prE es = 0 ↔ ∀ e ∈ es, evE e = 0
  | [] => by simp [prE]
  | e :: r => by
    rw [prE]
    by_cases h : evE e = 0
    · rw [if_pos h, prE_zero]; simp [h]
    · rw [if_neg h]; simp [h]
theorem prL_cons (e : Ev) (r : List Ev) : prL (e :: r) = (nums (evS e) ++ [10]) ++ prL r := by unfold prL; simp
theorem prL_len : ∀ {es : List Ev}, (∀ e ∈ es, EvOk e ∧ evE e = 0) → (prL es).length ≤ es.length * 22001
  | [], _ => by simp [prL]
  | e :: r, h => by
    obtain ⟨h1, h2⟩ := h e List.mem_cons_self
    have := prL_len (es := r) fun x hx => h x (List.mem_cons_of_mem _ hx)
    have hs := ev_size h1 h2
    simp only [prL_cons, List.length_append, nums_len, List.length_cons, List.length_nil]
    omega
theorem line_feed {a : List Int} (hl : (a ++ [10]).length ≤ 67108864) (h : textF a = none) : textF (a ++ [10]) = none ∧ textL (a ++ [10]) = textL a := by
  have hl2 : a.length ≤ 67108864 := by rw [List.length_append] at hl; omega
  have hf : textF (a ++ [10]) = none := by
    rw [text_short hl, (two_cuts a []).2, find_app_none (by rw [text_short hl2] at h; exact h)]
    rw [List.findSome?_cons, lineF_over (by simp) rfl]; rfl
  refine ⟨hf, ?_⟩
  rw [(two_none hl hf).2]
  unfold textL
  rw [if_pos h]
theorem print_told : ∀ {es : List Ev}, es.length ≤ 2000 → (∀ e ∈ es, EvOk e ∧ evE e = 0) → textF (prL es) = none ∧ Told (textL (prL es)) es
  | [], _, _ => by
    have e1 : textF (prL []) = none := by decide
    have e2 : textL (prL []) = [] := by decide
    rw [e1, e2]
    exact ⟨rfl, .nil⟩
  | e :: r, hn, h => by
    obtain ⟨h1, h2⟩ := h e List.mem_cons_self
    have hr := fun x hx => h x (List.mem_cons_of_mem _ hx)
    rw [List.length_cons] at hn
    obtain ⟨i1, i2⟩ := print_told (es := r) (by omega) hr
    have hs := ev_size h1 h2
    have hj := evWd_jl h2
    have hjl : (jl (evWd e)).length ≤ 22000 := by rw [← hj, nums_len]; exact hs
    have hp := prL_len hr
    have h22 : r.length * 22001 ≤ 1999 * 22001 := Nat.mul_le_mul_right _ (by omega)
    obtain ⟨t1, t2⟩ := one_text (evWd e) (evWd_fine h2) (by omega)
    rw [← hj] at t1 t2
    have hla : (nums (evS e)).length ≤ 22000 := by rw [nums_len]; exact hs
    obtain ⟨u1, u2⟩ := line_feed (a := nums (evS e)) (by rw [List.length_append, List.length_singleton]; omega) t1
    have hlen : ((nums (evS e) ++ [10]) ++ prL r).length ≤ 67108864 := by rw [List.length_append, List.length_append, List.length_singleton]; omega
    obtain ⟨v1, v2⟩ := two_both (a := nums (evS e)) (b := prL r) hlen u1 i1
    rw [prL_cons, v1, v2, u2, t2]
    exact ⟨rfl, .cons 0 rfl (i2.shift _)⟩
theorem parse_print {es : List Ev} (hn : es.length ≤ 2000) (hok : ∀ e ∈ es, EvOk e) (h : prE es = 0) : parseX (prL es) = .ok es := by
  have hz := prE_zero.1 h
  have ho : ∀ e ∈ es, EvOk e ∧ evE e = 0 := fun e he => ⟨hok e he, hz e he⟩
  obtain ⟨t1, t2⟩ := print_told hn ho
  unfold parseX
  rw [t1]
  exact t2.lines ho
end Go.Proofs.YtpdbkjnaicjfdaaGreatDoor

namespace Go.Proofs.YtpdbkjnaicjfdaaGreatDoor
open Go.RowKit
set_option linter.unusedVariables false

theorem read_zero {s : List UInt8} (h : (readL s).2.1 = 0) : (readL s).2.2 = 0 := by
  by_cases h1 : typeL (partL s) = 0
  · rw [read_none h1] at h; cases h
  · by_cases h2 : (behindR s (partL s).length).2.1 = 0
    · cases h3 : (ofNums (typeL (partL s)) (behindR s (partL s).length).1).2
      · rw [read_no h1 h2 h3] at h; cases h
      · rw [read_yes h1 h2 h3]
    · rw [read_bad h1 h2] at h; exact absurd h h2
theorem nameX_ok {ws : List Wd} {n : Nat} {s : ByteArray} (h : nameX ws n = .ok s) : n < ws.length ∧ s = wdS ws n ∧ nm_checkE s = 0 := by
  have hs := nameX_is h
  unfold nameX wordX at h
  by_cases h1 : ws.length ≤ n
  · rw [if_pos h1] at h; unfold stopX at h; cases h
  · rw [if_neg h1] at h
    dsimp only at h
    by_cases h2 : nm_checkE (wdS ws n) = 0
    · exact ⟨by omega, hs, by rw [hs]; exact h2⟩
    · rw [if_neg h2] at h; unfold stopX at h; cases h
theorem firstX_ok {ws : List Wd} {n : Nat} {t : StT} (h : firstX ws n = .ok t) : n < ws.length ∧ rdS ws n = (t, 0, 0) ∧ t.2.2.length ≤ 1000 := by
  unfold firstX wordX at h
  by_cases h1 : ws.length ≤ n
  · rw [if_pos h1] at h; unfold stopX at h; cases h
  · rw [if_neg h1] at h
    dsimp only at h
    by_cases c1 : (rdS ws n).2.1 ≠ 0
    · rw [if_pos c1] at h; cases h
    · rw [if_neg c1] at h
      by_cases c2 : 1000 < (rdS ws n).1.2.2.length
      · rw [if_pos c2] at h; unfold stopX at h; cases h
      · rw [if_neg c2] at h
        injection h with h
        have e1 : (rdS ws n).2.1 = 0 := by simpa using c1
        have e2 : (rdS ws n).2.2 = 0 := read_zero e1
        refine ⟨by omega, ?_, by rw [← h]; omega⟩
        rw [← h, ← e2]
        conv => rhs; rw [e2, ← e1]
        generalize hg : rdS ws n = g at *
        obtain ⟨g1, g2, g3⟩ := g
        dsimp only at e1 e2
        rw [e1, e2]
/-- Words whose bytes are bytes. -/
def OctW (ws : List Wd) : Prop := ∀ x ∈ ws, Octets x.2
theorem oct_wd {ws : List Wd} (h : OctW ws) {n : Nat} (hn : n < ws.length) : nums (wdS ws n) = (ws[n]?.getD (0, [])).2 := nums_strOf _ (h _ (wd_mem hn))
theorem rst_step {ws : List Wd} (h : OctW ws) {n : Nat} (hn : n + 1 < ws.length) : restT ws n = nums (wdS ws n) ++ 32 :: restT ws (n + 1) := by
  rw [oct_wd h (by omega)]
  unfold restT
  have e1 : ws.drop n = ws[n] :: ws.drop (n + 1) := List.drop_eq_getElem_cons (by omega)
  have e2 : ws.drop (n + 1) = ws[n + 1] :: ws.drop (n + 1 + 1) := List.drop_eq_getElem_cons hn
  rw [e1, e2, List.map_cons, List.map_cons, List.getElem?_eq_getElem (by omega)]
  rfl
theorem rst_last {ws : List Wd} (h : OctW ws) {n : Nat} (hn : n + 1 = ws.length) : restT ws n = nums (wdS ws n) := by
  rw [oct_wd h (by omega)]
  unfold restT
  have e1 : ws.drop n = ws[n] :: ws.drop (n + 1) := List.drop_eq_getElem_cons (by omega)
  rw [e1, List.drop_eq_nil_of_le (by omega), List.getElem?_eq_getElem (by omega)]
  rfl
theorem rest_octets {ws : List Wd} (h : OctW ws) (n : Nat) : restT ws n = jl (wdsS (ws.drop n)) := by
  unfold restT jl wdsS
  rw [List.map_map]
  congr 1
  apply List.map_congr_left
  intro x hx
  exact (nums_strOf _ (h x (List.mem_of_mem_drop hx))).symm
theorem bls : nums blB = [32] := by decide

theorem lineX_ok {ws : List Wd} {e : Ev} (hf : Fine ws) (ho : OctW ws) (h : lineX ws = .ok e) : evE e = 0 ∧ EvOk e ∧ nums (evS e) = restT ws 0 := by
  rw [← lineR_is] at h
  unfold lineR at h
  by_cases h0 : kwI (wdS ws 0) = 0
  · rw [if_pos h0] at h; unfold stopX at h; cases h
  · rw [if_neg h0] at h
    obtain ⟨k5, kw⟩ := kwI_of (s := wdS ws 0) rfl (by omega)
    generalize hK : kwI (wdS ws 0) = K at *
    have z64 : I64 0 := ⟨by decide, by decide⟩
    have zsm : Small 0 := ⟨by decide, by decide⟩
    cases hn : nameX ws 1 with
    | error g => rw [hn] at h; cases h
    | ok s =>
      rw [hn] at h
      dsimp only at h
      obtain ⟨n1, n2, n3⟩ := nameX_ok hn
      have hsz : s.size ≤ 8000 := by rw [n2]; exact wdS_size hf
      by_cases h1 : K = 1
      · subst h1
        rw [if_pos rfl] at h
        unfold objR at h
        cases hfx : firstX ws 2 with
        | error g => rw [hfx] at h; cases h
        | ok t =>
          rw [hfx] at h
          injection h with h
          obtain ⟨f1, f2, f3⟩ := firstX_ok hfx
          obtain ⟨t1, t2, t3⟩ := t
          obtain ⟨g1, g2, g3, g4⟩ := told_read (show readL (strOfNums (restT ws 2)).data.toList = ((t1, t2, t3), 0, 0) from f2)
          rw [← n2] at h
          subst h
          dsimp only at f3
          refine ⟨?_, ⟨hsz, (show emB.size ≤ 8000 by decide), by show t3.length ≤ 8000; omega, g4, g3, z64, z64, z64⟩, ?_⟩
          · have hb : bareB ⟨1, s, emB, op0, (t1, t2, t3)⟩ = true := by
              unfold bareB bareA bareO
              dsimp only
              have e2 : (emB == emB && sameOpT op0 op0) = true := by decide
              rw [e2]; simp
            unfold evE firstE
            dsimp only
            rw [if_neg (by decide), hb, if_neg (by decide), n3, if_neg (by simp), if_pos rfl, g2, if_neg (by simp), if_neg (by omega)]
          · have e1 : nums (stS (t1, t2, t3)) = restT ws 2 := by
              have : stS (t1, t2, t3) = strOfNums (restT ws 2) := by
                apply ByteArray.ext
                apply Array.ext'
                exact g1
              rw [this, nums_strOf]
              rw [rest_octets ho 2]
              exact jl_octets _
            have r0 : restT ws 0 = nums (wdS ws 0) ++ 32 :: restT ws 1 := rst_step ho (by omega)
            have r1 : restT ws 1 = nums (wdS ws 1) ++ 32 :: restT ws 2 := rst_step ho (by omega)
            rw [r0, r1, kw, ← n2, evS_1, nums_app, nums_app, nums_app, nums_app, e1, bls]
            simp
      · rw [if_neg h1] at h
        by_cases h3 : K = 3
        · subst h3
          rw [if_pos rfl] at h
          unfold opR at h
          cases hm : nameX ws 2 with
          | error g => rw [hm] at h; cases h
          | ok o =>
            rw [hm] at h
            dsimp only at h
            obtain ⟨m1, m2, m3⟩ := nameX_ok hm
            have hoz : o.size ≤ 8000 := by rw [m2]; exact wdS_size hf
            cases hd : doneX ws 3 with
            | error g => rw [hd] at h; cases h
            | ok p =>
              rw [hd] at h
              injection h with h
              unfold doneX at hd
              by_cases c1 : (rdO ws 3).2.2 ≠ 0
              · rw [if_pos c1] at hd; unfold stopX at hd; cases hd
              · rw [if_neg c1] at hd
                injection hd with hd
                obtain ⟨i, a, b, k, n, i1, ia, ib, inn, ic, iw, ir⟩ := read_only (wdsS (ws.drop 3)) (by
                  show (rdO ws 3).2.2 = 0
                  simpa using c1)
                have hp : p = ((i : Int) + 1, a, b, k, n) := by
                  rw [← hd]
                  show (readP (wdsS (ws.drop 3))).1 = _
                  rw [ir]
                have h3l : 3 < ws.length := by
                  have := congrArg List.length iw
                  rw [wdsS_len, List.length_drop, opW, List.length_cons] at this
                  omega
                rw [← n2] at h
                subst h
                subst hp
                have hki := kindI_in i i1
                refine ⟨?_, ⟨hsz, hoz, Nat.zero_le _, (fun x hx => by cases hx), zsm, ia, ib, inn⟩, ?_⟩
                · unfold evE doneE opE checkP
                  dsimp only
                  rw [if_neg (by decide), show bareB ⟨3, s, o, ((i : Int) + 1, a, b, k, n), stz⟩ = true from rfl, if_neg (by decide), n3, if_neg (by simp), if_neg (by decide), if_pos rfl, m3, if_neg (by simp), hki]
                  exact ic
                · have e1 : nums (opS ((i : Int) + 1, a, b, k, n)) = restT ws 3 := by
                    unfold opS textS
                    dsimp only
                    rw [hki]
                    dsimp only
                    rw [if_pos ic, nums_strOf _ (jl_octets _), rest_octets ho 3, iw]
                  have r0 : restT ws 0 = nums (wdS ws 0) ++ 32 :: restT ws 1 := rst_step ho (by omega)
                  have r1 : restT ws 1 = nums (wdS ws 1) ++ 32 :: restT ws 2 := rst_step ho (by omega)
                  have r2 : restT ws 2 = nums (wdS ws 2) ++ 32 :: restT ws 3 := rst_step ho (by omega)
                  rw [r0, r1, r2, kw, ← n2, ← m2, evS_3, nums_app, nums_app, nums_app, nums_app, nums_app, nums_app, e1, bls]
                  simp
        · rw [if_neg h3] at h
          by_cases h2 : 2 < ws.length
          · rw [if_pos h2] at h; unfold stopX at h; cases h
          · rw [if_neg h2] at h
            injection h with h
            subst h
            refine ⟨?_, ⟨hsz, (show emB.size ≤ 8000 by decide), Nat.zero_le _, (fun x hx => by cases hx), zsm, z64, z64, z64⟩, ?_⟩
            · unfold evE
              dsimp only
              have hb : bareB ⟨(K : Int), s, emB, op0, stz⟩ = true := by
                unfold bareB bareA bareO
                dsimp only
                have e1 : stzB stz = true := by decide
                have e2 : (emB == emB && sameOpT op0 op0) = true := by decide
                rw [e1, e2]; simp
              rw [if_neg (by omega), hb, if_neg (by decide), n3, if_neg (by simp), if_neg (by omega), if_neg (by omega)]
            · have r0 : restT ws 0 = nums (wdS ws 0) ++ 32 :: restT ws 1 := rst_step ho (by omega)
              have r1 : restT ws 1 = nums (wdS ws 1) := rst_last ho (by omega)
              rw [r0, r1, kw, ← n2, evS_0 _ _ _ _ _ (by omega) (by omega), nums_app, nums_app, bls, Int.toNat_natCast]
              simp
end Go.Proofs.YtpdbkjnaicjfdaaGreatDoor

namespace Go.Proofs.YtpdbkjnaicjfdaaGreatDoor
open Go.RowKit
set_option linter.unusedVariables false

theorem cuts_all (l : List Int) (o : Nat) : restT (cuts 32 o l) 0 = l := by
  obtain ⟨p, t, hp⟩ := cuts_head 32 l o
  obtain ⟨a, e1, e2⟩ := cuts_rest l o 0 (by rw [hp]; simp)
  have ha : a = [] := List.eq_nil_of_length_eq_zero (by rw [hp] at e2; simp only [List.getElem?_cons_zero, Option.getD_some] at e2; omega)
  rw [ha, List.nil_append] at e1
  exact e1.symm
theorem cuts_octets {l : List Int} (h : Octets l) (o : Nat) (sep : Int) : OctW (cuts sep o l) := by
  intro x hx y hy
  obtain ⟨a, b, e, _⟩ := cuts_in sep l o x hx
  exact h y (by rw [e]; simp [hy])
def pcs (cs : List (Nat × List Int)) : Nat := (cs.map fun x => x.2.length + 1).sum
theorem pcs_cons (x : Nat × List Int) (r : List (Nat × List Int)) : pcs (x :: r) = x.2.length + 1 + pcs r := by simp [pcs]
theorem cuts_pcs : ∀ (l : List Int) (o : Nat), pcs (cuts 10 o l) = l.length + 1
  | [], o => rfl
  | x :: r, o => by
    have ih := cuts_pcs r (o + 1)
    by_cases hx : x = 10
    · rw [cuts, if_pos hx, pcs_cons, ih, List.length_cons, List.length_nil]; omega
    · obtain ⟨p, t, hp⟩ := cuts_head 10 r (o + 1)
      rw [hp, pcs_cons] at ih
      rw [cuts_cons_ne hx o r p t hp, pcs_cons, List.length_cons, List.length_cons]
      dsimp only at ih ⊢
      omega
theorem lineL_is {x : Nat × List Int} {l : Ln} (h : lineL x = some l) : l = (x.1, cuts 32 x.1 x.2) := by
  by_cases ho : over x.2 = true
  · rw [lineL_over ho] at h; cases h
  · rw [lineL_words (by simpa using ho)] at h
    injection h with h
    exact h.symm
theorem lines_len : ∀ (cs : List (Nat × List Int)) (es : List Ev), (∀ x ∈ cs, Octets x.2 ∧ ∀ l, lineL x = some l → Fine l.2) → linesX (cs.filterMap lineL) = .ok es → (prL es).length ≤ pcs cs ∧ ∀ e ∈ es, EvOk e ∧ evE e = 0
  | [], es, _, h => by cases h; exact ⟨Nat.zero_le _, fun e he => by cases he⟩
  | x :: r, es, hx, h => by
    have hr := fun y hy => hx y (List.mem_cons_of_mem _ hy)
    obtain ⟨ox, fx⟩ := hx x List.mem_cons_self
    rw [List.filterMap_cons] at h
    rw [pcs_cons]
    cases hl : lineL x with
    | none =>
      rw [hl] at h
      obtain ⟨i1, i2⟩ := lines_len r es hr h
      exact ⟨by omega, i2⟩
    | some l =>
      rw [hl] at h
      have hf := fx l hl
      have hli := lineL_is hl
      rw [linesX] at h
      cases hle : lineX l.2 with
      | error f => rw [hle] at h; cases h
      | ok e =>
        rw [hle] at h
        dsimp only at h
        cases hre : linesX (r.filterMap lineL) with
        | error f => rw [hre] at h; cases h
        | ok es' =>
          rw [hre] at h
          injection h with h
          subst h
          obtain ⟨i1, i2⟩ := lines_len r es' hr hre
          have how : OctW l.2 := by rw [hli]; exact cuts_octets ox _ _
          obtain ⟨j1, j2, j3⟩ := lineX_ok hf how hle
          have j4 : (evS e).size = x.2.length := by
            rw [← nums_len, j3, hli]
            dsimp only
            rw [cuts_all]
          refine ⟨?_, fun e' he => ?_⟩
          · simp only [prL_cons, List.length_append, nums_len, List.length_cons, List.length_nil]
            omega
          · rcases List.mem_cons.1 he with rfl | he
            · exact ⟨j2, j1⟩
            · exact i2 e' he
theorem parse_all {bs : List Int} {es : List Ev} (ho : Octets bs) (hb : bs.length ≤ 7000) (h : parseX bs = .ok es) : (prL es).length ≤ bs.length + 1 ∧ ∀ e ∈ es, EvOk e ∧ evE e = 0 := by
  unfold parseX at h
  cases hf : textF bs with
  | some f => rw [hf] at h; cases h
  | none =>
    rw [hf] at h
    dsimp only at h
    have hx := text_fine' hb
    unfold textL at h hx
    rw [if_pos hf] at h hx
    rw [← cuts_pcs bs 0]
    refine lines_len _ es (fun x hxm => ⟨fun y hy => ?_, fun l hl => ?_⟩) h
    · obtain ⟨a, b, e, _⟩ := cuts_in 10 bs 0 x hxm
      exact ho y (by rw [e]; simp [hy])
    · exact (hx l (List.mem_filterMap.2 ⟨x, hxm, hl⟩)).1

/-! ### Where a fault is -/

theorem textF_place {bs : List Int} {f : Nat × Nat} (hb : bs.length ≤ 67108864) (h : textF bs = some f) : f.2 ≤ bs.length := by
  rw [text_short hb] at h
  obtain ⟨x, hx, hf⟩ := find_one h
  have hle := cuts_le hx
  by_cases hl : 65536 < x.2.length
  · rw [lineF_long hl] at hf
    injection hf with hf
    rw [← hf]
    show x.1 ≤ _
    omega
  · by_cases ho : over x.2 = true
    · rw [lineF_over hl ho] at hf; cases hf
    · rw [lineF_words hl (by simpa using ho)] at hf
      obtain ⟨y, hy, hg⟩ := find_one hf
      have hly := cuts_le hy
      unfold wordF at hg
      cases hw : fw y.2 with
      | none => rw [hw] at hg; cases hg
      | some k =>
        rw [hw] at hg
        injection hg with hg
        have := fw_lt hw
        rw [← hg]
        show y.1 + k ≤ _
        omega
theorem place_end_le {bs : List Int} {ws : List Wd} (hl : Lined bs ws) (n : Nat) : placeP ws n ≤ endP ws := by
  by_cases hn : n < ws.length
  · rw [place_at hn]; exact Nat.le_of_lt (hl.rest n hn).1
  · unfold placeP; rw [if_neg hn]; exact Nat.le_refl _
theorem stop_place {α : Type} {bs : List Int} {ws : List Wd} (hl : Lined bs ws) {c : Int} {n : Nat} {f : Int × Int} (h : (stopX ws c n : Rx α) = .error f) : 0 ≤ f.2 ∧ f.2 ≤ bs.length := by
  unfold stopX at h
  injection h with h
  have h1 := place_end_le hl n
  have h2 := hl.fin
  rw [← h]
  dsimp only
  omega
theorem name_place {bs : List Int} {ws : List Wd} (hl : Lined bs ws) {n : Nat} {f : Int × Int} (h : nameX ws n = .error f) : 0 ≤ f.2 ∧ f.2 ≤ bs.length := by
  unfold nameX wordX at h
  by_cases h1 : ws.length ≤ n
  · rw [if_pos h1] at h
    have : (stopX ws 5 n : Rx ByteArray) = .error f := by
      unfold stopX at h ⊢
      dsimp only at h
      injection h with h
      rw [h]
    exact stop_place hl this
  · rw [if_neg h1] at h
    dsimp only at h
    by_cases h2 : nm_checkE (wdS ws n) = 0
    · rw [if_pos h2] at h; cases h
    · rw [if_neg h2] at h; exact stop_place hl h
theorem first_place {bs : List Int} {ws : List Wd} (hl : Lined bs ws) {n : Nat} {f : Int × Int} (h : firstX ws n = .error f) : 0 ≤ f.2 ∧ f.2 ≤ bs.length := by
  unfold firstX wordX at h
  by_cases h1 : ws.length ≤ n
  · rw [if_pos h1] at h
    have : (stopX ws 5 n : Rx StT) = .error f := by
      unfold stopX at h ⊢
      dsimp only at h
      injection h with h
      rw [h]
    exact stop_place hl this
  · rw [if_neg h1] at h
    dsimp only at h
    by_cases c1 : (rdS ws n).2.1 ≠ 0
    · rw [if_pos c1] at h
      injection h with h
      have a := read_at (s := (strOfNums (restT ws n)).data.toList) c1
      have h2 : (strOfNums (restT ws n)).data.toList.length = (restT ws n).length := by rw [← strOfNums_size (restT ws n)]; rfl
      rw [h2] at a
      obtain ⟨r1, r2, r3⟩ := hl.rest n (by omega)
      have r4 := congrArg List.length r2
      rw [List.length_take, List.length_drop] at r4
      have r5 := hl.fin
      rw [place_at (by omega)] at h
      rw [← h]
      dsimp only
      have b1 : 0 ≤ (rdS ws n).2.2 := a.1
      have b2 : (rdS ws n).2.2 ≤ ((restT ws n).length : Int) := a.2
      omega
    · rw [if_neg c1] at h
      by_cases c2 : 1000 < (rdS ws n).1.2.2.length
      · rw [if_pos c2] at h; exact stop_place hl h
      · rw [if_neg c2] at h; cases h
theorem lineX_place {bs : List Int} {ws : List Wd} {f : Int × Int} (hl : Lined bs ws) (h : lineX ws = .error f) : 0 ≤ f.2 ∧ f.2 ≤ bs.length := by
  rw [← lineR_is] at h
  unfold lineR at h
  by_cases h0 : kwI (wdS ws 0) = 0
  · rw [if_pos h0] at h; exact stop_place hl h
  · rw [if_neg h0] at h
    cases hn : nameX ws 1 with
    | error g => rw [hn] at h; cases h; exact name_place hl hn
    | ok s =>
      rw [hn] at h
      dsimp only at h
      by_cases h1 : kwI (wdS ws 0) = 1
      · rw [if_pos h1] at h
        unfold objR at h
        cases hf : firstX ws 2 with
        | error g => rw [hf] at h; cases h; exact first_place hl hf
        | ok t => rw [hf] at h; cases h
      · rw [if_neg h1] at h
        by_cases h3 : kwI (wdS ws 0) = 3
        · rw [if_pos h3] at h
          unfold opR at h
          cases hm : nameX ws 2 with
          | error g => rw [hm] at h; cases h; exact name_place hl hm
          | ok o =>
            rw [hm] at h
            dsimp only at h
            cases hd : doneX ws 3 with
            | error g =>
              rw [hd] at h
              cases h
              unfold doneX at hd
              by_cases c1 : (rdO ws 3).2.2 ≠ 0
              · rw [if_pos c1] at hd; exact stop_place hl hd
              · rw [if_neg c1] at hd; cases hd
            | ok p => rw [hd] at h; cases h
        · rw [if_neg h3] at h
          by_cases h2 : 2 < ws.length
          · rw [if_pos h2] at h; exact stop_place hl h
          · rw [if_neg h2] at h; cases h
theorem lines_err : ∀ {ls : List Ln} {f : Int × Int}, linesX ls = .error f → ∃ l ∈ ls, lineX l.2 = .error f
  | [], f, h => by cases h
  | l :: r, f, h => by
    rw [linesX] at h
    cases hl : lineX l.2 with
    | error g => rw [hl] at h; cases h; exact ⟨l, List.mem_cons_self, hl⟩
    | ok e =>
      rw [hl] at h
      dsimp only at h
      cases hr : linesX r with
      | error g =>
        rw [hr] at h
        cases h
        obtain ⟨x, hx, he⟩ := lines_err hr
        exact ⟨x, List.mem_cons_of_mem _ hx, he⟩
      | ok es => rw [hr] at h; cases h
theorem parse_err {bs : List Int} {f : Int × Int} (hb : bs.length ≤ 7000) (h : parseX bs = .error f) : f.1 ≠ 0 ∧ 0 ≤ f.2 ∧ f.2 ≤ bs.length := by
  unfold parseX at h
  cases hf : textF bs with
  | some g =>
    rw [hf] at h
    injection h with h
    have h1 := text_err hf
    have h2 := textF_place (by omega) hf
    rw [← h]
    dsimp only
    omega
  | none =>
    rw [hf] at h
    dsimp only at h
    obtain ⟨l, hl, he⟩ := lines_err h
    exact ⟨lineX_err he, lineX_place (text_fine' hb l hl).2 he⟩
end Go.Proofs.YtpdbkjnaicjfdaaGreatDoor

namespace Go.Proofs.YtpdbkjnaicjfdaaGreatDoor
open Go.RowKit
set_option linter.unusedVariables false

theorem sh_len (ws : List Wd) (n : Nat) : (ws.map (shift n)).length = ws.length := List.length_map _
theorem sh_get (ws : List Wd) (n i : Nat) (hi : i < ws.length) : (ws.map (shift n))[i]?.getD (0, []) = shift n (ws[i]?.getD (0, [])) := by
  rw [List.getElem?_map, List.getElem?_eq_getElem hi]; rfl
theorem sh_wdS (ws : List Wd) (n i : Nat) : wdS (ws.map (shift n)) i = wdS ws i := by
  unfold wdS
  by_cases hi : i < ws.length
  · rw [sh_get ws n i hi]; rfl
  · rw [List.getElem?_eq_none (by rw [sh_len]; omega), List.getElem?_eq_none (by omega)]
theorem sh_wdP (ws : List Wd) (n i : Nat) (hi : i < ws.length) : wdP (ws.map (shift n)) i = wdP ws i + n := by
  unfold wdP
  rw [sh_get ws n i hi]; rfl
theorem sh_place (ws : List Wd) (n i : Nat) (hp : 0 < ws.length) : placeP (ws.map (shift n)) i = placeP ws i + n := by
  unfold placeP
  rw [sh_len]
  by_cases hi : i < ws.length
  · rw [if_pos hi, if_pos hi, sh_wdP ws n i hi]
  · rw [if_neg hi, if_neg hi]
    unfold endP
    rw [sh_len, sh_wdP ws n _ (by omega), sh_get ws n _ (by omega)]
    show wdP ws (ws.length - 1) + n + (ws[ws.length - 1]?.getD (0, [])).2.length = _
    omega
theorem sh_snd (ws : List Wd) (n k : Nat) : ((ws.map (shift n)).drop k).map Prod.snd = (ws.drop k).map Prod.snd := by
  rw [← List.map_drop, List.map_map]
  apply List.map_congr_left
  intro x _; rfl
theorem sh_rdS (ws : List Wd) (n k : Nat) : rdS (ws.map (shift n)) k = rdS ws k := by unfold rdS restT; rw [sh_snd]
theorem sh_rdO (ws : List Wd) (n k : Nat) : rdO (ws.map (shift n)) k = rdO ws k := by
  show readP (((ws.map (shift n)).drop k).map fun x => strOfNums x.2) = readP ((ws.drop k).map fun x => strOfNums x.2)
  rw [← List.map_drop, List.map_map]
  rfl
/-- The fault stands so much further on. -/
def shX {α : Type} (n : Nat) : Rx α → Rx α
  | .error f => .error (f.1, f.2 + n)
  | .ok x => .ok x
theorem sh_stop {α : Type} (ws : List Wd) (n : Nat) (c : Int) (i : Nat) (hp : 0 < ws.length) : (stopX (ws.map (shift n)) c i : Rx α) = shX n (stopX ws c i) := by
  unfold stopX shX
  rw [sh_place ws n i hp]
  simp
theorem sh_name (ws : List Wd) (n i : Nat) (hp : 0 < ws.length) : nameX (ws.map (shift n)) i = shX n (nameX ws i) := by
  unfold nameX wordX
  rw [sh_len, sh_wdS]
  by_cases h1 : ws.length ≤ i
  · rw [if_pos h1, if_pos h1, sh_stop ws n 5 i hp]
    unfold stopX shX
    rfl
  · rw [if_neg h1, if_neg h1]
    dsimp only
    by_cases h2 : nm_checkE (wdS ws i) = 0
    · rw [if_pos h2, if_pos h2]; rfl
    · rw [if_neg h2, if_neg h2, sh_stop ws n _ i hp]
theorem sh_first (ws : List Wd) (n i : Nat) (hp : 0 < ws.length) : firstX (ws.map (shift n)) i = shX n (firstX ws i) := by
  unfold firstX wordX
  rw [sh_len, sh_rdS]
  by_cases h1 : ws.length ≤ i
  · rw [if_pos h1, if_pos h1, sh_stop ws n 5 i hp]
    unfold stopX shX
    rfl
  · rw [if_neg h1, if_neg h1]
    dsimp only
    by_cases c1 : (rdS ws i).2.1 ≠ 0
    · rw [if_pos c1, if_pos c1, sh_place ws n i hp]
      unfold shX
      dsimp only
      congr 2
      omega
    · rw [if_neg c1, if_neg c1]
      by_cases c2 : 1000 < (rdS ws i).1.2.2.length
      · rw [if_pos c2, if_pos c2, sh_stop ws n 4 i hp]
      · rw [if_neg c2, if_neg c2]; rfl
theorem sh_done (ws : List Wd) (n i : Nat) (hp : 0 < ws.length) : doneX (ws.map (shift n)) i = shX n (doneX ws i) := by
  unfold doneX
  rw [sh_rdO]
  by_cases c1 : (rdO ws i).2.2 ≠ 0
  · rw [if_pos c1, if_pos c1, sh_stop ws n _ _ hp]
  · rw [if_neg c1, if_neg c1]; rfl
theorem sh_line (ws : List Wd) (n : Nat) (hp : 0 < ws.length) : lineX (ws.map (shift n)) = shX n (lineX ws) := by
  rw [← lineR_is, ← lineR_is]
  unfold lineR objR opR
  simp only [sh_wdS, sh_len]
  rw [sh_name ws n 1 hp, sh_name ws n 2 hp, sh_first ws n 2 hp, sh_done ws n 3 hp, sh_stop ws n 6 0 hp, sh_stop ws n 5 2 hp]
  by_cases h0 : kwI (wdS ws 0) = 0
  · rw [if_pos h0, if_pos h0]
  · rw [if_neg h0, if_neg h0]
    cases nameX ws 1 with
    | error f => rfl
    | ok s =>
      show (if kwI (wdS ws 0) = 1 then _ else _) = shX n (if kwI (wdS ws 0) = 1 then _ else _)
      by_cases h1 : kwI (wdS ws 0) = 1
      · rw [if_pos h1, if_pos h1]
        cases firstX ws 2 <;> rfl
      · rw [if_neg h1, if_neg h1]
        by_cases h3 : kwI (wdS ws 0) = 3
        · rw [if_pos h3, if_pos h3]
          cases nameX ws 2 with
          | error f => rfl
          | ok o =>
            show (match shX n (doneX ws 3) with | .error f => _ | .ok p => _) = _
            cases doneX ws 3 <;> rfl
        · rw [if_neg h3, if_neg h3]
          by_cases h2 : 2 < ws.length
          · rw [if_pos h2, if_pos h2]
          · rw [if_neg h2, if_neg h2]; rfl
theorem sh_lines (n : Nat) : ∀ (ls : List Ln), (∀ l ∈ ls, 0 < l.2.length) → linesX (ls.map (shiftL n)) = shX n (linesX ls)
  | [], _ => rfl
  | l :: r, h => by
    have h1 := h l List.mem_cons_self
    have ih := sh_lines n r fun x hx => h x (List.mem_cons_of_mem _ hx)
    rw [List.map_cons, linesX, linesX, ih]
    show (match lineX (l.2.map (shift n)) with | .error f => _ | .ok e => _) = _
    rw [sh_line l.2 n h1]
    cases lineX l.2 with
    | error f => rfl
    | ok e =>
      show (match shX n (linesX r) with | .error f => _ | .ok es => _) = _
      cases linesX r <;> rfl
theorem text_pos {bs : List Int} : ∀ l ∈ textL bs, 0 < l.2.length := by
  intro l hl
  unfold textL at hl
  by_cases h : textF bs = none
  · rw [if_pos h] at hl
    obtain ⟨y, hy, he⟩ := List.mem_filterMap.1 hl
    rw [lineL_is he]
    exact cuts_pos _ _ _
  · rw [if_neg h] at hl; cases hl
/-- The events of both texts. -/
theorem parse_two {a b : List Int} (hl : ((a ++ [10]) ++ b).length ≤ 67108864) :
    (∀ es fs, parseX (a ++ [10]) = .ok es → parseX b = .ok fs → parseX ((a ++ [10]) ++ b) = .ok (es ++ fs)) ∧
    (∀ f, parseX (a ++ [10]) = .error f → ∃ h, parseX ((a ++ [10]) ++ b) = .error h ∧ (h.1 = f.1 ∨ ∃ g, parseX b = .error g ∧ h.1 = g.1)) ∧
    (∀ es g, parseX (a ++ [10]) = .ok es → parseX b = .error g → ∃ h, parseX ((a ++ [10]) ++ b) = .error h) := by
  have hpx : ∀ l, parseX l = match textF l with | some f => .error ((f.1 : Int), (f.2 : Int)) | none => linesX (textL l) := fun _ => rfl
  cases hfa : textF (a ++ [10]) with
  | some f =>
    have hab := two_first hl hfa
    have e1 : parseX (a ++ [10]) = .error ((f.1 : Int), (f.2 : Int)) := by rw [hpx, hfa]
    have e2 : parseX ((a ++ [10]) ++ b) = .error ((f.1 : Int), (f.2 : Int)) := by rw [hpx, hab]
    refine ⟨fun es fs h => ?_, fun f' h => ?_, fun es g h => ?_⟩
    · rw [e1] at h; cases h
    · rw [e1] at h; cases h; exact ⟨_, e2, .inl rfl⟩
    · rw [e1] at h; cases h
  | none =>
    have e1 : parseX (a ++ [10]) = linesX (textL (a ++ [10])) := by rw [hpx, hfa]
    cases hfb : textF b with
    | some g =>
      have hab := two_second hl hfa hfb
      have e2 : parseX b = .error ((g.1 : Int), (g.2 : Int)) := by rw [hpx, hfb]
      have e3 : parseX ((a ++ [10]) ++ b) = .error ((g.1 : Int), ((g.2 + (a.length + 1) : Nat) : Int)) := by rw [hpx, hab]
      refine ⟨fun es fs h h' => ?_, fun f' h => ⟨_, e3, .inr ⟨_, e2, rfl⟩⟩, fun es g' h h' => ⟨_, e3⟩⟩
      rw [e2] at h'; cases h'
    | none =>
      obtain ⟨t1, t2⟩ := two_both hl hfa hfb
      have e2 : parseX b = linesX (textL b) := by rw [hpx, hfb]
      have e3 : parseX ((a ++ [10]) ++ b) = linesX (textL (a ++ [10]) ++ (textL b).map (shiftL (a.length + 1))) := by rw [hpx, t1, t2]
      have e4 := sh_lines (a.length + 1) (textL b) text_pos
      refine ⟨fun es fs h h' => ?_, fun f' h => ?_, fun es g' h h' => ?_⟩
      · rw [e1] at h
        rw [e2] at h'
        rw [e3, lines_app _ _ es h, e4, h']; rfl
      · rw [e1] at h
        exact ⟨f', by rw [e3]; exact lines_error _ _ _ h, .inl rfl⟩
      · rw [e1] at h
        rw [e2] at h'
        refine ⟨(g'.1, g'.2 + ((a.length + 1 : Nat) : Int)), ?_⟩
        rw [e3, lines_app _ _ es h, e4, h']; rfl
end Go.Proofs.YtpdbkjnaicjfdaaGreatDoor

namespace Go.Proofs.YtpdbkjnaicjfdaaGreatDoor
open Go.RowKit Go.Maps
set_option linter.unusedVariables false
set_option maxRecDepth 100000

set_option maxHeartbeats 1000000 in
theorem pick_ex (x n : Int) (h1 : -9223372036854775808 ≤ x) (h2 : x ≤ 9223372036854775807) (hn : 0 < n) (hn2 : n ≤ 100000) : ∃ d : Nat, (d : Int) < n ∧ ∀ w, Calls Tryz.prog 34 #[.int .i64 x, .int .i64 n] w fun e w' => e = .returned (.int .i64 (d : Int)) ∧ w' = w := by
  have g1 := Int.tmod_lt_of_pos x hn
  have g2 : -n < x.tmod n := by
    have := Int.neg_tmod x n
    have h3 := Int.tmod_lt_of_pos (-x) hn
    omega
  have k0 : (n == 0) = false := by simp; omega
  have kz : ¬ n = 0 := by omega
  have k1 : decide (n ≤ 0) = false := decide_eq_false (by omega)
  have hw : wrap64 (x.tmod n) = x.tmod n := by unfold wrap64; omega
  by_cases hneg : x.tmod n < 0
  · obtain ⟨d, hd⟩ := Int.eq_ofNat_of_zero_le (show 0 ≤ x.tmod n + n by omega)
    have HP := Lib.hid hd
    have kn : decide (x.tmod n < 0) = true := decide_eq_true hneg
    have HW : Hid (wrap64 (x.tmod n + n) = x.tmod n + n) := Lib.hid (by unfold wrap64; omega)
    refine ⟨d, by omega, fun w => ?_⟩
    clear g1 g2 h1 h2 hn hn2 hneg hd
    go_enter Tryz.func34, Tryz.ntmps34
    go_wp2
    go_ret
    exact ⟨ret_int (by rw [HW.out, HP.out]), rfl⟩
  · obtain ⟨d, hd⟩ := Int.eq_ofNat_of_zero_le (show 0 ≤ x.tmod n by omega)
    have HP := Lib.hid hd
    have kn : decide (x.tmod n < 0) = false := decide_eq_false hneg
    refine ⟨d, by omega, fun w => ?_⟩
    clear g1 g2 h1 h2 hn hn2 hneg hd
    go_enter Tryz.func34, Tryz.ntmps34
    go_wp2
    go_ret
    exact ⟨ret_int HP.out, rfl⟩
theorem conv_five (W : World) (a b c d e : Int) : (convert 78 9 (.slice (some ⟨W.heap.size, 0, none⟩) 5 5)).run Tryz.prog (W.alloc (.cells #[.int .u8 a, .int .u8 b, .int .u8 c, .int .u8 d, .int .u8 e] 5)) = .ok (.string (strOfNums [a, b, c, d, e])) (W.alloc (.cells #[.int .u8 a, .int .u8 b, .int .u8 c, .int .u8 d, .int .u8 e] 5)) := by
  have h := conv_any (W := W.alloc (.cells #[.int .u8 a, .int .u8 b, .int .u8 c, .int .u8 d, .int .u8 e] 5)) (c := 5) (l := [a, b, c, d, e]) (bytes_new W [a, b, c, d, e] 5 #[.int .u8 a, .int .u8 b, .int .u8 c, .int .u8 d, .int .u8 e] (0, 0) rfl).b
  exact h
theorem size_five (a b c d e : Int) : (strOfNums [a, b, c, d, e]).size = 5 := by rw [strOfNums_size]; rfl

end Go.Proofs.YtpdbkjnaicjfdaaGreatDoor
