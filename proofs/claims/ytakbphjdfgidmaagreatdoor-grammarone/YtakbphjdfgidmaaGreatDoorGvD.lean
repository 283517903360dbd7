/- Pure: what is parsed may be, and is printed in the very lines. -/
import Derived.Test.YtakbphjdfgidmaaGreatDoorGvB
namespace Go.Proofs.YtakbphjdfgidmaaGreatDoor
open Go.RowKit
set_option linter.unusedVariables false

theorem read_zero {s : List UInt8} (h : (readL s).2.1 = 0) : (readL s).2.2 = 0 := by
  by_cases h1 : typeL (partL s) = 0
  · rw [read_none h1] at h; cases h
  · by_cases h2 : (behindR s (partL s).length).2.1 = 0
    · cases h3 : (ofNums (typeL (partL s)) (behindR s (partL s).length).1).2
      · rw [read_no h1 h2 h3] at h; cases h
      · rw [read_yes h1 h2 h3]
    · rw [read_bad h1 h2] at h; exact absurd h h2
theorem nameX_ok {ws : List Wd} {n : Nat} {s : ByteArray} (h : nameX ws n = .ok s) : n < ws.length ∧ s = wdS ws n ∧ nm_checkE s = 0 := by
  have hs := nameX_is h
  unfold nameX wordX at h
  by_cases h1 : ws.length ≤ n
  · rw [if_pos h1] at h; unfold stopX at h; cases h
  · rw [if_neg h1] at h
    dsimp only at h
    by_cases h2 : nm_checkE (wdS ws n) = 0
    · exact ⟨by omega, hs, by rw [hs]; exact h2⟩
    · rw [if_neg h2] at h; unfold stopX at h; cases h
theorem firstX_ok {ws : List Wd} {n : Nat} {t : StT} (h : firstX ws n = .ok t) : n < ws.length ∧ rdS ws n = (t, 0, 0) ∧ t.2.2.length ≤ 1000 := by
  unfold firstX wordX at h
  by_cases h1 : ws.length ≤ n
  · rw [if_pos h1] at h; unfold stopX at h; cases h
  · rw [if_neg h1] at h
    dsimp only at h
    by_cases c1 : (rdS ws n).2.1 ≠ 0
    · rw [if_pos c1] at h; cases h
    · rw [if_neg c1] at h
      by_cases c2 : 1000 < (rdS ws n).1.2.2.length
      · rw [if_pos c2] at h; unfold stopX at h; cases h
      · rw [if_neg c2] at h
        injection h with h
        have e1 : (rdS ws n).2.1 = 0 := by simpa using c1
        have e2 : (rdS ws n).2.2 = 0 := read_zero e1
        refine ⟨by omega, ?_, by rw [← h]; omega⟩
        rw [← h, ← e2]
        conv => rhs; rw [e2, ← e1]
        generalize hg : rdS ws n = g at *
        obtain ⟨g1, g2, g3⟩ := g
        dsimp only at e1 e2
        rw [e1, e2]
/-- Words whose bytes are bytes. -/
def OctW (ws : List Wd) : Prop := ∀ x ∈ ws, Octets x.2
theorem oct_wd {ws : List Wd} (h : OctW ws) {n : Nat} (hn : n < ws.length) : nums (wdS ws n) = (ws[n]?.getD (0, [])).2 := nums_strOf _ (h _ (wd_mem hn))
theorem rst_step {ws : List Wd} (h : OctW ws) {n : Nat} (hn : n + 1 < ws.length) : restT ws n = nums (wdS ws n) ++ 32 :: restT ws (n + 1) := by
  rw [oct_wd h (by omega)]
  unfold restT
  have e1 : ws.drop n = ws[n] :: ws.drop (n + 1) := List.drop_eq_getElem_cons (by omega)
  have e2 : ws.drop (n + 1) = ws[n + 1] :: ws.drop (n + 1 + 1) := List.drop_eq_getElem_cons hn
  rw [e1, e2, List.map_cons, List.map_cons, List.getElem?_eq_getElem (by omega)]
  rfl
theorem rst_last {ws : List Wd} (h : OctW ws) {n : Nat} (hn : n + 1 = ws.length) : restT ws n = nums (wdS ws n) := by
  rw [oct_wd h (by omega)]
  unfold restT
  have e1 : ws.drop n = ws[n] :: ws.drop (n + 1) := List.drop_eq_getElem_cons (by omega)
  rw [e1, List.drop_eq_nil_of_le (by omega), List.getElem?_eq_getElem (by omega)]
  rfl
theorem rest_octets {ws : List Wd} (h : OctW ws) (n : Nat) : restT ws n = jl (wdsS (ws.drop n)) := by
  unfold restT jl wdsS
  rw [List.map_map]
  congr 1
  apply List.map_congr_left
  intro x hx
  exact (nums_strOf _ (h x (List.mem_of_mem_drop hx))).symm
theorem bls : nums blB = [32] := by decide

theorem lineX_ok {ws : List Wd} {e : Ev} (hf : Fine ws) (ho : OctW ws) (h : lineX ws = .ok e) : evE e = 0 ∧ EvOk e ∧ nums (evS e) = restT ws 0 := by
  rw [← lineR_is] at h
  unfold lineR at h
  by_cases h0 : kwI (wdS ws 0) = 0
  · rw [if_pos h0] at h; unfold stopX at h; cases h
  · rw [if_neg h0] at h
    obtain ⟨k5, kw⟩ := kwI_of (s := wdS ws 0) rfl (by omega)
    generalize hK : kwI (wdS ws 0) = K at *
    have z64 : I64 0 := ⟨by decide, by decide⟩
    have zsm : Small 0 := ⟨by decide, by decide⟩
    cases hn : nameX ws 1 with
    | error g => rw [hn] at h; cases h
    | ok s =>
      rw [hn] at h
      dsimp only at h
      obtain ⟨n1, n2, n3⟩ := nameX_ok hn
      have hsz : s.size ≤ 8000 := by rw [n2]; exact wdS_size hf
      by_cases h1 : K = 1
      · subst h1
        rw [if_pos rfl] at h
        unfold objR at h
        cases hfx : firstX ws 2 with
        | error g => rw [hfx] at h; cases h
        | ok t =>
          rw [hfx] at h
          injection h with h
          obtain ⟨f1, f2, f3⟩ := firstX_ok hfx
          obtain ⟨t1, t2, t3⟩ := t
          obtain ⟨g1, g2, g3, g4⟩ := told_read (show readL (strOfNums (restT ws 2)).data.toList = ((t1, t2, t3), 0, 0) from f2)
          rw [← n2] at h
          subst h
          dsimp only at f3
          refine ⟨?_, ⟨hsz, (show emB.size ≤ 8000 by decide), by show t3.length ≤ 8000; omega, g4, g3, z64, z64, z64⟩, ?_⟩
          · have hb : bareB ⟨1, s, emB, op0, (t1, t2, t3)⟩ = true := by
              unfold bareB bareA bareO
              dsimp only
              have e2 : (emB == emB && sameOpT op0 op0) = true := by decide
              rw [e2]; simp
            unfold evE firstE
            dsimp only
            rw [if_neg (by decide), hb, if_neg (by decide), n3, if_neg (by simp), if_pos rfl, g2, if_neg (by simp), if_neg (by omega)]
          · have e1 : nums (stS (t1, t2, t3)) = restT ws 2 := by
              have : stS (t1, t2, t3) = strOfNums (restT ws 2) := by
                apply ByteArray.ext
                apply Array.ext'
                exact g1
              rw [this, nums_strOf]
              rw [rest_octets ho 2]
              exact jl_octets _
            have r0 : restT ws 0 = nums (wdS ws 0) ++ 32 :: restT ws 1 := rst_step ho (by omega)
            have r1 : restT ws 1 = nums (wdS ws 1) ++ 32 :: restT ws 2 := rst_step ho (by omega)
            rw [r0, r1, kw, ← n2, evS_1, nums_app, nums_app, nums_app, nums_app, e1, bls]
            simp
      · rw [if_neg h1] at h
        by_cases h3 : K = 3
        · subst h3
          rw [if_pos rfl] at h
          unfold opR at h
          cases hm : nameX ws 2 with
          | error g => rw [hm] at h; cases h
          | ok o =>
            rw [hm] at h
            dsimp only at h
            obtain ⟨m1, m2, m3⟩ := nameX_ok hm
            have hoz : o.size ≤ 8000 := by rw [m2]; exact wdS_size hf
            cases hd : doneX ws 3 with
            | error g => rw [hd] at h; cases h
            | ok p =>
              rw [hd] at h
              injection h with h
              unfold doneX at hd
              by_cases c1 : (rdO ws 3).2.2 ≠ 0
              · rw [if_pos c1] at hd; unfold stopX at hd; cases hd
              · rw [if_neg c1] at hd
                injection hd with hd
                obtain ⟨i, a, b, k, n, i1, ia, ib, inn, ic, iw, ir⟩ := read_only (wdsS (ws.drop 3)) (by
                  show (rdO ws 3).2.2 = 0
                  simpa using c1)
                have hp : p = ((i : Int) + 1, a, b, k, n) := by
                  rw [← hd]
                  show (readP (wdsS (ws.drop 3))).1 = _
                  rw [ir]
                have h3l : 3 < ws.length := by
                  have := congrArg List.length iw
                  rw [wdsS_len, List.length_drop, opW, List.length_cons] at this
                  omega
                rw [← n2] at h
                subst h
                subst hp
                have hki := kindI_in i i1
                refine ⟨?_, ⟨hsz, hoz, Nat.zero_le _, (fun x hx => by cases hx), zsm, ia, ib, inn⟩, ?_⟩
                · unfold evE doneE opE checkP
                  dsimp only
                  rw [if_neg (by decide), show bareB ⟨3, s, o, ((i : Int) + 1, a, b, k, n), stz⟩ = true from rfl, if_neg (by decide), n3, if_neg (by simp), if_neg (by decide), if_pos rfl, m3, if_neg (by simp), hki]
                  exact ic
                · have e1 : nums (opS ((i : Int) + 1, a, b, k, n)) = restT ws 3 := by
                    unfold opS textS
                    dsimp only
                    rw [hki]
                    dsimp only
                    rw [if_pos ic, nums_strOf _ (jl_octets _), rest_octets ho 3, iw]
                  have r0 : restT ws 0 = nums (wdS ws 0) ++ 32 :: restT ws 1 := rst_step ho (by omega)
                  have r1 : restT ws 1 = nums (wdS ws 1) ++ 32 :: restT ws 2 := rst_step ho (by omega)
                  have r2 : restT ws 2 = nums (wdS ws 2) ++ 32 :: restT ws 3 := rst_step ho (by omega)
                  rw [r0, r1, r2, kw, ← n2, ← m2, evS_3, nums_app, nums_app, nums_app, nums_app, nums_app, nums_app, e1, bls]
                  simp
        · rw [if_neg h3] at h
          by_cases h2 : 2 < ws.length
          · rw [if_pos h2] at h; unfold stopX at h; cases h
          · rw [if_neg h2] at h
            injection h with h
            subst h
            refine ⟨?_, ⟨hsz, (show emB.size ≤ 8000 by decide), Nat.zero_le _, (fun x hx => by cases hx), zsm, z64, z64, z64⟩, ?_⟩
            · unfold evE
              dsimp only
              have hb : bareB ⟨(K : Int), s, emB, op0, stz⟩ = true := by
                unfold bareB bareA bareO
                dsimp only
                have e1 : stzB stz = true := by decide
                have e2 : (emB == emB && sameOpT op0 op0) = true := by decide
                rw [e1, e2]; simp
              rw [if_neg (by omega), hb, if_neg (by decide), n3, if_neg (by simp), if_neg (by omega), if_neg (by omega)]
            · have r0 : restT ws 0 = nums (wdS ws 0) ++ 32 :: restT ws 1 := rst_step ho (by omega)
              have r1 : restT ws 1 = nums (wdS ws 1) := rst_last ho (by omega)
              rw [r0, r1, kw, ← n2, evS_0 _ _ _ _ _ (by omega) (by omega), nums_app, nums_app, bls, Int.toNat_natCast]
              simp
end Go.Proofs.YtakbphjdfgidmaaGreatDoor
