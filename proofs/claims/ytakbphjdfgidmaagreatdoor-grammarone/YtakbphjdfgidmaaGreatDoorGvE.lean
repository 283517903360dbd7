/- Pure: what a text's events are, printed; where a fault is. -/
import Derived.Test.YtakbphjdfgidmaaGreatDoorGvD
namespace Go.Proofs.YtakbphjdfgidmaaGreatDoor
open Go.RowKit
set_option linter.unusedVariables false

theorem cuts_all (l : List Int) (o : Nat) : restT (cuts 32 o l) 0 = l := by
  obtain ⟨p, t, hp⟩ := cuts_head 32 l o
  obtain ⟨a, e1, e2⟩ := cuts_rest l o 0 (by rw [hp]; simp)
  have ha : a = [] := List.eq_nil_of_length_eq_zero (by rw [hp] at e2; simp only [List.getElem?_cons_zero, Option.getD_some] at e2; omega)
  rw [ha, List.nil_append] at e1
  exact e1.symm
theorem cuts_octets {l : List Int} (h : Octets l) (o : Nat) (sep : Int) : OctW (cuts sep o l) := by
  intro x hx y hy
  obtain ⟨a, b, e, _⟩ := cuts_in sep l o x hx
  exact h y (by rw [e]; simp [hy])
def pcs (cs : List (Nat × List Int)) : Nat := (cs.map fun x => x.2.length + 1).sum
theorem pcs_cons (x : Nat × List Int) (r : List (Nat × List Int)) : pcs (x :: r) = x.2.length + 1 + pcs r := by simp [pcs]
theorem cuts_pcs : ∀ (l : List Int) (o : Nat), pcs (cuts 10 o l) = l.length + 1
  | [], o => rfl
  | x :: r, o => by
    have ih := cuts_pcs r (o + 1)
    by_cases hx : x = 10
    · rw [cuts, if_pos hx, pcs_cons, ih, List.length_cons, List.length_nil]; omega
    · obtain ⟨p, t, hp⟩ := cuts_head 10 r (o + 1)
      rw [hp, pcs_cons] at ih
      rw [cuts_cons_ne hx o r p t hp, pcs_cons, List.length_cons, List.length_cons]
      dsimp only at ih ⊢
      omega
theorem lineL_is {x : Nat × List Int} {l : Ln} (h : lineL x = some l) : l = (x.1, cuts 32 x.1 x.2) := by
  by_cases ho : over x.2 = true
  · rw [lineL_over ho] at h; cases h
  · rw [lineL_words (by simpa using ho)] at h
    injection h with h
    exact h.symm
theorem lines_len : ∀ (cs : List (Nat × List Int)) (es : List Ev), (∀ x ∈ cs, Octets x.2 ∧ ∀ l, lineL x = some l → Fine l.2) → linesX (cs.filterMap lineL) = .ok es → (prL es).length ≤ pcs cs ∧ ∀ e ∈ es, EvOk e ∧ evE e = 0
  | [], es, _, h => by cases h; exact ⟨Nat.zero_le _, fun e he => by cases he⟩
  | x :: r, es, hx, h => by
    have hr := fun y hy => hx y (List.mem_cons_of_mem _ hy)
    obtain ⟨ox, fx⟩ := hx x List.mem_cons_self
    rw [List.filterMap_cons] at h
    rw [pcs_cons]
    cases hl : lineL x with
    | none =>
      rw [hl] at h
      obtain ⟨i1, i2⟩ := lines_len r es hr h
      exact ⟨by omega, i2⟩
    | some l =>
      rw [hl] at h
      have hf := fx l hl
      have hli := lineL_is hl
      rw [linesX] at h
      cases hle : lineX l.2 with
      | error f => rw [hle] at h; cases h
      | ok e =>
        rw [hle] at h
        dsimp only at h
        cases hre : linesX (r.filterMap lineL) with
        | error f => rw [hre] at h; cases h
        | ok es' =>
          rw [hre] at h
          injection h with h
          subst h
          obtain ⟨i1, i2⟩ := lines_len r es' hr hre
          have how : OctW l.2 := by rw [hli]; exact cuts_octets ox _ _
          obtain ⟨j1, j2, j3⟩ := lineX_ok hf how hle
          have j4 : (evS e).size = x.2.length := by
            rw [← nums_len, j3, hli]
            dsimp only
            rw [cuts_all]
          refine ⟨?_, fun e' he => ?_⟩
          · simp only [prL_cons, List.length_append, nums_len, List.length_cons, List.length_nil]
            omega
          · rcases List.mem_cons.1 he with rfl | he
            · exact ⟨j2, j1⟩
            · exact i2 e' he
theorem parse_all {bs : List Int} {es : List Ev} (ho : Octets bs) (hb : bs.length ≤ 7000) (h : parseX bs = .ok es) : (prL es).length ≤ bs.length + 1 ∧ ∀ e ∈ es, EvOk e ∧ evE e = 0 := by
  unfold parseX at h
  cases hf : textF bs with
  | some f => rw [hf] at h; cases h
  | none =>
    rw [hf] at h
    dsimp only at h
    have hx := text_fine' hb
    unfold textL at h hx
    rw [if_pos hf] at h hx
    rw [← cuts_pcs bs 0]
    refine lines_len _ es (fun x hxm => ⟨fun y hy => ?_, fun l hl => ?_⟩) h
    · obtain ⟨a, b, e, _⟩ := cuts_in 10 bs 0 x hxm
      exact ho y (by rw [e]; simp [hy])
    · exact (hx l (List.mem_filterMap.2 ⟨x, hxm, hl⟩)).1

/-! ### Where a fault is -/

theorem textF_place {bs : List Int} {f : Nat × Nat} (hb : bs.length ≤ 67108864) (h : textF bs = some f) : f.2 ≤ bs.length := by
  rw [text_short hb] at h
  obtain ⟨x, hx, hf⟩ := find_one h
  have hle := cuts_le hx
  by_cases hl : 65536 < x.2.length
  · rw [lineF_long hl] at hf
    injection hf with hf
    rw [← hf]
    show x.1 ≤ _
    omega
  · by_cases ho : over x.2 = true
    · rw [lineF_over hl ho] at hf; cases hf
    · rw [lineF_words hl (by simpa using ho)] at hf
      obtain ⟨y, hy, hg⟩ := find_one hf
      have hly := cuts_le hy
      unfold wordF at hg
      cases hw : fw y.2 with
      | none => rw [hw] at hg; cases hg
      | some k =>
        rw [hw] at hg
        injection hg with hg
        have := fw_lt hw
        rw [← hg]
        show y.1 + k ≤ _
        omega
theorem place_end_le {bs : List Int} {ws : List Wd} (hl : Lined bs ws) (n : Nat) : placeP ws n ≤ endP ws := by
  by_cases hn : n < ws.length
  · rw [place_at hn]; exact Nat.le_of_lt (hl.rest n hn).1
  · unfold placeP; rw [if_neg hn]; exact Nat.le_refl _
theorem stop_place {α : Type} {bs : List Int} {ws : List Wd} (hl : Lined bs ws) {c : Int} {n : Nat} {f : Int × Int} (h : (stopX ws c n : Rx α) = .error f) : 0 ≤ f.2 ∧ f.2 ≤ bs.length := by
  unfold stopX at h
  injection h with h
  have h1 := place_end_le hl n
  have h2 := hl.fin
  rw [← h]
  dsimp only
  omega
theorem name_place {bs : List Int} {ws : List Wd} (hl : Lined bs ws) {n : Nat} {f : Int × Int} (h : nameX ws n = .error f) : 0 ≤ f.2 ∧ f.2 ≤ bs.length := by
  unfold nameX wordX at h
  by_cases h1 : ws.length ≤ n
  · rw [if_pos h1] at h
    have : (stopX ws 5 n : Rx ByteArray) = .error f := by
      unfold stopX at h ⊢
      dsimp only at h
      injection h with h
      rw [h]
    exact stop_place hl this
  · rw [if_neg h1] at h
    dsimp only at h
    by_cases h2 : nm_checkE (wdS ws n) = 0
    · rw [if_pos h2] at h; cases h
    · rw [if_neg h2] at h; exact stop_place hl h
theorem first_place {bs : List Int} {ws : List Wd} (hl : Lined bs ws) {n : Nat} {f : Int × Int} (h : firstX ws n = .error f) : 0 ≤ f.2 ∧ f.2 ≤ bs.length := by
  unfold firstX wordX at h
  by_cases h1 : ws.length ≤ n
  · rw [if_pos h1] at h
    have : (stopX ws 5 n : Rx StT) = .error f := by
      unfold stopX at h ⊢
      dsimp only at h
      injection h with h
      rw [h]
    exact stop_place hl this
  · rw [if_neg h1] at h
    dsimp only at h
    by_cases c1 : (rdS ws n).2.1 ≠ 0
    · rw [if_pos c1] at h
      injection h with h
      have a := read_at (s := (strOfNums (restT ws n)).data.toList) c1
      have h2 : (strOfNums (restT ws n)).data.toList.length = (restT ws n).length := by rw [← strOfNums_size (restT ws n)]; rfl
      rw [h2] at a
      obtain ⟨r1, r2, r3⟩ := hl.rest n (by omega)
      have r4 := congrArg List.length r2
      rw [List.length_take, List.length_drop] at r4
      have r5 := hl.fin
      rw [place_at (by omega)] at h
      rw [← h]
      dsimp only
      have b1 : 0 ≤ (rdS ws n).2.2 := a.1
      have b2 : (rdS ws n).2.2 ≤ ((restT ws n).length : Int) := a.2
      omega
    · rw [if_neg c1] at h
      by_cases c2 : 1000 < (rdS ws n).1.2.2.length
      · rw [if_pos c2] at h; exact stop_place hl h
      · rw [if_neg c2] at h; cases h
theorem lineX_place {bs : List Int} {ws : List Wd} {f : Int × Int} (hl : Lined bs ws) (h : lineX ws = .error f) : 0 ≤ f.2 ∧ f.2 ≤ bs.length := by
  rw [← lineR_is] at h
  unfold lineR at h
  by_cases h0 : kwI (wdS ws 0) = 0
  · rw [if_pos h0] at h; exact stop_place hl h
  · rw [if_neg h0] at h
    cases hn : nameX ws 1 with
    | error g => rw [hn] at h; cases h; exact name_place hl hn
    | ok s =>
      rw [hn] at h
      dsimp only at h
      by_cases h1 : kwI (wdS ws 0) = 1
      · rw [if_pos h1] at h
        unfold objR at h
        cases hf : firstX ws 2 with
        | error g => rw [hf] at h; cases h; exact first_place hl hf
        | ok t => rw [hf] at h; cases h
      · rw [if_neg h1] at h
        by_cases h3 : kwI (wdS ws 0) = 3
        · rw [if_pos h3] at h
          unfold opR at h
          cases hm : nameX ws 2 with
          | error g => rw [hm] at h; cases h; exact name_place hl hm
          | ok o =>
            rw [hm] at h
            dsimp only at h
            cases hd : doneX ws 3 with
            | error g =>
              rw [hd] at h
              cases h
              unfold doneX at hd
              by_cases c1 : (rdO ws 3).2.2 ≠ 0
              · rw [if_pos c1] at hd; exact stop_place hl hd
              · rw [if_neg c1] at hd; cases hd
            | ok p => rw [hd] at h; cases h
        · rw [if_neg h3] at h
          by_cases h2 : 2 < ws.length
          · rw [if_pos h2] at h; exact stop_place hl h
          · rw [if_neg h2] at h; cases h
theorem lines_err : ∀ {ls : List Ln} {f : Int × Int}, linesX ls = .error f → ∃ l ∈ ls, lineX l.2 = .error f
  | [], f, h => by cases h
  | l :: r, f, h => by
    rw [linesX] at h
    cases hl : lineX l.2 with
    | error g => rw [hl] at h; cases h; exact ⟨l, List.mem_cons_self, hl⟩
    | ok e =>
      rw [hl] at h
      dsimp only at h
      cases hr : linesX r with
      | error g =>
        rw [hr] at h
        cases h
        obtain ⟨x, hx, he⟩ := lines_err hr
        exact ⟨x, List.mem_cons_of_mem _ hx, he⟩
      | ok es => rw [hr] at h; cases h
theorem parse_err {bs : List Int} {f : Int × Int} (hb : bs.length ≤ 7000) (h : parseX bs = .error f) : f.1 ≠ 0 ∧ 0 ≤ f.2 ∧ f.2 ≤ bs.length := by
  unfold parseX at h
  cases hf : textF bs with
  | some g =>
    rw [hf] at h
    injection h with h
    have h1 := text_err hf
    have h2 := textF_place (by omega) hf
    rw [← h]
    dsimp only
    omega
  | none =>
    rw [hf] at h
    dsimp only at h
    obtain ⟨l, hl, he⟩ := lines_err h
    exact ⟨lineX_err he, lineX_place (text_fine' hb l hl).2 he⟩
end Go.Proofs.YtakbphjdfgidmaaGreatDoor
