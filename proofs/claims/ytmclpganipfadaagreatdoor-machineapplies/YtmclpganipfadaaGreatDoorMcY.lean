/- The document's Returns. -/
import Derived.Test.YtmclpganipfadaaGreatDoorMcV
import Derived.Test.YtmclpganipfadaaGreatDoorMcI
namespace Go.Proofs.YtmclpganipfadaaGreatDoor
open Go.RowKit Go.Shelf Go.Maps
set_option linter.unusedVariables false
set_option linter.unusedSimpArgs false

theorem lasts_and {P : Prop} {R : World → Prop} (h : Lasts R) : Lasts (fun W => P ∧ R W) :=
  ⟨fun W o k => ⟨k.1, h.new W o k.2⟩, fun W X cs off u hX k => ⟨k.1, h.st W X cs off u hX k.2⟩, fun W X cs off u hX k => ⟨k.1, h.rt W X cs off u hX k.2⟩⟩
theorem first_at {s : Sta} {ops : List Opr} {k : Nat} {p : Ans} (h : (answers s ops)[k]? = some p) (hl : ∀ q ∈ (answers s ops).take k, q.e = 0) (hp : p.e ≠ 0) : retsA s ops = ([], p.e) := by
  obtain ⟨hk, e⟩ := List.getElem?_eq_some_iff.1 h
  have h1 := List.take_append_drop k (answers s ops)
  rw [List.drop_eq_getElem_cons hk, e] at h1
  have hf : firstE (answers s ops) = p.e := by
    rw [← h1]
    exact first_some hl hp
  unfold retsA
  rw [hf, if_neg hp]
theorem rowT_grown {W w1 : World} {base n : Nat} {v : Value} {xs : List Value} {A : Option Addr} {l : List Int} (h : RowT W A l) (hg : W.grownBy w1 v.ownBlock) (ho : W.ownsRow base 26 2 v n xs) : RowT w1 A l :=
  h.of fun b cs fr hb => hg.block b (Array.getElem?_eq_some_iff.1 hb).1 (fun e => by
    rcases ho.2 with ⟨rfl, _⟩ | ⟨g, cap, cur, rfl, q1, q2, _⟩
    · cases e
    · cases e
      rw [hb] at q2
      simp at q2)

theorem curL_rowT {n₀ : Nat} {w : World} {A : Option Addr} {l : List Int} (h : RowT w A l) : CurL n₀ n₀ w A l := fun hl => by
  obtain ⟨b, off, cs, fr, e, hb, hc⟩ := h hl
  refine ⟨b, off, e, (Array.getElem?_eq_some_iff.1 hb).1, ?_, hc⟩
  rcases Nat.lt_or_ge b n₀ with h1 | h1
  · exact .inl h1
  · exact .inr ⟨h1, cs, fr, hb⟩

set_option maxRecDepth 100000 in
set_option maxHeartbeats 4000000 in
theorem rmrets_any (s : Sta) (A : Option Addr) (c : Nat) (Ao : Option Addr) (co : Nat) (ops : List Opr) (w : World) (hA : Ints w A s.l) (hO : Oprs w Ao ops) (hlen : s.l.length + 2 * ops.length ≤ 800) :
    Calls Tryz.prog 18 #[stV s.t s.n A s.l.length c, .slice Ao ops.length co] w (RetPost (retsA s ops) w) := by
  obtain ⟨i0, hi0, hz0, hz1, hz2⟩ := info_parts info_ret
  obtain ⟨t, n, l⟩ := s
  dsimp only at hA hlen ⊢
  have HW := Lib.hid (Holds.new w 24 #[.int .i64 t, .int .i64 n, .slice A l.length c])
  have HA := Lib.hid ((curL_intsB (n₀ := w.heap.size) (hi := w.heap.size) (show IntsB w.heap.size w A l from hA) (Nat.le_refl _)).below (alloc1 w (.cells #[.int .i64 t, .int .i64 n, .slice A l.length c] 24)))
  have HB := Lib.hid (alloc1 w (.cells #[.int .i64 t, .int .i64 n, .slice A l.length c] 24))
  have HOp := Lib.hid hO
  clear hA hO
  unfold stV
  go_enter Tryz.func18, Tryz.ntmps18
  go_wp2
  generalize w.alloc (.cells #[.int .i64 t, .int .i64 n, .slice A l.length c] 24) = W0 at *
  go_loopw [6, 7] (fun s6 i wr => ∃ (k : Nat) (Ak : Option Addr) (ck : Nat), k ≤ ops.length ∧ i = .int .i64 k ∧ (∀ q ∈ (answers ⟨t, n, l⟩ ops).take k, q.e = 0) ∧ Holds wr w.heap.size 24 #[.int .i64 (stAt ⟨t, n, l⟩ ops k).t, .int .i64 (stAt ⟨t, n, l⟩ ops k).n, .slice Ak (stAt ⟨t, n, l⟩ ops k).l.length ck] ∧ CurL w.heap.size w.heap.size wr Ak (stAt ⟨t, n, l⟩ ops k).l ∧ wr.ownsRow w.heap.size 26 2 s6 k (retCells (retsOf ((answers ⟨t, n, l⟩ ops).take k))) ∧ Below w.heap.size w wr) (fun s6 i wr => ops.length - (intOf i).toNat)
  case atStart =>
    refine ⟨0, A, c, Nat.zero_le _, rfl, fun q hq => by simp at hq, ?_⟩
    rw [stAt_zero]
    exact ⟨HW.out, HA.out, World.ownsRow_nil _ _ _ _, HB.out⟩
  case round =>
    obtain ⟨k, Ak, ck, hk, rfl, hfin, hS, hR, hrow, hB⟩ := hrel
    obtain ⟨Ar, cr, rfl⟩ := row_slice hrow
    by_cases hlt : k < ops.length
    · obtain ⟨o, ho⟩ : ∃ o, ops[k]? = some o := ⟨_, List.getElem?_eq_getElem hlt⟩
      have hsl := stAt_len ⟨t, n, l⟩ ops k
      have hnx := stAt_succ ⟨t, n, l⟩ ops k o ho
      have hat := answers_at ⟨t, n, l⟩ ops k o ho
      have htk := answers_take ⟨t, n, l⟩ ops k o ho
      have hstop := fun hp => first_at hat hfin hp
      obtain ⟨bo, offo, rfl, hbo, hco⟩ := (OprsB.below (show OprsB w.heap.size w Ao ops from HOp.out) hB) (by omega)
      obtain ⟨c0, c1, c2, c3', c4⟩ := hco k o ho
      dsimp only at hsl
      generalize stAt ⟨t, n, l⟩ ops k = sk at *
      obtain ⟨st, sn, sl⟩ := sk
      dsimp only at hsl hR hS
      have HL := fun W (h : Below wr.heap.size wr W) => rmapply_all st sn Ak ck sl o.kd o.a o.b W (hR.ints.below h) (by omega)
      have hst : stepA ⟨st, sn, sl⟩ o = mA st sn sl o.kd o.a o.b := rfl
      rw [hst] at hnx hstop htk
      clear hst hat
      generalize mA st sn sl o.kd o.a o.b = p at *
      obtain ⟨pt, pn, pl, pk, pr, pe⟩ := p
      obtain ⟨kd, oa, ob, rk, rn⟩ := o
      unfold RPost stV retV at HL
      dsimp only at *
      have hwr := hB.size
      have hrl : (retsOf ((answers ⟨t, n, l⟩ ops).take k)).length = k := by unfold retsOf; rw [List.length_map, List.length_take, answers_len]; omega
      have HSN := Lib.hid (show retsOf ((answers ⟨t, n, l⟩ ops).take (k + 1)) = retsOf ((answers ⟨t, n, l⟩ ops).take k) ++ [(pk, pr)] by rw [htk]; simp [retsOf])
      have HFN := Lib.hid (show pe = 0 → ∀ q ∈ (answers ⟨t, n, l⟩ ops).take (k + 1), q.e = 0 from fun h q hq => by
        rw [htk] at hq
        rcases List.mem_append.1 hq with h1 | h1
        · exact hfin q h1
        · obtain rfl := List.mem_singleton.1 h1; exact h)
      generalize retsOf ((answers ⟨t, n, l⟩ ops).take k) = rs at *
      have HS := Lib.hid hS
      have HBr := Lib.hid hB
      have HST := Lib.hid hstop
      have HX := Lib.hid hnx
      have HRow := Lib.hid hrow
      clear hnx hstop hfin ho hco hS hR hB htk hrow hrl
      have q0 : (0 : Int) ≤ (k : Int) := by omega
      have q1 : (k : Int) < (ops.length : Int) := by omega
      have q2 : decide ((k : Int) < (ops.length : Int)) = true := decide_eq_true q1
      have q3 : decide (k < ops.length) = true := decide_eq_true hlt
      go_wp2_with fail
      refine wp_region_noPanic ?_
      refine wp_region_forked (Plan.takes [0, 1, 2, 3, 4, 5, 6, 7, 8, 9, 10, 11, 12, 13, 14, 15] (.told 16)) (fun W' => Below wr.heap.size wr W') (by kernel_rfl) (by kernel_rfl) (fun _ _ _ _ _ h => h) (Below.refl _ _).drew ?_
      unfold Plan.takes Plan.takes Plan.takes Plan.takes Plan.takes Plan.takes Plan.takes Plan.takes Plan.takes Plan.takes Plan.takes Plan.takes Plan.takes Plan.takes Plan.takes Plan.takes Plan.takes
      iterate 16
        refine Forked.take ?_ (by rfl) (by rfl) ?_ ?_
        rotate_left
        · intro w' hw'
          have s0 := (HS.out.below hw' HS.out.lt).c (j := 0) rfl
          have s1 := (HS.out.below hw' HS.out.lt).c (j := 1) rfl
          have s2 := (HS.out.below hw' HS.out.lt).c (j := 2) rfl
          have o0 := (hw'.cell (p := ⟨bo, _, none⟩) (by show bo < _; omega)).trans c0
          have o1 := (hw'.cell (p := ⟨bo, _, none⟩) (by show bo < _; omega)).trans c1
          have o2 := (hw'.cell (p := ⟨bo, _, none⟩) (by show bo < _; omega)).trans c2
          go_simp
          try with_reducible rfl
        simp only [Act.put, List.getElem_toArray, List.getElem_cons_zero, List.getElem_cons_succ, List.setIfInBounds_toArray, List.set_cons_zero, List.set_cons_succ]
      refine told3 (R := fun t' n' A' m' c' kr' r' er' W => (t' = pt ∧ n' = pn ∧ m' = pl.length ∧ kr' = pk ∧ r' = pr ∧ er' = pe) ∧ RowT W A' pl) (f := 8) (args := #[.agg #[.int .i64 st, .int .i64 sn, .slice Ak sl.length ck], .int .i64 kd, .int .i64 oa, .int .i64 ob]) rfl rfl rfl rfl rfl rfl rfl rfl rfl rfl rfl rfl rfl rfl rfl rfl rfl rfl rfl rfl rfl rfl rfl rfl rfl rfl rfl rfl rfl rfl rfl rfl rfl rfl rfl rfl rfl rfl rfl (by intro cs b h; cases h) (by kernel_rfl) (by decide) (by intro d hd; simp at hd ⊢; omega) (fun W => by go_simp) (fun t' n' A' m' c' kr' r' er' => lasts_and (lasts_rowT A' pl)) (Below.refl _ _).drew ?_ ?_
      · intro W hW
        refine (HL W hW).mono ?_
        rintro e W' ⟨A', c', rfl, hr', hb'⟩
        exact ⟨pt, pn, A', pl.length, c', pk, pr, pe, rfl, ⟨⟨rfl, rfl, rfl, rfl, rfl, rfl⟩, hr'⟩, hb'⟩
      rintro X Y t8 n8 A8 m8 c8 kr8 r8 er8 W8 hX hY hXY HX8 HY8 ⟨⟨rfl, rfl, rfl, rfl, rfl, rfl⟩, hr8⟩ hB8
      refine NoPanic.normal ?_
      simp only [parts5, Act.put, List.setIfInBounds_toArray, List.set_cons_zero, List.set_cons_succ]
      have HB8 := Lib.hid (HBr.out.trans (hB8.mono hwr))
      have HS8 := Lib.hid (HS.out.below hB8 HS.out.lt)
      have HX9 := Lib.hid HX8
      have HY9 := Lib.hid HY8
      have HR8 := Lib.hid hr8
      have HRow8 := Lib.hid (row_below HRow.out hB8)
      have hw8 := hB8.size
      clear HS HBr hB8 HX8 HY8 hr8 HL c0 c1 c2 c3' c4 HRow
      have r0 := HY9.out.c (j := 0) rfl
      have r1 := HY9.out.c (j := 1) rfl
      cases he : (er8 != 0)
      · have hpe : er8 = 0 := by simpa using he
        have HF := Lib.hid (HFN.out hpe)
        have hml : k + 1 ≤ maxLen := by unfold maxLen; omega
        clear HST HFN
        go_upto_region 9 with (at_builtin; refine wpList_append_own _ rfl _ _ 44 rfl w.heap.size 26 i0 (.agg #[.int .i64 0, .int .i64 0]) 2 16 Tryz.underlying44 hi0 hz0 hz1 hz2 rfl (by decide) _ _ _ rfl (HRow8.out.alloc _) ⟨W8.heap.size, 0, none⟩ 1 1 [.int .i64 kr8, .int .i64 r8] rfl rfl (cell_ret_new _ _ _ _) (by simp [Value.oneCell']) hml (by omega) (by simp; omega) ?_; intro v' w1 hown' hgrow _; obtain ⟨A1, c1, rfl⟩ := row_slice hown'; have HO1 := Lib.hid hown'; have HG1 := Lib.hid hgrow; clear hown' hgrow)
        have hB1 := (HB8.out.alloc HB8.out.size (.cells #[.int .i64 kr8, .int .i64 r8] 26)).grown HG1.out (by simp; omega) (fun g e => (HRow8.out.lt g e).1)
        have hRa := HRow8.out.alloc (.cells #[.int .i64 kr8, .int .i64 r8] 26)
        have hSa := HS8.out.alloc (.cells #[.int .i64 kr8, .int .i64 r8] 26)
        have hXa := HX9.out.alloc (.cells #[.int .i64 kr8, .int .i64 r8] 26)
        have hS1 := hSa.kept HG1.out (hSa.not_row hRa (by decide))
        have hX1 := hXa.kept HG1.out (hXa.not_row hRa (by decide))
        have hR1 := rowT_grown (HR8.out.below (alloc1 W8 (.cells #[.int .i64 kr8, .int .i64 r8] 26))) HG1.out hRa
        have HS1 := Lib.hid hS1
        have HX1 := Lib.hid hX1
        have HR1 := Lib.hid hR1
        have HB1 := Lib.hid hB1
        have x0 := hX1.c (j := 0) rfl
        have x1 := hX1.c (j := 1) rfl
        have x2 := hX1.c (j := 2) rfl
        have v0 := hS1.c (j := 0) rfl
        have v1 := hS1.c (j := 1) rfl
        have v2 := hS1.c (j := 2) rfl
        have f0 := hS1.frozen 0
        have f1 := hS1.frozen 1
        have f2 := hS1.frozen 2
        clear hS1 hX1 hR1 hB1 hRa hSa hXa HS8 HX9 HR8 HRow8 HB8 HG1 r0 r1
        go_wp2
        go_roundw
        case rel =>
          obtain ⟨HF3, hrow3, hbf3⟩ := tell3 (Z := w.heap.size) HS1.out HR1.out HB1.out (Nat.le_refl _) (.int .i64 t8) (.int .i64 n8) (.slice A8 pl.length c8)
          have hne1 : ∀ g, (Value.slice A1 (k + 1) c1).ownBlock = some g → g ≠ w.heap.size := fun g e e' => HS1.out.not_row HO1.out (by decide) (by rw [e, e'])
          have ho3 := row_set (row_set (row_set HO1.out w.heap.size 0 (.int .i64 t8) hne1) w.heap.size 1 (.int .i64 n8) hne1) w.heap.size 2 (.slice A8 pl.length c8) hne1
          refine ⟨k + 1, A8, c8, by omega, by go_num, HF.out, ?_⟩
          rw [HX.out, HSN.out, retCells_snoc]
          exact ⟨HF3, curL_rowT hrow3, ho3, hbf3⟩
        case measure => simp [intOf]; omega
      · have hne : er8 ≠ 0 := by simpa using he
        have hrun := HST.out hne
        clear HST HX
        go_wp2
        go_ret2
        rw [hrun]
        exact ⟨none, 0, rfl, World.ownsRow_nil _ _ _ _, HB8.out⟩
    · have q2 : decide ((k : Int) < (ops.length : Int)) = false := decide_eq_false (by omega)
      obtain rfl : k = ops.length := by omega
      have hall : (answers ⟨t, n, l⟩ ops).take ops.length = answers ⟨t, n, l⟩ ops := by rw [List.take_of_length_le (by rw [answers_len]; exact Nat.le_refl _)]
      rw [hall] at hfin hrow
      have hrun : retsA ⟨t, n, l⟩ ops = (retsOf (answers ⟨t, n, l⟩ ops), 0) := by unfold retsA; rw [if_pos (first_none hfin)]
      have hrl : (retsOf (answers ⟨t, n, l⟩ ops)).length = ops.length := by unfold retsOf; rw [List.length_map, answers_len]
      have HRow := Lib.hid hrow
      have HBr := Lib.hid hB
      clear hfin hS hR hrow hB
      go_wp2
      go_ret2
      rw [hrun]
      unfold RetPost
      dsimp only
      rw [hrl]
      exact ⟨Ar, cr, rfl, HRow.out, HBr.out⟩
end Go.Proofs.YtmclpganipfadaaGreatDoor
