/- The document's Lines. -/
import Derived.Test.YtmmehfpkcheaiaaTkT
namespace Go.Proofs.Ytmmehfpkcheaiaa
open Go.RowKit
set_option linter.unusedVariables false

/-- What is left of a text. -/
def rest (bs : List Int) (f : Nat) : List Wd := if f ≤ bs.length then cuts 10 f (seg bs f bs.length) else []

theorem rest_zero (bs : List Int) : rest bs 0 = cuts 10 0 bs := by unfold rest; rw [if_pos (Nat.zero_le _), seg_all]
theorem rest_end {bs : List Int} {f : Nat} (h : bs.length ≤ f) : (rest bs f).findSome? lineF = none ∧ (rest bs f).filterMap lineL = [] := by
  unfold rest
  split
  · obtain rfl : f = bs.length := by omega
    rw [seg_nil]; exact ⟨rfl, rfl⟩
  · exact ⟨rfl, rfl⟩
theorem rest_step {bs : List Int} {f i : Nat} (hfi : f ≤ i) (hi : i ≤ bs.length) (hg : ∀ j, f ≤ j → j < i → at0 bs j ≠ 10) (h : i = bs.length ∨ at0 bs i = 10) : rest bs f = (f, seg bs f i) :: rest bs (i + 1) := by
  unfold rest
  rw [if_pos (by omega)]
  by_cases hl : i < bs.length
  · rw [if_pos (by omega)]
    exact line3 hfi hl hg (by rcases h with h | h; omega; exact h)
  · obtain rfl : i = bs.length := by omega
    rw [if_neg (by omega)]
    exact line2 hg

theorem lines_push {W w1 : World} {n₀ : Nat} {v v' : Value} {zs : List (Ln × Value)} {z : Ln × Value} {tmp : Obj} (hrow : W.ownsRow n₀ 34 2 v zs.length (lineCells zs)) (hrs : WRows W n₀ zs)
    (hz : W.ownsRow n₀ 36 2 z.2 z.1.2.length (wordCells z.1.2))
    (hown' : w1.ownsRow n₀ 34 2 v' (zs.length + 1) (lineCells zs ++ [.int .i64 z.1.1, z.2])) (hgrow : (W.alloc tmp).grownBy w1 v.ownBlock) :
    OwnLines w1 n₀ v' ((zs ++ [z]).map Prod.fst) := by
  have hrs' : WRows W n₀ (zs ++ [z]) := fun y hy => by
    rcases List.mem_append.1 hy with h | h
    · exact hrs y h
    · obtain rfl : y = z := by simpa using h
      exact hz
  have h1 : WRows w1 n₀ (zs ++ [z]) := (hrs'.alloc tmp).kept hgrow (fun y hy => row_apart (hrs' y hy) hrow (by decide))
  refine ⟨zs ++ [z], rfl, ?_, h1⟩
  rw [List.length_append, lineCells_snoc]
  exact hown'

theorem pair_grown {W w1 : World} {B : Nat} {t e : TypeId} {a b v : Value} {n k size : Nat} {xs : List Value} {tmp : Obj} (h : Pair2 W B t a b) (hte : t ≠ e) (hr : W.ownsRow n e size v k xs) (hg : (W.alloc tmp).grownBy w1 v.ownBlock) : Pair2 w1 B t a b := by
  refine h.of ?_
  rw [hg.block B (by have := h.lt; simp; omega) ?_]
  · exact Below.heap_alloc W tmp B h.lt
  · rcases hr.2 with ⟨rfl, _⟩ | ⟨g, cap, cur, rfl, _, hgb, _⟩
    · simp [Value.ownBlock]
    · intro e'
      obtain rfl : B = g := by simpa [Value.ownBlock] using e'
      have := (show W.heap[B]? = _ from h).symm.trans hgb
      simp at this
      exact hte this.2

theorem own_set {W : World} {B j : Nat} {u v : Value} {base : Nat} {ls : List Ln} (h : OwnLines W base v ls) (hp : ∃ a b, Pair2 W B 28 a b) : OwnLines (W.setCell ⟨B, j, none⟩ u) base v ls := by
  obtain ⟨a, b, hab⟩ := hp
  refine h.kept (row := some B) ⟨rfl, rfl, rfl, by simp [World.setCell], fun k _ hk => Below.heap_setCell _ _ _ k (fun e => hk (by rw [e]))⟩ fun r e => ?_
  cases e
  exact ⟨_, hab, fun cs => ⟨by simp, by simp⟩⟩

theorem text_done {bs : List Int} (hm : bs.length ≤ 67108864) {pre : List Wd} {f : Nat} (hc : cuts 10 0 bs = pre ++ rest bs f) (hf : pre.findSome? lineF = none) (hl : bs.length ≤ f) : textF bs = none ∧ textL bs = pre.filterMap lineL := by
  have h1 : textF bs = none := text_none hm (by rw [hc, find_app_none hf]; exact (rest_end hl).1)
  refine ⟨h1, ?_⟩
  rw [textL, if_pos h1, hc, List.filterMap_append, (rest_end hl).2, List.append_nil]
theorem text_stop {bs : List Int} (hm : bs.length ≤ 67108864) {pre : List Wd} {f i : Nat} {x : Nat × Nat} {t : List Wd} (hc : cuts 10 0 bs = pre ++ rest bs f) (hf : pre.findSome? lineF = none) (hr : rest bs f = (f, seg bs f i) :: t) (hx : lineF (f, seg bs f i) = some x) : textF bs = some x :=
  text_some hm (by rw [hc, find_app_none hf, hr, List.findSome?_cons, hx])

set_option maxHeartbeats 4000000 in
theorem rlines_any (A : Option Addr) (c : Nat) (bs : List Int) (w : World) (hA : Bytes w A bs) (ho : Octets bs) (hc : bs.length ≤ c) (hm : bs.length ≤ 67108864) :
    Calls Try.prog 12 #[.slice A bs.length c] w (LinesPost bs w) := by
  obtain ⟨i1, ki, kz0, kz1, kz2⟩ := info_parts info_line
  have hd0 : decide (67108864 < (bs.length : Int)) = false := decide_eq_false (by omega)
  have HA := Lib.hid hA
  have HO := Lib.hid ho
  have HTot : Hid ((cuts 10 0 bs).length ≤ bs.length + 1) := Lib.hid (cuts_len 10 bs 0)
  clear hA ho
  go_enter Try.func12, Try.ntmps12
  go_wp2
  go_loopw [4, 5] (fun s4 s5 wr => ∃ (f : Nat) (pre : List Wd), s5 = .int .i64 f ∧ f ≤ bs.length + 1 ∧ cuts 10 0 bs = pre ++ rest bs f ∧ pre.findSome? lineF = none ∧ OwnLines wr w.heap.size s4 (pre.filterMap lineL) ∧ Pair2 wr w.heap.size 28 (.int .i64 0) (.int .i64 0) ∧ Below w.heap.size w wr) (fun s4 s5 wr => bs.length + 1 - (intOf s5).toNat)
  case atStart => exact ⟨0, [], rfl, Nat.zero_le _, by rw [rest_zero]; rfl, rfl, OwnLines.nil _ _, Pair2.new w _ _ _, (Below.refl _ _).alloc (Nat.le_refl _) _⟩
  case round =>
    obtain ⟨f, pre, rfl, hfl, hcut, hfin, hown, hP, hB⟩ := hrel
    have hwr := hB.size
    have HOwn := Lib.hid hown
    obtain ⟨zs, hzs, rL, rs⟩ := hown
    obtain ⟨A4, c4, rfl⟩ := row_one rL
    have hzl : zs.length ≤ bs.length + 1 := by
      have h1 := congrArg List.length hzs
      have h2 := List.length_filterMap_le lineL pre
      have h3 := HTot.out
      rw [hcut, List.length_append] at h3
      rw [List.length_map] at h1
      omega
    have HCut := Lib.hid hcut
    have HFin := Lib.hid hfin
    have HZS := Lib.hid hzs
    have r0 := hP.c0
    have r1 := hP.c1
    have q0 := hP.frozen 0
    have q1 := hP.frozen 1
    clear hcut hfin hzs
    by_cases hlt : f < bs.length
    · obtain ⟨b, off, rfl, hb, hcs⟩ := BytesB.at HA.out.b (by omega)
      have HCS := Lib.hid hcs
      clear hcs
      go_wp2
      go_loop [6] (fun s6 => ∃ i : Nat, s6 = .int .i64 i ∧ f ≤ i ∧ i ≤ bs.length ∧ ∀ j, f ≤ j → j < i → at0 bs j ≠ 10) (fun s6 => bs.length - (intOf s6).toNat)
      case atStart => exact ⟨f, rfl, Nat.le_refl _, by omega, fun j h1 h2 => absurd h2 (by omega)⟩
      case round =>
        obtain ⟨i, rfl, hfi, hie, hg⟩ := hrel
        have HG := Lib.hid hg
        clear hg
        by_cases hlt2 : i < bs.length ∧ at0 bs i ≠ 10
        · obtain ⟨hli, h10⟩ := hlt2
          have hck := (hB.cell (p := ⟨b, off + i, none⟩) hb).trans (HCS.out i hli)
          have h10' : (at0 bs i == 10) = false := beq_eq_false_iff_ne.2 h10
          go_wp2
          go_roundw
          case rel =>
            refine ⟨i + 1, by go_num, by omega, by omega, fun j h1 h2 => ?_⟩
            by_cases e : j = i
            · subst e; exact h10
            · exact HG.out j h1 (by omega)
          case measure => simp [intOf]; omega
        · have hex : i = bs.length ∨ at0 bs i = 10 := by
            rcases Nat.lt_or_ge i bs.length with h | h
            · exact .inr (Classical.not_not.1 fun e => hlt2 ⟨h, e⟩)
            · exact .inl (by omega)
          have HR := Lib.hid (rest_step hfi hie HG.out hex)
          have hsl := seg_len (bs := bs) (a := f) hie
          have hcond : decide (i < bs.length) = false ∨ (i < bs.length ∧ wr.cell? ⟨b, off + i, none⟩ = some (.int .u8 10)) := by
            rcases hex with h | h
            · exact .inl (decide_eq_false (by omega))
            · rcases Nat.lt_or_ge i bs.length with h' | h'
              · exact .inr ⟨h', by rw [← h]; exact (hB.cell (p := ⟨b, off + i, none⟩) hb).trans (HCS.out i h')⟩
              · exact .inl (decide_eq_false (by omega))
          have hcf := (hB.cell (p := ⟨b, off + f, none⟩) hb).trans (HCS.out f hlt)
          clear hex hlt2
          by_cases h65 : 65536 < i - f
          · have HF := Lib.hid (text_stop hm HCut.out HFin.out HR.out (lineF_long (x := (f, seg bs f i)) (by rw [hsl]; exact h65)))
            have hd65 : decide ((65536 : Int) < (i : Int) - (f : Int)) = true := decide_eq_true (by omega)
            have hP2 := hP.set (.int .i64 4) (.int .i64 f)
            have p0 := hP2.c0
            have p1 := hP2.c1
            clear hsl
            rcases hcond with hcn | ⟨hcn, hcc⟩
            all_goals
              go_wp2
              refine bodyPost_ret (v := .tuple #[.slice none 0 0, .agg #[.int .i64 4, .int .i64 f]]) (by simp [results, Try.f12, go_sem, p0, p1]) rfl ?_
              refine ⟨.slice none 0 0, by rw [textE, textP, HF.out]; rfl, ?_, (hB.setCell (p := ⟨w.heap.size, 0, none⟩) (Nat.le_refl _) _).setCell (p := ⟨w.heap.size, 1, none⟩) (Nat.le_refl _) _⟩
              rw [textL, if_neg (by rw [HF.out]; simp)]
              exact OwnLines.nil _ _
          · have hd65 : decide ((65536 : Int) < (i : Int) - (f : Int)) = false := decide_eq_false (by omega)
            have h65' : ¬ 65536 < (seg bs f i).length := by rw [hsl]; exact h65
            clear hsl
            by_cases hov2 : f < i ∧ at0 bs f ≠ 35
            · obtain ⟨hfi2, h35⟩ := hov2
              have hov : over (seg bs f i) = false := by rw [over_seg hfi2 hie]; exact beq_eq_false_iff_ne.2 h35
              have h35' : (at0 bs f == 35) = false := beq_eq_false_iff_ne.2 h35
              have HW := Lib.hid (rwords_any (some ⟨b, off, none⟩) c bs f i wr (HA.out.below (B := 0) hB) HO.out hc hm hfi2 hie)
              have HLF := Lib.hid (lineF_words (x := (f, seg bs f i)) h65' hov)
              have HLL := Lib.hid (lineL_words (x := (f, seg bs f i)) hov)
              clear hov h65'
              rcases hcond with hcn | ⟨hcn, hcc⟩
              all_goals
                go_wp2_with fail
                refine HW.out.mono ?_
                rintro e w2 ⟨hB2, (⟨v, hf2, rfl, hr2⟩ | ⟨fx, hf2, rfl⟩)⟩
                · have hP2 := hP.of (hB2.block _ hP.lt)
                  have hBw := Below.next hB hB2 (Nat.le_refl _)
                  have rL2 := row_below rL hB2
                  have rs2 := rs.below hB2
                  obtain ⟨A7, c7, rfl⟩ := row_one hr2
                  have hml : zs.length + 1 ≤ maxLen := by unfold maxLen; omega
                  have hw2 := hBw.size
                  have HLn : Hid ((cuts 32 f (seg bs f i)).length ≤ 100000) := Lib.hid (by have := cuts_len 32 (seg bs f i) f; rw [seg_len hie] at this; omega)
                  obtain ⟨m, hm'⟩ : ∃ m, (cuts 32 f (seg bs f i)).length = m := ⟨_, rfl⟩
                  have HM := Lib.hid hm'
                  have HF2 := Lib.hid hf2
                  have HR2 := Lib.hid hr2
                  rw [hm']
                  clear hm' hf2 hr2
                  go_wp2_with (at_builtin; refine wpList_append_own _ rfl _ _ 25 rfl w.heap.size 34 i1 (.agg #[.int .i64 0, .slice none 0 0]) 2 32 Try.underlying25 ki kz0 kz1 kz2 rfl (by decide) _ _ _ rfl (rL2.alloc _) ⟨w2.heap.size, 0, none⟩ 1 1 [.int .i64 f, .slice A7 m c7] rfl rfl (cell_two_new _ _ _ _) (by simp [Value.oneCell']) hml (by omega) (by simp; omega) ?_; intro v' w3 hown' hgrow _; obtain ⟨A8, c8, rfl⟩ := row_one hown')
                  go_roundw
                  case rel =>
                    have hz : w2.ownsRow w.heap.size 36 2 (.slice A7 m c7) (cuts 32 f (seg bs f i)).length (wordCells (cuts 32 f (seg bs f i))) := by
                      have h := HR2.out
                      rw [HM.out] at h ⊢
                      exact row_mono h hwr
                    refine ⟨i + 1, pre ++ [(f, seg bs f i)], by go_num, by omega, ?_, ?_, ?_, pair_grown hP2 (by decide) rL2 hgrow, (hBw.alloc hw2 _).grown hgrow (by simp; omega) (fun k e => (rL2.lt k e).1)⟩
                    · rw [HCut.out, HR.out]; simp
                    · rw [find_snoc HFin.out, HLF.out]; exact HF2.out
                    · have h1 := lines_push (z := ((f, cuts 32 f (seg bs f i)), .slice A7 m c7)) rL2 rs2 hz hown' hgrow
                      rw [List.map_append, HZS.out] at h1
                      rw [keep_snoc, HLL.out]
                      exact h1
                  case measure => simp [intOf]; omega
                · have HF := Lib.hid (text_stop hm HCut.out HFin.out HR.out (HLF.out.trans hf2))
                  obtain ⟨y, _, hy⟩ := find_one hf2
                  have h5 := wordF_five hy
                  have hBw := Below.next hB hB2 (Nat.le_refl _)
                  have hPw := hP.of (hB2.block _ hP.lt)
                  have hP2 := hPw.set (.int .i64 5) (.int .i64 fx.2)
                  have p0 := hP2.c0
                  have p1 := hP2.c1
                  have r0' := hPw.c0
                  have r1' := hPw.c1
                  have q0' := hPw.frozen 0
                  have q1' := hPw.frozen 1
                  have H5 := Lib.hid h5
                  clear hf2 hy h5
                  go_wp2
                  refine bodyPost_ret (v := .tuple #[.slice none 0 0, .agg #[.int .i64 5, .int .i64 fx.2]]) (by simp [results, Try.f12, go_sem, p0, p1]) rfl ?_
                  refine ⟨.slice none 0 0, by rw [textE, textP, HF.out]; simp only [H5.out]; rfl, ?_, (hBw.setCell (p := ⟨w.heap.size, 0, none⟩) (Nat.le_refl _) _).setCell (p := ⟨w.heap.size, 1, none⟩) (Nat.le_refl _) _⟩
                  rw [textL, if_neg (by rw [HF.out]; simp)]
                  exact OwnLines.nil _ _
            · have hov : over (seg bs f i) = true := by
                rcases Nat.lt_or_ge f i with h | h
                · rw [over_seg h hie]
                  exact beq_iff_eq.2 (Classical.not_not.1 fun e => hov2 ⟨h, e⟩)
                · obtain rfl : f = i := by omega
                  rw [seg_nil]; rfl
              have hc2 : decide (f < i) = false ∨ (f < i ∧ (at0 bs f == 35) = true) := by
                rcases Nat.lt_or_ge f i with h | h
                · exact .inr ⟨h, beq_iff_eq.2 (Classical.not_not.1 fun e => hov2 ⟨h, e⟩)⟩
                · exact .inl (decide_eq_false (by omega))
              have HLF := Lib.hid (lineF_over (x := (f, seg bs f i)) h65' hov)
              have HLL := Lib.hid (lineL_over (x := (f, seg bs f i)) hov)
              clear hov h65' hov2
              rcases hcond with hcn | ⟨hcn, hcc⟩
              all_goals
                rcases hc2 with hc3 | ⟨hc3, hc4⟩
                all_goals
                  go_wp2
                  go_roundw
                  case rel =>
                    refine ⟨i + 1, pre ++ [(f, seg bs f i)], by go_num, by omega, ?_, ?_, ?_, hP, hB⟩
                    · rw [HCut.out, HR.out]; simp
                    · rw [find_snoc HFin.out, HLF.out]
                    · rw [keep_snoc, HLL.out]; simpa using HOwn.out
                  case measure => simp [intOf]; omega
    · have hd : decide (f < bs.length) = false := decide_eq_false hlt
      obtain ⟨hF1, hF2⟩ := text_done hm HCut.out HFin.out (by omega)
      have HF1 := Lib.hid hF1
      have HF2 := Lib.hid hF2
      clear hF1 hF2
      go_wp2
      have hP2 := hP.set (.int .i64 0) (.int .i64 0)
      have p0 := hP2.c0
      have p1 := hP2.c1
      refine bodyPost_ret (v := .tuple #[.slice A4 zs.length c4, .agg #[.int .i64 0, .int .i64 0]]) (by simp [results, Try.f12, go_sem, p0, p1]) rfl ?_
      refine ⟨.slice A4 zs.length c4, by rw [textE, textP, HF1.out], ?_, (hB.setCell (p := ⟨w.heap.size, 0, none⟩) (Nat.le_refl _) _).setCell (p := ⟨w.heap.size, 1, none⟩) (Nat.le_refl _) _⟩
      rw [HF2.out]
      exact own_set (own_set HOwn.out ⟨_, _, hP⟩) ⟨_, _, heap_setCell_same wr w.heap.size 0 #[.int .i64 0, .int .i64 0] _ _ hP⟩
end Go.Proofs.Ytmmehfpkcheaiaa
