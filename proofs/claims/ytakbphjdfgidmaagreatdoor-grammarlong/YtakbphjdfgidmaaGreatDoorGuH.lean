/- The document's functions of the layer grammar: Parse. -/
import Derived.Test.YtakbphjdfgidmaaGreatDoorGuG
import Derived.Test.YtakbphjdfgidmaaGreatDoorGrH
import Derived.Test.YtakbphjdfgidmaaGreatDoorGt
namespace Go.Proofs.YtakbphjdfgidmaaGreatDoor
open Go.RowKit Go.Maps
set_option linter.unusedVariables false
set_option maxRecDepth 100000

theorem stop_err {α : Type} {ws : List Wd} {c : Int} {n : Nat} {f : Int × Int} (h : (stopX ws c n : Rx α) = .error f) (hc : c ≠ 0) : f.1 ≠ 0 := by
  unfold stopX at h
  injection h with h
  rw [← h]; exact hc
theorem word_err {ws : List Wd} {n : Nat} {f : Int × Int} (h : wordX ws n = .error f) : f.1 ≠ 0 := by
  unfold wordX at h
  by_cases h1 : ws.length ≤ n
  · rw [if_pos h1] at h; exact stop_err h (by decide)
  · rw [if_neg h1] at h; cases h
theorem name_err {ws : List Wd} {n : Nat} {f : Int × Int} (h : nameX ws n = .error f) : f.1 ≠ 0 := by
  unfold nameX at h
  cases hw : wordX ws n with
  | error g => rw [hw] at h; cases h; exact word_err hw
  | ok s =>
    rw [hw] at h
    dsimp only at h
    by_cases h1 : nm_checkE s = 0
    · rw [if_pos h1] at h; cases h
    · rw [if_neg h1] at h; exact stop_err h h1
theorem first_err {ws : List Wd} {n : Nat} {f : Int × Int} (h : firstX ws n = .error f) : f.1 ≠ 0 := by
  unfold firstX at h
  cases hw : wordX ws n with
  | error g => rw [hw] at h; cases h; exact word_err hw
  | ok s =>
    rw [hw] at h
    dsimp only at h
    by_cases h1 : (rdS ws n).2.1 ≠ 0
    · rw [if_pos h1] at h
      injection h with h
      rw [← h]; exact h1
    · rw [if_neg h1] at h
      by_cases h2 : 1000 < (rdS ws n).1.2.2.length
      · rw [if_pos h2] at h; exact stop_err h (by decide)
      · rw [if_neg h2] at h; cases h
theorem done_err {ws : List Wd} {n : Nat} {f : Int × Int} (h : doneX ws n = .error f) : f.1 ≠ 0 := by
  unfold doneX at h
  by_cases h1 : (rdO ws n).2.2 ≠ 0
  · rw [if_pos h1] at h; exact stop_err h h1
  · rw [if_neg h1] at h; cases h
theorem lineX_err {ws : List Wd} {f : Int × Int} (h : lineX ws = .error f) : f.1 ≠ 0 := by
  rw [← lineR_is] at h
  unfold lineR at h
  by_cases h0 : kwI (wdS ws 0) = 0
  · rw [if_pos h0] at h; exact stop_err h (by decide)
  · rw [if_neg h0] at h
    cases hn : nameX ws 1 with
    | error g => rw [hn] at h; cases h; exact name_err hn
    | ok s =>
      rw [hn] at h
      dsimp only at h
      by_cases h1 : kwI (wdS ws 0) = 1
      · rw [if_pos h1] at h
        unfold objR at h
        cases hf : firstX ws 2 with
        | error g => rw [hf] at h; cases h; exact first_err hf
        | ok t => rw [hf] at h; cases h
      · rw [if_neg h1] at h
        by_cases h3 : kwI (wdS ws 0) = 3
        · rw [if_pos h3] at h
          unfold opR at h
          cases hm : nameX ws 2 with
          | error g => rw [hm] at h; cases h; exact name_err hm
          | ok o =>
            rw [hm] at h
            dsimp only at h
            cases hd : doneX ws 3 with
            | error g => rw [hd] at h; cases h; exact done_err hd
            | ok p => rw [hd] at h; cases h
        · rw [if_neg h3] at h
          by_cases h2 : 2 < ws.length
          · rw [if_pos h2] at h; exact stop_err h (by decide)
          · rw [if_neg h2] at h; cases h

set_option maxHeartbeats 4000000 in
theorem rparse_any (A : Option Addr) (c : Nat) (bs : List Int) (w : World) (hA : Bytes w A bs) (ho : Octets bs) (hc : bs.length ≤ c) (hm : bs.length ≤ 1000000) (hls : ∀ x ∈ textL bs, Fine x.2 ∧ Lined bs x.2) :
    Calls Tryz.prog 22 #[.slice A bs.length c] w (ParsePost (parseX bs) w) := by
  obtain ⟨i0, hi, hz0, hz1, hz2⟩ := info_parts info_ev
  have hB0 := alloc1 w (.cells #[.int .i64 0, .int .i64 0] 44)
  have HQ0 := Lib.hid (Holds.new w 44 #[.int .i64 0, .int .i64 0])
  have HL := Lib.hid (rlines_any A c bs _ (hA.below (B := 0) hB0) ho hc (by omega))
  have HLS := Lib.hid hls
  have hx : parseX bs = match textF bs with | some f => .error ((f.1 : Int), (f.2 : Int)) | none => linesX (textL bs) := rfl
  obtain ⟨PX, hPX⟩ : ∃ PX, parseX bs = PX := ⟨_, rfl⟩
  rw [hPX] at hx ⊢
  have HX := Lib.hid hx
  have hbig := hm
  clear hA hls hx hPX
  unfold LinesPost at HL
  go_enter Tryz.func22, Tryz.ntmps22
  go_wp2_with fail
  refine HL.out.mono ?_
  rintro e w1 ⟨v, rfl, hown, hB1⟩
  generalize w.alloc (.cells #[.int .i64 0, .int .i64 0] 44) = W0 at *
  have hl0 := HQ0.out.lt
  have HQ1 := Lib.hid (HQ0.out.below hB1 hl0)
  have hB2 := alloc1 w1 (.cells #[.int .i64 (textE bs), .int .i64 (textP bs)] 44)
  have HX2 := Lib.hid (Holds.new w1 44 #[.int .i64 (textE bs), .int .i64 (textP bs)])
  have HQ2 := Lib.hid (HQ1.out.alloc (.cells #[.int .i64 (textE bs), .int .i64 (textP bs)] 44))
  have hB1' := nxt hB0 hB1 hB0.size
  have hB2' := nxt hB1' hB2 hB1'.size
  have HOWN := Lib.hid (hown.below hB2)
  have hl1 := hB1.size
  clear hown
  cases htf : textF bs with
  | some f =>
    have hx2 : PX = .error ((f.1 : Int), (f.2 : Int)) := by rw [HX.out, htf]
    have HX2' := Lib.hid hx2
    clear hx2
    have e1 : textE bs = (f.1 : Int) := by rw [textE, htf]
    have e2 : textP bs = (f.2 : Int) := by rw [textP, htf]
    generalize textE bs = te at *
    generalize textP bs = tp at *
    subst e1 e2
    have hne : ((f.1 : Int) != 0) = true := by rw [bne_iff_ne]; have := text_err htf; omega
    go_upto_region 3 with fail
    generalize w1.alloc (.cells #[.int .i64 (f.1 : Int), .int .i64 (f.2 : Int)] 44) = W2 at *
    have x0 : W2.cell? ⟨w1.heap.size, 0, none⟩ = some (.int .i64 (f.1 : Int)) := HX2.out.c (j := 0) rfl
    have x1 : W2.cell? ⟨w1.heap.size, 1, none⟩ = some (.int .i64 (f.2 : Int)) := HX2.out.c (j := 1) rfl
    have q0 : W2.cell? ⟨w.heap.size, 0, none⟩ = some (.int .i64 0) := HQ2.out.c (j := 0) rfl
    have q1 : W2.cell? ⟨w.heap.size, 1, none⟩ = some (.int .i64 0) := HQ2.out.c (j := 1) rfl
    have hne1 : ¬ w1.heap.size = w.heap.size := by omega
    have y1 := HQ2.out.frozen
    have g2 := (HQ2.out.set 0 (.int .i64 (f.1 : Int))).set 1 (.int .i64 (f.2 : Int))
    simp only [List.setIfInBounds_toArray, List.set_cons_zero, List.set_cons_succ] at g2
    have hB9 := ((hB2'.setCell (p := ⟨w.heap.size, 0, none⟩) (by simp) (.int .i64 (f.1 : Int))).setCell (p := ⟨w.heap.size, 1, none⟩) (by simp) (.int .i64 (f.2 : Int)))
    go_region
    go_wp2
    generalize (W2.setCell ⟨w.heap.size, 0, none⟩ (.int .i64 (f.1 : Int))).setCell ⟨w.heap.size, 1, none⟩ (.int .i64 (f.2 : Int)) = W9 at *
    have g3 := g2.below (Below.refl _ W9).drew g2.lt
    have k1 := g3.c (j := 0) rfl
    have k2 := g3.c (j := 1) rfl
    refine bodyPost_ret (v := .tuple #[.slice none 0 0, .agg #[.int .i64 (f.1 : Int), .int .i64 (f.2 : Int)]]) (by simp [results, Tryz.f22, go_sem, k1, k2]) rfl ?_
    rw [HX2'.out]
    exact ⟨rfl, hB9.drew⟩
  | none =>
    have hx2 : PX = linesX (textL bs) := by rw [HX.out, htf]
    have HX2' := Lib.hid hx2
    clear hx2
    have e1 : textE bs = 0 := by rw [textE, htf]
    have e2 : textP bs = 0 := by rw [textP, htf]
    generalize textE bs = te at *
    generalize textP bs = tp at *
    subst e1 e2
    obtain ⟨ls, hls⟩ : ∃ ls, textL bs = ls := ⟨_, rfl⟩
    have hlen : ls.length ≤ 1000001 := by rw [← hls]; have := text_len bs; omega
    rw [hls] at HOWN HLS HX2'
    obtain ⟨Al, cl, rfl, hrl⟩ := HOWN.out.readC
    have HRL := Lib.hid hrl
    clear hls hrl HL HX
    have hs2 : (w1.alloc (.cells #[.int .i64 0, .int .i64 0] 44)).heap.size = w1.heap.size + 1 := by simp
    have HS2 := Lib.hid hs2
    have HB2 := Lib.hid hB2'
    clear hs2 HOWN hB1 hB2 HQ0 HQ1
    go_upto_region 6 with fail
    generalize w1.alloc (.cells #[.int .i64 0, .int .i64 0] 44) = W2 at *
    clear hB2'
    go_loopw [6, 7] (fun s6 i7 wr => ∃ (k : Nat) (q : Value) (zs : List EvZ), k ≤ ls.length ∧ i7 = .int .i64 k ∧ s6 = q ∧ linesX (ls.take k) = .ok (zs.map Prod.fst) ∧ zs.length = k ∧ wr.ownsRow W2.heap.size 38 11 q k (evsC zs) ∧ EvRows wr W2.heap.size zs ∧ Below W2.heap.size W2 wr) (fun s6 i7 wr => ls.length - (intOf i7).toNat)
    case atStart => exact ⟨0, _, [], Nat.zero_le _, rfl, rfl, rfl, rfl, World.ownsRow_nil _ _ _ _, (fun z hz => by cases hz), Below.refl _ _⟩
    case round =>
      obtain ⟨k, q, zs, hk, rfl, rfl, hz1', hz2', hrow, hrows, hbw⟩ := hrel
      obtain ⟨Aq, cq, rfl⟩ := row_one hrow
      have hsw := hbw.size
      have hBW := nxt HB2.out hbw HB2.out.size
      have HROW := Lib.hid hrow
      have HROWS := Lib.hid hrows
      have HZS := Lib.hid hz1'
      have HZL := Lib.hid hz2'
      have HQr := Lib.hid (HQ2.out.below hbw HQ2.out.lt)
      clear hz1' hz2' hrow hrows
      by_cases hlt : k < ls.length
      · obtain ⟨b, off, rfl, hb, hcl⟩ := (HRL.out.below hbw) (by omega)
        obtain ⟨Aw, cw, c1, c2, c3, c4⟩ := hcl k hlt
        obtain ⟨hfine, hlined⟩ := HLS.out (ls[k]?.getD (0, [])) (by rw [List.getElem?_eq_getElem hlt]; exact List.getElem_mem hlt)
        have htk := lines_take hlt
        obtain ⟨⟨at0, ws⟩, hln⟩ : ∃ x : Ln, ls[k]?.getD (0, []) = x := ⟨_, rfl⟩
        rw [hln] at c1 c2 c3 c4 hfine hlined htk
        dsimp only at c1 c2 c3 c4 hfine hlined
        have HTK := Lib.hid htk
        have hk0 : (0 : Int) ≤ (k : Int) := by omega
        have hk1 : (k : Int) < (ls.length : Int) := by omega
        have hkd : decide (k < ls.length) = true := decide_eq_true hlt
        have HEV := Lib.hid (rln_any at0 Aw cw ws bs wr (c3.mono (by omega)) hfine hlined)
        clear c3 hfine hlined hcl hln htk
        have hkb : k ≤ 1000001 := by omega
        cases hlx : lineX ws with
        | error f =>
          have hfin : PX = .error f := by
            rw [HX2'.out]
            have e1 := lines_snoc (ls.take k) (at0, ws) _ HZS.out
            rw [← HTK.out] at e1
            dsimp only at e1
            rw [hlx] at e1
            have e2 := lines_error (ls.take (k + 1)) (ls.drop (k + 1)) f e1
            rwa [List.take_append_drop] at e2
          have HFIN := Lib.hid hfin
          have hf1 := lineX_err hlx
          have hbn : (f.1 != 0) = true := by rw [bne_iff_ne]; exact hf1
          rw [hlx] at HEV
          unfold RefPost FaultV evZ at HEV
          obtain ⟨f1, f2⟩ := f
          dsimp only at HEV hbn
          clear hfin hf1 hlx
          go_wp2_with fail
          refine HEV.out.mono ?_
          rintro e w5 ⟨rfl, hB5⟩
          have hB5' := nxt hBW hB5 hBW.size
          have hs5 := hB5.size
          have hB6 := (alloc1 w5 (.cells evZ 38)).alloc (by simp) (.cells #[.int .i64 f1, .int .i64 f2] 44)
          have HG6 := Lib.hid (show Holds ((w5.alloc (.cells evZ 38)).alloc (.cells #[.int .i64 f1, .int .i64 f2] 44)) (w5.heap.size + 1) 44 #[.int .i64 f1, .int .i64 f2] from by have := Holds.new (w5.alloc (.cells evZ 38)) 44 #[.int .i64 f1, .int .i64 f2]; rwa [World.size_alloc] at this)
          have hB6' := nxt hB5' hB6 hB5'.size
          have hBr6 := nxt hB5 hB6 hB5.size
          have HQ6 := Lib.hid (HQr.out.below hBr6 HQr.out.lt)
          have hlq := HQr.out.lt
          unfold evZ at HG6 HQ6 hB6' hBr6 hB6
          go_upto_region 10 with fail
          generalize (w5.alloc (.cells #[.int .i64 0, .string ⟨#[]⟩, .string ⟨#[]⟩, .int .i64 0, .int .i64 0, .int .i64 0, .int .i64 0, .int .i64 0, .int .i64 0, .int .i64 0, .slice none 0 0] 38)).alloc (.cells #[.int .i64 f1, .int .i64 f2] 44) = W6 at *
          have x0 : W6.cell? ⟨w5.heap.size + 1, 0, none⟩ = some (.int .i64 f1) := HG6.out.c (j := 0) rfl
          have x1 : W6.cell? ⟨w5.heap.size + 1, 1, none⟩ = some (.int .i64 f2) := HG6.out.c (j := 1) rfl
          have q0 : W6.cell? ⟨w.heap.size, 0, none⟩ = some (.int .i64 0) := HQ6.out.c (j := 0) rfl
          have q1 : W6.cell? ⟨w.heap.size, 1, none⟩ = some (.int .i64 0) := HQ6.out.c (j := 1) rfl
          have hne1 : ¬ w5.heap.size + 1 = w.heap.size := by omega
          have y1 := HQ6.out.frozen
          have g2 := (HQ6.out.set 0 (.int .i64 f1)).set 1 (.int .i64 f2)
          simp only [List.setIfInBounds_toArray, List.set_cons_zero, List.set_cons_succ] at g2
          have hB9 := ((hB6'.setCell (p := ⟨w.heap.size, 0, none⟩) (by simp) (.int .i64 f1)).setCell (p := ⟨w.heap.size, 1, none⟩) (by simp) (.int .i64 f2))
          go_region
          go_wp2
          generalize (W6.setCell ⟨w.heap.size, 0, none⟩ (.int .i64 f1)).setCell ⟨w.heap.size, 1, none⟩ (.int .i64 f2) = W9 at *
          have g3 := g2.below (Below.refl _ W9).drew g2.lt
          have k1 := g3.c (j := 0) rfl
          have k2 := g3.c (j := 1) rfl
          refine bodyPost_ret (v := .tuple #[.slice none 0 0, .agg #[.int .i64 f1, .int .i64 f2]]) (by simp [results, Tryz.f22, go_sem, k1, k2]) rfl ?_
          rw [HFIN.out]
          exact ⟨rfl, hB9.drew⟩
        | ok ev =>
          have hfin : linesX (ls.take (k + 1)) = .ok (zs.map Prod.fst ++ [ev]) := by
            have e1 := lines_snoc (ls.take k) (at0, ws) _ HZS.out
            rw [← HTK.out] at e1
            dsimp only at e1
            rw [hlx] at e1
            exact e1
          have HFIN := Lib.hid hfin
          rw [hlx] at HEV
          unfold RefPost at HEV
          clear hfin hlx
          obtain ⟨kd, nm, ob, ⟨o1, o2, o3, o4, o5⟩, t, n, l⟩ := ev
          unfold evV evC at HEV
          dsimp only at HEV
          go_wp2_with fail
          refine HEV.out.mono ?_
          rintro e w5 ⟨Ae, ce, rfl, hoe, hB5⟩
          have hB5' := nxt hBW hB5 hBW.size
          have hs5 := hB5.size
          obtain ⟨E, hEE⟩ : ∃ E : Obj, E = .cells #[.int .i64 kd, .string nm, .string ob, .int .i64 o1, .int .i64 o2, .int .i64 o3, .int .i64 o4, .int .i64 o5, .int .i64 t, .int .i64 n, .slice Ae l.length ce] 38 := ⟨_, rfl⟩
          have hB6 := (alloc1 w5 (.cells #[.int .i64 kd, .string nm, .string ob, .int .i64 o1, .int .i64 o2, .int .i64 o3, .int .i64 o4, .int .i64 o5, .int .i64 t, .int .i64 n, .slice Ae l.length ce] 38)).alloc (by simp) (.cells #[.int .i64 0, .int .i64 0] 44)
          have HE6 := Lib.hid ((Holds.new w5 38 #[.int .i64 kd, .string nm, .string ob, .int .i64 o1, .int .i64 o2, .int .i64 o3, .int .i64 o4, .int .i64 o5, .int .i64 t, .int .i64 n, .slice Ae l.length ce]).alloc (.cells #[.int .i64 0, .int .i64 0] 44))
          have HG6 := Lib.hid (show Holds ((w5.alloc (.cells #[.int .i64 kd, .string nm, .string ob, .int .i64 o1, .int .i64 o2, .int .i64 o3, .int .i64 o4, .int .i64 o5, .int .i64 t, .int .i64 n, .slice Ae l.length ce] 38)).alloc (.cells #[.int .i64 0, .int .i64 0] 44)) (w5.heap.size + 1) 44 #[.int .i64 0, .int .i64 0] from by have := Holds.new (w5.alloc (.cells #[.int .i64 kd, .string nm, .string ob, .int .i64 o1, .int .i64 o2, .int .i64 o3, .int .i64 o4, .int .i64 o5, .int .i64 t, .int .i64 n, .slice Ae l.length ce] 38)) 44 #[.int .i64 0, .int .i64 0]; rwa [World.size_alloc] at this)
          have hB6' := nxt hB5' hB6 hB5'.size
          have hBr6 := nxt hB5 hB6 hB5.size
          have hb6 := nxt hbw hBr6 hbw.size
          have HROW6 := Lib.hid (row_below HROW.out hBr6)
          have HROWS6 := Lib.hid (HROWS.out.below hBr6)
          have HOE6 := Lib.hid (row_mono (row_below hoe hB6) hsw)
          clear hoe hEE E
          go_upto_region 9 with fail
          generalize (w5.alloc (.cells #[.int .i64 kd, .string nm, .string ob, .int .i64 o1, .int .i64 o2, .int .i64 o3, .int .i64 o4, .int .i64 o5, .int .i64 t, .int .i64 n, .slice Ae l.length ce] 38)).alloc (.cells #[.int .i64 0, .int .i64 0] 44) = W6 at *
          have g0 := HG6.out.c (j := 0) rfl
          have g1 := HG6.out.c (j := 1) rfl
          have hlG := HG6.out.lt
          have hlE := HE6.out.lt
          have hs6 := hb6.size
          obtain ⟨x0, x1, x2, x3, x4, x5, x6, x7, x8, x9, x10, y0⟩ := ev_cells HE6.out
          have hcn := cell_new_any W6 38 (evC ⟨kd, nm, ob, (o1, o2, o3, o4, o5), t, n, l⟩ Ae ce)
          have HCN := Lib.hid hcn
          unfold evC at HCN
          dsimp only at HCN
          clear hcn
          go_wp2_with (at_builtin; refine wpList_append_own_at _ rfl _ _ 22 rfl W2.heap.size 38 i0 (.agg evZ) 11 120 Tryz.underlying22 hi hz0 hz1 hz2 rfl (by decide) _ _ _ rfl (HROW6.out.alloc _) ⟨W6.heap.size, 0, none⟩ 1 1 _ rfl rfl HCN.out (by intro u hu; simp at hu; rcases hu with rfl | rfl | rfl | rfl | rfl | rfl | rfl | rfl | rfl | rfl | rfl <;> rfl) (by unfold maxLen; omega) (by omega) (by simp; omega) ?_; intro v7 w7 hown7 hg7 hnil7 hat7)
          have hgr : ∀ r, (Value.slice Aq k cq).ownBlock = some r → ∃ cs tt mm, (W6.alloc (.cells #[.int .i64 kd, .string nm, .string ob, .int .i64 o1, .int .i64 o2, .int .i64 o3, .int .i64 o4, .int .i64 o5, .int .i64 t, .int .i64 n, .slice Ae l.length ce] 38)).heap[r]? = some (.cells cs tt mm) ∧ tt ≠ 3 := fun r e => by
            obtain ⟨cur, hcur⟩ := row_cells (HROW6.out.alloc (.cells #[.int .i64 kd, .string nm, .string ob, .int .i64 o1, .int .i64 o2, .int .i64 o3, .int .i64 o4, .int .i64 o5, .int .i64 t, .int .i64 n, .slice Ae l.length ce] 38)) e
            exact ⟨cur, _, _, hcur, by decide⟩
          go_roundw
          case rel =>
            refine ⟨k + 1, v7, zs ++ [((⟨kd, nm, ob, (o1, o2, o3, o4, o5), t, n, l⟩ : Ev), Ae, ce)], by omega, by go_num, rfl, ?_, ?_, ?_, ?_, ?_⟩
            · rw [List.map_append]; exact HFIN.out
            · rw [List.length_append, HZL.out]; rfl
            · rw [evsC_snoc]; exact hown7
            · intro z hz
              rcases List.mem_append.1 hz with h | h
              · exact ((HROWS6.out.alloc (.cells #[.int .i64 kd, .string nm, .string ob, .int .i64 o1, .int .i64 o2, .int .i64 o3, .int .i64 o4, .int .i64 o5, .int .i64 t, .int .i64 n, .slice Ae l.length ce] 38)).kept hg7 hgr) z h
              · exact (((EvRows.one (z := ((⟨kd, nm, ob, (o1, o2, o3, o4, o5), t, n, l⟩ : Ev), Ae, ce)) HOE6.out).alloc (.cells #[.int .i64 kd, .string nm, .string ob, .int .i64 o1, .int .i64 o2, .int .i64 o3, .int .i64 o4, .int .i64 o5, .int .i64 t, .int .i64 n, .slice Ae l.length ce] 38)).kept hg7 hgr) z h
            · exact (hb6.alloc (by omega) _).grown hg7 (by simp; omega) (fun r e => (HROW6.out.lt r e).1)
          case measure => simp [intOf]; omega
      · have hkk : k = ls.length := by omega
        subst hkk
        have hkd : decide (ls.length < ls.length) = false := decide_eq_false hlt
        have hfin : PX = .ok (zs.map Prod.fst) := by
          rw [HX2'.out, ← HZS.out, List.take_of_length_le (Nat.le_refl _)]
        have HFIN := Lib.hid hfin
        have q0 : wr.cell? ⟨w.heap.size, 0, none⟩ = some (.int .i64 0) := HQr.out.c (j := 0) rfl
        have q1 : wr.cell? ⟨w.heap.size, 1, none⟩ = some (.int .i64 0) := HQr.out.c (j := 1) rfl
        have y1 := HQr.out.frozen
        have hlq := HQr.out.lt
        have g2 := (HQr.out.set 0 (.int .i64 0)).set 1 (.int .i64 0)
        simp only [List.setIfInBounds_toArray, List.set_cons_zero, List.set_cons_succ] at g2
        have o1 : Only w.heap.size wr ((wr.setCell ⟨w.heap.size, 0, none⟩ (.int .i64 0)).setCell ⟨w.heap.size, 1, none⟩ (.int .i64 0)) := ((Only.of (Below.refl wr.heap.size wr) (Nat.le_refl _)).set 0 _).set 1 _
        have r1 := HROW.out.kept o1.grown (.inr (HQr.out.not_row HROW.out (by decide)).symm)
        have s1 := HROWS.out.kept o1.grown (fun r e => by cases e; exact ⟨_, _, _, HQr.out, by decide⟩)
        have hB9 := hBW.trans (o1.below (lo := w.heap.size) (Nat.le_refl _) hBW.size)
        have hlen2 : (zs.map Prod.fst).length = ls.length := by rw [List.length_map, HZL.out]
        have hW2 := HB2.out.size
        have R1 := Lib.hid r1
        have S1 := Lib.hid s1
        clear hfin r1 s1 o1
        go_wp2
        generalize (wr.setCell ⟨w.heap.size, 0, none⟩ (.int .i64 0)).setCell ⟨w.heap.size, 1, none⟩ (.int .i64 0) = W9 at *
        have k1 := g2.c (j := 0) rfl
        have k2 := g2.c (j := 1) rfl
        refine bodyPost_ret (v := .tuple #[.slice Aq ls.length cq, .agg #[.int .i64 0, .int .i64 0]]) (by simp [results, Tryz.f22, go_sem, k1, k2]) rfl ?_
        rw [HFIN.out]
        refine ⟨Aq, cq, by rw [hlen2], ⟨zs, rfl, ?_, fun z hz => row_mono (S1.out z hz) hW2⟩, hB9⟩
        rw [hlen2, HZL.out]
        exact row_mono R1.out hW2
end Go.Proofs.YtakbphjdfgidmaaGreatDoor
