/- Contracts of the layer grammar: Parse. -/
import Derived.Test.YtpdbkjnaicjfdaaGreatDoorGrG
namespace Go.Proofs.YtpdbkjnaicjfdaaGreatDoor
open Go.RowKit Go.Maps
set_option linter.unusedVariables false
set_option maxRecDepth 100000

/-- What Parse tells. -/
def ParsePost (x : Rx (List Ev)) (w : World) (e : Ending) (w' : World) : Prop :=
  match x with
  | .error f => e = .returned (.tuple #[.slice none 0 0, .agg #[.int .i64 f.1, .int .i64 f.2]]) ∧ Below w.heap.size w w'
  | .ok es => ∃ A c, e = .returned (.tuple #[.slice A es.length c, .agg #[.int .i64 0, .int .i64 0]]) ∧ OwnEvs w' w.heap.size (.slice A es.length c) es ∧ Below w.heap.size w w'

theorem info_ev : (Tryz.prog.info? 55).map (fun i => (i.zero, i.size, i.bytes)) = some (some (.agg evZ), 11, 120) := by kernel_rfl

theorem text_err {bs : List Int} {f : Nat × Nat} (h : textF bs = some f) : f.1 = 4 ∨ f.1 = 5 := by
  unfold textF at h
  split at h
  · cases h; exact .inl rfl
  · obtain ⟨x, _, hx⟩ := find_one h
    exact lineF_not hx

theorem text_len (bs : List Int) : (textL bs).length ≤ bs.length + 1 := by
  unfold textL
  split
  · exact Nat.le_trans (List.length_filterMap_le _ _) (cuts_len _ _ _)
  · simp

theorem row_cells {W : World} {base : Nat} {e : TypeId} {size n : Nat} {v : Value} {xs : List Value} (h : W.ownsRow base e size v n xs) {r : Nat} (hr : v.ownBlock = some r) : ∃ cur, W.heap[r]? = some (.cells cur e (0, 0)) := by
  rcases h.2 with ⟨e1, _⟩ | ⟨g, cap, cur, e1, _, hg, _⟩
  · rw [e1] at hr; cases hr
  · rw [e1] at hr
    obtain rfl : g = r := by simpa [Value.ownBlock] using hr
    exact ⟨cur, hg⟩
theorem kmap_row {W : World} {M R : Nat} (h : KMap W M R) {base : Nat} {e : TypeId} {size n : Nat} {v : Value} {xs : List Value} (hr : W.ownsRow base e size v n xs) : some M ≠ v.ownBlock := by
  intro e1
  obtain ⟨cur, hc⟩ := row_cells hr e1.symm
  obtain ⟨D, ⟨es, clock, hb, _⟩, _⟩ := h
  rw [hb] at hc; cases hc

/-- Between two lines: B1 the reader's block, Wa the world ahead of it. -/
structure PI (B1 M : Nat) (AT : Option Addr) (cT : Nat) (bs : List Int) (ls : List Ln) (Wa : World) (k : Nat) (q : Value) (wr : World) : Prop where
  below : Below B1 Wa wr
  rdr : ∃ v, Holds wr B1 117 #[.slice AT bs.length cT, v]
  map : KMap wr M B1
  rows : ∃ zs : List EvZ, linesX (ls.take k) = .ok (zs.map Prod.fst) ∧ zs.length = k ∧ wr.ownsRow B1 55 11 q k (evsC zs) ∧ EvRows wr B1 zs

set_option maxHeartbeats 8000000 in
theorem parse_any (A : Option Addr) (c : Nat) (bs : List Int) (w : World) (hA : Bytes w A bs) (ho : Octets bs) (hc : bs.length ≤ c) (hm : bs.length ≤ 1000000) (hls : ∀ x ∈ textL bs, Fine x.2 ∧ Lined bs x.2) (hw : Wds w) (hk : KWds w) :
    Calls Tryz.prog 37 #[.slice A bs.length c] w (ParsePost (parseX bs) w) := by
  obtain ⟨i0, hi, hz0, hz1, hz2⟩ := info_parts info_ev
  have hmf : ∀ (fn : Fn) (first cap : Array Value) (w : World), (Instr.makeFunc fn first cap).run Tryz.prog w = .ok (.func fn first cap) w := fun _ _ _ _ => rfl
  have hB0 := (alloc1 w (.cells #[.slice none 0 0] 22)).alloc (by simp) (.cells #[.int .i64 0, .int .i64 0] 29)
  have HP0 := Lib.hid ((Holds.new w 22 #[.slice none 0 0]).alloc (.cells #[.int .i64 0, .int .i64 0] 29))
  have HQ0 := Lib.hid (show Holds ((w.alloc (.cells #[.slice none 0 0] 22)).alloc (.cells #[.int .i64 0, .int .i64 0] 29)) (w.heap.size + 1) 29 #[.int .i64 0, .int .i64 0] from by have := Holds.new (w.alloc (.cells #[.slice none 0 0] 22)) 29 #[.int .i64 0, .int .i64 0]; rwa [World.size_alloc] at this)
  have HL := Lib.hid (lines_any A c bs _ (hA.below (B := 0) hB0) ho hc (by unfold maxLen; omega))
  have HA := Lib.hid hA
  have HW := Lib.hid hw
  have HK := Lib.hid hk
  have HLS := Lib.hid hls
  have hx : parseX bs = match textF bs with | some f => .error ((f.1 : Int), (f.2 : Int)) | none => linesX (textL bs) := rfl
  obtain ⟨PX, hPX⟩ : ∃ PX, parseX bs = PX := ⟨_, rfl⟩
  rw [hPX] at hx ⊢
  have HX := Lib.hid hx
  have hbig := hm
  clear hA hw hk hls hx hPX
  unfold LinesPost at HL
  go_enter_defers Tryz.func37, Tryz.ntmps37
  go_wp2_with fail
  refine HL.out.mono ?_
  rintro e w1 ⟨v, rfl, hown, hB1⟩
  generalize (w.alloc (.cells #[.slice none 0 0] 22)).alloc (.cells #[.int .i64 0, .int .i64 0] 29) = W0 at *
  have hl0 := HQ0.out.lt
  have HP1 := Lib.hid (HP0.out.below hB1 (by omega))
  have HQ1 := Lib.hid (HQ0.out.below hB1 hl0)
  have hB2 := alloc1 w1 (.cells #[.int .i64 (textE bs), .int .i64 (textP bs)] 29)
  have HX2 := Lib.hid (Holds.new w1 29 #[.int .i64 (textE bs), .int .i64 (textP bs)])
  have HP2 := Lib.hid (HP1.out.alloc (.cells #[.int .i64 (textE bs), .int .i64 (textP bs)] 29))
  have HQ2 := Lib.hid (HQ1.out.alloc (.cells #[.int .i64 (textE bs), .int .i64 (textP bs)] 29))
  have hB1' := nxt hB0 hB1 hB0.size
  have hB2' := nxt hB1' hB2 hB1'.size
  have HOWN := Lib.hid (hown.below hB2)
  have hl1 := hB1.size
  clear hown
  cases htf : textF bs with
  | some f =>
    have hx2 : PX = .error ((f.1 : Int), (f.2 : Int)) := by rw [HX.out, htf]
    have HX2' := Lib.hid hx2
    clear hx2
    have e1 : textE bs = (f.1 : Int) := by rw [textE, htf]
    have e2 : textP bs = (f.2 : Int) := by rw [textP, htf]
    generalize textE bs = te at *
    generalize textP bs = tp at *
    subst e1 e2
    have hne : ((f.1 : Int) != 0) = true := by rw [bne_iff_ne]; have := text_err htf; omega
    go_upto_region 3 with fail
    generalize w1.alloc (.cells #[.int .i64 (f.1 : Int), .int .i64 (f.2 : Int)] 29) = W2 at *
    have x0 : W2.cell? ⟨w1.heap.size, 0, none⟩ = some (.int .i64 (f.1 : Int)) := HX2.out.c (j := 0) rfl
    have x1 : W2.cell? ⟨w1.heap.size, 1, none⟩ = some (.int .i64 (f.2 : Int)) := HX2.out.c (j := 1) rfl
    have p0 : W2.cell? ⟨w.heap.size, 0, none⟩ = some (.slice none 0 0) := HP2.out.c (j := 0) rfl
    have q0 : W2.cell? ⟨w.heap.size + 1, 0, none⟩ = some (.int .i64 0) := HQ2.out.c (j := 0) rfl
    have q1 : W2.cell? ⟨w.heap.size + 1, 1, none⟩ = some (.int .i64 0) := HQ2.out.c (j := 1) rfl
    have hne1 : ¬ w1.heap.size = w.heap.size := by omega
    have hne2 : ¬ w1.heap.size = w.heap.size + 1 := by omega
    have y0 := HP2.out.frozen
    have y1 := HQ2.out.frozen
    have g1 := ((HP2.out.set 0 (.slice none 0 0)).off (B' := w.heap.size + 1) (o := 0) (.int .i64 (f.1 : Int)) (by omega)).off (B' := w.heap.size + 1) (o := 1) (.int .i64 (f.2 : Int)) (by omega)
    have g2 := ((HQ2.out.off (B' := w.heap.size) (o := 0) (.slice none 0 0) (by omega)).set 0 (.int .i64 (f.1 : Int))).set 1 (.int .i64 (f.2 : Int))
    have hB9 := ((hB2'.setCell (p := ⟨w.heap.size, 0, none⟩) (Nat.le_refl _) (.slice none 0 0)).setCell (p := ⟨w.heap.size + 1, 0, none⟩) (by simp) (.int .i64 (f.1 : Int))).setCell (p := ⟨w.heap.size + 1, 1, none⟩) (by simp) (.int .i64 (f.2 : Int))
    go_region
    go_wp2
    generalize ((W2.setCell ⟨w.heap.size, 0, none⟩ (.slice none 0 0)).setCell ⟨w.heap.size + 1, 0, none⟩ (.int .i64 (f.1 : Int))).setCell ⟨w.heap.size + 1, 1, none⟩ (.int .i64 (f.2 : Int)) = W9 at *
    have k0 : W9.cell? ⟨w.heap.size, 0, none⟩ = some (.slice none 0 0) := g1.c (j := 0) rfl
    have k1 : W9.cell? ⟨w.heap.size + 1, 0, none⟩ = some (.int .i64 (f.1 : Int)) := g2.c (j := 0) rfl
    have k2 : W9.cell? ⟨w.heap.size + 1, 1, none⟩ = some (.int .i64 (f.2 : Int)) := g2.c (j := 1) rfl
    refine ⟨.tuple #[.slice none 0 0, .agg #[.int .i64 (f.1 : Int), .int .i64 (f.2 : Int)]], by simp [results, Tryz.f37, go_sem, k0, k1, k2], ?_⟩
    rw [HX2'.out]
    exact ⟨rfl, hB9.drew⟩
  | none =>
    have hx2 : PX = linesX (textL bs) := by rw [HX.out, htf]
    have HX2' := Lib.hid hx2
    clear hx2
    have e1 : textE bs = 0 := by rw [textE, htf]
    have e2 : textP bs = 0 := by rw [textP, htf]
    generalize textE bs = te at *
    generalize textP bs = tp at *
    subst e1 e2
    obtain ⟨ls, hls⟩ : ∃ ls, textL bs = ls := ⟨_, rfl⟩
    have hlen : ls.length ≤ 1000001 := by rw [← hls]; have := text_len bs; omega
    rw [hls] at HOWN HLS HX2'
    obtain ⟨Al, cl, rfl, hrl⟩ := HOWN.out.readC
    have HRL := Lib.hid hrl
    clear hls hrl HL
    have hB3 := alloc1 (w1.alloc (.cells #[.int .i64 0, .int .i64 0] 29)) (.cells #[.slice A bs.length c, .slice none 0 0] 117)
    have HR3 := Lib.hid (Holds.new (w1.alloc (.cells #[.int .i64 0, .int .i64 0] 29)) 117 #[.slice A bs.length c, .slice none 0 0])
    have hs2 : (w1.alloc (.cells #[.int .i64 0, .int .i64 0] 29)).heap.size = w1.heap.size + 1 := by simp
    obtain ⟨B1, hB1e⟩ : ∃ B1, w1.heap.size + 1 = B1 := ⟨_, rfl⟩
    rw [hs2, hB1e] at HR3 hB3
    have hs2' := hs2.trans hB1e
    have HS2 := Lib.hid hs2'
    clear hs2 hs2'
    go_wp2_with fail
    generalize w1.alloc (.cells #[.int .i64 0, .int .i64 0] 29) = W2 at *
    have hB3' := nxt hB2' (hB3.mono (by rw [HS2.out]; exact Nat.le_refl _)) hB2'.size
    have hs3 : (W2.alloc (.cells #[.slice A bs.length c, .slice none 0 0] 117)).heap.size = B1 + 1 := by rw [World.size_alloc, HS2.out]
    generalize W2.alloc (.cells #[.slice A bs.length c, .slice none 0 0] 117) = W3 at *
    refine (kinds_any B1 W3 (HK.out.on hB3')).mono ?_
    rintro e w4 ⟨M, rfl, hM, hKM, hB4⟩
    have HR4 := Lib.hid (HR3.out.below hB4 (by omega))
    have hB4' := nxt hB3' hB4 hB3'.size
    have hBr4 : Below B1 W2 w4 := hB3.trans (hB4.mono (by omega))
    have HKM := Lib.hid hKM
    have hMB : B1 < M := by omega
    have hs4 := hB4.size
    have hb14 := HR4.out.lt
    clear hKM hM hs3
    go_wp2_with (at_make; refine wpList_make_own _ rfl _ _ 22 rfl B1 55 i0 (.agg evZ) 11 Tryz.underlying22 hi hz0 hz1 .i64 .i64 _ ls.length rfl rfl rfl (by rw [hz2]; omega) (by unfold maxLen; omega) (by omega) ?_; intro w5 hown5 hg5; have hB5 : Below w4.heap.size w4 w5 := (Below.refl _ _).grown hg5 (Nat.le_refl _) (fun k e => by cases e); have HOWN5 := Lib.hid hown5; have HB5 := Lib.hid hB5; clear hown5 hg5 hB5)
    have HR5 := Lib.hid (HR4.out.below HB5.out HR4.out.lt)
    have HKM5 := Lib.hid (HKM.out.below HB5.out)
    have hB5' := nxt hB4' HB5.out hB4'.size
    have hBr5 : Below B1 W2 w5 := hBr4.trans (HB5.out.mono (by omega))
    have HB5' := Lib.hid hB5'
    have HBR5 := Lib.hid hBr5
    have hw5 := HB5.out.size
    have HPI := Lib.hid (show PI B1 M A c bs ls W2 0 (.slice (some ⟨w4.heap.size, 0, none⟩) 0 ls.length) w5 from ⟨hBr5, ⟨_, HR5.out⟩, HKM5.out, [], rfl, rfl, HOWN5.out, fun z hz => by cases hz⟩)
    have HP2' := Lib.hid HP2.out
    have hw2 : w.heap.size + 1 < B1 := by have := HQ2.out.lt; rw [HS2.out] at this; exact this
    clear HP0 HP1 HQ0 HQ1 HR3 HR4 HKM HKM5 HOWN HX2 HX HB5 HBR5 hBr5 hBr4 hB0 hB1 hB1' hB2 hB3 hB3' hB4 hB4' hB5' HOWN5 HR5
    go_wp2
    go_loopw [8, 31] (fun s8 i31 wr => ∃ (k : Nat) (q : Value), k ≤ ls.length ∧ i31 = .int .i64 k ∧ s8 = q ∧ PI B1 M A c bs ls W2 k q wr) (fun s8 i31 wr => ls.length - (intOf i31).toNat)
    case atStart => exact ⟨0, _, Nat.zero_le _, rfl, rfl, HPI.out⟩
    case round =>
      obtain ⟨k, q, hk, rfl, rfl, hpi⟩ := hrel
      have HI := Lib.hid hpi
      clear hpi
      by_cases hlt : k < ls.length
      · obtain ⟨b, off, rfl, hb, hcl⟩ := (HRL.out.below (by rw [HS2.out]; exact HI.out.below)) (by omega)
        obtain ⟨Aw, cw, c1, c2, c3, c4⟩ := hcl k hlt
        obtain ⟨hfine, hlined⟩ := HLS.out (ls[k]?.getD (0, [])) (by rw [List.getElem?_eq_getElem hlt]; exact List.getElem_mem hlt)
        have htk := lines_take hlt
        obtain ⟨⟨at0, ws⟩, hln⟩ : ∃ x : Ln, ls[k]?.getD (0, []) = x := ⟨_, rfl⟩
        rw [hln] at c1 c2 c3 c4 hfine hlined htk
        dsimp only at c1 c2 c3 c4 hfine hlined
        have HTK := Lib.hid htk
        have HC3 := Lib.hid c3
        have HFI := Lib.hid hfine
        have HLI := Lib.hid hlined
        obtain ⟨vr, hr⟩ := HI.out.rdr
        obtain ⟨zs, hz1', hz2', hrow, hrows⟩ := HI.out.rows
        have hbw := HI.out.below
        have hsw := hbw.size
        have hk0 : (0 : Int) ≤ (k : Int) := by omega
        have hk1 : (k : Int) < (ls.length : Int) := by omega
        have hkd : decide (k < ls.length) = true := decide_eq_true hlt
        have hb1r := hr.lt
        have HROW := Lib.hid hrow
        obtain ⟨Aq, cq, rfl⟩ := row_one hrow
        have HROWS := Lib.hid hrows
        have HRR := Lib.hid hr
        have HBW := Lib.hid hbw
        have HZS := Lib.hid hz1'
        have HM := Lib.hid HI.out.map
        have HR2 := Lib.hid (hr.alloc (.cells #[.int .i64 at0, .slice Aw ws.length cw] 121))
        have r0 := HR2.out.c (j := 0) rfl
        have r1 := HR2.out.c (j := 1) rfl
        have ry := HR2.out.frozen
        have o2 : Only B1 wr ((wr.setCell ⟨B1, 1, none⟩ (.slice Aw ws.length cw)).alloc (.cells #[.int .i64 at0, .slice Aw ws.length cw] 121)) := ((Only.of (Below.refl wr.heap.size wr) (Nat.le_refl _)).set 1 _).then (Only.of (alloc1 _ _) (Nat.le_refl _))
        have h2 := hr.set 1 (.slice Aw ws.length cw)
        simp only [List.setIfInBounds_toArray, List.set_cons_zero, List.set_cons_succ] at h2
        have h2 := h2.alloc (.cells #[.int .i64 at0, .slice Aw ws.length cw] 121)
        have O2 := Lib.hid o2
        have H2 := Lib.hid h2
        clear hz1' hrow hrows hr hbw htk c3 hfine hlined hcl hln o2 h2
        go_wp2_with fail
        generalize (wr.setCell ⟨B1, 1, none⟩ (.slice Aw ws.length cw)).alloc (.cells #[.int .i64 at0, .slice Aw ws.length cw] 121) = wY at *
        have hOs := O2.out.size
        have hb1w : B1 ≤ wr.heap.size := Nat.le_of_lt hb1r
        have hoY := O2.out.below (Nat.le_refl B1) hb1w
        have hbY := HBW.out.trans hoY
        have hwY : Below w.heap.size w wY := hB2'.trans (hbY.mono (by omega))
        have hc3 := HC3.out
        rw [HS2.out] at hc3
        have hrdr : Rdr wY B1 A c bs ws := ⟨⟨Aw, cw, H2.out, (hc3.below hoY).mono (Nat.le_trans hb1w hOs)⟩, HA.out.below (B := 0) hwY, HFI.out, Aw, cw, H2.out, c4⟩
        have hkmY := HM.out.of (O2.out.block M HM.out.lt (by omega))
        have hev := event_any B1 M A c bs ws wY hrdr HLI.out hc (HW.out.on hwY) hkmY
        have hrowY := HROW.out.kept O2.out.grown (.inr (HRR.out.not_row HROW.out (by decide)).symm)
        have hrowsY := HROWS.out.kept O2.out.grown (fun r e => by cases e; exact ⟨_, _, _, HRR.out, by decide⟩)
        have HROWY := Lib.hid hrowY
        have HROWSY := Lib.hid hrowsY
        have HKMY := Lib.hid hkmY
        have HBY := Lib.hid hbY
        have HWY := Lib.hid hwY
        have HEV := Lib.hid hev
        clear hrowY hrowsY hkmY hbY hwY hev hrdr hc3 r0 r1 ry HC3 HR2
        unfold EvPost at HEV
        cases hlx : lineX ws with
        | error f =>
          have hfin : PX = .error f := by
            rw [HX2'.out]
            have e1 := lines_snoc (ls.take k) (at0, ws) _ HZS.out
            rw [← HTK.out] at e1
            dsimp only at e1
            rw [hlx] at e1
            have e2 := lines_error (ls.take (k + 1)) (ls.drop (k + 1)) f e1
            rwa [List.take_append_drop] at e2
          have HFIN := Lib.hid hfin
          rw [hlx] at HEV
          refine HEV.out.mono ?_
          rintro e w6 ⟨rfl, hB6⟩
          have hB6' := nxt HWY.out hB6 HWY.out.size
          have hb6 := HBY.out.trans (hB6.mono (by have := H2.out.lt; omega))
          have HP6 := HP2.out.below hb6 (by omega)
          have HQ6 := HQ2.out.below hb6 hw2
          clear hfin
          go_wp2
          refine leaves_cons (f := 58) (args := #[.pointer (some ⟨w.heap.size, 0, none⟩), .pointer (some ⟨w.heap.size + 1, 0, none⟩)]) (by simp) (by simp [go_sem]) ?_
          refine (catch_panic w.heap.size w6 f.1 f.2 HP6 HQ6).mono ?_
          rintro e u' w9 ⟨rfl, rfl, hP9, hQ9, hB9⟩
          have k0 : w9.cell? ⟨w.heap.size, 0, none⟩ = some (.slice none 0 0) := hP9.c (j := 0) rfl
          have k1 : w9.cell? ⟨w.heap.size + 1, 0, none⟩ = some (.int .i64 f.1) := hQ9.c (j := 0) rfl
          have k2 : w9.cell? ⟨w.heap.size + 1, 1, none⟩ = some (.int .i64 f.2) := hQ9.c (j := 1) rfl
          refine ⟨.tuple #[.slice none 0 0, .agg #[.int .i64 f.1, .int .i64 f.2]], by simp [results, Tryz.f37, go_sem, k0, k1, k2], ?_⟩
          rw [HFIN.out]
          exact ⟨rfl, hB6'.trans hB9⟩
        | ok ev =>
          have hfin : linesX (ls.take (k + 1)) = .ok (zs.map Prod.fst ++ [ev]) := by
            have e1 := lines_snoc (ls.take k) (at0, ws) _ HZS.out
            rw [← HTK.out] at e1
            dsimp only at e1
            rw [hlx] at e1
            exact e1
          have HFIN := Lib.hid hfin
          rw [hlx] at HEV
          refine HEV.out.mono ?_
          rintro e w6 ⟨Ae, ce, rfl, hoe, hB6⟩
          have hYb := H2.out.lt
          have HOE := Lib.hid (row_mono hoe (Nat.le_of_lt hYb))
          have HB6 := Lib.hid hB6
          have HROW6 := Lib.hid (row_below HROWY.out hB6)
          have HROWS6 := Lib.hid (HROWSY.out.below hB6)
          have HKM6 := Lib.hid (HKMY.out.below hB6)
          have HR6 := Lib.hid (H2.out.below hB6 hYb)
          have hs6 := hB6.size
          have hb6 := HBY.out.trans (hB6.mono (Nat.le_of_lt hYb))
          have HBB6 := Lib.hid hb6
          have hcn := cell_new_any w6 55 (evC ev Ae ce)
          have HCN := Lib.hid hcn
          clear hfin hoe hB6 hb6 hcn
          unfold evV
          unfold evC at *
          go_wp2_with (at_builtin; refine wpList_append_own_at _ rfl _ _ 22 rfl B1 55 i0 (.agg evZ) 11 120 Tryz.underlying22 hi hz0 hz1 hz2 rfl (by decide) _ _ _ rfl (HROW6.out.alloc _) ⟨w6.heap.size, 0, none⟩ 1 1 _ rfl rfl HCN.out (by intro u hu; simp at hu; rcases hu with rfl | rfl | rfl | rfl | rfl | rfl | rfl | rfl | rfl | rfl | rfl <;> rfl) (by unfold maxLen; omega) (by omega) (by simp; omega) ?_; intro v7 w7 hown7 hg7 hnil7 hat7)
          have hgr : ∀ r, (Value.slice Aq k cq).ownBlock = some r → ∃ cs t m, (w6.alloc (.cells (evC ev Ae ce) 55)).heap[r]? = some (.cells cs t m) ∧ t ≠ 3 := fun r e => by
            obtain ⟨cur, hcur⟩ := row_cells (HROW6.out.alloc (.cells (evC ev Ae ce) 55)) e
            exact ⟨cur, _, _, hcur, by decide⟩
          have hzl : (zs ++ [((ev, Ae, ce) : EvZ)]).length = k + 1 := by rw [List.length_append, hz2']; rfl
          refine ⟨⟨k + 1, v7, by omega, by go_num, rfl, ?_, ⟨_, (HR6.out.alloc _).kept hg7 (HR6.out.not_row HROW6.out (by decide))⟩, ?_, zs ++ [(ev, Ae, ce)], ?_, hzl, ?_, ?_⟩, by simp [intOf]; omega⟩
          · exact (HBB6.out.alloc (by omega) _).grown hg7 (by simp; omega) (fun r e => (HROW6.out.lt r e).1)
          · refine HKM6.out.of ((hg7.block M (by simp; have := HKM6.out.lt; omega) (kmap_row HKM6.out HROW6.out)).trans (Below.heap_alloc w6 _ M HKM6.out.lt))
          · rw [List.map_append]; exact HFIN.out
          · rw [evsC_snoc]; exact hown7
          · intro z hz
            rcases List.mem_append.1 hz with h | h
            · exact ((HROWS6.out.alloc (.cells (evC ev Ae ce) 55)).kept hg7 hgr) z h
            · exact (((EvRows.one (z := (ev, Ae, ce)) HOE.out).alloc (.cells (evC ev Ae ce) 55)).kept hg7 hgr) z h
      · have hkk : k = ls.length := by omega
        subst hkk
        have hkd : decide (ls.length < ls.length) = false := decide_eq_false hlt
        obtain ⟨zs, hz1', hz2', hrow, hrows⟩ := HI.out.rows
        obtain ⟨Aq, cq, rfl⟩ := row_one hrow
        have hbw := HI.out.below
        have HZ1 := Lib.hid hz1'
        have HROW := Lib.hid hrow
        have HROWS := Lib.hid hrows
        have hPr := HP2.out.below hbw (by omega)
        have hQr := HQ2.out.below hbw hw2
        have hwr : Below w.heap.size w wr := hB2'.trans (hbw.mono (by omega))
        have HPR := Lib.hid hPr
        have HQR := Lib.hid hQr
        have HWR := Lib.hid hwr
        have p0 : wr.cell? ⟨w.heap.size, 0, none⟩ = some (.slice none 0 0) := hPr.c (j := 0) rfl
        have q0 : wr.cell? ⟨w.heap.size + 1, 0, none⟩ = some (.int .i64 0) := hQr.c (j := 0) rfl
        have q1 : wr.cell? ⟨w.heap.size + 1, 1, none⟩ = some (.int .i64 0) := hQr.c (j := 1) rfl
        have y0 := hPr.frozen
        have y1 := hQr.frozen
        have g1 := ((hPr.set 0 (.slice Aq ls.length cq)).off (B' := w.heap.size + 1) (o := 0) (.int .i64 0) (by omega)).off (B' := w.heap.size + 1) (o := 1) (.int .i64 0) (by omega)
        have g2 := ((hQr.off (B' := w.heap.size) (o := 0) (.slice Aq ls.length cq) (by omega)).set 0 (.int .i64 0)).set 1 (.int .i64 0)
        have hB9 := ((hwr.setCell (p := ⟨w.heap.size, 0, none⟩) (Nat.le_refl _) (.slice Aq ls.length cq)).setCell (p := ⟨w.heap.size + 1, 0, none⟩) (by simp) (.int .i64 0)).setCell (p := ⟨w.heap.size + 1, 1, none⟩) (by simp) (.int .i64 0)
        have o1 : Only w.heap.size wr (wr.setCell ⟨w.heap.size, 0, none⟩ (.slice Aq ls.length cq)) := (Only.of (Below.refl wr.heap.size wr) (Nat.le_refl _)).set 0 _
        have r1 := hrow.kept o1.grown (.inr (hPr.not_row hrow (by decide)).symm)
        have s1 := hrows.kept o1.grown (fun r e => by cases e; exact ⟨_, _, _, hPr, by decide⟩)
        have hQ1 := hQr.off (B' := w.heap.size) (o := 0) (.slice Aq ls.length cq) (by omega)
        have o2 : Only (w.heap.size + 1) (wr.setCell ⟨w.heap.size, 0, none⟩ (.slice Aq ls.length cq)) (((wr.setCell ⟨w.heap.size, 0, none⟩ (.slice Aq ls.length cq)).setCell ⟨w.heap.size + 1, 0, none⟩ (.int .i64 0)).setCell ⟨w.heap.size + 1, 1, none⟩ (.int .i64 0)) := ((Only.of (Below.refl _ _) (Nat.le_refl _)).set 0 _).set 1 _
        have r2 := r1.kept o2.grown (.inr (hQ1.not_row r1 (by decide)).symm)
        have s2 := s1.kept o2.grown (fun r e => by cases e; exact ⟨_, _, _, hQ1, by decide⟩)
        have HF := Lib.hid (And.intro g1 (And.intro g2 (And.intro hB9 (And.intro r2 s2))))
        clear hz1' hrow hrows hbw hPr hQr hwr g1 g2 hB9 o1 r1 s1 hQ1 o2 r2 s2
        go_wp2
        generalize ((wr.setCell ⟨w.heap.size, 0, none⟩ (.slice Aq ls.length cq)).setCell ⟨w.heap.size + 1, 0, none⟩ (.int .i64 0)).setCell ⟨w.heap.size + 1, 1, none⟩ (.int .i64 0) = w8 at *
        obtain ⟨g1, g2, hB8, r2, s2⟩ := HF.out
        refine leaves_cons (f := 58) (args := #[.pointer (some ⟨w.heap.size, 0, none⟩), .pointer (some ⟨w.heap.size + 1, 0, none⟩)]) (by simp) (by simp [go_sem]) ?_
        refine (catch_idle ⟨w.heap.size, 0, none⟩ ⟨w.heap.size + 1, 0, none⟩ w8).mono ?_
        rintro e u' w9 ⟨rfl, rfl, hB9⟩
        have k0 : w9.cell? ⟨w.heap.size, 0, none⟩ = some (.slice Aq ls.length cq) := (g1.below hB9 g1.lt).c (j := 0) rfl
        have k1 : w9.cell? ⟨w.heap.size + 1, 0, none⟩ = some (.int .i64 0) := (g2.below hB9 g2.lt).c (j := 0) rfl
        have k2 : w9.cell? ⟨w.heap.size + 1, 1, none⟩ = some (.int .i64 0) := (g2.below hB9 g2.lt).c (j := 1) rfl
        refine ⟨.tuple #[.slice Aq ls.length cq, .agg #[.int .i64 0, .int .i64 0]], by simp [results, Tryz.f37, go_sem, k0, k1, k2], ?_⟩
        have hfin : PX = .ok (zs.map Prod.fst) := by
          rw [HX2'.out, ← HZ1.out, List.take_length]
        have hzl : (zs.map Prod.fst).length = ls.length := by rw [List.length_map, hz2']
        rw [hfin]
        refine ⟨Aq, cq, by rw [hzl], ⟨zs, rfl, ?_, (s2.below hB9).mono (by omega)⟩, nxt hB8 hB9 hB8.size⟩
        rw [hzl, hz2']
        exact row_mono (row_below r2 hB9) (by omega)
end Go.Proofs.YtpdbkjnaicjfdaaGreatDoor
