/- Contracts of the layer state: Read. -/
import Derived.Test.YtbenfdbjpefegaaDoorStL
namespace Go.Proofs.YtbenfdbjpefegaaDoor
open Go.RowKit Go.Maps
set_option linter.unusedVariables false

def ReadPost (R : St × Int × Int) (w : World) (e : Ending) (w' : World) : Prop :=
  ∃ A c, e = .returned (.tuple #[stV R.1.1 R.1.2.1 A R.1.2.2.length c, .agg #[.int .i64 R.2.1, .int .i64 R.2.2]]) ∧ OwnInts w.heap.size w' (.slice A R.1.2.2.length c) R.1.2.2 ∧ Below w.heap.size w w'

theorem read_none {s : List UInt8} (h : typeL (partL s) = 0) : readL s = (st0, 6, 0) := by unfold readL; rw [if_pos h]
theorem read_bad {s : List UInt8} (h : typeL (partL s) ≠ 0) (h2 : (behindR s (partL s).length).2.1 ≠ 0) : readL s = (st0, (behindR s (partL s).length).2.1, (behindR s (partL s).length).2.2) := by
  unfold readL; rw [if_neg h, if_neg h2]
theorem read_no {s : List UInt8} (h : typeL (partL s) ≠ 0) (h2 : (behindR s (partL s).length).2.1 = 0) (h3 : (ofNums (typeL (partL s)) (behindR s (partL s).length).1).2 = false) : readL s = (st0, 5, 0) := by
  unfold readL; rw [if_neg h, if_pos h2, h3]; rfl
theorem read_yes {s : List UInt8} (h : typeL (partL s) ≠ 0) (h2 : (behindR s (partL s).length).2.1 = 0) (h3 : (ofNums (typeL (partL s)) (behindR s (partL s).length).1).2 = true) : readL s = ((ofNums (typeL (partL s)) (behindR s (partL s).length).1).1, 0, 0) := by
  unfold readL; rw [if_neg h, if_pos h2, if_pos h3]

theorem get_nil {l : List UInt8} (h : getE l = 0) : 1 ≤ l.length := by
  cases l with
  | nil => exact absurd h (by decide)
  | cons x r => simp
theorem beh_len : ∀ (f : Nat) (r : List UInt8) (k : Nat) (acc : List Int), 2 * (behindL f r k acc).1.length ≤ 2 * acc.length + r.length
  | 0, _, _, acc => by simp [behindL]
  | f + 1, [], _, acc => by simp [behindL]
  | f + 1, x :: r, k, acc => by
    unfold behindL
    split
    · next he =>
      have h1 := get_nil he
      have h2 := part_le r
      refine Nat.le_trans (beh_len f _ _ _) ?_
      rw [List.length_append, List.length_drop]; simp; omega
    · simp
theorem Holds.off {W : World} {B B' o : Nat} {t : TypeId} {cs : Array Value} (h : Holds W B t cs) (u : Value) (hne : B' ≠ B) : Holds (W.setCell ⟨B', o, none⟩ u) B t cs := h.of (Below.heap_setCell _ _ _ _ (fun e => hne e.symm))
theorem sets_fin {B : Nat} {W : World} {cs ds : Array Value} (T N E Q : Value) (V : Value) (hz : Holds W B 24 cs) (hf : Holds W (B + 1) 44 ds) (h3 : cs.size = 3) (h2 : ds.size = 2) :
    ∃ W', W' = ((((W.setCell ⟨B, 0, none⟩ T).setCell ⟨B, 1, none⟩ N).setCell ⟨B, 2, none⟩ V).setCell ⟨B + 1, 0, none⟩ E).setCell ⟨B + 1, 1, none⟩ Q ∧ W'.cell? ⟨B, 0, none⟩ = some T ∧ W'.cell? ⟨B, 1, none⟩ = some N ∧ W'.cell? ⟨B, 2, none⟩ = some V ∧ W'.cell? ⟨B + 1, 0, none⟩ = some E ∧ W'.cell? ⟨B + 1, 1, none⟩ = some Q ∧
      Below B W W' ∧ ∀ base v n xs, W.ownsRow base 3 1 v n xs → W'.ownsRow base 3 1 v n xs := by
  refine ⟨_, rfl, ?_⟩
  have g1 := ((hz.set 0 T).set 1 N).set 2 V
  have g2 := ((hf.off (B' := B) (o := 0) T (by omega)).off (B' := B) (o := 1) N (by omega)).off (B' := B) (o := 2) V (by omega)
  have o1 : Only B W (((W.setCell ⟨B, 0, none⟩ T).setCell ⟨B, 1, none⟩ N).setCell ⟨B, 2, none⟩ V) := (((Only.of (Below.refl W.heap.size W) (Nat.le_refl _)).set 0 T).set 1 N).set 2 V
  have hl1 := hf.lt
  have hl2 := g2.lt
  generalize ((W.setCell ⟨B, 0, none⟩ T).setCell ⟨B, 1, none⟩ N).setCell ⟨B, 2, none⟩ V = W1 at *
  have g3 := (g2.set 0 E).set 1 Q
  have g4 := (g1.off (B' := B + 1) (o := 0) E (by omega)).off (B' := B + 1) (o := 1) Q (by omega)
  have o2 : Only (B + 1) W1 ((W1.setCell ⟨B + 1, 0, none⟩ E).setCell ⟨B + 1, 1, none⟩ Q) := ((Only.of (Below.refl W1.heap.size W1) (Nat.le_refl _)).set 0 E).set 1 Q
  generalize (W1.setCell ⟨B + 1, 0, none⟩ E).setCell ⟨B + 1, 1, none⟩ Q = W2 at *
  obtain ⟨c0, c1, c2, rfl⟩ : ∃ c0 c1 c2, cs = #[c0, c1, c2] := by
    obtain ⟨l⟩ := cs
    match l, h3 with
    | [a, b, c], _ => exact ⟨a, b, c, rfl⟩
  obtain ⟨d0, d1, rfl⟩ : ∃ d0 d1, ds = #[d0, d1] := by
    obtain ⟨l⟩ := ds
    match l, h2 with
    | [a, b], _ => exact ⟨a, b, rfl⟩
  refine ⟨g4.c (j := 0) rfl, g4.c (j := 1) rfl, g4.c (j := 2) rfl, g3.c (j := 0) rfl, g3.c (j := 1) rfl, ?_, ?_⟩
  · exact nxt (o1.below (Nat.le_refl _) (by omega)) (o2.below (lo := B) (by omega) (by omega)) (Nat.le_refl _)
  · intro base v n xs h
    have r1 := h.kept o1.grown (.inr (hz.not_row h (by decide)).symm)
    exact r1.kept o2.grown (.inr (g2.not_row r1 (by decide)).symm)

def zSt : Obj := .cells #[.int .i64 0, .int .i64 0, .slice none 0 0] 24
def zFt : Obj := .cells #[.int .i64 0, .int .i64 0] 44

/-- What stateOf answers, in whichever way. -/
def OfPost (t : Int) (l : List Int) (base : Nat) (w : World) (e : Ending) (w' : World) : Prop :=
  ∃ A c, e = .returned (.tuple #[stV (ofNums t l).1.1 (ofNums t l).1.2.1 A (ofNums t l).1.2.2.length c, .bool (ofNums t l).2]) ∧ OwnInts base w' (.slice A (ofNums t l).1.2.2.length c) (ofNums t l).1.2.2 ∧ Below w.heap.size w w'
theorem nil_row (base : Nat) (w : World) : OwnInts base w (.slice none 0 0) [] := World.ownsRow_nil _ _ _ _
theorem of_any (t : Int) (A : Option Addr) (c : Nat) (l : List Int) (base : Nat) (w : World) (ho : OwnInts base w (.slice A l.length c) l) (hl : l.length ≤ 1000) :
    Calls Tryd.prog 55 #[.int .i64 t, .slice A l.length c] w (OfPost t l base w) := by
  have hints := own_ints rfl ho
  cases hs : singB t
  · refine (of_many t A c l w hs hints hl).mono ?_
    rintro e w' ⟨rfl, hB⟩
    have e1 : ofNums t l = ((t, 0, l), checkE t 0 l == 0) := by unfold ofNums; rw [hs]; rfl
    unfold OfPost
    rw [e1]
    exact ⟨A, c, rfl, row_below ho hB, hB⟩
  · by_cases h1 : l.length = 1
    · obtain ⟨x, rfl⟩ : ∃ x, l = [x] := by
        match l, h1 with
        | [x], _ => exact ⟨x, rfl⟩
      refine (of_one t x A c w hs hints).mono ?_
      rintro e w' ⟨rfl, hB⟩
      have e1 : ofNums t [x] = ((t, x, []), checkE t x [] == 0) := by unfold ofNums; rw [hs]; rfl
      unfold OfPost
      rw [e1]
      exact ⟨none, 0, rfl, nil_row _ _, hB⟩
    · refine (of_bad t A c l w hs h1).mono ?_
      rintro e w' ⟨rfl, hB⟩
      have e1 : ofNums t l = (st0, false) := by unfold ofNums; rw [hs, if_pos rfl, if_neg h1]
      unfold OfPost
      rw [e1]
      exact ⟨none, 0, rfl, nil_row _ _, hB⟩

set_option maxRecDepth 100000 in
set_option maxHeartbeats 1000000 in
theorem read_any (s : ByteArray) (w : World) (hw : Wds w) (hs : s.size ≤ 2000) :
    Calls Tryd.prog 29 #[.string s] w (ReadPost (readL s.data.toList) w) := by
  have hB0 : Below w.heap.size w ((w.alloc zSt).alloc zFt) := (alloc1 w _).alloc (by simp) _
  have HZ := Lib.hid (show Holds ((w.alloc zSt).alloc zFt) w.heap.size 24 #[.int .i64 0, .int .i64 0, .slice none 0 0] from (Holds.new w 24 #[.int .i64 0, .int .i64 0, .slice none 0 0]).alloc _)
  have HF := Lib.hid (show Holds ((w.alloc zSt).alloc zFt) (w.heap.size + 1) 44 #[.int .i64 0, .int .i64 0] from by have := Holds.new (w.alloc zSt) 44 #[.int .i64 0, .int .i64 0]; rwa [World.size_alloc] at this)
  have hs0 : w.heap.size + 1 < ((w.alloc zSt).alloc zFt).heap.size := by simp
  have HWD := Lib.hid (hw.on hB0)
  have HB0 := Lib.hid hB0
  have hple := part_size_le s
  have hpd := part_bytes s
  have hpsz := part_size s
  have HCUT := fun W => cut_any s W (by omega)
  unfold CutPost at HCUT
  unfold zSt zFt at *
  obtain ⟨R, hR⟩ : ∃ R, readL s.data.toList = R := ⟨_, rfl⟩
  rw [hR]
  have h1 := read_none (s := s.data.toList)
  have h2 := read_bad (s := s.data.toList)
  have h3 := read_no (s := s.data.toList)
  have h4 := read_yes (s := s.data.toList)
  rw [hR] at h1 h2 h3 h4
  rw [← hpsz] at h2 h3 h4
  rw [← hpd] at h1 h2 h3 h4
  have HBH := fun W => behind_any s (partB s).size W hs hple
  have HTY := fun W hW => typeOf_any (partB s) W hW
  have htl := type_le (partB s).data.toList
  obtain ⟨pb, hpb⟩ : ∃ pb, partB s = pb := ⟨_, rfl⟩
  rw [hpb] at h1 h2 h3 h4 HBH HTY HCUT hple htl
  obtain ⟨tk, htk⟩ : ∃ tk, typeL pb.data.toList = tk := ⟨_, rfl⟩
  rw [htk] at h1 h2 h3 h4 HTY htl
  obtain ⟨Rb, hRb⟩ : ∃ Rb, behindR s.data.toList pb.size = Rb := ⟨_, rfl⟩
  rw [hRb] at h2 h3 h4 HBH
  have hlb : Rb.1.length ≤ 1000 := by
    have h1 := beh_len (s.data.toList.length + 1) (s.data.toList.drop pb.size) pb.size []
    rw [List.length_drop, bytes_len] at h1
    rw [← hRb]
    unfold behindR
    rw [bytes_len]
    simp at h1
    omega
  have H1 := Lib.hid h1
  have H2 := Lib.hid h2
  have H3 := Lib.hid h3
  have H4 := Lib.hid h4
  clear h1 h2 h3 h4 hR hRb htk hpb hpd hpsz hw
  go_enter Tryd.func29, Tryd.ntmps29
  go_wp2_with fail
  generalize (w.alloc (.cells #[.int .i64 0, .int .i64 0, .slice none 0 0] 24)).alloc (.cells #[.int .i64 0, .int .i64 0] 44) = W0 at *
  refine (HCUT W0).mono ?_
  rintro e w1 ⟨u1, v1, rfl, n1, rfl⟩
  have hD1 : Below W0.heap.size W0 (W0.drewN n1) := below_drew0 W0 n1
  go_wp2_with fail
  refine (HTY _ (HWD.out.on hD1)).mono ?_
  rintro e w2 ⟨rfl, rfl⟩
  go_wp2_with fail
  refine (known_any _ _).mono ?_
  rintro e w2 ⟨rfl, rfl⟩
  have HZ1 := Lib.hid (HZ.out.below hD1 (by omega))
  have HF1 := Lib.hid (HF.out.below hD1 hs0)
  have HB1 := Lib.hid (nxt HB0.out hD1 (by omega))
  have hs1 : w.heap.size + 1 < (W0.drewN n1).heap.size := hs0
  clear hD1 hB0
  generalize W0.drewN n1 = W1 at *
  by_cases htk : tk = 0
  · subst htk
    have e1 := H1.out rfl
    subst e1
    have hk : knownB ((0 : Nat) : Int) = false := rfl
    rw [hk]
    have z0 := HZ1.out.c (j := 0) rfl
    have z1 := HZ1.out.c (j := 1) rfl
    have z2 := HZ1.out.c (j := 2) rfl
    have y0 := HZ1.out.frozen 0
    have y1 := HZ1.out.frozen 1
    have y2 := HZ1.out.frozen 2
    have a0 := HF1.out.c (j := 0) rfl
    have a1 := HF1.out.c (j := 1) rfl
    have b0 := HF1.out.frozen 0
    have b1 := HF1.out.frozen 1
    go_wp2
    obtain ⟨W9, hW9, k0, k1, k2, k3, k4, hB9, hrow9⟩ := sets_fin (.int .i64 0) (.int .i64 0) (.int .i64 6) (.int .i64 0) (.slice none 0 0) HZ1.out HF1.out rfl rfl
    rw [← hW9]
    refine bodyPost_ret (v := .tuple #[.agg #[.int .i64 0, .int .i64 0, .slice none 0 0], .agg #[.int .i64 6, .int .i64 0]]) (by simp [results, Tryd.f29, go_sem, k0, k1, k2, k3, k4]) rfl ?_
    exact ⟨none, 0, rfl, nil_row _ _, nxt HB1.out hB9 (Nat.le_refl _)⟩
  · have hk : knownB (tk : Int) = true := known_yes (by omega)
    rw [hk]
    have HTK := Lib.hid htk
    clear htk hk
    go_wp2_with fail
    refine (HBH W1).mono ?_
    intro e w2 hpost
    rcases hpost with ⟨hR0, A2, c2, rfl, ho2, hB2⟩ | ⟨hR0, rfl, hB2⟩
    · have HZ2 := HZ1.out.below hB2 (by omega)
      have HF2 := HF1.out.below hB2 hs1
      have hs2 := hB2.size
      have hBw2 := nxt HB1.out hB2 (by omega)
      have HOF := fun W (hW : Below w2.heap.size w2 W) => of_any tk A2 c2 Rb.1 W1.heap.size W (row_below ho2 hW) hlb
      have HR0 := Lib.hid hR0
      clear hR0
      have hB3 := alloc1 w2 (.cells #[.int .i64 0, .int .i64 0] 44)
      go_wp2_with fail
      generalize hW3 : w2.alloc (.cells #[.int .i64 0, .int .i64 0] 44) = W3 at *
      have hs3 := hB3.size
      clear hW3
      refine (HOF W3 hB3).mono ?_
      rintro e w4 ⟨A4, c4, rfl, ho4, hB4⟩
      have hB24 := nxt hB3 hB4 hs3
      have hs4 := hB4.size
      have hB5 := alloc1 w4 (.cells #[.int .i64 (ofNums tk Rb.1).1.1, .int .i64 (ofNums tk Rb.1).1.2.1, .slice A4 (ofNums tk Rb.1).1.2.2.length c4] 24)
      have HX5 := Holds.new w4 24 #[.int .i64 (ofNums tk Rb.1).1.1, .int .i64 (ofNums tk Rb.1).1.2.1, .slice A4 (ofNums tk Rb.1).1.2.2.length c4]
      have ho5 := row_below ho4 hB5
      have h3 := H3.out HTK.out HR0.out
      have h4 := H4.out HTK.out HR0.out
      unfold stV
      obtain ⟨⟨⟨T, N, L⟩, ok⟩, hof⟩ : ∃ x, ofNums tk Rb.1 = x := ⟨_, rfl⟩
      rw [hof] at h3 h4 ho4 hB5 HX5 ho5 ⊢
      dsimp only at h3 h4 ho4 hB5 HX5 ho5 ⊢
      clear hof HBH HCUT HTY HOF
      have hB25 := nxt hB24 hB5 (by omega)
      have hw4l : w4.heap.size < (w4.alloc (.cells #[.int .i64 T, .int .i64 N, .slice A4 L.length c4] 24)).heap.size := by simp
      have HZ5 := HZ2.below hB25 (by omega)
      have HF5 := HF2.below hB25 (by omega)
      have hBw5 := nxt hBw2 hB25 (by omega)
      have HO5 := Lib.hid ho5
      have H3' := Lib.hid h3
      have H4' := Lib.hid h4
      clear h3 h4 ho4 ho5 hB5
      go_upto_region 9 with fail
      generalize w4.alloc (.cells #[.int .i64 T, .int .i64 N, .slice A4 L.length c4] 24) = W5 at *
      have z0 := HZ5.c (j := 0) rfl
      have z1 := HZ5.c (j := 1) rfl
      have z2 := HZ5.c (j := 2) rfl
      have y0 := HZ5.frozen 0
      have y1 := HZ5.frozen 1
      have y2 := HZ5.frozen 2
      have a0 := HF5.c (j := 0) rfl
      have a1 := HF5.c (j := 1) rfl
      have b0 := HF5.frozen 0
      have b1 := HF5.frozen 1
      have x0 := HX5.c (j := 0) rfl
      have x1 := HX5.c (j := 1) rfl
      have x2 := HX5.c (j := 2) rfl
      cases ok
      · go_wp2
        obtain ⟨W9, hW9, k0, k1, k2, k3, k4, hB9, hrow9⟩ := sets_fin (.int .i64 0) (.int .i64 0) (.int .i64 5) (.int .i64 0) (.slice none 0 0) HZ5 HF5 rfl rfl
        rw [← hW9]
        refine bodyPost_ret (v := .tuple #[.agg #[.int .i64 0, .int .i64 0, .slice none 0 0], .agg #[.int .i64 5, .int .i64 0]]) (by simp [results, Tryd.f29, go_sem, k0, k1, k2, k3, k4]) rfl ?_
        rw [H3'.out trivial]
        exact ⟨none, 0, rfl, nil_row _ _, nxt hBw5 hB9 (Nat.le_refl _)⟩
      · go_wp2
        obtain ⟨W9, hW9, k0, k1, k2, k3, k4, hB9, hrow9⟩ := sets_fin (.int .i64 T) (.int .i64 N) (.int .i64 0) (.int .i64 0) (.slice A4 L.length c4) HZ5 HF5 rfl rfl
        rw [← hW9]
        refine bodyPost_ret (v := .tuple #[.agg #[.int .i64 T, .int .i64 N, .slice A4 L.length c4], .agg #[.int .i64 0, .int .i64 0]]) (by simp [results, Tryd.f29, go_sem, k0, k1, k2, k3, k4]) rfl ?_
        rw [H4'.out trivial]
        exact ⟨A4, c4, rfl, row_more (hrow9 _ _ _ _ HO5.out) (by omega), nxt hBw5 hB9 (Nat.le_refl _)⟩
    · have HZ2 := HZ1.out.below hB2 (by omega)
      have HF2 := HF1.out.below hB2 hs1
      have hs2 := hB2.size
      have hBw2 := nxt HB1.out hB2 (by omega)
      have e1 := H2.out HTK.out hR0
      subst e1
      obtain ⟨fE, hfE⟩ : ∃ x, Rb.2.1 = x := ⟨_, rfl⟩
      obtain ⟨fP, hfP⟩ : ∃ x, Rb.2.2 = x := ⟨_, rfl⟩
      rw [hfE] at hR0
      rw [hfE, hfP]
      have hne : (fE != 0) = true := by rw [bne_iff_ne]; exact hR0
      have hB3 := alloc1 w2 (.cells #[.int .i64 fE, .int .i64 fP] 44)
      have HX3 := Holds.new w2 44 #[.int .i64 fE, .int .i64 fP]
      have HZ3 := HZ2.below hB3 (by omega)
      have HF3 := HF2.below hB3 (by omega)
      have HFE := Lib.hid hfE
      have HFP := Lib.hid hfP
      clear hfE hfP H1 H2 H3 H4 HBH HCUT HTY
      go_upto_region 7 with fail
      generalize w2.alloc (.cells #[.int .i64 fE, .int .i64 fP] 44) = W3 at *
      have z0 := HZ3.c (j := 0) rfl
      have z1 := HZ3.c (j := 1) rfl
      have z2 := HZ3.c (j := 2) rfl
      have y0 := HZ3.frozen 0
      have y1 := HZ3.frozen 1
      have y2 := HZ3.frozen 2
      have a0 := HF3.c (j := 0) rfl
      have a1 := HF3.c (j := 1) rfl
      have b0 := HF3.frozen 0
      have b1 := HF3.frozen 1
      have x0 := HX3.c (j := 0) rfl
      have x1 := HX3.c (j := 1) rfl
      go_cut [] from 35 to 36 (fun wx => wx = (((((W3.drew.setCell ⟨w.heap.size, 0, none⟩ (.int .i64 0)).setCell ⟨w.heap.size, 1, none⟩ (.int .i64 0)).setCell ⟨w.heap.size, 2, none⟩ (.slice none 0 0)).setCell ⟨w.heap.size + 1, 0, none⟩ (.int .i64 fE)).setCell ⟨w.heap.size + 1, 1, none⟩ (.int .i64 fP)))
      case first =>
        go_region
        all_goals (go_wp2_with fail; go_meet; exact rfl)
      case rest =>
        subst hcut
        go_wp2
        obtain ⟨W9, hW9, k0, k1, k2, k3, k4, hB9, hrow9⟩ := sets_fin (.int .i64 0) (.int .i64 0) (.int .i64 fE) (.int .i64 fP) (.slice none 0 0) (HZ3.of (W' := W3.drew) rfl) (HF3.of (W' := W3.drew) rfl) rfl rfl
        rw [← hW9]
        refine bodyPost_ret (v := .tuple #[.agg #[.int .i64 0, .int .i64 0, .slice none 0 0], .agg #[.int .i64 fE, .int .i64 fP]]) (by simp [results, Tryd.f29, go_sem, k0, k1, k2, k3, k4]) rfl ?_
        exact ⟨none, 0, by dsimp only; rw [HFE.out, HFP.out]; rfl, nil_row _ _, nxt (nxt hBw2 hB3.drew (by omega)) hB9 (Nat.le_refl _)⟩
end Go.Proofs.YtbenfdbjpefegaaDoor
