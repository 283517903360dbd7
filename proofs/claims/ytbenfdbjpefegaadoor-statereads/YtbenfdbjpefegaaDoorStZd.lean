/- OverInts, OverState; StateReads. -/
import Derived.Test.YtbenfdbjpefegaaDoorStZc
import Derived.Test.YtbenfdbjpefegaaDoorStO
import Derived.Test.YtbenfdbjpefegaaDoorStV
namespace Go.Proofs.YtbenfdbjpefegaaDoor
open Go.RowKit Go.Maps
set_option linter.unusedVariables false

set_option maxHeartbeats 1000000 in
theorem over_any (g c n lo : Nat) (xs : List Value) (w : World) (h : w.ownsRow lo 3 1 (.slice (some ⟨g, 0, none⟩) n c) n xs) (hn : n ≤ 1000) :
    Calls Tryd.prog 58 #[.slice (some ⟨g, 0, none⟩) n c] w fun e w' => e = .returned (.tuple #[]) ∧ w.grownBy w' (some g) := by
  have HO := Lib.hid h
  clear h
  go_enter Tryd.func58, Tryd.ntmps58
  go_wp2
  go_loopw [2] (fun i wr => ∃ (k : Nat) (ys : List Value), k ≤ n ∧ i = .int .i64 k ∧ wr.ownsRow lo 3 1 (.slice (some ⟨g, 0, none⟩) n c) n ys ∧ w.grownBy wr (some g)) (fun i wr => n - (intOf i).toNat)
  case atStart => exact ⟨0, xs, Nat.zero_le _, rfl, HO.out, World.grownBy.refl _ _⟩
  case round =>
    obtain ⟨k, ys, hk, rfl, hown, hg⟩ := hrel
    by_cases hlt : k < n
    · have q0 : (0 : Int) ≤ (k : Int) := by omega
      have q1 : (k : Int) < (n : Int) := by omega
      have q2 : decide (k < n) = true := decide_eq_true hlt
      have hlen : ys.length = n := by have := hown.1; omega
      have hcell := hown.cellAt k (by omega)
      rw [List.getElem?_eq_getElem (by omega)] at hcell
      have hfro := hown.frozenAt k
      have HST := Lib.hid (hown.stored k (.int .i64 (-77)))
      generalize ys[k] = y at hcell
      clear hown
      go_wp2
      exact ⟨⟨k + 1, _, by omega, by go_num, HST.out.1, hg.trans HST.out.2⟩, by simp [intOf]; omega⟩
    · have q2 : decide (k < n) = false := decide_eq_false hlt
      go_wp2
      go_end0
      exact ⟨rfl, hg⟩
theorem overst_any (t n : Int) (A : Option Addr) (c : Nat) (l : List Int) (base : Nat) (w : World) (ho : OwnInts base w (.slice A l.length c) l) (hl : l.length ≤ 1000) (hb : base ≤ w.heap.size) :
    Calls Tryd.prog 31 #[.agg #[.int .i64 t, .int .i64 n, .slice A l.length c]] w fun e w' => e = .returned (.tuple #[]) ∧ Below base w w' := by
  have hB0 := alloc1 w (.cells #[.int .i64 t, .int .i64 n, .slice A l.length c] 24)
  have ho1 := row_below ho hB0
  have hs1 := hB0.size
  have HOV : Calls Tryd.prog 58 #[.slice A l.length c] (w.alloc (.cells #[.int .i64 t, .int .i64 n, .slice A l.length c] 24)) fun e w' => e = .returned (.tuple #[]) ∧ Below base (w.alloc (.cells #[.int .i64 t, .int .i64 n, .slice A l.length c] 24)) w' := by
    rcases ho1.2 with ⟨e1, e2⟩ | ⟨g, cap', cur, e1, hg, _⟩
    · injection e1 with e3 e4 e5
      subst e3 e5
      generalize w.alloc (.cells #[.int .i64 t, .int .i64 n, .slice none l.length 0] 24) = W at *
      rw [e4]
      go_enter Tryd.func58, Tryd.ntmps58
      go_wp2
      go_loopw [2] (fun i wr => i = .int .i64 0 ∧ wr = W) (fun i wr => 0)
      case atStart => exact ⟨rfl, rfl⟩
      case round =>
        obtain ⟨rfl, rfl⟩ := hrel
        go_wp2
        go_end0
        exact ⟨rfl, Below.refl _ _⟩
    · injection e1 with e3 e4 e5
      subst e3
      refine (over_any g c l.length base _ _ ho1 hl).mono ?_
      rintro e w' ⟨rfl, hgr⟩
      exact ⟨rfl, (Below.refl base _).grown hgr (by omega) (fun k e => by obtain rfl : g = k := Option.some.inj e; exact hg)⟩
  clear ho ho1
  go_enter Tryd.func31, Tryd.ntmps31
  go_wp2_with fail
  refine HOV.mono ?_
  rintro e w1 ⟨rfl, hB1⟩
  go_wp2
  go_end0
  exact ⟨rfl, nxt (hB0.mono hb) hB1 (Nat.le_refl _)⟩

def decR (b : List Int) : St × Int := if decOk b = true then ((decT b, decN b, decL b), 0) else (st0, 5)
theorem decR_len (b : List Int) : (decR b).1.2.2.length ≤ b.length := by
  unfold decR; split
  · show (decL b).length ≤ _
    unfold decL; rw [decTo_len]; omega
  · simp [st0]
theorem dec_p {b : List Int} {w w' : World} {e : Ending} (h : DecPost b w e w') : ∃ A c, e = .returned (.tuple #[stV (decR b).1.1 (decR b).1.2.1 A (decR b).1.2.2.length c, .int .i64 (decR b).2]) ∧ OwnInts w.heap.size w' (.slice A (decR b).1.2.2.length c) (decR b).1.2.2 ∧ Below w.heap.size w w' := by
  unfold decR
  rcases h with ⟨hok, A, c, rfl, ho, hB⟩ | ⟨hno, rfl, hB⟩
  · rw [if_pos hok]; exact ⟨A, c, rfl, ho, hB⟩
  · rw [if_neg (by rw [hno]; decide)]; exact ⟨none, 0, rfl, nil_row _ _, hB⟩
theorem read_len2 {s : List UInt8} : 2 * (readL s).1.2.2.length ≤ s.length := by
  by_cases h1 : typeL (partL s) = 0
  · rw [read_none h1]; simp [st0]
  · by_cases h2 : (behindR s (partL s).length).2.1 = 0
    · cases h3 : (ofNums (typeL (partL s)) (behindR s (partL s).length).1).2
      · rw [read_no h1 h2 h3]; simp [st0]
      · rw [read_yes h1 h2 h3]
        have hb := beh_len (s.length + 1) (s.drop (partL s).length) (partL s).length []
        rw [List.length_drop] at hb
        simp only [List.length_nil] at hb
        unfold behindR
        generalize (behindL (s.length + 1) (s.drop (partL s).length) (partL s).length []).1 = L at *
        unfold ofNums
        split
        · split
          · simp
          · simp [st0]
        · simp; omega
    · rw [read_bad h1 h2]; simp [st0]

set_option maxRecDepth 100000 in
set_option maxHeartbeats 2000000 in
theorem reads_law (A : Option Addr) (c : Nat) (b : List Int) (s : ByteArray) (w : World) (hw : Wds w) (hA : Bytes w A b) (ho : Octets b) (hnil : A = none → c = 0) :
    Calls Tryd.prog 4 #[.slice A b.length c, .string s] w (Yes w) := by
  by_cases hb : b.length ≤ 500
  · have q1 : decide (500 < (b.length : Int)) = false := decide_eq_false (by omega)
    by_cases hs : s.size ≤ 500
    · have q2 : decide (500 < (s.size : Int)) = false := decide_eq_false (by omega)
      have HL := lent_any A c b w hA (by omega) hnil
      have hlr := decR_len b
      have hlt := read_len2 (s := s.data.toList)
      rw [bytes_len] at hlt
      have HRD := Lib.hid (fun W (h : Wds W) => read_any s W h (by omega))
      have HRRD := Lib.hid (fun W => rread_any s W (by omega))
      obtain ⟨⟨⟨t2, n2, l2⟩, E2, P2⟩, hR⟩ : ∃ R, readL s.data.toList = R := ⟨_, rfl⟩
      obtain ⟨⟨⟨t, n, l⟩, E⟩, hD⟩ : ∃ R, decR b = R := ⟨_, rfl⟩
      rw [hR] at HRD HRRD hlt
      rw [hD] at hlr
      have HDD := Lib.hid hD
      dsimp only at hlr hlt
      clear hR hD
      go_enter Tryd.func4, Tryd.ntmps4
      go_wp2_with fail
      refine HL.mono ?_
      rintro e w1 ⟨g1, c1, rfl, hc1, hr1, hB1⟩
      have hs1 := hB1.size
      have hcm : c1 ≤ 9223372036854775807 := by
        rcases hr1.2 with ⟨e, _⟩ | ⟨g', cap', cur, e, _, _, _, hn, _⟩
        · cases e
        · cases e; unfold maxLen at hn; exact hn
      have hb1 : Bytes w1 (some ⟨g1, 0, none⟩) b := by
        have := bytes_row hr1 0 b.length (by omega)
        simp only [List.drop_zero, List.take_left'] at this
        exact this
      have HDC := dec_any (some ⟨g1, 0, none⟩) c1 b w1 hb1 ho (by omega) (by omega) hcm
      clear HL
      go_wp2_with fail
      refine HDC.mono ?_
      intro e w2 hp
      obtain ⟨A2, c2, he, ho2, hB2⟩ := dec_p hp
      rw [HDD.out] at he ho2
      dsimp only at he ho2
      subst he
      unfold stV
      have hs2 := hB2.size
      have hB3 := alloc1 w2 (.cells #[.int .i64 t, .int .i64 n, .slice A2 l.length c2] 24)
      have HX3 := Holds.new w2 24 #[.int .i64 t, .int .i64 n, .slice A2 l.length c2]
      have h3 := nxt hB2 hB3 hs2
      have ho3 := row_below ho2 hB3
      have hW3 := nxt hB1 h3 hs1
      clear HDC hp ho2
      go_upto_region 5 with fail
      generalize w2.alloc (.cells #[.int .i64 t, .int .i64 n, .slice A2 l.length c2] 24) = W3 at *
      have hs3 := h3.size
      have RDC := rdec_any A c b W3 (hA.below (B := 0) hW3) ho (by omega)
      go_wp2_with fail
      refine RDC.mono ?_
      intro e w4 hp
      obtain ⟨A4, c4, he, ho4, hB4⟩ := dec_p hp
      rw [HDD.out] at he ho4
      dsimp only at he ho4
      subst he
      unfold stV
      have hB5 := nxt hB4 (alloc1 w4 (.cells #[.int .i64 t, .int .i64 n, .slice A4 l.length c4] 24)) hB4.size
      have HX5 := Holds.new w4 24 #[.int .i64 t, .int .i64 n, .slice A4 l.length c4]
      have ho5 := row_below ho4 (alloc1 w4 (.cells #[.int .i64 t, .int .i64 n, .slice A4 l.length c4] 24))
      clear RDC hp ho4
      go_upto_region 6 with fail
      generalize w4.alloc (.cells #[.int .i64 t, .int .i64 n, .slice A4 l.length c4] 24) = W5 at *
      have h5 := nxt h3 hB5 hs3
      have hs5 := h5.size
      have hW5 := nxt hB1 h5 hs1
      have HX3' := HX3.below hB5 HX3.lt
      have ho3' := row_below ho3 hB5
      clear HX3 ho3
      go_wp2_with fail
      refine (HRD.out W5 (hw.on hW5)).mono ?_
      rintro e w6 ⟨A6, c6, rfl, ho6, hB6⟩
      dsimp only at ho6 ⊢
      unfold stV
      have hB7 := nxt hB6 ((alloc1 w6 (.cells #[.int .i64 t2, .int .i64 n2, .slice A6 l2.length c6] 24)).alloc (by simp) (.cells #[.int .i64 E2, .int .i64 P2] 44)) hB6.size
      have HX7 := (Holds.new w6 24 #[.int .i64 t2, .int .i64 n2, .slice A6 l2.length c6]).alloc (.cells #[.int .i64 E2, .int .i64 P2] 44)
      have HF7 := Holds.new (w6.alloc (.cells #[.int .i64 t2, .int .i64 n2, .slice A6 l2.length c6] 24)) 44 #[.int .i64 E2, .int .i64 P2]
      rw [World.size_alloc] at HF7
      have ho7 := row_below ho6 ((alloc1 w6 (.cells #[.int .i64 t2, .int .i64 n2, .slice A6 l2.length c6] 24)).alloc (by simp) (.cells #[.int .i64 E2, .int .i64 P2] 44))
      clear ho6
      go_upto_region 7 with fail
      generalize (w6.alloc (.cells #[.int .i64 t2, .int .i64 n2, .slice A6 l2.length c6] 24)).alloc (.cells #[.int .i64 E2, .int .i64 P2] 44) = W7 at *
      have h7 := nxt h5 hB7 hs5
      have hs7 := h7.size
      have HX3 := HX3'.below hB7 HX3'.lt
      have HX5' := HX5.below hB7 HX5.lt
      have ho3 := row_below ho3' hB7
      have ho5' := row_below ho5 hB7
      clear HX3' ho3' HX5 ho5
      go_wp2_with fail
      refine (HRRD.out W7).mono ?_
      rintro e w8 ⟨A8, c8, rfl, ho8, hB8⟩
      dsimp only at ho8 ⊢
      unfold stV
      have hB9 := nxt hB8 ((alloc1 w8 (.cells #[.int .i64 t2, .int .i64 n2, .slice A8 l2.length c8] 24)).alloc (by simp) (.cells #[.int .i64 E2, .int .i64 P2] 44)) hB8.size
      have HX9 := (Holds.new w8 24 #[.int .i64 t2, .int .i64 n2, .slice A8 l2.length c8]).alloc (.cells #[.int .i64 E2, .int .i64 P2] 44)
      have HF9 := Holds.new (w8.alloc (.cells #[.int .i64 t2, .int .i64 n2, .slice A8 l2.length c8] 24)) 44 #[.int .i64 E2, .int .i64 P2]
      rw [World.size_alloc] at HF9
      have ho9 := row_below ho8 ((alloc1 w8 (.cells #[.int .i64 t2, .int .i64 n2, .slice A8 l2.length c8] 24)).alloc (by simp) (.cells #[.int .i64 E2, .int .i64 P2] 44))
      clear ho8
      go_upto_region 8 with fail
      generalize (w8.alloc (.cells #[.int .i64 t2, .int .i64 n2, .slice A8 l2.length c8] 24)).alloc (.cells #[.int .i64 E2, .int .i64 P2] 44) = W9 at *
      have h9 := nxt h7 hB9 hs7
      have hs9 := h9.size
      have HX3' := HX3.below hB9 HX3.lt
      have HX5 := HX5'.below hB9 HX5'.lt
      have HX7' := HX7.below hB9 HX7.lt
      have HF7' := HF7.below hB9 HF7.lt
      have ho3' := row_below ho3 hB9
      have ho5 := row_below ho5' hB9
      have ho7' := row_below ho7 hB9
      clear HX3 ho3 HX5' ho5' HX7 HF7 ho7
      have HS : ∀ w', Below W9.heap.size W9 w' → w'.cell? ⟨w2.heap.size, 0, none⟩ = some (.int .i64 t) ∧ w'.cell? ⟨w2.heap.size, 1, none⟩ = some (.int .i64 n) ∧ w'.cell? ⟨w2.heap.size, 2, none⟩ = some (.slice A2 l.length c2) ∧ w'.cell? ⟨w4.heap.size, 0, none⟩ = some (.int .i64 t) ∧ w'.cell? ⟨w4.heap.size, 1, none⟩ = some (.int .i64 n) ∧ w'.cell? ⟨w4.heap.size, 2, none⟩ = some (.slice A4 l.length c4) ∧ w'.cell? ⟨w6.heap.size, 0, none⟩ = some (.int .i64 t2) ∧ w'.cell? ⟨w6.heap.size, 1, none⟩ = some (.int .i64 n2) ∧ w'.cell? ⟨w6.heap.size, 2, none⟩ = some (.slice A6 l2.length c6) ∧ w'.cell? ⟨w8.heap.size, 0, none⟩ = some (.int .i64 t2) ∧ w'.cell? ⟨w8.heap.size, 1, none⟩ = some (.int .i64 n2) ∧ w'.cell? ⟨w8.heap.size, 2, none⟩ = some (.slice A8 l2.length c8) ∧ w'.cell? ⟨w6.heap.size + 1, 0, none⟩ = some (.int .i64 E2) ∧ w'.cell? ⟨w6.heap.size + 1, 1, none⟩ = some (.int .i64 P2) ∧ w'.cell? ⟨w8.heap.size + 1, 0, none⟩ = some (.int .i64 E2) ∧ w'.cell? ⟨w8.heap.size + 1, 1, none⟩ = some (.int .i64 P2) := fun w' h => by
        have a1 := HX3'.below h HX3'.lt
        have a2 := HX5.below h HX5.lt
        have a3 := HX7'.below h HX7'.lt
        have a4 := HX9.below h HX9.lt
        have a5 := HF7'.below h HF7'.lt
        have a6 := HF9.below h HF9.lt
        exact ⟨a1.c (j := 0) rfl, a1.c (j := 1) rfl, a1.c (j := 2) rfl, a2.c (j := 0) rfl, a2.c (j := 1) rfl, a2.c (j := 2) rfl, a3.c (j := 0) rfl, a3.c (j := 1) rfl, a3.c (j := 2) rfl, a4.c (j := 0) rfl, a4.c (j := 1) rfl, a4.c (j := 2) rfl, a5.c (j := 0) rfl, a5.c (j := 1) rfl, a6.c (j := 0) rfl, a6.c (j := 1) rfl⟩
      have HKS := Lib.hid HS
      have S1 := samest_any t n t n A2 A4 c2 c4 l l W9 (own_ints rfl ho3') (own_ints rfl ho5) (by omega)
      rw [same_iff.2 ⟨rfl, rfl, rfl⟩] at S1
      have S2 := fun W (h : Below W9.heap.size W9 W) => samest_any t2 n2 t2 n2 A6 A8 c6 c8 l2 l2 W (own_ints rfl (row_below ho7' h)) (own_ints rfl (row_below ho9 h)) (by omega)
      rw [same_iff.2 ⟨rfl, rfl, rfl⟩] at S2
      have OVS := fun W (h : Below W9.heap.size W9 W) (hb : w1.heap.size ≤ W.heap.size) => overst_any t n A2 c2 l w1.heap.size W (row_below ho3' h) (by omega) hb
      have kE : (E == E) = true := by simp
      have kE2 : (E2 == E2) = true := by simp
      have kP2 : (P2 == P2) = true := by simp
      unfold stV at S1 S2
      have OVH := Lib.hid OVS
      have S2H := Lib.hid S2
      obtain ⟨d0, d1, d2, d3, d4, d5, d6, d7, d8, d9, d10, d11, d12, d13, d14, d15⟩ := HKS.out W9 (Below.refl _ _)
      clear HS HX3' HX5 HX7' HX9 HF7' HF9 ho3' ho5 ho7' ho9 OVS S2
      go_wp2_with fail
      refine S1.mono ?_
      rintro e w10 ⟨rfl, hB10⟩
      obtain ⟨d0, d1, d2, d3, d4, d5, d6, d7, d8, d9, d10, d11, d12, d13, d14, d15⟩ := HKS.out w10 hB10
      have hs10 := hB10.size
      go_wp2_with fail
      refine (S2H.out w10 hB10).mono ?_
      rintro e w11 ⟨rfl, hB11⟩
      have hB911 := nxt hB10 hB11 hs10
      obtain ⟨d0, d1, d2, d3, d4, d5, d6, d7, d8, d9, d10, d11, d12, d13, d14, d15⟩ := HKS.out w11 hB911
      have hs11 := hB911.size
      have OV := OVH.out w11 hB911 (by omega)
      go_wp2_with fail
      refine OV.mono ?_
      rintro e w12 ⟨rfl, hB12⟩
      have h11 := nxt h9 hB911 (by omega)
      have h12 := nxt h11 hB12 (Nat.le_refl _)
      have hW12 := nxt hB1 h12 hs1
      have hs12 := h12.size
      have KY := kept_yes A c g1 c1 w.heap.size b w12 (hA.below (B := 0) hW12) (by omega) (by omega) (row_below hr1 h12)
      have HAW := fun W (h : Below w12.heap.size w12 W) => awake_any W ((hw.on hW12).on h)
      clear OV OVH S1 S2H d0 d1 d2 d3 d4 d5 d6 d7 d8 d9 d10 d11 d12 d13 d14 d15
      go_wp2_with fail
      refine KY.mono ?_
      rintro e w13 ⟨rfl, hB13⟩
      have hW13 := nxt hW12 hB13 hW12.size
      go_wp2_with fail
      refine (HAW w13 hB13).mono ?_
      rintro e w14 ⟨rfl, hB14⟩
      go_wp2
      go_ret
      exact ⟨rfl, nxt hW13 hB14 hW13.size⟩
    · have q2 : decide (500 < (s.size : Int)) = true := decide_eq_true (by omega)
      go_enter Tryd.func4, Tryd.ntmps4
      go_wp2_with fail
      refine (awake_any w hw).mono ?_
      rintro e w1 ⟨rfl, hB1⟩
      go_wp2
      go_ret
      exact ⟨rfl, hB1⟩
  · have q1 : decide (500 < (b.length : Int)) = true := decide_eq_true (by omega)
    go_enter Tryd.func4, Tryd.ntmps4
    go_wp2_with fail
    refine (awake_any w hw).mono ?_
    rintro e w1 ⟨rfl, hB1⟩
    go_wp2
    go_ret
    exact ⟨rfl, hB1⟩
end Go.Proofs.YtbenfdbjpefegaaDoor
