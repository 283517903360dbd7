/- StateAgain. -/
import Derived.Test.YtbenfdbjpefegaaDoorStBk
namespace Go.Proofs.YtbenfdbjpefegaaDoor
open Go.RowKit Go.Maps
set_option linter.unusedVariables false

theorem decL_len (b : List Int) : (decL b).length ≤ b.length / 8 := by
  unfold decL; rw [decTo_len]; omega
/-- A text that is read: so many numbers at the most. -/
theorem read_len {s : List UInt8} : 2 * (readL s).1.2.2.length ≤ s.length := by
  by_cases h1 : typeL (partL s) = 0
  · rw [read_none h1]; simp [st0]
  · by_cases h2 : (behindR s (partL s).length).2.1 = 0
    · cases h3 : (ofNums (typeL (partL s)) (behindR s (partL s).length).1).2
      · rw [read_no h1 h2 h3]; simp [st0]
      · rw [read_yes h1 h2 h3]
        have hb := beh_len (s.length + 1) (s.drop (partL s).length) (partL s).length []
        rw [List.length_drop] at hb
        simp only [List.length_nil] at hb
        unfold behindR
        generalize (behindL (s.length + 1) (s.drop (partL s).length) (partL s).length []).1 = L at *
        unfold ofNums
        split
        · split
          · simp
          · simp [st0]
        · simp; omega
    · rw [read_bad h1 h2]; simp [st0]

set_option maxRecDepth 100000 in
set_option maxHeartbeats 1500000 in
/-- The second half: the text. -/
theorem again_read (s : ByteArray) (hs : s.size ≤ 300) : ∃ (t n : Int) (l : List Int) (E P : Int), readL s.data.toList = ((t, n, l), E, P) ∧ l.length ≤ 150 ∧ (E ≠ 0 → 0 ≤ P ∧ P ≤ s.size) ∧ (E = 0 → (⟨(txtL t n l).toArray⟩ : ByteArray) = s ∧ checkE t n l = 0 ∧ Small n ∧ ∀ x ∈ l, Small x) := by
  obtain ⟨⟨⟨t, n, l⟩, E, P⟩, hR⟩ : ∃ R, readL s.data.toList = R := ⟨_, rfl⟩
  refine ⟨t, n, l, E, P, hR, ?_, fun hE => ?_, fun hE => ?_⟩
  · have := read_len (s := s.data.toList)
    rw [hR, bytes_len] at this
    simp at this
    omega
  · have := read_at (s := s.data.toList) (by rw [hR]; exact hE)
    rw [hR, bytes_len] at this
    exact this
  · subst hE
    have hP : P = 0 := by
      by_cases h1 : typeL (partL s.data.toList) = 0
      · rw [read_none h1] at hR; injection hR with _ h; injection h with h _; omega
      · by_cases h2 : (behindR s.data.toList (partL s.data.toList).length).2.1 = 0
        · cases h3 : (ofNums (typeL (partL s.data.toList)) (behindR s.data.toList (partL s.data.toList).length).1).2
          · rw [read_no h1 h2 h3] at hR; injection hR with _ h; injection h with h _; omega
          · rw [read_yes h1 h2 h3] at hR; injection hR with _ h; injection h with _ h; exact h.symm
        · rw [read_bad h1 h2] at hR; injection hR with _ h; injection h with h _; exact absurd h h2
    subst hP
    have := told_read hR
    exact ⟨(str_eq (by rw [this.1])).symm, this.2⟩

set_option maxRecDepth 100000 in
set_option maxHeartbeats 1500000 in
theorem again_law (A : Option Addr) (c : Nat) (b : List Int) (s : ByteArray) (w : World) (hw : Wds w) (hA : Bytes w A b) (ho : Octets b) (hc : b.length ≤ c) (hc2 : c ≤ maxLen) :
    Calls Tryd.prog 8 #[.slice A b.length c, .string s] w (Yes w) := by
  unfold maxLen at hc2
  have HKN := known_law w hw
  by_cases hb : b.length ≤ 300
  · have q1 : decide (300 < (b.length : Int)) = false := decide_eq_false (by omega)
    by_cases hs : s.size ≤ 300
    · have q2 : decide (300 < (s.size : Int)) = false := decide_eq_false (by omega)
      obtain ⟨t2, n2, l2, E2, P2, hR, hl2, hbad, hok2⟩ := again_read s hs
      have HBAD := Lib.hid hbad
      have HOK := Lib.hid hok2
      have HRD : ∀ W, Wds W → Calls Tryd.prog 29 #[.string s] W (ReadPost ((t2, n2, l2), E2, P2) W) := fun W h => hR ▸ read_any s W h (by omega)
      have HRDH := Lib.hid HRD
      clear hbad hok2 HRD hR
      go_enter Tryd.func8, Tryd.ntmps8
      go_wp2_with fail
      refine HKN.mono ?_
      rintro e w1 ⟨rfl, hB1⟩
      have hs1 := hB1.size
      have hwd1 := hw.on hB1
      have hA1 := hA.below (B := 0) hB1
      have HD := dec_any A c b w1 hA1 ho (by omega) hc (by omega)
      clear HKN
      go_wp2_with fail
      refine HD.mono ?_
      intro e w2 hp
      have HALL : ∃ (t n E : Int) (l : List Int) (A2 : Option Addr) (c2 : Nat), e = .returned (.tuple #[stV t n A2 l.length c2, .int .i64 E]) ∧ OwnInts w1.heap.size w2 (.slice A2 l.length c2) l ∧ Below w1.heap.size w1 w2 ∧ l.length ≤ 40 ∧ (E ≠ 0 ∨ (E = 0 ∧ encL t n l = b ∧ checkE t n l = 0)) := by
        rcases hp with ⟨hok, A2, c2, rfl, ho2, hB2⟩ | ⟨hno, rfl, hB2⟩
        · have := enc_dec hok ho
          exact ⟨_, _, 0, _, A2, c2, rfl, ho2, hB2, Nat.le_trans (decL_len b) (by omega), .inr ⟨rfl, this.1, this.2⟩⟩
        · exact ⟨0, 0, 5, [], none, 0, rfl, nil_row _ _, hB2, by simp, .inl (by omega)⟩
      obtain ⟨t, n, E, l, A2, c2, rfl, ho2, hB2, hll, hcase⟩ := HALL
      unfold stV
      have hs2 := hB2.size
      have hB3 := alloc1 w2 (.cells #[.int .i64 t, .int .i64 n, .slice A2 l.length c2] 24)
      have HX3 := Holds.new w2 24 #[.int .i64 t, .int .i64 n, .slice A2 l.length c2]
      have h3 := nxt hB2 hB3 hs2
      have ho3 := row_below ho2 hB3
      clear HD hp
      go_upto_region 5 with fail
      generalize w2.alloc (.cells #[.int .i64 t, .int .i64 n, .slice A2 l.length c2] 24) = W3 at *
      have hs3 := h3.size
      have hl3 := HX3.lt
      rcases hcase with hE | ⟨hE, henc, hck⟩
      · have qE : (E == 0) = false := by rw [beq_eq_false_iff_ne]; exact hE
        clear hE HX3 ho3 ho2
        go_wp2_with fail
        refine (HRDH.out W3 (hwd1.on h3)).mono ?_
        rintro e w8 ⟨A8, c8, rfl, ho8, hB8⟩
        dsimp only at ho8 ⊢
        unfold stV
        have h8 := nxt h3 hB8 h3.size
        have hs8 := h8.size
        have hB9 : Below w8.heap.size w8 ((w8.alloc (.cells #[.int .i64 t2, .int .i64 n2, .slice A8 l2.length c8] 24)).alloc (.cells #[.int .i64 E2, .int .i64 P2] 44)) := (alloc1 w8 _).alloc (by simp) _
        have HX9 := (Holds.new w8 24 #[.int .i64 t2, .int .i64 n2, .slice A8 l2.length c8]).alloc (.cells #[.int .i64 E2, .int .i64 P2] 44)
        have HF9 := Holds.new (w8.alloc (.cells #[.int .i64 t2, .int .i64 n2, .slice A8 l2.length c8] 24)) 44 #[.int .i64 E2, .int .i64 P2]
        rw [World.size_alloc] at HF9
        have ho9 := row_below ho8 hB9
        have h9 := nxt h8 hB9 hs8
        go_upto_region 10 with fail
        generalize (w8.alloc (.cells #[.int .i64 t2, .int .i64 n2, .slice A8 l2.length c8] 24)).alloc (.cells #[.int .i64 E2, .int .i64 P2] 44) = W9 at *
        have hs9 := h9.size
        have y0 := HF9.c (j := 0) rfl
        have y1 := HF9.c (j := 1) rfl
        have z0 := HX9.c (j := 0) rfl
        have z1 := HX9.c (j := 1) rfl
        have z2 := HX9.c (j := 2) rfl
        have hw9 := nxt hB1 h9 hs1
        cases he2 : (E2 != 0)
        · have hE2 : E2 = 0 := by simpa using he2
          obtain ⟨k1, k2, k3, k4⟩ := HOK.out hE2
          have TY := tells_yes t2 n2 A8 c8 l2.length l2 s W9 (hwd1.on h9) rfl (own_ints rfl ho9) (by omega) k4 k3 k2 k1.symm
          have CK := fun W (h : Below W9.heap.size W9 W) => check_any t2 n2 A8 c8 l2 W ((own_ints rfl ho9).below h) (by omega)
          rw [k2] at CK
          unfold stV at CK
          subst hE2
          have hlz := HX9.lt
          clear k1 k2 k3 k4
          go_wp2_with fail
          refine TY.mono ?_
          rintro e w10 ⟨rfl, hB10⟩
          have HX10 := HX9.below hB10 hlz
          have z0 := HX10.c (j := 0) rfl
          have z1 := HX10.c (j := 1) rfl
          have z2 := HX10.c (j := 2) rfl
          go_wp2_with fail
          refine (CK w10 hB10).mono ?_
          rintro e w11 ⟨rfl, hB11⟩
          go_wp2
          go_ret
          exact ⟨rfl, nxt (nxt hw9 hB10 hw9.size) hB11 (nxt hw9 hB10 hw9.size).size⟩
        · have hE2 : E2 ≠ 0 := by simpa using he2
          obtain ⟨k1, k2⟩ := HBAD.out hE2
          have g1 : decide (0 ≤ P2) = true := decide_eq_true k1
          have g2 : decide (P2 ≤ (s.size : Int)) = true := decide_eq_true k2
          clear hE2
          go_wp2
          go_ret
          exact ⟨rfl, hw9⟩
      · subst hE
        have hA3 : Bytes W3 A b := hA1.below (B := 0) h3
        have HEN := enc_yes t n A2 c2 l W3 (own_ints rfl ho3) (by omega) hck
        rw [henc] at HEN
        have HCK := fun W (h : Below W3.heap.size W3 W) => check_any t n A2 c2 l W ((own_ints rfl ho3).below h) (by omega)
        rw [hck] at HCK
        unfold stV at HEN HCK
        have x0 := HX3.c (j := 0) rfl
        have x1 := HX3.c (j := 1) rfl
        have x2 := HX3.c (j := 2) rfl
        clear henc hck ho3 ho2
        go_wp2_with fail
        refine HEN.mono ?_
        rintro e w4 ⟨g4, c4, rfl, hr4, hB4⟩
        have h4 := nxt h3 hB4 hs3
        have hs4 := h4.size
        have HX4 := HX3.below hB4 hl3
        have x0 := HX4.c (j := 0) rfl
        have x1 := HX4.c (j := 1) rfl
        have x2 := HX4.c (j := 2) rfl
        have hl4 := HX4.lt
        have SB := samebytes_any A (some ⟨g4, 0, none⟩) c c4 b b w4 _ _ (hA3.below (B := 0) hB4).b (row_bytesB hr4) ho ho
        have kb : (b == b) = true := by simp
        rw [kb] at SB
        clear HEN hr4
        go_wp2_with fail
        refine SB.mono ?_
        rintro e w5 ⟨rfl, hB5⟩
        have hB35 := nxt hB4 hB5 hB4.size
        have h5 := nxt h4 hB5 hs4
        have HX5 := HX4.below hB5 hl4
        have x0 := HX5.c (j := 0) rfl
        have x1 := HX5.c (j := 1) rfl
        have x2 := HX5.c (j := 2) rfl
        clear SB
        go_wp2_with fail
        refine (HCK w5 hB35).mono ?_
        rintro e w6 ⟨rfl, hB6⟩
        have h6 := nxt h5 hB6 h5.size
        clear HCK
        go_wp2_with fail
        refine (HRDH.out w6 (hwd1.on h6)).mono ?_
        rintro e w8 ⟨A8, c8, rfl, ho8, hB8⟩
        dsimp only at ho8 ⊢
        unfold stV
        have h8 := nxt h6 hB8 h6.size
        have hs8 := h8.size
        have hB9 : Below w8.heap.size w8 ((w8.alloc (.cells #[.int .i64 t2, .int .i64 n2, .slice A8 l2.length c8] 24)).alloc (.cells #[.int .i64 E2, .int .i64 P2] 44)) := (alloc1 w8 _).alloc (by simp) _
        have HX9 := (Holds.new w8 24 #[.int .i64 t2, .int .i64 n2, .slice A8 l2.length c8]).alloc (.cells #[.int .i64 E2, .int .i64 P2] 44)
        have HF9 := Holds.new (w8.alloc (.cells #[.int .i64 t2, .int .i64 n2, .slice A8 l2.length c8] 24)) 44 #[.int .i64 E2, .int .i64 P2]
        rw [World.size_alloc] at HF9
        have ho9 := row_below ho8 hB9
        have h9 := nxt h8 hB9 hs8
        go_upto_region 10 with fail
        generalize (w8.alloc (.cells #[.int .i64 t2, .int .i64 n2, .slice A8 l2.length c8] 24)).alloc (.cells #[.int .i64 E2, .int .i64 P2] 44) = W9 at *
        have hs9 := h9.size
        have y0 := HF9.c (j := 0) rfl
        have y1 := HF9.c (j := 1) rfl
        have z0 := HX9.c (j := 0) rfl
        have z1 := HX9.c (j := 1) rfl
        have z2 := HX9.c (j := 2) rfl
        have hw9 := nxt hB1 h9 hs1
        cases he2 : (E2 != 0)
        · have hE2 : E2 = 0 := by simpa using he2
          obtain ⟨k1, k2, k3, k4⟩ := HOK.out hE2
          have TY := tells_yes t2 n2 A8 c8 l2.length l2 s W9 (hwd1.on h9) rfl (own_ints rfl ho9) (by omega) k4 k3 k2 k1.symm
          have CK := fun W (h : Below W9.heap.size W9 W) => check_any t2 n2 A8 c8 l2 W ((own_ints rfl ho9).below h) (by omega)
          rw [k2] at CK
          unfold stV at CK
          subst hE2
          have hlz := HX9.lt
          clear k1 k2 k3 k4
          go_wp2_with fail
          refine TY.mono ?_
          rintro e w10 ⟨rfl, hB10⟩
          have HX10 := HX9.below hB10 hlz
          have z0 := HX10.c (j := 0) rfl
          have z1 := HX10.c (j := 1) rfl
          have z2 := HX10.c (j := 2) rfl
          go_wp2_with fail
          refine (CK w10 hB10).mono ?_
          rintro e w11 ⟨rfl, hB11⟩
          go_wp2
          go_ret
          exact ⟨rfl, nxt (nxt hw9 hB10 hw9.size) hB11 (nxt hw9 hB10 hw9.size).size⟩
        · have hE2 : E2 ≠ 0 := by simpa using he2
          obtain ⟨k1, k2⟩ := HBAD.out hE2
          have g1 : decide (0 ≤ P2) = true := decide_eq_true k1
          have g2 : decide (P2 ≤ (s.size : Int)) = true := decide_eq_true k2
          clear hE2
          go_wp2
          go_ret
          exact ⟨rfl, hw9⟩
    · have q2 : decide (300 < (s.size : Int)) = true := decide_eq_true (by omega)
      go_enter Tryd.func8, Tryd.ntmps8
      go_wp2_with fail
      refine HKN.mono ?_
      rintro e w1 ⟨rfl, hB1⟩
      go_wp2
      go_ret
      exact ⟨rfl, hB1⟩
  · have q1 : decide (300 < (b.length : Int)) = true := decide_eq_true (by omega)
    go_enter Tryd.func8, Tryd.ntmps8
    go_wp2_with fail
    refine HKN.mono ?_
    rintro e w1 ⟨rfl, hB1⟩
    go_wp2
    go_ret
    exact ⟨rfl, hB1⟩
end Go.Proofs.YtbenfdbjpefegaaDoor
