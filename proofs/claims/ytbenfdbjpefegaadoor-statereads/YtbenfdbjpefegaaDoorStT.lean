/- The document's Encode; OverBytes, CopyState. -/
import Derived.Test.YtbenfdbjpefegaaDoorStS
import Derived.Deep.Cut
import Derived.Deep.CutRange
namespace Go.Proofs.YtbenfdbjpefegaaDoor
open Go.RowKit Go.Maps
set_option linter.unusedVariables false

theorem renc_no (t n : Int) (A : Option Addr) (c : Nat) (l : List Int) (w : World) (hA : Ints w A l) (hlen : l.length ≤ 100) (h : checkE t n l ≠ 0) :
    Calls Tryd.prog 12 #[stV t n A l.length c] w (EncNo (checkE t n l) w) := by
  have H := rcheck_any t n A c l (w.alloc (.cells #[.int .i64 t, .int .i64 n, .slice A l.length c] 24)) (hA.below (alloc1 w _)) (by omega)
  unfold stV at *
  generalize checkE t n l = r at *
  have hb : (r != 0) = true := by rw [bne_iff_ne]; exact h
  go_enter Tryd.func12, Tryd.ntmps12
  go_wp2_with fail
  refine H.mono ?_
  rintro e w1 ⟨rfl, hB1⟩
  go_wp2
  go_ret2
  exact ⟨rfl, nxt (alloc1 w _) hB1 (by simp)⟩

theorem u8_mod (n : Int) : IntKind.u8.wrap n = n % 256 := by
  unfold IntKind.wrap; simp [IntKind.signed, IntKind.bits]
theorem be_one (t : Int) : be 1 t = [t % 256] := by simp [be, beB]
theorem rput_m (base g0 cap0 m : Nat) (xs : List Int) (s : Nat) (si x : Int) (w : World) (hm : m = xs.length) (hsi : si = s)
    (hrow : w.ownsRow base 5 1 (.slice (some ⟨g0, 0, none⟩) m cap0) m (bytesOf xs)) (hbase : base ≤ w.heap.size) (hs : s ≤ 8) (hs1 : 1 ≤ s) (hx : m ≤ 1000) :
    Calls Tryd.prog 39 #[.slice (some ⟨g0, 0, none⟩) m cap0, .int .i64 x, .int .i64 si] w (AppB base g0 (xs ++ be s x) w) := by
  subst hm hsi
  exact rput_bytes base g0 cap0 xs s x w hrow hbase hs hs1 hx

set_option maxRecDepth 100000 in
set_option maxHeartbeats 2000000 in
theorem renc_yes (t n : Int) (A : Option Addr) (c : Nat) (l : List Int) (w : World) (hA : Ints w A l) (hlen : l.length ≤ 100) (h : checkE t n l = 0) :
    Calls Tryd.prog 12 #[stV t n A l.length c] w (EncYes (encL t n l) w) := by
  have hB0 := alloc1 w (.cells #[.int .i64 t, .int .i64 n, .slice A l.length c] 24)
  have H := rcheck_any t n A c l (w.alloc (.cells #[.int .i64 t, .int .i64 n, .slice A l.length c] 24)) (hA.below hB0) (by omega)
  rw [h] at H
  have HW := Lib.hid (Holds.new w 24 #[.int .i64 t, .int .i64 n, .slice A l.length c])
  have HA := Lib.hid (hA.below hB0)
  have hlt0 : w.heap.size < (w.alloc (.cells #[.int .i64 t, .int .i64 n, .slice A l.length c] 24)).heap.size := by simp
  unfold stV
  clear h hA
  go_enter Tryd.func12, Tryd.ntmps12
  go_wp2_with fail
  refine H.mono ?_
  rintro e w1 ⟨rfl, hB1⟩
  generalize w.alloc (.cells #[.int .i64 t, .int .i64 n, .slice A l.length c] 24) = W0 at *
  have hsz1 := hB1.size
  have HW1 := Lib.hid (HW.out.below hB1 hlt0)
  have c0 := HW1.out.c (j := 0) rfl
  have c1 := HW1.out.c (j := 1) rfl
  have c2 := HW1.out.c (j := 2) rfl
  have HA1 := Lib.hid (HA.out.below hB1)
  have HBw := Lib.hid (nxt hB0 hB1 (by omega))
  have hw1 : w.heap.size < w1.heap.size := HW1.out.lt
  clear hB0 hB1 H
  obtain ⟨tb, htb⟩ : ∃ tb, IntKind.u8.wrap t = tb := ⟨_, rfl⟩
  have HTB := Lib.hid (show tb = t % 256 by rw [← htb, u8_mod])
  have hBa := ((Below.refl w1.heap.size w1).alloc (Nat.le_refl _) (.cells #[.int .u8 tb] 5)).drew
  have HCC : ∀ w', Below w1.heap.size w1 w' → w'.cell? ⟨w.heap.size, 0, none⟩ = some (.int .i64 t) ∧ w'.cell? ⟨w.heap.size, 1, none⟩ = some (.int .i64 n) ∧ w'.cell? ⟨w.heap.size, 2, none⟩ = some (.slice A l.length c) := fun w' h => ⟨(HW1.out.below h hw1).c (j := 0) rfl, (HW1.out.below h hw1).c (j := 1) rfl, (HW1.out.below h hw1).c (j := 2) rfl⟩
  have HCCH := Lib.hid HCC
  have ca := HCC _ hBa
  have hrow1 := World.ownsRow_lit (base := w1.heap.size) (e := 5) (size := 1) w1 #[.int .u8 tb] 1 (Nat.le_refl _) (by unfold maxLen; omega) rfl
  have P1 := rput_m w1.heap.size w1.heap.size 1 1 [tb] 8 8 n (w1.alloc (.cells #[.int .u8 tb] 5)).drew rfl rfl hrow1.drew (by simp) (by omega) (by omega) (by omega)
  have P2 := fun (w6 : World) (g6 c6 m6 : Nat) (y6 : List Int) (h1 : m6 = y6.length) h2 h3 h4 => rput_m w1.heap.size g6 c6 m6 y6 4 4 (l.length : Int) w6 h1 rfl h2 h3 (by omega) (by omega) h4
  obtain ⟨y1, hy1⟩ : ∃ y, ([tb] ++ be 8 n : List Int) = y := ⟨_, rfl⟩
  rw [hy1] at P1
  have hl1 : y1.length = 9 := by rw [← hy1, List.length_append, be_len]; rfl
  have HY1 := Lib.hid hy1
  have HL1 := Lib.hid hl1
  clear hy1 hl1 HCC
  go_upto_region 4 with fail
  go_cut [5] from 12 to 22 (fun s5 wx => ∃ (g cap m : Nat) (ys : List Int), s5 = .slice (some ⟨g, 0, none⟩) m cap ∧ m = ys.length ∧ ys = be 1 t ++ be 8 n ++ be 4 l.length ∧ wx.ownsRow w1.heap.size 5 1 (.slice (some ⟨g, 0, none⟩) m cap) m (bytesOf ys) ∧ Below w1.heap.size w1 wx)
  case first =>
    go_region_held3 (fun w' => w'.cell? ⟨w.heap.size, 0, none⟩ = some (.int .i64 t) ∧ w'.cell? ⟨w.heap.size, 1, none⟩ = some (.int .i64 n) ∧ w'.cell? ⟨w.heap.size, 2, none⟩ = some (.slice A l.length c)) (first | exact ⟨c0, c1, c2⟩ | exact ca | exact cc6 | exact cc7 | go_keep) (first | (go_at_call 39; have hk6 := hown6; refine (P2 w6 g6 c6 y1.length y1 rfl hown6 (by omega) (by have := HL1.out; omega)).mono ?_; rintro e w7 ⟨g7, c7, rfl, hown7, hB7, hq7⟩; have hW7 := nxt hW6 hB7 (Nat.le_refl _); have cc7 := HCCH.out _ hW7) | (go_at_call 39; refine P1.mono ?_; rintro e w6 ⟨g6, c6, rfl, hown6, hB6, hq6⟩; have hW6 := nxt hBa hB6 (Nat.le_refl _); have cc6 := HCCH.out _ hW6; have hs6 := hW6.size))
    all_goals (go_wp2_with fail; go_meet; exact ⟨g7, c7, _, y1 ++ be 4 (l.length : Int), rfl, by rw [List.length_append], by rw [← HY1.out, be_one, HTB.out], by rw [← List.length_append]; exact hown7, hW7⟩)
  case rest =>
    obtain ⟨g0, cap0, m0, y0, rfl, hm0, hy0, hown0, hB0⟩ := hcut
    have hl0 : m0 = 13 := by rw [hm0, hy0, List.length_append, List.length_append, be_len, be_len, be_len]
    have HY0 := Lib.hid hy0
    have HM0 := Lib.hid hm0
    have HL0 := Lib.hid hl0
    have HOWN0 := Lib.hid hown0
    have HB0 := Lib.hid hB0
    clear hy0 hm0 hl0 hown0 hB0 P1 P2 hrow1 ca hBa htb
    go_wp2_with fail
    go_loopw [5, 6] (fun s5 i wr => ∃ (k g cap m : Nat) (ys : List Int), k ≤ l.length ∧ i = .int .i64 k ∧ s5 = .slice (some ⟨g, 0, none⟩) m cap ∧ m = ys.length ∧ m = 13 + 8 * k ∧ ys = y0 ++ (l.take k).flatMap (be 8) ∧ wr.ownsRow w1.heap.size 5 1 (.slice (some ⟨g, 0, none⟩) m cap) m (bytesOf ys) ∧ Below w1.heap.size w1 wr) (fun s5 i wr => l.length - (intOf i).toNat)
    case atStart => exact ⟨0, g0, cap0, m0, y0, Nat.zero_le _, rfl, rfl, HM0.out, by rw [HL0.out], by simp, HOWN0.out, HB0.out⟩
    case round =>
      obtain ⟨k, g, cap, m, ys, hk, rfl, rfl, hm, hm2, hys, hown, hB⟩ := hrel
      have HOWN := Lib.hid hown
      have HYS := Lib.hid hys
      have HM := Lib.hid hm
      have HM2 := Lib.hid hm2
      have HB := Lib.hid hB
      have hsz := hB.size
      obtain ⟨d0, d1, d2⟩ := HCCH.out wr hB
      have hints := HA1.out.below hB
      have hmb : m ≤ 1000 := by omega
      clear hown hys hm hm2 hB
      by_cases hlt : k < l.length
      · obtain ⟨b, off, rfl, hb, hc⟩ := hints (by omega)
        have hck := hc k hlt
        have hk0 : (0 : Int) ≤ (k : Int) := by omega
        have hk1 : (k : Int) < (l.length : Int) := by omega
        obtain ⟨x, hx'⟩ : ∃ x, l[k]?.getD 0 = x := ⟨_, rfl⟩
        rw [hx'] at hck
        have HX := Lib.hid hx'
        clear hc hx' hints
        have P3 := rput_m w1.heap.size g cap m ys 8 8 x wr HM.out rfl HOWN.out (by omega) (by omega) (by omega) (by omega)
        go_wp2_with fail
        refine P3.mono ?_
        rintro e w5 ⟨g5, c5, rfl, hown5, hB5, hq5⟩
        obtain ⟨y5, hy5⟩ : ∃ y, ys ++ be 8 x = y := ⟨_, rfl⟩
        rw [hy5] at hown5 ⊢
        have HY5 := Lib.hid hy5
        clear hy5 P3
        go_wp2
        go_roundw
        case rel =>
          refine ⟨k + 1, g5, c5, y5.length, y5, by omega, by go_num, rfl, rfl, ?_, ?_, hown5, nxt HB.out hB5 (Nat.le_refl _)⟩
          · rw [← HY5.out, List.length_append, be_len, ← HM.out, HM2.out]; omega
          · rw [← HY5.out, HYS.out, take_snoc l k hlt, List.flatMap_append, List.append_assoc]
            have := HX.out
            rw [List.getElem?_eq_getElem hlt, Option.getD_some] at this
            rw [this]; simp
        case measure => simp [intOf]; omega
      · have hfin : ys = encL t n l := by rw [HYS.out, List.take_of_length_le (by omega), HY0.out]; rfl
        have HFIN := Lib.hid hfin
        clear hfin hints
        go_wp2
        go_ret2
        refine ⟨g, cap, ?_, ?_, nxt HBw.out HB.out (by omega)⟩
        · rw [← HFIN.out, ← HM.out]; rfl
        · rw [← HFIN.out, ← HM.out]; exact row_more HOWN.out (by omega)

/-- A row that is written over: nothing else is touched. -/
def OverPost (B : Nat) (w : World) (e : Ending) (w' : World) : Prop := e = .returned (.tuple #[]) ∧ Only B w w'
set_option maxHeartbeats 1000000 in
theorem overb_any (base g cap : Nat) (l : List Int) (w : World) (hrow : w.ownsRow base 5 1 (.slice (some ⟨g, 0, none⟩) l.length cap) l.length (bytesOf l)) (ho : Octets l) (hl : l.length ≤ 1000) :
    Calls Tryd.prog 21 #[.slice (some ⟨g, 0, none⟩) l.length cap] w (OverPost g w) := by
  have HROW := Lib.hid hrow
  have HO := Lib.hid ho
  clear hrow ho
  go_enter Tryd.func21, Tryd.ntmps21
  go_wp2
  go_loopw [2] (fun i wr => ∃ (k : Nat) (xs : List Value), k ≤ l.length ∧ i = .int .i64 k ∧ (∀ j, k ≤ j → j < l.length → xs[j]? = some (.int .u8 (l[j]?.getD 0))) ∧ wr.ownsRow base 5 1 (.slice (some ⟨g, 0, none⟩) l.length cap) l.length xs ∧ Only g w wr) (fun i wr => l.length - (intOf i).toNat)
  case atStart => exact ⟨0, bytesOf l, Nat.zero_le _, rfl, fun j _ hj => by simp [bytesOf, hj], HROW.out, Only.of (Below.refl _ _) (Nat.le_refl _)⟩
  case round =>
    obtain ⟨k, xs, hk, rfl, hxs, hown, hon⟩ := hrel
    have HOWN := Lib.hid hown
    have HXS := Lib.hid hxs
    have HON := Lib.hid hon
    clear hown hxs hon
    by_cases hlt : k < l.length
    · have hc := (HOWN.out.cellAt k (by omega)).trans (HXS.out k (Nat.le_refl _) hlt)
      have hf := HOWN.out.frozenAt k
      have hk0 : (0 : Int) ≤ (k : Int) := by omega
      have hk1 : (k : Int) < (l.length : Int) := by omega
      obtain ⟨x, hx'⟩ : ∃ x, l[k]?.getD 0 = x := ⟨_, rfl⟩
      rw [hx'] at hc
      clear hx'
      go_wp2
      go_roundw
      case rel =>
        refine ⟨k + 1, _, by omega, by go_num, fun j h1 h2 => ?_, (HOWN.out.stored k _).1, HON.out.set k _⟩
        rw [List.getElem?_set_ne (by omega)]
        exact HXS.out j (by omega) h2
      case measure => simp [intOf]; omega
    · go_wp2
      go_end0
      exact ⟨rfl, HON.out⟩

def CopyStPost (t n : Int) (l : List Int) (w : World) (e : Ending) (w' : World) : Prop := ∃ A c, e = .returned (stV t n A l.length c) ∧ w'.ownsRow w.heap.size 3 1 (.slice A l.length c) l.length (intsOf l) ∧ Below w.heap.size w w'
theorem copyst_any (t n : Int) (A : Option Addr) (c : Nat) (l : List Int) (w : World) (hA : Ints w A l) (hlen : l.length ≤ 1000) :
    Calls Tryd.prog 10 #[stV t n A l.length c] w (CopyStPost t n l w) := by
  have hB0 : Below w.heap.size w ((w.alloc (.cells #[.int .i64 t, .int .i64 n, .slice A l.length c] 24)).alloc (.cells #[.int .i64 0, .int .i64 0, .slice none 0 0] 24)) := (alloc1 w _).alloc (by simp) _
  have HX := (Holds.new w 24 #[.int .i64 t, .int .i64 n, .slice A l.length c]).alloc (.cells #[.int .i64 0, .int .i64 0, .slice none 0 0] 24)
  have HZ := Holds.new (w.alloc (.cells #[.int .i64 t, .int .i64 n, .slice A l.length c] 24)) 24 #[.int .i64 0, .int .i64 0, .slice none 0 0]
  rw [World.size_alloc] at HZ
  have hs0 : w.heap.size + 1 < ((w.alloc (.cells #[.int .i64 t, .int .i64 n, .slice A l.length c] 24)).alloc (.cells #[.int .i64 0, .int .i64 0, .slice none 0 0] 24)).heap.size := by simp
  have H := copy_any A c l _ (hA.below hB0) hlen
  unfold CopyPost at H
  unfold stV
  clear hA
  go_enter Tryd.func10, Tryd.ntmps10
  go_wp2_with fail
  generalize (w.alloc (.cells #[.int .i64 t, .int .i64 n, .slice A l.length c] 24)).alloc (.cells #[.int .i64 0, .int .i64 0, .slice none 0 0] 24) = W0 at *
  refine H.mono ?_
  rintro e w1 ⟨g1, c1, rfl, hr1, hB1⟩
  have HX1 := HX.below hB1 (by omega)
  have HZ1 := HZ.below hB1 hs0
  have x2 := HX1.c (j := 2) rfl
  have f2 := HX1.frozen 2
  have HX2 := HX1.set 2 (.slice (some ⟨g1, 0, none⟩) l.length c1)
  have HZ2 : Holds (w1.setCell ⟨w.heap.size, 2, none⟩ (.slice (some ⟨g1, 0, none⟩) l.length c1)) (w.heap.size + 1) 24 #[.int .i64 0, .int .i64 0, .slice none 0 0] := HZ1.of (Below.heap_setCell _ _ _ _ (show w.heap.size + 1 ≠ w.heap.size by omega))
  have hO2 : Only w.heap.size w1 (w1.setCell ⟨w.heap.size, 2, none⟩ (.slice (some ⟨g1, 0, none⟩) l.length c1)) := (Only.of (Below.refl w1.heap.size w1) (Nat.le_refl _)).set 2 _
  have hr2 := hr1.kept hO2.grown (.inr (HX1.not_row hr1 (by decide)).symm)
  have hs1 := hB1.size
  clear hr1 H
  go_upto_region 2 with fail
  generalize w1.setCell ⟨w.heap.size, 2, none⟩ (.slice (some ⟨g1, 0, none⟩) l.length c1) = W2 at *
  have d0 : W2.cell? ⟨w.heap.size, 0, none⟩ = some (.int .i64 t) := HX2.c (j := 0) rfl
  have d1 : W2.cell? ⟨w.heap.size, 1, none⟩ = some (.int .i64 n) := HX2.c (j := 1) rfl
  have d2 : W2.cell? ⟨w.heap.size, 2, none⟩ = some (.slice (some ⟨g1, 0, none⟩) l.length c1) := HX2.c (j := 2) rfl
  have z0 := HZ2.c (j := 0) rfl
  have z1 := HZ2.c (j := 1) rfl
  have z2 := HZ2.c (j := 2) rfl
  have y0 := HZ2.frozen 0
  have y1 := HZ2.frozen 1
  have y2 := HZ2.frozen 2
  have hs2 := hO2.size
  go_wp2
  have HZ3 := ((HZ2.set 0 (.int .i64 t)).set 1 (.int .i64 n)).set 2 (.slice (some ⟨g1, 0, none⟩) l.length c1)
  have hO3 := (((Only.of (Below.refl W2.heap.size W2) (Nat.le_refl _)).set (B := w.heap.size + 1) 0 (.int .i64 t)).set 1 (.int .i64 n)).set 2 (.slice (some ⟨g1, 0, none⟩) l.length c1)
  have hr3 := hr2.kept hO3.grown (.inr (HZ2.not_row hr2 (by decide)).symm)
  generalize ((W2.setCell ⟨w.heap.size + 1, 0, none⟩ (.int .i64 t)).setCell ⟨w.heap.size + 1, 1, none⟩ (.int .i64 n)).setCell ⟨w.heap.size + 1, 2, none⟩ (.slice (some ⟨g1, 0, none⟩) l.length c1) = W3 at *
  have k0 := HZ3.c (j := 0) rfl
  have k1 := HZ3.c (j := 1) rfl
  have k2 := HZ3.c (j := 2) rfl
  refine bodyPost_ret (v := .agg #[.int .i64 t, .int .i64 n, .slice (some ⟨g1, 0, none⟩) l.length c1]) (by simp [results, Tryd.f10, go_sem, k0, k1, k2]) rfl ?_
  exact ⟨some ⟨g1, 0, none⟩, c1, rfl, row_more hr3 (by omega), nxt (nxt (nxt hB0 hB1 (by omega)) (hO2.below (lo := w.heap.size) (Nat.le_refl _) (by omega)) (Nat.le_refl _)) (hO3.below (lo := w.heap.size) (by omega) (by omega)) (Nat.le_refl _)⟩
end Go.Proofs.YtbenfdbjpefegaaDoor
