/- HistoryNone. -/
import Derived.Test.YtpdbkjnaicjfdaaGreatDoorHsZ
import Derived.OrdersHeld
import Derived.Deep.RegionHeld3
namespace Go.Proofs.YtpdbkjnaicjfdaaGreatDoor
open Go.RowKit Go.Maps
set_option linter.unusedVariables false
set_option maxRecDepth 100000

theorem read_one {W : World} {B : Nat} {z : EvZ} (h : Holds W B 55 (evC z.1 z.2.1 z.2.2)) : ReadEvs W.heap.size W (some ⟨B, 0, none⟩) [z] := fun _ =>
  ⟨B, 0, rfl, Holds.lt h, fun k hk j hj => by
    obtain rfl : k = 0 := by simpa using hk
    have hl : j < (evL z).length := by rw [evL_len]; exact hj
    have e := Holds.c h (j := j) (v := (evL z)[j]) (by show (evC z.1 z.2.1 z.2.2)[j]? = _; rw [← Array.getElem?_toList]; exact List.getElem?_eq_getElem hl)
    rw [show 0 + 0 * 11 + j = j by omega, e]
    show _ = (evL z)[j]?
    rw [List.getElem?_eq_getElem hl]⟩

set_option maxHeartbeats 4000000 in
theorem hnone_law (z : EvZ) (s : ByteArray) (w : World) (hG : Gds w) (hA : Ints w z.2.1 z.1.st.2.2) (hW : EvW z.1) (hs : s.size ≤ maxLen) :
    Calls Tryz.prog 5 #[evV z.1 z.2.1 z.2.2, .string s] w (Yes w) := by
  obtain ⟨hw, hk⟩ := hG
  have HGW := Lib.hid (fun W (hB : Below w.heap.size w W) => hawake_any W (hw.on hB) (hk.on hB))
  have hb1 := alloc1 w (.cells (evC z.1 z.2.1 z.2.2) 55)
  have HX1 := Lib.hid (Holds.new w 55 (evC z.1 z.2.1 z.2.2))
  obtain ⟨W1, hW1⟩ : ∃ W1, w.alloc (.cells (evC z.1 z.2.1 z.2.2) 55) = W1 := ⟨_, rfl⟩
  have hsz1 : W1.heap.size = w.heap.size + 1 := by rw [← hW1]; simp
  have hb2 := alloc1 W1 (.cells (evC z.1 z.2.1 z.2.2) 55)
  have HX2 := Lib.hid (Holds.new W1 55 (evC z.1 z.2.1 z.2.2))
  have hg1 := hW1
  rw [hW1] at hb1 HX1
  have HX12 := Lib.hid (Holds.below HX1.out hb2 (Holds.lt HX1.out))
  rw [hsz1] at HX2
  obtain ⟨W2, hW2⟩ : ∃ W2, W1.alloc (.cells (evC z.1 z.2.1 z.2.2) 55) = W2 := ⟨_, rfl⟩
  have hg2 := hW2
  rw [← hg1] at hg2
  rw [hW2] at hb2 HX2 HX12
  have hB2 := nxt hb1 hb2 hb1.size
  have HLG := Lib.hid (long_any (some ⟨w.heap.size + 1, 0, none⟩) 1 [z] W2 (read_one HX2.out) (by simp [maxLen]))
  have HADD := Lib.hid (fun (W : World) (p : Option Addr) (h : NoDesk W p) => add_none h z.1 z.2.1 z.2.2)
  have HHOLD := Lib.hid HX12.out
  clear hW1 hW2 hg1 HX1 HX2 HX12 hb1 hb2 hsz1 hw hk hA
  obtain ⟨⟨kd, nm, ob, ⟨o1, o2, o3, o4, o5⟩, t, n, l⟩, A, c⟩ := z
  unfold evV evC at *
  dsimp only at hW HLG HADD HHOLD hg2 ⊢
  obtain ⟨lg, hlg⟩ : ∃ b, longB ([((⟨kd, nm, ob, (o1, o2, o3, o4, o5), t, n, l⟩, A, c) : EvZ)].map Prod.fst) = b := ⟨_, rfl⟩
  rw [hlg] at HLG
  clear hlg
  go_enter Tryz.func5, Tryz.ntmps5
  go_wp2_with fail
  clear hg2
  refine HLG.out.mono ?_
  rintro e w3 ⟨rfl, hb3⟩
  have hB3 := nxt hB2 hb3 hB2.size
  cases lg with
  | true =>
    go_wp2_with fail
    refine (HGW.out _ hB3).mono ?_
    rintro e w4 ⟨rfl, hb4⟩
    go_wp2
    go_ret
    exact ⟨rfl, nxt hB3 hb4 hB3.size⟩
  | false =>
    by_cases h60 : 60 < s.size
    · have k1 : decide ((60 : Int) < (s.size : Int)) = true := decide_eq_true (by omega)
      go_wp2_with fail
      refine (HGW.out _ hB3).mono ?_
      rintro e w4 ⟨rfl, hb4⟩
      go_wp2
      go_ret
      exact ⟨rfl, nxt hB3 hb4 hB3.size⟩
    · have k1 : decide ((60 : Int) < (s.size : Int)) = false := decide_eq_false (by omega)
      obtain ⟨W5, hW5⟩ : ∃ W5, (w3.alloc (.cells #[.pointer none, .map none, .slice none 0 0, .map none, .slice none 0 0, .int .i64 0, .int .i64 0] 71)).alloc (.cells #[.pointer none, .pointer (some ⟨w3.heap.size, 0, none⟩)] 39) = W5 := ⟨_, rfl⟩
      have hB5 : Below w3.heap.size w3 W5 := by rw [← hW5]; exact ((Below.refl _ _).alloc (Nat.le_refl _) _).alloc (by simp) _
      have hBw5 := nxt hB3 hB5 hB3.size
      have hc0 : W5.cell? ⟨w3.heap.size + 1, 0, none⟩ = some (.pointer none) := by rw [← hW5]; simp
      have hc1 : W5.cell? ⟨w3.heap.size + 1, 1, none⟩ = some (.pointer (some ⟨w3.heap.size, 0, none⟩)) := by rw [← hW5]; simp
      have hcB : W5.cell? ⟨w3.heap.size, 0, none⟩ = some (.pointer none) := by rw [← hW5]; simp
      have hsl : w3.heap.size + 1 < W5.heap.size := by rw [← hW5]; simp
      have HEV := Lib.hid (Holds.below (Holds.below HHOLD.out hb3 (Holds.lt HHOLD.out)) hB5 (Nat.lt_of_lt_of_le (Holds.lt HHOLD.out) hb3.size))
      have hall : ∀ k : Nat, k < 2 → ∃ p, W5.cell? ⟨w3.heap.size + 1, k, none⟩ = some (.pointer p) ∧ NoDesk W5 p := by
        intro k hk
        match k, hk with
        | 0, _ => exact ⟨_, hc0, .inl rfl⟩
        | 1, _ => exact ⟨_, hc1, .inr ⟨_, rfl, hcB⟩⟩
      have HALL := Lib.hid hall
      have HB5 := Lib.hid hBw5
      clear hc0 hc1 hcB hall hBw5 hB5 HLG HHOLD
      go_wp2
      clear hW5
      go_loopw [6, 7, 8] (fun i u7 u8 wr => ∃ k : Nat, k ≤ 2 ∧ i = .int .i64 k ∧ Below W5.heap.size W5 wr) (fun i u7 u8 wr => 2 - (intOf i).toNat)
      case atStart => exact ⟨0, by omega, rfl, Below.refl _ _⟩
      case round =>
        obtain ⟨k, hk, rfl, hB⟩ := hrel
        by_cases hlt : k < 2
        · obtain ⟨p, hp, hN⟩ := HALL.out k hlt
          have hp' := (hB.cell (p := ⟨w3.heap.size + 1, k, none⟩) hsl).trans hp
          have HN := Lib.hid (hN.below hB)
          have HE7 := Lib.hid (Holds.below HEV.out hB (Holds.lt HEV.out))
          have hsw := Nat.lt_of_lt_of_le hsl hB.size
          have q0 : (0 : Int) ≤ (k : Int) := by omega
          have q1 : (k : Int) < 2 := by omega
          have q2 : decide ((k : Int) < 2) = true := decide_eq_true q1
          clear hp hN
          go_wp2_with fail
          refine (life_none HN.out s).mono ?_
          rintro e w7 ⟨rfl, hb7⟩
          unfold lifeV lfZ
          have HN7 := Lib.hid (HN.out.below hb7)
          have hp7 := (hb7.cell (p := ⟨w3.heap.size + 1, k, none⟩) hsw).trans hp'
          have HE8 := Lib.hid (Holds.below HE7.out hb7 (Holds.lt HE7.out))
          have hb9 := alloc1 w7 (.cells #[.string ⟨#[]⟩, .int .i64 0, .int .i64 0, .bool false, .int .i64 0] 58)
          have HX9 := Lib.hid (Holds.new w7 58 #[.string ⟨#[]⟩, .int .i64 0, .int .i64 0, .bool false, .int .i64 0])
          have HN9 := Lib.hid (HN7.out.below hb9)
          have hp9 := (hb9.cell (p := ⟨w3.heap.size + 1, k, none⟩) (Nat.lt_of_lt_of_le hsw hb7.size)).trans hp7
          have HE9 := Lib.hid (Holds.below HE8.out hb9 (Holds.lt HE8.out))
          have hB9 := nxt (nxt hB hb7 hB.size) hb9 (nxt hB hb7 hB.size).size
          clear hp7 hp' HN HN7 HE7 HE8 hB
          go_upto_region 8 with fail
          generalize w7.alloc (.cells #[.string ⟨#[]⟩, .int .i64 0, .int .i64 0, .bool false, .int .i64 0] 58) = W9 at *
          have hl9 := Holds.lt HX9.out
          have hle := Holds.lt HE9.out
          have HC := Lib.hid (fun (w' : World) (hb : Below W9.heap.size W9 w') => (show w'.cell? ⟨w3.heap.size + 1, k, none⟩ = some (.pointer p) ∧
              w'.cell? ⟨w.heap.size, 0, none⟩ = some (.int .i64 kd) ∧ w'.cell? ⟨w.heap.size, 1, none⟩ = some (.string nm) ∧ w'.cell? ⟨w.heap.size, 2, none⟩ = some (.string ob) ∧ w'.cell? ⟨w.heap.size, 3, none⟩ = some (.int .i64 o1) ∧
              w'.cell? ⟨w.heap.size, 4, none⟩ = some (.int .i64 o2) ∧ w'.cell? ⟨w.heap.size, 5, none⟩ = some (.int .i64 o3) ∧ w'.cell? ⟨w.heap.size, 6, none⟩ = some (.int .i64 o4) ∧ w'.cell? ⟨w.heap.size, 7, none⟩ = some (.int .i64 o5) ∧
              w'.cell? ⟨w.heap.size, 8, none⟩ = some (.int .i64 t) ∧ w'.cell? ⟨w.heap.size, 9, none⟩ = some (.int .i64 n) ∧ w'.cell? ⟨w.heap.size, 10, none⟩ = some (.slice A l.length c) ∧
              w'.cell? ⟨w7.heap.size, 0, none⟩ = some (.string ⟨#[]⟩) ∧ w'.cell? ⟨w7.heap.size, 1, none⟩ = some (.int .i64 0) ∧ w'.cell? ⟨w7.heap.size, 2, none⟩ = some (.int .i64 0) ∧ w'.cell? ⟨w7.heap.size, 3, none⟩ = some (.bool false) ∧ w'.cell? ⟨w7.heap.size, 4, none⟩ = some (.int .i64 0) from by
            have k9 := Holds.below HX9.out hb hl9
            have ke := Holds.below HE9.out hb hle
            exact ⟨(hb.cell (p := ⟨w3.heap.size + 1, k, none⟩) (World.block_lt_of_cell? _ _ hp9)).trans hp9, Holds.c ke (j := 0) rfl, Holds.c ke (j := 1) rfl, Holds.c ke (j := 2) rfl, Holds.c ke (j := 3) rfl, Holds.c ke (j := 4) rfl, Holds.c ke (j := 5) rfl, Holds.c ke (j := 6) rfl, Holds.c ke (j := 7) rfl, Holds.c ke (j := 8) rfl, Holds.c ke (j := 9) rfl, Holds.c ke (j := 10) rfl, Holds.c k9 (j := 0) rfl, Holds.c k9 (j := 1) rfl, Holds.c k9 (j := 2) rfl, Holds.c k9 (j := 3) rfl, Holds.c k9 (j := 4) rfl⟩))
          have hd9 : Below W9.heap.size W9 W9.drew := (Below.refl _ W9).drew
          clear hp9 HX9 HE9 HEV HALL hl9 hle hb9 hb7
          refine wp_region_noPanic ?_
          refine wp_region_steps (List.replicate 5 true ++ false :: (List.replicate 6 true ++ false :: (List.replicate 7 true ++ false :: List.replicate 11 true))) (fun w' => Below W9.heap.size W9 w') (by kernel_rfl) (by kernel_rfl) (fun _ _ _ _ _ h => h) hd9 ?_
          simp only [List.replicate, List.cons_append, List.nil_append]
          repeat
            first
              | (refine Steps.skip (by rfl) ?_; simp only [Act.put, List.setIfInBounds_toArray, List.set_cons_zero, List.set_cons_succ])
              | (refine Steps.take ?_ (by rfl) ?_ ?_; rotate_left; (intro w' hw'; (obtain ⟨v0, v1, v2, v3, v4, v5, v6, v7, v8, v9, v10, v11, v12, v13, v14, v15, v16⟩ := HC.out w' hw'); clear hw'; go_simp; (try with_reducible rfl)); simp only [Act.put, List.setIfInBounds_toArray, List.set_cons_zero, List.set_cons_succ])
          refine Steps.call 26 #[.pointer p, .agg #[.int .i64 kd, .string nm, .string ob, .int .i64 o1, .int .i64 o2, .int .i64 o3, .int .i64 o4, .int .i64 o5, .int .i64 t, .int .i64 n, .slice A l.length c]] (by rfl) (by go_simp) ?_
          refine (HADD.out _ p (HN9.out.below hd9)).mono ?_
          rintro e w10 ⟨rfl, hb10⟩
          have hS10 : Below W9.heap.size W9 w10 := hd9.trans hb10
          refine ⟨_, rfl, hS10, ?_⟩
          simp only [Act.put, List.setIfInBounds_toArray, List.set_cons_zero, List.set_cons_succ]
          repeat
            first
              | (refine Steps.skip (by rfl) ?_; simp only [Act.put, List.setIfInBounds_toArray, List.set_cons_zero, List.set_cons_succ])
              | (refine Steps.take ?_ (by rfl) ?_ ?_; rotate_left; (intro w' hw'; (obtain ⟨v0, v1, v2, v3, v4, v5, v6, v7, v8, v9, v10, v11, v12, v13, v14, v15, v16⟩ := HC.out w' hw'); clear hw'; go_simp; (try with_reducible rfl)); simp only [Act.put, List.setIfInBounds_toArray, List.set_cons_zero, List.set_cons_succ])
          refine Steps.call 24 #[.pointer p] (by rfl) (by go_simp) ?_
          refine (len_no p w10 (HN9.out.below hS10).made).mono ?_
          rintro e w11 ⟨rfl, rfl⟩
          refine ⟨_, rfl, hS10, ?_⟩
          simp only [Act.put, List.setIfInBounds_toArray, List.set_cons_zero, List.set_cons_succ]
          repeat
            first
              | (refine Steps.skip (by rfl) ?_; simp only [Act.put, List.setIfInBounds_toArray, List.set_cons_zero, List.set_cons_succ])
              | (refine Steps.take ?_ (by rfl) ?_ ?_; rotate_left; (intro w' hw'; (obtain ⟨v0, v1, v2, v3, v4, v5, v6, v7, v8, v9, v10, v11, v12, v13, v14, v15, v16⟩ := HC.out w' hw'); clear hw'; go_simp; (try with_reducible rfl)); simp only [Act.put, List.setIfInBounds_toArray, List.set_cons_zero, List.set_cons_succ])
          refine Steps.call 25 #[.pointer p] (by rfl) (by go_simp) ?_
          refine (running_none (HN9.out.below hS10)).mono ?_
          rintro e w12 ⟨rfl, hb12⟩
          have hS12 := nxt hS10 hb12 hS10.size
          refine ⟨_, rfl, hS12, ?_⟩
          simp only [Act.put, List.setIfInBounds_toArray, List.set_cons_zero, List.set_cons_succ]
          repeat
            first
              | (refine Steps.skip (by rfl) ?_; simp only [Act.put, List.setIfInBounds_toArray, List.set_cons_zero, List.set_cons_succ])
              | (refine Steps.take ?_ (by rfl) ?_ ?_; rotate_left; (intro w' hw'; (obtain ⟨v0, v1, v2, v3, v4, v5, v6, v7, v8, v9, v10, v11, v12, v13, v14, v15, v16⟩ := HC.out w' hw'); clear hw'; go_simp; (try with_reducible rfl)); simp only [Act.put, List.setIfInBounds_toArray, List.set_cons_zero, List.set_cons_succ])
          refine Steps.done ?_
          refine NoPanic.normal ?_
          go_wp2
          go_roundw
          case rel => exact ⟨k + 1, by omega, by go_num, nxt hB9 hS12 hB9.size⟩
          case measure => simp [intOf]; omega
        · have hd : decide ((k : Int) < 2) = false := decide_eq_false (by omega)
          have hBf := nxt HB5.out hB HB5.out.size
          go_wp2_with fail
          refine (HGW.out _ hBf).mono ?_
          rintro e w4 ⟨rfl, hb4⟩
          go_wp2
          go_ret
          exact ⟨rfl, nxt hBf hb4 hBf.size⟩
end Go.Proofs.YtpdbkjnaicjfdaaGreatDoor
