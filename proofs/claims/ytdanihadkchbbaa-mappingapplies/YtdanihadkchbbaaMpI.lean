/- The document's Find, Drop, Set, had. -/
import Derived.Test.YtdanihadkchbbaaMpH
namespace Go.Proofs.Ytdanihadkchbbaa
open Go.RowKit Go.Maps
set_option linter.unusedVariables false
set_option linter.unusedSimpArgs false

def rfV (l : List Int) (x : Int) : Value := .tuple #[.int .i64 ((rget l x).getD 0), .bool (rget l x).isSome]

set_option maxHeartbeats 1000000 in
theorem mrfind_any (A : Option Addr) (c : Nat) (l : List Int) (x : Int) (w : World) (hA : Ints w A l) (hlen : l.length ≤ 1000) :
    Calls Try.prog 12 #[.slice A l.length c, .int .i64 x] w fun e w' => e = .returned (rfV l x) ∧ w' = w := by
  have HA := Lib.hid hA
  clear hA
  go_enter Try.func12, Try.ntmps12
  go_wp2
  go_loopw [6] (fun s6 wr => ∃ n : Nat, n ≤ l.length ∧ s6 = .int .i64 n ∧ rget l x = rget (l.drop n) x ∧ w = wr) (fun s6 wr => l.length - (intOf s6).toNat)
  case atStart => exact ⟨0, Nat.zero_le _, rfl, rfl, rfl⟩
  case round =>
    obtain ⟨n, hn, rfl, hr, rfl⟩ := hrel
    have HR := Lib.hid hr
    clear hr
    by_cases hlt : n + 1 < l.length
    · obtain ⟨b, off, rfl, hb, hc⟩ := HA.out (by omega)
      have ck := hc n (by omega)
      have cv := hc (n + 1) hlt
      have hd := drop_two l n hlt
      obtain ⟨k, hk⟩ : ∃ k, l[n]?.getD 0 = k := ⟨_, rfl⟩
      obtain ⟨u, hu⟩ : ∃ u, l[n + 1]?.getD 0 = u := ⟨_, rfl⟩
      rw [hk, hu] at hd
      rw [hk] at ck
      rw [hu] at cv
      have HD := Lib.hid hd
      have g0 : (0 : Int) ≤ (n : Int) := by omega
      have g1 : (n : Int) < (l.length : Int) := by omega
      have g2 : decide ((n : Int) + 1 < (l.length : Int)) = true := decide_eq_true (by omega)
      have g3 : (0 : Int) ≤ (n : Int) + 1 := by omega
      have g4 : (n : Int) + 1 < (l.length : Int) := by omega
      clear hc hk hu hd
      by_cases e : k = x
      · have g5 : (k == x) = true := by simp [e]
        have g6 : (x == x) = true := by simp
        have HV : Hid (rfV l x = .tuple #[.int .i64 u, .bool true]) := Lib.hid (by unfold rfV; rw [HR.out, HD.out]; simp [rget, e])
        clear HD HR e
        go_wp2
        rw [HV.out]
        refine bodyPost_ret (v := .tuple #[.int .i64 u, .bool true]) (by simp [results, Try.f12, go_sem]) rfl ?_
        exact ⟨rfl, rfl⟩
      · have g5 : (k == x) = false := by simp [e]
        have HR2 : Hid (rget l x = rget (l.drop (n + 2)) x) := Lib.hid (by rw [HR.out, HD.out]; simp [rget, e])
        clear HD HR e
        go_wp2
        go_roundw
        case rel => exact ⟨n + 2, by omega, by go_num, HR2.out, by first | exact rfl | trivial⟩
        case measure => simp [intOf]; omega
    · have g2 : decide ((n : Int) + 1 < (l.length : Int)) = false := decide_eq_false (by omega)
      have HV : Hid (rfV l x = .tuple #[.int .i64 0, .bool false]) := Lib.hid (by
        unfold rfV; rw [HR.out]
        rcases drop_short l n hlt with h | ⟨a, h⟩ <;> rw [h] <;> rfl)
      go_wp2
      rw [HV.out]
      refine bodyPost_ret (v := .tuple #[.int .i64 0, .bool false]) (by simp [results, Try.f12, go_sem]) rfl ?_
      exact ⟨rfl, rfl⟩
-- DROP

set_option maxRecDepth 100000 in
set_option maxHeartbeats 2000000 in
theorem mrdrop_any (A : Option Addr) (c : Nat) (l : List Int) (x : Int) (w : World) (hA : Ints w A l) (hlen : l.length ≤ 1000) :
    Calls Try.prog 17 #[.slice A l.length c, .int .i64 x] w (RowPost (rdrop l x) w) := by
  have HA := Lib.hid hA
  clear hA
  go_enter Try.func17, Try.ntmps17
  go_wp2
  go_loopw [5, 6] (fun s5 s6 wr => ∃ (n m : Nat) (o : List Int), n ≤ l.length ∧ s6 = .int .i64 n ∧ m ≤ n ∧ rdrop l x = o ++ rdrop (l.drop n) x ∧ wr.ownsRow w.heap.size 3 1 s5 m (intsOf o) ∧ Below w.heap.size w wr) (fun s5 s6 wr => l.length - (intOf s6).toNat)
  case atStart => exact ⟨0, 0, [], Nat.zero_le _, rfl, Nat.le_refl _, rfl, World.ownsRow_nil _ _ _ _, Below.refl _ _⟩
  case round =>
    obtain ⟨n, m, o, hn, rfl, hmn, hr, ho, hB⟩ := hrel
    have HR := Lib.hid hr
    have HO := Lib.hid ho
    have HB := Lib.hid hB
    have hAr := HA.out.below hB
    clear hr ho hB
    by_cases hlt : n + 1 < l.length
    · have hA0 := HA.out
      obtain ⟨b, off, rfl, hb, hc⟩ := hA0 (by omega)
      obtain ⟨k, hk⟩ : ∃ k, l[n]?.getD 0 = k := ⟨_, rfl⟩
      obtain ⟨u, hu⟩ : ∃ u, l[n + 1]?.getD 0 = u := ⟨_, rfl⟩
      obtain ⟨n1, hn1⟩ : ∃ n1, n1 = n + 1 := ⟨_, rfl⟩
      have hd := drop_two l n hlt
      rw [hk, hu] at hd
      have HD := Lib.hid hd
      have ck0 := hc n (by omega)
      have cv0 := hc (n + 1) hlt
      rw [hk] at ck0
      rw [hu, ← hn1] at cv0
      have g0 : (0 : Int) ≤ (n : Int) := by omega
      have g1 : (n : Int) < (l.length : Int) := by omega
      have g2 : decide ((n : Int) + 1 < (l.length : Int)) = true := decide_eq_true (by omega)
      have g5 : IntKind.i64.wrap ((n : Int) + 1) = (n1 : Int) := by rw [IntWalk.i64_left]; unfold wrap64; omega
      have g6 : (0 : Int) ≤ (n1 : Int) := by omega
      have g7 : (n1 : Int) < (l.length : Int) := by omega
      have g8 : decide ((n1 : Int) < (l.length : Int)) = true := decide_eq_true (by omega)
      clear hk hu hd hc hn1
      have HCN : Hid (∀ W, Below w.heap.size w W → W.cell? ⟨b, off + n, none⟩ = some (.int .i64 k)) := Lib.hid fun W h => (h.cell (p := ⟨b, off + n, none⟩) hb).trans ck0
      have HCV : Hid (∀ W, Below w.heap.size w W → W.cell? ⟨b, off + n1, none⟩ = some (.int .i64 u)) := Lib.hid fun W h => (h.cell (p := ⟨b, off + n1, none⟩) hb).trans cv0
      have ck := HCN.out wr HB.out
      clear ck0 cv0 hAr hA0
      by_cases e : k = x
      · have g9 : (k != x) = false := by simp [e]
        have HR2 : Hid (rdrop l x = o ++ rdrop (l.drop (n + 2)) x) := Lib.hid (by rw [HR.out, HD.out]; simp [rdrop, e])
        clear HD HR e
        go_wp2
        go_roundw
        case rel => exact ⟨n + 2, m, o, by omega, by go_num, by omega, HR2.out, HO.out, HB.out⟩
        case measure => simp [intOf]; omega
      · have g9 : (k != x) = true := by simp [e]
        have HR2 : Hid (rdrop l x = (o ++ [k, u]) ++ rdrop (l.drop (n + 2)) x) := Lib.hid (by rw [HR.out, HD.out]; simp [rdrop, e])
        clear HD HR e
        go_wp2_with fail
        refine wp_region_noPanic ?_
        refine wp_region_picked [(0, true), (1, true), (2, true), (3, true), (4, true), (5, true), (6, true), (7, true), (8, true), (9, true), (10, false), (11, false), (12, true)] (fun W' => Below w.heap.size w W') (by kernel_rfl) (by kernel_rfl) (fun _ _ _ _ _ h => h) HB.out.drew ?_
        iterate 10
          refine Picked.take ?_ (by rfl) (by rfl) ?_ ?_
          rotate_left
          · intro w' hw'
            have ck := HCN.out w' hw'
            have cv := HCV.out w' hw'
            go_simp
            try with_reducible rfl
          simp only [Act.put, List.getElem_toArray, List.getElem_cons_zero, List.getElem_cons_succ, List.setIfInBounds_toArray, List.set_cons_zero, List.set_cons_succ]
        refine ⟨_, by rfl, by rfl, ?_⟩
        go_simp
        have hB2 : Below w.heap.size w (wr.alloc (.cells #[.int .i64 k, .int .i64 u] 3)).drew := (gro_alloc HB.out _).drew
        refine ⟨hB2, ?_⟩
        obtain ⟨v3, w3, hr3, ho3, hg3, hn3⟩ := app_run (wr.alloc (.cells #[.int .i64 k, .int .i64 u] 3)).drew w.heap.size 22 22 Try.underlying22 _ m (intsOf o) (row_mid (row_below HO.out (alloc1 wr (.cells #[.int .i64 k, .int .i64 u] 3))) (fun _ _ _ => rfl)) (some ⟨wr.heap.size, 0, none⟩) 2 2 [k, u] rfl ((ints_lit wr [k, u] 3 _ rfl).below ((Below.refl _ _).drew)) (by omega) (by omega) hB2.size
        have hB3 : Below w.heap.size w w3 := hB2.grown hg3 hB2.size (fun r e => (HO.out.lt r e).1)
        refine Picked.make (w1 := w3) v3 (by rfl) (by rfl) (exec_app _ _ _ _ _ _ rfl rfl rfl hr3) hB3 ?_
        simp only [Act.put, List.getElem_toArray, List.getElem_cons_zero, List.getElem_cons_succ, List.setIfInBounds_toArray, List.set_cons_zero, List.set_cons_succ]
        refine Picked.take v3 (by rfl) (by rfl) (fun w' _ => by go_simp) ?_
        simp only [Act.put, List.getElem_toArray, List.getElem_cons_zero, List.getElem_cons_succ, List.setIfInBounds_toArray, List.set_cons_zero, List.set_cons_succ]
        refine NoPanic.normal ?_
        have HO3 := Lib.hid ho3
        have HB3 := Lib.hid hB3
        clear hr3 ho3 hg3 hn3 hB2 hB3
        go_wp2
        go_roundw
        case rel => exact ⟨n + 2, m + 2, o ++ [k, u], by omega, by go_num, by omega, HR2.out, by rw [intsOf_app]; exact HO3.out, HB3.out⟩
        case measure => simp [intOf]; omega
    · have g2 : decide ((n : Int) + 1 < (l.length : Int)) = false := decide_eq_false (by omega)
      have HE : Hid (rdrop l x = o) := Lib.hid (by
        rw [HR.out]
        rcases drop_short l n hlt with h | ⟨a, h⟩ <;> rw [h] <;> simp [rdrop])
      go_wp2
      go_ret
      rw [HE.out]
      exact row_ends HO.out HB.out

set_option maxRecDepth 100000 in
set_option maxHeartbeats 4000000 in
theorem mrset_any (A : Option Addr) (c : Nat) (l : List Int) (x v : Int) (w : World) (hA : Ints w A l) (hlen : l.length ≤ 900) (hdl : (rdrop l x).length ≤ 900) :
    Calls Try.prog 16 #[.slice A l.length c, .int .i64 x, .int .i64 v] w (RowPost (rins (rdrop l x) x v) w) := by
  have HDR := mrdrop_any A c l x w hA (by omega)
  unfold RowPost at HDR
  generalize rdrop l x = s at *
  clear hA
  go_enter Try.func16, Try.ntmps16
  go_wp2_with fail
  refine HDR.mono ?_
  rintro e w1 ⟨D, cD, rfl, hoD, hB1⟩
  have HAD := Lib.hid (own_ints rfl hoD)
  have hfit := row_fit hoD
  have HB1 := Lib.hid hB1
  have hs1 := hB1.size
  clear hoD hB1
  go_wp2
  go_loopw [8, 9] (fun s8 s9 wr => ∃ (n m : Nat) (o : List Int), n ≤ s.length ∧ s9 = .int .i64 n ∧ m ≤ n ∧ rins s x v = o ++ rins (s.drop n) x v ∧ wr.ownsRow w1.heap.size 3 1 s8 m (intsOf o) ∧ Below w1.heap.size w1 wr) (fun s8 s9 wr => s.length - (intOf s9).toNat)
  case atStart => exact ⟨0, 0, [], Nat.zero_le _, rfl, Nat.le_refl _, rfl, World.ownsRow_nil _ _ _ _, Below.refl _ _⟩
  case round =>
    obtain ⟨n, m, o, hn, rfl, hmn, hr, ho, hB⟩ := hrel
    have HR := Lib.hid hr
    have HO := Lib.hid ho
    have HB := Lib.hid hB
    have hsr := hB.size
    clear hr ho hB
    by_cases hlt : n + 1 < s.length
    · have hA0 := HAD.out
      obtain ⟨b, off, rfl, hb, hc⟩ := hA0 (by omega)
      obtain ⟨k, hk⟩ : ∃ k, s[n]?.getD 0 = k := ⟨_, rfl⟩
      obtain ⟨u, hu⟩ : ∃ u, s[n + 1]?.getD 0 = u := ⟨_, rfl⟩
      obtain ⟨n1, hn1⟩ : ∃ n1, n1 = n + 1 := ⟨_, rfl⟩
      have hd := drop_two s n hlt
      rw [hk, hu] at hd
      have HD := Lib.hid hd
      have ck0 := hc n (by omega)
      have cv0 := hc (n + 1) hlt
      rw [hk] at ck0
      rw [hu, ← hn1] at cv0
      have g0 : (0 : Int) ≤ (n : Int) := by omega
      have g1 : (n : Int) < (s.length : Int) := by omega
      have g2 : decide ((n : Int) + 1 < (s.length : Int)) = true := decide_eq_true (by omega)
      have g5 : IntKind.i64.wrap ((n : Int) + 1) = (n1 : Int) := by rw [IntWalk.i64_left]; unfold wrap64; omega
      have g6 : (0 : Int) ≤ (n1 : Int) := by omega
      have g7 : (n1 : Int) < (s.length : Int) := by omega
      have g8 : decide ((n1 : Int) < (s.length : Int)) = true := decide_eq_true (by omega)
      clear hk hu hd hc hn1
      have HCN : Hid (∀ W, Below w1.heap.size w1 W → W.cell? ⟨b, off + n, none⟩ = some (.int .i64 k)) := Lib.hid fun W h => (h.cell (p := ⟨b, off + n, none⟩) hb).trans ck0
      have HCV : Hid (∀ W, Below w1.heap.size w1 W → W.cell? ⟨b, off + n1, none⟩ = some (.int .i64 u)) := Lib.hid fun W h => (h.cell (p := ⟨b, off + n1, none⟩) hb).trans cv0
      have ck := HCN.out wr HB.out
      clear ck0 cv0 hA0
      by_cases e : k < x
      · have g9 : decide (k < x) = true := decide_eq_true e
        have HR2 : Hid (rins s x v = (o ++ [k, u]) ++ rins (s.drop (n + 2)) x v) := Lib.hid (by rw [HR.out, HD.out]; simp [rins, e])
        clear HD HR e
        go_wp2_with fail
        refine wp_region_noPanic ?_
        refine wp_region_picked [(0, true), (1, true), (2, true), (3, true), (4, true), (5, true), (6, true), (7, true), (8, true), (9, true), (10, false), (11, false), (12, true)] (fun W' => Below w1.heap.size w1 W') (by kernel_rfl) (by kernel_rfl) (fun _ _ _ _ _ h => h) HB.out.drew ?_
        iterate 10
          refine Picked.take ?_ (by rfl) (by rfl) ?_ ?_
          rotate_left
          · intro w' hw'
            have ck := HCN.out w' hw'
            have cv := HCV.out w' hw'
            go_simp
            try with_reducible rfl
          simp only [Act.put, List.getElem_toArray, List.getElem_cons_zero, List.getElem_cons_succ, List.setIfInBounds_toArray, List.set_cons_zero, List.set_cons_succ]
        refine ⟨_, by rfl, by rfl, ?_⟩
        go_simp
        have hB2 : Below w1.heap.size w1 (wr.alloc (.cells #[.int .i64 k, .int .i64 u] 3)).drew := (gro_alloc HB.out _).drew
        refine ⟨hB2, ?_⟩
        obtain ⟨v3, w3, hr3, ho3, hg3, hn3⟩ := app_run (wr.alloc (.cells #[.int .i64 k, .int .i64 u] 3)).drew w1.heap.size 22 22 Try.underlying22 _ m (intsOf o) (row_mid (row_below HO.out (alloc1 wr (.cells #[.int .i64 k, .int .i64 u] 3))) (fun _ _ _ => rfl)) (some ⟨wr.heap.size, 0, none⟩) 2 2 [k, u] rfl ((ints_lit wr [k, u] 3 _ rfl).below ((Below.refl _ _).drew)) (by omega) (by omega) hB2.size
        have hB3 : Below w1.heap.size w1 w3 := hB2.grown hg3 hB2.size (fun r e => (HO.out.lt r e).1)
        refine Picked.make (w1 := w3) v3 (by rfl) (by rfl) (exec_app _ _ _ _ _ _ rfl rfl rfl hr3) hB3 ?_
        simp only [Act.put, List.getElem_toArray, List.getElem_cons_zero, List.getElem_cons_succ, List.setIfInBounds_toArray, List.set_cons_zero, List.set_cons_succ]
        refine Picked.take v3 (by rfl) (by rfl) (fun w' _ => by go_simp) ?_
        simp only [Act.put, List.getElem_toArray, List.getElem_cons_zero, List.getElem_cons_succ, List.setIfInBounds_toArray, List.set_cons_zero, List.set_cons_succ]
        refine NoPanic.normal ?_
        have HO3 := Lib.hid ho3
        have HB3 := Lib.hid hB3
        clear hr3 ho3 hg3 hn3 hB2 hB3
        go_wp2
        go_roundw
        case rel => exact ⟨n + 2, m + 2, o ++ [k, u], by omega, by go_num, by omega, HR2.out, by rw [intsOf_app]; exact HO3.out, HB3.out⟩
        case measure => simp [intOf]; omega
      · have g9 : decide (k < x) = false := decide_eq_false e
        have HE : Hid (rins s x v = o ++ ([x, v] ++ s.drop n)) := Lib.hid (by rw [HR.out, HD.out]; simp [rins, e])
        clear HD HR
        have q0 : (0 : Int) ≤ (n : Int) := by omega
        have q1 : (n : Int) ≤ (s.length : Int) := by omega
        have q2 : (s.length : Int) ≤ (cD : Int) := by omega
        go_wp2_with fail
        refine wp_region_noPanic ?_
        refine wp_region_picked [(0, true), (1, true), (2, true), (5, true), (6, true), (7, true), (3, false), (4, false), (8, false), (9, true)] (fun W' => True) (by kernel_rfl) (by kernel_rfl) (fun _ _ _ _ _ h => h) trivial ?_
        iterate 5
          refine Picked.take ?_ (by rfl) (by rfl) ?_ ?_
          rotate_left
          · intro w' hw'
            go_simp
            try with_reducible rfl
          simp only [Act.put, List.getElem_toArray, List.getElem_cons_zero, List.getElem_cons_succ, List.setIfInBounds_toArray, List.set_cons_zero, List.set_cons_succ]
        refine Picked.take (.slice (subA (some ⟨b, off, none⟩) cD n) (s.length - n) (cD - n)) (by rfl) (by rfl) ?_ ?_
        · intro w' hw'
          by_cases hcp : cD = n
          · have e1 : subA (some ⟨b, off, none⟩) cD n = (some ⟨b, off, none⟩) := by unfold subA; rw [if_pos hcp]
            have e2 : cD - n = 0 := by omega
            rw [e1, e2]
            go_simp
          · have e1 : subA (some ⟨b, off, none⟩) cD n = Option.map (fun y : Addr => y.add n) (some ⟨b, off, none⟩) := by unfold subA; rw [if_neg hcp]
            rw [e1]
            go_simp
        simp only [Act.put, List.getElem_toArray, List.getElem_cons_zero, List.getElem_cons_succ, List.setIfInBounds_toArray, List.set_cons_zero, List.set_cons_succ]
        refine ⟨_, by rfl, by rfl, ?_⟩
        go_simp
        have hB2 : Below w1.heap.size w1 (wr.alloc (.cells #[.int .i64 x, .int .i64 v] 3)).drew := (gro_alloc HB.out _).drew
        obtain ⟨v3, w3, hr3, ho3, hg3, hn3⟩ := app_run (wr.alloc (.cells #[.int .i64 x, .int .i64 v] 3)).drew w1.heap.size 22 22 Try.underlying22 _ m (intsOf o) (row_mid (row_below HO.out (alloc1 wr (.cells #[.int .i64 x, .int .i64 v] 3))) (fun _ _ _ => rfl)) (some ⟨wr.heap.size, 0, none⟩) 2 2 [x, v] rfl ((ints_lit wr [x, v] 3 _ rfl).below ((Below.refl _ _).drew)) (by omega) (by omega) hB2.size
        have hB3 : Below w1.heap.size w1 w3 := hB2.grown hg3 hB2.size (fun r e => (HO.out.lt r e).1)
        refine Picked.make (w1 := w3) v3 (by rfl) (by rfl) (exec_app _ _ _ _ _ _ rfl rfl rfl hr3) trivial ?_
        simp only [Act.put, List.getElem_toArray, List.getElem_cons_zero, List.getElem_cons_succ, List.setIfInBounds_toArray, List.set_cons_zero, List.set_cons_succ]
        obtain ⟨v4, w4, hr4, ho4, hg4, hn4⟩ := app_run w3 w1.heap.size 22 22 Try.underlying22 v3 (m + 2) _ ho3 (subA (some ⟨b, off, none⟩) cD n) (s.length - n) (cD - n) (s.drop n) (by rw [List.length_drop]) ((ints_drop HAD.out cD n hfit).below hB3) (by omega) (by omega) hB3.size
        have hB4 : Below w1.heap.size w1 w4 := hB3.grown hg4 hB3.size (fun r e => (ho3.lt r e).1)
        refine Picked.make (w1 := w4) v4 (by rfl) (by rfl) (exec_app _ _ _ _ _ _ rfl rfl rfl hr4) trivial ?_
        simp only [Act.put, List.getElem_toArray, List.getElem_cons_zero, List.getElem_cons_succ, List.setIfInBounds_toArray, List.set_cons_zero, List.set_cons_succ]
        refine Picked.take v4 (by rfl) (by rfl) (fun w' _ => by go_simp) ?_
        simp only [Act.put, List.getElem_toArray, List.getElem_cons_zero, List.getElem_cons_succ, List.setIfInBounds_toArray, List.set_cons_zero, List.set_cons_succ]
        refine NoPanic.normal ?_
        have HO4 := Lib.hid (show w4.ownsRow w1.heap.size 3 1 v4 (m + 2 + (s.length - n)) (intsOf (rins s x v)) by rw [HE.out, intsOf_app, intsOf_app, ← List.append_assoc]; exact ho4)
        have HB4 := Lib.hid hB4
        clear hr3 hg3 hn3 ho3 hr4 hg4 hn4 ho4 hB4 hB3 hB2
        go_wp2
        go_ret
        exact row_ends (row_more HO4.out hs1) (nxt HB1.out HB4.out hs1)
    · have g2 : decide ((n : Int) + 1 < (s.length : Int)) = false := decide_eq_false (by omega)
      have HE : Hid (rins s x v = o ++ ([x, v] ++ s.drop n)) := Lib.hid (by
        rw [HR.out]
        rcases drop_short s n hlt with h | ⟨a, h⟩ <;> rw [h] <;> simp [rins])
      clear HR
      have q0 : (0 : Int) ≤ (n : Int) := by omega
      have q1 : (n : Int) ≤ (s.length : Int) := by omega
      have q2 : (s.length : Int) ≤ (cD : Int) := by omega
      go_wp2_with fail
      refine wp_region_noPanic ?_
      refine wp_region_picked [(0, true), (1, true), (2, true), (5, true), (6, true), (7, true), (3, false), (4, false), (8, false), (9, true)] (fun W' => True) (by kernel_rfl) (by kernel_rfl) (fun _ _ _ _ _ h => h) trivial ?_
      iterate 5
        refine Picked.take ?_ (by rfl) (by rfl) ?_ ?_
        rotate_left
        · intro w' hw'
          go_simp
          try with_reducible rfl
        simp only [Act.put, List.getElem_toArray, List.getElem_cons_zero, List.getElem_cons_succ, List.setIfInBounds_toArray, List.set_cons_zero, List.set_cons_succ]
      refine Picked.take (.slice (subA D cD n) (s.length - n) (cD - n)) (by rfl) (by rfl) ?_ ?_
      · intro w' hw'
        by_cases hcp : cD = n
        · have e1 : subA D cD n = D := by unfold subA; rw [if_pos hcp]
          have e2 : cD - n = 0 := by omega
          rw [e1, e2]
          go_simp
        · have e1 : subA D cD n = Option.map (fun y : Addr => y.add n) D := by unfold subA; rw [if_neg hcp]
          rw [e1]
          go_simp
      simp only [Act.put, List.getElem_toArray, List.getElem_cons_zero, List.getElem_cons_succ, List.setIfInBounds_toArray, List.set_cons_zero, List.set_cons_succ]
      refine ⟨_, by rfl, by rfl, ?_⟩
      go_simp
      have hB2 : Below w1.heap.size w1 (wr.alloc (.cells #[.int .i64 x, .int .i64 v] 3)).drew := (gro_alloc HB.out _).drew
      obtain ⟨v3, w3, hr3, ho3, hg3, hn3⟩ := app_run (wr.alloc (.cells #[.int .i64 x, .int .i64 v] 3)).drew w1.heap.size 22 22 Try.underlying22 _ m (intsOf o) (row_mid (row_below HO.out (alloc1 wr (.cells #[.int .i64 x, .int .i64 v] 3))) (fun _ _ _ => rfl)) (some ⟨wr.heap.size, 0, none⟩) 2 2 [x, v] rfl ((ints_lit wr [x, v] 3 _ rfl).below ((Below.refl _ _).drew)) (by omega) (by omega) hB2.size
      have hB3 : Below w1.heap.size w1 w3 := hB2.grown hg3 hB2.size (fun r e => (HO.out.lt r e).1)
      refine Picked.make (w1 := w3) v3 (by rfl) (by rfl) (exec_app _ _ _ _ _ _ rfl rfl rfl hr3) trivial ?_
      simp only [Act.put, List.getElem_toArray, List.getElem_cons_zero, List.getElem_cons_succ, List.setIfInBounds_toArray, List.set_cons_zero, List.set_cons_succ]
      obtain ⟨v4, w4, hr4, ho4, hg4, hn4⟩ := app_run w3 w1.heap.size 22 22 Try.underlying22 v3 (m + 2) _ ho3 (subA D cD n) (s.length - n) (cD - n) (s.drop n) (by rw [List.length_drop]) ((ints_drop HAD.out cD n hfit).below hB3) (by omega) (by omega) hB3.size
      have hB4 : Below w1.heap.size w1 w4 := hB3.grown hg4 hB3.size (fun r e => (ho3.lt r e).1)
      refine Picked.make (w1 := w4) v4 (by rfl) (by rfl) (exec_app _ _ _ _ _ _ rfl rfl rfl hr4) trivial ?_
      simp only [Act.put, List.getElem_toArray, List.getElem_cons_zero, List.getElem_cons_succ, List.setIfInBounds_toArray, List.set_cons_zero, List.set_cons_succ]
      refine Picked.take v4 (by rfl) (by rfl) (fun w' _ => by go_simp) ?_
      simp only [Act.put, List.getElem_toArray, List.getElem_cons_zero, List.getElem_cons_succ, List.setIfInBounds_toArray, List.set_cons_zero, List.set_cons_succ]
      refine NoPanic.normal ?_
      have HO4 := Lib.hid (show w4.ownsRow w1.heap.size 3 1 v4 (m + 2 + (s.length - n)) (intsOf (rins s x v)) by rw [HE.out, intsOf_app, intsOf_app, ← List.append_assoc]; exact ho4)
      have HB4 := Lib.hid hB4
      clear hr3 hg3 hn3 ho3 hr4 hg4 hn4 ho4 hB4 hB3 hB2
      go_wp2
      go_ret
      exact row_ends (row_more HO4.out hs1) (nxt HB1.out HB4.out hs1)
end Go.Proofs.Ytdanihadkchbbaa
