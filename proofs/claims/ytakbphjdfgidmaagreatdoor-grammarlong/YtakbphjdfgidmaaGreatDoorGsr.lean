/- Texts of earlier stages over this seat, joined: StN StR StT StU StX StZa StZb StZc StZd. -/
import Derived.Test.YtakbphjdfgidmaaGreatDoorGs
import Derived.Deep.Cut
import Derived.Deep.CutRange
set_option maxRecDepth 100000
namespace Go.Proofs.YtakbphjdfgidmaaGreatDoor
open Go.RowKit Go.Maps
set_option linter.unusedVariables false

theorem ints_lit (w : World) (l : List Int) (t : TypeId) (cs : Array Value) (h : cs = (l.map (Value.int .i64)).toArray) : Ints (w.alloc (.cells cs t)) (some ⟨w.heap.size, 0, none⟩) l := by
  subst h
  intro hl
  refine ⟨w.heap.size, 0, rfl, by simp, fun j hj => ?_⟩
  rw [Nat.zero_add, World.cell?_alloc_new]
  simp [List.getElem?_eq_getElem hj]

theorem str_list (l : List Int) : (strOfNums l).toList = l.map fun n => UInt8.ofNat n.toNat := by
  rw [Go.ByteArray.toList_eq]; simp [strOfNums]
theorem u8_back {x : Int} (h : 0 ≤ x ∧ x ≤ 255) : ((UInt8.ofNat x.toNat).toNat : Int) = x := by
  rw [UInt8.toNat_ofNat']; omega
theorem list_back {l : List Int} (h : Octets l) : (l.map fun n => UInt8.ofNat n.toNat).map (fun b => (b.toNat : Int)) = l := by
  rw [List.map_map]
  refine Eq.trans (List.map_congr_left (g := id) fun x hx => ?_) (List.map_id l)
  exact u8_back (h x hx)
theorem same_strs {l m : List Int} (hl : Octets l) (hm : Octets m) : ((strOfNums l).toList == (strOfNums m).toList) = (l == m) := by
  rw [str_list, str_list]
  by_cases h : l = m
  · subst h; simp
  · have h2 : (l.map fun n => UInt8.ofNat n.toNat) ≠ (m.map fun n => UInt8.ofNat n.toNat) := fun e => h (by rw [← list_back hl, ← list_back hm, e])
    rw [beq_eq_false_iff_ne.2 h, beq_eq_false_iff_ne.2 h2]
theorem row_bytesB {W : World} {base g cap : Nat} {l : List Int} (h : W.ownsRow base 5 1 (.slice (some ⟨g, 0, none⟩) l.length cap) l.length (bytesOf l)) : BytesB W.heap.size W (some ⟨g, 0, none⟩) l := by
  have := bytes_row h 0 l.length (by omega)
  simpa using this

theorem enc_octets (t n : Int) (l : List Int) : Octets (encL t n l) := by
  have hb : ∀ s n, Octets (be s n) := fun s n x hx => by
    unfold be at hx
    obtain ⟨k, _, rfl⟩ := List.mem_map.1 hx
    unfold beB
    omega
  intro x hx
  unfold encL at hx
  rw [List.mem_append, List.mem_append, List.mem_append, List.mem_flatMap] at hx
  rcases hx with ((h | h) | h) | ⟨y, _, h⟩
  all_goals exact hb _ _ x h

end Go.Proofs.YtakbphjdfgidmaaGreatDoor

namespace Go.Proofs.YtakbphjdfgidmaaGreatDoor
open Go.RowKit Go.Maps
set_option linter.unusedVariables false

theorem rcheck_none (t n : Int) (A : Option Addr) (c : Nat) (l : List Int) (w : World) (h : t < 1 ∨ 5 < t) : Calls Tryz.prog 41 #[stV t n A l.length c] w (Says (.int .i64 8) w) := by
  unfold stV
  by_cases h1 : t < 1
  · go_enter Tryz.func41, Tryz.ntmps41
    go_wp2
    go_ret
    exact ⟨rfl, alloc1 w _⟩
  · have h2 : 5 < t := by omega
    clear h
    go_enter Tryz.func41, Tryz.ntmps41
    go_wp2
    go_ret
    exact ⟨rfl, alloc1 w _⟩
theorem rcheck1 (n : Int) (A : Option Addr) (c : Nat) (l : List Int) (w : World)  : Calls Tryz.prog 41 #[stV 1 n A l.length c] w (Says (.int .i64 (if decide (l.length = 0) = true then 0 else 5)) w) := by
  unfold stV
  by_cases h : l.length = 0
  · have e : ((l.length : Int) == 0) = true := by simp [h]
    rw [decide_eq_true h]
    simp only [if_true]
    go_enter Tryz.func41, Tryz.ntmps41
    go_wp2
    go_ret
    exact ⟨rfl, alloc1 w _⟩
  · have e : ((l.length : Int) == 0) = false := by rw [beq_eq_false_iff_ne]; omega
    rw [decide_eq_false h]
    simp only [Bool.false_eq_true, if_false]
    go_enter Tryz.func41, Tryz.ntmps41
    go_wp2
    go_ret
    exact ⟨rfl, alloc1 w _⟩
theorem rcheck4 (n : Int) (A : Option Addr) (c : Nat) (l : List Int) (w : World)  : Calls Tryz.prog 41 #[stV 4 n A l.length c] w (Says (.int .i64 (if (n == 0) = true then 0 else 5)) w) := by
  unfold stV
  cases h : (n == 0)
  · simp only [Bool.false_eq_true, if_false]
    go_enter Tryz.func41, Tryz.ntmps41
    go_wp2
    go_ret
    exact ⟨rfl, alloc1 w _⟩
  · simp only [if_true]
    go_enter Tryz.func41, Tryz.ntmps41
    go_wp2
    go_ret
    exact ⟨rfl, alloc1 w _⟩
theorem rcheck2 (n : Int) (A : Option Addr) (c : Nat) (l : List Int) (w : World) (hA : Ints w A l) (hlen : l.length ≤ 20000) : Calls Tryz.prog 41 #[stV 2 n A l.length c] w (Says (.int .i64 (if ((n == 0) && riseB 1 l) = true then 0 else 5)) w) := by
  unfold stV
  have H := rrises_any A c 1 l (w.alloc (.cells #[.int .i64 2, .int .i64 n, .slice A l.length c] 36)) (hA.below (alloc1 w _)) (by omega) (by omega) hlen
  generalize riseB 1 l = r at *
  cases h : (n == 0)
  · simp only [Bool.false_and, Bool.false_eq_true, if_false]
    go_enter Tryz.func41, Tryz.ntmps41
    go_wp2
    go_ret
    exact ⟨rfl, alloc1 w _⟩
  · cases r
    · simp only [Bool.and_false, Bool.false_eq_true, if_false]
      go_enter Tryz.func41, Tryz.ntmps41
      go_wp2_with fail
      refine H.mono ?_
      rintro e w1 ⟨rfl, hB⟩
      go_wp2
      go_ret
      exact ⟨rfl, nxt (alloc1 w _) hB (by simp)⟩
    · simp only [Bool.and_true, if_true]
      go_enter Tryz.func41, Tryz.ntmps41
      go_wp2_with fail
      refine H.mono ?_
      rintro e w1 ⟨rfl, hB⟩
      go_wp2
      go_ret
      exact ⟨rfl, nxt (alloc1 w _) hB (by simp)⟩
theorem rcheck3 (n : Int) (A : Option Addr) (c : Nat) (l : List Int) (w : World) (hA : Ints w A l) (hlen : l.length ≤ 20000) : Calls Tryz.prog 41 #[stV 3 n A l.length c] w (Says (.int .i64 (if ((n == 0) && decide (l.length % 2 = 0) && riseB 2 l) = true then 0 else 5)) w) := by
  unfold stV
  have H := rrises_any A c 2 l (w.alloc (.cells #[.int .i64 3, .int .i64 n, .slice A l.length c] 36)) (hA.below (alloc1 w _)) (by omega) (by omega) hlen
  generalize riseB 2 l = r at *
  cases h : (n == 0)
  · simp only [Bool.false_and, Bool.false_eq_true, if_false]
    go_enter Tryz.func41, Tryz.ntmps41
    go_wp2
    go_ret
    exact ⟨rfl, alloc1 w _⟩
  · have hm : Int.tmod (l.length : Int) 2 = ((l.length % 2 : Nat) : Int) := rfl
    by_cases h2 : l.length % 2 = 0
    · have e2 : ((Int.tmod (l.length : Int) 2) == 0) = true := by rw [hm, h2]; rfl
      rw [decide_eq_true h2]
      cases r
      · simp only [Bool.and_false, Bool.false_eq_true, if_false]
        go_enter Tryz.func41, Tryz.ntmps41
        go_wp2_with fail
        refine H.mono ?_
        rintro e w1 ⟨rfl, hB⟩
        go_wp2
        go_ret
        exact ⟨rfl, nxt (alloc1 w _) hB (by simp)⟩
      · simp only [Bool.and_true, if_true]
        go_enter Tryz.func41, Tryz.ntmps41
        go_wp2_with fail
        refine H.mono ?_
        rintro e w1 ⟨rfl, hB⟩
        go_wp2
        go_ret
        exact ⟨rfl, nxt (alloc1 w _) hB (by simp)⟩
    · have e2 : ((Int.tmod (l.length : Int) 2) == 0) = false := by rw [hm, beq_eq_false_iff_ne]; omega
      rw [decide_eq_false h2]
      simp only [Bool.and_false, Bool.false_and, Bool.false_eq_true, if_false]
      go_enter Tryz.func41, Tryz.ntmps41
      go_wp2
      go_ret
      exact ⟨rfl, alloc1 w _⟩
theorem rcheck5 (n : Int) (A : Option Addr) (c : Nat) (l : List Int) (w : World)  : Calls Tryz.prog 41 #[stV 5 n A l.length c] w (Says (.int .i64 (if (decide (l.length = 0) && decide (0 ≤ n) && decide (n ≤ 4611686018427387904)) = true then 0 else 5)) w) := by
  unfold stV
  by_cases h : l.length = 0
  · have e : ((l.length : Int) == 0) = true := by simp [h]
    rw [decide_eq_true h]
    by_cases h1 : 0 ≤ n
    · rw [decide_eq_true h1]
      by_cases h2 : n ≤ 4611686018427387904
      · rw [decide_eq_true h2]
        simp only [Bool.and_true, if_true]
        go_enter Tryz.func41, Tryz.ntmps41
        go_wp2
        go_ret
        exact ⟨rfl, alloc1 w _⟩
      · rw [decide_eq_false h2]
        simp only [Bool.and_false, Bool.false_eq_true, if_false]
        go_enter Tryz.func41, Tryz.ntmps41
        go_wp2
        go_ret
        exact ⟨rfl, alloc1 w _⟩
    · rw [decide_eq_false h1]
      simp only [Bool.and_false, Bool.false_and, Bool.false_eq_true, if_false]
      go_enter Tryz.func41, Tryz.ntmps41
      go_wp2
      go_ret
      exact ⟨rfl, alloc1 w _⟩
  · have e : ((l.length : Int) == 0) = false := by rw [beq_eq_false_iff_ne]; omega
    rw [decide_eq_false h]
    simp only [Bool.false_and, Bool.false_eq_true, if_false]
    go_enter Tryz.func41, Tryz.ntmps41
    go_wp2
    go_ret
    exact ⟨rfl, alloc1 w _⟩
theorem st_rcheck_any (t n : Int) (A : Option Addr) (c : Nat) (l : List Int) (w : World) (hA : Ints w A l) (hlen : l.length ≤ 20000) :
    Calls Tryz.prog 41 #[stV t n A l.length c] w (Says (.int .i64 (st_checkE t n l)) w) := by
  by_cases h : t < 1 ∨ 5 < t
  · rw [check_type h]; exact rcheck_none t n A c l w h
  · rw [check_in h]
    obtain rfl | rfl | rfl | rfl | rfl : t = 1 ∨ t = 2 ∨ t = 3 ∨ t = 4 ∨ t = 5 := by omega
    · exact rcheck1 n A c l w
    · exact rcheck2 n A c l w hA hlen
    · exact rcheck3 n A c l w hA hlen
    · exact rcheck4 n A c l w
    · exact rcheck5 n A c l w

def wordsO : Obj := .cells #[.string ⟨#[99, 111, 117, 110, 116, 101, 114]⟩, .string ⟨#[115, 101, 116]⟩, .string ⟨#[109, 97, 112]⟩, .string ⟨#[113, 117, 101, 117, 101]⟩, .string ⟨#[101, 115, 99, 114, 111, 119]⟩] 9
theorem st_rwords_any (w : World) : Calls Tryz.prog 61 #[] w fun e w' => e = .returned (.slice (some ⟨w.heap.size, 0, none⟩) 5 5) ∧ w' = w.alloc wordsO := by
  go_enter Tryz.func61, Tryz.ntmps61
  go_wp2
  go_ret
  exact ⟨rfl, rfl⟩
theorem rwords_cell (w : World) : ∀ k, k < 5 → (w.alloc wordsO).cell? ⟨w.heap.size, k, none⟩ = some (.string (st_wordB (k + 1)))
  | 0, _ => by rw [wordsO, World.cell?_alloc_new]; rfl
  | 1, _ => by rw [wordsO, World.cell?_alloc_new]; rfl
  | 2, _ => by rw [wordsO, World.cell?_alloc_new]; rfl
  | 3, _ => by rw [wordsO, World.cell?_alloc_new]; rfl
  | 4, _ => by rw [wordsO, World.cell?_alloc_new]; rfl
  | k + 5, h => by omega
end Go.Proofs.YtakbphjdfgidmaaGreatDoor

namespace Go.Proofs.YtakbphjdfgidmaaGreatDoor
open Go.RowKit Go.Maps
set_option linter.unusedVariables false

theorem u8_mod (n : Int) : IntKind.u8.wrap n = n % 256 := by
  unfold IntKind.wrap; simp [IntKind.signed, IntKind.bits]
theorem be_one (t : Int) : be 1 t = [t % 256] := by simp [be, beB]
/-- A row that is written over: nothing else is touched. -/
def OverPost (B : Nat) (w : World) (e : Ending) (w' : World) : Prop := e = .returned (.tuple #[]) ∧ Only B w w'
def CopyStPost (t n : Int) (l : List Int) (w : World) (e : Ending) (w' : World) : Prop := ∃ A c, e = .returned (stV t n A l.length c) ∧ w'.ownsRow w.heap.size 3 1 (.slice A l.length c) l.length (intsOf l) ∧ Below w.heap.size w w'
theorem copyst_any (t n : Int) (A : Option Addr) (c : Nat) (l : List Int) (w : World) (hA : Ints w A l) (hlen : l.length ≤ 1000) :
    Calls Tryz.prog 29 #[stV t n A l.length c] w (CopyStPost t n l w) := by
  have hB0 : Below w.heap.size w ((w.alloc (.cells #[.int .i64 t, .int .i64 n, .slice A l.length c] 36)).alloc (.cells #[.int .i64 0, .int .i64 0, .slice none 0 0] 36)) := (alloc1 w _).alloc (by simp) _
  have HX := (Holds.new w 36 #[.int .i64 t, .int .i64 n, .slice A l.length c]).alloc (.cells #[.int .i64 0, .int .i64 0, .slice none 0 0] 36)
  have HZ := Holds.new (w.alloc (.cells #[.int .i64 t, .int .i64 n, .slice A l.length c] 36)) 36 #[.int .i64 0, .int .i64 0, .slice none 0 0]
  rw [World.size_alloc] at HZ
  have hs0 : w.heap.size + 1 < ((w.alloc (.cells #[.int .i64 t, .int .i64 n, .slice A l.length c] 36)).alloc (.cells #[.int .i64 0, .int .i64 0, .slice none 0 0] 36)).heap.size := by simp
  have H := copy_any A c l _ (hA.below hB0) hlen
  unfold CopyPost at H
  unfold stV
  clear hA
  go_enter Tryz.func29, Tryz.ntmps29
  go_wp2_with fail
  generalize (w.alloc (.cells #[.int .i64 t, .int .i64 n, .slice A l.length c] 36)).alloc (.cells #[.int .i64 0, .int .i64 0, .slice none 0 0] 36) = W0 at *
  refine H.mono ?_
  rintro e w1 ⟨g1, c1, rfl, hr1, hB1⟩
  have HX1 := HX.below hB1 (by omega)
  have HZ1 := HZ.below hB1 hs0
  have x2 := HX1.c (j := 2) rfl
  have f2 := HX1.frozen 2
  have HX2 := HX1.set 2 (.slice (some ⟨g1, 0, none⟩) l.length c1)
  have HZ2 : Holds (w1.setCell ⟨w.heap.size, 2, none⟩ (.slice (some ⟨g1, 0, none⟩) l.length c1)) (w.heap.size + 1) 36 #[.int .i64 0, .int .i64 0, .slice none 0 0] := HZ1.of (Below.heap_setCell _ _ _ _ (show w.heap.size + 1 ≠ w.heap.size by omega))
  have hO2 : Only w.heap.size w1 (w1.setCell ⟨w.heap.size, 2, none⟩ (.slice (some ⟨g1, 0, none⟩) l.length c1)) := (Only.of (Below.refl w1.heap.size w1) (Nat.le_refl _)).set 2 _
  have hr2 := hr1.kept hO2.grown (.inr (HX1.not_row hr1 (by decide)).symm)
  have hs1 := hB1.size
  clear hr1 H
  go_upto_region 2 with fail
  generalize w1.setCell ⟨w.heap.size, 2, none⟩ (.slice (some ⟨g1, 0, none⟩) l.length c1) = W2 at *
  have d0 : W2.cell? ⟨w.heap.size, 0, none⟩ = some (.int .i64 t) := HX2.c (j := 0) rfl
  have d1 : W2.cell? ⟨w.heap.size, 1, none⟩ = some (.int .i64 n) := HX2.c (j := 1) rfl
  have d2 : W2.cell? ⟨w.heap.size, 2, none⟩ = some (.slice (some ⟨g1, 0, none⟩) l.length c1) := HX2.c (j := 2) rfl
  have z0 := HZ2.c (j := 0) rfl
  have z1 := HZ2.c (j := 1) rfl
  have z2 := HZ2.c (j := 2) rfl
  have y0 := HZ2.frozen 0
  have y1 := HZ2.frozen 1
  have y2 := HZ2.frozen 2
  have hs2 := hO2.size
  go_wp2
  have HZ3 := ((HZ2.set 0 (.int .i64 t)).set 1 (.int .i64 n)).set 2 (.slice (some ⟨g1, 0, none⟩) l.length c1)
  have hO3 := (((Only.of (Below.refl W2.heap.size W2) (Nat.le_refl _)).set (B := w.heap.size + 1) 0 (.int .i64 t)).set 1 (.int .i64 n)).set 2 (.slice (some ⟨g1, 0, none⟩) l.length c1)
  have hr3 := hr2.kept hO3.grown (.inr (HZ2.not_row hr2 (by decide)).symm)
  generalize ((W2.setCell ⟨w.heap.size + 1, 0, none⟩ (.int .i64 t)).setCell ⟨w.heap.size + 1, 1, none⟩ (.int .i64 n)).setCell ⟨w.heap.size + 1, 2, none⟩ (.slice (some ⟨g1, 0, none⟩) l.length c1) = W3 at *
  have k0 := HZ3.c (j := 0) rfl
  have k1 := HZ3.c (j := 1) rfl
  have k2 := HZ3.c (j := 2) rfl
  refine bodyPost_ret (v := .agg #[.int .i64 t, .int .i64 n, .slice (some ⟨g1, 0, none⟩) l.length c1]) (by simp [results, Tryz.f29, go_sem, k0, k1, k2]) rfl ?_
  exact ⟨some ⟨g1, 0, none⟩, c1, rfl, row_more hr3 (by omega), nxt (nxt (nxt hB0 hB1 (by omega)) (hO2.below (lo := w.heap.size) (Nat.le_refl _) (by omega)) (Nat.le_refl _)) (hO3.below (lo := w.heap.size) (by omega) (by omega)) (Nat.le_refl _)⟩
end Go.Proofs.YtakbphjdfgidmaaGreatDoor

namespace Go.Proofs.YtakbphjdfgidmaaGreatDoor
open Go.RowKit Go.Maps
set_option linter.unusedVariables false

theorem rtext_no (t n : Int) (A : Option Addr) (c : Nat) (l : List Int) (w : World) (hA : Ints w A l) (hlen : l.length ≤ 8000) (h : st_checkE t n l ≠ 0) :
    Calls Tryz.prog 33 #[stV t n A l.length c] w (TextNo (st_checkE t n l) w) := by
  have H := st_rcheck_any t n A c l (w.alloc (.cells #[.int .i64 t, .int .i64 n, .slice A l.length c] 36)) (hA.below (alloc1 w _)) (by omega)
  unfold stV at *
  generalize st_checkE t n l = r at *
  have hb : (r != 0) = true := by rw [bne_iff_ne]; exact h
  go_enter Tryz.func33, Tryz.ntmps33
  go_wp2_with fail
  refine H.mono ?_
  rintro e w1 ⟨rfl, hB1⟩
  go_wp2
  go_ret2
  exact ⟨rfl, nxt (alloc1 w _) hB1 (by simp)⟩

theorem str_join3 (a b : ByteArray) : (a ++ (⟨#[32]⟩ : ByteArray) ++ b).data.toList = a.data.toList ++ 32 :: b.data.toList := by
  simp [ByteArray.data_append]
theorem str_eq {a : ByteArray} {l : List UInt8} (h : a.data.toList = l) : a = ⟨l.toArray⟩ := by
  apply ByteArray.ext
  apply Array.ext'
  simpa using h

set_option maxRecDepth 100000 in
set_option maxHeartbeats 2000000 in
theorem rtext_yes (t n : Int) (A : Option Addr) (c : Nat) (l : List Int) (w : World) (hA : Ints w A l) (hlen : l.length ≤ 8000) (hsm : ∀ x ∈ l, Small x) (hn : Small n) (h : st_checkE t n l = 0) :
    Calls Tryz.prog 33 #[stV t n A l.length c] w (TextYes (txtL t n l) w) := by
  obtain ⟨ht1, ht5, _⟩ := check_ok h
  have hB0 := alloc1 w (.cells #[.int .i64 t, .int .i64 n, .slice A l.length c] 36)
  have H := st_rcheck_any t n A c l (w.alloc (.cells #[.int .i64 t, .int .i64 n, .slice A l.length c] 36)) (hA.below hB0) (by omega)
  rw [h] at H
  have HW := Lib.hid (Holds.new w 36 #[.int .i64 t, .int .i64 n, .slice A l.length c])
  have HA := Lib.hid (hA.below hB0)
  have hlt0 : w.heap.size < (w.alloc (.cells #[.int .i64 t, .int .i64 n, .slice A l.length c] 36)).heap.size := by simp
  obtain ⟨j, hj⟩ : ∃ j : Nat, t - 1 = (j : Int) := ⟨(t - 1).toNat, by omega⟩
  have HL : txtL t n l = wordL (j + 1) ++ txtOf (numsOf t n l) := by unfold txtL; rw [show t.toNat = j + 1 by omega]
  have HLH := Lib.hid HL
  have HSM := Lib.hid hsm
  have hj5 : j < 5 := by omega
  unfold stV
  clear h hA HL hsm
  go_enter Tryz.func33, Tryz.ntmps33
  go_wp2_with fail
  refine H.mono ?_
  rintro e w1 ⟨rfl, hB1⟩
  generalize w.alloc (.cells #[.int .i64 t, .int .i64 n, .slice A l.length c] 36) = W0 at *
  have hsz1 := hB1.size
  have HW1 := Lib.hid (HW.out.below hB1 hlt0)
  have c0 := HW1.out.c (j := 0) rfl
  have HA1 := Lib.hid (HA.out.below hB1)
  have HBw := Lib.hid (nxt hB0 hB1 (by omega))
  have hw1 : w.heap.size < w1.heap.size := HW1.out.lt
  clear hB0 hB1 H
  have hwl := word_len (j + 1)
  have hcj := rwords_cell w1.drew j hj5
  have HWL := Lib.hid (show (st_wordB (j + 1)).data.toList = wordL (j + 1) from rfl)
  obtain ⟨s, hs⟩ : ∃ s, st_wordB (j + 1) = s := ⟨_, rfl⟩
  rw [hs] at hwl hcj HWL
  have hD : Below w1.heap.size w1 w1.drew := (Below.refl _ _).drew
  have hBa := hD.alloc (Nat.le_refl _) wordsO
  have ca : (w1.drew.alloc wordsO).cell? ⟨w.heap.size, 0, none⟩ = some (.int .i64 t) := (HW1.out.below hBa hw1).c (j := 0) rfl
  have hj0 : (0 : Int) ≤ (j : Int) := by omega
  have hj1 : (j : Int) < 5 := by omega
  have hwrap : IntKind.i64.wrap (t - 1) = (j : Int) := by rw [hj, IntKind.wrap_i64]; omega
  have RW : Calls Tryz.prog 61 #[] w1.drew fun e w' => e = .returned (.slice (some ⟨w1.heap.size, 0, none⟩) 5 5) ∧ w'.cell? ⟨w1.heap.size, j, none⟩ = some (.string s) ∧ w'.cell? ⟨w.heap.size, 0, none⟩ = some (.int .i64 t) ∧ Below w1.heap.size w1 w' := (st_rwords_any w1.drew).mono fun e w' h => ⟨h.1, by rw [h.2]; exact hcj, by rw [h.2]; exact ca, by rw [h.2]; exact hBa⟩
  have HJ := Lib.hid hj
  clear hs hj hcj ca hBa
  go_upto_region 4 with fail
  go_cut [5] from 12 to 17 (fun s5 wx => s5 = .string s ∧ Below w1.heap.size w1 wx)
  case first =>
    go_region_with (first | (go_at_call 61; refine RW.mono ?_; rintro e w6 ⟨rfl, hcj6, ca6, hBa6⟩))
    all_goals (go_wp2_with fail; go_meet; exact ⟨rfl, hBa6⟩)
  case rest =>
    obtain ⟨rfl, hBx⟩ := hcut
    have HBX := Lib.hid hBx
    have HWX := Lib.hid (HW1.out.below hBx hw1)
    have d0 := HWX.out.c (j := 0) rfl
    have d1 := HWX.out.c (j := 1) rfl
    have d2 := HWX.out.c (j := 2) rfl
    have hsx := hBx.size
    have HPn := fun W => rput_any n W hn.1 hn.2
    have hpl := put_len n hn
    unfold PutPost at HPn
    clear hBx RW hwrap
    cases hsg : singB t
    · have e1 : (t == 1) = false := by
        unfold singB at hsg; simp at hsg; simp [hsg.1]
      have e5 : (t == 5) = false := by
        unfold singB at hsg; simp at hsg; simp [hsg.2]
      go_wp2
      go_loopw [5, 6] (fun s5 i wr => ∃ (k : Nat) (a : ByteArray), k ≤ l.length ∧ i = .int .i64 k ∧ s5 = .string a ∧ a.data.toList = s.data.toList ++ txtOf (l.take k) ∧ Below w1.heap.size w1 wr) (fun s5 i wr => l.length - (intOf i).toNat)
      case atStart => exact ⟨0, s, Nat.zero_le _, rfl, rfl, by simp [txtOf], HBX.out⟩
      case round =>
        obtain ⟨k, a, hk, rfl, rfl, ha, hB⟩ := hrel
        have HAA := Lib.hid ha
        have HB := Lib.hid hB
        have hsz := hB.size
        have HWr := HW1.out.below hB hw1
        have r2 := HWr.c (j := 2) rfl
        have hints := HA1.out.below hB
        have hal : a.size ≤ 300000 := by
          have h1 := txtOf_len (l.take k) (fun x hx => HSM.out x (List.mem_of_mem_take hx))
          rw [List.length_take] at h1
          rw [← bytes_len, ha, List.length_append, bytes_len]; omega
        clear ha hB
        by_cases hlt : k < l.length
        · obtain ⟨b, off, rfl, hb, hc⟩ := hints (by omega)
          have hck := hc k hlt
          have hk0 : (0 : Int) ≤ (k : Int) := by omega
          have hk1 : (k : Int) < (l.length : Int) := by omega
          have hsk := small_at HSM.out k hlt
          have HST := Lib.hid (txtOf_take hlt)
          obtain ⟨x, hx'⟩ : ∃ x, l[k]?.getD 0 = x := ⟨_, rfl⟩
          rw [hx'] at hck hsk HST
          have hpx := put_len x hsk
          have HPx := fun W => rput_any x W hsk.1 hsk.2
          unfold PutPost at HPx
          obtain ⟨pb, hpb⟩ : ∃ pb, (⟨(putL x).toArray⟩ : ByteArray) = pb := ⟨_, rfl⟩
          rw [hpb] at HPx
          have hpbl : pb.size ≤ 20 := by rw [← hpb, ← bytes_len]; simpa using hpx
          have HPB := Lib.hid (show pb.data.toList = putL x by rw [← hpb])
          clear hc hx' hpb hints
          go_wp2_with fail
          refine (HPx wr).mono ?_
          rintro e w5 ⟨rfl, hB5⟩
          go_wp2
          go_roundw
          case rel =>
            refine ⟨k + 1, a ++ ⟨#[32]⟩ ++ pb, by omega, by go_num, rfl, ?_, nxt HB.out hB5 (by omega)⟩
            rw [str_join3, HAA.out, HST.out, HPB.out, List.append_assoc]
          case measure => simp [intOf]; omega
        · have hfin : a.data.toList = txtL t n l := by rw [HAA.out, List.take_of_length_le (by omega), HLH.out, HWL.out, numsOf, hsg]; rfl
          have HFIN := Lib.hid (str_eq hfin)
          clear hfin hints
          go_wp2
          go_ret2
          exact ⟨by rw [← HFIN.out]; rfl, nxt HBw.out HB.out (by omega)⟩
    · obtain ⟨pb, hpb⟩ : ∃ pb, (⟨(putL n).toArray⟩ : ByteArray) = pb := ⟨_, rfl⟩
      rw [hpb] at HPn
      have hpbl : pb.size ≤ 20 := by rw [← hpb, ← bytes_len]; simpa using hpl
      have hfin : (s ++ (⟨#[32]⟩ : ByteArray) ++ pb).data.toList = txtL t n l := by
        rw [str_join3, HLH.out, HWL.out, numsOf, hsg, ← hpb]; simp [txtOf]
      have HFIN := Lib.hid (str_eq hfin)
      clear hfin hpb
      cases e1 : (t == 1)
      · have e5 : (t == 5) = true := by unfold singB at hsg; rw [e1] at hsg; simpa using hsg
        go_wp2_with fail
        refine (HPn _).mono ?_
        rintro e w5 ⟨rfl, hB5⟩
        go_wp2
        go_ret2
        exact ⟨by rw [← HFIN.out]; rfl, nxt HBw.out (nxt HBX.out hB5 (by omega)) (by omega)⟩
      · go_wp2_with fail
        refine (HPn _).mono ?_
        rintro e w5 ⟨rfl, hB5⟩
        go_wp2
        go_ret2
        exact ⟨by rw [← HFIN.out]; rfl, nxt HBw.out (nxt HBX.out hB5 (by omega)) (by omega)⟩
end Go.Proofs.YtakbphjdfgidmaaGreatDoor

namespace Go.Proofs.YtakbphjdfgidmaaGreatDoor
open Go.RowKit Go.Maps
set_option linter.unusedVariables false

def encR (t n : Int) (l : List Int) : List Int := if st_checkE t n l = 0 then encL t n l else []
def txtR (t n : Int) (l : List Int) : List UInt8 := if st_checkE t n l = 0 then txtL t n l else []
def EncP (E : Int) (ys : List Int) (w : World) (e : Ending) (w' : World) : Prop :=
  ∃ A c, e = .returned (.tuple #[.slice A ys.length c, .int .i64 E]) ∧ w'.ownsRow w.heap.size 5 1 (.slice A ys.length c) ys.length (bytesOf ys) ∧ Below w.heap.size w w'
def TextP (E : Int) (bs : List UInt8) (w : World) (e : Ending) (w' : World) : Prop := e = .returned (.tuple #[.string ⟨bs.toArray⟩, .int .i64 E]) ∧ Below w.heap.size w w'

theorem encR_octets (t n : Int) (l : List Int) : Octets (encR t n l) := by
  unfold encR; split
  · exact enc_octets t n l
  · intro x hx; cases hx
theorem encR_len (t n : Int) (l : List Int) : (encR t n l).length ≤ 13 + 8 * l.length := by
  unfold encR; split
  · rw [enc_len]; exact Nat.le_refl _
  · simp
theorem st_text_any (t n : Int) (A : Option Addr) (c : Nat) (l : List Int) (w : World) (hw : Wds w) (hA : Ints w A l) (hlen : l.length ≤ 8000) (hsm : ∀ x ∈ l, Small x) (hn : Small n) :
    Calls Tryz.prog 30 #[stV t n A l.length c] w (TextP (st_checkE t n l) (txtR t n l) w) := by
  by_cases h : st_checkE t n l = 0
  · refine (text_yes t n A c l w hw hA (by omega) hsm hn h).mono ?_
    rintro e w' ⟨rfl, hB⟩
    unfold txtR; rw [if_pos h, h]
    exact ⟨rfl, hB⟩
  · refine (text_no t n A c l w hA (by omega) h).mono ?_
    rintro e w' ⟨rfl, hB⟩
    unfold txtR; rw [if_neg h]
    exact ⟨rfl, hB⟩
theorem st_rtext_any (t n : Int) (A : Option Addr) (c : Nat) (l : List Int) (w : World) (hA : Ints w A l) (hlen : l.length ≤ 8000) (hsm : ∀ x ∈ l, Small x) (hn : Small n) :
    Calls Tryz.prog 33 #[stV t n A l.length c] w (TextP (st_checkE t n l) (txtR t n l) w) := by
  by_cases h : st_checkE t n l = 0
  · refine (rtext_yes t n A c l w hA hlen hsm hn h).mono ?_
    rintro e w' ⟨rfl, hB⟩
    unfold txtR; rw [if_pos h, h]
    exact ⟨rfl, hB⟩
  · refine (rtext_no t n A c l w hA hlen h).mono ?_
    rintro e w' ⟨rfl, hB⟩
    unfold txtR; rw [if_neg h]
    exact ⟨rfl, hB⟩
def wordV (t : Int) : Value := if t < 1 ∨ 5 < t then .tuple #[.string ⟨#[]⟩, .int .i64 8] else .tuple #[.string (st_wordB t.toNat), .int .i64 0]
theorem wordV_form (t : Int) : ∃ s r, wordV t = .tuple #[.string s, .int .i64 r] := by
  unfold wordV; split <;> exact ⟨_, _, rfl⟩
theorem emptyV_form (t : Int) : ∃ k r, emptyV t = .tuple #[.agg #[.int .i64 k, .int .i64 0, .slice none 0 0], .int .i64 r] := ⟨_, _, rfl⟩

theorem own_bytes {W : World} {base : Nat} {A : Option Addr} {c : Nat} {l : List Int} (h : W.ownsRow base 5 1 (.slice A l.length c) l.length (bytesOf l)) : BytesB W.heap.size W A l := by
  rcases h.2 with ⟨e1, e2⟩ | ⟨g, cap', cur, e1, _⟩
  · intro hl; omega
  · injection e1 with e3 e4 e5
    subst e3
    exact row_bytesB h
end Go.Proofs.YtakbphjdfgidmaaGreatDoor

namespace Go.Proofs.YtakbphjdfgidmaaGreatDoor
open Go.RowKit Go.Maps
set_option linter.unusedVariables false

theorem numAt_one {b : List Int} (ho : Octets b) (h : 1 ≤ b.length) : numAt b 0 1 = b[0]?.getD 0 := by
  unfold numAt
  cases b with
  | nil => simp at h
  | cons x r =>
    have := ho x (by simp)
    simp [unN]
    exact wrap64_id (by omega) (by omega)

end Go.Proofs.YtakbphjdfgidmaaGreatDoor

namespace Go.Proofs.YtakbphjdfgidmaaGreatDoor
open Go.RowKit Go.Maps
set_option linter.unusedVariables false

theorem part_step {s : ByteArray} {k : Nat} (h : k < s.size) (hb : s[k].toNat ≠ 32) : (partL (s.data.toList.drop k)).length = (partL (s.data.toList.drop (k + 1))).length + 1 := by
  have hk : k < s.data.toList.length := by rw [bytes_len]; exact h
  rw [List.drop_eq_getElem_cons hk]
  have e : s.data.toList[k] = s[k] := by
    have := byte_at s k h
    rw [List.getElem?_eq_getElem hk] at this
    exact Option.some.inj this
  rw [e]
  have hne : s[k] ≠ 32 := fun e => by rw [e] at hb; exact hb rfl
  have : partL (s[k] :: s.data.toList.drop (k + 1)) = s[k] :: partL (s.data.toList.drop (k + 1)) := by simp [partL, hne]
  rw [this, List.length_cons]
theorem part_stop {s : ByteArray} {k : Nat} (h : k < s.size) (hb : s[k].toNat = 32) : (partL (s.data.toList.drop k)).length = 0 := by
  have hk : k < s.data.toList.length := by rw [bytes_len]; exact h
  rw [List.drop_eq_getElem_cons hk]
  have e : s.data.toList[k] = s[k] := by
    have := byte_at s k h
    rw [List.getElem?_eq_getElem hk] at this
    exact Option.some.inj this
  have h32 : s[k] = 32 := UInt8.toNat_inj.1 hb
  rw [e, h32]; simp [partL]
theorem part_past {s : ByteArray} {k : Nat} (h : s.size ≤ k) : (partL (s.data.toList.drop k)).length = 0 := by
  rw [List.drop_of_length_le (by rw [bytes_len]; exact h)]; rfl

set_option maxHeartbeats 1000000 in
theorem rpart_any (s : ByteArray) (p : Nat) (pi : Int) (w : World) (hs : s.size ≤ 16000) (hp : p ≤ s.size) (hpi : pi = p) :
    Calls Tryz.prog 126 #[.string s, .int .i64 pi] w fun e w' => e = .returned (.int .i64 ((p + (partL (s.data.toList.drop p)).length : Nat) : Int)) ∧ w' = w := by
  subst hpi
  obtain ⟨R, hR⟩ : ∃ R, p + (partL (s.data.toList.drop p)).length = R := ⟨_, rfl⟩
  rw [hR]
  have HR := Lib.hid hR
  clear hR
  go_enter Tryz.func126, Tryz.ntmps126
  go_wp2
  go_loopw [1] (fun i wr => ∃ k : Nat, k ≤ s.size ∧ i = .int .i64 k ∧ k + (partL (s.data.toList.drop k)).length = R ∧ wr = w) (fun i wr => s.size - (intOf i).toNat)
  case atStart => exact ⟨p, hp, rfl, HR.out, rfl⟩
  case round =>
    obtain ⟨k, hk, rfl, hkR, rfl⟩ := hrel
    have HKR := Lib.hid hkR
    clear hkR
    by_cases hlt : k < s.size
    · have q1 : decide (k < s.size) = true := decide_eq_true hlt
      have q1' : decide ((k : Int) < (s.size : Int)) = true := decide_eq_true (by omega)
      have g0 : (0 : Int) ≤ (k : Int) := by omega
      have g1 : (k : Int) < (s.size : Int) := by omega
      by_cases h32 : s[k].toNat = 32
      · have HST := Lib.hid (part_stop hlt h32)
        have b1 : ((s[k].toNat : Int) != 32) = false := by rw [h32]; rfl
        go_wp2
        go_ret
        exact ⟨ret_int (by have := HKR.out; rw [HST.out] at this; omega), rfl⟩
      · have HST := Lib.hid (part_step hlt h32)
        have b1 : ((s[k].toNat : Int) != 32) = true := by rw [bne_iff_ne]; omega
        go_wp2
        go_roundw
        case rel => exact ⟨k + 1, by omega, by go_num, by have := HKR.out; rw [HST.out] at this; omega, trivial⟩
        case measure => simp [intOf]; omega
    · have q1 : decide (k < s.size) = false := decide_eq_false hlt
      have HST := Lib.hid (part_past (s := s) (k := k) (by omega))
      go_wp2
      go_ret
      exact ⟨ret_int (by have := HKR.out; rw [HST.out] at this; omega), rfl⟩
end Go.Proofs.YtakbphjdfgidmaaGreatDoor

namespace Go.Proofs.YtakbphjdfgidmaaGreatDoor
open Go.RowKit Go.Maps
set_option linter.unusedVariables false

def typeTo (p : List UInt8) : Nat → Nat
  | 0 => 0
  | k + 1 => if p = wordL (k + 1) then k + 1 else typeTo p k
theorem type_five (p : List UInt8) : typeTo p 5 = typeL p := by
  by_cases h1 : p = wordL 1
  · subst h1; rfl
  by_cases h2 : p = wordL 2
  · subst h2; rfl
  by_cases h3 : p = wordL 3
  · subst h3; rfl
  by_cases h4 : p = wordL 4
  · subst h4; rfl
  by_cases h5 : p = wordL 5
  · subst h5; rfl
  simp [typeTo, typeL, h1, h2, h3, h4, h5]
theorem typeTo_yes {p : List UInt8} {k : Nat} (h : p = wordL (k + 1)) : typeTo p (k + 1) = k + 1 := by unfold typeTo; rw [if_pos h]
theorem typeTo_no {p : List UInt8} {k : Nat} (h : p ≠ wordL (k + 1)) : typeTo p (k + 1) = typeTo p k := by
  conv => lhs; unfold typeTo
  rw [if_neg h]
theorem typeTo_le (p : List UInt8) : ∀ k, typeTo p k ≤ k
  | 0 => Nat.le_refl _
  | k + 1 => by
    unfold typeTo
    split
    · exact Nat.le_refl _
    · exact Nat.le_succ_of_le (typeTo_le p k)

/-- What ReadPost asks, in its ways. -/
theorem rd_zero {s : List UInt8} {E P : Int} {w w' : World} (h : readL s = (st_st0, E, P)) (hB : Below w.heap.size w w') : ReadPost (readL s) w (.returned (.tuple #[.agg #[.int .i64 0, .int .i64 0, .slice none 0 0], .agg #[.int .i64 E, .int .i64 P]])) w' := by
  rw [h]; exact ⟨none, 0, rfl, nil_row _ _, hB⟩

set_option maxRecDepth 100000 in
set_option maxHeartbeats 1500000 in
theorem st_rread_any (s : ByteArray) (w : World) (hs : s.size ≤ 16000) :
    Calls Tryz.prog 108 #[.string s] w (ReadPost (readL s.data.toList) w) := by
  have hple := part_le s.data.toList
  rw [bytes_len] at hple
  have H1 := Lib.hid (read_none (s := s.data.toList))
  have H2 := Lib.hid (read_bad (s := s.data.toList))
  have H3 := Lib.hid (read_no (s := s.data.toList))
  have H4 := Lib.hid (read_yes (s := s.data.toList))
  have HP0 := rpart_any s 0 0 ((w.alloc zSt).alloc zFt) hs (by omega) rfl
  rw [List.drop_zero, Nat.zero_add] at HP0
  have hpx : s.extract 0 (partL s.data.toList).length = partB s := by rw [← part_size]; exact part_extract s
  have hpl : (partB s).toList = partL s.data.toList := by rw [Go.ByteArray.toList_eq]; exact part_bytes s
  have hsp := part_size s
  obtain ⟨n0, hn0⟩ : ∃ n0, (partL s.data.toList).length = n0 := ⟨_, rfl⟩
  rw [hn0] at HP0 hple H2 H3 H4 hpx
  obtain ⟨pb, hpb⟩ : ∃ pb, partB s = pb := ⟨_, rfl⟩
  rw [hpb] at hpx hpl
  have HPL := Lib.hid hpl
  have hB0 : Below w.heap.size w (((w.alloc zSt).alloc zFt).alloc zSt) := ((alloc1 w _).alloc (by simp) _).alloc (by simp; omega) _
  have HZ : Holds (((w.alloc zSt).alloc zFt).alloc zSt) w.heap.size 36 #[.int .i64 0, .int .i64 0, .slice none 0 0] := ((Holds.new w 36 #[.int .i64 0, .int .i64 0, .slice none 0 0]).alloc zFt).alloc zSt
  have HF : Holds (((w.alloc zSt).alloc zFt).alloc zSt) (w.heap.size + 1) 44 #[.int .i64 0, .int .i64 0] := by
    have := (Holds.new (w.alloc zSt) 44 #[.int .i64 0, .int .i64 0]).alloc zSt
    rwa [World.size_alloc] at this
  have HS : Holds (((w.alloc zSt).alloc zFt).alloc zSt) (w.heap.size + 2) 36 #[.int .i64 0, .int .i64 0, .slice none 0 0] := by
    have := Holds.new ((w.alloc zSt).alloc zFt) 36 #[.int .i64 0, .int .i64 0, .slice none 0 0]
    rwa [World.size_alloc, World.size_alloc] at this
  have hs0 : (((w.alloc zSt).alloc zFt).alloc zSt).heap.size = w.heap.size + 3 := by simp
  have RW := st_rwords_any (((w.alloc zSt).alloc zFt).alloc zSt)
  unfold zSt zFt at *
  have hn0i : (0 : Int) ≤ (n0 : Int) := by omega
  have hn0s : (n0 : Int) ≤ (s.size : Int) := by omega
  clear hpl hsp hpb hn0
  go_enter Tryz.func108, Tryz.ntmps108
  go_wp2_with fail
  refine HP0.mono ?_
  rintro e w1 ⟨rfl, hw1⟩
  rw [hw1]
  clear hw1 w1 HP0
  go_wp2_with fail
  refine RW.mono ?_
  rintro e w1 ⟨rfl, hw1⟩
  rw [hw1]
  clear hw1 w1 RW
  have hcw := rwords_cell (((w.alloc (.cells #[.int .i64 0, .int .i64 0, .slice none 0 0] 36)).alloc (.cells #[.int .i64 0, .int .i64 0] 44)).alloc (.cells #[.int .i64 0, .int .i64 0, .slice none 0 0] 36))
  rw [hs0] at hcw
  have hB1 := nxt hB0 (alloc1 _ wordsO) (by omega)
  have HZ1 := HZ.alloc wordsO
  have HF1 := HF.alloc wordsO
  have HS1 := HS.alloc wordsO
  have hs1 : w.heap.size + 3 < ((((w.alloc (.cells #[.int .i64 0, .int .i64 0, .slice none 0 0] 36)).alloc (.cells #[.int .i64 0, .int .i64 0] 44)).alloc (.cells #[.int .i64 0, .int .i64 0, .slice none 0 0] 36)).alloc wordsO).heap.size := by simp
  rw [hs0]
  clear HZ HF HS hB0 hs0
  go_wp2_with fail
  generalize (((w.alloc (.cells #[.int .i64 0, .int .i64 0, .slice none 0 0] 36)).alloc (.cells #[.int .i64 0, .int .i64 0] 44)).alloc (.cells #[.int .i64 0, .int .i64 0, .slice none 0 0] 36)).alloc wordsO = W1 at *
  have HCW := Lib.hid hcw
  have HZH := Lib.hid HZ1
  have HFH := Lib.hid HF1
  have HSH := Lib.hid HS1
  have HBH := Lib.hid hB1
  clear hcw HZ1 HF1 HS1 hB1
  go_loopw [7] (fun i wr => ∃ (k tt : Nat), k ≤ 5 ∧ i = .int .i64 k ∧ tt = typeTo (partL s.data.toList) k ∧ Holds wr (w.heap.size + 2) 36 #[.int .i64 tt, .int .i64 0, .slice none 0 0] ∧ Only (w.heap.size + 2) W1 wr) (fun i wr => 5 - (intOf i).toNat)
  case atStart => exact ⟨0, 0, by omega, rfl, rfl, HSH.out, Only.of (Below.refl _ _) (Nat.le_refl _)⟩
  case round =>
    obtain ⟨k, tt, hk, rfl, htt, hH, hO⟩ := hrel
    have HTT := Lib.hid htt
    have HH := Lib.hid hH
    have HON := Lib.hid hO
    have hsw := hO.size
    clear htt hH hO
    by_cases hlt : k < 5
    · have q2 : decide ((k : Int) < 5) = true := decide_eq_true (by omega)
      have hck : wr.cell? ⟨w.heap.size + 3, k, none⟩ = some (.string (st_wordB (k + 1))) := (cell_kept (HON.out.block (w.heap.size + 3) hs1 (by omega))).trans (HCW.out k hlt)
      have h1 := HH.out.c (j := 0) rfl
      have h2 := HH.out.frozen 0
      have g0 : (0 : Int) ≤ (k : Int) := by omega
      have g1 : (k : Int) < 5 := by omega
      have hwl : (st_wordB (k + 1)).toList = wordL (k + 1) := Go.ByteArray.toList_eq _
      obtain ⟨sk, hsk⟩ : ∃ sk, st_wordB (k + 1) = sk := ⟨_, rfl⟩
      rw [hsk] at hck hwl
      have HWL := Lib.hid hwl
      clear hsk hwl
      cases he : (sk.toList == pb.toList)
      · go_wp2_with fail
        go_quiet (fail)
        go_wp2
        go_roundw
        case rel =>
          refine ⟨k + 1, tt, by omega, by go_num, ?_, HH.out, HON.out.then (Only.of (below_drew0 wr _) (Nat.le_refl _))⟩
          rw [typeTo_no, HTT.out]
          intro e
          rw [beq_eq_false_iff_ne, HWL.out, HPL.out] at he
          exact he e.symm
        case measure => simp [intOf]; omega
      · go_wp2_with fail
        go_quiet (fail)
        go_wp2
        go_roundw
        case rel =>
          have he' := beq_iff_eq.1 he
          rw [HWL.out, HPL.out] at he'
          refine ⟨k + 1, k + 1, by omega, by go_num, (typeTo_yes he'.symm).symm, ?_, ?_⟩
          · have := (HH.out.of (W' := wr.drewN nq) rfl).set 0 (.int .i64 ((k : Int) + 1))
            rw [Int.natCast_add, Int.natCast_one]
            exact this
          · exact (HON.out.then (Only.of (below_drew0 wr nq) (Nat.le_refl _))).set 0 _
        case measure => simp [intOf]; omega
    · have q2 : decide ((k : Int) < 5) = false := decide_eq_false (by omega)
      have hk5 : k = 5 := by omega
      have htk : tt = typeL (partL s.data.toList) := by rw [HTT.out, hk5, type_five]
      have htl := type_le (partL s.data.toList)
      have HTK := Lib.hid htk
      rw [← htk] at H1 H2 H3 H4 htl
      have h1 := HH.out.c (j := 0) rfl
      have HZ2 := HZH.out.of (HON.out.block w.heap.size (by omega) (by omega))
      have HF2 := HFH.out.of (HON.out.block (w.heap.size + 1) (by omega) (by omega))
      have hBw : Below w.heap.size w wr := nxt HBH.out (HON.out.below (lo := w.heap.size) (by omega) (by omega)) (Nat.le_refl _)
      have hlr : w.heap.size + 2 < wr.heap.size := HH.out.lt
      clear hk5 htk
      by_cases htk : tt = 0
      · subst htk
        have e1 := H1.out rfl
        have E1 := Lib.hid e1
        have z0 := HZ2.c (j := 0) rfl
        have z1 := HZ2.c (j := 1) rfl
        have z2 := HZ2.c (j := 2) rfl
        have y0 := HZ2.frozen 0
        have y1 := HZ2.frozen 1
        have y2 := HZ2.frozen 2
        have a0 := HF2.c (j := 0) rfl
        have a1 := HF2.c (j := 1) rfl
        have b0 := HF2.frozen 0
        have b1 := HF2.frozen 1
        clear e1
        go_wp2
        obtain ⟨W9, hW9, k0, k1, k2, k3, k4, hB9, hrow9⟩ := sets_fin (.int .i64 0) (.int .i64 0) (.int .i64 6) (.int .i64 0) (.slice none 0 0) HZ2 HF2 rfl rfl
        rw [← hW9]
        refine bodyPost_ret (v := .tuple #[.agg #[.int .i64 0, .int .i64 0, .slice none 0 0], .agg #[.int .i64 6, .int .i64 0]]) (by simp [results, Tryz.f108, go_sem, k0, k1, k2, k3, k4]) rfl ?_
        exact rd_zero E1.out (nxt hBw hB9 (Nat.le_refl _))
      · have hkz : ((tt : Int) == 0) = false := by rw [beq_eq_false_iff_ne]; omega
        have H2' := Lib.hid (H2.out htk)
        have H3' := Lib.hid (H3.out htk)
        have H4' := Lib.hid (H4.out htk)
        obtain ⟨R, hR⟩ : ∃ R, behindR s.data.toList n0 = R := ⟨_, rfl⟩
        rw [hR] at H2' H3' H4'
        have hRl : R.1.length ≤ 20000 := by
          have hb := beh_len (s.data.toList.length + 1) (s.data.toList.drop n0) n0 []
          rw [List.length_drop, bytes_len] at hb
          rw [← hR]
          unfold behindR
          rw [bytes_len]
          simp at hb
          omega
        unfold behindR at hR
        have HR := Lib.hid hR
        have HZ2H := Lib.hid HZ2
        have HF2H := Lib.hid HF2
        have HS2H := Lib.hid HH.out
        have HBWH := Lib.hid hBw
        obtain ⟨i0, hi, hz0, hz1, hz2⟩ := info_parts info_int
        obtain ⟨Wo, hWo⟩ : ∃ Wo, Wo = wr := ⟨_, rfl⟩
        rw [← hWo] at h1 HZ2H HF2H HS2H HBWH hlr ⊢
        clear hR htk H1 H2 H3 H4 HZ2 HF2 HH hBw HON HTT HTK HZH HFH HSH HBH HCW hsw hWo wr
        go_wp2_with fail
        go_loopw [4, 8, 9, 10, 11] (fun at1 v s9 s10 s11 wr => ∃ (k f : Nat) (acc : List Int), k ≤ s.size ∧ at1 = .int .i64 k ∧ s.size < f + k ∧ behindL f (s.data.toList.drop k) k acc = R ∧ acc.length ≤ k ∧ wr.ownsRow Wo.heap.size 3 1 v acc.length (intsOf acc) ∧ Below Wo.heap.size Wo wr) (fun at1 v s9 s10 s11 wr => s.size - (intOf at1).toNat)
        case atStart => exact ⟨n0, s.data.toList.length + 1, [], hple, rfl, by rw [bytes_len]; omega, HR.out, by simp, World.ownsRow_nil _ _ _ _, Below.refl _ _⟩
        case round =>
          obtain ⟨k, f, acc, hk', rfl, hf, hbeh, hal, hown, hB⟩ := hrel
          have HBEH := Lib.hid hbeh
          have HOWN := Lib.hid hown
          have HB := Lib.hid hB
          have hsz := hB.size
          obtain ⟨A6, c6, rfl⟩ := own_form hown
          clear hbeh hown hB
          by_cases hlt2 : k < s.size
          · obtain ⟨f, rfl⟩ : ∃ f', f = f' + 1 := ⟨f - 1, by omega⟩
            have hll : k < s.data.toList.length := by rw [bytes_len]; exact hlt2
            have hd : (s.extract (k + 1) s.size).data.toList = s.data.toList.drop (k + 1) := extract_data s (k + 1)
            have hpa := part_le (s.data.toList.drop (k + 1))
            rw [List.length_drop, bytes_len] at hpa
            obtain ⟨ke, hke⟩ : ∃ ke, k + 1 + (partL (s.data.toList.drop (k + 1))).length = ke := ⟨_, rfl⟩
            have HPT := fun W => rpart_any s (k + 1) ((k + 1 : Nat) : Int) W hs (by omega) rfl
            rw [hke] at HPT
            have hpd : (s.extract (k + 1) ke).data.toList = partL (s.data.toList.drop (k + 1)) := by
              have e1 : (s.extract (k + 1) ke).data.toList = (s.data.toList.drop (k + 1)).take (ke - (k + 1)) := by
                simp [ByteArray.data_extract]
              rw [e1, ← hke, Nat.add_sub_cancel_left, ← part_take]
            have HSTEP := Lib.hid (fun he => beh_step (f := f) (acc := acc) hll he)
            have HBAD := Lib.hid (fun he => beh_bad (f := f) (acc := acc) hll he)
            rw [hke] at HSTEP
            rw [← hpd] at HSTEP HBAD
            have hgl : (s.extract (k + 1) ke).size ≤ 16000 := by simp; omega
            obtain ⟨gb, hgb⟩ : ∃ gb, s.extract (k + 1) ke = gb := ⟨_, rfl⟩
            rw [hgb] at HSTEP HBAD hgl
            have hgP := getP_bd gb.data.toList (by rw [bytes_len]; omega)
            have HGET := fun W => rget_any gb W (by unfold maxLen; omega)
            unfold GetPost at HGET
            obtain ⟨gN, hgN⟩ : ∃ x, getN gb.data.toList = x := ⟨_, rfl⟩
            obtain ⟨gE, hgE⟩ : ∃ x, getE gb.data.toList = x := ⟨_, rfl⟩
            obtain ⟨gP, hgP'⟩ : ∃ x, getP gb.data.toList = x := ⟨_, rfl⟩
            rw [hgN, hgE, hgP'] at HGET
            rw [hgE] at HSTEP HBAD
            rw [hgN] at HSTEP
            rw [hgP'] at HBAD hgP
            obtain ⟨k1, hk1⟩ : ∃ k1, k1 = k + 1 := ⟨_, rfl⟩
            have e1 : (k : Int) + 1 = (k1 : Int) := by omega
            have hk10 : (0 : Int) ≤ (k1 : Int) := by omega
            have hk11 : (k1 : Int) ≤ (ke : Int) := by omega
            have hk12 : k1 ≤ ke := by omega
            have hk13 : (ke : Int) ≤ (s.size : Int) := by omega
            have hk14 : (0 : Int) ≤ (ke : Int) := by omega
            rw [← hk1] at hgb HPT
            have HK1 := Lib.hid hk1
            have HKE := Lib.hid hke
            have q2' : decide (k < s.size) = true := decide_eq_true hlt2
            clear hd hpd hgN hgE hgP' hk1 hll hke hpa
            go_wp2_with fail
            refine (HPT wr).mono ?_
            rintro e w1 ⟨rfl, hw1⟩
            rw [hw1]
            clear hw1 w1
            go_wp2_with fail
            refine (HGET wr).mono ?_
            rintro e w2 ⟨rfl, hB2⟩
            have hsz2 := hB2.size
            have HB2a := Lib.hid (nxt HB.out hB2 (by omega))
            have HB2 := Lib.hid hB2
            clear hB2
            by_cases he : gE = 0
            · subst he
              go_wp2_with (at_builtin; refine wpList_append_own_at _ rfl _ _ 34 rfl Wo.heap.size 3 i0 (.int .i64 0) 1 8 Tryz.underlying34 hi hz0 hz1 hz2 rfl (by decide) _ _ _ rfl ((row_below HOWN.out HB2.out).alloc _ |>.alloc _) ⟨w2.heap.size + 1, 0, none⟩ 1 1 [.int .i64 gN] rfl rfl (by have := cell_one (w2.alloc (.cells #[.int .i64 0, .int .i64 gP] 44)) 3 (.int .i64 gN); rw [World.size_alloc] at this; exact this) (by intro u hu; simp at hu; subst hu; rfl) (by unfold maxLen; omega) (by omega) (by simp; omega) ?_; intro v5 w5 hown5 hg5 hnil5 hat5; obtain ⟨A5, c5, rfl⟩ := own_form hown5; have HOWN5 := Lib.hid hown5; have HG5 := Lib.hid hg5; clear hown5 hg5 hnil5 hat5)
              go_roundw
              case rel =>
                have hst := HSTEP.out trivial
                refine ⟨ke, f, acc ++ [gN], by omega, by go_num, by have := HK1.out; omega, ?_, by rw [List.length_append]; simp; have := HK1.out; omega, ?_, ?_⟩
                · rw [← hst]; exact HBEH.out
                · have := HOWN5.out
                  rw [intsOf_snoc] at this
                  rw [List.length_append]; exact this
                · exact (((HB2a.out.alloc (by omega) _).alloc (by simp; omega) _)).grown HG5.out (by simp; omega) (fun g e => (HOWN.out.lt g e).1)
              case measure => have := HK1.out; simp [intOf]; omega
            · have hne : (gE != 0) = true := by rw [bne_iff_ne]; exact he
              have HE := Lib.hid he
              have HZ3 := (HZ2H.out.below HB2a.out (by omega)).below (alloc1 w2 (.cells #[.int .i64 gE, .int .i64 gP] 44)) (by omega)
              have HF3 := (HF2H.out.below HB2a.out (by omega)).below (alloc1 w2 (.cells #[.int .i64 gE, .int .i64 gP] 44)) (by omega)
              have hB3 : Below w2.heap.size w2 (w2.alloc (.cells #[.int .i64 gE, .int .i64 gP] 44)) := alloc1 w2 _
              have HX3 := Holds.new w2 44 #[.int .i64 gE, .int .i64 gP]
              obtain ⟨pp, hpp⟩ : ∃ pp, pp = (k1 : Int) + gP := ⟨_, rfl⟩
              have hwk : IntKind.i64.wrap ((k : Int) + 1) = (k1 : Int) := by rw [e1, IntKind.wrap_i64]; omega
              have hwr : IntKind.i64.wrap ((k1 : Int) + gP) = pp := by rw [hpp, IntKind.wrap_i64]; omega
              have HPP := Lib.hid hpp
              have hRR := (HBAD.out he).symm.trans HBEH.out
              have HRR := Lib.hid hRR
              have hRb := H2'.out (by rw [← hRR]; exact he)
              rw [← hRR] at hRb
              have HRB := Lib.hid hRb
              clear hpp he hRR hRb e1
              go_upto_region 16 with fail
              generalize w2.alloc (.cells #[.int .i64 gE, .int .i64 gP] 44) = W3 at *
              have z0 := HZ3.c (j := 0) rfl
              have z1 := HZ3.c (j := 1) rfl
              have z2 := HZ3.c (j := 2) rfl
              have y0 := HZ3.frozen 0
              have y1 := HZ3.frozen 1
              have y2 := HZ3.frozen 2
              have a0 := HF3.c (j := 0) rfl
              have a1 := HF3.c (j := 1) rfl
              have b0 := HF3.frozen 0
              have b1 := HF3.frozen 1
              have x0 := HX3.c (j := 0) rfl
              have x1 := HX3.c (j := 1) rfl
              go_cut [] from 55 to 63 (fun wx => wx = (((((W3.drew.setCell ⟨w.heap.size, 0, none⟩ (.int .i64 0)).setCell ⟨w.heap.size, 1, none⟩ (.int .i64 0)).setCell ⟨w.heap.size, 2, none⟩ (.slice none 0 0)).setCell ⟨w.heap.size + 1, 0, none⟩ (.int .i64 gE)).setCell ⟨w.heap.size + 1, 1, none⟩ (.int .i64 pp)))
              case first =>
                go_region
                all_goals (go_wp2_with fail; go_meet; exact rfl)
              case rest =>
                subst hcut
                go_wp2
                obtain ⟨W9, hW9, k0, k1, k2, k3, k4, hB9, hrow9⟩ := sets_fin (.int .i64 0) (.int .i64 0) (.int .i64 gE) (.int .i64 pp) (.slice none 0 0) (HZ3.of (W' := W3.drew) rfl) (HF3.of (W' := W3.drew) rfl) rfl rfl
                rw [← hW9]
                refine bodyPost_ret (v := .tuple #[.agg #[.int .i64 0, .int .i64 0, .slice none 0 0], .agg #[.int .i64 gE, .int .i64 pp]]) (by simp [results, Tryz.f108, go_sem, k0, k1, k2, k3, k4]) rfl ?_
                rw [show pp = (k : Int) + 1 + gP by rw [HPP.out, HK1.out]; omega]
                exact rd_zero HRB.out (nxt (nxt (nxt HBWH.out HB2a.out (by omega)) hB3.drew (by omega)) hB9 (Nat.le_refl _))
          · have hend := beh_end (k := k) (s := s.data.toList) (acc := acc) (f := f) (by rw [bytes_len]; omega) (by omega)
            have hRR := hend.symm.trans HBEH.out
            subst hRR
            have q2' : decide (k < s.size) = false := decide_eq_false hlt2
            have HZ3 := HZ2H.out.below HB.out (by omega)
            have HF3 := HF2H.out.below HB.out (by omega)
            have HS3 := HS2H.out.below HB.out hlr
            have s0 := HS3.c (j := 0) rfl
            have s2 := HS3.c (j := 2) rfl
            have t2 := HS3.frozen 2
            have hBw3 := nxt HBWH.out HB.out (by omega)
            have H3a := H3'.out rfl
            have H4a := H4'.out rfl
            dsimp only at H3a H4a hRl
            have hO4 : Only (w.heap.size + 2) wr (wr.setCell ⟨w.heap.size + 2, 2, none⟩ (.slice A6 acc.length c6)) := (Only.of (Below.refl wr.heap.size wr) (Nat.le_refl _)).set 2 _
            have HS4 := HS3.set 2 (.slice A6 acc.length c6)
            have hrow4 := HOWN.out.kept hO4.grown (.inr (HS3.not_row HOWN.out (by decide)).symm)
            have HZ4 := HZ3.of (hO4.block w.heap.size (by omega) (by omega))
            have HF4 := HF3.of (hO4.block (w.heap.size + 1) (by omega) (by omega))
            have hBw4 : Below w.heap.size w (wr.setCell ⟨w.heap.size + 2, 2, none⟩ (.slice A6 acc.length c6)) := nxt hBw3 (hO4.below (lo := w.heap.size) (by omega) (by omega)) (Nat.le_refl _)
            have hs4 := hO4.size
            clear H2' H3' H4' hend HBEH HZ2H HF2H HS2H
            go_upto_region 20 with fail
            generalize wr.setCell ⟨w.heap.size + 2, 2, none⟩ (.slice A6 acc.length c6) = W4 at *
            have HS4' : Holds W4 (w.heap.size + 2) 36 #[.int .i64 (tt : Int), .int .i64 0, .slice A6 acc.length c6] := HS4
            have r0 := HS4'.c (j := 0) rfl
            have r1 := HS4'.c (j := 1) rfl
            have r2 := HS4'.c (j := 2) rfl
            cases hsg : singB (tt : Int)
            · have e1 : ((tt : Int) == 1) = false := by unfold singB at hsg; simp at hsg; simp [hsg.1]
              have e5 : ((tt : Int) == 5) = false := by unfold singB at hsg; simp at hsg; simp [hsg.2]
              have HOF := Lib.hid (show ofNums tt acc = (((tt : Int), 0, acc), st_checkE tt 0 acc == 0) by unfold ofNums; rw [hsg]; rfl)
              have hrow5 := fun w5 (h : Below W4.heap.size W4 w5) => row_below hrow4 h
              have HCK := st_rcheck_any tt 0 A6 c6 acc W4 (own_ints rfl hrow4) (by omega)
              unfold stV at HCK
              have HLS := HS4'.lt
              have hsW := hBw4.size
              obtain ⟨r, hr⟩ : ∃ r, st_checkE tt 0 acc = r := ⟨_, rfl⟩
              rw [hr] at HCK
              have HRR2 := Lib.hid hr
              clear hr
              go_wp2_with fail
              refine HCK.mono ?_
              rintro e w5 ⟨rfl, hB5⟩
              have HZ5 := HZ4.below hB5 (by omega)
              have HF5 := HF4.below hB5 (by omega)
              have HS5 := HS4'.below hB5 HLS
              have hBw5 := nxt hBw4 hB5 hsW
              have u0 := HS5.c (j := 0) rfl
              have u1 := HS5.c (j := 1) rfl
              have u2 := HS5.c (j := 2) rfl
              have z0 := HZ5.c (j := 0) rfl
              have z1 := HZ5.c (j := 1) rfl
              have z2 := HZ5.c (j := 2) rfl
              have y0 := HZ5.frozen 0
              have y1 := HZ5.frozen 1
              have y2 := HZ5.frozen 2
              have a0 := HF5.c (j := 0) rfl
              have a1 := HF5.c (j := 1) rfl
              have b0 := HF5.frozen 0
              have b1 := HF5.frozen 1
              cases hrz : (r != 0)
              · have hr0 : r = 0 := by simpa using hrz
                go_wp2
                obtain ⟨W9, hW9, k0, k1, k2, k3, k4, hB9, hrow9⟩ := sets_fin (.int .i64 (tt : Int)) (.int .i64 0) (.int .i64 0) (.int .i64 0) (.slice A6 acc.length c6) HZ5 HF5 rfl rfl
                rw [← hW9]
                refine bodyPost_ret (v := .tuple #[.agg #[.int .i64 (tt : Int), .int .i64 0, .slice A6 acc.length c6], .agg #[.int .i64 0, .int .i64 0]]) (by simp [results, Tryz.f108, go_sem, k0, k1, k2, k3, k4]) rfl ?_
                rw [H4a (by rw [HOF.out, HRR2.out, hr0]; rfl), HOF.out]
                exact ⟨A6, c6, rfl, row_more (hrow9 _ _ _ _ (hrow5 w5 hB5)) (by omega), nxt hBw5 hB9 (Nat.le_refl _)⟩
              · have hr0 : r ≠ 0 := by simpa using hrz
                go_wp2
                obtain ⟨W9, hW9, k0, k1, k2, k3, k4, hB9, hrow9⟩ := sets_fin (.int .i64 0) (.int .i64 0) (.int .i64 5) (.int .i64 0) (.slice none 0 0) HZ5 HF5 rfl rfl
                rw [← hW9]
                refine bodyPost_ret (v := .tuple #[.agg #[.int .i64 0, .int .i64 0, .slice none 0 0], .agg #[.int .i64 5, .int .i64 0]]) (by simp [results, Tryz.f108, go_sem, k0, k1, k2, k3, k4]) rfl ?_
                exact rd_zero (H3a (by rw [HOF.out, HRR2.out]; simpa using hr0)) (nxt hBw5 hB9 (Nat.le_refl _))
            · by_cases hl1 : acc.length = 1
              · obtain ⟨x, rfl⟩ : ∃ x, acc = [x] := by
                  match acc, hl1 with
                  | [x], _ => exact ⟨x, rfl⟩
                have HOF := Lib.hid (show ofNums tt [x] = (((tt : Int), x, []), st_checkE tt x [] == 0) by unfold ofNums; rw [hsg]; rfl)
                obtain ⟨bb, boff, hAA, hbb, hcc⟩ := own_ints rfl hrow4 (by simp)
                have hcx := hcc 0 (by simp)
                simp only [List.getElem?_cons_zero, Option.getD_some, Nat.add_zero] at hcx
                subst hAA
                have t1 := HS4'.frozen 1
                have t22 := HS4'.frozen 2
                have hO6 : Only (w.heap.size + 2) W4 ((W4.setCell ⟨w.heap.size + 2, 1, none⟩ (.int .i64 x)).setCell ⟨w.heap.size + 2, 2, none⟩ (.slice none 0 0)) := ((Only.of (Below.refl W4.heap.size W4) (Nat.le_refl _)).set 1 _).set 2 _
                have HS6 : Holds ((W4.setCell ⟨w.heap.size + 2, 1, none⟩ (.int .i64 x)).setCell ⟨w.heap.size + 2, 2, none⟩ (.slice none 0 0)) (w.heap.size + 2) 36 #[.int .i64 (tt : Int), .int .i64 x, .slice none 0 0] := (HS4'.set 1 (.int .i64 x)).set 2 (.slice none 0 0)
                have HZ6 := HZ4.of (hO6.block w.heap.size (by omega) (by omega))
                have HF6 := HF4.of (hO6.block (w.heap.size + 1) (by omega) (by omega))
                have hBw6 : Below w.heap.size w ((W4.setCell ⟨w.heap.size + 2, 1, none⟩ (.int .i64 x)).setCell ⟨w.heap.size + 2, 2, none⟩ (.slice none 0 0)) := nxt hBw4 (hO6.below (lo := w.heap.size) (by omega) (by omega)) (Nat.le_refl _)
                have hs6 := hO6.size
                simp only [List.length_cons, List.length_nil, Nat.zero_add] at r2 ⊢
                clear hcc
                cases e1 : ((tt : Int) == 1)
                · have e5 : ((tt : Int) == 5) = true := by unfold singB at hsg; rw [e1] at hsg; simpa using hsg
                  go_upto_region 25 with fail
                  generalize (W4.setCell ⟨w.heap.size + 2, 1, none⟩ (.int .i64 x)).setCell ⟨w.heap.size + 2, 2, none⟩ (.slice none 0 0) = W6 at *
                  have v0 := HS6.c (j := 0) rfl
                  have v1 := HS6.c (j := 1) rfl
                  have v2 := HS6.c (j := 2) rfl
                  have HCK := st_rcheck_any tt x none 0 [] W6 (fun h => by simp at h) (by simp)
                  unfold stV at HCK
                  have HLS := HS6.lt
                  have hsW := hBw6.size
                  obtain ⟨r, hr⟩ : ∃ r, st_checkE tt x [] = r := ⟨_, rfl⟩
                  rw [hr] at HCK
                  have HRR2 := Lib.hid hr
                  clear hr
                  go_wp2_with fail
                  refine HCK.mono ?_
                  rintro e w5 ⟨rfl, hB5⟩
                  have HZ5 := HZ6.below hB5 (by omega)
                  have HF5 := HF6.below hB5 (by omega)
                  have HS5 := HS6.below hB5 HLS
                  have hBw5 := nxt hBw6 hB5 hsW
                  have u0 := HS5.c (j := 0) rfl
                  have u1 := HS5.c (j := 1) rfl
                  have u2 := HS5.c (j := 2) rfl
                  have z0 := HZ5.c (j := 0) rfl
                  have z1 := HZ5.c (j := 1) rfl
                  have z2 := HZ5.c (j := 2) rfl
                  have y0 := HZ5.frozen 0
                  have y1 := HZ5.frozen 1
                  have y2 := HZ5.frozen 2
                  have a0 := HF5.c (j := 0) rfl
                  have a1 := HF5.c (j := 1) rfl
                  have b0 := HF5.frozen 0
                  have b1 := HF5.frozen 1
                  cases hrz : (r != 0)
                  · have hr0 : r = 0 := by simpa using hrz
                    go_wp2
                    obtain ⟨W9, hW9, k0, k1, k2, k3, k4, hB9, hrow9⟩ := sets_fin (.int .i64 (tt : Int)) (.int .i64 x) (.int .i64 0) (.int .i64 0) (.slice none 0 0) HZ5 HF5 rfl rfl
                    rw [← hW9]
                    refine bodyPost_ret (v := .tuple #[.agg #[.int .i64 (tt : Int), .int .i64 x, .slice none 0 0], .agg #[.int .i64 0, .int .i64 0]]) (by simp [results, Tryz.f108, go_sem, k0, k1, k2, k3, k4]) rfl ?_
                    rw [H4a (by rw [HOF.out, HRR2.out, hr0]; rfl), HOF.out]
                    exact ⟨none, 0, rfl, nil_row _ _, nxt hBw5 hB9 (Nat.le_refl _)⟩
                  · have hr0 : r ≠ 0 := by simpa using hrz
                    go_wp2
                    obtain ⟨W9, hW9, k0, k1, k2, k3, k4, hB9, hrow9⟩ := sets_fin (.int .i64 0) (.int .i64 0) (.int .i64 5) (.int .i64 0) (.slice none 0 0) HZ5 HF5 rfl rfl
                    rw [← hW9]
                    refine bodyPost_ret (v := .tuple #[.agg #[.int .i64 0, .int .i64 0, .slice none 0 0], .agg #[.int .i64 5, .int .i64 0]]) (by simp [results, Tryz.f108, go_sem, k0, k1, k2, k3, k4]) rfl ?_
                    exact rd_zero (H3a (by rw [HOF.out, HRR2.out]; simpa using hr0)) (nxt hBw5 hB9 (Nat.le_refl _))
                · go_upto_region 25 with fail
                  generalize (W4.setCell ⟨w.heap.size + 2, 1, none⟩ (.int .i64 x)).setCell ⟨w.heap.size + 2, 2, none⟩ (.slice none 0 0) = W6 at *
                  have v0 := HS6.c (j := 0) rfl
                  have v1 := HS6.c (j := 1) rfl
                  have v2 := HS6.c (j := 2) rfl
                  have HCK := st_rcheck_any tt x none 0 [] W6 (fun h => by simp at h) (by simp)
                  unfold stV at HCK
                  have HLS := HS6.lt
                  have hsW := hBw6.size
                  obtain ⟨r, hr⟩ : ∃ r, st_checkE tt x [] = r := ⟨_, rfl⟩
                  rw [hr] at HCK
                  have HRR2 := Lib.hid hr
                  clear hr
                  go_wp2_with fail
                  refine HCK.mono ?_
                  rintro e w5 ⟨rfl, hB5⟩
                  have HZ5 := HZ6.below hB5 (by omega)
                  have HF5 := HF6.below hB5 (by omega)
                  have HS5 := HS6.below hB5 HLS
                  have hBw5 := nxt hBw6 hB5 hsW
                  have u0 := HS5.c (j := 0) rfl
                  have u1 := HS5.c (j := 1) rfl
                  have u2 := HS5.c (j := 2) rfl
                  have z0 := HZ5.c (j := 0) rfl
                  have z1 := HZ5.c (j := 1) rfl
                  have z2 := HZ5.c (j := 2) rfl
                  have y0 := HZ5.frozen 0
                  have y1 := HZ5.frozen 1
                  have y2 := HZ5.frozen 2
                  have a0 := HF5.c (j := 0) rfl
                  have a1 := HF5.c (j := 1) rfl
                  have b0 := HF5.frozen 0
                  have b1 := HF5.frozen 1
                  cases hrz : (r != 0)
                  · have hr0 : r = 0 := by simpa using hrz
                    go_wp2
                    obtain ⟨W9, hW9, k0, k1, k2, k3, k4, hB9, hrow9⟩ := sets_fin (.int .i64 (tt : Int)) (.int .i64 x) (.int .i64 0) (.int .i64 0) (.slice none 0 0) HZ5 HF5 rfl rfl
                    rw [← hW9]
                    refine bodyPost_ret (v := .tuple #[.agg #[.int .i64 (tt : Int), .int .i64 x, .slice none 0 0], .agg #[.int .i64 0, .int .i64 0]]) (by simp [results, Tryz.f108, go_sem, k0, k1, k2, k3, k4]) rfl ?_
                    rw [H4a (by rw [HOF.out, HRR2.out, hr0]; rfl), HOF.out]
                    exact ⟨none, 0, rfl, nil_row _ _, nxt hBw5 hB9 (Nat.le_refl _)⟩
                  · have hr0 : r ≠ 0 := by simpa using hrz
                    go_wp2
                    obtain ⟨W9, hW9, k0, k1, k2, k3, k4, hB9, hrow9⟩ := sets_fin (.int .i64 0) (.int .i64 0) (.int .i64 5) (.int .i64 0) (.slice none 0 0) HZ5 HF5 rfl rfl
                    rw [← hW9]
                    refine bodyPost_ret (v := .tuple #[.agg #[.int .i64 0, .int .i64 0, .slice none 0 0], .agg #[.int .i64 5, .int .i64 0]]) (by simp [results, Tryz.f108, go_sem, k0, k1, k2, k3, k4]) rfl ?_
                    exact rd_zero (H3a (by rw [HOF.out, HRR2.out]; simpa using hr0)) (nxt hBw5 hB9 (Nat.le_refl _))
              · have q7 : ((acc.length : Int) != 1) = true := by rw [bne_iff_ne]; omega
                have hoff : (ofNums tt acc).2 = false := by unfold ofNums; rw [hsg, if_pos rfl, if_neg hl1]
                have HRD := Lib.hid (H3a hoff)
                clear hl1 hoff
                have z0 := HZ4.c (j := 0) rfl
                have z1 := HZ4.c (j := 1) rfl
                have z2 := HZ4.c (j := 2) rfl
                have y0 := HZ4.frozen 0
                have y1 := HZ4.frozen 1
                have y2 := HZ4.frozen 2
                have a0 := HF4.c (j := 0) rfl
                have a1 := HF4.c (j := 1) rfl
                have b0 := HF4.frozen 0
                have b1 := HF4.frozen 1
                cases e1 : ((tt : Int) == 1)
                · have e5 : ((tt : Int) == 5) = true := by unfold singB at hsg; rw [e1] at hsg; simpa using hsg
                  go_wp2
                  obtain ⟨W9, hW9, k0, k1, k2, k3, k4, hB9, hrow9⟩ := sets_fin (.int .i64 0) (.int .i64 0) (.int .i64 5) (.int .i64 0) (.slice none 0 0) HZ4 HF4 rfl rfl
                  rw [← hW9]
                  refine bodyPost_ret (v := .tuple #[.agg #[.int .i64 0, .int .i64 0, .slice none 0 0], .agg #[.int .i64 5, .int .i64 0]]) (by simp [results, Tryz.f108, go_sem, k0, k1, k2, k3, k4]) rfl ?_
                  exact rd_zero HRD.out (nxt hBw4 hB9 (Nat.le_refl _))
                · go_wp2
                  obtain ⟨W9, hW9, k0, k1, k2, k3, k4, hB9, hrow9⟩ := sets_fin (.int .i64 0) (.int .i64 0) (.int .i64 5) (.int .i64 0) (.slice none 0 0) HZ4 HF4 rfl rfl
                  rw [← hW9]
                  refine bodyPost_ret (v := .tuple #[.agg #[.int .i64 0, .int .i64 0, .slice none 0 0], .agg #[.int .i64 5, .int .i64 0]]) (by simp [results, Tryz.f108, go_sem, k0, k1, k2, k3, k4]) rfl ?_
                  exact rd_zero HRD.out (nxt hBw4 hB9 (Nat.le_refl _))
end Go.Proofs.YtakbphjdfgidmaaGreatDoor

namespace Go.Proofs.YtakbphjdfgidmaaGreatDoor
open Go.RowKit Go.Maps
set_option linter.unusedVariables false

set_option maxHeartbeats 1000000 in
theorem st_over_any (g c n lo : Nat) (xs : List Value) (w : World) (h : w.ownsRow lo 3 1 (.slice (some ⟨g, 0, none⟩) n c) n xs) (hn : n ≤ 1000) :
    Calls Tryz.prog 88 #[.slice (some ⟨g, 0, none⟩) n c] w fun e w' => e = .returned (.tuple #[]) ∧ w.grownBy w' (some g) := by
  have HO := Lib.hid h
  clear h
  go_enter Tryz.func88, Tryz.ntmps88
  go_wp2
  go_loopw [2] (fun i wr => ∃ (k : Nat) (ys : List Value), k ≤ n ∧ i = .int .i64 k ∧ wr.ownsRow lo 3 1 (.slice (some ⟨g, 0, none⟩) n c) n ys ∧ w.grownBy wr (some g)) (fun i wr => n - (intOf i).toNat)
  case atStart => exact ⟨0, xs, Nat.zero_le _, rfl, HO.out, World.grownBy.refl _ _⟩
  case round =>
    obtain ⟨k, ys, hk, rfl, hown, hg⟩ := hrel
    by_cases hlt : k < n
    · have q0 : (0 : Int) ≤ (k : Int) := by omega
      have q1 : (k : Int) < (n : Int) := by omega
      have q2 : decide (k < n) = true := decide_eq_true hlt
      have hlen : ys.length = n := by have := hown.1; omega
      have hcell := hown.cellAt k (by omega)
      rw [List.getElem?_eq_getElem (by omega)] at hcell
      have hfro := hown.frozenAt k
      have HST := Lib.hid (hown.stored k (.int .i64 (-77)))
      generalize ys[k] = y at hcell
      clear hown
      go_wp2
      exact ⟨⟨k + 1, _, by omega, by go_num, HST.out.1, hg.trans HST.out.2⟩, by simp [intOf]; omega⟩
    · have q2 : decide (k < n) = false := decide_eq_false hlt
      go_wp2
      go_end0
      exact ⟨rfl, hg⟩
theorem overst_any (t n : Int) (A : Option Addr) (c : Nat) (l : List Int) (base : Nat) (w : World) (ho : OwnInts base w (.slice A l.length c) l) (hl : l.length ≤ 1000) (hb : base ≤ w.heap.size) :
    Calls Tryz.prog 50 #[.agg #[.int .i64 t, .int .i64 n, .slice A l.length c]] w fun e w' => e = .returned (.tuple #[]) ∧ Below base w w' := by
  have hB0 := alloc1 w (.cells #[.int .i64 t, .int .i64 n, .slice A l.length c] 36)
  have ho1 := row_below ho hB0
  have hs1 := hB0.size
  have HOV : Calls Tryz.prog 88 #[.slice A l.length c] (w.alloc (.cells #[.int .i64 t, .int .i64 n, .slice A l.length c] 36)) fun e w' => e = .returned (.tuple #[]) ∧ Below base (w.alloc (.cells #[.int .i64 t, .int .i64 n, .slice A l.length c] 36)) w' := by
    rcases ho1.2 with ⟨e1, e2⟩ | ⟨g, cap', cur, e1, hg, _⟩
    · injection e1 with e3 e4 e5
      subst e3 e5
      generalize w.alloc (.cells #[.int .i64 t, .int .i64 n, .slice none l.length 0] 36) = W at *
      rw [e4]
      go_enter Tryz.func88, Tryz.ntmps88
      go_wp2
      go_loopw [2] (fun i wr => i = .int .i64 0 ∧ wr = W) (fun i wr => 0)
      case atStart => exact ⟨rfl, rfl⟩
      case round =>
        obtain ⟨rfl, rfl⟩ := hrel
        go_wp2
        go_end0
        exact ⟨rfl, Below.refl _ _⟩
    · injection e1 with e3 e4 e5
      subst e3
      refine (st_over_any g c l.length base _ _ ho1 hl).mono ?_
      rintro e w' ⟨rfl, hgr⟩
      exact ⟨rfl, (Below.refl base _).grown hgr (by omega) (fun k e => by obtain rfl : g = k := Option.some.inj e; exact hg)⟩
  clear ho ho1
  go_enter Tryz.func50, Tryz.ntmps50
  go_wp2_with fail
  refine HOV.mono ?_
  rintro e w1 ⟨rfl, hB1⟩
  go_wp2
  go_end0
  exact ⟨rfl, nxt (hB0.mono hb) hB1 (Nat.le_refl _)⟩

def decR (b : List Int) : st_St × Int := if decOk b = true then ((decT b, decN b, decL b), 0) else (st_st0, 5)
theorem decR_len (b : List Int) : (decR b).1.2.2.length ≤ b.length := by
  unfold decR; split
  · show (decL b).length ≤ _
    unfold decL; rw [decTo_len]; omega
  · simp [st_st0]
theorem dec_p {b : List Int} {w w' : World} {e : Ending} (h : DecPost b w e w') : ∃ A c, e = .returned (.tuple #[stV (decR b).1.1 (decR b).1.2.1 A (decR b).1.2.2.length c, .int .i64 (decR b).2]) ∧ OwnInts w.heap.size w' (.slice A (decR b).1.2.2.length c) (decR b).1.2.2 ∧ Below w.heap.size w w' := by
  unfold decR
  rcases h with ⟨hok, A, c, rfl, ho, hB⟩ | ⟨hno, rfl, hB⟩
  · rw [if_pos hok]; exact ⟨A, c, rfl, ho, hB⟩
  · rw [if_neg (by rw [hno]; decide)]; exact ⟨none, 0, rfl, nil_row _ _, hB⟩
theorem read_len2 {s : List UInt8} : 2 * (readL s).1.2.2.length ≤ s.length := by
  by_cases h1 : typeL (partL s) = 0
  · rw [read_none h1]; simp [st_st0]
  · by_cases h2 : (behindR s (partL s).length).2.1 = 0
    · cases h3 : (ofNums (typeL (partL s)) (behindR s (partL s).length).1).2
      · rw [read_no h1 h2 h3]; simp [st_st0]
      · rw [read_yes h1 h2 h3]
        have hb := beh_len (s.length + 1) (s.drop (partL s).length) (partL s).length []
        rw [List.length_drop] at hb
        simp only [List.length_nil] at hb
        unfold behindR
        generalize (behindL (s.length + 1) (s.drop (partL s).length) (partL s).length []).1 = L at *
        unfold ofNums
        split
        · split
          · simp
          · simp [st_st0]
        · simp; omega
    · rw [read_bad h1 h2]; simp [st_st0]

end Go.Proofs.YtakbphjdfgidmaaGreatDoor
