/- Texts of earlier stages over this seat, joined: StN StR StT StU StX StZa StZb StZc StZd. -/
import Derived.Test.YtpdbkjnaicjfdaaGreatDoorGs
import Derived.Deep.Cut
import Derived.Deep.CutRange
set_option maxRecDepth 100000
namespace Go.Proofs.YtpdbkjnaicjfdaaGreatDoor
open Go.RowKit Go.Maps
set_option linter.unusedVariables false

theorem ints_lit (w : World) (l : List Int) (t : TypeId) (cs : Array Value) (h : cs = (l.map (Value.int .i64)).toArray) : Ints (w.alloc (.cells cs t)) (some ⟨w.heap.size, 0, none⟩) l := by
  subst h
  intro hl
  refine ⟨w.heap.size, 0, rfl, by simp, fun j hj => ?_⟩
  rw [Nat.zero_add, World.cell?_alloc_new]
  simp [List.getElem?_eq_getElem hj]

theorem str_list (l : List Int) : (strOfNums l).toList = l.map fun n => UInt8.ofNat n.toNat := by
  rw [Go.ByteArray.toList_eq]; simp [strOfNums]
theorem u8_back {x : Int} (h : 0 ≤ x ∧ x ≤ 255) : ((UInt8.ofNat x.toNat).toNat : Int) = x := by
  rw [UInt8.toNat_ofNat']; omega
theorem list_back {l : List Int} (h : Octets l) : (l.map fun n => UInt8.ofNat n.toNat).map (fun b => (b.toNat : Int)) = l := by
  rw [List.map_map]
  refine Eq.trans (List.map_congr_left (g := id) fun x hx => ?_) (List.map_id l)
  exact u8_back (h x hx)
theorem same_strs {l m : List Int} (hl : Octets l) (hm : Octets m) : ((strOfNums l).toList == (strOfNums m).toList) = (l == m) := by
  rw [str_list, str_list]
  by_cases h : l = m
  · subst h; simp
  · have h2 : (l.map fun n => UInt8.ofNat n.toNat) ≠ (m.map fun n => UInt8.ofNat n.toNat) := fun e => h (by rw [← list_back hl, ← list_back hm, e])
    rw [beq_eq_false_iff_ne.2 h, beq_eq_false_iff_ne.2 h2]
theorem row_bytesB {W : World} {base g cap : Nat} {l : List Int} (h : W.ownsRow base 5 1 (.slice (some ⟨g, 0, none⟩) l.length cap) l.length (bytesOf l)) : BytesB W.heap.size W (some ⟨g, 0, none⟩) l := by
  have := bytes_row h 0 l.length (by omega)
  simpa using this

theorem enc_octets (t n : Int) (l : List Int) : Octets (encL t n l) := by
  have hb : ∀ s n, Octets (be s n) := fun s n x hx => by
    unfold be at hx
    obtain ⟨k, _, rfl⟩ := List.mem_map.1 hx
    unfold beB
    omega
  intro x hx
  unfold encL at hx
  rw [List.mem_append, List.mem_append, List.mem_append, List.mem_flatMap] at hx
  rcases hx with ((h | h) | h) | ⟨y, _, h⟩
  all_goals exact hb _ _ x h

end Go.Proofs.YtpdbkjnaicjfdaaGreatDoor

namespace Go.Proofs.YtpdbkjnaicjfdaaGreatDoor
open Go.RowKit Go.Maps
set_option linter.unusedVariables false

theorem rcheck_none (t n : Int) (A : Option Addr) (c : Nat) (l : List Int) (w : World) (h : t < 1 ∨ 5 < t) : Calls Tryz.prog 92 #[stV t n A l.length c] w (Says (.int .i64 8) w) := by
  unfold stV
  by_cases h1 : t < 1
  · go_enter Tryz.func92, Tryz.ntmps92
    go_wp2
    go_ret
    exact ⟨rfl, alloc1 w _⟩
  · have h2 : 5 < t := by omega
    clear h
    go_enter Tryz.func92, Tryz.ntmps92
    go_wp2
    go_ret
    exact ⟨rfl, alloc1 w _⟩
theorem rcheck1 (n : Int) (A : Option Addr) (c : Nat) (l : List Int) (w : World)  : Calls Tryz.prog 92 #[stV 1 n A l.length c] w (Says (.int .i64 (if decide (l.length = 0) = true then 0 else 5)) w) := by
  unfold stV
  by_cases h : l.length = 0
  · have e : ((l.length : Int) == 0) = true := by simp [h]
    rw [decide_eq_true h]
    simp only [if_true]
    go_enter Tryz.func92, Tryz.ntmps92
    go_wp2
    go_ret
    exact ⟨rfl, alloc1 w _⟩
  · have e : ((l.length : Int) == 0) = false := by rw [beq_eq_false_iff_ne]; omega
    rw [decide_eq_false h]
    simp only [Bool.false_eq_true, if_false]
    go_enter Tryz.func92, Tryz.ntmps92
    go_wp2
    go_ret
    exact ⟨rfl, alloc1 w _⟩
theorem rcheck4 (n : Int) (A : Option Addr) (c : Nat) (l : List Int) (w : World)  : Calls Tryz.prog 92 #[stV 4 n A l.length c] w (Says (.int .i64 (if (n == 0) = true then 0 else 5)) w) := by
  unfold stV
  cases h : (n == 0)
  · simp only [Bool.false_eq_true, if_false]
    go_enter Tryz.func92, Tryz.ntmps92
    go_wp2
    go_ret
    exact ⟨rfl, alloc1 w _⟩
  · simp only [if_true]
    go_enter Tryz.func92, Tryz.ntmps92
    go_wp2
    go_ret
    exact ⟨rfl, alloc1 w _⟩
theorem rcheck2 (n : Int) (A : Option Addr) (c : Nat) (l : List Int) (w : World) (hA : Ints w A l) (hlen : l.length ≤ 20000) : Calls Tryz.prog 92 #[stV 2 n A l.length c] w (Says (.int .i64 (if ((n == 0) && riseB 1 l) = true then 0 else 5)) w) := by
  unfold stV
  have H := rrises_any A c 1 l (w.alloc (.cells #[.int .i64 2, .int .i64 n, .slice A l.length c] 53)) (hA.below (alloc1 w _)) (by omega) (by omega) hlen
  generalize riseB 1 l = r at *
  cases h : (n == 0)
  · simp only [Bool.false_and, Bool.false_eq_true, if_false]
    go_enter Tryz.func92, Tryz.ntmps92
    go_wp2
    go_ret
    exact ⟨rfl, alloc1 w _⟩
  · cases r
    · simp only [Bool.and_false, Bool.false_eq_true, if_false]
      go_enter Tryz.func92, Tryz.ntmps92
      go_wp2_with fail
      refine H.mono ?_
      rintro e w1 ⟨rfl, hB⟩
      go_wp2
      go_ret
      exact ⟨rfl, nxt (alloc1 w _) hB (by simp)⟩
    · simp only [Bool.and_true, if_true]
      go_enter Tryz.func92, Tryz.ntmps92
      go_wp2_with fail
      refine H.mono ?_
      rintro e w1 ⟨rfl, hB⟩
      go_wp2
      go_ret
      exact ⟨rfl, nxt (alloc1 w _) hB (by simp)⟩
theorem rcheck3 (n : Int) (A : Option Addr) (c : Nat) (l : List Int) (w : World) (hA : Ints w A l) (hlen : l.length ≤ 20000) : Calls Tryz.prog 92 #[stV 3 n A l.length c] w (Says (.int .i64 (if ((n == 0) && decide (l.length % 2 = 0) && riseB 2 l) = true then 0 else 5)) w) := by
  unfold stV
  have H := rrises_any A c 2 l (w.alloc (.cells #[.int .i64 3, .int .i64 n, .slice A l.length c] 53)) (hA.below (alloc1 w _)) (by omega) (by omega) hlen
  generalize riseB 2 l = r at *
  cases h : (n == 0)
  · simp only [Bool.false_and, Bool.false_eq_true, if_false]
    go_enter Tryz.func92, Tryz.ntmps92
    go_wp2
    go_ret
    exact ⟨rfl, alloc1 w _⟩
  · have hm : Int.tmod (l.length : Int) 2 = ((l.length % 2 : Nat) : Int) := rfl
    by_cases h2 : l.length % 2 = 0
    · have e2 : ((Int.tmod (l.length : Int) 2) == 0) = true := by rw [hm, h2]; rfl
      rw [decide_eq_true h2]
      cases r
      · simp only [Bool.and_false, Bool.false_eq_true, if_false]
        go_enter Tryz.func92, Tryz.ntmps92
        go_wp2_with fail
        refine H.mono ?_
        rintro e w1 ⟨rfl, hB⟩
        go_wp2
        go_ret
        exact ⟨rfl, nxt (alloc1 w _) hB (by simp)⟩
      · simp only [Bool.and_true, if_true]
        go_enter Tryz.func92, Tryz.ntmps92
        go_wp2_with fail
        refine H.mono ?_
        rintro e w1 ⟨rfl, hB⟩
        go_wp2
        go_ret
        exact ⟨rfl, nxt (alloc1 w _) hB (by simp)⟩
    · have e2 : ((Int.tmod (l.length : Int) 2) == 0) = false := by rw [hm, beq_eq_false_iff_ne]; omega
      rw [decide_eq_false h2]
      simp only [Bool.and_false, Bool.false_and, Bool.false_eq_true, if_false]
      go_enter Tryz.func92, Tryz.ntmps92
      go_wp2
      go_ret
      exact ⟨rfl, alloc1 w _⟩
theorem rcheck5 (n : Int) (A : Option Addr) (c : Nat) (l : List Int) (w : World)  : Calls Tryz.prog 92 #[stV 5 n A l.length c] w (Says (.int .i64 (if (decide (l.length = 0) && decide (0 ≤ n) && decide (n ≤ 4611686018427387904)) = true then 0 else 5)) w) := by
  unfold stV
  by_cases h : l.length = 0
  · have e : ((l.length : Int) == 0) = true := by simp [h]
    rw [decide_eq_true h]
    by_cases h1 : 0 ≤ n
    · rw [decide_eq_true h1]
      by_cases h2 : n ≤ 4611686018427387904
      · rw [decide_eq_true h2]
        simp only [Bool.and_true, if_true]
        go_enter Tryz.func92, Tryz.ntmps92
        go_wp2
        go_ret
        exact ⟨rfl, alloc1 w _⟩
      · rw [decide_eq_false h2]
        simp only [Bool.and_false, Bool.false_eq_true, if_false]
        go_enter Tryz.func92, Tryz.ntmps92
        go_wp2
        go_ret
        exact ⟨rfl, alloc1 w _⟩
    · rw [decide_eq_false h1]
      simp only [Bool.and_false, Bool.false_and, Bool.false_eq_true, if_false]
      go_enter Tryz.func92, Tryz.ntmps92
      go_wp2
      go_ret
      exact ⟨rfl, alloc1 w _⟩
  · have e : ((l.length : Int) == 0) = false := by rw [beq_eq_false_iff_ne]; omega
    rw [decide_eq_false h]
    simp only [Bool.false_and, Bool.false_eq_true, if_false]
    go_enter Tryz.func92, Tryz.ntmps92
    go_wp2
    go_ret
    exact ⟨rfl, alloc1 w _⟩
theorem st_rcheck_any (t n : Int) (A : Option Addr) (c : Nat) (l : List Int) (w : World) (hA : Ints w A l) (hlen : l.length ≤ 20000) :
    Calls Tryz.prog 92 #[stV t n A l.length c] w (Says (.int .i64 (st_checkE t n l)) w) := by
  by_cases h : t < 1 ∨ 5 < t
  · rw [check_type h]; exact rcheck_none t n A c l w h
  · rw [check_in h]
    obtain rfl | rfl | rfl | rfl | rfl : t = 1 ∨ t = 2 ∨ t = 3 ∨ t = 4 ∨ t = 5 := by omega
    · exact rcheck1 n A c l w
    · exact rcheck2 n A c l w hA hlen
    · exact rcheck3 n A c l w hA hlen
    · exact rcheck4 n A c l w
    · exact rcheck5 n A c l w

def wordsO : Obj := .cells #[.string ⟨#[99, 111, 117, 110, 116, 101, 114]⟩, .string ⟨#[115, 101, 116]⟩, .string ⟨#[109, 97, 112]⟩, .string ⟨#[113, 117, 101, 117, 101]⟩, .string ⟨#[101, 115, 99, 114, 111, 119]⟩] 9
theorem rwords_cell (w : World) : ∀ k, k < 5 → (w.alloc wordsO).cell? ⟨w.heap.size, k, none⟩ = some (.string (st_wordB (k + 1)))
  | 0, _ => by rw [wordsO, World.cell?_alloc_new]; rfl
  | 1, _ => by rw [wordsO, World.cell?_alloc_new]; rfl
  | 2, _ => by rw [wordsO, World.cell?_alloc_new]; rfl
  | 3, _ => by rw [wordsO, World.cell?_alloc_new]; rfl
  | 4, _ => by rw [wordsO, World.cell?_alloc_new]; rfl
  | k + 5, h => by omega
end Go.Proofs.YtpdbkjnaicjfdaaGreatDoor

namespace Go.Proofs.YtpdbkjnaicjfdaaGreatDoor
open Go.RowKit Go.Maps
set_option linter.unusedVariables false

theorem u8_mod (n : Int) : IntKind.u8.wrap n = n % 256 := by
  unfold IntKind.wrap; simp [IntKind.signed, IntKind.bits]
theorem be_one (t : Int) : be 1 t = [t % 256] := by simp [be, beB]
/-- A row that is written over: nothing else is touched. -/
def OverPost (B : Nat) (w : World) (e : Ending) (w' : World) : Prop := e = .returned (.tuple #[]) ∧ Only B w w'
def CopyStPost (t n : Int) (l : List Int) (w : World) (e : Ending) (w' : World) : Prop := ∃ A c, e = .returned (stV t n A l.length c) ∧ w'.ownsRow w.heap.size 3 1 (.slice A l.length c) l.length (intsOf l) ∧ Below w.heap.size w w'
theorem copyst_any (t n : Int) (A : Option Addr) (c : Nat) (l : List Int) (w : World) (hA : Ints w A l) (hlen : l.length ≤ 1000) :
    Calls Tryz.prog 38 #[stV t n A l.length c] w (CopyStPost t n l w) := by
  have hB0 : Below w.heap.size w ((w.alloc (.cells #[.int .i64 t, .int .i64 n, .slice A l.length c] 53)).alloc (.cells #[.int .i64 0, .int .i64 0, .slice none 0 0] 53)) := (alloc1 w _).alloc (by simp) _
  have HX := (Holds.new w 53 #[.int .i64 t, .int .i64 n, .slice A l.length c]).alloc (.cells #[.int .i64 0, .int .i64 0, .slice none 0 0] 53)
  have HZ := Holds.new (w.alloc (.cells #[.int .i64 t, .int .i64 n, .slice A l.length c] 53)) 53 #[.int .i64 0, .int .i64 0, .slice none 0 0]
  rw [World.size_alloc] at HZ
  have hs0 : w.heap.size + 1 < ((w.alloc (.cells #[.int .i64 t, .int .i64 n, .slice A l.length c] 53)).alloc (.cells #[.int .i64 0, .int .i64 0, .slice none 0 0] 53)).heap.size := by simp
  have H := copy_any A c l _ (hA.below hB0) hlen
  unfold CopyPost at H
  unfold stV
  clear hA
  go_enter Tryz.func38, Tryz.ntmps38
  go_wp2_with fail
  generalize (w.alloc (.cells #[.int .i64 t, .int .i64 n, .slice A l.length c] 53)).alloc (.cells #[.int .i64 0, .int .i64 0, .slice none 0 0] 53) = W0 at *
  refine H.mono ?_
  rintro e w1 ⟨g1, c1, rfl, hr1, hB1⟩
  have HX1 := HX.below hB1 (by omega)
  have HZ1 := HZ.below hB1 hs0
  have x2 := HX1.c (j := 2) rfl
  have f2 := HX1.frozen 2
  have HX2 := HX1.set 2 (.slice (some ⟨g1, 0, none⟩) l.length c1)
  have HZ2 : Holds (w1.setCell ⟨w.heap.size, 2, none⟩ (.slice (some ⟨g1, 0, none⟩) l.length c1)) (w.heap.size + 1) 53 #[.int .i64 0, .int .i64 0, .slice none 0 0] := HZ1.of (Below.heap_setCell _ _ _ _ (show w.heap.size + 1 ≠ w.heap.size by omega))
  have hO2 : Only w.heap.size w1 (w1.setCell ⟨w.heap.size, 2, none⟩ (.slice (some ⟨g1, 0, none⟩) l.length c1)) := (Only.of (Below.refl w1.heap.size w1) (Nat.le_refl _)).set 2 _
  have hr2 := hr1.kept hO2.grown (.inr (HX1.not_row hr1 (by decide)).symm)
  have hs1 := hB1.size
  clear hr1 H
  go_upto_region 2 with fail
  generalize w1.setCell ⟨w.heap.size, 2, none⟩ (.slice (some ⟨g1, 0, none⟩) l.length c1) = W2 at *
  have d0 : W2.cell? ⟨w.heap.size, 0, none⟩ = some (.int .i64 t) := HX2.c (j := 0) rfl
  have d1 : W2.cell? ⟨w.heap.size, 1, none⟩ = some (.int .i64 n) := HX2.c (j := 1) rfl
  have d2 : W2.cell? ⟨w.heap.size, 2, none⟩ = some (.slice (some ⟨g1, 0, none⟩) l.length c1) := HX2.c (j := 2) rfl
  have z0 := HZ2.c (j := 0) rfl
  have z1 := HZ2.c (j := 1) rfl
  have z2 := HZ2.c (j := 2) rfl
  have y0 := HZ2.frozen 0
  have y1 := HZ2.frozen 1
  have y2 := HZ2.frozen 2
  have hs2 := hO2.size
  go_wp2
  have HZ3 := ((HZ2.set 0 (.int .i64 t)).set 1 (.int .i64 n)).set 2 (.slice (some ⟨g1, 0, none⟩) l.length c1)
  have hO3 := (((Only.of (Below.refl W2.heap.size W2) (Nat.le_refl _)).set (B := w.heap.size + 1) 0 (.int .i64 t)).set 1 (.int .i64 n)).set 2 (.slice (some ⟨g1, 0, none⟩) l.length c1)
  have hr3 := hr2.kept hO3.grown (.inr (HZ2.not_row hr2 (by decide)).symm)
  generalize ((W2.setCell ⟨w.heap.size + 1, 0, none⟩ (.int .i64 t)).setCell ⟨w.heap.size + 1, 1, none⟩ (.int .i64 n)).setCell ⟨w.heap.size + 1, 2, none⟩ (.slice (some ⟨g1, 0, none⟩) l.length c1) = W3 at *
  have k0 := HZ3.c (j := 0) rfl
  have k1 := HZ3.c (j := 1) rfl
  have k2 := HZ3.c (j := 2) rfl
  refine bodyPost_ret (v := .agg #[.int .i64 t, .int .i64 n, .slice (some ⟨g1, 0, none⟩) l.length c1]) (by simp [results, Tryz.f38, go_sem, k0, k1, k2]) rfl ?_
  exact ⟨some ⟨g1, 0, none⟩, c1, rfl, row_more hr3 (by omega), nxt (nxt (nxt hB0 hB1 (by omega)) (hO2.below (lo := w.heap.size) (Nat.le_refl _) (by omega)) (Nat.le_refl _)) (hO3.below (lo := w.heap.size) (by omega) (by omega)) (Nat.le_refl _)⟩
end Go.Proofs.YtpdbkjnaicjfdaaGreatDoor

namespace Go.Proofs.YtpdbkjnaicjfdaaGreatDoor
open Go.RowKit Go.Maps
set_option linter.unusedVariables false

theorem str_join3 (a b : ByteArray) : (a ++ (⟨#[32]⟩ : ByteArray) ++ b).data.toList = a.data.toList ++ 32 :: b.data.toList := by
  simp [ByteArray.data_append]
theorem str_eq {a : ByteArray} {l : List UInt8} (h : a.data.toList = l) : a = ⟨l.toArray⟩ := by
  apply ByteArray.ext
  apply Array.ext'
  simpa using h

end Go.Proofs.YtpdbkjnaicjfdaaGreatDoor

namespace Go.Proofs.YtpdbkjnaicjfdaaGreatDoor
open Go.RowKit Go.Maps
set_option linter.unusedVariables false

def encR (t n : Int) (l : List Int) : List Int := if st_checkE t n l = 0 then encL t n l else []
def txtR (t n : Int) (l : List Int) : List UInt8 := if st_checkE t n l = 0 then txtL t n l else []
def EncP (E : Int) (ys : List Int) (w : World) (e : Ending) (w' : World) : Prop :=
  ∃ A c, e = .returned (.tuple #[.slice A ys.length c, .int .i64 E]) ∧ w'.ownsRow w.heap.size 5 1 (.slice A ys.length c) ys.length (bytesOf ys) ∧ Below w.heap.size w w'
def TextP (E : Int) (bs : List UInt8) (w : World) (e : Ending) (w' : World) : Prop := e = .returned (.tuple #[.string ⟨bs.toArray⟩, .int .i64 E]) ∧ Below w.heap.size w w'

theorem encR_octets (t n : Int) (l : List Int) : Octets (encR t n l) := by
  unfold encR; split
  · exact enc_octets t n l
  · intro x hx; cases hx
theorem encR_len (t n : Int) (l : List Int) : (encR t n l).length ≤ 13 + 8 * l.length := by
  unfold encR; split
  · rw [enc_len]; exact Nat.le_refl _
  · simp
theorem st_text_any (t n : Int) (A : Option Addr) (c : Nat) (l : List Int) (w : World) (hw : Wds w) (hA : Ints w A l) (hlen : l.length ≤ 8000) (hsm : ∀ x ∈ l, Small x) (hn : Small n) :
    Calls Tryz.prog 99 #[stV t n A l.length c] w (TextP (st_checkE t n l) (txtR t n l) w) := by
  by_cases h : st_checkE t n l = 0
  · refine (text_yes t n A c l w hw hA (by omega) hsm hn h).mono ?_
    rintro e w' ⟨rfl, hB⟩
    unfold txtR; rw [if_pos h, h]
    exact ⟨rfl, hB⟩
  · refine (text_no t n A c l w hA (by omega) h).mono ?_
    rintro e w' ⟨rfl, hB⟩
    unfold txtR; rw [if_neg h]
    exact ⟨rfl, hB⟩
def wordV (t : Int) : Value := if t < 1 ∨ 5 < t then .tuple #[.string ⟨#[]⟩, .int .i64 8] else .tuple #[.string (st_wordB t.toNat), .int .i64 0]
theorem wordV_form (t : Int) : ∃ s r, wordV t = .tuple #[.string s, .int .i64 r] := by
  unfold wordV; split <;> exact ⟨_, _, rfl⟩
theorem emptyV_form (t : Int) : ∃ k r, emptyV t = .tuple #[.agg #[.int .i64 k, .int .i64 0, .slice none 0 0], .int .i64 r] := ⟨_, _, rfl⟩

theorem own_bytes {W : World} {base : Nat} {A : Option Addr} {c : Nat} {l : List Int} (h : W.ownsRow base 5 1 (.slice A l.length c) l.length (bytesOf l)) : BytesB W.heap.size W A l := by
  rcases h.2 with ⟨e1, e2⟩ | ⟨g, cap', cur, e1, _⟩
  · intro hl; omega
  · injection e1 with e3 e4 e5
    subst e3
    exact row_bytesB h
end Go.Proofs.YtpdbkjnaicjfdaaGreatDoor

namespace Go.Proofs.YtpdbkjnaicjfdaaGreatDoor
open Go.RowKit Go.Maps
set_option linter.unusedVariables false

theorem numAt_one {b : List Int} (ho : Octets b) (h : 1 ≤ b.length) : numAt b 0 1 = b[0]?.getD 0 := by
  unfold numAt
  cases b with
  | nil => simp at h
  | cons x r =>
    have := ho x (by simp)
    simp [unN]
    exact wrap64_id (by omega) (by omega)

end Go.Proofs.YtpdbkjnaicjfdaaGreatDoor

namespace Go.Proofs.YtpdbkjnaicjfdaaGreatDoor
open Go.RowKit Go.Maps
set_option linter.unusedVariables false

theorem part_step {s : ByteArray} {k : Nat} (h : k < s.size) (hb : s[k].toNat ≠ 32) : (partL (s.data.toList.drop k)).length = (partL (s.data.toList.drop (k + 1))).length + 1 := by
  have hk : k < s.data.toList.length := by rw [bytes_len]; exact h
  rw [List.drop_eq_getElem_cons hk]
  have e : s.data.toList[k] = s[k] := by
    have := byte_at s k h
    rw [List.getElem?_eq_getElem hk] at this
    exact Option.some.inj this
  rw [e]
  have hne : s[k] ≠ 32 := fun e => by rw [e] at hb; exact hb rfl
  have : partL (s[k] :: s.data.toList.drop (k + 1)) = s[k] :: partL (s.data.toList.drop (k + 1)) := by simp [partL, hne]
  rw [this, List.length_cons]
theorem part_stop {s : ByteArray} {k : Nat} (h : k < s.size) (hb : s[k].toNat = 32) : (partL (s.data.toList.drop k)).length = 0 := by
  have hk : k < s.data.toList.length := by rw [bytes_len]; exact h
  rw [List.drop_eq_getElem_cons hk]
  have e : s.data.toList[k] = s[k] := by
    have := byte_at s k h
    rw [List.getElem?_eq_getElem hk] at this
    exact Option.some.inj this
  have h32 : s[k] = 32 := UInt8.toNat_inj.1 hb
  rw [e, h32]; simp [partL]
theorem part_past {s : ByteArray} {k : Nat} (h : s.size ≤ k) : (partL (s.data.toList.drop k)).length = 0 := by
  rw [List.drop_of_length_le (by rw [bytes_len]; exact h)]; rfl

end Go.Proofs.YtpdbkjnaicjfdaaGreatDoor

namespace Go.Proofs.YtpdbkjnaicjfdaaGreatDoor
open Go.RowKit Go.Maps
set_option linter.unusedVariables false

def typeTo (p : List UInt8) : Nat → Nat
  | 0 => 0
  | k + 1 => if p = wordL (k + 1) then k + 1 else typeTo p k
theorem type_five (p : List UInt8) : typeTo p 5 = typeL p := by
  by_cases h1 : p = wordL 1
  · subst h1; rfl
  by_cases h2 : p = wordL 2
  · subst h2; rfl
  by_cases h3 : p = wordL 3
  · subst h3; rfl
  by_cases h4 : p = wordL 4
  · subst h4; rfl
  by_cases h5 : p = wordL 5
  · subst h5; rfl
  simp [typeTo, typeL, h1, h2, h3, h4, h5]
theorem typeTo_yes {p : List UInt8} {k : Nat} (h : p = wordL (k + 1)) : typeTo p (k + 1) = k + 1 := by unfold typeTo; rw [if_pos h]
theorem typeTo_no {p : List UInt8} {k : Nat} (h : p ≠ wordL (k + 1)) : typeTo p (k + 1) = typeTo p k := by
  conv => lhs; unfold typeTo
  rw [if_neg h]
theorem typeTo_le (p : List UInt8) : ∀ k, typeTo p k ≤ k
  | 0 => Nat.le_refl _
  | k + 1 => by
    unfold typeTo
    split
    · exact Nat.le_refl _
    · exact Nat.le_succ_of_le (typeTo_le p k)

/-- What ReadPost asks, in its ways. -/
theorem rd_zero {s : List UInt8} {E P : Int} {w w' : World} (h : readL s = (st_st0, E, P)) (hB : Below w.heap.size w w') : ReadPost (readL s) w (.returned (.tuple #[.agg #[.int .i64 0, .int .i64 0, .slice none 0 0], .agg #[.int .i64 E, .int .i64 P]])) w' := by
  rw [h]; exact ⟨none, 0, rfl, nil_row _ _, hB⟩

end Go.Proofs.YtpdbkjnaicjfdaaGreatDoor

namespace Go.Proofs.YtpdbkjnaicjfdaaGreatDoor
open Go.RowKit Go.Maps
set_option linter.unusedVariables false

set_option maxHeartbeats 1000000 in
theorem st_over_any (g c n lo : Nat) (xs : List Value) (w : World) (h : w.ownsRow lo 3 1 (.slice (some ⟨g, 0, none⟩) n c) n xs) (hn : n ≤ 1000) :
    Calls Tryz.prog 77 #[.slice (some ⟨g, 0, none⟩) n c] w fun e w' => e = .returned (.tuple #[]) ∧ w.grownBy w' (some g) := by
  have HO := Lib.hid h
  clear h
  go_enter Tryz.func77, Tryz.ntmps77
  go_wp2
  go_loopw [2] (fun i wr => ∃ (k : Nat) (ys : List Value), k ≤ n ∧ i = .int .i64 k ∧ wr.ownsRow lo 3 1 (.slice (some ⟨g, 0, none⟩) n c) n ys ∧ w.grownBy wr (some g)) (fun i wr => n - (intOf i).toNat)
  case atStart => exact ⟨0, xs, Nat.zero_le _, rfl, HO.out, World.grownBy.refl _ _⟩
  case round =>
    obtain ⟨k, ys, hk, rfl, hown, hg⟩ := hrel
    by_cases hlt : k < n
    · have q0 : (0 : Int) ≤ (k : Int) := by omega
      have q1 : (k : Int) < (n : Int) := by omega
      have q2 : decide (k < n) = true := decide_eq_true hlt
      have hlen : ys.length = n := by have := hown.1; omega
      have hcell := hown.cellAt k (by omega)
      rw [List.getElem?_eq_getElem (by omega)] at hcell
      have hfro := hown.frozenAt k
      have HST := Lib.hid (hown.stored k (.int .i64 (-77)))
      generalize ys[k] = y at hcell
      clear hown
      go_wp2
      exact ⟨⟨k + 1, _, by omega, by go_num, HST.out.1, hg.trans HST.out.2⟩, by simp [intOf]; omega⟩
    · have q2 : decide (k < n) = false := decide_eq_false hlt
      go_wp2
      go_end0
      exact ⟨rfl, hg⟩
theorem overst_any (t n : Int) (A : Option Addr) (c : Nat) (l : List Int) (base : Nat) (w : World) (ho : OwnInts base w (.slice A l.length c) l) (hl : l.length ≤ 1000) (hb : base ≤ w.heap.size) :
    Calls Tryz.prog 52 #[.agg #[.int .i64 t, .int .i64 n, .slice A l.length c]] w fun e w' => e = .returned (.tuple #[]) ∧ Below base w w' := by
  have hB0 := alloc1 w (.cells #[.int .i64 t, .int .i64 n, .slice A l.length c] 53)
  have ho1 := row_below ho hB0
  have hs1 := hB0.size
  have HOV : Calls Tryz.prog 77 #[.slice A l.length c] (w.alloc (.cells #[.int .i64 t, .int .i64 n, .slice A l.length c] 53)) fun e w' => e = .returned (.tuple #[]) ∧ Below base (w.alloc (.cells #[.int .i64 t, .int .i64 n, .slice A l.length c] 53)) w' := by
    rcases ho1.2 with ⟨e1, e2⟩ | ⟨g, cap', cur, e1, hg, _⟩
    · injection e1 with e3 e4 e5
      subst e3 e5
      generalize w.alloc (.cells #[.int .i64 t, .int .i64 n, .slice none l.length 0] 53) = W at *
      rw [e4]
      go_enter Tryz.func77, Tryz.ntmps77
      go_wp2
      go_loopw [2] (fun i wr => i = .int .i64 0 ∧ wr = W) (fun i wr => 0)
      case atStart => exact ⟨rfl, rfl⟩
      case round =>
        obtain ⟨rfl, rfl⟩ := hrel
        go_wp2
        go_end0
        exact ⟨rfl, Below.refl _ _⟩
    · injection e1 with e3 e4 e5
      subst e3
      refine (st_over_any g c l.length base _ _ ho1 hl).mono ?_
      rintro e w' ⟨rfl, hgr⟩
      exact ⟨rfl, (Below.refl base _).grown hgr (by omega) (fun k e => by obtain rfl : g = k := Option.some.inj e; exact hg)⟩
  clear ho ho1
  go_enter Tryz.func52, Tryz.ntmps52
  go_wp2_with fail
  refine HOV.mono ?_
  rintro e w1 ⟨rfl, hB1⟩
  go_wp2
  go_end0
  exact ⟨rfl, nxt (hB0.mono hb) hB1 (Nat.le_refl _)⟩

def decR (b : List Int) : st_St × Int := if decOk b = true then ((decT b, decN b, decL b), 0) else (st_st0, 5)
theorem decR_len (b : List Int) : (decR b).1.2.2.length ≤ b.length := by
  unfold decR; split
  · show (decL b).length ≤ _
    unfold decL; rw [decTo_len]; omega
  · simp [st_st0]
theorem dec_p {b : List Int} {w w' : World} {e : Ending} (h : DecPost b w e w') : ∃ A c, e = .returned (.tuple #[stV (decR b).1.1 (decR b).1.2.1 A (decR b).1.2.2.length c, .int .i64 (decR b).2]) ∧ OwnInts w.heap.size w' (.slice A (decR b).1.2.2.length c) (decR b).1.2.2 ∧ Below w.heap.size w w' := by
  unfold decR
  rcases h with ⟨hok, A, c, rfl, ho, hB⟩ | ⟨hno, rfl, hB⟩
  · rw [if_pos hok]; exact ⟨A, c, rfl, ho, hB⟩
  · rw [if_neg (by rw [hno]; decide)]; exact ⟨none, 0, rfl, nil_row _ _, hB⟩
theorem read_len2 {s : List UInt8} : 2 * (readL s).1.2.2.length ≤ s.length := by
  by_cases h1 : typeL (partL s) = 0
  · rw [read_none h1]; simp [st_st0]
  · by_cases h2 : (behindR s (partL s).length).2.1 = 0
    · cases h3 : (ofNums (typeL (partL s)) (behindR s (partL s).length).1).2
      · rw [read_no h1 h2 h3]; simp [st_st0]
      · rw [read_yes h1 h2 h3]
        have hb := beh_len (s.length + 1) (s.drop (partL s).length) (partL s).length []
        rw [List.length_drop] at hb
        simp only [List.length_nil] at hb
        unfold behindR
        generalize (behindL (s.length + 1) (s.drop (partL s).length) (partL s).length []).1 = L at *
        unfold ofNums
        split
        · split
          · simp
          · simp [st_st0]
        · simp; omega
    · rw [read_bad h1 h2]; simp [st_st0]

end Go.Proofs.YtpdbkjnaicjfdaaGreatDoor
