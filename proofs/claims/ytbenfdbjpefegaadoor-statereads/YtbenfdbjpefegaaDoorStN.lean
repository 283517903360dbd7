/- The law's own helpers: some, tells, reads, fails; awake. -/
import Derived.Test.YtbenfdbjpefegaaDoorStM
import Derived.Test.YtbenfdbjpefegaaDoorStJ
namespace Go.Proofs.YtbenfdbjpefegaaDoor
open Go.RowKit Go.Maps
set_option linter.unusedVariables false

theorem ints_lit (w : World) (l : List Int) (t : TypeId) (cs : Array Value) (h : cs = (l.map (Value.int .i64)).toArray) : Ints (w.alloc (.cells cs t)) (some ⟨w.heap.size, 0, none⟩) l := by
  subst h
  intro hl
  refine ⟨w.heap.size, 0, rfl, by simp, fun j hj => ?_⟩
  rw [Nat.zero_add, World.cell?_alloc_new]
  simp [List.getElem?_eq_getElem hj]

theorem some_any (t : Int) (A : Option Addr) (k c : Nat) (w : World) : Calls Tryd.prog 34 #[.int .i64 t, .slice A k c] w (Says (.agg #[.int .i64 t, .int .i64 0, .slice A k c]) w) := by
  go_enter Tryd.func34, Tryd.ntmps34
  go_wp2
  refine bodyPost_ret (v := .agg #[.int .i64 t, .int .i64 0, .slice A k c]) (by simp [results, Tryd.f34, go_sem]) rfl ?_
  exact ⟨rfl, alloc1 w _⟩

set_option maxHeartbeats 1000000 in
theorem tells_yes (t n : Int) (A : Option Addr) (c k : Nat) (l : List Int) (s : ByteArray) (w : World) (hw : Wds w) (hk : k = l.length) (hA : Ints w A l) (hlen : l.length ≤ 200) (hsm : ∀ x ∈ l, Small x) (hn : Small n) (h : checkE t n l = 0) (hs : s = ⟨(txtL t n l).toArray⟩) :
    Calls Tryd.prog 33 #[.agg #[.int .i64 t, .int .i64 n, .slice A k c], .string s, .int .i64 0] w (Yes w) := by
  subst hk
  have hB0 := alloc1 w (.cells #[.int .i64 t, .int .i64 n, .slice A l.length c] 24)
  have H := text_yes t n A c l _ (hw.on hB0) (hA.below hB0) hlen hsm hn h
  unfold TextYes stV at H
  rw [← hs] at H
  have hb : (s.toList == s.toList) = true := by simp
  clear hs h
  go_enter Tryd.func33, Tryd.ntmps33
  go_wp2_with fail
  refine H.mono ?_
  rintro e w1 ⟨rfl, hB1⟩
  go_wp2
  go_ret
  exact ⟨rfl, nxt hB0 hB1 (by simp)⟩

set_option maxHeartbeats 1000000 in
theorem reads_yes (s : ByteArray) (t n : Int) (A : Option Addr) (c k : Nat) (l : List Int) (w : World) (hw : Wds w) (hk : k = l.length) (hA : Ints w A l) (hlen : l.length ≤ 1000) (hs : s.size ≤ 2000) (hr : readL s.data.toList = ((t, n, l), 0, 0)) :
    Calls Tryd.prog 36 #[.string s, .agg #[.int .i64 t, .int .i64 n, .slice A k c]] w (Yes w) := by
  subst hk
  have hB0 := alloc1 w (.cells #[.int .i64 t, .int .i64 n, .slice A l.length c] 24)
  have H := read_any s _ (hw.on hB0) hs
  rw [hr] at H
  have HX := Lib.hid (Holds.new w 24 #[.int .i64 t, .int .i64 n, .slice A l.length c])
  have HA := Lib.hid (hA.below hB0)
  have hsm : sameB t n l t n l = true := same_iff.2 ⟨rfl, rfl, rfl⟩
  clear hr hA hw
  go_enter Tryd.func36, Tryd.ntmps36
  go_wp2_with fail
  refine H.mono ?_
  rintro e w1 ⟨A1, c1, rfl, ho1, hB1⟩
  unfold stV
  dsimp only at ho1 ⊢
  have hB2 : Below w1.heap.size w1 ((w1.alloc (.cells #[.int .i64 t, .int .i64 n, .slice A1 l.length c1] 24)).alloc (.cells #[.int .i64 0, .int .i64 0] 44)) := (alloc1 w1 _).alloc (by simp) _
  have hi1 := (own_ints rfl ho1).below hB2
  have hs1 := hB1.size
  have hi2 := (HA.out.below hB1).below hB2
  have H2 := samest_any t n t n A1 A c1 c l l _ hi1 hi2 hlen
  rw [hsm] at H2
  unfold stV at H2
  have hl0 : w.heap.size < (w.alloc (.cells #[.int .i64 t, .int .i64 n, .slice A l.length c] 24)).heap.size := by simp
  have HX1 := Lib.hid (HX.out.below hB1 hl0)
  have x0 := HX1.out.c (j := 0) rfl
  have x1 := HX1.out.c (j := 1) rfl
  have x2 := HX1.out.c (j := 2) rfl
  have hlt : w.heap.size < w1.heap.size := HX1.out.lt
  have hBw := nxt hB0 hB1 (by omega)
  clear hi1 hi2 ho1
  go_wp2_with fail
  refine H2.mono ?_
  rintro e w3 ⟨rfl, hB3⟩
  go_wp2
  go_ret
  exact ⟨rfl, nxt (nxt hBw hB2 (by omega)) hB3 (by simp; omega)⟩

set_option maxHeartbeats 1000000 in
theorem fails_yes (s : ByteArray) (e0 p0 : Int) (w : World) (hw : Wds w) (hs : s.size ≤ 2000) (hr : readL s.data.toList = (st0, e0, p0)) :
    Calls Tryd.prog 35 #[.string s, .int .i64 e0, .int .i64 p0] w (Yes w) := by
  have H := read_any s w hw hs
  rw [hr] at H
  have hsm : sameB 0 0 [] 0 0 [] = true := rfl
  clear hr hw
  go_enter Tryd.func35, Tryd.ntmps35
  go_wp2_with fail
  refine H.mono ?_
  rintro e w1 ⟨A1, c1, rfl, ho1, hB1⟩
  unfold stV
  dsimp only [st0, List.length_nil] at ho1 ⊢
  have hB2 : Below w1.heap.size w1 ((w1.alloc (.cells #[.int .i64 0, .int .i64 0, .slice A1 0 c1] 24)).alloc (.cells #[.int .i64 e0, .int .i64 p0] 44)) := (alloc1 w1 _).alloc (by simp) _
  have H2 := samest_any 0 0 0 0 A1 none c1 0 [] [] ((w1.alloc (.cells #[.int .i64 0, .int .i64 0, .slice A1 0 c1] 24)).alloc (.cells #[.int .i64 e0, .int .i64 p0] 44)) (fun h => by simp at h) (fun h => by simp at h) (by simp)
  rw [hsm] at H2
  unfold stV at H2
  have hbe : (e0 == e0) = true := by simp
  have hbp : (p0 == p0) = true := by simp
  have hs1 := hB1.size
  clear ho1
  go_wp2_with fail
  refine H2.mono ?_
  rintro e w3 ⟨rfl, hB3⟩
  go_wp2
  go_ret
  exact ⟨rfl, nxt (nxt hB1 hB2 (by omega)) hB3 (by simp; omega)⟩

theorem str_list (l : List Int) : (strOfNums l).toList = l.map fun n => UInt8.ofNat n.toNat := by
  rw [Go.ByteArray.toList_eq]; simp [strOfNums]
theorem u8_back {x : Int} (h : 0 ≤ x ∧ x ≤ 255) : ((UInt8.ofNat x.toNat).toNat : Int) = x := by
  rw [UInt8.toNat_ofNat']; omega
theorem list_back {l : List Int} (h : Octets l) : (l.map fun n => UInt8.ofNat n.toNat).map (fun b => (b.toNat : Int)) = l := by
  rw [List.map_map]
  refine Eq.trans (List.map_congr_left (g := id) fun x hx => ?_) (List.map_id l)
  exact u8_back (h x hx)
theorem same_strs {l m : List Int} (hl : Octets l) (hm : Octets m) : ((strOfNums l).toList == (strOfNums m).toList) = (l == m) := by
  rw [str_list, str_list]
  by_cases h : l = m
  · subst h; simp
  · have h2 : (l.map fun n => UInt8.ofNat n.toNat) ≠ (m.map fun n => UInt8.ofNat n.toNat) := fun e => h (by rw [← list_back hl, ← list_back hm, e])
    rw [beq_eq_false_iff_ne.2 h, beq_eq_false_iff_ne.2 h2]
theorem samebytes_any (A B : Option Addr) (c d : Nat) (l m : List Int) (w : World) (n1 n2 : Nat) (hA : BytesB n1 w A l) (hB : BytesB n2 w B m) (hl : Octets l) (hm : Octets m) :
    Calls Tryd.prog 19 #[.slice A l.length c, .slice B m.length d] w (Says (.bool (l == m)) w) := by
  have cv1 := conv_any (c := c) hA
  have cv2 := conv_any (c := d) hB
  have hq := same_strs hl hm
  generalize strOfNums l = s1 at *
  generalize strOfNums m = s2 at *
  clear hA hB
  go_enter Tryd.func19, Tryd.ntmps19
  go_wp2
  go_ret
  exact ⟨rfl, Below.refl _ _⟩
theorem row_bytesB {W : World} {base g cap : Nat} {l : List Int} (h : W.ownsRow base 5 1 (.slice (some ⟨g, 0, none⟩) l.length cap) l.length (bytesOf l)) : BytesB W.heap.size W (some ⟨g, 0, none⟩) l := by
  have := bytes_row h 0 l.length (by omega)
  simpa using this

theorem enc_octets (t n : Int) (l : List Int) : Octets (encL t n l) := by
  have hb : ∀ s n, Octets (be s n) := fun s n x hx => by
    unfold be at hx
    obtain ⟨k, _, rfl⟩ := List.mem_map.1 hx
    unfold beB
    omega
  intro x hx
  unfold encL at hx
  rw [List.mem_append, List.mem_append, List.mem_append, List.mem_flatMap] at hx
  rcases hx with ((h | h) | h) | ⟨y, _, h⟩
  all_goals exact hb _ _ x h

set_option maxRecDepth 100000 in
set_option maxHeartbeats 1000000 in
theorem awake_any (w : World) (hw : Wds w) : Calls Tryd.prog 9 #[] w (Yes w) := by
  have H1 : Calls Tryd.prog 11 #[.agg #[.int .i64 1, .int .i64 (-1), .slice none 0 0]] w (EncYes (encL 1 (-1) []) w) := enc_yes 1 (-1) none 0 [] w (fun h => by simp at h) (by simp) (by decide)
  have e1 : encL 1 (-1) [] = [1, 255, 255, 255, 255, 255, 255, 255, 255, 0, 0, 0, 0] := by decide
  rw [e1] at H1
  have HWD := Lib.hid hw
  clear e1 hw
  go_enter Tryd.func9, Tryd.ntmps9
  go_wp2_with fail
  refine H1.mono ?_
  rintro e w1 ⟨g1, c1, rfl, hr1, hB1⟩
  have hb1 := row_bytesB hr1
  dsimp only [List.length_cons, List.length_nil] at hb1 ⊢
  have hs1 := hB1.size
  have hB2 := alloc1 w1 (.cells #[.int .u8 1, .int .u8 255, .int .u8 255, .int .u8 255, .int .u8 255, .int .u8 255, .int .u8 255, .int .u8 255, .int .u8 255, .int .u8 0, .int .u8 0, .int .u8 0, .int .u8 0] 5)
  have hb2 := (bytes_new w1 [1, 255, 255, 255, 255, 255, 255, 255, 255, 0, 0, 0, 0] 5 #[.int .u8 1, .int .u8 255, .int .u8 255, .int .u8 255, .int .u8 255, .int .u8 255, .int .u8 255, .int .u8 255, .int .u8 255, .int .u8 0, .int .u8 0, .int .u8 0, .int .u8 0] (0, 0) rfl).b
  have hoc : Octets [1, 255, 255, 255, 255, 255, 255, 255, 255, 0, 0, 0, 0] := by unfold Octets; decide
  have H2 : Calls Tryd.prog 19 #[.slice (some ⟨g1, 0, none⟩) 13 c1, .slice (some ⟨w1.heap.size, 0, none⟩) 13 13] (w1.alloc (.cells #[.int .u8 1, .int .u8 255, .int .u8 255, .int .u8 255, .int .u8 255, .int .u8 255, .int .u8 255, .int .u8 255, .int .u8 255, .int .u8 0, .int .u8 0, .int .u8 0, .int .u8 0] 5)) (Says (.bool true) _) := samebytes_any (some ⟨g1, 0, none⟩) (some ⟨w1.heap.size, 0, none⟩) c1 13 [1, 255, 255, 255, 255, 255, 255, 255, 255, 0, 0, 0, 0] [1, 255, 255, 255, 255, 255, 255, 255, 255, 0, 0, 0, 0] _ _ _ (hb1.below hB2) hb2 hoc hoc
  have HWD1 := Lib.hid (HWD.out.on hB1)
  clear hr1 hb1 hb2
  go_wp2_with fail
  refine H2.mono ?_
  rintro e w2 ⟨rfl, hB2'⟩
  have hB12 := nxt hB2 hB2' hB2.size
  have hs2 := hB12.size
  have HWD2 := Lib.hid (HWD1.out.on hB12)
  have hBw2 := nxt hB1 hB12 hs1
  clear H2 hB2 hB2' hB12
  go_wp2_with fail
  refine (some_any 2 (some ⟨w2.heap.size, 0, none⟩) 2 2 _).mono ?_
  rintro e w3 ⟨rfl, hB3⟩
  have hB3' := nxt (alloc1 w2 (.cells #[.int .i64 (-5), .int .i64 3] 3)) hB3 (by simp)
  have hi3 := (ints_lit w2 [-5, 3] 3 #[.int .i64 (-5), .int .i64 3] rfl).below hB3
  have HWD3 := Lib.hid (HWD2.out.on hB3')
  have hBw3 := nxt hBw2 hB3' hBw2.size
  have hs3 := hBw3.size
  have H4 := tells_yes 2 0 (some ⟨w2.heap.size, 0, none⟩) 2 2 [-5, 3] ⟨#[115, 101, 116, 32, 45, 53, 32, 51]⟩ w3 HWD3.out rfl hi3 (by simp) (by unfold Small; decide) (by unfold Small; decide) (by decide) (by rfl)
  clear hi3 hB3 hB3'
  go_wp2_with fail
  refine H4.mono ?_
  rintro e w4 ⟨rfl, hB4⟩
  have HWD4 := Lib.hid (HWD3.out.on hB4)
  have hBw4 := nxt hBw3 hB4 hs3
  have hs4 := hBw4.size
  clear H4 hB4
  go_wp2_with fail
  refine (some_any 3 (some ⟨w4.heap.size, 0, none⟩) 4 4 _).mono ?_
  rintro e w5 ⟨rfl, hB5⟩
  have hB5' := nxt (alloc1 w4 (.cells #[.int .i64 1, .int .i64 10, .int .i64 2, .int .i64 20] 3)) hB5 (by simp)
  have hi5 := (ints_lit w4 [1, 10, 2, 20] 3 #[.int .i64 1, .int .i64 10, .int .i64 2, .int .i64 20] rfl).below hB5
  have hBw5 := nxt hBw4 hB5' hBw4.size
  have hs5 := hBw5.size
  have H6 := reads_yes ⟨#[109, 97, 112, 32, 49, 32, 49, 48, 32, 50, 32, 50, 48]⟩ 3 0 (some ⟨w4.heap.size, 0, none⟩) 4 4 [1, 10, 2, 20] w5 (HWD4.out.on hB5') rfl hi5 (by simp) (by decide) (by rfl)
  clear hi5 hB5 hB5'
  go_wp2_with fail
  refine H6.mono ?_
  rintro e w6 ⟨rfl, hB6⟩
  go_wp2
  go_ret
  exact ⟨rfl, nxt hBw5 hB6 hs5⟩
end Go.Proofs.YtbenfdbjpefegaaDoor
