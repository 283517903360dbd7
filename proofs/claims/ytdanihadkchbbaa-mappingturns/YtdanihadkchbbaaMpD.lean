/- Contracts of the layer mapping: Find, Set, Drop, had, kinds. -/
import Derived.Test.YtdanihadkchbbaaMpB
import Derived.Test.YtdanihadkchbbaaMpC
namespace Go.Proofs.Ytdanihadkchbbaa
open Go.RowKit Go.Maps
set_option linter.unusedVariables false
set_option linter.unusedSimpArgs false

theorem RowPost.lift {m : List Int} {w w3 w' : World} {e : Ending} (h : RowPost m w3 e w') (hB : Below w.heap.size w w3) : RowPost m w e w' := by
  obtain ⟨A, c, rfl, ho, hB'⟩ := h
  exact ⟨A, c, rfl, row_more ho hB.size, nxt hB hB' hB.size⟩

def findV (l : List Int) (x : Int) : Value := .tuple #[.int .i64 (kval l x), .bool (khas l x)]
set_option maxHeartbeats 1000000 in
theorem mfind_any (A : Option Addr) (c : Nat) (l : List Int) (x : Int) (w : World) (hA : Ints w A l) (hlen : l.length ≤ 1000) (hc : l.length ≤ c) :
    Calls Try.prog 11 #[.slice A l.length c, .int .i64 x] w (Says (findV l x) w) := by
  have HC := cut_any A c l x w hA hlen hc
  unfold CutPost partsV at HC
  unfold findV
  generalize kval l x = v at *
  generalize khas l x = b at *
  generalize hn1 : (l.take (kat l x)).length = n1 at *
  generalize hn2 : (l.drop (kend l x)).length = n2 at *
  clear hn1 hn2
  go_enter Try.func11, Try.ntmps11
  go_wp2_with fail
  refine HC.mono ?_
  rintro e w1 ⟨A1, c1, A2, c2, rfl, -, -, hB⟩
  have hb := hB.alloc (o := .cells #[.slice A1 n1 c1, .slice A2 n2 c2, .int .i64 v, .bool b] 58) hB.size
  go_wp2_with fail
  go_quiet (fail)
  go_wp2
  refine bodyPost_ret (v := .tuple #[.int .i64 v, .bool b]) (by simp [results, Try.f11, go_sem]) rfl ?_
  exact ⟨rfl, below_drewN hb nq⟩

theorem parts_lit (w : World) (t : TypeId) (ps : List Part) (cs : Array Value) (h : cs = (ps.map fun p => Value.slice p.A p.l.length p.c).toArray) : ∀ j p, ps[j]? = some p → (w.alloc (.cells cs t)).cell? ⟨w.heap.size, j, none⟩ = some (.slice p.A p.l.length p.c) := by
  intro j p hj
  subst h
  rw [World.cell?_alloc_new]
  simp [hj]

theorem cat3 (l : List Int) (x v : Int) (A1 B A2 : Option Addr) (c1 c c2 : Nat) : catP [⟨A1, c1, l.take (kat l x)⟩, ⟨B, c, [x, v]⟩, ⟨A2, c2, l.drop (kend l x)⟩] = setM l x v := by
  rw [set_parts]; simp [catP]
theorem cat2 (l : List Int) (x : Int) (A1 A2 : Option Addr) (c1 c2 : Nat) : catP [⟨A1, c1, l.take (kat l x)⟩, ⟨A2, c2, l.drop (kend l x)⟩] = dropM l x := by
  rw [drop_parts]; simp [catP]

set_option maxHeartbeats 1000000 in
theorem mset_any (A : Option Addr) (c : Nat) (l : List Int) (x v : Int) (w : World) (hA : Ints w A l) (hlen : l.length ≤ 1000) (hc : l.length ≤ c) :
    Calls Try.prog 13 #[.slice A l.length c, .int .i64 x, .int .i64 v] w (RowPost (setM l x v) w) := by
  have HC := cut_any A c l x w hA hlen hc
  unfold CutPost partsV at HC
  have HS := Lib.hid (cat3 l x v)
  have hl := set_len_le l x v
  have hm1b : (l.take (kat l x)).length ≤ 1000 := by rw [List.length_take]; omega
  have hm2b : (l.drop (kend l x)).length ≤ 1000 := by rw [List.length_drop]; omega
  generalize hm1 : l.take (kat l x) = m1 at *
  generalize hm2 : l.drop (kend l x) = m2 at *
  generalize kval l x = u at *
  generalize khas l x = b at *
  clear hm1 hm2
  go_enter Try.func13, Try.ntmps13
  go_wp2_with fail
  refine HC.mono ?_
  rintro e w1 ⟨A1, c1, A2, c2, rfl, h1, h2, hB⟩
  have hB2 : Below w.heap.size w (((w1.alloc (.cells #[.slice A1 m1.length c1, .slice A2 m2.length c2, .int .i64 u, .bool b] 58)).alloc (.cells #[.int .i64 x, .int .i64 v] 3)).alloc (.cells #[.slice A1 m1.length c1, .slice (some ⟨w1.heap.size + 1, 0, none⟩) 2 2, .slice A2 m2.length c2] 22)) := gro_alloc (gro_alloc (gro_alloc hB _) _) _
  have hl2 := ints_lit (w1.alloc (.cells #[.slice A1 m1.length c1, .slice A2 m2.length c2, .int .i64 u, .bool b] 58)) [x, v] 3 _ rfl
  have HI1 := Lib.hid (h1.below hB2)
  have HI2 := Lib.hid (h2.below hB2)
  have HI3 := Lib.hid (hl2.below ((Below.refl _ _).alloc (Nat.le_refl _) (.cells #[.slice A1 m1.length c1, .slice (some ⟨w1.heap.size + 1, 0, none⟩) 2 2, .slice A2 m2.length c2] 22)))
  have HP := Lib.hid (parts_lit ((w1.alloc (.cells #[.slice A1 m1.length c1, .slice A2 m2.length c2, .int .i64 u, .bool b] 58)).alloc (.cells #[.int .i64 x, .int .i64 v] 3)) 22 [⟨A1, c1, m1⟩, ⟨some ⟨w1.heap.size + 1, 0, none⟩, 2, [x, v]⟩, ⟨A2, c2, m2⟩] _ rfl)
  rw [World.size_alloc, World.size_alloc] at HP
  rw [World.size_alloc] at HI3
  clear h1 h2 hl2
  go_wp2_with fail
  refine (concat_any (w1.heap.size + 1 + 1) 3 [⟨A1, c1, m1⟩, ⟨some ⟨w1.heap.size + 1, 0, none⟩, 2, [x, v]⟩, ⟨A2, c2, m2⟩] _ (by simp) (by simp) (by simp [sumP]; omega) HP.out (fun p hp => ?_)).mono ?_
  · simp only [List.mem_cons, List.not_mem_nil, or_false] at hp
    rcases hp with rfl | rfl | rfl
    · exact HI1.out
    · exact HI3.out
    · exact HI2.out
  · rw [HS.out]
    rintro e w2 ⟨g, cap, rfl, ho, hB3⟩
    go_wp2
    go_ret
    exact RowPost.lift ⟨g, cap, rfl, ho, hB3⟩ hB2

set_option maxHeartbeats 1000000 in
theorem mdrop_any (A : Option Addr) (c : Nat) (l : List Int) (x : Int) (w : World) (hA : Ints w A l) (hlen : l.length ≤ 1000) (hc : l.length ≤ c) :
    Calls Try.prog 14 #[.slice A l.length c, .int .i64 x] w (RowPost (dropM l x) w) := by
  have HC := cut_any A c l x w hA hlen hc
  unfold CutPost partsV at HC
  have HS := Lib.hid (cat2 l x)
  have hl := drop_len_le l x
  have hm1b : (l.take (kat l x)).length ≤ 1000 := by rw [List.length_take]; omega
  have hm2b : (l.drop (kend l x)).length ≤ 1000 := by rw [List.length_drop]; omega
  generalize hm1 : l.take (kat l x) = m1 at *
  generalize hm2 : l.drop (kend l x) = m2 at *
  generalize kval l x = u at *
  generalize khas l x = b at *
  clear hm1 hm2
  go_enter Try.func14, Try.ntmps14
  go_wp2_with fail
  refine HC.mono ?_
  rintro e w1 ⟨A1, c1, A2, c2, rfl, h1, h2, hB⟩
  have hB2 : Below w.heap.size w ((w1.alloc (.cells #[.slice A1 m1.length c1, .slice A2 m2.length c2, .int .i64 u, .bool b] 58)).alloc (.cells #[.slice A1 m1.length c1, .slice A2 m2.length c2] 22)) := gro_alloc (gro_alloc hB _) _
  have HI1 := Lib.hid (h1.below hB2)
  have HI2 := Lib.hid (h2.below hB2)
  have HP := Lib.hid (parts_lit (w1.alloc (.cells #[.slice A1 m1.length c1, .slice A2 m2.length c2, .int .i64 u, .bool b] 58)) 22 [⟨A1, c1, m1⟩, ⟨A2, c2, m2⟩] _ rfl)
  rw [World.size_alloc] at HP
  clear h1 h2
  go_wp2_with fail
  refine (concat_any (w1.heap.size + 1) 2 [⟨A1, c1, m1⟩, ⟨A2, c2, m2⟩] _ (by simp) (by simp) (by simp [sumP]; omega) HP.out (fun p hp => ?_)).mono ?_
  · simp only [List.mem_cons, List.not_mem_nil, or_false] at hp
    rcases hp with rfl | rfl
    · exact HI1.out
    · exact HI2.out
  · rw [HS.out]
    rintro e w2 ⟨g, cap, rfl, ho, hB3⟩
    go_wp2
    go_ret
    exact RowPost.lift ⟨g, cap, rfl, ho, hB3⟩ hB2

set_option maxHeartbeats 1000000 in
theorem mget_any (A : Option Addr) (c : Nat) (l : List Int) (x v : Int) (w : World) (hA : Ints w A l) (hlen : l.length ≤ 1000) :
    Calls Try.prog 51 #[.slice A l.length c, .int .i64 x, .int .i64 v] w (RowPost l w) := by
  have hB2 : Below w.heap.size w (w.alloc (.cells #[.slice A l.length c] 22)) := alloc1 w _
  have HI1 := Lib.hid (hA.below hB2)
  have HP := Lib.hid (parts_lit w 22 [⟨A, c, l⟩] _ rfl)
  have HS : Hid (catP [⟨A, c, l⟩] = l) := Lib.hid (by simp [catP])
  clear hA
  go_enter Try.func51, Try.ntmps51
  go_wp2_with fail
  refine (concat_any w.heap.size 1 [⟨A, c, l⟩] _ (by simp) (by simp) (by simp [sumP]; omega) HP.out (fun p hp => ?_)).mono ?_
  · simp only [List.mem_cons, List.not_mem_nil, or_false] at hp
    subst hp
    exact HI1.out
  · rw [HS.out]
    rintro e w2 ⟨g, cap, rfl, ho, hB3⟩
    go_wp2
    go_ret
    exact RowPost.lift ⟨g, cap, rfl, ho, hB3⟩ hB2

set_option maxHeartbeats 1000000 in
theorem mdel_any (A : Option Addr) (c : Nat) (l : List Int) (x v : Int) (w : World) (hA : Ints w A l) (hlen : l.length ≤ 1000) (hc : l.length ≤ c) :
    Calls Try.prog 52 #[.slice A l.length c, .int .i64 x, .int .i64 v] w (RowPost (dropM l x) w) := by
  have HD := mdrop_any A c l x w hA hlen hc
  unfold RowPost at *
  go_enter Try.func52, Try.ntmps52
  go_wp2_with fail
  refine HD.mono ?_
  rintro e w2 ⟨g, cap, rfl, ho, hB3⟩
  go_wp2
  go_ret
  exact ⟨g, cap, rfl, ho, hB3⟩

/-- What a key had, as it is returned: its kind and its number. -/
def hadK (l : List Int) (x : Int) : Int := if khas l x = true then 2 else 1
theorem had_yes {l : List Int} {x : Int} (h : khas l x = true) : hadK l x = 2 := by unfold hadK; rw [if_pos h]
theorem had_no {l : List Int} {x : Int} (h : khas l x = false) : hadK l x = 1 ∧ kval l x = 0 := by
  refine ⟨by unfold hadK; rw [if_neg (by rw [h]; decide)], ?_⟩
  unfold khas at h; unfold kval
  cases hk : kget l x with
  | none => rfl
  | some u => rw [hk] at h; cases h

set_option maxHeartbeats 1000000 in
theorem had_any (A : Option Addr) (c : Nat) (l : List Int) (x : Int) (w : World) (hA : Ints w A l) (hlen : l.length ≤ 1000) (hc : l.length ≤ c) :
    Calls Try.prog 47 #[.slice A l.length c, .int .i64 x] w (Says (retV (hadK l x) (kval l x)) w) := by
  have HF := mfind_any A c l x _ (hA.below (alloc1 w (.cells #[.int .i64 0, .int .i64 0] 38))) hlen hc
  unfold findV at HF
  unfold retV
  have HR := Lib.hid (Holds.new w 38 #[.int .i64 0, .int .i64 0])
  have hB0 := alloc1 w (.cells #[.int .i64 0, .int .i64 0] 38)
  have hsz : w.heap.size < (w.alloc (.cells #[.int .i64 0, .int .i64 0] 38)).heap.size := by simp
  cases hb : khas l x with
  | true =>
    rw [hb] at HF
    have HK := Lib.hid (had_yes hb)
    generalize hadK l x = hk at *
    generalize kval l x = v at *
    clear hb hA
    go_enter Try.func47, Try.ntmps47
    go_wp2_with fail
    refine HF.mono ?_
    rintro e w1 ⟨rfl, hB1⟩
    have HR1 := HR.out.below hB1 hsz
    have r0 := HR1.c (j := 0) rfl
    have r1 := HR1.c (j := 1) rfl
    have f0 := HR1.frozen 0
    have f1 := HR1.frozen 1
    have hBw := nxt hB0 hB1 (by omega)
    have HR2 := Lib.hid ((HR1.set 0 (.int .i64 2)).set 1 (.int .i64 v))
    have hB2 := (hBw.setCell (p := ⟨w.heap.size, 0, none⟩) (Nat.le_refl _) (.int .i64 2)).setCell (p := ⟨w.heap.size, 1, none⟩) (Nat.le_refl _) (.int .i64 v)
    go_wp2
    have k0 := HR2.out.c (j := 0) rfl
    have k1 := HR2.out.c (j := 1) rfl
    rw [HK.out]
    generalize (w1.setCell ⟨w.heap.size, 0, none⟩ (.int .i64 2)).setCell ⟨w.heap.size, 1, none⟩ (.int .i64 v) = W2 at *
    refine bodyPost_ret (v := .agg #[.int .i64 2, .int .i64 v]) (by simp [results, Try.f47, go_sem, k0, k1]) rfl ?_
    exact ⟨rfl, hB2⟩
  | false =>
    rw [hb] at HF
    obtain ⟨hk1, hk2⟩ := had_no hb
    have HK := Lib.hid hk1
    rw [hk2] at HF ⊢
    generalize hadK l x = hk at *
    clear hb hA hk1 hk2
    go_enter Try.func47, Try.ntmps47
    go_wp2_with fail
    refine HF.mono ?_
    rintro e w1 ⟨rfl, hB1⟩
    have HR1 := HR.out.below hB1 hsz
    have r0 := HR1.c (j := 0) rfl
    have r1 := HR1.c (j := 1) rfl
    have f0 := HR1.frozen 0
    have f1 := HR1.frozen 1
    have hBw := nxt hB0 hB1 (by omega)
    have HR2 := Lib.hid ((HR1.set 0 (.int .i64 1)).set 1 (.int .i64 0))
    have hB2 := (hBw.setCell (p := ⟨w.heap.size, 0, none⟩) (Nat.le_refl _) (.int .i64 1)).setCell (p := ⟨w.heap.size, 1, none⟩) (Nat.le_refl _) (.int .i64 0)
    go_wp2
    have k0 := HR2.out.c (j := 0) rfl
    have k1 := HR2.out.c (j := 1) rfl
    rw [HK.out]
    generalize (w1.setCell ⟨w.heap.size, 0, none⟩ (.int .i64 1)).setCell ⟨w.heap.size, 1, none⟩ (.int .i64 0) = W2 at *
    refine bodyPost_ret (v := .agg #[.int .i64 1, .int .i64 0]) (by simp [results, Try.f47, go_sem, k0, k1]) rfl ?_
    exact ⟨rfl, hB2⟩

def kindsV : Value := .agg #[.nilFunc, .nilFunc, .nilFunc, .nilFunc, .nilFunc, .nilFunc, .nilFunc, .func (.func 13) #[] #[], .func (.func 51) #[] #[], .func (.func 52) #[] #[]]
set_option maxHeartbeats 1000000 in
theorem kinds_any (w : World) : Calls Try.prog 46 #[] w (Says kindsV w) := by
  go_enter Try.func46, Try.ntmps46
  go_wp2
  refine bodyPost_ret (v := kindsV) (by simp [results, Try.f46, go_sem, kindsV]) rfl ?_
  exact ⟨rfl, alloc1 w _⟩
end Go.Proofs.Ytdanihadkchbbaa
