/- The examples: one, fails, awake. -/
import Derived.Test.YtpdbkjnaicjfdaaGreatDoorGrN
import Derived.Test.YtpdbkjnaicjfdaaGreatDoorGrH
import Derived.Test.YtpdbkjnaicjfdaaGreatDoorGrPt
namespace Go.Proofs.YtpdbkjnaicjfdaaGreatDoor
open Go.RowKit Go.Maps
set_option linter.unusedVariables false
set_option maxRecDepth 100000

theorem parse_small (A : Option Addr) (c : Nat) (bs : List Int) (w : World) (hA : Bytes w A bs) (ho : Octets bs) (hc : bs.length ≤ c) (hm : bs.length ≤ 7000) (hw : Wds w) (hk : KWds w) :
    Calls Tryz.prog 37 #[.slice A bs.length c] w (ParsePost (parseX bs) w) :=
  parse_any A c bs w hA ho hc (by omega) (text_fine' hm) hw hk
theorem below_str (w : World) (s : ByteArray) : Below w.heap.size w (Lib.bytesWorld w 5 s) := below_bytes (Below.refl _ w) (Nat.le_refl _) s
theorem parse_str (s : ByteArray) (w : World) (hs : s.size ≤ 7000) (hw : Wds w) (hk : KWds w) :
    Calls Tryz.prog 37 #[.slice (some ⟨w.heap.size, 0, none⟩) s.size (grownCap w s.size 0 5)] (Lib.bytesWorld w 5 s) (ParsePost (parseX (nums s)) (Lib.bytesWorld w 5 s)) := by
  have h := parse_small (some ⟨w.heap.size, 0, none⟩) (grownCap w s.size 0 5) (nums s) (Lib.bytesWorld w 5 s) (bytes_of_str w s) (nums_octets s) (by rw [nums_len]; exact grownCap_ge _ _ _ _) (by rw [nums_len]; exact hs) (hw.on (below_str w s)) (hk.on (below_str w s))
  rwa [nums_len] at h

set_option maxHeartbeats 1000000 in
theorem fails_yes (s : ByteArray) (er p : Int) (w : World) (hs : s.size ≤ 7000) (h : parseX (nums s) = .error (er, p)) (hw : Wds w) (hk : KWds w) :
    Calls Tryz.prog 56 #[.string s, .int .i64 er, .int .i64 p] w (Yes w) := by
  have hcv := fun (W : World) (s : ByteArray) => Lib.run_convert_string_bytes (P := Tryz.prog) W 9 78 5 s Tryz.underlying9 Tryz.underlying78 Tryz.underlying5
  have HP := parse_str s w hs hw hk
  unfold ParsePost at HP
  rw [h] at HP
  have hB0 := below_str w s
  have k1 : (p == p) = true := by simp
  have k2 : (er == er) = true := by simp
  clear h hw hk hs
  go_enter Tryz.func56, Tryz.ntmps56
  go_wp2_with fail
  refine HP.mono ?_
  rintro e w1 ⟨rfl, hB1⟩
  go_wp2
  go_ret
  exact ⟨rfl, (nxt hB0 hB1 hB0.size).alloc (Nat.le_trans hB0.size hB1.size) _⟩

/-! ### The chapter's history -/

def oneS : ByteArray := ⟨#[111, 98, 106, 101, 99, 116, 32, 97, 32, 115, 101, 116, 32, 49, 32, 50, 10, 98, 101, 103, 105, 110, 32, 116, 10, 111, 112, 32, 116, 32, 97, 32, 105, 110, 115, 101, 114, 116, 32, 53, 32, 45, 62, 32, 49, 10, 99, 111, 109, 109, 105, 116, 32, 116, 10]⟩
def aB : ByteArray := ⟨#[97]⟩
def tB : ByteArray := ⟨#[116]⟩
def oneE : List Ev := [⟨1, aB, emB, op0, 2, 0, [1, 2]⟩, ⟨2, tB, emB, op0, stz⟩, ⟨3, tB, aB, (3, 5, 0, 2, 1), stz⟩, ⟨4, tB, emB, op0, stz⟩]
def oneZ (b : Nat) : List EvZ := [(⟨1, aB, emB, op0, 2, 0, [1, 2]⟩, some ⟨b, 0, none⟩, 2), (⟨2, tB, emB, op0, stz⟩, none, 0), (⟨3, tB, aB, (3, 5, 0, 2, 1), stz⟩, none, 0), (⟨4, tB, emB, op0, stz⟩, none, 0)]
theorem oneZ_fst (b : Nat) : (oneZ b).map Prod.fst = oneE := rfl
theorem one_parse : parseX (nums oneS) = .ok oneE := by kernel_rfl
theorem one_prE : prE oneE = 0 := by decide +kernel
theorem one_prS : prS oneE = oneS := by decide +kernel
theorem abort_parse : parseX (nums ⟨#[97, 98, 111, 114, 116]⟩) = .error (5, 5) := by kernel_rfl

def OnePost (w : World) (e : Ending) (w' : World) : Prop := ∃ A c b, e = .returned (.tuple #[.string oneS, .slice A (oneZ b).length c]) ∧ ReadEvs w'.heap.size w' A (oneZ b) ∧ ReadNums w' (oneZ b) ∧ Below w.heap.size w w'

theorem holds_cell {W : World} {B : Nat} {t : TypeId} {cs : Array Value} (h : Holds W B t cs) (j : Nat) : W.cell? ⟨B, j, none⟩ = cs[j]? := by simp [World.cell?, show W.heap[B]? = _ from h]

set_option maxHeartbeats 4000000 in
theorem one_any (w : World) : Calls Tryz.prog 54 #[] w (OnePost w) := by
  have hB0 := alloc1 w (.cells #[.int .i64 3, .int .i64 5, .int .i64 0, .int .i64 2, .int .i64 1] 50)
  have HX := Lib.hid (Holds.new w 50 #[.int .i64 3, .int .i64 5, .int .i64 0, .int .i64 2, .int .i64 1])
  go_enter Tryz.func54, Tryz.ntmps54
  go_wp2_with fail
  generalize w.alloc (.cells #[.int .i64 3, .int .i64 5, .int .i64 0, .int .i64 2, .int .i64 1] 50) = W0 at *
  have hl := HX.out.lt
  refine wp_region_noPanic ?_
  refine wp_region_picked [(8, true), (3, true), (4, true), (5, true), (6, true), (0, false), (1, true), (2, true), (7, false), (9, true)] (fun W' => Below W0.heap.size W0 W') (by kernel_rfl) (by kernel_rfl) (fun _ _ _ _ _ h => h) (Below.refl _ W0).drew ?_
  iterate 5
    refine Picked.take ?_ (by rfl) (by rfl) ?_ ?_
    rotate_left
    · intro w' hw'
      have x0 := (HX.out.below hw' hl).c (j := 0) rfl
      have x1 := (HX.out.below hw' hl).c (j := 1) rfl
      have x2 := (HX.out.below hw' hl).c (j := 2) rfl
      have x3 := (HX.out.below hw' hl).c (j := 3) rfl
      have x4 := (HX.out.below hw' hl).c (j := 4) rfl
      go_simp
      try with_reducible rfl
    simp only [Act.put, List.getElem_toArray, List.getElem_cons_zero, List.getElem_cons_succ, List.setIfInBounds_toArray, List.set_cons_zero, List.set_cons_succ]
  refine ⟨_, by rfl, by rfl, ?_⟩
  go_simp
  refine ⟨(Below.refl _ W0).drew.alloc (Nat.le_refl _) _, ?_⟩
  iterate 2
    refine Picked.take ?_ (by rfl) (by rfl) ?_ ?_
    rotate_left
    · intro w' hw'
      go_simp
      try with_reducible rfl
    simp only [Act.put, List.getElem_toArray, List.getElem_cons_zero, List.getElem_cons_succ, List.setIfInBounds_toArray, List.set_cons_zero, List.set_cons_succ]
  refine ⟨_, by rfl, by rfl, ?_⟩
  go_simp
  refine ⟨(((Below.refl W0.heap.size W0).alloc (Nat.le_refl _) _).alloc (by simp) _).drew, ?_⟩
  refine Picked.take ?_ (by rfl) (by rfl) ?_ ?_
  rotate_left
  · intro w' hw'
    go_simp
    try with_reducible rfl
  simp only [Act.put, List.getElem_toArray, List.getElem_cons_zero, List.getElem_cons_succ, List.setIfInBounds_toArray, List.set_cons_zero, List.set_cons_succ]
  refine NoPanic.normal ?_
  have hB1 := alloc1 W0 (.cells #[.int .i64 1, .int .i64 2] 3)
  have HI := Lib.hid (Holds.new W0 3 #[.int .i64 1, .int .i64 2])
  have hs1 : (W0.alloc (.cells #[.int .i64 1, .int .i64 2] 3)).heap.size = W0.heap.size + 1 := by simp
  have HB1 := Lib.hid hB1
  have HB0 := Lib.hid hB0
  have HS1 := Lib.hid hs1
  clear hB1 hB0 hs1
  go_wp2
  generalize W0.alloc (.cells #[.int .i64 1, .int .i64 2] 3) = W1 at *
  have hh := Holds.new W1 55 (evsC (oneZ W0.heap.size)).toArray
  have hB2 := alloc1 W1 (.cells (evsC (oneZ W0.heap.size)).toArray 55)
  have hI2 := HI.out.below hB2 HI.out.lt
  have hB3 : Below w.heap.size w (W1.alloc (.cells (evsC (oneZ W0.heap.size)).toArray 55)).drew := (nxt (nxt HB0.out HB1.out HB0.out.size) hB2 (nxt HB0.out HB1.out HB0.out.size).size).drew
  rw [HS1.out] at hh
  go_ret2
  refine ⟨some ⟨W0.heap.size + 1, 0, none⟩, 4, W0.heap.size, rfl, fun _ => ⟨W0.heap.size + 1, 0, rfl, hh.lt, fun k hk j hj => ?_⟩, ?_, hB3⟩
  · have hc := holds_cell hh (k * 11 + j)
    rw [List.getElem?_toArray, evsC_at _ k j hj, List.getElem?_eq_getElem hk] at hc
    rw [Nat.zero_add, List.getElem?_eq_getElem hk]
    exact hc
  · intro z hz
    have hz' : z ∈ oneZ W0.heap.size := hz
    unfold oneZ at hz'
    rcases List.mem_cons.1 hz' with rfl | hz'
    · exact fun _ => ⟨W0.heap.size, 0, rfl, hI2.lt, fun j hj => by
        have hj2 : j < 2 := hj
        have : j = 0 ∨ j = 1 := by omega
        rcases this with rfl | rfl
        · exact hI2.c (j := 0) rfl
        · exact hI2.c (j := 1) rfl⟩
    · rcases List.mem_cons.1 hz' with rfl | hz'
      · exact ints_nil _ _
      · rcases List.mem_cons.1 hz' with rfl | hz'
        · exact ints_nil _ _
        · rcases List.mem_cons.1 hz' with rfl | hz'
          · exact ints_nil _ _
          · cases hz'

def sm (x : Int) : Bool := decide (-9223372036854775808 ≤ x) && decide (x ≤ 9223372036854775807)
theorem sm_iff {x : Int} : sm x = true ↔ -9223372036854775808 ≤ x ∧ x ≤ 9223372036854775807 := by unfold sm; rw [Bool.and_eq_true, decide_eq_true_eq, decide_eq_true_eq]
def evOkB (e : Ev) : Bool := decide (e.nm.size ≤ 8000) && (decide (e.ob.size ≤ 8000) && (decide (e.st.2.2.length ≤ 8000) && (e.st.2.2.all sm && (sm e.st.2.1 && (sm e.op.2.1 && (sm e.op.2.2.1 && sm e.op.2.2.2.2))))))
theorem evOkB_ok {e : Ev} (h : evOkB e = true) : EvOk e := by
  unfold evOkB at h
  simp only [Bool.and_eq_true, decide_eq_true_eq, List.all_eq_true, sm_iff] at h
  obtain ⟨h1, h2, h3, h4, h5, h6, h7, h8⟩ := h
  exact ⟨h1, h2, h3, h4, h5, h6, h7, h8⟩
theorem one_okB : oneE.all evOkB = true := by decide +kernel

def OneP (S : ByteArray) (es : List Ev) (w : World) (e : Ending) (w' : World) : Prop := ∃ A c zs, e = .returned (.tuple #[.string S, .slice A zs.length c]) ∧ zs.map Prod.fst = es ∧ ReadEvs w'.heap.size w' A zs ∧ ReadNums w' zs ∧ Below w.heap.size w w'

set_option maxHeartbeats 4000000 in
theorem awake_core (S : ByteArray) (es : List Ev) (hS : S.size ≤ 7000) (hm : es.length ≤ 2000) (hpa : parseX (nums S) = .ok es) (hpe : prE es = 0) (hps : prS es = S) (hok : es.all evOkB = true) (HONE : ∀ W, Calls Tryz.prog 54 #[] W (OneP S es W))
    (w : World) (hw : Wds w) (hk : KWds w) : Calls Tryz.prog 35 #[] w (Yes w) := by
  have hcv := fun (W : World) (s : ByteArray) => Lib.run_convert_string_bytes (P := Tryz.prog) W 9 78 5 s Tryz.underlying9 Tryz.underlying78 Tryz.underlying5
  have hokz : ∀ zs : List EvZ, zs.map Prod.fst = es → ∀ z ∈ zs, EvOk z.1 := fun zs hz z hzz => evOkB_ok (List.all_eq_true.1 hok z.1 (by rw [← hz]; exact List.mem_map.2 ⟨z, hzz, rfl⟩))
  have HOKZ := Lib.hid hokz
  have hp := fun (W : World) (hB : Below w.heap.size w W) => parse_str S W hS (hw.on hB) (hk.on hB)
  rw [hpa] at hp
  have HP := Lib.hid hp
  have hpr := fun (A : Option Addr) (c : Nat) (zs : List EvZ) (hz : zs.map Prod.fst = es) (W : World) (hB : Below w.heap.size w W) h1 h2 => print_any A c zs W h1 h2 (hokz zs hz) (by have := congrArg List.length hz; rw [List.length_map] at this; omega) (hw.on hB) (hk.on hB)
  have HPR := Lib.hid hpr
  have hf := fun (W : World) (hB : Below w.heap.size w W) => fails_yes ⟨#[97, 98, 111, 114, 116]⟩ 5 5 W (by decide) abort_parse (hw.on hB) (hk.on hB)
  have HF := Lib.hid hf
  have hse : (S.toList == S.toList) = true := by simp
  have HONE' := Lib.hid (HONE w)
  have HPE := Lib.hid hpe
  have HPS := Lib.hid hps
  clear hw hk hp hpr hf hokz hok HONE hpa hpe hps
  have hev : evsEq es es = true := evsEq_refl _
  have HEV := Lib.hid hev
  clear hev
  go_enter Tryz.func35, Tryz.ntmps35
  go_wp2_with fail
  refine HONE'.out.mono ?_
  rintro e w1 ⟨A, c, ys, rfl, hys, hr1, hn1, hB1⟩
  have HR1 := Lib.hid hr1
  have HN1 := Lib.hid hn1
  have HYS := Lib.hid hys
  have hb1 := below_str w1 S
  have hB1b := nxt hB1 hb1 hB1.size
  have hyl : ys.length ≤ 2000 := by have := congrArg List.length hys; rw [List.length_map] at this; omega
  clear hr1 hn1 hys
  go_wp2_with fail
  refine (HP.out w1 hB1).mono ?_
  rintro e w2 ⟨A2, c2, rfl, ho2, hB2⟩
  have hB2' := nxt hB1b hB2 hB1b.size
  obtain ⟨zs, hz1, hrow, hrows⟩ := ho2
  have hzl : zs.length = es.length := by rw [← hz1, List.length_map]
  rw [← hzl] at hrow ⊢
  have hB3 := alloc1 w2 (.cells #[.int .i64 0, .int .i64 0] 29)
  have hB3' := nxt hB2' hB3 hB2'.size
  have hbs := nxt hb1 hB2 hb1.size
  have hbs3 := nxt hbs hB3 hbs.size
  have HX3 := Lib.hid (Holds.new w2 29 #[.int .i64 0, .int .i64 0])
  have HRD := Lib.hid (((read_evs hrow).below hB3).mono hB3.size)
  have HRN := Lib.hid (hrows.read.below hB3)
  have HR3 := Lib.hid ((HR1.out.below hbs3).mono hbs3.size)
  have HN3 := Lib.hid (HN1.out.below hbs3)
  have HZ1 := Lib.hid hz1
  have HZL := Lib.hid hzl
  clear hrow hrows hz1 hb1 hbs hbs3 hzl
  go_wp2_with fail
  generalize w2.alloc (.cells #[.int .i64 0, .int .i64 0] 29) = w3 at *
  refine (HPR.out A c ys HYS.out w3 hB3' HR3.out HN3.out).mono ?_
  rintro e w4 ⟨rfl, hB4⟩
  rw [HYS.out, HPS.out, HPE.out]
  have hB4' := nxt hB3' hB4 hB3'.size
  have HX4 := HX3.out.below hB4 HX3.out.lt
  have x0 : w4.cell? ⟨w2.heap.size, 0, none⟩ = some (.int .i64 0) := HX4.c (j := 0) rfl
  have x1 : w4.cell? ⟨w2.heap.size, 1, none⟩ = some (.int .i64 0) := HX4.c (j := 1) rfl
  have HS := Lib.hid (sameevs_any A2 A c2 c zs ys w4 ((HRD.out.below hB4).mono hB4.size) (HRN.out.below hB4) ((HR3.out.below hB4).mono hB4.size) (HN3.out.below hB4) (fun z hz => Nat.le_trans (HOKZ.out zs HZ1.out z hz).len (by omega)) (by rw [HZL.out]; omega) (by omega))
  rw [HZ1.out, HYS.out, HEV.out] at HS
  go_wp2_with fail
  refine HS.out.mono ?_
  rintro e w5 ⟨rfl, hB5⟩
  have hB5' := nxt hB4' hB5 hB4'.size
  go_wp2_with fail
  refine (HF.out w5 hB5').mono ?_
  rintro e w6 ⟨rfl, hB6⟩
  go_wp2
  go_ret
  exact ⟨rfl, nxt hB5' hB6 hB5'.size⟩

theorem awake_any (w : World) (hw : Wds w) (hk : KWds w) : Calls Tryz.prog 35 #[] w (Yes w) :=
  awake_core oneS oneE (by decide) (by decide) one_parse one_prE one_prS one_okB (fun W => (one_any W).mono fun e w' ⟨A, c, b, h1, h2, h3, h4⟩ => ⟨A, c, oneZ b, h1, oneZ_fst b, h2, h3, h4⟩) w hw hk
end Go.Proofs.YtpdbkjnaicjfdaaGreatDoor
