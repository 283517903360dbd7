/- What the laws of machine share: of, op, applies, runs. -/
import Derived.Test.YtmclpganipfadaaGreatDoorMcI
namespace Go.Proofs.YtmclpganipfadaaGreatDoor
open Go.RowKit Go.Maps
set_option linter.unusedVariables false

theorem mcof_list (kd : Int) (A : Option Addr) (k c : Nat) (w : World) (h1 : (kd == 1) = false) (h5 : (kd == 5) = false) : Calls Tryz.prog 20 #[.int .i64 kd, .slice A k c] w (Says (stV kd 0 A k c) w) := by
  go_enter Tryz.func20, Tryz.ntmps20
  go_wp2
  refine bodyPost_ret (v := stV kd 0 A k c) (by simp [results, Tryz.f20, go_sem, stV]) rfl ?_
  exact ⟨rfl, alloc1 w _⟩
theorem mcof_num (kd x : Int) (b c : Nat) (w : World) (h : kd = 1 ∨ kd = 5) (hc : w.cell? ⟨b, 0, none⟩ = some (.int .i64 x)) : Calls Tryz.prog 20 #[.int .i64 kd, .slice (some ⟨b, 0, none⟩) 1 c] w (Says (stV kd x none 0 0) w) := by
  have hb : b < w.heap.size := by obtain ⟨o, ho, _⟩ := cell_cells hc; exact (Array.getElem?_eq_some_iff.1 ho).1
  have hc' : (w.alloc (.cells #[.int .i64 0, .int .i64 0, .slice none 0 0] 24)).cell? ⟨b, 0, none⟩ = some (.int .i64 x) := ((alloc1 w _).cell (p := ⟨b, 0, none⟩) hb).trans hc
  rcases h with rfl | rfl
  · have d1 : ((1 : Int) == 1) = true := rfl
    go_enter Tryz.func20, Tryz.ntmps20
    go_wp2
    refine bodyPost_ret (v := stV 1 x none 0 0) (by simp [results, Tryz.f20, go_sem, stV]) rfl ?_
    exact ⟨rfl, alloc1 w _⟩
  · have d1 : ((5 : Int) == 1) = false := rfl
    have d5 : ((5 : Int) == 5) = true := rfl
    go_enter Tryz.func20, Tryz.ntmps20
    go_wp2
    refine bodyPost_ret (v := stV 5 x none 0 0) (by simp [results, Tryz.f20, go_sem, stV]) rfl ?_
    exact ⟨rfl, alloc1 w _⟩
theorem mcop_any (kd a r : Int) (w : World) : Calls Tryz.prog 22 #[.int .i64 kd, .int .i64 a, .int .i64 r] w (Says (opV ⟨kd, a, 0, 2, r⟩) w) := by
  go_enter Tryz.func22, Tryz.ntmps22
  go_wp2
  refine bodyPost_ret (v := opV ⟨kd, a, 0, 2, r⟩) (by simp [results, Tryz.f22, go_sem, opV]) rfl ?_
  exact ⟨rfl, alloc1 w _⟩

set_option maxRecDepth 100000 in
set_option maxHeartbeats 1000000 in
theorem mcapplies_yes (t n : Int) (A B : Option Addr) (c d : Nat) (l m : List Int) (t2 n2 kd a r : Int) (w : World) (hp : mA t n l kd a 0 = ⟨t2, n2, m, 2, r, 0⟩) (hA : Ints w A l) (hB : Ints w B m) (hl : l.length ≤ 800) (hm : m.length ≤ 1000) (hc : l.length ≤ c) (hs : Small a) :
    Calls Tryz.prog 19 #[stV t n A l.length c, .int .i64 kd, .int .i64 a, stV t2 n2 B m.length d, .int .i64 r] w (Yes w) := by
  have H := fun W (h : Below w.heap.size w W) => mcapply_any t n A c l kd a 0 W (hA.below h) hl hc hs
  rw [hp] at H
  have HE := Lib.hid (eql_ret · 2 r 2 r)
  have hsr := sameRet_self 2 r
  have HB := Lib.hid hB
  have hB0 : Below w.heap.size w ((w.alloc (.cells #[.int .i64 t, .int .i64 n, .slice A l.length c] 24)).alloc (.cells #[.int .i64 t2, .int .i64 n2, .slice B m.length d] 24)) := (alloc1 w _).alloc (by simp) _
  have HS0 := Lib.hid ((Holds.new w 24 #[.int .i64 t, .int .i64 n, .slice A l.length c]).alloc (.cells #[.int .i64 t2, .int .i64 n2, .slice B m.length d] 24))
  have HW0 := Lib.hid (new_second w (.cells #[.int .i64 t, .int .i64 n, .slice A l.length c] 24) 24 #[.int .i64 t2, .int .i64 n2, .slice B m.length d])
  unfold MPost at H
  dsimp only at H
  unfold stV retV at *
  clear hB hA hp
  go_enter Tryz.func19, Tryz.ntmps19
  go_wp2_with fail
  refine (H _ hB0).mono ?_
  generalize (w.alloc (.cells #[.int .i64 t, .int .i64 n, .slice A l.length c] 24)).alloc (.cells #[.int .i64 t2, .int .i64 n2, .slice B m.length d] 24) = W0 at *
  rintro e w1 ⟨A1, c1, rfl, ho1, hB1⟩
  have HW1 := Lib.hid (HW0.out.below hB1 HW0.out.lt)
  have hC1 := onto hB0 hB1
  have hB2 : Below w1.heap.size w1 ((w1.alloc (.cells #[.int .i64 t2, .int .i64 n2, .slice A1 m.length c1] 24)).alloc (.cells #[.int .i64 2, .int .i64 r] 26)) := (alloc1 w1 _).alloc (by simp) _
  have HR2 := Lib.hid (new_second w1 (.cells #[.int .i64 t2, .int .i64 n2, .slice A1 m.length c1] 24) 26 #[.int .i64 2, .int .i64 r])
  have HX2 := Lib.hid ((Holds.new w1 24 #[.int .i64 t2, .int .i64 n2, .slice A1 m.length c1]).alloc (.cells #[.int .i64 2, .int .i64 r] 26))
  have HW2 := Lib.hid (HW1.out.below hB2 HW1.out.lt)
  have hC2 := onto hC1 hB2
  have H2 := samest_any t2 n2 t2 n2 A1 B c1 d m m _ ((own_ints rfl ho1).below hB2) (HB.out.below hC2) hm
  rw [same_iff.2 ⟨rfl, rfl, rfl⟩] at H2
  unfold stV at H2
  have hlt1 := HW1.out.lt
  clear ho1 H
  have q0 := HW2.out.c (j := 0) rfl
  have q1 := HW2.out.c (j := 1) rfl
  have q2 := HW2.out.c (j := 2) rfl
  go_wp2_with fail
  refine H2.mono ?_
  rintro e w3 ⟨rfl, hB3⟩
  have hC3 := onto hC2 hB3
  have HR3 := HR2.out.below hB3 HR2.out.lt
  generalize (w1.alloc (.cells #[.int .i64 t2, .int .i64 n2, .slice A1 m.length c1] 24)).alloc (.cells #[.int .i64 2, .int .i64 r] 26) = W2 at *
  have a0 := HR3.c (j := 0) rfl
  have a1 := HR3.c (j := 1) rfl
  have he := HE.out w3
  rw [hsr] at he
  clear hsr
  go_wp2
  go_ret
  exact ⟨rfl, hC3⟩

set_option maxRecDepth 100000 in
set_option maxHeartbeats 1000000 in
theorem mcruns_yes (s : Sta) (A B Ao : Option Addr) (c d co : Nat) (ops : List Opr) (t2 n2 : Int) (m : List Int) (cnt : Nat) (er : Int) (w : World) (hr : runA s ops = (⟨t2, n2, m⟩, cnt, er)) (hA : Ints w A s.l) (hB : Ints w B m) (hO : Oprs w Ao ops) (hl : s.l.length + 2 * ops.length ≤ 800) (hm : m.length ≤ 1000) (hc : s.l.length ≤ c) (hs : ∀ o ∈ ops, Small o.a) :
    Calls Tryz.prog 21 #[stV s.t s.n A s.l.length c, stV t2 n2 B m.length d, .int .i64 cnt, .int .i64 er, .slice Ao ops.length co] w (Yes w) := by
  have H := fun W (h : Below w.heap.size w W) => mcrun_any s A c Ao co ops W (hA.below h) (OprsB.more (OprsB.below hO h) h.size) hl hc hs
  rw [hr] at H
  have HB := Lib.hid hB
  have hB0 : Below w.heap.size w ((w.alloc (.cells #[.int .i64 s.t, .int .i64 s.n, .slice A s.l.length c] 24)).alloc (.cells #[.int .i64 t2, .int .i64 n2, .slice B m.length d] 24)) := (alloc1 w _).alloc (by simp) _
  have HS0 := Lib.hid ((Holds.new w 24 #[.int .i64 s.t, .int .i64 s.n, .slice A s.l.length c]).alloc (.cells #[.int .i64 t2, .int .i64 n2, .slice B m.length d] 24))
  have HW0 := Lib.hid (new_second w (.cells #[.int .i64 s.t, .int .i64 s.n, .slice A s.l.length c] 24) 24 #[.int .i64 t2, .int .i64 n2, .slice B m.length d])
  unfold RunPost at H
  dsimp only at H
  unfold stV at *
  have q5 : ((cnt : Int) == (cnt : Int)) = true := by simp
  have q6 : (er == er) = true := by simp
  clear hB hA hr
  go_enter Tryz.func21, Tryz.ntmps21
  go_wp2_with fail
  refine (H _ hB0).mono ?_
  generalize (w.alloc (.cells #[.int .i64 s.t, .int .i64 s.n, .slice A s.l.length c] 24)).alloc (.cells #[.int .i64 t2, .int .i64 n2, .slice B m.length d] 24) = W0 at *
  rintro e w1 ⟨A1, c1, rfl, ho1, hB1⟩
  have HW1 := Lib.hid (HW0.out.below hB1 HW0.out.lt)
  have hC1 := onto hB0 hB1
  have hB2 : Below w1.heap.size w1 (w1.alloc (.cells #[.int .i64 t2, .int .i64 n2, .slice A1 m.length c1] 24)) := alloc1 w1 _
  have HX2 := Lib.hid (Holds.new w1 24 #[.int .i64 t2, .int .i64 n2, .slice A1 m.length c1])
  have HW2 := Lib.hid (HW1.out.below hB2 HW1.out.lt)
  have hC2 := onto hC1 hB2
  have H2 := samest_any t2 n2 t2 n2 A1 B c1 d m m _ ((own_ints rfl ho1).below hB2) (HB.out.below hC2) hm
  rw [same_iff.2 ⟨rfl, rfl, rfl⟩] at H2
  unfold stV at H2
  have hlt1 := HW1.out.lt
  clear ho1 H
  have p0 := HW2.out.c (j := 0) rfl
  have p1 := HW2.out.c (j := 1) rfl
  have p2 := HW2.out.c (j := 2) rfl
  go_wp2_with fail
  refine H2.mono ?_
  rintro e w3 ⟨rfl, hB3⟩
  have hC3 := onto hC2 hB3
  go_wp2
  go_ret
  exact ⟨rfl, hC3⟩
end Go.Proofs.YtmclpganipfadaaGreatDoor
