/- Contracts of the layer state: stateOf. -/
import Derived.Test.YtbenfdbjpefegaaDoorStK
namespace Go.Proofs.YtbenfdbjpefegaaDoor
open Go.RowKit Go.Maps
set_option linter.unusedVariables false

theorem of_bad (t : Int) (A : Option Addr) (c : Nat) (l : List Int) (w : World) (hs : singB t = true) (hl : l.length ≠ 1) :
    Calls Tryd.prog 55 #[.int .i64 t, .slice A l.length c] w (Says (.tuple #[stV 0 0 none 0 0, .bool false]) w) := by
  have hk : ((l.length : Int) != 1) = true := by rw [bne_iff_ne]; omega
  unfold stV
  go_enter Tryd.func55, Tryd.ntmps55
  go_wp2_with fail
  refine (single_any _ _).mono ?_
  rintro e w1 ⟨rfl, rfl⟩
  rw [hs]
  go_wp2
  refine bodyPost_ret (v := .tuple #[.agg #[.int .i64 0, .int .i64 0, .slice none 0 0], .bool false]) (by simp [results, Tryd.f55, go_sem]) rfl ?_
  exact ⟨rfl, (alloc1 w _).alloc (by simp) _⟩

set_option maxHeartbeats 1000000 in
theorem of_many (t : Int) (A : Option Addr) (c : Nat) (l : List Int) (w : World) (hs : singB t = false) (hA : Ints w A l) (hl : l.length ≤ 1000) :
    Calls Tryd.prog 55 #[.int .i64 t, .slice A l.length c] w (Says (.tuple #[stV t 0 A l.length c, .bool (checkE t 0 l == 0)]) w) := by
  unfold stV
  have HZ := Holds.new w 24 #[.int .i64 0, .int .i64 0, .slice none 0 0] |>.alloc (.cells #[.int .i64 t, .int .i64 0, .slice A l.length c] 24)
  have HX := Holds.new (w.alloc (.cells #[.int .i64 0, .int .i64 0, .slice none 0 0] 24)) 24 #[.int .i64 t, .int .i64 0, .slice A l.length c]
  rw [World.size_alloc] at HX
  have hB0 : Below w.heap.size w ((w.alloc (.cells #[.int .i64 0, .int .i64 0, .slice none 0 0] 24)).alloc (.cells #[.int .i64 t, .int .i64 0, .slice A l.length c] 24)) := (alloc1 w _).alloc (by simp) _
  have hs0 : w.heap.size + 1 < ((w.alloc (.cells #[.int .i64 0, .int .i64 0, .slice none 0 0] 24)).alloc (.cells #[.int .i64 t, .int .i64 0, .slice A l.length c] 24)).heap.size := by simp
  have H : ∀ W, Below w.heap.size w W → Calls Tryd.prog 22 #[.agg #[.int .i64 t, .int .i64 0, .slice A l.length c]] W (Says (.int .i64 (checkE t 0 l)) W) := fun W hW => check_any t 0 A c l W (hA.below hW) hl
  obtain ⟨r, hr⟩ : ∃ r, checkE t 0 l = r := ⟨_, rfl⟩
  rw [hr] at H ⊢
  clear hr
  go_enter Tryd.func55, Tryd.ntmps55
  go_wp2_with fail
  refine (single_any _ _).mono ?_
  rintro e w1 ⟨rfl, rfl⟩
  rw [hs]
  go_wp2_with fail
  generalize (w.alloc (.cells #[.int .i64 0, .int .i64 0, .slice none 0 0] 24)).alloc (.cells #[.int .i64 t, .int .i64 0, .slice A l.length c] 24) = W0 at *
  have x0 := HX.c (j := 0) rfl
  have x1 := HX.c (j := 1) rfl
  have x2 := HX.c (j := 2) rfl
  have z0 := HZ.c (j := 0) rfl
  have z1 := HZ.c (j := 1) rfl
  have z2 := HZ.c (j := 2) rfl
  have y0 := HZ.frozen 0
  have y1 := HZ.frozen 1
  have y2 := HZ.frozen 2
  have hl1 : w.heap.size + 1 < W0.heap.size := hs0
  have hD : Below W0.heap.size W0 W0.drew := (Below.refl _ _).drew
  go_region_held3 (fun w' => w'.cell? ⟨w.heap.size + 1, 0, none⟩ = some (.int .i64 t) ∧ w'.cell? ⟨w.heap.size + 1, 1, none⟩ = some (.int .i64 0) ∧ w'.cell? ⟨w.heap.size + 1, 2, none⟩ = some (.slice A l.length c)) (first | exact ⟨x0, x1, x2⟩ | exact ⟨p0, p1, p2⟩ | go_keep) (first | (go_at_call 22; refine (H _ (nxt hB0 hD (by omega))).mono ?_; rintro e w6 ⟨rfl, hB6⟩; have hB6' := hD.trans hB6; have HX6 := HX.below hB6' hl1; have p0 := HX6.c (j := 0) rfl; have p1 := HX6.c (j := 1) rfl; have p2 := HX6.c (j := 2) rfl; have HZ6 := HZ.below hB6' (by omega); have z60 := HZ6.c (j := 0) rfl; have z61 := HZ6.c (j := 1) rfl; have z62 := HZ6.c (j := 2) rfl; have y60 := HZ6.frozen 0; have y61 := HZ6.frozen 1; have y62 := HZ6.frozen 2))
  go_wp2
  have HZ7 := ((HZ6.set 0 (.int .i64 t)).set 1 (.int .i64 0)).set 2 (.slice A l.length c)
  have hO7 := ((((Only.of (Below.refl w6.heap.size w6) (Nat.le_refl _)).set (B := w.heap.size) 0 (.int .i64 t)).set 1 (.int .i64 0)).set 2 (.slice A l.length c))
  generalize ((w6.setCell ⟨w.heap.size, 0, none⟩ (.int .i64 t)).setCell ⟨w.heap.size, 1, none⟩ (.int .i64 0)).setCell ⟨w.heap.size, 2, none⟩ (.slice A l.length c) = W7 at *
  have k0 := HZ7.c (j := 0) rfl
  have k1 := HZ7.c (j := 1) rfl
  have k2 := HZ7.c (j := 2) rfl
  have hs6 := hB6'.size
  refine bodyPost_ret (v := .tuple #[.agg #[.int .i64 t, .int .i64 0, .slice A l.length c], .bool (r == 0)]) (by simp [results, Tryd.f55, go_sem, k0, k1, k2]) rfl ?_
  exact ⟨rfl, nxt (nxt hB0 hB6' (by omega)) (hO7.below (lo := w.heap.size) (Nat.le_refl _) (by omega)) (Nat.le_refl _)⟩

set_option maxHeartbeats 1000000 in
theorem of_one (t x : Int) (A : Option Addr) (c : Nat) (w : World) (hs : singB t = true) (hA : Ints w A [x]) :
    Calls Tryd.prog 55 #[.int .i64 t, .slice A 1 c] w (Says (.tuple #[stV t x none 0 0, .bool (checkE t x [] == 0)]) w) := by
  obtain ⟨b, off, rfl, hb, hc⟩ := hA (by simp)
  have hck := hc 0 (by simp)
  simp only [List.getElem?_cons_zero, Option.getD_some, Nat.add_zero] at hck
  clear hc hA
  unfold stV
  have HZ := Holds.new w 24 #[.int .i64 0, .int .i64 0, .slice none 0 0] |>.alloc (.cells #[.int .i64 t, .int .i64 x, .slice none 0 0] 24)
  have HX := Holds.new (w.alloc (.cells #[.int .i64 0, .int .i64 0, .slice none 0 0] 24)) 24 #[.int .i64 t, .int .i64 x, .slice none 0 0]
  rw [World.size_alloc] at HX
  have hB0 : Below w.heap.size w ((w.alloc (.cells #[.int .i64 0, .int .i64 0, .slice none 0 0] 24)).alloc (.cells #[.int .i64 t, .int .i64 x, .slice none 0 0] 24)) := (alloc1 w _).alloc (by simp) _
  have hs0 : w.heap.size + 1 < ((w.alloc (.cells #[.int .i64 0, .int .i64 0, .slice none 0 0] 24)).alloc (.cells #[.int .i64 t, .int .i64 x, .slice none 0 0] 24)).heap.size := by simp
  have H : ∀ W, Below w.heap.size w W → Calls Tryd.prog 22 #[.agg #[.int .i64 t, .int .i64 x, .slice none 0 0]] W (Says (.int .i64 (checkE t x [])) W) := fun W hW => check_any t x none 0 [] W (fun h => by simp at h) (by simp)
  obtain ⟨r, hr⟩ : ∃ r, checkE t x [] = r := ⟨_, rfl⟩
  rw [hr] at H ⊢
  clear hr
  go_enter Tryd.func55, Tryd.ntmps55
  go_wp2_with fail
  refine (single_any _ _).mono ?_
  rintro e w1 ⟨rfl, rfl⟩
  rw [hs]
  go_wp2_with fail
  generalize (w.alloc (.cells #[.int .i64 0, .int .i64 0, .slice none 0 0] 24)).alloc (.cells #[.int .i64 t, .int .i64 x, .slice none 0 0] 24) = W0 at *
  have x0 := HX.c (j := 0) rfl
  have x1 := HX.c (j := 1) rfl
  have x2 := HX.c (j := 2) rfl
  have z0 := HZ.c (j := 0) rfl
  have z1 := HZ.c (j := 1) rfl
  have z2 := HZ.c (j := 2) rfl
  have y0 := HZ.frozen 0
  have y1 := HZ.frozen 1
  have y2 := HZ.frozen 2
  have hl1 : w.heap.size + 1 < W0.heap.size := hs0
  have hD : Below W0.heap.size W0 W0.drew := (Below.refl _ _).drew
  go_region_held3 (fun w' => w'.cell? ⟨w.heap.size + 1, 0, none⟩ = some (.int .i64 t) ∧ w'.cell? ⟨w.heap.size + 1, 1, none⟩ = some (.int .i64 x) ∧ w'.cell? ⟨w.heap.size + 1, 2, none⟩ = some (.slice none 0 0)) (first | exact ⟨x0, x1, x2⟩ | exact ⟨p0, p1, p2⟩ | go_keep) (first | (go_at_call 22; refine (H _ (nxt hB0 hD (by omega))).mono ?_; rintro e w6 ⟨rfl, hB6⟩; have hB6' := hD.trans hB6; have HX6 := HX.below hB6' hl1; have p0 := HX6.c (j := 0) rfl; have p1 := HX6.c (j := 1) rfl; have p2 := HX6.c (j := 2) rfl; have HZ6 := HZ.below hB6' (by omega); have z60 := HZ6.c (j := 0) rfl; have z61 := HZ6.c (j := 1) rfl; have z62 := HZ6.c (j := 2) rfl; have y60 := HZ6.frozen 0; have y61 := HZ6.frozen 1; have y62 := HZ6.frozen 2))
  go_wp2
  have HZ7 := ((HZ6.set 0 (.int .i64 t)).set 1 (.int .i64 x)).set 2 (.slice none 0 0)
  have hO7 := ((((Only.of (Below.refl w6.heap.size w6) (Nat.le_refl _)).set (B := w.heap.size) 0 (.int .i64 t)).set 1 (.int .i64 x)).set 2 (.slice none 0 0))
  generalize ((w6.setCell ⟨w.heap.size, 0, none⟩ (.int .i64 t)).setCell ⟨w.heap.size, 1, none⟩ (.int .i64 x)).setCell ⟨w.heap.size, 2, none⟩ (.slice none 0 0) = W7 at *
  have k0 := HZ7.c (j := 0) rfl
  have k1 := HZ7.c (j := 1) rfl
  have k2 := HZ7.c (j := 2) rfl
  have hs6 := hB6'.size
  refine bodyPost_ret (v := .tuple #[.agg #[.int .i64 t, .int .i64 x, .slice none 0 0], .bool (r == 0)]) (by simp [results, Tryd.f55, go_sem, k0, k1, k2]) rfl ?_
  exact ⟨rfl, nxt (nxt hB0 hB6' (by omega)) (hO7.below (lo := w.heap.size) (Nat.le_refl _) (by omega)) (Nat.le_refl _)⟩
end Go.Proofs.YtbenfdbjpefegaaDoor
