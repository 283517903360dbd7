/- The chapter's examples: fails, joins, awake. -/
import Derived.Test.YtmmehfpkcheaiaaTkG
import Derived.Lib.SlBytesConst
namespace Go.Proofs.Ytmmehfpkcheaiaa
open Go.RowKit
set_option linter.unusedVariables false

def Yes (w : World) (e : Ending) (w' : World) : Prop := e = .returned (.bool true) ∧ Below w.heap.size w w'

theorem bytes_new (w : World) (l : List Int) (t : TypeId) (cs : Array Value) (fr : Nat × Nat) (h : cs = (l.map (Value.int .u8)).toArray) : Bytes (w.alloc (.cells cs t fr)) (some ⟨w.heap.size, 0, none⟩) l := by
  subst h
  intro hl
  refine ⟨w.heap.size, 0, rfl, by simp, fun j hj => ?_⟩
  rw [Nat.zero_add, World.cell?_alloc_mark]
  simp [List.getElem?_eq_getElem hj]

theorem strs_new (w : World) (ss : List ByteArray) (t : TypeId) (cs : Array Value) (h : cs = (ss.map Value.string).toArray) : Strs (w.alloc (.cells cs t)).heap.size (w.alloc (.cells cs t)) (some ⟨w.heap.size, 0, none⟩) ss := by
  subst h
  intro hl
  refine ⟨w.heap.size, 0, rfl, by simp, fun j hj => ?_⟩
  rw [Nat.zero_add, World.cell?_alloc_new]
  simp [List.getElem?_eq_getElem hj]

theorem grown_size (w : World) (s : ByteArray) (e : TypeId) : s.size ≤ grownCap w s.size 0 e := grownCap_ge w s.size 0 e

theorem text_fail {l : List Int} {f : Nat × Nat} (h : textF l = some f) : textL l = [] ∧ textE l = f.1 ∧ textP l = f.2 := by
  refine ⟨?_, ?_, ?_⟩
  · rw [textL, if_neg (by rw [h]; simp)]
  · rw [textE, h]
  · rw [textP, h]

set_option maxHeartbeats 1000000 in
theorem fails_yes (s : ByteArray) (p : Nat) (w : World) (hs : s.size ≤ 1000) (hp : p ≤ 1000) (hf : textF (nums s) = some (5, p)) :
    Calls Try.prog 18 #[.string s, .int .i64 p] w (Yes w) := by
  have hcv := fun (W : World) (s : ByteArray) => Lib.run_convert_string_bytes (P := Try.prog) W 9 22 5 s Try.underlying9 Try.underlying22 Try.underlying5
  have HT := Lib.hid (text_fail hf)
  have HL := Lib.hid (lines_any (some ⟨w.heap.size, 0, none⟩) (grownCap w s.size 0 5) (nums s) (Lib.bytesWorld w 5 s) (bytes_of_str w s) (nums_octets s) (by rw [nums_len]; exact grown_size w s _) (by rw [nums_len]; unfold maxLen; omega))
  unfold LinesPost at HL
  rw [HT.out.1, HT.out.2.1, HT.out.2.2, nums_len] at HL
  have k1 : ((p : Int) == (p : Int)) = true := by simp
  clear hf
  go_enter Try.func18, Try.ntmps18
  go_wp2_with fail
  refine HL.out.mono ?_
  rintro e w1 ⟨v, rfl, hO, hB⟩
  obtain ⟨A, c, rfl, _⟩ := hO.read
  go_wp2
  go_ret
  exact ⟨rfl, (Below.next (below_bytes (Below.refl _ w) (Nat.le_refl _) s) hB (Nat.le_refl _)).alloc (Nat.le_trans (by rw [Lib.bytesWorld_size]; omega) hB.size) _⟩

set_option maxHeartbeats 1000000 in
theorem joins_yes (A : Option Addr) (c : Nat) (ss : List ByteArray) (want : ByteArray) (er : Int) (w : World) (hA : Strs w.heap.size w A ss) (hm : ss.length ≤ 1000) (hz : szs ss ≤ 1000000) (hw : strOfNums (jS ss) = want) (he : jE ss = er) :
    Calls Try.prog 19 #[.string want, .int .i64 er, .slice A ss.length c] w (Yes w) := by
  have HJ := Lib.hid (join_any A c ss w hA hm hz)
  unfold JoinPost at HJ
  rw [hw, he] at HJ
  have k1 : (er == er) = true := by simp
  have k2 : (want.toList == want.toList) = true := by simp
  clear hA hw he
  go_enter Try.func19, Try.ntmps19
  go_wp2_with fail
  refine HJ.out.mono ?_
  rintro e w1 ⟨rfl, hB⟩
  go_wp2
  go_ret
  exact ⟨rfl, hB⟩

theorem ex_text : textF [97, 98, 32, 99, 10, 10, 35, 32, 120, 10, 100] = none ∧ textL [97, 98, 32, 99, 10, 10, 35, 32, 120, 10, 100] = [(0, [(0, [97, 98]), (3, [99])]), (10, [(10, [100])])] := by decide +kernel
theorem ex_oct : Octets [97, 98, 32, 99, 10, 10, 35, 32, 120, 10, 100] := by
  intro x hx; simp at hx; omega
theorem ex_aaxb : textF (nums ⟨#[97, 32, 32, 98]⟩) = some (5, 2) := by decide +kernel
theorem ex_join : strOfNums (jS [⟨#[97, 98]⟩, ⟨#[99]⟩]) = ⟨#[97, 98, 32, 99]⟩ ∧ jE [⟨#[97, 98]⟩, ⟨#[99]⟩] = 0 := by
  have h : jS [⟨#[97, 98]⟩, ⟨#[99]⟩] = [97, 98, 32, 99] ∧ jE [⟨#[97, 98]⟩, ⟨#[99]⟩] = 0 := by decide +kernel
  exact ⟨by rw [h.1]; rfl, h.2⟩

theorem ex_want (W : World) : ReadLines (((W.alloc (.cells #[.string ⟨#[97, 98]⟩, .int .i64 0, .string ⟨#[99]⟩, .int .i64 3] 36)).alloc (.cells #[.string ⟨#[100]⟩, .int .i64 10] 36)).alloc (.cells #[.int .i64 0, .slice (some ⟨W.heap.size, 0, none⟩) 2 2, .int .i64 10, .slice (some ⟨W.heap.size + 1, 0, none⟩) 1 1] 34)).heap.size
    (((W.alloc (.cells #[.string ⟨#[97, 98]⟩, .int .i64 0, .string ⟨#[99]⟩, .int .i64 3] 36)).alloc (.cells #[.string ⟨#[100]⟩, .int .i64 10] 36)).alloc (.cells #[.int .i64 0, .slice (some ⟨W.heap.size, 0, none⟩) 2 2, .int .i64 10, .slice (some ⟨W.heap.size + 1, 0, none⟩) 1 1] 34))
    (some ⟨W.heap.size + 1 + 1, 0, none⟩) [(0, [(0, [97, 98]), (3, [99])]), (10, [(10, [100])])] := by
  have hL : ∀ (X : World) (cs : Array Value) (t : TypeId) (j : Nat), (X.alloc (.cells cs t)).cell? ⟨X.heap.size, j, none⟩ = cs[j]? := fun X cs t j => by rw [World.cell?_alloc_new]
  obtain ⟨W1, hW1⟩ : ∃ W1, W.alloc (.cells #[.string ⟨#[97, 98]⟩, .int .i64 0, .string ⟨#[99]⟩, .int .i64 3] 36) = W1 := ⟨_, rfl⟩
  have s1 : W1.heap.size = W.heap.size + 1 := by rw [← hW1]; simp
  have c1 := fun j => hL W #[.string ⟨#[97, 98]⟩, .int .i64 0, .string ⟨#[99]⟩, .int .i64 3] 36 j
  rw [hW1] at c1 ⊢
  obtain ⟨W2, hW2⟩ : ∃ W2, W1.alloc (.cells #[.string ⟨#[100]⟩, .int .i64 10] 36) = W2 := ⟨_, rfl⟩
  have s2 : W2.heap.size = W.heap.size + 1 + 1 := by rw [← hW2]; simp [s1]
  have c2 := fun j => hL W1 #[.string ⟨#[100]⟩, .int .i64 10] 36 j
  have o2 := fun j => World.cell?_alloc_lt W1 (.cells #[.string ⟨#[100]⟩, .int .i64 10] 36) ⟨W.heap.size, j, none⟩ (by show W.heap.size < _; omega)
  rw [hW2] at c2 o2 ⊢
  rw [s1] at c2
  obtain ⟨W3, hW3⟩ : ∃ W3, W2.alloc (.cells #[.int .i64 0, .slice (some ⟨W.heap.size, 0, none⟩) 2 2, .int .i64 10, .slice (some ⟨W.heap.size + 1, 0, none⟩) 1 1] 34) = W3 := ⟨_, rfl⟩
  have s3 : W3.heap.size = W.heap.size + 1 + 1 + 1 := by rw [← hW3]; simp [s2]
  have c3 := fun j => hL W2 #[.int .i64 0, .slice (some ⟨W.heap.size, 0, none⟩) 2 2, .int .i64 10, .slice (some ⟨W.heap.size + 1, 0, none⟩) 1 1] 34 j
  have o3 := fun j => World.cell?_alloc_lt W2 (.cells #[.int .i64 0, .slice (some ⟨W.heap.size, 0, none⟩) 2 2, .int .i64 10, .slice (some ⟨W.heap.size + 1, 0, none⟩) 1 1] 34) ⟨W.heap.size, j, none⟩ (by show W.heap.size < _; omega)
  have o4 := fun j => World.cell?_alloc_lt W2 (.cells #[.int .i64 0, .slice (some ⟨W.heap.size, 0, none⟩) 2 2, .int .i64 10, .slice (some ⟨W.heap.size + 1, 0, none⟩) 1 1] 34) ⟨W.heap.size + 1, j, none⟩ (by show W.heap.size + 1 < _; omega)
  rw [hW3] at c3 o3 o4 ⊢
  rw [s2] at c3
  rw [s3]
  intro _
  refine ⟨W.heap.size + 1 + 1, 0, rfl, by omega, fun j hj => ?_⟩
  match j, hj with
  | 0, _ =>
    refine ⟨some ⟨W.heap.size, 0, none⟩, 2, c3 0, c3 1, fun _ => ⟨W.heap.size, 0, rfl, by omega, fun j hj => ?_⟩⟩
    match j, hj with
    | 0, _ => exact ⟨(o3 0).trans ((o2 0).trans (c1 0)), (o3 1).trans ((o2 1).trans (c1 1))⟩
    | 1, _ => exact ⟨(o3 2).trans ((o2 2).trans (c1 2)), (o3 3).trans ((o2 3).trans (c1 3))⟩
  | 1, _ =>
    refine ⟨some ⟨W.heap.size + 1, 0, none⟩, 1, c3 2, c3 3, fun _ => ⟨W.heap.size + 1, 0, rfl, by omega, fun j hj => ?_⟩⟩
    match j, hj with
    | 0, _ => exact ⟨(o4 0).trans (c2 0), (o4 1).trans (c2 1)⟩

theorem ex_want' (W : World) (n : Nat) (hn : W.heap.size = n) : ReadLines (n + 1 + 1 + 1)
    (((W.alloc (.cells #[.string ⟨#[97, 98]⟩, .int .i64 0, .string ⟨#[99]⟩, .int .i64 3] 36)).alloc (.cells #[.string ⟨#[100]⟩, .int .i64 10] 36)).alloc (.cells #[.int .i64 0, .slice (some ⟨n, 0, none⟩) 2 2, .int .i64 10, .slice (some ⟨n + 1, 0, none⟩) 1 1] 34))
    (some ⟨n + 1 + 1, 0, none⟩) [(0, [(0, [97, 98]), (3, [99])]), (10, [(10, [100])])] := by
  subst hn
  exact (ex_want W).mono (by simp)

theorem wpost_same {w : World} {B : Nat} {a : World} (h : Below B a w) (n : Nat) : Below B a (w.drewN n) := below_drewN h n

set_option maxHeartbeats 1000000 in
theorem awake_yes (w : World) : Calls Try.prog 9 #[] w (Yes w) := by
  have HL := Lib.hid (lines_any (some ⟨w.heap.size, 0, none⟩) 11 [97, 98, 32, 99, 10, 10, 35, 32, 120, 10, 100] _ (bytes_new w _ 5 #[.int .u8 97, .int .u8 98, .int .u8 32, .int .u8 99, .int .u8 10, .int .u8 10, .int .u8 35, .int .u8 32, .int .u8 120, .int .u8 10, .int .u8 100] (11, 12) rfl) ex_oct (by decide) (by unfold maxLen; decide))
  unfold LinesPost at HL
  rw [ex_text.2, show textE [97, 98, 32, 99, 10, 10, 35, 32, 120, 10, 100] = 0 by rw [textE, ex_text.1], show textP [97, 98, 32, 99, 10, 10, 35, 32, 120, 10, 100] = 0 by rw [textP, ex_text.1]] at HL
  have hcv := Lib.run_convert_bytes_const (P := Try.prog) w 22 5 #[.int .u8 97, .int .u8 98, .int .u8 32, .int .u8 99, .int .u8 10, .int .u8 10, .int .u8 35, .int .u8 32, .int .u8 120, .int .u8 10, .int .u8 100] 11 11 Try.underlying22 Try.underlying5
  go_enter Try.func9, Try.ntmps9
  go_wp2_with fail
  refine HL.out.mono ?_
  rintro e w1 ⟨v, rfl, hO, hB⟩
  obtain ⟨A, c, rfl, hR⟩ := hO.read
  have HR := Lib.hid hR
  clear hO hR
  have hWt := ex_want' (w1.alloc (.cells #[.int .i64 0, .int .i64 0] 28)) (w1.heap.size + 1) (by simp)
  have HWt := Lib.hid hWt
  clear hWt
  have hB0 : Below w.heap.size w w1 := Below.next ((Below.refl _ w).alloc (Nat.le_refl _) _) hB (Nat.le_refl _)
  have hs1 := hB0.size
  clear hB
  go_wp2_with fail
  refine (same_yes A _ c 2 [(0, [(0, [97, 98]), (3, [99])]), (10, [(10, [100])])] _ _ ((HR.out.below (by exact ((((Below.refl _ _).alloc (Nat.le_refl _) _).alloc (by simp) _).alloc (by simp; omega) _).alloc (by simp; omega) _)).mono (by omega)) HWt.out (by decide) (by decide)).mono ?_
  rintro e w2 ⟨rfl, n2, rfl⟩
  have hB2 := (((hB0.alloc hs1 (.cells #[.int .i64 0, .int .i64 0] 28)).alloc (by simp; omega) (.cells #[.string ⟨#[97, 98]⟩, .int .i64 0, .string ⟨#[99]⟩, .int .i64 3] 36)).alloc (by simp; omega) (.cells #[.string ⟨#[100]⟩, .int .i64 10] 36)).alloc (by simp; omega) (.cells #[.int .i64 0, .slice (some ⟨w1.heap.size + 1, 0, none⟩) 2 2, .int .i64 10, .slice (some ⟨w1.heap.size + 1 + 1, 0, none⟩) 1 1] 34)
  replace hB2 := below_drewN hB2 n2
  go_wp2_with fail
  refine (fails_yes ⟨#[97, 32, 32, 98]⟩ 2 _ (by decide) (by decide) ex_aaxb).mono ?_
  rintro e w3 ⟨rfl, hB3⟩
  replace hB3 := Below.next hB2 hB3 (Nat.le_refl _)
  have hs3 := hB3.size
  clear hB2
  go_wp2_with fail
  refine (joins_yes _ 2 [⟨#[97, 98]⟩, ⟨#[99]⟩] ⟨#[97, 98, 32, 99]⟩ 0 _ (strs_new _ _ _ _ rfl) (by decide) (by decide) ex_join.1 ex_join.2).mono ?_
  rintro e w4 ⟨rfl, hB4⟩
  replace hB4 := Below.next (hB3.alloc hs3 _) hB4 (Nat.le_refl _)
  go_wp2
  go_ret
  exact ⟨rfl, hB4⟩
end Go.Proofs.Ytmmehfpkcheaiaa
