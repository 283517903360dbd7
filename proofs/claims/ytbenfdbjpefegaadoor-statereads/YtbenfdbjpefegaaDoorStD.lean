/- Contracts of the layer state: appendBytes. -/
import Derived.Test.YtbenfdbjpefegaaDoorStC
import Derived.Laws.Shifts
namespace Go.Proofs.YtbenfdbjpefegaaDoor
open Go.RowKit Go.Maps
set_option linter.unusedVariables false

/-- A slice reads as the numbers l, and does not lie in block F. -/
def IntsOff (F : Nat) (w : World) (A : Option Addr) (l : List Int) : Prop :=
  0 < l.length → ∃ b off, A = some ⟨b, off, none⟩ ∧ b < w.heap.size ∧ b ≠ F ∧ ∀ j, j < l.length → w.cell? ⟨b, off + j, none⟩ = some (.int .i64 (l[j]?.getD 0))
theorem cell_kept {w w' : World} {b off : Nat} (e : w'.heap[b]? = w.heap[b]?) : w'.cell? ⟨b, off, none⟩ = w.cell? ⟨b, off, none⟩ := by
  unfold World.cell?; simp only [e]
theorem IntsOff.on {F F' : Nat} {w w' : World} {A : Option Addr} {l : List Int} (h : IntsOff F w A l) (hb : ∀ k, k < w.heap.size → k ≠ F → w'.heap[k]? = w.heap[k]?) (hs : w.heap.size ≤ w'.heap.size) (hF : F' = F ∨ w.heap.size ≤ F') : IntsOff F' w' A l := fun hl => by
  obtain ⟨b, off, e, hlt, hne, hc⟩ := h hl
  refine ⟨b, off, e, by omega, by omega, fun j hj => (cell_kept (hb b hlt hne)).trans (hc j hj)⟩
theorem IntsOff.of {F : Nat} {w : World} {A : Option Addr} {l : List Int} {n : Nat} {w0 : World} (h : Ints w0 A l) (hb : Below w0.heap.size w0 w) (hF : w0.heap.size ≤ F) : IntsOff F w A l := fun hl => by
  obtain ⟨b, off, e, hlt, hc⟩ := h hl
  have := hb.size
  refine ⟨b, off, e, by omega, by omega, fun j hj => (hb.cell (p := ⟨b, off + j, none⟩) hlt).trans (hc j hj)⟩
theorem cell_one (w : World) (t : TypeId) (x : Value) : ∀ j u, [x][j]? = some u → (w.alloc (.cells #[x] t)).cell? ((⟨w.heap.size, 0, none⟩ : Addr).add j) = some u := by
  intro j u h
  match j with
  | 0 => simp at h; subst h; simp [Addr.add, World.cell?_alloc_new]
  | j + 1 => simp at h
theorem own_slice {W : World} {base : Nat} {e : TypeId} {v : Value} {n : Nat} {xs : List Value} {g cap m : Nat} {P : Prop} (h : W.ownsRow base e 1 v n xs) (hn : v = .slice none 0 0 ↔ Value.slice (some ⟨g, 0, none⟩) m cap = .slice none 0 0 ∧ P) : ∃ g' cap', v = .slice (some ⟨g', 0, none⟩) n cap' := form3 h hn

def AppB (base g0 : Nat) (ys : List Int) (w : World) (e : Ending) (w' : World) : Prop :=
  ∃ g cap, e = .returned (.slice (some ⟨g, 0, none⟩) ys.length cap) ∧ w'.ownsRow base 5 1 (.slice (some ⟨g, 0, none⟩) ys.length cap) ys.length (bytesOf ys) ∧ Below base w w' ∧ (g = g0 ∨ w.heap.size ≤ g)

theorem bytesOf_snoc (xs : List Int) (x : Int) : bytesOf xs ++ [.int .u8 x] = bytesOf (xs ++ [x]) := by simp [bytesOf]
theorem pow256 (j : Nat) : (256 : Int) ^ j = 2 ^ (8 * j) := by rw [Int.pow_mul]; rfl

set_option maxHeartbeats 2000000 in
theorem appB_any (base g0 cap0 : Nat) (xs : List Int) (s : Nat) (A : Option Addr) (c : Nat) (l : List Int) (w : World)
    (hrow : w.ownsRow base 5 1 (.slice (some ⟨g0, 0, none⟩) xs.length cap0) xs.length (bytesOf xs)) (hA : IntsOff g0 w A l) (hbase : base ≤ w.heap.size) (hs : s ≤ 8) (hl : l.length ≤ 1000) (hx : xs.length ≤ 1000) :
    Calls Tryd.prog 38 #[.slice (some ⟨g0, 0, none⟩) xs.length cap0, .int .i64 s, .slice A l.length c] w (AppB base g0 (xs ++ l.flatMap (be s)) w) := by
  obtain ⟨i0, hi, hz0, hz1, hz2⟩ := info_parts info_u8
  have HROW := Lib.hid hrow
  have HA := Lib.hid hA
  clear hrow hA
  go_enter Tryd.func38, Tryd.ntmps38
  go_wp2
  go_loopw [0, 8, 9, 12, 16, 17] (fun s0 s8 s9 i s16 s17 wr => ∃ (k g cap m : Nat) (ys : List Int), k ≤ l.length ∧ i = .int .i64 k ∧ s0 = .slice (some ⟨g, 0, none⟩) m cap ∧ m = ys.length ∧ m = xs.length + s * k ∧ ys = xs ++ (l.take k).flatMap (be s) ∧ wr.ownsRow base 5 1 (.slice (some ⟨g, 0, none⟩) m cap) m (bytesOf ys) ∧ IntsOff g wr A l ∧ Below base w wr ∧ (g = g0 ∨ w.heap.size ≤ g)) (fun s0 s8 s9 i s16 s17 wr => l.length - (intOf i).toNat)
  case atStart => exact ⟨0, g0, cap0, xs.length, xs, Nat.zero_le _, rfl, rfl, rfl, by omega, by simp, HROW.out, HA.out, Below.refl _ _, .inl rfl⟩
  case round =>
    obtain ⟨k, g, cap, m, ys, hk, rfl, rfl, hm, hm2, hys, hown, hoff, hB, hg⟩ := hrel
    have HOWN := Lib.hid hown
    have HOFF := Lib.hid hoff
    have HYS := Lib.hid hys
    have HM := Lib.hid hm
    have HB := Lib.hid hB
    have HG := Lib.hid hg
    have HM2 := Lib.hid hm2
    have hsz := hB.size
    clear hown hoff hys hm hB hg hm2
    obtain ⟨Wo, rfl⟩ : ∃ Wo, Wo = wr := ⟨_, rfl⟩
    by_cases hlt : k < l.length
    · obtain ⟨b, off, rfl, hb, hne, hc⟩ := HOFF.out (by omega)
      have hck := hc k hlt
      have hk0 : (0 : Int) ≤ (k : Int) := by omega
      have hk1 : (k : Int) < (l.length : Int) := by omega
      obtain ⟨x, hx'⟩ : ∃ x, l[k]?.getD 0 = x := ⟨_, rfl⟩
      rw [hx'] at hck
      have HX := Lib.hid hx'
      clear hc hx'
      go_wp2
      go_loopw [0, 9, 17] (fun s0 s9 i wr => ∃ (j g' cap' m' : Nat) (zs : List Int), j ≤ s ∧ i = .int .i64 j ∧ s0 = .slice (some ⟨g', 0, none⟩) m' cap' ∧ m' = m + j ∧ zs = ys ++ (be s x).take j ∧ wr.ownsRow base 5 1 (.slice (some ⟨g', 0, none⟩) m' cap') m' (bytesOf zs) ∧ IntsOff g' wr (some ⟨b, off, none⟩) l ∧ Below base w wr ∧ (g' = g0 ∨ w.heap.size ≤ g')) (fun s0 s9 i wr => s - (intOf i).toNat)
      case atStart => exact ⟨0, g, cap, m, ys, Nat.zero_le _, rfl, rfl, rfl, by simp, HOWN.out, HOFF.out, HB.out, HG.out⟩
      case round =>
        obtain ⟨j, g', cap', m', zs, hj, rfl, rfl, hm', hzs, hown', hoff', hB', hg'⟩ := hrel
        have HOWN' := Lib.hid hown'
        have HOFF' := Lib.hid hoff'
        have HZS := Lib.hid hzs
        have HM' := Lib.hid hm'
        have HB' := Lib.hid hB'
        have HG' := Lib.hid hg'
        have hsz' := hB'.size
        have hle : m' ≤ 10000 := by
          have h1 := HM2.out
          have h2 : s * k ≤ 8 * 1000 := Nat.mul_le_mul hs (by omega)
          omega
        clear hown' hoff' hzs hm' hB' hg'
        by_cases hjs : j < s
        · obtain ⟨q, hq⟩ : ∃ q : Nat, q = 8 * (s - 1 - j) := ⟨_, rfl⟩
          have e1 : (s : Int) - 1 - (j : Int) = ((s - 1 - j : Nat) : Int) := by omega
          obtain ⟨d, hd⟩ : ∃ d : Nat, d = s - 1 - j := ⟨_, rfl⟩
          rw [← hd] at e1 hq
          have e2 : (8 : Int) * (d : Int) = (q : Int) := by omega
          have hq0 : (0 : Int) ≤ (q : Int) := by omega
          have hq1 : (q : Int) ≤ 64 := by omega
          have hd1 : (d : Int) ≤ 8 := by omega
          have hd0 : (0 : Int) ≤ (d : Int) := by omega
          have HQ := Lib.hid hq
          have HD := Lib.hid hd
          clear hq hd
          go_wp2_with (at_builtin; refine wpList_append_own_at _ rfl _ _ 27 rfl base 5 i0 (.int .u8 0) 1 1 Tryd.underlying27 hi hz0 hz1 hz2 rfl (by decide) _ _ _ rfl (HOWN'.out.alloc _) ⟨wr.heap.size, 0, none⟩ 1 1 [.int .u8 (x / 2 ^ q % 256)] rfl rfl (cell_one _ _ _) (by intro u hu; simp at hu; subst hu; rfl) (by unfold maxLen; omega) (by omega) (by simp; omega) ?_; intro v5 w5 hown5 hg5 hnil5 hat5; obtain ⟨g5, cap5, rfl⟩ := form3 hown5 hnil5; have HOWN5 := Lib.hid hown5; have HG5 := Lib.hid hg5; have HAT5 := Lib.hid hat5; clear hown5 hg5 hnil5 hat5)
          go_roundw
          case rel =>
            have hg5 := HG5.out
            have hs5 := hg5.size
            simp only [World.size_alloc] at hs5
            have hat : g5 = g' ∨ g5 = wr.heap.size + 1 := by
              rcases HAT5.out with e | e
              · exact .inl (Option.some.inj e)
              · exact .inr (by have := Option.some.inj e; simpa using this)
            have hgl : g' < wr.heap.size ∧ base ≤ g' := by have := HOWN'.out.lt g' rfl; exact ⟨this.2, this.1⟩
            refine ⟨j + 1, g5, cap5, m' + 1, zs ++ [x / 2 ^ q % 256], by omega, by go_num, rfl, by rw [HM'.out]; omega, ?_, ?_, ?_, ?_, ?_⟩
            · rw [HZS.out, be_take x hjs, List.append_assoc, beB, pow256, ← HD.out, ← HQ.out]
            · have := HOWN5.out; rwa [bytesOf_snoc] at this
            · refine HOFF'.out.on (fun k' hk' hne' => ?_) (by omega) (by omega)
              exact (hg5.block k' (by simp; omega) (fun e => hne' (Option.some.inj e))).trans (Below.heap_alloc wr _ k' hk')
            · exact (HB'.out.alloc (by omega) _).grown hg5 (by simp; omega) (fun k' e => by obtain rfl : g' = k' := Option.some.inj e; exact hgl.2)
            · rcases hat with e | e
              · rw [e]; exact HG'.out
              · exact .inr (by omega)
          case measure => simp [intOf]; omega
        · have hjs' : j = s := by omega
          have hfull : (be s x).take j = be s x := List.take_of_length_le (by rw [be_len]; omega)
          have HF := Lib.hid hfull
          have HJ := Lib.hid hjs'
          clear hfull hjs'
          go_wp2
          go_roundw
          case rel =>
            refine ⟨k + 1, g', cap', m', zs, by omega, by go_num, rfl, ?_, ?_, ?_, HOWN'.out, HOFF'.out, HB'.out, HG'.out⟩
            · have := HOWN'.out.1; simpa [bytesOf] using this.symm
            · rw [HM'.out, HM2.out, HJ.out, Nat.mul_succ]; omega
            · rw [HZS.out, HF.out, HYS.out, take_snoc l k hlt, List.flatMap_append, List.append_assoc]
              have := HX.out
              rw [List.getElem?_eq_getElem hlt, Option.getD_some] at this
              rw [this]; simp
          case measure => simp [intOf]; omega
    · have hkl : l.take k = l := List.take_of_length_le (by omega)
      have hfin : ys = xs ++ l.flatMap (be s) := by rw [HYS.out, hkl]
      have HFIN := Lib.hid hfin
      clear hkl hfin
      go_wp2
      go_ret
      refine ⟨g, cap, ?_, ?_, HB.out, HG.out⟩
      · show Ending.returned (.slice (some ⟨g, 0, none⟩) m cap) = _
        rw [← HFIN.out, ← HM.out]
      · rw [← HFIN.out, ← HM.out]; exact HOWN.out
end Go.Proofs.YtbenfdbjpefegaaDoor
