/- Put. -/
import Derived.Test.YtbenfdbjpefegaaDoorOpBase
import Derived.Test.YtbenfdbjpefegaaDoorWalkP
import Derived.Laws.BytesArg
import Derived.Deep.AppendLies
namespace Go.Proofs.YtbenfdbjpefegaaDoor
open Go.RowKit Go.Shelf
set_option linter.unusedVariables false

attribute [local go_sem] Oper.semAt_some

def PutPost (n : Int) (w : World) (e : Ending) (w' : World) : Prop := e = .returned (.string ⟨(putL n).toArray⟩) ∧ Below w.heap.size w w'

theorem sz_nat (n : Int) : sz n = ((n.natAbs : Nat) : Int) := by unfold sz; split <;> omega

theorem rev45 (l : List Int) : (l ++ [45]).reverse = 45 :: l.reverse := by simp
theorem putL_neg (n : Int) (h : n < 0) : (⟨(putL n).toArray⟩ : ByteArray) = strOfNums ((dr 20 n.natAbs ++ [45]).reverse) := by
  unfold putL putI strOfNums; rw [if_pos h]
theorem putL_pos (n : Int) (h : ¬ n < 0) : (⟨(putL n).toArray⟩ : ByteArray) = strOfNums ((dr 20 n.natAbs).reverse) := by
  unfold putL putI strOfNums; rw [if_neg h, List.append_nil]

/-- What lies behind slices.Reverse: the box, the block for deferred calls, what is old, and the text. -/
theorem after_rev {w W w3 : World} {B D g cap k : Nat} {zs : List Int} (hz : zs.length = k)
    (hv : Boxed W B 27 (.slice (some ⟨g, 0, none⟩) k cap)) (hr : W.ownsRow B 5 1 (.slice (some ⟨g, 0, none⟩) k cap) k (bytesOf zs)) (hK : W.heap[D]? = some (.deferred (some []))) (hB : Below B w W)
    (hr3 : w3.ownsRow B 5 1 (.slice (some ⟨g, 0, none⟩) k cap) k (bytesOf zs.reverse)) (hg3 : W.grownBy w3 (some g)) :
    w3.cell? ⟨B, 0, none⟩ = some (.slice (some ⟨g, 0, none⟩) k cap) ∧ w3.heap[D]? = some (.deferred (some [])) ∧ Below B w w3 ∧
      (convert 27 9 (.slice (some ⟨g, 0, none⟩) k cap)).run Tryd.prog w3 = .ok (.string (strOfNums zs.reverse)) w3 := by
  have hne : some B ≠ some g := hv.not_row (by decide) hr
  have hgb : B ≤ g ∧ g < W.heap.size := hr.lt g rfl
  have hcells : ∃ cur, W.heap[g]? = some (.cells cur 5 (0, 0)) := by
    rcases hr.2 with ⟨h', _⟩ | ⟨g', cap', cur, h', _, hh, _⟩
    · cases h'
    · cases h'; exact ⟨cur, hh⟩
  obtain ⟨cur, hcur⟩ := hcells
  have hDg : some D ≠ some g := by
    intro e; injection e with e; subst e; rw [hK] at hcur; cases hcur
  refine ⟨(hv.kept hg3 hne).cell, (hg3.block D (Array.getElem?_eq_some_iff.1 hK).1 hDg).trans hK, hB.grown hg3 (by omega) (fun j e => by injection e with e; omega), ?_⟩
  refine run_convert_bytes_arg (P := Tryd.prog) w3 27 5 Tryd.underlying27 Tryd.underlying5 g 0 k cap zs.reverse (by simp [hz]) (fun i hi => ?_) 9 Tryd.underlying9
  rw [Nat.zero_add, hr3.cellAt i (by omega), bytesOf, List.getElem?_map]
  have : i < zs.reverse.length := by simp [hz, hi]
  rw [List.getElem?_eq_getElem this]
  simp only [Option.map_some, List.getD, List.getElem?_eq_getElem this, Option.getD_some]

set_option maxRecDepth 100000 in
set_option maxHeartbeats 2000000 in
theorem put_any (n : Int) (w : World) (h1 : -9223372036854775808 ≤ n) (h2 : n ≤ 9223372036854775807) :
    Calls Tryd.prog 59 #[.int .i64 n] w (PutPost n w) := by
  obtain ⟨i0, hi, hz0, hz1, hz2⟩ := info_parts info_u8
  have hdl := dr_len 20 n.natAbs
  refine (callsIn_wide (n := 6)).1 ?_
  refine callsIn_of_wp_marks Tryd.func59 rfl trivial ?_ rfl
  simp only [Tryd.ntmps59, List.size_toArray, List.length_cons, List.length_nil, Nat.reduceAdd, Nat.reduceSub, Array.replicate_succ, Array.replicate_zero, List.push_toArray, List.append_toArray, List.nil_append, List.cons_append]
  gi_wp2_with (refine ⟨trivial, ?_⟩; first
    | (gi_at_call 70; refine (callsIn_wide.2 (size_any n _ h1 h2)).mono ?_; rw [sz_nat]; rintro e w' ⟨rfl, rfl⟩)
    | (gi_at_call 69; refine (digits_in Fence.wide _ trivial rfl _ _).mono ?_; rintro e w' ⟨rfl, rfl⟩))
  have bO := Boxed.new w 27 (.slice none 0 0)
  have bN := Boxed.new (w.alloc (.cells #[.slice none 0 0] 27)) 85 (.int .u64 ((n.natAbs : Nat) : Int))
  rw [World.size_alloc] at bN
  have hB0 : Below w.heap.size w ((w.alloc (.cells #[.slice none 0 0] 27)).alloc (.cells #[.int .u64 ((n.natAbs : Nat) : Int)] 85)) := ((Below.refl _ w).alloc (Nat.le_refl _) _).alloc (by simp) _
  refine wpIn_rangeFunc_ownG rfl (by omega) (gf := 77) (lb := #[.pointer (some ⟨w.heap.size + 1, 0, none⟩)]) rfl trivial (enters_of Tryd.func77 (by kernel_rfl) rfl)
    (digits_stops Fence.wide 5 trivial rfl (by omega) (w.heap.size + 1) w.heap.size n.natAbs (by omega) _ (by simp) bN.cell) belowK_t (belowK_b (by simp; omega)) (Below.refl _ _) (fun _ => rfl)
    (fun pre W => (∃ v, Boxed W w.heap.size 27 v ∧ W.ownsRow w.heap.size 5 1 v pre.length (bytesOf pre) ∧ True) ∧ Below w.heap.size w W)
    (fun _ _ _ => False)
    (OwnFrom.and (Own.from (holdsRow_own w.heap.size w.heap.size 27 5 1 (fun pre => pre.length) (fun pre => bytesOf pre) (fun pre v => True)) _) (ownFrom_below (Nat.le_refl _) (by simp; omega)))
    (fun _ _ _ _ _ hs _ _ => hs)
    ⟨⟨_, bO.alloc _, World.ownsRow_nil _ _ _ _, trivial⟩, hB0⟩
    (fun x => { tmps := #[.int .i64 n, undef, .string ⟨#[]⟩, .pointer (some ⟨w.heap.size, 0, none⟩), .int .u8 x, .int .i64 n, .int .u64 ((n.natAbs : Nat) : Int), .func (.func 77) #[] #[.pointer (some ⟨w.heap.size + 1, 0, none⟩)], .int .u8 x, undef, undef, undef, undef, undef, undef, undef, undef, undef, undef, undef, undef, undef], defers := [] }) ?assign ?body ?done ?stop
  case assign =>
    intro l x W K hK
    gi_wp2
    exact hK
  case body =>
    rintro l pre x W ⟨⟨v, hv, hrow, _⟩, hB⟩ hlt
    have hc := hv.cell
    gi_wp2_with (gi_at_builtin; refine wpListIn_append_own _ rfl _ _ 27 rfl w.heap.size 5 i0 (.int .u8 0) 1 1 Tryd.underlying27 hi hz0 hz1 hz2 rfl (by decide) _ _ _ rfl (hrow.alloc _) ⟨W.heap.size, 0, none⟩ 1 1 [.int .u8 x] rfl rfl (cell_one_new _ _ _) (by simp [Value.oneCell']) (by simp only [maxLen]; omega) (by omega) (by have := hB.size; simp; omega) ?_; intro v' w1 hown' hgrow _; obtain ⟨g', cap', rfl⟩ := ownsRow_succ hown'; obtain ⟨hv1, hv2, hr2, hk2, hb2⟩ := hv.appended (by decide) hrow hB.size (Nat.le_refl _) hown' hgrow; have hc1 := hv1.cell; have hf1 := hv1.frozen)
    exact ⟨hk2.from _, hb2, ⟨_, hv2, by simpa [bytesOf] using hr2, trivial⟩, hB.trans hb2⟩
  case done =>
    rintro D ys W hD rfl ⟨⟨v, hv, hrow, _⟩, hB⟩ hK
    have hdp : 1 ≤ (dr 20 n.natAbs).length := dr_pos 19 n.natAbs
    by_cases hneg : n < 0
    · have hc := hv.cell
      have HP := Lib.hid (putL_neg n hneg)
      gi_wp2_with (first
        | (gi_at_builtin; refine wpListIn_append_own _ rfl _ _ 27 rfl w.heap.size 5 i0 (.int .u8 0) 1 1 Tryd.underlying27 hi hz0 hz1 hz2 rfl (by decide) _ _ _ rfl (hrow.alloc _) ⟨W.heap.size, 0, none⟩ 1 1 [.int .u8 45] rfl rfl (cell_one_new _ _ _) (by simp [Value.oneCell']) (by simp only [maxLen]; omega) (by omega) (by have := hB.size; simp; omega) ?_; intro v' w1 hown' hgrow _; obtain ⟨g', cap', rfl⟩ := ownsRow_succ hown'; obtain ⟨hv1, hv2, hr2, hk2, hb2⟩ := hv.appended (by decide) hrow hB.size (Nat.le_refl _) hown' hgrow; have hc1 := hv1.cell; have hf1 := hv1.frozen)
        | fail)
      have hr2' : (w1.setCell ⟨w.heap.size, 0, none⟩ (.slice (some ⟨g', 0, none⟩) ((dr 20 n.natAbs).length + 1) cap')).ownsRow w.heap.size 5 1 (.slice (some ⟨g', 0, none⟩) ((dr 20 n.natAbs).length + 1) cap') ((dr 20 n.natAbs).length + 1) (bytesOf (dr 20 n.natAbs ++ [45])) := by simpa [bytesOf] using hr2
      have hK2 := hk2.same D _ hK rfl
      have hB2 := hB.trans hb2
      have hc2 := hv2.cell
      have hz2 : (dr 20 n.natAbs ++ [45]).length = (dr 20 n.natAbs).length + 1 := by simp
      clear hr2 hk2 hb2 hv1 hown' hgrow hc1 hf1
      generalize w1.setCell ⟨w.heap.size, 0, none⟩ (.slice (some ⟨g', 0, none⟩) ((dr 20 n.natAbs).length + 1) cap') = W2 at *
      have HZ2 := Lib.hid hz2
      clear hz2
      gi_wp2_with (refine ⟨trivial, ?_⟩; gi_at_call 71; refine (callsIn_wide.2 (reverse_any w.heap.size g' cap' _ (dr 20 n.natAbs ++ [45]) W2 HZ2.out (by omega) (by omega) hr2')).mono ?_; rintro e w3 ⟨rfl, hr3, hg3⟩; obtain ⟨hc3, hK3, hB3, hcv⟩ := after_rev HZ2.out hv2 hr2' hK2 hB2 hr3 hg3)
      refine ⟨by simp, .inl ⟨_, _, rfl, run_takeDeferred hK3, ?_⟩⟩
      exact ⟨_, results_tmp rfl _ _ _, by rw [HP.out, rev45]; rfl, hB3.trans (belowK_b (w := w) (Nat.le_refl _) w3 D _ _ (by simp at hD; omega) hK3 rfl rfl)⟩
    · have HP := Lib.hid (putL_pos n hneg)
      obtain ⟨g, cap, rfl, _, _⟩ := hrow.form (by omega)
      have hc := hv.cell
      gi_wp2_with (refine ⟨trivial, ?_⟩; gi_at_call 71; refine (callsIn_wide.2 (reverse_any w.heap.size g cap _ (dr 20 n.natAbs) W rfl (by omega) (by omega) hrow)).mono ?_; rintro e w3 ⟨rfl, hr3, hg3⟩; obtain ⟨hc3, hK3, hB3, hcv⟩ := after_rev rfl hv hrow hK hB hr3 hg3)
      refine ⟨by simp, .inl ⟨_, _, rfl, run_takeDeferred hK3, ?_⟩⟩
      exact ⟨_, results_tmp rfl _ _ _, by rw [HP.out]; rfl, hB3.trans (belowK_b (w := w) (Nat.le_refl _) w3 D _ _ (by simp at hD; omega) hK3 rfl rfl)⟩
  case stop =>
    rintro D c pre W _ _ h _
    exact h.elim
end Go.Proofs.YtbenfdbjpefegaaDoor
