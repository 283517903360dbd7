/- Contracts of the layer token: joinable, joinedSize. -/
import Derived.Test.YtmpglmepmdpjoaaOpBase
import Derived.Test.YtmpglmepmdpjoaaTkC
import Derived.Lib.ConvBytes
import Derived.Lib.AppendStr
import Derived.OwnWalk
namespace Go.Proofs.Ytmpglmepmdpjoaa
open Go.RowKit
set_option linter.unusedVariables false

/-- A string's bytes as numbers. -/
def nums (s : ByteArray) : List Int := s.data.toList.map fun b => (b.toNat : Int)

theorem nums_len (s : ByteArray) : (nums s).length = s.size := by
  rw [nums, List.length_map, Array.length_toList]; rfl
theorem strOf_nums (s : ByteArray) : strOfNums (nums s) = s := by
  apply ByteArray.ext
  apply Array.ext'
  rw [strOfNums_data, nums, List.map_map]
  conv => rhs; rw [← List.map_id s.data.toList]
  apply List.map_congr_left
  intro b _
  simp
theorem nums_octets (s : ByteArray) : Octets (nums s) := by
  intro x hx
  obtain ⟨b, _, rfl⟩ := List.mem_map.1 hx
  have := b.toNat_lt
  omega
theorem nums_strOf (l : List Int) (h : Octets l) : nums (strOfNums l) = l := by
  rw [nums, strOfNums_data, List.map_map]
  conv => rhs; rw [← List.map_id l]
  apply List.map_congr_left
  intro x hx
  have := h x hx
  simp [UInt8.toNat_ofNat']
  omega
theorem nums_inj {s t : ByteArray} (h : nums s = nums t) : s = t := by rw [← strOf_nums s, h, strOf_nums]
theorem nums_get (s : ByteArray) (j : Nat) : (nums s)[j]?.getD 0 = ((s.data.toList.getD j 0).toNat : Int) := by
  rw [nums, List.getElem?_map, List.getD]
  cases s.data.toList[j]? <;> rfl

theorem bytes_of_str (w : World) (s : ByteArray) : Bytes (Lib.bytesWorld w 5 s) (some ⟨w.heap.size, 0, none⟩) (nums s) := by
  intro _
  refine ⟨w.heap.size, 0, rfl, by rw [Lib.bytesWorld_size]; omega, fun j hj => ?_⟩
  rw [nums_len] at hj
  rw [Nat.zero_add, Lib.bytesWorld_cell w _ s j hj, nums_get]

theorem below_bytes {w W : World} {B : Nat} (h : Below B w W) (hB : B ≤ W.heap.size) (s : ByteArray) : Below B w (Lib.bytesWorld W 5 s) :=
  h.trans ⟨rfl, rfl, rfl, by rw [Lib.bytesWorld_size]; omega, fun k hk => Lib.bytesWorld_at_old W _ s k (by omega)⟩

/-- A slice's address A reads as the texts ss; all below B. -/
def Strs (B : Nat) (w : World) (A : Option Addr) (ss : List ByteArray) : Prop :=
  0 < ss.length → ∃ b off, A = some ⟨b, off, none⟩ ∧ b < B ∧ ∀ j, j < ss.length → w.cell? ⟨b, off + j, none⟩ = some (.string (ss[j]?.getD ⟨#[]⟩))

theorem Strs.below {B : Nat} {w w' : World} {A : Option Addr} {ss : List ByteArray} (h : Strs B w A ss) (hb : Below B w w') : Strs B w' A ss := fun hl => by
  obtain ⟨b, off, e, hlt, hc⟩ := h hl
  exact ⟨b, off, e, hlt, fun j hj => (hb.cell (p := ⟨b, off + j, none⟩) hlt).trans (hc j hj)⟩
theorem Strs.mono {B B' : Nat} {w : World} {A : Option Addr} {ss : List ByteArray} (h : Strs B w A ss) (hb : B ≤ B') : Strs B' w A ss := fun hl => by
  obtain ⟨b, off, e, hlt, hc⟩ := h hl
  exact ⟨b, off, e, by omega, hc⟩

/-- All words are words. -/
def fineW (ss : List ByteArray) : Bool := ss.all fun s => (fw (nums s)).isNone
/-- Words that may be joined. -/
def joinOk (ss : List ByteArray) : Bool := fineW ss && (match ss with | [] => false | s :: _ => !(over (nums s)))

theorem fine_bad {ss : List ByteArray} {k j : Nat} (hk : k < ss.length) (h : fw (nums (ss[k]?.getD ⟨#[]⟩)) = some j) : fineW ss = false := by
  rw [List.getElem?_eq_getElem hk] at h
  simp only [Option.getD_some] at h
  apply Bool.eq_false_iff.2
  intro hf
  have := List.all_eq_true.1 hf _ (List.getElem_mem hk)
  rw [h] at this; cases this
theorem fine_all {ss : List ByteArray} (h : ∀ j, j < ss.length → fw (nums (ss[j]?.getD ⟨#[]⟩)) = none) : fineW ss = true := by
  refine List.all_eq_true.2 fun s hs => ?_
  obtain ⟨j, hj, rfl⟩ := List.mem_iff_getElem.1 hs
  have := h j hj
  rw [List.getElem?_eq_getElem hj] at this
  simp only [Option.getD_some] at this
  rw [this]; rfl

theorem joinOk_pos {ss : List ByteArray} (h : 0 < ss.length) : joinOk ss = (fineW ss && !(over (nums (ss[0]?.getD ⟨#[]⟩)))) := by
  cases ss with
  | nil => cases h
  | cons s r => rfl

theorem over_str (s : ByteArray) (h : 0 < s.size) : over (nums s) = ((s[0].toNat : Int) == 35) := by
  have : nums s = (s[0].toNat : Int) :: (nums s).tail := by
    have hd : s.data.toList = s[0] :: s.data.toList.tail := by
      have hl : 0 < s.data.toList.length := by rw [Array.length_toList]; exact h
      conv => lhs; rw [← List.cons_head_tail (List.ne_nil_of_length_pos hl)]
      congr 1
      rw [List.head_eq_getElem]; rfl
    rw [nums, hd]; rfl
  rw [this]; rfl

set_option maxHeartbeats 1000000 in
theorem joinable_any (A : Option Addr) (c : Nat) (ss : List ByteArray) (w : World) (hA : Strs w.heap.size w A ss) (hm : ss.length ≤ 1000) (hz : ∀ s ∈ ss, s.size ≤ 1000000) :
    Calls Try.prog 45 #[.slice A ss.length c] w fun e w' => e = .returned (.bool (joinOk ss)) ∧ Below w.heap.size w w' := by
  have hcv := fun (W : World) (s : ByteArray) => Lib.run_convert_string_bytes (P := Try.prog) W 9 85 5 s Try.underlying9 Try.underlying85 Try.underlying5
  have HA := Lib.hid hA
  have HZ := Lib.hid hz
  clear hA hz
  go_enter Try.func45, Try.ntmps45
  go_wp2
  go_loopw [7] (fun i wr => ∃ k : Nat, k ≤ ss.length ∧ i = .int .i64 k ∧ Below w.heap.size w wr ∧ ∀ j, j < ss.length → j < k → fw (nums (ss[j]?.getD ⟨#[]⟩)) = none) (fun i wr => ss.length - (intOf i).toNat)
  case atStart => exact ⟨0, Nat.zero_le _, rfl, Below.refl _ _, fun j _ hj => absurd hj (by omega)⟩
  case round =>
    obtain ⟨k, hk, rfl, hB, hq⟩ := hrel
    have HQ := Lib.hid hq
    have hwr := hB.size
    clear hq
    by_cases hlt : k < ss.length
    · obtain ⟨b, off, rfl, hb, hc⟩ := HA.out.below hB (by omega)
      have hck := hc k hlt
      have hsz : (ss[k]?.getD ⟨#[]⟩).size ≤ 1000000 := by
        rw [List.getElem?_eq_getElem hlt]; exact HZ.out _ (List.getElem_mem hlt)
      obtain ⟨s, hs⟩ : ∃ s, ss[k]?.getD ⟨#[]⟩ = s := ⟨_, rfl⟩
      rw [hs] at hck hsz
      have HS := Lib.hid hs
      clear hc hs
      have hbw := bytes_of_str wr s
      have HW := Lib.hid (fun c => wrong_any (some ⟨wr.heap.size, 0, none⟩) c (nums s) (Lib.bytesWorld wr 5 s) _ hbw.b (nums_octets s) (by rw [nums_len]; unfold maxLen; omega))
      rw [nums_len] at HW
      cases hfw : fw (nums s) with
      | some j =>
        have HF := Lib.hid (fine_bad hlt (by rw [HS.out]; exact hfw))
        have HI := Lib.hid (fwI_some hfw)
        have hge : decide ((0 : Int) ≤ (j : Int)) = true := decide_eq_true (by omega)
        clear hfw hbw
        go_wp2_with fail
        refine (HW.out _).mono ?_
        rw [HI.out]
        rintro e w1 ⟨rfl, rfl⟩
        go_wp2
        go_ret
        exact ⟨by unfold joinOk; rw [HF.out]; rfl, below_bytes hB (by omega) s⟩
      | none =>
        have HN := Lib.hid hfw
        have HI := Lib.hid (fwI_none hfw)
        clear hfw hbw
        go_wp2_with fail
        refine (HW.out _).mono ?_
        rw [HI.out]
        rintro e w1 ⟨rfl, rfl⟩
        go_wp2
        go_roundw
        case rel =>
          refine ⟨k + 1, by omega, by go_num, below_bytes hB (by omega) s, fun j hj hj' => ?_⟩
          by_cases e : j = k
          · subst e; rw [HS.out]; exact HN.out
          · exact HQ.out j hj (by omega)
        case measure => simp [intOf]; omega
    · have hd : decide (k < ss.length) = false := decide_eq_false hlt
      have HF := Lib.hid (fine_all (fun j hj => HQ.out j hj (by omega)))
      by_cases h0 : ss.length = 0
      · have e : ss = [] := List.eq_nil_of_length_eq_zero h0
        subst e
        go_wp2
        go_ret
        exact ⟨rfl, hB⟩
      · obtain ⟨b, off, rfl, hb, hc⟩ := HA.out.below hB (by omega)
        have hc0 := hc 0 (by omega)
        have HJ := Lib.hid (joinOk_pos (by omega : 0 < ss.length))
        have hs0 : 0 < (ss[0]?.getD (⟨#[]⟩ : ByteArray)).size := by
          have := (fw_none_inv (HQ.out 0 (by omega) (by omega))).1
          rw [← nums_len]; exact List.length_pos_iff.2 this
        simp only [Nat.add_zero] at hc0
        obtain ⟨s, hs⟩ : ∃ s, ss[0]?.getD ⟨#[]⟩ = s := ⟨_, rfl⟩
        rw [hs] at hc0 hs0 HJ
        have hov := over_str s hs0
        have HO := Lib.hid hov
        have hgt : 0 < ss.length := by omega
        clear hov hc hs h0
        go_wp2
        go_ret
        exact ⟨by rw [HJ.out, HF.out, HO.out]; rfl, hB⟩
end Go.Proofs.Ytmpglmepmdpjoaa
