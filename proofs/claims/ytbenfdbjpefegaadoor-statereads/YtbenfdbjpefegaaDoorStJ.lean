/- Contracts of the layer state: appendTexts, Text. -/
import Derived.Test.YtbenfdbjpefegaaDoorStI
import Derived.Test.YtbenfdbjpefegaaDoorStE
namespace Go.Proofs.YtbenfdbjpefegaaDoor
open Go.RowKit Go.Maps
set_option linter.unusedVariables false

theorem put_len (n : Int) (h : Small n) : (putL n).length ≤ 20 := by
  have := (get_put n h.1 h.2).2.1
  rcases Nat.lt_or_ge 20 (putL n).length with h1 | h1
  · have := (get_long (putL n) h1).2.1; omega
  · exact h1
theorem txtOf_len : ∀ (l : List Int), (∀ x ∈ l, Small x) → (txtOf l).length ≤ 21 * l.length
  | [], _ => by simp [txtOf]
  | x :: r, h => by
    have h1 := put_len x (h x (by simp))
    have h2 := txtOf_len r (fun y hy => h y (List.mem_cons_of_mem _ hy))
    have : txtOf (x :: r) = (32 :: putL x) ++ txtOf r := rfl
    rw [this, List.length_append, List.length_cons, List.length_cons]; omega

def AppT (base : Nat) (ys : List UInt8) (w : World) (e : Ending) (w' : World) : Prop := ∃ v, e = .returned v ∧ Txt w' base v ys ∧ Below base w w'

set_option maxHeartbeats 2000000 in
theorem appT_any (base g0 cap0 : Nat) (bs : List UInt8) (A : Option Addr) (c : Nat) (l : List Int) (w : World)
    (htx : Txt w base (.slice (some ⟨g0, 0, none⟩) bs.length cap0) bs) (hA : IntsOff g0 w A l) (hbase : base ≤ w.heap.size) (hl : l.length ≤ 200) (hx : bs.length ≤ 1000) (hsm : ∀ x ∈ l, Small x) :
    Calls Tryd.prog 41 #[.slice (some ⟨g0, 0, none⟩) bs.length cap0, .slice A l.length c] w (AppT base (bs ++ txtOf l) w) := by
  have HTX := Lib.hid htx
  have HA := Lib.hid hA
  clear htx hA
  go_enter Tryd.func41, Tryd.ntmps41
  go_wp2
  go_loopw [0, 6, 9] (fun s0 s6 i wr => ∃ (k g cap m : Nat) (ys : List UInt8), k ≤ l.length ∧ i = .int .i64 k ∧ s0 = .slice (some ⟨g, 0, none⟩) m cap ∧ m = ys.length ∧ ys = bs ++ txtOf (l.take k) ∧ Txt wr base (.slice (some ⟨g, 0, none⟩) m cap) ys ∧ IntsOff g wr A l ∧ Below base w wr) (fun s0 s6 i wr => l.length - (intOf i).toNat)
  case atStart => exact ⟨0, g0, cap0, bs.length, bs, Nat.zero_le _, rfl, rfl, rfl, by simp [txtOf], HTX.out, HA.out, Below.refl _ _⟩
  case round =>
    obtain ⟨k, g, cap, m, ys, hk, rfl, rfl, hm, hys, htx, hoff, hB⟩ := hrel
    have HT := Lib.hid htx
    have HOFF := Lib.hid hoff
    have HYS := Lib.hid hys
    have HM := Lib.hid hm
    have HB := Lib.hid hB
    have hsz := hB.size
    have hyl : ys.length ≤ 10000 := by
      have := txtOf_len (l.take k) (fun x hx => hsm x (List.mem_of_mem_take hx))
      rw [List.length_take] at this
      rw [hys, List.length_append]; omega
    clear htx hoff hys hm hB
    by_cases hlt : k < l.length
    · obtain ⟨b, off, rfl, hb, hne, hc⟩ := HOFF.out (by omega)
      have hck := hc k hlt
      have hk0 : (0 : Int) ≤ (k : Int) := by omega
      have hk1 : (k : Int) < (l.length : Int) := by omega
      have hsk := small_at hsm k hlt
      have HST := Lib.hid (txtOf_take hlt)
      obtain ⟨x, hx'⟩ : ∃ x, l[k]?.getD 0 = x := ⟨_, rfl⟩
      rw [hx'] at hck hsk HST
      have hpl := put_len x hsk
      have HPUT := fun W => put_any x W hsk.1 hsk.2
      clear hc hx'
      have HGL := Lib.hid (HT.out.lt g rfl)
      go_wp2_with (at_builtin; refine wpList_txt _ rfl _ _ rfl base _ ys rfl HT.out ⟨#[32]⟩ rfl (by omega) (by omega) (by decide) ?_; intro v5 w5 ht5 hg5 hat5; obtain ⟨y5, hy5⟩ : ∃ y5, ys ++ (⟨#[32]⟩ : ByteArray).data.toList = y5 := ⟨_, rfl⟩; rw [hy5] at ht5; have HY5 := Lib.hid hy5; clear hy5; obtain ⟨g5, cap5, rfl⟩ := ht5.form; have HT5 := Lib.hid ht5; have HG5 := Lib.hid hg5; have HAT5 := Lib.hid hat5; clear ht5 hg5 hat5)
      have hs5 := HG5.out.size
      refine (HPUT w5).mono ?_
      rintro e w6 ⟨rfl, hB6⟩
      have HT6 := Lib.hid (HT5.out.below hB6)
      have hs6 := hB6.size
      have HB6 := Lib.hid hB6
      clear hB6
      have hyl5 : y5.length ≤ 10001 := by rw [← HY5.out, List.length_append]; simp; omega
      go_wp2_with (at_builtin; refine wpList_txt _ rfl _ _ rfl base _ y5 rfl HT6.out ⟨(putL x).toArray⟩ rfl (by omega) (by omega) (by rw [← bytes_len]; simp; omega) ?_; intro v7 w7 ht7 hg7 hat7; obtain ⟨y7, hy7⟩ : ∃ y7, y5 ++ (⟨(putL x).toArray⟩ : ByteArray).data.toList = y7 := ⟨_, rfl⟩; rw [hy7] at ht7; have HY7 := Lib.hid hy7; clear hy7; obtain ⟨g7, cap7, rfl⟩ := ht7.form; have HT7 := Lib.hid ht7; have HG7 := Lib.hid hg7; have HAT7 := Lib.hid hat7; clear ht7 hg7 hat7)
      go_roundw
      case rel =>
        have hgl := HGL.out
        have hg5l := HT5.out.lt g5 rfl
        have hs7 := HG7.out.size
        have hat5 : g5 = g ∨ g5 = wr.heap.size := by
          rcases HAT5.out with e | e
          · exact .inl (Option.some.inj e)
          · exact .inr (Option.some.inj e)
        have hat7 : g7 = g5 ∨ g7 = w6.heap.size := by
          rcases HAT7.out with e | e
          · exact .inl (Option.some.inj e)
          · exact .inr (Option.some.inj e)
        refine ⟨k + 1, g7, cap7, y7.length, y7, by omega, by go_num, rfl, rfl, ?_, HT7.out, ?_, ?_⟩
        · rw [← HY7.out, ← HY5.out, HYS.out, HST.out]; simp
        · have o5 : IntsOff g5 w5 (some ⟨b, off, none⟩) l := HOFF.out.on (fun k' h1 h2 => HG5.out.block k' h1 (fun e => h2 (Option.some.inj e))) hs5 (by omega)
          have o6 : IntsOff g5 w6 (some ⟨b, off, none⟩) l := o5.on (fun k' h1 h2 => HB6.out.block k' h1) hs6 (.inl rfl)
          exact o6.on (fun k' h1 h2 => HG7.out.block k' h1 (fun e => h2 (Option.some.inj e))) hs7 (by omega)
        · refine (nxt (HB.out.grown HG5.out (by omega) (fun k' e => by obtain rfl : g = k' := Option.some.inj e; exact hgl.1)) HB6.out (by omega)).grown HG7.out (by omega) (fun k' e => by obtain rfl : g5 = k' := Option.some.inj e; exact hg5l.1)
      case measure => simp [intOf]; omega
    · have hkl : l.take k = l := List.take_of_length_le (by omega)
      have hfin : ys = bs ++ txtOf l := by rw [HYS.out, hkl]
      have HFIN := Lib.hid hfin
      clear hkl hfin
      go_wp2
      go_ret
      refine ⟨_, rfl, ?_, HB.out⟩
      rw [← HFIN.out]; exact HT.out

def TextNo (r : Int) (w : World) (e : Ending) (w' : World) : Prop := e = .returned (.tuple #[.string ⟨#[]⟩, .int .i64 r]) ∧ Below w.heap.size w w'
def TextYes (bs : List UInt8) (w : World) (e : Ending) (w' : World) : Prop := e = .returned (.tuple #[.string ⟨bs.toArray⟩, .int .i64 0]) ∧ Below w.heap.size w w'

theorem text_no (t n : Int) (A : Option Addr) (c : Nat) (l : List Int) (w : World) (hA : Ints w A l) (hlen : l.length ≤ 200) (h : checkE t n l ≠ 0) :
    Calls Tryd.prog 13 #[stV t n A l.length c] w (TextNo (checkE t n l) w) := by
  have H := check_any t n A c l (w.alloc (.cells #[.int .i64 t, .int .i64 n, .slice A l.length c] 24)) (hA.below (alloc1 w _)) (by omega)
  unfold stV at *
  generalize checkE t n l = r at *
  have hb : (r != 0) = true := by rw [bne_iff_ne]; exact h
  go_enter Tryd.func13, Tryd.ntmps13
  go_wp2_with fail
  refine H.mono ?_
  rintro e w1 ⟨rfl, hB1⟩
  go_wp2
  go_ret2
  exact ⟨rfl, nxt (alloc1 w _) hB1 (by simp)⟩

theorem word_len (k : Nat) : (wordB k).size ≤ 7 := by unfold wordB; split <;> decide

theorem appT_m (base g0 cap0 m : Nat) (bs : List UInt8) (A : Option Addr) (c k : Nat) (l : List Int) (w : World) (hm : m = bs.length) (hk : k = l.length)
    (htx : Txt w base (.slice (some ⟨g0, 0, none⟩) m cap0) bs) (hA : IntsOff g0 w A l) (hbase : base ≤ w.heap.size) (hl : l.length ≤ 200) (hx : bs.length ≤ 1000) (hsm : ∀ x ∈ l, Small x) :
    Calls Tryd.prog 41 #[.slice (some ⟨g0, 0, none⟩) m cap0, .slice A k c] w (AppT base (bs ++ txtOf l) w) := by
  subst hm hk
  exact appT_any base g0 cap0 bs A c l w htx hA hbase hl hx hsm
theorem txt_str {w : World} {base g cap : Nat} {bs : List UInt8} (h : Txt w base (.slice (some ⟨g, 0, none⟩) bs.length cap) bs) : (convert 27 9 (.slice (some ⟨g, 0, none⟩) bs.length cap)).run Tryd.prog w = .ok (.string ⟨bs.toArray⟩) w := by
  have := conv_any (c := cap) h.bytes
  rwa [List.length_map, str_of] at this

set_option maxHeartbeats 2000000 in
theorem text_yes (t n : Int) (A : Option Addr) (c : Nat) (l : List Int) (w : World) (hw : Wds w) (hA : Ints w A l) (hlen : l.length ≤ 200) (hsm : ∀ x ∈ l, Small x) (hn : Small n) (h : checkE t n l = 0) :
    Calls Tryd.prog 13 #[stV t n A l.length c] w (TextYes (txtL t n l) w) := by
  obtain ⟨ht1, ht5, _⟩ := check_ok h
  obtain ⟨k, rfl⟩ := Int.eq_ofNat_of_zero_le (show 0 ≤ t by omega)
  have hB0 := alloc1 w (.cells #[.int .i64 (k : Int), .int .i64 n, .slice A l.length c] 24)
  have H := check_any k n A c l (w.alloc (.cells #[.int .i64 (k : Int), .int .i64 n, .slice A l.length c] 24)) (hA.below hB0) (by omega)
  rw [h] at H
  have HW := Lib.hid (Holds.new w 24 #[.int .i64 (k : Int), .int .i64 n, .slice A l.length c])
  have HA := Lib.hid (hA.below hB0)
  have HWD := Lib.hid (hw.on hB0)
  have hlt0 : w.heap.size < (w.alloc (.cells #[.int .i64 (k : Int), .int .i64 n, .slice A l.length c] 24)).heap.size := by simp
  have HL : txtL (k : Int) n l = wordL k ++ txtOf (numsOf k n l) := by unfold txtL; simp
  have HLH := Lib.hid HL
  have HSM := Lib.hid hsm
  have HN := Lib.hid hn
  unfold stV
  clear h hA hw HL hsm hn
  go_enter Tryd.func13, Tryd.ntmps13
  go_wp2_with fail
  refine H.mono ?_
  rintro e w1 ⟨rfl, hB1⟩
  generalize w.alloc (.cells #[.int .i64 (k : Int), .int .i64 n, .slice A l.length c] 24) = W0 at *
  have hsz1 := hB1.size
  have HW1 := Lib.hid (HW.out.below hB1 hlt0)
  have c0 := HW1.out.c (j := 0) rfl
  have c1 := HW1.out.c (j := 1) rfl
  have c2 := HW1.out.c (j := 2) rfl
  have HA1 := Lib.hid (HA.out.below hB1)
  have hcw := (HWD.out.on hB1) k (by omega)
  have HB1 := Lib.hid (nxt hB0 hB1 (by omega))
  have hk0 : (0 : Int) ≤ (k : Int) := by omega
  have hk1 : (k : Int) < 6 := by omega
  have hwl := word_len k
  obtain ⟨s, hs⟩ : ∃ s, wordB k = s := ⟨_, rfl⟩
  rw [hs] at hcw hwl
  obtain ⟨cc, hcv, htx, hBc⟩ := txt_conv w1 s w1.heap.size (Nat.le_refl _) (by omega)
  have hcv' := hcv 9 _ Tryd.underlying9
  have HS := Lib.hid (show s.data.toList = wordL k by rw [← hs]; rfl)
  have HTX := Lib.hid htx
  have HBC := Lib.hid hBc
  have hsc : (Lib.bytesWorld w1 5 s).heap.size = w1.heap.size + 1 := Lib.bytesWorld_size w1 _ s
  have HW2 := Lib.hid (HW1.out.below hBc (by omega))
  have d0 := HW2.out.c (j := 0) rfl
  have d1 := HW2.out.c (j := 1) rfl
  have d2 := HW2.out.c (j := 2) rfl
  have hsc2 : w1.heap.size < (Lib.bytesWorld w1 5 s).heap.size := by omega
  clear hcv htx hBc hs H hB0 hB1 hsc
  generalize Lib.bytesWorld w1 5 s = W2 at *
  go_wp2_with fail
  refine (single_any _ _).mono ?_
  rintro e w3 ⟨rfl, rfl⟩
  cases hsg : singB (k : Int)
  · go_wp2_with fail
    refine (appT_m w1.heap.size w1.heap.size cc s.size s.data.toList A c l.length l w3 (bytes_len s).symm rfl HTX.out (IntsOff.of (n := 0) HA1.out HBC.out (Nat.le_refl _)) (by omega) (by omega) (by rw [bytes_len]; omega) HSM.out).mono ?_
    rintro e w4 ⟨v4, rfl, ht4, hB4⟩
    obtain ⟨g4, cap4, rfl⟩ := ht4.form
    have cv4 := txt_str ht4
    obtain ⟨y4, hy4⟩ : ∃ y4, (s.data.toList ++ txtOf l) = y4 := ⟨_, rfl⟩
    rw [hy4] at ht4 cv4 ⊢
    have hfin : txtL (k : Int) n l = y4 := by rw [HLH.out, ← hy4, HS.out, numsOf, hsg]; rfl
    have HFIN := Lib.hid hfin
    clear hy4 hfin
    go_wp2
    go_ret2
    refine ⟨by rw [HFIN.out]; rfl, nxt (nxt HB1.out HBC.out (by omega)) hB4 (by omega)⟩
  · go_wp2_with fail
    refine (appT_m w1.heap.size w1.heap.size cc s.size s.data.toList (some ⟨w3.heap.size, 0, none⟩) 1 1 [n] (w3.alloc (.cells #[.int .i64 n] 3)) (bytes_len s).symm rfl (HTX.out.below (alloc1 w3 _)) (intsOff_lit _ _ _ _ (by omega)) (by simp; omega) (by simp) (by rw [bytes_len]; omega) (fun x hx => by simp at hx; subst hx; exact HN.out)).mono ?_
    rintro e w4 ⟨v4, rfl, ht4, hB4⟩
    obtain ⟨g4, cap4, rfl⟩ := ht4.form
    have cv4 := txt_str ht4
    obtain ⟨y4, hy4⟩ : ∃ y4, (s.data.toList ++ txtOf [n]) = y4 := ⟨_, rfl⟩
    rw [hy4] at ht4 cv4 ⊢
    have hfin : txtL (k : Int) n l = y4 := by rw [HLH.out, ← hy4, HS.out, numsOf, hsg]; rfl
    have HFIN := Lib.hid hfin
    clear hy4 hfin
    go_wp2
    go_ret2
    refine ⟨by rw [HFIN.out]; rfl, nxt (nxt HB1.out HBC.out (by omega)) (nxt ((alloc1 w3 _).mono (show w1.heap.size ≤ w3.heap.size by omega)) hB4 (Nat.le_refl _)) (by omega)⟩
end Go.Proofs.YtbenfdbjpefegaaDoor
