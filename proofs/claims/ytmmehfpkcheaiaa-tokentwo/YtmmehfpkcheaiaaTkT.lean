/- The document's words of a line. -/
import Derived.Test.YtmmehfpkcheaiaaTkL
import Derived.Test.YtmmehfpkcheaiaaTkS
namespace Go.Proofs.Ytmmehfpkcheaiaa
open Go.RowKit
set_option linter.unusedVariables false

def WordsPost (tot : List Wd) (w : World) (e : Ending) (w' : World) : Prop :=
  Below w.heap.size w w' ∧
  ((∃ v, tot.findSome? wordF = none ∧ e = .returned (.tuple #[v, .int .i64 0, .bool true]) ∧ w'.ownsRow w.heap.size 36 2 v tot.length (wordCells tot)) ∨
   (∃ f : Nat × Nat, tot.findSome? wordF = some f ∧ e = .returned (.tuple #[.slice none 0 0, .int .i64 f.2, .bool false])))

theorem BytesB.at {B : Nat} {w : World} {A : Option Addr} {bs : List Int} (h : BytesB B w A bs) (hp : 0 < bs.length) : ∃ b off, A = some ⟨b, off, none⟩ ∧ b < B ∧ ∀ j, j < bs.length → w.cell? ⟨b, off + j, none⟩ = some (.int .u8 (at0 bs j)) := h hp

theorem seg_bytes {B : Nat} {w : World} {b off : Nat} {bs : List Int} {a i : Nat} (h : i ≤ bs.length) (hb : b < B) (hc : ∀ j, j < bs.length → w.cell? ⟨b, off + j, none⟩ = some (.int .u8 (at0 bs j))) : BytesB B w (some ⟨b, off + a, none⟩) (seg bs a i) := by
  intro hl
  refine ⟨b, off + a, rfl, hb, fun j hj => ?_⟩
  rw [Nat.add_assoc, hc (a + j) (by rw [seg_len h] at hj; omega), List.getElem?_eq_getElem hj, seg_get h hj]; rfl

theorem octet_at0 {bs : List Int} (h : Octets bs) (j : Nat) : 0 ≤ at0 bs j ∧ at0 bs j ≤ 255 := by
  unfold at0
  by_cases hj : j < bs.length
  · exact octet_at h j hj
  · rw [List.getElem?_eq_none (by omega)]; simp

theorem tot_fault {pre tot : List Wd} {p : Nat} {r q : List Int} {t : List Wd} {k : Nat} (h : tot = pre ++ cuts 32 p r) (hf : pre.findSome? wordF = none) (hc : cuts 32 p r = (p, q) :: t) (hw : fw q = some k) : tot.findSome? wordF = some (5, p + k) := by
  rw [h, find_app_none hf, hc, List.findSome?_cons, wordF_some (x := (p, q)) hw]
theorem tot_fine {pre : List Wd} {p : Nat} {q : List Int} (hf : pre.findSome? wordF = none) (hw : fw q = none) : (pre ++ [(p, q)]).findSome? wordF = none := by
  rw [find_snoc hf]; exact wordF_none (x := (p, q)) hw

set_option maxHeartbeats 4000000 in
theorem rwords_any (A : Option Addr) (c : Nat) (bs : List Int) (a e0 : Nat) (w : World) (hA : Bytes w A bs) (ho : Octets bs) (hc : bs.length ≤ c) (hm : bs.length ≤ 67108864) (hae : a < e0) (he : e0 ≤ bs.length) :
    Calls Try.prog 24 #[.slice A bs.length c, .int .i64 a, .int .i64 e0] w (WordsPost (cuts 32 a (seg bs a e0)) w) := by
  obtain ⟨i0, hi, hz0, hz1, hz2⟩ := info_parts info_word
  obtain ⟨b, off, rfl, hb, hcs⟩ := BytesB.at hA.b (by omega)
  have HCS := Lib.hid hcs
  have HO := Lib.hid (octet_at0 ho)
  clear hA ho hcs
  have hTot : (cuts 32 a (seg bs a e0)).length ≤ e0 - a + 1 := by
    have := cuts_len 32 (seg bs a e0) a
    rw [seg_len he] at this; exact this
  obtain ⟨tot, htot⟩ : ∃ tot, cuts 32 a (seg bs a e0) = tot := ⟨_, rfl⟩
  rw [htot] at hTot ⊢
  have HTot := Lib.hid htot
  clear htot
  go_enter Try.func24, Try.ntmps24
  go_wp2
  go_loopw [9, 10] (fun s9 s10 wr => ∃ (p : Nat) (pre : List Wd), s10 = .int .i64 p ∧ a ≤ p ∧ p ≤ e0 ∧ tot = pre ++ cuts 32 p (seg bs p e0) ∧ pre.findSome? wordF = none ∧ wr.ownsRow w.heap.size 36 2 s9 pre.length (wordCells pre) ∧ Below w.heap.size w wr) (fun s9 s10 wr => e0 + 1 - (intOf s10).toNat)
  case atStart => exact ⟨a, [], rfl, Nat.le_refl _, by omega, HTot.out.symm, rfl, World.ownsRow_nil _ _ _ _, Below.refl _ _⟩
  case round =>
    obtain ⟨p, pre, rfl, hap, hpe, hcut, hfin, hrow, hB⟩ := hrel
    have hpl : pre.length ≤ e0 - a + 1 := by rw [hcut, List.length_append] at hTot; omega
    have HCut := Lib.hid hcut
    have HFin := Lib.hid hfin
    have HRow := Lib.hid hrow
    have hwr := hB.size
    obtain ⟨A9, c9, rfl⟩ := row_one hrow
    clear hcut hfin hrow
    go_wp2
    go_loop [10] (fun s10 => ∃ i : Nat, s10 = .int .i64 i ∧ p ≤ i ∧ i ≤ e0 ∧ ∀ j, p ≤ j → j < i → bad (at0 bs j) = false) (fun s10 => e0 - (intOf s10).toNat)
    case atStart => exact ⟨p, rfl, Nat.le_refl _, hpe, fun j h1 h2 => absurd h2 (by omega)⟩
    case round =>
      obtain ⟨i, rfl, hpi, hie, hg⟩ := hrel
      have HG := Lib.hid hg
      clear hg
      by_cases hlt : i < e0
      · have hck := (hB.cell (p := ⟨b, off + i, none⟩) hb).trans (HCS.out i (by omega))
        have hli : i < bs.length := by omega
        obtain ⟨x, hx⟩ : ∃ x, at0 bs i = x := ⟨_, rfl⟩
        rw [hx] at hck
        have HX := Lib.hid hx
        clear hx
        cases hbd : bad x with
        | false =>
          have HB := Lib.hid hbd
          clear hbd
          go_wp2_with fail
          refine (plain_any _ _).mono ?_
          rw [HB.out]
          rintro e w1 ⟨rfl, rfl⟩
          go_wp2
          go_roundw
          case rel =>
            refine ⟨i + 1, by go_num, by omega, by omega, fun j h1 h2 => ?_⟩
            by_cases e : j = i
            · subst e; rw [HX.out]; exact HB.out
            · exact HG.out j h1 (by omega)
          case measure => simp [intOf]; omega
        | true =>
          have HB := Lib.hid hbd
          clear hbd
          by_cases hip : i = p
          · subst hip
            obtain ⟨q, t, hc1, hc2⟩ := piece0 hpe he (.inr (by rw [HX.out]; exact HB.out))
            have HF := Lib.hid (tot_fault HCut.out HFin.out hc1 hc2)
            have hee : ((i : Int) == (i : Int)) = true := by simp
            clear hc1 hc2
            go_wp2_with fail
            refine (plain_any _ _).mono ?_
            rw [HB.out]
            rintro e w1 ⟨rfl, rfl⟩
            go_wp2
            refine bodyPost_ret (v := .tuple #[.slice none 0 0, .int .i64 i, .bool false]) (by simp [results, Try.f24, go_sem]) rfl ?_
            exact ⟨hB, .inr ⟨_, HF.out, rfl⟩⟩
          · have hne : ((i : Int) == (p : Int)) = false := beq_eq_false_iff_ne.2 (by omega)
            have hne2 : ((i : Int) == (e0 : Int)) = false := beq_eq_false_iff_ne.2 (by omega)
            have hcp : ¬ c = p := by omega
            have hlp : p ≤ i := hpi
            have hlc : i ≤ c := by omega
            have hcv := conv_some _ wr (some ⟨b, off + p, none⟩) (c - p) (seg bs p i) (seg_bytes (by omega) hb (fun j hj => (hB.cell (p := ⟨b, off + j, none⟩) hb).trans (HCS.out j hj))) (seg_ne (by omega) (by omega))
            rw [seg_len (by omega)] at hcv
            have hml : pre.length + 1 ≤ maxLen := by unfold maxLen; omega
            by_cases h32 : x = 32
            · have hP := piece3 (bs := bs) (a := p) (i := i) (e := e0) (by omega) hlt he HG.out (by rw [HX.out]; exact h32)
              have HP := Lib.hid hP
              have hb32 : (x == 32) = true := by rw [h32]; rfl
              clear hP h32
              go_wp2_with (first
                | (at_builtin; refine wpList_append_own _ rfl _ _ 32 rfl w.heap.size 36 i0 (.agg #[.string ⟨#[]⟩, .int .i64 0]) 2 24 Try.underlying32 hi hz0 hz1 hz2 rfl (by decide) _ _ _ rfl (HRow.out.alloc _) ⟨wr.heap.size, 0, none⟩ 1 1 [.string (strOfNums (seg bs p i)), .int .i64 p] rfl rfl (cell_two_new _ _ _ _) (by simp [Value.oneCell']) hml (by omega) (by simp; omega) ?_; intro v' w1 hown' hgrow _; have hB1 : Below w.heap.size w w1 := (hB.alloc hwr _).grown hgrow (by simp; omega) (fun k e => (HRow.out.lt k e).1); obtain ⟨A', c', rfl⟩ := row_one hown'; have hck1 := (hB1.cell (p := ⟨b, off + i, none⟩) hb).trans (HCS.out i hli); rw [HX.out] at hck1)
                | (go_at_call 27; refine (plain_any _ _).mono ?_; rw [HB.out]; rintro e w1 ⟨rfl, rfl⟩))
              go_roundw
              case rel =>
                refine ⟨i + 1, pre ++ [(p, seg bs p i)], by go_num, by omega, by omega, ?_, tot_fine HFin.out HP.out.2, ?_, hB1⟩
                · rw [HCut.out, HP.out.1]; simp
                · rw [List.length_append, wordCells_snoc]; exact hown'
              case measure => simp [intOf]; omega
            · obtain ⟨q, t, hc1, hc2⟩ := piece1 (bs := bs) (a := p) (i := i) (e := e0) (by omega) hlt he HG.out (by rw [HX.out]; exact HB.out) (by rw [HX.out]; exact h32)
              have HF := Lib.hid (tot_fault HCut.out HFin.out hc1 hc2)
              have hb32 : (x == 32) = false := beq_eq_false_iff_ne.2 h32
              have hip2 : p + (i - p) = i := by omega
              rw [hip2] at HF
              clear hc1 hc2 hip2
              go_wp2_with (first
                | (at_builtin; refine wpList_append_own _ rfl _ _ 32 rfl w.heap.size 36 i0 (.agg #[.string ⟨#[]⟩, .int .i64 0]) 2 24 Try.underlying32 hi hz0 hz1 hz2 rfl (by decide) _ _ _ rfl (HRow.out.alloc _) ⟨wr.heap.size, 0, none⟩ 1 1 [.string (strOfNums (seg bs p i)), .int .i64 p] rfl rfl (cell_two_new _ _ _ _) (by simp [Value.oneCell']) hml (by omega) (by simp; omega) ?_; intro v' w1 hown' hgrow _; have hB1 : Below w.heap.size w w1 := (hB.alloc hwr _).grown hgrow (by simp; omega) (fun k e => (HRow.out.lt k e).1); obtain ⟨A', c', rfl⟩ := row_one hown'; have hck1 := (hB1.cell (p := ⟨b, off + i, none⟩) hb).trans (HCS.out i hli); rw [HX.out] at hck1)
                | (go_at_call 27; refine (plain_any _ _).mono ?_; rw [HB.out]; rintro e w1 ⟨rfl, rfl⟩))
              refine bodyPost_ret (v := .tuple #[.slice none 0 0, .int .i64 i, .bool false]) (by simp [results, Try.f24, go_sem]) rfl ?_
              exact ⟨hB1, .inr ⟨_, HF.out, rfl⟩⟩
      · have hd : decide (i < e0) = false := decide_eq_false hlt
        obtain rfl : i = e0 := by omega
        by_cases hip : i = p
        · subst hip
          obtain ⟨q, t, hc1, hc2⟩ := piece0 hpe he (.inl rfl)
          have HF := Lib.hid (tot_fault HCut.out HFin.out hc1 hc2)
          have hee : ((i : Int) == (i : Int)) = true := by simp
          clear hc1 hc2
          go_wp2
          refine bodyPost_ret (v := .tuple #[.slice none 0 0, .int .i64 i, .bool false]) (by simp [results, Try.f24, go_sem]) rfl ?_
          exact ⟨hB, .inr ⟨_, HF.out, rfl⟩⟩
        · have hne : ((i : Int) == (p : Int)) = false := beq_eq_false_iff_ne.2 (by omega)
          have hee : ((i : Int) == (i : Int)) = true := by simp
          have hcp : ¬ c = p := by omega
          have hlp : p ≤ i := hpi
          have hlc : i ≤ c := by omega
          have hcv := conv_some _ wr (some ⟨b, off + p, none⟩) (c - p) (seg bs p i) (seg_bytes (by omega) hb (fun j hj => (hB.cell (p := ⟨b, off + j, none⟩) hb).trans (HCS.out j hj))) (seg_ne (by omega) (by omega))
          rw [seg_len (by omega)] at hcv
          have hml : pre.length + 1 ≤ maxLen := by unfold maxLen; omega
          have hP := piece2 (bs := bs) (a := p) (e := i) (by omega) he HG.out
          have HP := Lib.hid hP
          clear hP
          go_wp2_with (at_builtin; refine wpList_append_own _ rfl _ _ 32 rfl w.heap.size 36 i0 (.agg #[.string ⟨#[]⟩, .int .i64 0]) 2 24 Try.underlying32 hi hz0 hz1 hz2 rfl (by decide) _ _ _ rfl (HRow.out.alloc _) ⟨wr.heap.size, 0, none⟩ 1 1 [.string (strOfNums (seg bs p i)), .int .i64 p] rfl rfl (cell_two_new _ _ _ _) (by simp [Value.oneCell']) hml (by omega) (by simp; omega) ?_; intro v' w1 hown' hgrow _; have hB1 : Below w.heap.size w w1 := (hB.alloc hwr _).grown hgrow (by simp; omega) (fun k e => (HRow.out.lt k e).1); obtain ⟨A', c', rfl⟩ := row_one hown')
          refine bodyPost_ret (v := .tuple #[.slice A' (pre.length + 1) c', .int .i64 0, .bool true]) (by simp [results, Try.f24, go_sem]) rfl ?_
          have e1 : tot = pre ++ [(p, seg bs p i)] := by rw [HCut.out, HP.out.1]
          refine ⟨hB1, .inl ⟨.slice A' (pre.length + 1) c', ?_, rfl, ?_⟩⟩
          · rw [e1]; exact tot_fine HFin.out HP.out.2
          · rw [e1, List.length_append, wordCells_snoc]; exact hown'
end Go.Proofs.Ytmmehfpkcheaiaa
