/- Texts of earlier stages over this seat, joined: TkL TkS TkT TkU. -/
import Derived.Test.YtakbphjdfgidmaaGreatDoorGb
set_option maxRecDepth 100000
namespace Go.Proofs.YtakbphjdfgidmaaGreatDoor
open Go.RowKit
set_option linter.unusedVariables false

set_option maxHeartbeats 400000 in
theorem plain_any (x : Int) (w : World) : Calls Tryz.prog 107 #[.int .u8 x] w fun e w' => e = .returned (.bool (!(bad x))) ∧ w = w' := by
  by_cases h33 : x < 33
  · have hd : decide ((33 : Int) ≤ x) = false := decide_eq_false (by omega)
    have HB : Hid (bad x = true) := Lib.hid (by simp [bad, h33])
    go_enter Tryz.func107, Tryz.ntmps107
    go_wp2
    go_ret
    exact ⟨by rw [HB.out]; rfl, rfl⟩
  · have hd : decide ((33 : Int) ≤ x) = true := decide_eq_true (by omega)
    by_cases h126 : 126 < x
    · have hd2 : decide (x ≤ (126 : Int)) = false := decide_eq_false (by omega)
      have HB : Hid (bad x = true) := Lib.hid (by simp [bad, h126])
      go_enter Tryz.func107, Tryz.ntmps107
      go_wp2
      go_ret
      exact ⟨by rw [HB.out]; rfl, rfl⟩
    · have hd2 : decide (x ≤ (126 : Int)) = true := decide_eq_true (by omega)
      have HB : Hid (bad x = false) := Lib.hid (by simp [bad]; omega)
      go_enter Tryz.func107, Tryz.ntmps107
      go_wp2
      go_ret
      exact ⟨by rw [HB.out]; rfl, rfl⟩

theorem tt_str_join (a b : List Int) : strOfNums a ++ strOfNums b = strOfNums (a ++ b) := by
  apply ByteArray.ext
  rw [ByteArray.data_append]
  simp [strOfNums]
theorem str_space (a : List Int) : strOfNums a ++ ⟨#[32]⟩ = strOfNums (a ++ [32]) := by
  rw [← tt_str_join]; rfl
theorem str_size (a : List Int) : (strOfNums a).size = a.length := strOfNums_size a

theorem tt_nums_at (s : ByteArray) (k : Nat) (h : k < s.size) : (nums s)[k]'(by rw [nums_len]; exact h) = (s[k].toNat : Int) := by
  simp [nums]; rfl

theorem joinE_bad {ss : List ByteArray} (h : joinOk ss = false) : jE ss = 5 ∧ jS ss = [] := ⟨by simp [jE, h], by simp [jS, h]⟩
theorem joinOk_bad {ss : List ByteArray} (h : fineW ss = false) : joinOk ss = false := by unfold joinOk; rw [h]; rfl

end Go.Proofs.YtakbphjdfgidmaaGreatDoor

namespace Go.Proofs.YtakbphjdfgidmaaGreatDoor
open Go.RowKit

def at0 (bs : List Int) (j : Nat) : Int := bs[j]?.getD 0
/-- The bytes from a to e. -/
def seg (bs : List Int) (a e : Nat) : List Int := (bs.take e).drop a

theorem seg_len {bs : List Int} {a e : Nat} (h : e ≤ bs.length) : (seg bs a e).length = e - a := by
  unfold seg; rw [List.length_drop, List.length_take]; omega
theorem seg_cons {bs : List Int} {a e : Nat} (ha : a < e) (h : e ≤ bs.length) : seg bs a e = at0 bs a :: seg bs (a + 1) e := by
  unfold seg at0
  have hl : a < (bs.take e).length := by rw [List.length_take]; omega
  rw [List.drop_eq_getElem_cons hl]
  congr 1
  rw [List.getElem_take, List.getElem?_eq_getElem (by omega)]; rfl
theorem seg_nil (bs : List Int) (a : Nat) : seg bs a a = [] := by
  unfold seg; exact List.drop_eq_nil_of_le (by rw [List.length_take]; omega)
theorem seg_all (bs : List Int) : seg bs 0 bs.length = bs := by unfold seg; simp
theorem seg_snoc {bs : List Int} : ∀ {n a e : Nat}, e - a = n → a ≤ e → e < bs.length → seg bs a (e + 1) = seg bs a e ++ [at0 bs e]
  | 0, a, e, hn, hae, h => by
    obtain rfl : a = e := by omega
    rw [seg_cons (by omega) (by omega), seg_nil, seg_nil]; rfl
  | n + 1, a, e, hn, hae, h => by
    rw [seg_cons (by omega) (by omega), seg_cons (a := a) (e := e) (by omega) (by omega), seg_snoc (n := n) (a := a + 1) (by omega) (by omega) h]; rfl
theorem seg_split {bs : List Int} : ∀ {n a i e : Nat}, i - a = n → a ≤ i → i ≤ e → e ≤ bs.length → seg bs a e = seg bs a i ++ seg bs i e
  | 0, a, i, e, hn, hai, hie, h => by
    obtain rfl : a = i := by omega
    rw [seg_nil]; rfl
  | n + 1, a, i, e, hn, hai, hie, h => by
    rw [seg_cons (by omega) h, seg_cons (a := a) (e := i) (by omega) (by omega), seg_split (n := n) (a := a + 1) (i := i) (by omega) (by omega) hie h]; rfl
theorem seg_mem {bs : List Int} {a e : Nat} {x : Int} (h : e ≤ bs.length) (hx : x ∈ seg bs a e) : ∃ j, a ≤ j ∧ j < e ∧ x = at0 bs j := by
  obtain ⟨k, hk, rfl⟩ := List.mem_iff_getElem.1 hx
  rw [seg_len h] at hk
  refine ⟨a + k, by omega, by omega, ?_⟩
  simp only [seg, at0, List.getElem_drop, List.getElem_take]
  rw [List.getElem?_eq_getElem (by omega)]; rfl
theorem seg_get {bs : List Int} {a e k : Nat} (h : e ≤ bs.length) (hk : k < (seg bs a e).length) : (seg bs a e)[k] = at0 bs (a + k) := by
  rw [seg_len h] at hk
  simp only [seg, at0, List.getElem_drop, List.getElem_take]
  rw [List.getElem?_eq_getElem (by omega)]; rfl

theorem cuts_pre {sep : Int} : ∀ (q s : List Int) (o : Nat) (p : List Int) (t : List (Nat × List Int)), sep ∉ q → cuts sep (o + q.length) s = (o + q.length, p) :: t → cuts sep o (q ++ s) = (o, q ++ p) :: t
  | [], s, o, p, t, _, h => by simpa using h
  | x :: q, s, o, p, t, hq, h => by
    have hx : x ≠ sep := fun e => hq (by simp [e])
    rw [List.length_cons, show o + (q.length + 1) = o + 1 + q.length by omega] at h
    exact cuts_cons_ne hx o _ _ _ (cuts_pre q s (o + 1) p t (fun e => hq (by simp [e])) h)

theorem bad_space : bad 32 = true := by decide

theorem good_no_space {l : List Int} (h : ∀ x ∈ l, bad x = false) : (32 : Int) ∉ l := fun e => by
  have := h _ e; rw [bad_space] at this; cases this

/-- No word begins here. -/
theorem piece0 {bs : List Int} {a e : Nat} (hae : a ≤ e) (h : e ≤ bs.length) (hb : a = e ∨ bad (at0 bs a) = true) : ∃ p t, cuts 32 a (seg bs a e) = (a, p) :: t ∧ fw p = some 0 := by
  by_cases he : a = e
  · subst he
    rw [seg_nil]; exact ⟨[], [], rfl, fw_nil⟩
  · have hb' : bad (at0 bs a) = true := by rcases hb with h | h; exact absurd h he; exact h
    rw [seg_cons (by omega) h]
    by_cases h32 : at0 bs a = 32
    · rw [cuts, if_pos h32]; exact ⟨[], _, rfl, fw_nil⟩
    · obtain ⟨p, t, hp⟩ := cuts_head 32 (seg bs (a + 1) e) (a + 1)
      rw [cuts_cons_ne h32 a _ p t hp]
      exact ⟨_, _, rfl, fw_some (k := 0) (by simp) hb' (fun j _ hj => absurd hj (by omega))⟩

theorem seg_good {bs : List Int} {a i : Nat} (h : i ≤ bs.length) (hg : ∀ j, a ≤ j → j < i → bad (at0 bs j) = false) : ∀ x ∈ seg bs a i, bad x = false := by
  intro x hx
  obtain ⟨j, h1, h2, rfl⟩ := seg_mem h hx
  exact hg j h1 h2

/-- A word with a byte that is none of a word's. -/
theorem piece1 {bs : List Int} {a i e : Nat} (hai : a < i) (hie : i < e) (h : e ≤ bs.length) (hg : ∀ j, a ≤ j → j < i → bad (at0 bs j) = false) (hb : bad (at0 bs i) = true) (h32 : at0 bs i ≠ 32) :
    ∃ p t, cuts 32 a (seg bs a e) = (a, p) :: t ∧ fw p = some (i - a) := by
  have hgs := seg_good (by omega) hg
  have hlen := seg_len (bs := bs) (a := a) (e := i) (by omega)
  obtain ⟨p, t, hp⟩ := cuts_head 32 (seg bs (i + 1) e) (i + 1)
  have h1 := cuts_cons_ne h32 i _ p t hp
  rw [← seg_cons hie h] at h1
  have hL : a + (seg bs a i).length = i := by rw [hlen]; omega
  rw [seg_split (n := i - a) rfl (by omega) (by omega) h, cuts_pre (seg bs a i) _ a _ t (good_no_space hgs) (by rw [hL]; exact h1)]
  refine ⟨_, _, rfl, fw_some (by rw [List.length_append, hlen]; simp) ?_ ?_⟩
  · rw [List.getElem_append_right (by omega)]; simp [hlen, hb]
  · intro j hj hji
    rw [List.getElem_append_left (by omega)]
    exact hgs _ (List.getElem_mem _)

theorem seg_ne {bs : List Int} {a i : Nat} (hai : a < i) (h : i ≤ bs.length) : seg bs a i ≠ [] := fun e => by
  have := seg_len (bs := bs) (a := a) h
  rw [e] at this; simp at this; omega

/-- The last word. -/
theorem piece2 {bs : List Int} {a e : Nat} (hae : a < e) (h : e ≤ bs.length) (hg : ∀ j, a ≤ j → j < e → bad (at0 bs j) = false) : cuts 32 a (seg bs a e) = [(a, seg bs a e)] ∧ fw (seg bs a e) = none :=
  ⟨cuts_none _ _ (good_no_space (seg_good h hg)), fw_none (seg_ne hae h) (seg_good h hg)⟩

/-- A word, and more. -/
theorem piece3 {bs : List Int} {a i e : Nat} (hai : a < i) (hie : i < e) (h : e ≤ bs.length) (hg : ∀ j, a ≤ j → j < i → bad (at0 bs j) = false) (h32 : at0 bs i = 32) :
    cuts 32 a (seg bs a e) = (a, seg bs a i) :: cuts 32 (i + 1) (seg bs (i + 1) e) ∧ fw (seg bs a i) = none := by
  refine ⟨?_, fw_none (seg_ne hai (by omega)) (seg_good (by omega) hg)⟩
  rw [seg_split (n := i - a) rfl (by omega) (by omega) h, seg_cons hie h, h32, cuts_sep _ _ _ (good_no_space (seg_good (by omega) hg)), seg_len (by omega)]
  rw [show a + (i - a) + 1 = i + 1 by omega]

/-- A line, and more. -/
theorem line3 {bs : List Int} {a i : Nat} (hai : a ≤ i) (hi : i < bs.length) (hg : ∀ j, a ≤ j → j < i → at0 bs j ≠ 10) (h10 : at0 bs i = 10) :
    cuts 10 a (seg bs a bs.length) = (a, seg bs a i) :: cuts 10 (i + 1) (seg bs (i + 1) bs.length) := by
  have hno : (10 : Int) ∉ seg bs a i := fun e => by
    obtain ⟨j, h1, h2, h3⟩ := seg_mem (by omega) e
    exact hg j h1 h2 h3.symm
  rw [seg_split (n := i - a) rfl hai (by omega) (Nat.le_refl _), seg_cons hi (Nat.le_refl _), h10, cuts_sep _ _ _ hno, seg_len (by omega)]
  rw [show a + (i - a) + 1 = i + 1 by omega]
/-- The last line. -/
theorem line2 {bs : List Int} {a : Nat} (hg : ∀ j, a ≤ j → j < bs.length → at0 bs j ≠ 10) : cuts 10 a (seg bs a bs.length) = [(a, seg bs a bs.length)] :=
  cuts_none _ _ (fun e => by
    obtain ⟨j, h1, h2, h3⟩ := seg_mem (Nat.le_refl _) e
    exact hg j h1 h2 h3.symm)

theorem find_app_none {α β : Type} {f : α → Option β} {xs ys : List α} (h : xs.findSome? f = none) : (xs ++ ys).findSome? f = ys.findSome? f := by
  rw [List.findSome?_append, h]; simp
theorem over_seg {bs : List Int} {a e : Nat} (hae : a < e) (h : e ≤ bs.length) : over (seg bs a e) = (at0 bs a == 35) := by rw [seg_cons hae h]; rfl
end Go.Proofs.YtakbphjdfgidmaaGreatDoor

namespace Go.Proofs.YtakbphjdfgidmaaGreatDoor
open Go.RowKit
set_option linter.unusedVariables false

def WordsPost (tot : List Wd) (w : World) (e : Ending) (w' : World) : Prop :=
  Below w.heap.size w w' ∧
  ((∃ v, tot.findSome? wordF = none ∧ e = .returned (.tuple #[v, .int .i64 0, .bool true]) ∧ w'.ownsRow w.heap.size 112 2 v tot.length (wordCells tot)) ∨
   (∃ f : Nat × Nat, tot.findSome? wordF = some f ∧ e = .returned (.tuple #[.slice none 0 0, .int .i64 f.2, .bool false])))

theorem BytesB.at {B : Nat} {w : World} {A : Option Addr} {bs : List Int} (h : BytesB B w A bs) (hp : 0 < bs.length) : ∃ b off, A = some ⟨b, off, none⟩ ∧ b < B ∧ ∀ j, j < bs.length → w.cell? ⟨b, off + j, none⟩ = some (.int .u8 (at0 bs j)) := h hp

theorem seg_bytes {B : Nat} {w : World} {b off : Nat} {bs : List Int} {a i : Nat} (h : i ≤ bs.length) (hb : b < B) (hc : ∀ j, j < bs.length → w.cell? ⟨b, off + j, none⟩ = some (.int .u8 (at0 bs j))) : BytesB B w (some ⟨b, off + a, none⟩) (seg bs a i) := by
  intro hl
  refine ⟨b, off + a, rfl, hb, fun j hj => ?_⟩
  rw [Nat.add_assoc, hc (a + j) (by rw [seg_len h] at hj; omega), List.getElem?_eq_getElem hj, seg_get h hj]; rfl

theorem octet_at0 {bs : List Int} (h : Octets bs) (j : Nat) : 0 ≤ at0 bs j ∧ at0 bs j ≤ 255 := by
  unfold at0
  by_cases hj : j < bs.length
  · exact octet_at h j hj
  · rw [List.getElem?_eq_none (by omega)]; simp

theorem tot_fault {pre tot : List Wd} {p : Nat} {r q : List Int} {t : List Wd} {k : Nat} (h : tot = pre ++ cuts 32 p r) (hf : pre.findSome? wordF = none) (hc : cuts 32 p r = (p, q) :: t) (hw : fw q = some k) : tot.findSome? wordF = some (5, p + k) := by
  rw [h, find_app_none hf, hc, List.findSome?_cons, wordF_some (x := (p, q)) hw]
theorem tot_fine {pre : List Wd} {p : Nat} {q : List Int} (hf : pre.findSome? wordF = none) (hw : fw q = none) : (pre ++ [(p, q)]).findSome? wordF = none := by
  rw [find_snoc hf]; exact wordF_none (x := (p, q)) hw

set_option maxHeartbeats 4000000 in
theorem tt_rwords_any (A : Option Addr) (c : Nat) (bs : List Int) (a e0 : Nat) (w : World) (hA : Bytes w A bs) (ho : Octets bs) (hc : bs.length ≤ c) (hm : bs.length ≤ 67108864) (hae : a < e0) (he : e0 ≤ bs.length) :
    Calls Tryz.prog 83 #[.slice A bs.length c, .int .i64 a, .int .i64 e0] w (WordsPost (cuts 32 a (seg bs a e0)) w) := by
  obtain ⟨i0, hi, hz0, hz1, hz2⟩ := info_parts info_word
  obtain ⟨b, off, rfl, hb, hcs⟩ := BytesB.at hA.b (by omega)
  have HCS := Lib.hid hcs
  have HO := Lib.hid (octet_at0 ho)
  clear hA ho hcs
  have hTot : (cuts 32 a (seg bs a e0)).length ≤ e0 - a + 1 := by
    have := cuts_len 32 (seg bs a e0) a
    rw [seg_len he] at this; exact this
  obtain ⟨tot, htot⟩ : ∃ tot, cuts 32 a (seg bs a e0) = tot := ⟨_, rfl⟩
  rw [htot] at hTot ⊢
  have HTot := Lib.hid htot
  clear htot
  go_enter Tryz.func83, Tryz.ntmps83
  go_wp2
  go_loopw [9, 10] (fun s9 s10 wr => ∃ (p : Nat) (pre : List Wd), s10 = .int .i64 p ∧ a ≤ p ∧ p ≤ e0 ∧ tot = pre ++ cuts 32 p (seg bs p e0) ∧ pre.findSome? wordF = none ∧ wr.ownsRow w.heap.size 112 2 s9 pre.length (wordCells pre) ∧ Below w.heap.size w wr) (fun s9 s10 wr => e0 + 1 - (intOf s10).toNat)
  case atStart => exact ⟨a, [], rfl, Nat.le_refl _, by omega, HTot.out.symm, rfl, World.ownsRow_nil _ _ _ _, Below.refl _ _⟩
  case round =>
    obtain ⟨p, pre, rfl, hap, hpe, hcut, hfin, hrow, hB⟩ := hrel
    have hpl : pre.length ≤ e0 - a + 1 := by rw [hcut, List.length_append] at hTot; omega
    have HCut := Lib.hid hcut
    have HFin := Lib.hid hfin
    have HRow := Lib.hid hrow
    have hwr := hB.size
    obtain ⟨A9, c9, rfl⟩ := row_one hrow
    clear hcut hfin hrow
    go_wp2
    go_loop [10] (fun s10 => ∃ i : Nat, s10 = .int .i64 i ∧ p ≤ i ∧ i ≤ e0 ∧ ∀ j, p ≤ j → j < i → bad (at0 bs j) = false) (fun s10 => e0 - (intOf s10).toNat)
    case atStart => exact ⟨p, rfl, Nat.le_refl _, hpe, fun j h1 h2 => absurd h2 (by omega)⟩
    case round =>
      obtain ⟨i, rfl, hpi, hie, hg⟩ := hrel
      have HG := Lib.hid hg
      clear hg
      by_cases hlt : i < e0
      · have hck := (hB.cell (p := ⟨b, off + i, none⟩) hb).trans (HCS.out i (by omega))
        have hli : i < bs.length := by omega
        obtain ⟨x, hx⟩ : ∃ x, at0 bs i = x := ⟨_, rfl⟩
        rw [hx] at hck
        have HX := Lib.hid hx
        clear hx
        cases hbd : bad x with
        | false =>
          have HB := Lib.hid hbd
          clear hbd
          go_wp2_with fail
          refine (plain_any _ _).mono ?_
          rw [HB.out]
          rintro e w1 ⟨rfl, rfl⟩
          go_wp2
          go_roundw
          case rel =>
            refine ⟨i + 1, by go_num, by omega, by omega, fun j h1 h2 => ?_⟩
            by_cases e : j = i
            · subst e; rw [HX.out]; exact HB.out
            · exact HG.out j h1 (by omega)
          case measure => simp [intOf]; omega
        | true =>
          have HB := Lib.hid hbd
          clear hbd
          by_cases hip : i = p
          · subst hip
            obtain ⟨q, t, hc1, hc2⟩ := piece0 hpe he (.inr (by rw [HX.out]; exact HB.out))
            have HF := Lib.hid (tot_fault HCut.out HFin.out hc1 hc2)
            have hee : ((i : Int) == (i : Int)) = true := by simp
            clear hc1 hc2
            go_wp2_with fail
            refine (plain_any _ _).mono ?_
            rw [HB.out]
            rintro e w1 ⟨rfl, rfl⟩
            go_wp2
            refine bodyPost_ret (v := .tuple #[.slice none 0 0, .int .i64 i, .bool false]) (by simp [results, Tryz.f83, go_sem]) rfl ?_
            exact ⟨hB, .inr ⟨_, HF.out, rfl⟩⟩
          · have hne : ((i : Int) == (p : Int)) = false := beq_eq_false_iff_ne.2 (by omega)
            have hne2 : ((i : Int) == (e0 : Int)) = false := beq_eq_false_iff_ne.2 (by omega)
            have hcp : ¬ c = p := by omega
            have hlp : p ≤ i := hpi
            have hlc : i ≤ c := by omega
            have hcv := conv_some _ wr (some ⟨b, off + p, none⟩) (c - p) (seg bs p i) (seg_bytes (by omega) hb (fun j hj => (hB.cell (p := ⟨b, off + j, none⟩) hb).trans (HCS.out j hj))) (seg_ne (by omega) (by omega))
            rw [seg_len (by omega)] at hcv
            have hml : pre.length + 1 ≤ maxLen := by unfold maxLen; omega
            by_cases h32 : x = 32
            · have hP := piece3 (bs := bs) (a := p) (i := i) (e := e0) (by omega) hlt he HG.out (by rw [HX.out]; exact h32)
              have HP := Lib.hid hP
              have hb32 : (x == 32) = true := by rw [h32]; rfl
              clear hP h32
              go_wp2_with (first
                | (at_builtin; refine wpList_append_own _ rfl _ _ 74 rfl w.heap.size 112 i0 (.agg #[.string ⟨#[]⟩, .int .i64 0]) 2 24 Tryz.underlying74 hi hz0 hz1 hz2 rfl (by decide) _ _ _ rfl (HRow.out.alloc _) ⟨wr.heap.size, 0, none⟩ 1 1 [.string (strOfNums (seg bs p i)), .int .i64 p] rfl rfl (cell_two_new _ _ _ _) (by simp [Value.oneCell']) hml (by omega) (by simp; omega) ?_; intro v' w1 hown' hgrow _; have hB1 : Below w.heap.size w w1 := (hB.alloc hwr _).grown hgrow (by simp; omega) (fun k e => (HRow.out.lt k e).1); obtain ⟨A', c', rfl⟩ := row_one hown'; have hck1 := (hB1.cell (p := ⟨b, off + i, none⟩) hb).trans (HCS.out i hli); rw [HX.out] at hck1)
                | (go_at_call 107; refine (plain_any _ _).mono ?_; rw [HB.out]; rintro e w1 ⟨rfl, rfl⟩))
              go_roundw
              case rel =>
                refine ⟨i + 1, pre ++ [(p, seg bs p i)], by go_num, by omega, by omega, ?_, tot_fine HFin.out HP.out.2, ?_, hB1⟩
                · rw [HCut.out, HP.out.1]; simp
                · rw [List.length_append, wordCells_snoc]; exact hown'
              case measure => simp [intOf]; omega
            · obtain ⟨q, t, hc1, hc2⟩ := piece1 (bs := bs) (a := p) (i := i) (e := e0) (by omega) hlt he HG.out (by rw [HX.out]; exact HB.out) (by rw [HX.out]; exact h32)
              have HF := Lib.hid (tot_fault HCut.out HFin.out hc1 hc2)
              have hb32 : (x == 32) = false := beq_eq_false_iff_ne.2 h32
              have hip2 : p + (i - p) = i := by omega
              rw [hip2] at HF
              clear hc1 hc2 hip2
              go_wp2_with (first
                | (at_builtin; refine wpList_append_own _ rfl _ _ 74 rfl w.heap.size 112 i0 (.agg #[.string ⟨#[]⟩, .int .i64 0]) 2 24 Tryz.underlying74 hi hz0 hz1 hz2 rfl (by decide) _ _ _ rfl (HRow.out.alloc _) ⟨wr.heap.size, 0, none⟩ 1 1 [.string (strOfNums (seg bs p i)), .int .i64 p] rfl rfl (cell_two_new _ _ _ _) (by simp [Value.oneCell']) hml (by omega) (by simp; omega) ?_; intro v' w1 hown' hgrow _; have hB1 : Below w.heap.size w w1 := (hB.alloc hwr _).grown hgrow (by simp; omega) (fun k e => (HRow.out.lt k e).1); obtain ⟨A', c', rfl⟩ := row_one hown'; have hck1 := (hB1.cell (p := ⟨b, off + i, none⟩) hb).trans (HCS.out i hli); rw [HX.out] at hck1)
                | (go_at_call 107; refine (plain_any _ _).mono ?_; rw [HB.out]; rintro e w1 ⟨rfl, rfl⟩))
              refine bodyPost_ret (v := .tuple #[.slice none 0 0, .int .i64 i, .bool false]) (by simp [results, Tryz.f83, go_sem]) rfl ?_
              exact ⟨hB1, .inr ⟨_, HF.out, rfl⟩⟩
      · have hd : decide (i < e0) = false := decide_eq_false hlt
        obtain rfl : i = e0 := by omega
        by_cases hip : i = p
        · subst hip
          obtain ⟨q, t, hc1, hc2⟩ := piece0 hpe he (.inl rfl)
          have HF := Lib.hid (tot_fault HCut.out HFin.out hc1 hc2)
          have hee : ((i : Int) == (i : Int)) = true := by simp
          clear hc1 hc2
          go_wp2
          refine bodyPost_ret (v := .tuple #[.slice none 0 0, .int .i64 i, .bool false]) (by simp [results, Tryz.f83, go_sem]) rfl ?_
          exact ⟨hB, .inr ⟨_, HF.out, rfl⟩⟩
        · have hne : ((i : Int) == (p : Int)) = false := beq_eq_false_iff_ne.2 (by omega)
          have hee : ((i : Int) == (i : Int)) = true := by simp
          have hcp : ¬ c = p := by omega
          have hlp : p ≤ i := hpi
          have hlc : i ≤ c := by omega
          have hcv := conv_some _ wr (some ⟨b, off + p, none⟩) (c - p) (seg bs p i) (seg_bytes (by omega) hb (fun j hj => (hB.cell (p := ⟨b, off + j, none⟩) hb).trans (HCS.out j hj))) (seg_ne (by omega) (by omega))
          rw [seg_len (by omega)] at hcv
          have hml : pre.length + 1 ≤ maxLen := by unfold maxLen; omega
          have hP := piece2 (bs := bs) (a := p) (e := i) (by omega) he HG.out
          have HP := Lib.hid hP
          clear hP
          go_wp2_with (at_builtin; refine wpList_append_own _ rfl _ _ 74 rfl w.heap.size 112 i0 (.agg #[.string ⟨#[]⟩, .int .i64 0]) 2 24 Tryz.underlying74 hi hz0 hz1 hz2 rfl (by decide) _ _ _ rfl (HRow.out.alloc _) ⟨wr.heap.size, 0, none⟩ 1 1 [.string (strOfNums (seg bs p i)), .int .i64 p] rfl rfl (cell_two_new _ _ _ _) (by simp [Value.oneCell']) hml (by omega) (by simp; omega) ?_; intro v' w1 hown' hgrow _; have hB1 : Below w.heap.size w w1 := (hB.alloc hwr _).grown hgrow (by simp; omega) (fun k e => (HRow.out.lt k e).1); obtain ⟨A', c', rfl⟩ := row_one hown')
          refine bodyPost_ret (v := .tuple #[.slice A' (pre.length + 1) c', .int .i64 0, .bool true]) (by simp [results, Tryz.f83, go_sem]) rfl ?_
          have e1 : tot = pre ++ [(p, seg bs p i)] := by rw [HCut.out, HP.out.1]
          refine ⟨hB1, .inl ⟨.slice A' (pre.length + 1) c', ?_, rfl, ?_⟩⟩
          · rw [e1]; exact tot_fine HFin.out HP.out.2
          · rw [e1, List.length_append, wordCells_snoc]; exact hown'
end Go.Proofs.YtakbphjdfgidmaaGreatDoor

namespace Go.Proofs.YtakbphjdfgidmaaGreatDoor
open Go.RowKit
set_option linter.unusedVariables false

/-- What is left of a text. -/
def rest (bs : List Int) (f : Nat) : List Wd := if f ≤ bs.length then cuts 10 f (seg bs f bs.length) else []

theorem rest_zero (bs : List Int) : rest bs 0 = cuts 10 0 bs := by unfold rest; rw [if_pos (Nat.zero_le _), seg_all]
theorem rest_end {bs : List Int} {f : Nat} (h : bs.length ≤ f) : (rest bs f).findSome? lineF = none ∧ (rest bs f).filterMap lineL = [] := by
  unfold rest
  split
  · obtain rfl : f = bs.length := by omega
    rw [seg_nil]; exact ⟨rfl, rfl⟩
  · exact ⟨rfl, rfl⟩
theorem rest_step {bs : List Int} {f i : Nat} (hfi : f ≤ i) (hi : i ≤ bs.length) (hg : ∀ j, f ≤ j → j < i → at0 bs j ≠ 10) (h : i = bs.length ∨ at0 bs i = 10) : rest bs f = (f, seg bs f i) :: rest bs (i + 1) := by
  unfold rest
  rw [if_pos (by omega)]
  by_cases hl : i < bs.length
  · rw [if_pos (by omega)]
    exact line3 hfi hl hg (by rcases h with h | h; omega; exact h)
  · obtain rfl : i = bs.length := by omega
    rw [if_neg (by omega)]
    exact line2 hg

theorem lines_push {W w1 : World} {n₀ : Nat} {v v' : Value} {zs : List (Ln × Value)} {z : Ln × Value} {tmp : Obj} (hrow : W.ownsRow n₀ 80 2 v zs.length (lineCells zs)) (hrs : WRows W n₀ zs)
    (hz : W.ownsRow n₀ 112 2 z.2 z.1.2.length (wordCells z.1.2))
    (hown' : w1.ownsRow n₀ 80 2 v' (zs.length + 1) (lineCells zs ++ [.int .i64 z.1.1, z.2])) (hgrow : (W.alloc tmp).grownBy w1 v.ownBlock) :
    OwnLines w1 n₀ v' ((zs ++ [z]).map Prod.fst) := by
  have hrs' : WRows W n₀ (zs ++ [z]) := fun y hy => by
    rcases List.mem_append.1 hy with h | h
    · exact hrs y h
    · obtain rfl : y = z := by simpa using h
      exact hz
  have h1 : WRows w1 n₀ (zs ++ [z]) := (hrs'.alloc tmp).kept hgrow (fun y hy => row_apart (hrs' y hy) hrow (by decide))
  refine ⟨zs ++ [z], rfl, ?_, h1⟩
  rw [List.length_append, lineCells_snoc]
  exact hown'

theorem pair_grown {W w1 : World} {B : Nat} {t e : TypeId} {a b v : Value} {n k size : Nat} {xs : List Value} {tmp : Obj} (h : Pair2 W B t a b) (hte : t ≠ e) (hr : W.ownsRow n e size v k xs) (hg : (W.alloc tmp).grownBy w1 v.ownBlock) : Pair2 w1 B t a b := by
  refine h.of ?_
  rw [hg.block B (by have := h.lt; simp; omega) ?_]
  · exact Below.heap_alloc W tmp B h.lt
  · rcases hr.2 with ⟨rfl, _⟩ | ⟨g, cap, cur, rfl, _, hgb, _⟩
    · simp [Value.ownBlock]
    · intro e'
      obtain rfl : B = g := by simpa [Value.ownBlock] using e'
      have := (show W.heap[B]? = _ from h).symm.trans hgb
      simp at this
      exact hte this.2

theorem own_set {W : World} {B j : Nat} {u v : Value} {base : Nat} {ls : List Ln} (h : OwnLines W base v ls) (hp : ∃ a b, Pair2 W B 44 a b) : OwnLines (W.setCell ⟨B, j, none⟩ u) base v ls := by
  obtain ⟨a, b, hab⟩ := hp
  refine h.kept (row := some B) ⟨rfl, rfl, rfl, by simp [World.setCell], fun k _ hk => Below.heap_setCell _ _ _ k (fun e => hk (by rw [e]))⟩ fun r e => ?_
  cases e
  exact ⟨_, hab, fun cs => ⟨by simp, by simp⟩⟩

theorem text_done {bs : List Int} (hm : bs.length ≤ 67108864) {pre : List Wd} {f : Nat} (hc : cuts 10 0 bs = pre ++ rest bs f) (hf : pre.findSome? lineF = none) (hl : bs.length ≤ f) : textF bs = none ∧ textL bs = pre.filterMap lineL := by
  have h1 : textF bs = none := text_none hm (by rw [hc, find_app_none hf]; exact (rest_end hl).1)
  refine ⟨h1, ?_⟩
  rw [textL, if_pos h1, hc, List.filterMap_append, (rest_end hl).2, List.append_nil]
theorem text_stop {bs : List Int} (hm : bs.length ≤ 67108864) {pre : List Wd} {f i : Nat} {x : Nat × Nat} {t : List Wd} (hc : cuts 10 0 bs = pre ++ rest bs f) (hf : pre.findSome? lineF = none) (hr : rest bs f = (f, seg bs f i) :: t) (hx : lineF (f, seg bs f i) = some x) : textF bs = some x :=
  text_some hm (by rw [hc, find_app_none hf, hr, List.findSome?_cons, hx])

set_option maxHeartbeats 4000000 in
theorem rlines_any (A : Option Addr) (c : Nat) (bs : List Int) (w : World) (hA : Bytes w A bs) (ho : Octets bs) (hc : bs.length ≤ c) (hm : bs.length ≤ 67108864) :
    Calls Tryz.prog 48 #[.slice A bs.length c] w (LinesPost bs w) := by
  obtain ⟨i1, ki, kz0, kz1, kz2⟩ := info_parts info_line
  have hd0 : decide (67108864 < (bs.length : Int)) = false := decide_eq_false (by omega)
  have HA := Lib.hid hA
  have HO := Lib.hid ho
  have HTot : Hid ((cuts 10 0 bs).length ≤ bs.length + 1) := Lib.hid (cuts_len 10 bs 0)
  clear hA ho
  go_enter Tryz.func48, Tryz.ntmps48
  go_wp2
  go_loopw [4, 5] (fun s4 s5 wr => ∃ (f : Nat) (pre : List Wd), s5 = .int .i64 f ∧ f ≤ bs.length + 1 ∧ cuts 10 0 bs = pre ++ rest bs f ∧ pre.findSome? lineF = none ∧ OwnLines wr w.heap.size s4 (pre.filterMap lineL) ∧ Pair2 wr w.heap.size 44 (.int .i64 0) (.int .i64 0) ∧ Below w.heap.size w wr) (fun s4 s5 wr => bs.length + 1 - (intOf s5).toNat)
  case atStart => exact ⟨0, [], rfl, Nat.zero_le _, by rw [rest_zero]; rfl, rfl, OwnLines.nil _ _, Pair2.new w _ _ _, (Below.refl _ _).alloc (Nat.le_refl _) _⟩
  case round =>
    obtain ⟨f, pre, rfl, hfl, hcut, hfin, hown, hP, hB⟩ := hrel
    have hwr := hB.size
    have HOwn := Lib.hid hown
    obtain ⟨zs, hzs, rL, rs⟩ := hown
    obtain ⟨A4, c4, rfl⟩ := row_one rL
    have hzl : zs.length ≤ bs.length + 1 := by
      have h1 := congrArg List.length hzs
      have h2 := List.length_filterMap_le lineL pre
      have h3 := HTot.out
      rw [hcut, List.length_append] at h3
      rw [List.length_map] at h1
      omega
    have HCut := Lib.hid hcut
    have HFin := Lib.hid hfin
    have HZS := Lib.hid hzs
    have r0 := hP.c0
    have r1 := hP.c1
    have q0 := hP.frozen 0
    have q1 := hP.frozen 1
    clear hcut hfin hzs
    by_cases hlt : f < bs.length
    · obtain ⟨b, off, rfl, hb, hcs⟩ := BytesB.at HA.out.b (by omega)
      have HCS := Lib.hid hcs
      clear hcs
      go_wp2
      go_loop [6] (fun s6 => ∃ i : Nat, s6 = .int .i64 i ∧ f ≤ i ∧ i ≤ bs.length ∧ ∀ j, f ≤ j → j < i → at0 bs j ≠ 10) (fun s6 => bs.length - (intOf s6).toNat)
      case atStart => exact ⟨f, rfl, Nat.le_refl _, by omega, fun j h1 h2 => absurd h2 (by omega)⟩
      case round =>
        obtain ⟨i, rfl, hfi, hie, hg⟩ := hrel
        have HG := Lib.hid hg
        clear hg
        by_cases hlt2 : i < bs.length ∧ at0 bs i ≠ 10
        · obtain ⟨hli, h10⟩ := hlt2
          have hck := (hB.cell (p := ⟨b, off + i, none⟩) hb).trans (HCS.out i hli)
          have h10' : (at0 bs i == 10) = false := beq_eq_false_iff_ne.2 h10
          go_wp2
          go_roundw
          case rel =>
            refine ⟨i + 1, by go_num, by omega, by omega, fun j h1 h2 => ?_⟩
            by_cases e : j = i
            · subst e; exact h10
            · exact HG.out j h1 (by omega)
          case measure => simp [intOf]; omega
        · have hex : i = bs.length ∨ at0 bs i = 10 := by
            rcases Nat.lt_or_ge i bs.length with h | h
            · exact .inr (Classical.not_not.1 fun e => hlt2 ⟨h, e⟩)
            · exact .inl (by omega)
          have HR := Lib.hid (rest_step hfi hie HG.out hex)
          have hsl := seg_len (bs := bs) (a := f) hie
          have hcond : decide (i < bs.length) = false ∨ (i < bs.length ∧ wr.cell? ⟨b, off + i, none⟩ = some (.int .u8 10)) := by
            rcases hex with h | h
            · exact .inl (decide_eq_false (by omega))
            · rcases Nat.lt_or_ge i bs.length with h' | h'
              · exact .inr ⟨h', by rw [← h]; exact (hB.cell (p := ⟨b, off + i, none⟩) hb).trans (HCS.out i h')⟩
              · exact .inl (decide_eq_false (by omega))
          have hcf := (hB.cell (p := ⟨b, off + f, none⟩) hb).trans (HCS.out f hlt)
          clear hex hlt2
          by_cases h65 : 65536 < i - f
          · have HF := Lib.hid (text_stop hm HCut.out HFin.out HR.out (lineF_long (x := (f, seg bs f i)) (by rw [hsl]; exact h65)))
            have hd65 : decide ((65536 : Int) < (i : Int) - (f : Int)) = true := decide_eq_true (by omega)
            have hP2 := hP.set (.int .i64 4) (.int .i64 f)
            have p0 := hP2.c0
            have p1 := hP2.c1
            clear hsl
            rcases hcond with hcn | ⟨hcn, hcc⟩
            all_goals
              go_wp2
              refine bodyPost_ret (v := .tuple #[.slice none 0 0, .agg #[.int .i64 4, .int .i64 f]]) (by simp [results, Tryz.f48, go_sem, p0, p1]) rfl ?_
              refine ⟨.slice none 0 0, by rw [textE, textP, HF.out]; rfl, ?_, (hB.setCell (p := ⟨w.heap.size, 0, none⟩) (Nat.le_refl _) _).setCell (p := ⟨w.heap.size, 1, none⟩) (Nat.le_refl _) _⟩
              rw [textL, if_neg (by rw [HF.out]; simp)]
              exact OwnLines.nil _ _
          · have hd65 : decide ((65536 : Int) < (i : Int) - (f : Int)) = false := decide_eq_false (by omega)
            have h65' : ¬ 65536 < (seg bs f i).length := by rw [hsl]; exact h65
            clear hsl
            by_cases hov2 : f < i ∧ at0 bs f ≠ 35
            · obtain ⟨hfi2, h35⟩ := hov2
              have hov : over (seg bs f i) = false := by rw [over_seg hfi2 hie]; exact beq_eq_false_iff_ne.2 h35
              have h35' : (at0 bs f == 35) = false := beq_eq_false_iff_ne.2 h35
              have HW := Lib.hid (tt_rwords_any (some ⟨b, off, none⟩) c bs f i wr (HA.out.below (B := 0) hB) HO.out hc hm hfi2 hie)
              have HLF := Lib.hid (lineF_words (x := (f, seg bs f i)) h65' hov)
              have HLL := Lib.hid (lineL_words (x := (f, seg bs f i)) hov)
              clear hov h65'
              rcases hcond with hcn | ⟨hcn, hcc⟩
              all_goals
                go_wp2_with fail
                refine HW.out.mono ?_
                rintro e w2 ⟨hB2, (⟨v, hf2, rfl, hr2⟩ | ⟨fx, hf2, rfl⟩)⟩
                · have hP2 := hP.of (hB2.block _ hP.lt)
                  have hBw := Below.next hB hB2 (Nat.le_refl _)
                  have rL2 := row_below rL hB2
                  have rs2 := rs.below hB2
                  obtain ⟨A7, c7, rfl⟩ := row_one hr2
                  have hml : zs.length + 1 ≤ maxLen := by unfold maxLen; omega
                  have hw2 := hBw.size
                  have HLn : Hid ((cuts 32 f (seg bs f i)).length ≤ 100000) := Lib.hid (by have := cuts_len 32 (seg bs f i) f; rw [seg_len hie] at this; omega)
                  obtain ⟨m, hm'⟩ : ∃ m, (cuts 32 f (seg bs f i)).length = m := ⟨_, rfl⟩
                  have HM := Lib.hid hm'
                  have HF2 := Lib.hid hf2
                  have HR2 := Lib.hid hr2
                  rw [hm']
                  clear hm' hf2 hr2
                  go_wp2_with (at_builtin; refine wpList_append_own _ rfl _ _ 68 rfl w.heap.size 80 i1 (.agg #[.int .i64 0, .slice none 0 0]) 2 32 Tryz.underlying68 ki kz0 kz1 kz2 rfl (by decide) _ _ _ rfl (rL2.alloc _) ⟨w2.heap.size, 0, none⟩ 1 1 [.int .i64 f, .slice A7 m c7] rfl rfl (cell_two_new _ _ _ _) (by simp [Value.oneCell']) hml (by omega) (by simp; omega) ?_; intro v' w3 hown' hgrow _; obtain ⟨A8, c8, rfl⟩ := row_one hown')
                  go_roundw
                  case rel =>
                    have hz : w2.ownsRow w.heap.size 112 2 (.slice A7 m c7) (cuts 32 f (seg bs f i)).length (wordCells (cuts 32 f (seg bs f i))) := by
                      have h := HR2.out
                      rw [HM.out] at h ⊢
                      exact row_mono h hwr
                    refine ⟨i + 1, pre ++ [(f, seg bs f i)], by go_num, by omega, ?_, ?_, ?_, pair_grown hP2 (by decide) rL2 hgrow, (hBw.alloc hw2 _).grown hgrow (by simp; omega) (fun k e => (rL2.lt k e).1)⟩
                    · rw [HCut.out, HR.out]; simp
                    · rw [find_snoc HFin.out, HLF.out]; exact HF2.out
                    · have h1 := lines_push (z := ((f, cuts 32 f (seg bs f i)), .slice A7 m c7)) rL2 rs2 hz hown' hgrow
                      rw [List.map_append, HZS.out] at h1
                      rw [keep_snoc, HLL.out]
                      exact h1
                  case measure => simp [intOf]; omega
                · have HF := Lib.hid (text_stop hm HCut.out HFin.out HR.out (HLF.out.trans hf2))
                  obtain ⟨y, _, hy⟩ := find_one hf2
                  have h5 := wordF_five hy
                  have hBw := Below.next hB hB2 (Nat.le_refl _)
                  have hPw := hP.of (hB2.block _ hP.lt)
                  have hP2 := hPw.set (.int .i64 5) (.int .i64 fx.2)
                  have p0 := hP2.c0
                  have p1 := hP2.c1
                  have r0' := hPw.c0
                  have r1' := hPw.c1
                  have q0' := hPw.frozen 0
                  have q1' := hPw.frozen 1
                  have H5 := Lib.hid h5
                  clear hf2 hy h5
                  go_wp2
                  refine bodyPost_ret (v := .tuple #[.slice none 0 0, .agg #[.int .i64 5, .int .i64 fx.2]]) (by simp [results, Tryz.f48, go_sem, p0, p1]) rfl ?_
                  refine ⟨.slice none 0 0, by rw [textE, textP, HF.out]; simp only [H5.out]; rfl, ?_, (hBw.setCell (p := ⟨w.heap.size, 0, none⟩) (Nat.le_refl _) _).setCell (p := ⟨w.heap.size, 1, none⟩) (Nat.le_refl _) _⟩
                  rw [textL, if_neg (by rw [HF.out]; simp)]
                  exact OwnLines.nil _ _
            · have hov : over (seg bs f i) = true := by
                rcases Nat.lt_or_ge f i with h | h
                · rw [over_seg h hie]
                  exact beq_iff_eq.2 (Classical.not_not.1 fun e => hov2 ⟨h, e⟩)
                · obtain rfl : f = i := by omega
                  rw [seg_nil]; rfl
              have hc2 : decide (f < i) = false ∨ (f < i ∧ (at0 bs f == 35) = true) := by
                rcases Nat.lt_or_ge f i with h | h
                · exact .inr ⟨h, beq_iff_eq.2 (Classical.not_not.1 fun e => hov2 ⟨h, e⟩)⟩
                · exact .inl (decide_eq_false (by omega))
              have HLF := Lib.hid (lineF_over (x := (f, seg bs f i)) h65' hov)
              have HLL := Lib.hid (lineL_over (x := (f, seg bs f i)) hov)
              clear hov h65' hov2
              rcases hcond with hcn | ⟨hcn, hcc⟩
              all_goals
                rcases hc2 with hc3 | ⟨hc3, hc4⟩
                all_goals
                  go_wp2
                  go_roundw
                  case rel =>
                    refine ⟨i + 1, pre ++ [(f, seg bs f i)], by go_num, by omega, ?_, ?_, ?_, hP, hB⟩
                    · rw [HCut.out, HR.out]; simp
                    · rw [find_snoc HFin.out, HLF.out]
                    · rw [keep_snoc, HLL.out]; simpa using HOwn.out
                  case measure => simp [intOf]; omega
    · have hd : decide (f < bs.length) = false := decide_eq_false hlt
      obtain ⟨hF1, hF2⟩ := text_done hm HCut.out HFin.out (by omega)
      have HF1 := Lib.hid hF1
      have HF2 := Lib.hid hF2
      clear hF1 hF2
      go_wp2
      have hP2 := hP.set (.int .i64 0) (.int .i64 0)
      have p0 := hP2.c0
      have p1 := hP2.c1
      refine bodyPost_ret (v := .tuple #[.slice A4 zs.length c4, .agg #[.int .i64 0, .int .i64 0]]) (by simp [results, Tryz.f48, go_sem, p0, p1]) rfl ?_
      refine ⟨.slice A4 zs.length c4, by rw [textE, textP, HF1.out], ?_, (hB.setCell (p := ⟨w.heap.size, 0, none⟩) (Nat.le_refl _) _).setCell (p := ⟨w.heap.size, 1, none⟩) (Nat.le_refl _) _⟩
      rw [HF2.out]
      exact own_set (own_set HOwn.out ⟨_, _, hP⟩) ⟨_, _, heap_setCell_same wr w.heap.size 0 #[.int .i64 0, .int .i64 0] _ _ hP⟩
end Go.Proofs.YtakbphjdfgidmaaGreatDoor
