/- Texts of earlier stages over this seat, joined: TkL TkS TkT TkU. -/
import Derived.Test.YtpdbkjnaicjfdaaGreatDoorGb
set_option maxRecDepth 100000
namespace Go.Proofs.YtpdbkjnaicjfdaaGreatDoor
open Go.RowKit
set_option linter.unusedVariables false

theorem tt_str_join (a b : List Int) : strOfNums a ++ strOfNums b = strOfNums (a ++ b) := by
  apply ByteArray.ext
  rw [ByteArray.data_append]
  simp [strOfNums]
theorem str_space (a : List Int) : strOfNums a ++ ⟨#[32]⟩ = strOfNums (a ++ [32]) := by
  rw [← tt_str_join]; rfl
theorem str_size (a : List Int) : (strOfNums a).size = a.length := strOfNums_size a

theorem tt_nums_at (s : ByteArray) (k : Nat) (h : k < s.size) : (nums s)[k]'(by rw [nums_len]; exact h) = (s[k].toNat : Int) := by
  simp [nums]; rfl

theorem joinE_bad {ss : List ByteArray} (h : joinOk ss = false) : jE ss = 5 ∧ jS ss = [] := ⟨by simp [jE, h], by simp [jS, h]⟩
theorem joinOk_bad {ss : List ByteArray} (h : fineW ss = false) : joinOk ss = false := by unfold joinOk; rw [h]; rfl

end Go.Proofs.YtpdbkjnaicjfdaaGreatDoor

namespace Go.Proofs.YtpdbkjnaicjfdaaGreatDoor
open Go.RowKit

def at0 (bs : List Int) (j : Nat) : Int := bs[j]?.getD 0
/-- The bytes from a to e. -/
def seg (bs : List Int) (a e : Nat) : List Int := (bs.take e).drop a

theorem seg_len {bs : List Int} {a e : Nat} (h : e ≤ bs.length) : (seg bs a e).length = e - a := by
  unfold seg; rw [List.length_drop, List.length_take]; omega
theorem seg_cons {bs : List Int} {a e : Nat} (ha : a < e) (h : e ≤ bs.length) : seg bs a e = at0 bs a :: seg bs (a + 1) e := by
  unfold seg at0
  have hl : a < (bs.take e).length := by rw [List.length_take]; omega
  rw [List.drop_eq_getElem_cons hl]
  congr 1
  rw [List.getElem_take, List.getElem?_eq_getElem (by omega)]; rfl
theorem seg_nil (bs : List Int) (a : Nat) : seg bs a a = [] := by
  unfold seg; exact List.drop_eq_nil_of_le (by rw [List.length_take]; omega)
theorem seg_all (bs : List Int) : seg bs 0 bs.length = bs := by unfold seg; simp
theorem seg_snoc {bs : List Int} : ∀ {n a e : Nat}, e - a = n → a ≤ e → e < bs.length → seg bs a (e + 1) = seg bs a e ++ [at0 bs e]
  | 0, a, e, hn, hae, h => by
    obtain rfl : a = e := by omega
    rw [seg_cons (by omega) (by omega), seg_nil, seg_nil]; rfl
  | n + 1, a, e, hn, hae, h => by
    rw [seg_cons (by omega) (by omega), seg_cons (a := a) (e := e) (by omega) (by omega), seg_snoc (n := n) (a := a + 1) (by omega) (by omega) h]; rfl
theorem seg_split {bs : List Int} : ∀ {n a i e : Nat}, i - a = n → a ≤ i → i ≤ e → e ≤ bs.length → seg bs a e = seg bs a i ++ seg bs i e
  | 0, a, i, e, hn, hai, hie, h => by
    obtain rfl : a = i := by omega
    rw [seg_nil]; rfl
  | n + 1, a, i, e, hn, hai, hie, h => by
    rw [seg_cons (by omega) h, seg_cons (a := a) (e := i) (by omega) (by omega), seg_split (n := n) (a := a + 1) (i := i) (by omega) (by omega) hie h]; rfl
theorem seg_mem {bs : List Int} {a e : Nat} {x : Int} (h : e ≤ bs.length) (hx : x ∈ seg bs a e) : ∃ j, a ≤ j ∧ j < e ∧ x = at0 bs j := by
  obtain ⟨k, hk, rfl⟩ := List.mem_iff_getElem.1 hx
  rw [seg_len h] at hk
  refine ⟨a + k, by omega, by omega, ?_⟩
  simp only [seg, at0, List.getElem_drop, List.getElem_take]
  rw [List.getElem?_eq_getElem (by omega)]; rfl
theorem seg_get {bs : List Int} {a e k : Nat} (h : e ≤ bs.length) (hk : k < (seg bs a e).length) : (seg bs a e)[k] = at0 bs (a + k) := by
  rw [seg_len h] at hk
  simp only [seg, at0, List.getElem_drop, List.getElem_take]
  rw [List.getElem?_eq_getElem (by omega)]; rfl

theorem cuts_pre {sep : Int} : ∀ (q s : List Int) (o : Nat) (p : List Int) (t : List (Nat × List Int)), sep ∉ q → cuts sep (o + q.length) s = (o + q.length, p) :: t → cuts sep o (q ++ s) = (o, q ++ p) :: t
  | [], s, o, p, t, _, h => by simpa using h
  | x :: q, s, o, p, t, hq, h => by
    have hx : x ≠ sep := fun e => hq (by simp [e])
    rw [List.length_cons, show o + (q.length + 1) = o + 1 + q.length by omega] at h
    exact cuts_cons_ne hx o _ _ _ (cuts_pre q s (o + 1) p t (fun e => hq (by simp [e])) h)

theorem bad_space : bad 32 = true := by decide

theorem good_no_space {l : List Int} (h : ∀ x ∈ l, bad x = false) : (32 : Int) ∉ l := fun e => by
  have := h _ e; rw [bad_space] at this; cases this

/-- No word begins here. -/
theorem piece0 {bs : List Int} {a e : Nat} (hae : a ≤ e) (h : e ≤ bs.length) (hb : a = e ∨ bad (at0 bs a) = true) : ∃ p t, cuts 32 a (seg bs a e) = (a, p) :: t ∧ fw p = some 0 := by
  by_cases he : a = e
  · subst he
    rw [seg_nil]; exact ⟨[], [], rfl, fw_nil⟩
  · have hb' : bad (at0 bs a) = true := by rcases hb with h | h; exact absurd h he; exact h
    rw [seg_cons (by omega) h]
    by_cases h32 : at0 bs a = 32
    · rw [cuts, if_pos h32]; exact ⟨[], _, rfl, fw_nil⟩
    · obtain ⟨p, t, hp⟩ := cuts_head 32 (seg bs (a + 1) e) (a + 1)
      rw [cuts_cons_ne h32 a _ p t hp]
      exact ⟨_, _, rfl, fw_some (k := 0) (by simp) hb' (fun j _ hj => absurd hj (by omega))⟩

theorem seg_good {bs : List Int} {a i : Nat} (h : i ≤ bs.length) (hg : ∀ j, a ≤ j → j < i → bad (at0 bs j) = false) : ∀ x ∈ seg bs a i, bad x = false := by
  intro x hx
  obtain ⟨j, h1, h2, rfl⟩ := seg_mem h hx
  exact hg j h1 h2

/-- A word with a byte that is none of a word's. -/
theorem piece1 {bs : List Int} {a i e : Nat} (hai : a < i) (hie : i < e) (h : e ≤ bs.length) (hg : ∀ j, a ≤ j → j < i → bad (at0 bs j) = false) (hb : bad (at0 bs i) = true) (h32 : at0 bs i ≠ 32) :
    ∃ p t, cuts 32 a (seg bs a e) = (a, p) :: t ∧ fw p = some (i - a) := by
  have hgs := seg_good (by omega) hg
  have hlen := seg_len (bs := bs) (a := a) (e := i) (by omega)
  obtain ⟨p, t, hp⟩ := cuts_head 32 (seg bs (i + 1) e) (i + 1)
  have h1 := cuts_cons_ne h32 i _ p t hp
  rw [← seg_cons hie h] at h1
  have hL : a + (seg bs a i).length = i := by rw [hlen]; omega
  rw [seg_split (n := i - a) rfl (by omega) (by omega) h, cuts_pre (seg bs a i) _ a _ t (good_no_space hgs) (by rw [hL]; exact h1)]
  refine ⟨_, _, rfl, fw_some (by rw [List.length_append, hlen]; simp) ?_ ?_⟩
  · rw [List.getElem_append_right (by omega)]; simp [hlen, hb]
  · intro j hj hji
    rw [List.getElem_append_left (by omega)]
    exact hgs _ (List.getElem_mem _)

theorem seg_ne {bs : List Int} {a i : Nat} (hai : a < i) (h : i ≤ bs.length) : seg bs a i ≠ [] := fun e => by
  have := seg_len (bs := bs) (a := a) h
  rw [e] at this; simp at this; omega

/-- The last word. -/
theorem piece2 {bs : List Int} {a e : Nat} (hae : a < e) (h : e ≤ bs.length) (hg : ∀ j, a ≤ j → j < e → bad (at0 bs j) = false) : cuts 32 a (seg bs a e) = [(a, seg bs a e)] ∧ fw (seg bs a e) = none :=
  ⟨cuts_none _ _ (good_no_space (seg_good h hg)), fw_none (seg_ne hae h) (seg_good h hg)⟩

/-- A word, and more. -/
theorem piece3 {bs : List Int} {a i e : Nat} (hai : a < i) (hie : i < e) (h : e ≤ bs.length) (hg : ∀ j, a ≤ j → j < i → bad (at0 bs j) = false) (h32 : at0 bs i = 32) :
    cuts 32 a (seg bs a e) = (a, seg bs a i) :: cuts 32 (i + 1) (seg bs (i + 1) e) ∧ fw (seg bs a i) = none := by
  refine ⟨?_, fw_none (seg_ne hai (by omega)) (seg_good (by omega) hg)⟩
  rw [seg_split (n := i - a) rfl (by omega) (by omega) h, seg_cons hie h, h32, cuts_sep _ _ _ (good_no_space (seg_good (by omega) hg)), seg_len (by omega)]
  rw [show a + (i - a) + 1 = i + 1 by omega]

/-- A line, and more. -/
theorem line3 {bs : List Int} {a i : Nat} (hai : a ≤ i) (hi : i < bs.length) (hg : ∀ j, a ≤ j → j < i → at0 bs j ≠ 10) (h10 : at0 bs i = 10) :
    cuts 10 a (seg bs a bs.length) = (a, seg bs a i) :: cuts 10 (i + 1) (seg bs (i + 1) bs.length) := by
  have hno : (10 : Int) ∉ seg bs a i := fun e => by
    obtain ⟨j, h1, h2, h3⟩ := seg_mem (by omega) e
    exact hg j h1 h2 h3.symm
  rw [seg_split (n := i - a) rfl hai (by omega) (Nat.le_refl _), seg_cons hi (Nat.le_refl _), h10, cuts_sep _ _ _ hno, seg_len (by omega)]
  rw [show a + (i - a) + 1 = i + 1 by omega]
/-- The last line. -/
theorem line2 {bs : List Int} {a : Nat} (hg : ∀ j, a ≤ j → j < bs.length → at0 bs j ≠ 10) : cuts 10 a (seg bs a bs.length) = [(a, seg bs a bs.length)] :=
  cuts_none _ _ (fun e => by
    obtain ⟨j, h1, h2, h3⟩ := seg_mem (Nat.le_refl _) e
    exact hg j h1 h2 h3.symm)

theorem find_app_none {α β : Type} {f : α → Option β} {xs ys : List α} (h : xs.findSome? f = none) : (xs ++ ys).findSome? f = ys.findSome? f := by
  rw [List.findSome?_append, h]; simp
theorem over_seg {bs : List Int} {a e : Nat} (hae : a < e) (h : e ≤ bs.length) : over (seg bs a e) = (at0 bs a == 35) := by rw [seg_cons hae h]; rfl
end Go.Proofs.YtpdbkjnaicjfdaaGreatDoor

namespace Go.Proofs.YtpdbkjnaicjfdaaGreatDoor
open Go.RowKit
set_option linter.unusedVariables false

def WordsPost (tot : List Wd) (w : World) (e : Ending) (w' : World) : Prop :=
  Below w.heap.size w w' ∧
  ((∃ v, tot.findSome? wordF = none ∧ e = .returned (.tuple #[v, .int .i64 0, .bool true]) ∧ w'.ownsRow w.heap.size 144 2 v tot.length (wordCells tot)) ∨
   (∃ f : Nat × Nat, tot.findSome? wordF = some f ∧ e = .returned (.tuple #[.slice none 0 0, .int .i64 f.2, .bool false])))

theorem BytesB.at {B : Nat} {w : World} {A : Option Addr} {bs : List Int} (h : BytesB B w A bs) (hp : 0 < bs.length) : ∃ b off, A = some ⟨b, off, none⟩ ∧ b < B ∧ ∀ j, j < bs.length → w.cell? ⟨b, off + j, none⟩ = some (.int .u8 (at0 bs j)) := h hp

theorem seg_bytes {B : Nat} {w : World} {b off : Nat} {bs : List Int} {a i : Nat} (h : i ≤ bs.length) (hb : b < B) (hc : ∀ j, j < bs.length → w.cell? ⟨b, off + j, none⟩ = some (.int .u8 (at0 bs j))) : BytesB B w (some ⟨b, off + a, none⟩) (seg bs a i) := by
  intro hl
  refine ⟨b, off + a, rfl, hb, fun j hj => ?_⟩
  rw [Nat.add_assoc, hc (a + j) (by rw [seg_len h] at hj; omega), List.getElem?_eq_getElem hj, seg_get h hj]; rfl

theorem octet_at0 {bs : List Int} (h : Octets bs) (j : Nat) : 0 ≤ at0 bs j ∧ at0 bs j ≤ 255 := by
  unfold at0
  by_cases hj : j < bs.length
  · exact octet_at h j hj
  · rw [List.getElem?_eq_none (by omega)]; simp

theorem tot_fault {pre tot : List Wd} {p : Nat} {r q : List Int} {t : List Wd} {k : Nat} (h : tot = pre ++ cuts 32 p r) (hf : pre.findSome? wordF = none) (hc : cuts 32 p r = (p, q) :: t) (hw : fw q = some k) : tot.findSome? wordF = some (5, p + k) := by
  rw [h, find_app_none hf, hc, List.findSome?_cons, wordF_some (x := (p, q)) hw]
theorem tot_fine {pre : List Wd} {p : Nat} {q : List Int} (hf : pre.findSome? wordF = none) (hw : fw q = none) : (pre ++ [(p, q)]).findSome? wordF = none := by
  rw [find_snoc hf]; exact wordF_none (x := (p, q)) hw

end Go.Proofs.YtpdbkjnaicjfdaaGreatDoor

namespace Go.Proofs.YtpdbkjnaicjfdaaGreatDoor
open Go.RowKit
set_option linter.unusedVariables false

/-- What is left of a text. -/
def rest (bs : List Int) (f : Nat) : List Wd := if f ≤ bs.length then cuts 10 f (seg bs f bs.length) else []

theorem rest_zero (bs : List Int) : rest bs 0 = cuts 10 0 bs := by unfold rest; rw [if_pos (Nat.zero_le _), seg_all]
theorem rest_end {bs : List Int} {f : Nat} (h : bs.length ≤ f) : (rest bs f).findSome? lineF = none ∧ (rest bs f).filterMap lineL = [] := by
  unfold rest
  split
  · obtain rfl : f = bs.length := by omega
    rw [seg_nil]; exact ⟨rfl, rfl⟩
  · exact ⟨rfl, rfl⟩
theorem rest_step {bs : List Int} {f i : Nat} (hfi : f ≤ i) (hi : i ≤ bs.length) (hg : ∀ j, f ≤ j → j < i → at0 bs j ≠ 10) (h : i = bs.length ∨ at0 bs i = 10) : rest bs f = (f, seg bs f i) :: rest bs (i + 1) := by
  unfold rest
  rw [if_pos (by omega)]
  by_cases hl : i < bs.length
  · rw [if_pos (by omega)]
    exact line3 hfi hl hg (by rcases h with h | h; omega; exact h)
  · obtain rfl : i = bs.length := by omega
    rw [if_neg (by omega)]
    exact line2 hg

theorem lines_push {W w1 : World} {n₀ : Nat} {v v' : Value} {zs : List (Ln × Value)} {z : Ln × Value} {tmp : Obj} (hrow : W.ownsRow n₀ 121 2 v zs.length (lineCells zs)) (hrs : WRows W n₀ zs)
    (hz : W.ownsRow n₀ 144 2 z.2 z.1.2.length (wordCells z.1.2))
    (hown' : w1.ownsRow n₀ 121 2 v' (zs.length + 1) (lineCells zs ++ [.int .i64 z.1.1, z.2])) (hgrow : (W.alloc tmp).grownBy w1 v.ownBlock) :
    OwnLines w1 n₀ v' ((zs ++ [z]).map Prod.fst) := by
  have hrs' : WRows W n₀ (zs ++ [z]) := fun y hy => by
    rcases List.mem_append.1 hy with h | h
    · exact hrs y h
    · obtain rfl : y = z := by simpa using h
      exact hz
  have h1 : WRows w1 n₀ (zs ++ [z]) := (hrs'.alloc tmp).kept hgrow (fun y hy => row_apart (hrs' y hy) hrow (by decide))
  refine ⟨zs ++ [z], rfl, ?_, h1⟩
  rw [List.length_append, lineCells_snoc]
  exact hown'

theorem pair_grown {W w1 : World} {B : Nat} {t e : TypeId} {a b v : Value} {n k size : Nat} {xs : List Value} {tmp : Obj} (h : Pair2 W B t a b) (hte : t ≠ e) (hr : W.ownsRow n e size v k xs) (hg : (W.alloc tmp).grownBy w1 v.ownBlock) : Pair2 w1 B t a b := by
  refine h.of ?_
  rw [hg.block B (by have := h.lt; simp; omega) ?_]
  · exact Below.heap_alloc W tmp B h.lt
  · rcases hr.2 with ⟨rfl, _⟩ | ⟨g, cap, cur, rfl, _, hgb, _⟩
    · simp [Value.ownBlock]
    · intro e'
      obtain rfl : B = g := by simpa [Value.ownBlock] using e'
      have := (show W.heap[B]? = _ from h).symm.trans hgb
      simp at this
      exact hte this.2

theorem own_set {W : World} {B j : Nat} {u v : Value} {base : Nat} {ls : List Ln} (h : OwnLines W base v ls) (hp : ∃ a b, Pair2 W B 29 a b) : OwnLines (W.setCell ⟨B, j, none⟩ u) base v ls := by
  obtain ⟨a, b, hab⟩ := hp
  refine h.kept (row := some B) ⟨rfl, rfl, rfl, by simp [World.setCell], fun k _ hk => Below.heap_setCell _ _ _ k (fun e => hk (by rw [e]))⟩ fun r e => ?_
  cases e
  exact ⟨_, hab, fun cs => ⟨by simp, by simp⟩⟩

theorem text_done {bs : List Int} (hm : bs.length ≤ 67108864) {pre : List Wd} {f : Nat} (hc : cuts 10 0 bs = pre ++ rest bs f) (hf : pre.findSome? lineF = none) (hl : bs.length ≤ f) : textF bs = none ∧ textL bs = pre.filterMap lineL := by
  have h1 : textF bs = none := text_none hm (by rw [hc, find_app_none hf]; exact (rest_end hl).1)
  refine ⟨h1, ?_⟩
  rw [textL, if_pos h1, hc, List.filterMap_append, (rest_end hl).2, List.append_nil]
theorem text_stop {bs : List Int} (hm : bs.length ≤ 67108864) {pre : List Wd} {f i : Nat} {x : Nat × Nat} {t : List Wd} (hc : cuts 10 0 bs = pre ++ rest bs f) (hf : pre.findSome? lineF = none) (hr : rest bs f = (f, seg bs f i) :: t) (hx : lineF (f, seg bs f i) = some x) : textF bs = some x :=
  text_some hm (by rw [hc, find_app_none hf, hr, List.findSome?_cons, hx])

end Go.Proofs.YtpdbkjnaicjfdaaGreatDoor
