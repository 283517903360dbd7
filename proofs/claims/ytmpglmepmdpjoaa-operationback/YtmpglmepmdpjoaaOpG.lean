/- The reader, as the world has it; fill, argumentA, argumentB, arrow, result. -/
import Derived.Test.YtmpglmepmdpjoaaOpE
import Derived.Test.YtmpglmepmdpjoaaWalkD
namespace Go.Proofs.Ytmpglmepmdpjoaa
open Go.RowKit Go.Maps
set_option linter.unusedVariables false

/-- But for block B the world is as it was. -/
structure Only (B : Nat) (w w' : World) : Prop where
  os : w'.os = w.os
  tape : w'.tape = w.tape
  output : w'.output = w.output
  size : w.heap.size ≤ w'.heap.size
  block : ∀ k, k < w.heap.size → k ≠ B → w'.heap[k]? = w.heap[k]?
theorem Only.of {B n : Nat} {w w' : World} (h : Below n w w') (hn : w.heap.size ≤ n) : Only B w w' := ⟨h.os, h.tape, h.output, h.size, fun k hk _ => h.block k (by omega)⟩
theorem Only.set {B : Nat} {w w' : World} (h : Only B w w') (off : Nat) (u : Value) : Only B w (w'.setCell ⟨B, off, none⟩ u) :=
  ⟨h.os, h.tape, h.output, by have := h.size; simpa [World.setCell] using this, fun k hk hF => (Below.heap_setCell _ _ _ _ hF).trans (h.block k hk hF)⟩
theorem Only.below {B lo : Nat} {w w' : World} (h : Only B w w') (hlo : lo ≤ B) (hle : lo ≤ w.heap.size) : Below lo w w' := ⟨h.os, h.tape, h.output, h.size, fun k hk => h.block k (by omega) (by omega)⟩
theorem Only.then {B : Nat} {a b c : World} (h : Only B a b) (k : Only B b c) : Only B a c :=
  ⟨k.os.trans h.os, k.tape.trans h.tape, k.output.trans h.output, Nat.le_trans h.size k.size, fun i hi hF => (k.block i (Nat.lt_of_lt_of_le hi h.size) hF).trans (h.block i hi hF)⟩
theorem Only.grown {B : Nat} {w w' : World} (h : Only B w w') : w.grownBy w' (some B) := ⟨h.os, h.tape, h.output, h.size, fun k hk hF => h.block k hk (fun e => hF (by rw [e]))⟩
theorem Holds.set {W : World} {B : Nat} {t : TypeId} {cs : Array Value} (h : Holds W B t cs) (off : Nat) (u : Value) : Holds (W.setCell ⟨B, off, none⟩ u) B t (cs.setIfInBounds off u) := heap_setCell_same W B off cs t u h

def fillE (s : ByteArray) (wrong : Int) : Int := if getE s.data.toList = 0 then 0 else wrong
def fillC (s : ByteArray) (off : Nat) (cs : Array Value) : Array Value := if getE s.data.toList = 0 then cs.setIfInBounds off (.int .i64 (getN s.data.toList)) else cs
def FillPost (s : ByteArray) (wrong : Int) (B off : Nat) (t : TypeId) (cs : Array Value) (W : World) (e : Ending) (W' : World) : Prop :=
  e = .returned (.int .i64 (fillE s wrong)) ∧ Holds W' B t (fillC s off cs) ∧ Only B W W'

theorem fill_any (s : ByteArray) (wrong : Int) (B off : Nat) (t : TypeId) (cs : Array Value) (u : Value) (W : World) (hH : Holds W B t cs) (ho : cs[off]? = some u) (hs : s.size ≤ maxLen) :
    Calls Try.prog 69 #[.pointer (some ⟨B, off, none⟩), .string s, .int .i64 wrong] W (FillPost s wrong B off t cs W) := by
  have HG := Lib.hid (fun W => get_any s W hs)
  have HE : Hid (fillE s wrong = if getE s.data.toList = 0 then 0 else wrong) := Lib.hid rfl
  have HC : Hid (fillC s off cs = if getE s.data.toList = 0 then cs.setIfInBounds off (.int .i64 (getN s.data.toList)) else cs) := Lib.hid rfl
  unfold FillPost
  unfold GetPost at HG
  generalize fillE s wrong = r at HE ⊢
  generalize fillC s off cs = cs' at HC ⊢
  generalize getE s.data.toList = ge at HG HE HC
  generalize getN s.data.toList = gn at HG HC
  generalize getP s.data.toList = gp at HG
  by_cases h0 : ge = 0
  · subst h0
    go_enter Try.func69, Try.ntmps69
    go_wp2_with fail
    refine (HG.out _).mono ?_
    rintro e w1 ⟨rfl, hB1⟩
    have H1 := (hH.below hB1 hH.lt).alloc (.cells #[.int .i64 0, .int .i64 gp] 82)
    have c1 := H1.c ho
    have f1 := H1.frozen off
    go_wp2
    go_ret
    exact ⟨by rw [HE.out, if_pos trivial]; rfl, by rw [HC.out, if_pos trivial]; exact H1.set off _, (Only.of (hB1.alloc hB1.size _) (Nat.le_refl _)).set off _⟩
  · have hb : (ge == 0) = false := by simpa using h0
    go_enter Try.func69, Try.ntmps69
    go_wp2_with fail
    refine (HG.out _).mono ?_
    rintro e w1 ⟨rfl, hB1⟩
    go_wp2
    go_ret
    exact ⟨by rw [HE.out, if_neg h0]; rfl, by rw [HC.out, if_neg h0]; exact (hH.below hB1 hH.lt).alloc _, Only.of (hB1.alloc hB1.size _) (Nat.le_refl _)⟩

/-- The cells of a reader. -/
def rdL (o : Option Nat) (kd a b k n : Int) (v : Value) : Array Value := ((match o with
  | none => [.int .i64 0, .int .i64 0, .string ⟨#[]⟩, .int .i64 0, .nilFunc, .nilFunc, .nilFunc]
  | some i => ruleL i) ++ [.int .i64 kd, .int .i64 a, .int .i64 b, .int .i64 k, .int .i64 n, v]).toArray

def fS : Nat → Nat
  | 0 => 40
  | 1 => 52
  | 2 => 53
  | 3 => 54
  | _ => 55
def stepV (B : Nat) (c : Nat) : Value := .func (.func (fS c)) #[.pointer (some ⟨B, 0, none⟩)] #[]

/-- What a reader has. -/
structure St where
  asked : Option Nat
  kd : Int
  a : Int
  b : Int
  k : Int
  n : Int
  steps : List Nat

/-- Block B is a reader: its steps lie in v. -/
structure Rd (W : World) (lo B : Nat) (v : Value) (st : St) : Prop where
  cells : Holds W B 72 (rdL st.asked st.kd st.a st.b st.k st.n v)
  hB : lo ≤ B
  row : W.ownsRow lo 73 1 v st.steps.length (st.steps.map (stepV B))

theorem Rd.apart {W : World} {lo B : Nat} {v : Value} {st : St} (h : Rd W lo B v st) : some B ≠ v.ownBlock := h.cells.not_row h.row (by decide)
theorem Rd.lt {W : World} {lo B : Nat} {v : Value} {st : St} (h : Rd W lo B v st) : B < W.heap.size := h.cells.lt
/-- The cells are turned, the steps are not. -/
theorem Rd.turn {W W' : World} {lo B : Nat} {v : Value} {st : St} (h : Rd W lo B v st) (hO : Only B W W') (st' : St) (hs : st'.steps = st.steps) (hc : Holds W' B 72 (rdL st'.asked st'.kd st'.a st'.b st'.k st'.n v)) : Rd W' lo B v st' :=
  ⟨hc, h.hB, by rw [hs]; exact h.row.kept hO.grown (.inr h.apart.symm)⟩
theorem Rd.below {W W' : World} {lo B n : Nat} {v : Value} {st : St} (h : Rd W lo B v st) (hb : Below n W W') (hn : W.heap.size ≤ n) : Rd W' lo B v st :=
  ⟨h.cells.below hb (by have := h.lt; omega), h.hB, row_below h.row (hb.mono hn)⟩

def StepPost (lo B : Nat) (st' : St) (r : Int) (W : World) (e : Ending) (W' : World) : Prop := e = .returned (.int .i64 r) ∧ ∃ v', Rd W' lo B v' st' ∧ Below lo W W'

def stA (s : ByteArray) (st : St) : St := if getE s.data.toList = 0 then { st with a := getN s.data.toList } else st
def stB (s : ByteArray) (st : St) : St := if getE s.data.toList = 0 then { st with b := getN s.data.toList } else st
def stN (s : ByteArray) (st : St) : St := if getE s.data.toList = 0 then { st with n := getN s.data.toList } else st
def stR (s : ByteArray) (st : St) : St := if s == okB then { st with k := 0 } else if s == noneB then { st with k := 1 } else stN s { st with k := 2 }
def resE (s : ByteArray) : Int := if s == okB then 0 else if s == noneB then 0 else fillE s 9
def arrE (s : ByteArray) : Int := if s == arrB then 0 else 5

theorem fillC_A (s : ByteArray) (st : St) (v : Value) : fillC s 8 (rdL st.asked st.kd st.a st.b st.k st.n v) = rdL (stA s st).asked (stA s st).kd (stA s st).a (stA s st).b (stA s st).k (stA s st).n v := by
  unfold fillC stA
  split
  · cases h : st.asked <;> rfl
  · rfl
theorem fillC_B (s : ByteArray) (st : St) (v : Value) : fillC s 9 (rdL st.asked st.kd st.a st.b st.k st.n v) = rdL (stB s st).asked (stB s st).kd (stB s st).a (stB s st).b (stB s st).k (stB s st).n v := by
  unfold fillC stB
  split
  · cases h : st.asked <;> rfl
  · rfl
theorem fillC_N (s : ByteArray) (st : St) (v : Value) : fillC s 11 (rdL st.asked st.kd st.a st.b st.k st.n v) = rdL (stN s st).asked (stN s st).kd (stN s st).a (stN s st).b (stN s st).k (stN s st).n v := by
  unfold fillC stN
  split
  · cases h : st.asked <;> rfl
  · rfl
theorem rd_at (o : Option Nat) (kd a b k n : Int) (v : Value) : (rdL o kd a b k n v)[7]? = some (.int .i64 kd) ∧ (rdL o kd a b k n v)[8]? = some (.int .i64 a) ∧ (rdL o kd a b k n v)[9]? = some (.int .i64 b) ∧ (rdL o kd a b k n v)[10]? = some (.int .i64 k) ∧ (rdL o kd a b k n v)[11]? = some (.int .i64 n) ∧ (rdL o kd a b k n v)[12]? = some v := by
  cases o <;> exact ⟨rfl, rfl, rfl, rfl, rfl, rfl⟩
theorem rd_k (o : Option Nat) (kd a b k n : Int) (v : Value) (x : Int) : (rdL o kd a b k n v).setIfInBounds 10 (.int .i64 x) = rdL o kd a b x n v := by cases o <;> rfl

theorem arrB_list : arrB.toList = [45, 62] := by rw [Go.ByteArray.toList_eq]; rfl
theorem okB_list : okB.toList = [111, 107] := by rw [Go.ByteArray.toList_eq]; rfl
theorem noneB_list : noneB.toList = [110, 111, 110, 101] := by rw [Go.ByteArray.toList_eq]; rfl

theorem argA_any (s : ByteArray) (lo B : Nat) (v : Value) (st : St) (W : World) (h : Rd W lo B v st) (hlo : lo ≤ W.heap.size) (hs : s.size ≤ maxLen) :
    Calls Try.prog 52 #[.pointer (some ⟨B, 0, none⟩), .string s] W (StepPost lo B (stA s st) (fillE s 5) W) := by
  have HF := Lib.hid (fill_any s 5 B 8 72 _ _ W h.cells (rd_at _ _ _ _ _ _ _).2.1 hs)
  have HR := Lib.hid h
  clear h
  go_enter Try.func52, Try.ntmps52
  go_wp2_with fail
  refine HF.out.mono ?_
  rintro e w1 ⟨rfl, hH, hO⟩
  go_wp2
  go_ret
  refine ⟨rfl, v, HR.out.turn hO (stA s st) (by unfold stA; split <;> rfl) (by rw [← fillC_A]; exact hH), hO.below HR.out.hB hlo⟩
theorem argB_any (s : ByteArray) (lo B : Nat) (v : Value) (st : St) (W : World) (h : Rd W lo B v st) (hlo : lo ≤ W.heap.size) (hs : s.size ≤ maxLen) :
    Calls Try.prog 53 #[.pointer (some ⟨B, 0, none⟩), .string s] W (StepPost lo B (stB s st) (fillE s 5) W) := by
  have HF := Lib.hid (fill_any s 5 B 9 72 _ _ W h.cells (rd_at _ _ _ _ _ _ _).2.2.1 hs)
  have HR := Lib.hid h
  clear h
  go_enter Try.func53, Try.ntmps53
  go_wp2_with fail
  refine HF.out.mono ?_
  rintro e w1 ⟨rfl, hH, hO⟩
  go_wp2
  go_ret
  refine ⟨rfl, v, HR.out.turn hO (stB s st) (by unfold stB; split <;> rfl) (by rw [← fillC_B]; exact hH), hO.below HR.out.hB hlo⟩
theorem arrow_any (s : ByteArray) (lo B : Nat) (v : Value) (st : St) (W : World) (h : Rd W lo B v st) (hlo : lo ≤ W.heap.size) :
    Calls Try.prog 54 #[.pointer (some ⟨B, 0, none⟩), .string s] W (StepPost lo B st (arrE s) W) := by
  have HR := Lib.hid h
  clear h
  cases hb : (s == arrB) with
  | true =>
    obtain rfl : s = arrB := by simpa using hb
    go_enter Try.func54, Try.ntmps54
    unfold arrB
    go_wp2
    go_ret
    exact ⟨rfl, v, HR.out, Below.refl _ _⟩
  | false =>
    have hE : Hid (arrE s = 5) := Lib.hid (by unfold arrE; rw [hb]; rfl)
    rw [beq_toListBytes, arrB_list] at hb
    go_enter Try.func54, Try.ntmps54
    go_wp2
    go_ret
    exact ⟨by rw [hE.out]; rfl, v, HR.out, Below.refl _ _⟩

set_option maxHeartbeats 1000000 in
theorem result_any (s : ByteArray) (lo B : Nat) (v : Value) (st : St) (W : World) (h : Rd W lo B v st) (hlo : lo ≤ W.heap.size) (hs : s.size ≤ maxLen) :
    Calls Try.prog 55 #[.pointer (some ⟨B, 0, none⟩), .string s] W (StepPost lo B (stR s st) (resE s) W) := by
  have c10 := h.cells.c (rd_at _ _ _ _ _ _ _).2.2.2.1
  have f10 := h.cells.frozen 10
  have hS : ∀ x : Int, Rd (W.setCell ⟨B, 10, none⟩ (.int .i64 x)) lo B v { st with k := x } := fun x => h.turn ((Only.of (Below.refl W.heap.size W) (Nat.le_refl _)).set 10 _) { st with k := x } rfl (by
    have := h.cells.set 10 (.int .i64 x)
    rwa [rd_k] at this)
  have HS := Lib.hid hS
  have HR := Lib.hid h
  have HB : Hid (∀ x : Int, Below lo W (W.setCell ⟨B, 10, none⟩ (.int .i64 x))) := Lib.hid fun x => (Below.refl _ _).setCell h.hB _
  clear h hS
  cases hb : (s == okB) with
  | true =>
    obtain rfl : s = okB := by simpa using hb
    go_enter Try.func55, Try.ntmps55
    unfold okB
    go_wp2
    go_ret
    exact ⟨rfl, v, HS.out 0, HB.out 0⟩
  | false =>
    cases hc : (s == noneB) with
    | true =>
      obtain rfl : s = noneB := by simpa using hc
      go_enter Try.func55, Try.ntmps55
      unfold noneB
      go_wp2
      go_ret
      exact ⟨rfl, v, HS.out 1, HB.out 1⟩
    | false =>
      have hE : Hid (resE s = fillE s 9) := Lib.hid (by unfold resE; rw [hb, hc]; rfl)
      have hT : Hid (stR s st = stN s { st with k := 2 }) := Lib.hid (by unfold stR; rw [hb, hc]; rfl)
      rw [beq_toListBytes, okB_list] at hb
      rw [beq_toListBytes, noneB_list] at hc
      have HF := Lib.hid (fill_any s 9 B 11 72 _ _ _ (HS.out 2).cells (rd_at _ _ _ _ _ _ _).2.2.2.2.1 hs)
      go_enter Try.func55, Try.ntmps55
      go_wp2_with fail
      refine HF.out.mono ?_
      rintro e w1 ⟨rfl, hH, hO⟩
      go_wp2
      go_ret
      refine ⟨by rw [hE.out]; rfl, v, ?_, (HB.out 2).trans (hO.below HR.out.hB (by simpa [World.setCell] using hlo))⟩
      rw [hT.out]
      exact (HS.out 2).turn hO (stN s { st with k := 2 }) (by unfold stN; split <;> rfl) (by rw [← fillC_N]; exact hH)
end Go.Proofs.Ytmpglmepmdpjoaa
