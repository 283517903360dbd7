/- GrammarTwo. -/
import Derived.Test.YtpdbkjnaicjfdaaGreatDoorGvP
namespace Go.Proofs.YtpdbkjnaicjfdaaGreatDoor
open Go.RowKit Go.Maps
set_option linter.unusedVariables false
set_option maxRecDepth 100000

def okL : Rx (List Ev) → List Ev
  | .ok es => es
  | .error _ => []
def errC : Rx (List Ev) → Int
  | .ok _ => 0
  | .error f => f.1
def errP : Rx (List Ev) → Int
  | .ok _ => 0
  | .error f => f.2
def UniPost (X : Rx (List Ev)) (w : World) (e : Ending) (w' : World) : Prop := ∃ A c, e = .returned (.tuple #[.slice A (okL X).length c, .agg #[.int .i64 (errC X), .int .i64 (errP X)]]) ∧ OwnEvs w' w.heap.size (.slice A (okL X).length c) (okL X) ∧ Below w.heap.size w w'
theorem uni_of {X : Rx (List Ev)} {w : World} {e : Ending} {w' : World} (h : ParsePost X w e w') : UniPost X w e w' := by
  cases X with
  | ok es => exact h
  | error f => exact ⟨none, 0, h.1, OwnEvs.nil _ _, h.2⟩
theorem parse_uni (A : Option Addr) (c : Nat) (bs : List Int) (w : World) (hA : Bytes w A bs) (ho : Octets bs) (hc : bs.length ≤ c) (hm : bs.length ≤ 7000) (hw : Wds w) (hk : KWds w) :
    Calls Tryz.prog 37 #[.slice A bs.length c] w (UniPost (parseX bs) w) := (parse_small A c bs w hA ho hc hm hw hk).mono fun e w' h => uni_of h
/-- What three parses come to. -/
theorem three {a b : List Int} (ha : a.length ≤ 800) (hb : b.length ≤ 800) :
    (errC (parseX (a ++ [10])) = 0 ∧ errC (parseX b) = 0 ∧ errC (parseX ((a ++ [10]) ++ b)) = 0 ∧ errP (parseX ((a ++ [10]) ++ b)) = 0 ∧ okL (parseX ((a ++ [10]) ++ b)) = okL (parseX (a ++ [10])) ++ okL (parseX b)) ∨
    ((errC (parseX (a ++ [10])) ≠ 0 ∨ errC (parseX b) ≠ 0) ∧ errC (parseX ((a ++ [10]) ++ b)) ≠ 0 ∧ okL (parseX ((a ++ [10]) ++ b)) = [] ∧
      (errC (parseX (a ++ [10])) = 0 ∨ errC (parseX b) = 0 ∨ errC (parseX ((a ++ [10]) ++ b)) = errC (parseX (a ++ [10])) ∨ errC (parseX ((a ++ [10]) ++ b)) = errC (parseX b))) := by
  have hl : ((a ++ [10]) ++ b).length ≤ 7000 := by simp; omega
  have h1 : (a ++ [10]).length ≤ 7000 := by simp; omega
  obtain ⟨p1, p2, p3⟩ := parse_two (a := a) (b := b) (by omega)
  cases hx : parseX (a ++ [10]) with
  | error f =>
    obtain ⟨h, hh, hor⟩ := p2 f hx
    have e1 := (parse_err h1 hx).1
    have e3 := (parse_err hl hh).1
    rw [hh]
    refine .inr ⟨.inl e1, e3, rfl, ?_⟩
    rcases hor with e | ⟨g, hg, e⟩
    · exact .inr (.inr (.inl e))
    · rw [hg]; exact .inr (.inr (.inr e))
  | ok es =>
    cases hy : parseX b with
    | error g =>
      obtain ⟨h, hh⟩ := p3 es g hx hy
      have e2 := (parse_err (by omega) hy).1
      have e3 := (parse_err hl hh).1
      rw [hh]
      exact .inr ⟨.inr e2, e3, rfl, .inl rfl⟩
    | ok fs =>
      rw [p1 es fs hx hy]
      exact .inl ⟨rfl, rfl, rfl, rfl, rfl⟩
theorem okL_few {bs : List Int} : (okL (parseX bs)).length ≤ bs.length + 1 ∧ ∀ e ∈ okL (parseX bs), e.st.2.2.length ≤ 1000 := by
  cases h : parseX bs with
  | ok es => exact parse_few h
  | error f => exact ⟨Nat.zero_le _, fun e he => by cases he⟩
/-- 'append(x, y...)' onto a row of its own, y whatever slice, where the operation is guarded and wanted. -/
theorem wpList_append_want {P : Program} (w : World) {ops : Array Oper} {rest : List Oper} {o : Oper} {a : Act} {Q : Exit → Act → World → Prop} (hw : Region.wanted o (yielded ops a.tmps) = true) (s x : Operand) (t : TypeId)
    (ho : o.op = .call { callee := .builtin .append, args := #[s, x], argTypes := #[t, t] })
    (base : Nat) (e : TypeId) (i : TypeInfo) (z : Value) (size bytes : Nat) (ht : P.underlying t = some (.slice e)) (hi : P.info? e = some i) (hz : i.zero = some z)
    (hsize : i.size = size) (hby : i.bytes = bytes) (hzs : z.cells.size = size) (hsz : 0 < size)
    (v : Value) (n : Nat) (xs : List Value) (hs : a.eval s = v) (hown : w.ownsRow base e size v n xs)
    (A : Option Addr) (m c : Nat) (news : List Value) (hx : a.eval x = .slice A m c) (hl : news.length = m * size) (hsrc : ∀ ad, A = some ad → ∀ j u, news[j]? = some u → w.cell? (ad.add j) = some u) (hnil : A = none → m = 0 ∧ c = 0) (h1 : ∀ u ∈ news, u.oneCell' = true)
    (h63 : n + m ≤ maxLen) (hbytes : (n + m) * bytes ≤ 140737488355328) (hbase : base ≤ w.heap.size)
    (h : ∀ v' w', w'.ownsRow base e size v' (n + m) (xs ++ news) → w.grownBy w' v.ownBlock → wpList P ops Q rest (a.put o.dst v') w') : wpList P ops Q (o :: rest) a w := by
  unfold wpList
  rw [if_pos hw]
  left
  cases A with
  | none =>
    obtain ⟨rfl, rfl⟩ := hnil rfl
    obtain rfl : news = [] := List.eq_nil_of_length_eq_zero (by simpa using hl)
    have hr := run_append_owned_none (P := P) w base t o.type e i size ht hi v n xs hown
    unfold Oper.wp execOp
    simp only [ho, resolve, invoke, builtin, Sem.run_bind, Sem.run_pure, Result.andThen_ok, List.map_toArray, List.map_cons, List.map_nil, hs, hx, hr]
    exact h v w (by simpa using hown) (World.grownBy.refl _ _)
  | some ad =>
    obtain ⟨v', w', hrun, r1, r2, r3⟩ := run_append_own (P := P) w base t o.type e i z size bytes ht hi hz hsize hby hzs hsz v n xs hown ad m c news hl (hsrc ad rfl) h1 h63 hbytes hbase
    unfold Oper.wp execOp
    simp only [ho, resolve, invoke, builtin, Sem.run_bind, Sem.run_pure, Result.andThen_ok, List.map_toArray, List.map_cons, List.map_nil, hs, hx, hrun]
    exact h v' w' r1 r2

theorem evsC_len : ∀ zs : List EvZ, (evsC zs).length = zs.length * 11
  | [] => rfl
  | z :: r => by
    show (evL z ++ evsC r).length = _
    rw [List.length_append, evsC_len r, evL_len, List.length_cons]; omega
theorem evsC_one (zs : List EvZ) : ∀ u ∈ evsC zs, u.oneCell' = true := fun u hu => by
  unfold evsC at hu
  obtain ⟨z, _, h⟩ := List.mem_flatMap.1 hu
  unfold evL evC at h
  simp at h
  rcases h with rfl | rfl | rfl | rfl | rfl | rfl | rfl | rfl | rfl | rfl | rfl <;> rfl
theorem row_src {W : World} {base : Nat} {e : TypeId} {size : Nat} {A : Option Addr} {n c : Nat} {xs : List Value} (h : W.ownsRow base e size (.slice A n c) n xs) : (∀ ad, A = some ad → ∀ j u, xs[j]? = some u → W.cell? (ad.add j) = some u) ∧ (A = none → n = 0 ∧ c = 0) := by
  rcases h.2 with ⟨e', hn⟩ | ⟨g, cap, cur, e', _⟩
  · injection e' with e1 e2 e3
    subst e1
    exact ⟨fun ad h => (by cases h), fun _ => ⟨hn, e3⟩⟩
  · injection e' with e1 e2 e3
    subst e1
    refine ⟨fun ad ha j u hu => ?_, fun h => (by cases h)⟩
    cases ha
    exact h.cells (g := g) rfl j u hu

set_option maxHeartbeats 8000000 in
theorem gtwo_law (A : Option Addr) (c : Nat) (aa : List Int) (Ab : Option Addr) (cb : Nat) (bb : List Int) (w : World) (hG : Gds w) (hA : Bytes w A aa) (ho : Octets aa) (hm : aa.length ≤ maxLen) (hnil : A = none → c = 0)
    (hAb : Bytes w Ab bb) (hob : Octets bb) (hcb : bb.length ≤ cb) (hmb : bb.length ≤ maxLen) (hnilb : Ab = none → cb = 0) :
    Calls Tryz.prog 10 #[.slice A aa.length c, .slice Ab bb.length cb] w (Yes w) := by
  unfold maxLen at hm hmb
  obtain ⟨hw, hk⟩ := hG
  have HW := Lib.hid hw
  have HK := Lib.hid hk
  have HAW := Lib.hid (awake_any w hw hk)
  by_cases hlong : 800 < aa.length ∨ 800 < bb.length
  · have hcond : decide ((800 : Int) < (aa.length : Int)) = true ∨ (decide ((800 : Int) < (aa.length : Int)) = false ∧ decide ((800 : Int) < (bb.length : Int)) = true) := by
      rcases Nat.lt_or_ge 800 aa.length with h | h
      · exact .inl (decide_eq_true (by omega))
      · exact .inr ⟨decide_eq_false (by omega), decide_eq_true (by omega)⟩
    clear hA hAb ho hob hnil hnilb hw hk
    rcases hcond with h1 | ⟨h1, h2⟩
    all_goals
      go_enter Tryz.func10, Tryz.ntmps10
      go_wp2_with fail
      refine HAW.out.mono ?_
      rintro e w1 ⟨rfl, hB1⟩
      go_wp2
      go_ret
      exact ⟨rfl, hB1⟩
  · have hla : aa.length ≤ 800 := by omega
    have hlb : bb.length ≤ 800 := by omega
    have h1 : decide ((800 : Int) < (aa.length : Int)) = false := decide_eq_false (by omega)
    have h2 : decide ((800 : Int) < (bb.length : Int)) = false := decide_eq_false (by omega)
    obtain ⟨i0, hi, hz0, hz1, hz2⟩ := info_parts info_u8
    have HA := Lib.hid hA
    have HAb := Lib.hid hAb
    have HN := Lib.hid hnil
    have HNb := Lib.hid hnilb
    have HOa : Hid (Octets (aa ++ [10])) := Lib.hid (fun x hx => by
      rcases List.mem_append.1 hx with h | h
      · exact ho x h
      · simp at h; omega)
    have HOb := Lib.hid hob
    have H3 := Lib.hid (three hla hlb)
    have HFa := Lib.hid (okL_few (bs := aa ++ [10]))
    have HFb := Lib.hid (okL_few (bs := bb))
    clear hA hAb ho hob hnil hnilb hlong hm hmb hw hk
    go_enter Tryz.func10, Tryz.ntmps10
    go_wp2_with fail
    refine HAW.out.mono ?_
    rintro e w1 ⟨rfl, hB1⟩
    have hs1 := hB1.size
    go_wp2_with fail
    refine (tw_copy_any A c aa w1 (HA.out.below (B := 0) hB1) (by omega) HN.out).mono ?_
    rintro e w2 ⟨g0, cap0, rfl, hown0, hB2⟩
    have HRow0 := Lib.hid hown0
    have hs2 := hB2.size
    replace hB2 := Below.next hB1 hB2 (Nat.le_refl _)
    clear hown0
    go_wp2_with (at_builtin; refine wpList_append_own _ rfl _ _ 78 rfl w1.heap.size 5 i0 (.int .u8 0) 1 1 Tryz.underlying78 hi hz0 hz1 hz2 rfl (by decide) _ _ _ rfl (HRow0.out.alloc _) ⟨w2.heap.size, 0, none⟩ 1 1 [.int .u8 10] rfl rfl (cell_one_new _ _ _) (by simp [Value.oneCell']) (by unfold maxLen; omega) (by omega) (by simp; omega) ?_; intro v1 w3 hown1 hg1 hn1; obtain ⟨g1, cap1, rfl⟩ := ownsRow_succ hown1; have hcap1 := row_cap hown1)
    obtain ⟨n1, hn1'⟩ : ∃ n1, aa.length + 1 = n1 := ⟨_, rfl⟩
    rw [hn1'] at hown1 hcap1
    rw [hn1']
    obtain ⟨a1, ha1⟩ : ∃ a1, aa ++ [10] = a1 := ⟨_, rfl⟩
    have hl1 : a1.length = n1 := by rw [← ha1, ← hn1']; simp
    have hown1' : w3.ownsRow w1.heap.size 5 1 (.slice (some ⟨g1, 0, none⟩) n1 cap1) n1 (bytesOf a1) := by rw [← ha1]; simpa [bytesOf] using hown1
    have hB3 : Below w.heap.size w w3 := (hB2.alloc hB2.size _).grown hg1 (by have := hB2.size; simp; omega) (fun k e => by have := (HRow0.out.lt k e).1; omega)
    have HRow1 := Lib.hid hown1'
    rw [ha1] at HOa H3 HFa
    have hnn : n1 ≤ 801 := by omega
    have HL1 := Lib.hid hl1
    have hs3 := hB3.size
    clear hown1 hown1' hn1' ha1 hl1 hg1 hn1
    have HLa := Lib.hid (parse_uni (some ⟨g1, 0, none⟩) cap1 a1 w3 (bytes_own HRow1.out) HOa.out (by rw [HL1.out]; exact hcap1) (by rw [HL1.out]; omega) (HW.out.on hB3) (HK.out.on hB3))
    rw [HL1.out] at HLa HFa
    obtain ⟨X1, hX1⟩ : ∃ X1, parseX a1 = X1 := ⟨_, rfl⟩
    rw [hX1] at HLa H3 HFa
    unfold UniPost at HLa
    refine HLa.out.mono ?_
    rintro e w4 ⟨Al, cl, rfl, hl4, hB4⟩
    have HRow4 := Lib.hid (row_below HRow1.out hB4)
    have HL4 := Lib.hid hl4
    have hBw4 := Below.next hB3 hB4 (Nat.le_refl _)
    clear hl4
    generalize hE1 : errC X1 = E1 at *
    generalize hP1 : errP X1 = P1 at *
    have hb5 := alloc1 w4 (.cells #[.int .i64 E1, .int .i64 P1] 29)
    have HX5 := Lib.hid (Holds.new w4 29 #[.int .i64 E1, .int .i64 P1])
    have HRow5 := Lib.hid (row_below HRow4.out hb5)
    have HL5 := Lib.hid (HL4.out.below hb5)
    have hBw5 := nxt hBw4 hb5 hBw4.size
    go_upto_region 6 with fail
    generalize w4.alloc (.cells #[.int .i64 E1, .int .i64 P1] 29) = W5 at *
    have HLb := Lib.hid (parse_uni Ab cb bb W5 (HAb.out.below (B := 0) hBw5) HOb.out hcb (by omega) (HW.out.on hBw5) (HK.out.on hBw5))
    obtain ⟨X2, hX2⟩ : ∃ X2, parseX bb = X2 := ⟨_, rfl⟩
    rw [hX2] at HLb H3 HFb
    unfold UniPost at HLb
    go_wp2_with fail
    refine HLb.out.mono ?_
    rintro e w6 ⟨Am, cm, rfl, hm6, hB6⟩
    have HX6 := Lib.hid (HX5.out.below hB6 HX5.out.lt)
    have HRow6 := Lib.hid (row_below HRow5.out hB6)
    have HL6 := Lib.hid (HL5.out.below hB6)
    have HM6 := Lib.hid hm6
    have hBw6 := nxt hBw5 hB6 hBw5.size
    clear hm6
    generalize hE2 : errC X2 = E2 at *
    generalize hP2 : errP X2 = P2 at *
    have hb7 := alloc1 w6 (.cells #[.int .i64 E2, .int .i64 P2] 29)
    have HY7 := Lib.hid (Holds.new w6 29 #[.int .i64 E2, .int .i64 P2])
    have HX7 := Lib.hid (HX6.out.below hb7 HX6.out.lt)
    have HRow7 := Lib.hid (row_below HRow6.out hb7)
    have HL7 := Lib.hid (HL6.out.below hb7)
    have HM7 := Lib.hid (HM6.out.below hb7)
    have hBw7 := nxt hBw6 hb7 hBw6.size
    go_upto_region 7 with fail
    generalize w6.alloc (.cells #[.int .i64 E2, .int .i64 P2] 29) = W7 at *
    have HCp := Lib.hid (tw_copy_any (some ⟨g1, 0, none⟩) cap1 a1 W7 (bytes_own HRow7.out) (by rw [HL1.out]; omega) (fun e => by cases e))
    unfold tw_CopyPost at HCp
    rw [HL1.out] at HCp
    go_wp2_with fail
    refine HCp.out.mono ?_
    rintro e w8 ⟨g2, cap2, rfl, hown2, hB8⟩
    have HRow2 := Lib.hid hown2
    have hs8 := hB8.size
    have hBw8 := nxt hBw7 hB8 hBw7.size
    have HSrc := Lib.hid (bytes_src2 (HAb.out.b.below hBw8))
    have HX8 := Lib.hid (HX7.out.below hB8 HX7.out.lt)
    have HY8 := Lib.hid (HY7.out.below hB8 HY7.out.lt)
    have HL8 := Lib.hid (HL7.out.below hB8)
    have HM8 := Lib.hid (HM7.out.below hB8)
    have hlx := HX7.out.lt
    have hly := HY7.out.lt
    clear hown2
    go_wp2_with (at_builtin; refine wpList_append_src _ rfl _ _ 78 rfl W7.heap.size 5 i0 (.int .u8 0) 1 1 Tryz.underlying78 hi hz0 hz1 hz2 rfl (by decide) _ _ _ rfl HRow2.out Ab bb.length cb (bytesOf bb) rfl (by simp [bytesOf]) HSrc.out (fun e => ⟨by have := HAb.out; rw [e] at this; rw [bytes_none this]; rfl, HNb.out e⟩) (by intro u hu; simp [bytesOf] at hu; obtain ⟨x, _, rfl⟩ := hu; rfl) (by unfold maxLen; omega) (by omega) hs8 ?_; intro v9 w9 hown9 hg9 hn9; obtain ⟨g9, cap9, rfl⟩ := form4 hown9 hn9; have hcap9 := row_cap hown9)
    have hB9 : Below W7.heap.size W7 w9 := hB8.grown hg9 hs8 (fun k e => (HRow2.out.lt k e).1)
    obtain ⟨ab, hab⟩ : ∃ ab, a1 ++ bb = ab := ⟨_, rfl⟩
    have hlab : ab.length = n1 + bb.length := by rw [← hab, List.length_append, HL1.out]
    have HRow9 : Hid (w9.ownsRow W7.heap.size 5 1 (.slice (some ⟨g9, 0, none⟩) (n1 + bb.length) cap9) (n1 + bb.length) (bytesOf ab)) := Lib.hid (by rw [← hab]; simpa [bytesOf] using hown9)
    have HOab : Hid (Octets ab) := Lib.hid (fun x hx => by
      rw [← hab] at hx
      rcases List.mem_append.1 hx with h | h
      · exact HOa.out x h
      · exact HOb.out x h)
    have HLab := Lib.hid hlab
    have HX9 := Lib.hid (HX7.out.below hB9 hlx)
    have HY9 := Lib.hid (HY7.out.below hB9 hly)
    have HL9 := Lib.hid (HL7.out.below hB9)
    have HM9 := Lib.hid (HM7.out.below hB9)
    have hBw9 := nxt hBw7 hB9 hBw7.size
    have HLh := Lib.hid (parse_uni (some ⟨g9, 0, none⟩) cap9 ab w9 (bytes_own HRow9.out) HOab.out (by rw [hlab]; exact hcap9) (by rw [hlab]; omega) (HW.out.on hBw9) (HK.out.on hBw9))
    rw [hlab] at HLh
    rw [hab] at H3
    obtain ⟨X3, hX3⟩ : ∃ X3, parseX ab = X3 := ⟨_, rfl⟩
    rw [hX3] at HLh H3
    unfold UniPost at HLh
    clear hown9 hg9 hn9 hab hlab hX1 hX2 hX3 HX8 HY8 HL8 HM8 hB8
    refine HLh.out.mono ?_
    rintro e w10 ⟨Ah, ch, rfl, hh10, hB10⟩
    have HX10 := Lib.hid (HX9.out.below hB10 HX9.out.lt)
    have HY10 := Lib.hid (HY9.out.below hB10 HY9.out.lt)
    have HL10 := Lib.hid (HL9.out.below hB10)
    have HM10 := Lib.hid (HM9.out.below hB10)
    have HH10 := Lib.hid hh10
    have hBw10 := nxt hBw9 hB10 hBw9.size
    have hs9 := hB9.size
    clear hh10
    generalize hE3 : errC X3 = E3 at *
    generalize hP3 : errP X3 = P3 at *
    have hb11 := alloc1 w10 (.cells #[.int .i64 E3, .int .i64 P3] 29)
    have HZ11 := Lib.hid (Holds.new w10 29 #[.int .i64 E3, .int .i64 P3])
    have HX11 := Lib.hid (HX10.out.below hb11 HX10.out.lt)
    have HY11 := Lib.hid (HY10.out.below hb11 HY10.out.lt)
    have HL11 := Lib.hid (HL10.out.below hb11)
    have HM11 := Lib.hid (HM10.out.below hb11)
    have HH11 := Lib.hid (HH10.out.below hb11)
    have hBw11 := nxt hBw10 hb11 hBw10.size
    go_upto_region 8 with fail
    have hs10 := hB10.size
    generalize w10.alloc (.cells #[.int .i64 E3, .int .i64 P3] 29) = W11 at *
    have x0 : W11.cell? ⟨w4.heap.size, 0, none⟩ = some (.int .i64 E1) := HX11.out.c (j := 0) rfl
    have y0 : W11.cell? ⟨w6.heap.size, 0, none⟩ = some (.int .i64 E2) := HY11.out.c (j := 0) rfl
    have z0 : W11.cell? ⟨w10.heap.size, 0, none⟩ = some (.int .i64 E3) := HZ11.out.c (j := 0) rfl
    have z1 : W11.cell? ⟨w10.heap.size, 1, none⟩ = some (.int .i64 P3) := HZ11.out.c (j := 1) rfl
    rcases H3.out with ⟨q1, q2, q3, q4, q5⟩ | ⟨hor, q3, q5, q6⟩
    · subst q1 q2 q3 q4
      have HQ := Lib.hid q5
      obtain ⟨zs1, hz1a, hz1b, hz1c⟩ := HL11.out
      obtain ⟨zs2, hm1, hm2, hm3⟩ := HM11.out
      obtain ⟨zs3, hh1, hh2, hh3⟩ := HH11.out
      obtain ⟨i1, hi1, hy0, hy1, hy2⟩ := info_parts info_ev
      have hl1 : zs1.length = (okL X1).length := by rw [← hz1a, List.length_map]
      have hl2 : zs2.length = (okL X2).length := by rw [← hm1, List.length_map]
      have hl3 : zs3.length = (okL X3).length := by rw [← hh1, List.length_map]
      have hl12 : zs3.length = zs1.length + zs2.length := by rw [hl3, q5, List.length_append, hl1, hl2]
      have hf1 : zs1.length ≤ 802 := by have := HFa.out.1; omega
      have hf2 : zs2.length ≤ 801 := by have := HFb.out.1; omega
      have hlg : ∀ r, (Value.slice Al (okL X1).length cl).ownBlock = some r → r < w9.heap.size := fun r e => by
        obtain ⟨ys, _, hr, _⟩ := HL9.out
        exact (hr.lt r e).2
      rw [hl1] at hz1b
      rw [hl2] at hm2
      rw [hl3] at hh2
      obtain ⟨hsrc, hnil⟩ := row_src hm2
      have HZ1 := Lib.hid hz1b
      have HM2 := Lib.hid hm2
      have HH2 := Lib.hid hh2
      have HZC := Lib.hid hz1c
      have HM3 := Lib.hid hm3
      have HH3 := Lib.hid hh3
      have HZA := Lib.hid hz1a
      have HM1 := Lib.hid hm1
      have HH1 := Lib.hid hh1
      have HSRC := Lib.hid hsrc
      have HNIL := Lib.hid hnil
      have HLG := Lib.hid hlg
      have hw3 : w3.heap.size ≤ W11.heap.size := by have h4 := hB4.size; have h6 := hBw11.size; have h5 := hb5.size; have h7 := hB6.size; have h8 := hb7.size; have h9 := hb11.size; omega
      have HE2 := Lib.hid ((evsC_len zs2).trans (by rw [hl2]))
      have HLL := Lib.hid (And.intro hl1 (And.intro hl2 hl3))
      rw [hl1] at hf1
      rw [hl2] at hf2
      clear hz1b hm2 hh2 hz1c hm3 hh3 hz1a hm1 hh1 hsrc hnil hlg q5 hl1 hl2 hl3 hl12
      go_wp2_with (at_builtin; refine wpList_append_want _ (by rfl) _ _ 22 rfl w3.heap.size 55 i1 (.agg evZ) 11 120 Tryz.underlying22 hi1 hy0 hy1 hy2 rfl (by decide) _ _ _ rfl HZ1.out Am (okL X2).length cm (evsC zs2) rfl HE2.out HSRC.out HNIL.out (evsC_one zs2) (by unfold maxLen; omega) (by omega) hw3 ?_; intro v12 w12 hown12 hg12; obtain ⟨A12, c12, rfl⟩ := row_one hown12)
      have hBw12 : Below w.heap.size w w12 := hBw11.grown hg12 hBw11.size (fun r e => by have := (HZ1.out.lt r e).1; have h3 := hB3.size; omega)
      have hgr : ∀ r, (Value.slice Al (okL X1).length cl).ownBlock = some r → ∃ cs tt mm, W11.heap[r]? = some (.cells cs tt mm) ∧ tt ≠ 3 := fun r e => by
        obtain ⟨cur, hcur⟩ := row_cells HZ1.out e
        exact ⟨cur, _, _, hcur, by decide⟩
      have hE12 : EvRows w12 0 (zs1 ++ zs2) := fun z hz => by
        rcases List.mem_append.1 hz with h | h
        · exact row_mono ((HZC.out.kept hg12 hgr) z h) (Nat.zero_le _)
        · exact row_mono ((HM3.out.kept hg12 hgr) z h) (Nat.zero_le _)
      have hE3 := HH3.out.kept hg12 hgr
      have hrow3 := HH2.out.kept hg12 (by
        cases hv : (Value.slice Ah (okL X3).length ch).ownBlock with
        | none => exact .inl rfl
        | some r => exact .inr (fun e => by have h1 := (HH2.out.lt r hv).1; have h2 := HLG.out r e.symm; omega))
      have e12 : (zs1 ++ zs2).length = (okL X1).length + (okL X2).length := by rw [List.length_append, HLL.out.1, HLL.out.2.1]
      have hown12' : w12.ownsRow w3.heap.size 55 11 (.slice A12 (zs1 ++ zs2).length c12) (zs1 ++ zs2).length (evsC (zs1 ++ zs2)) := by
        rw [e12]
        have : evsC (zs1 ++ zs2) = evsC zs1 ++ evsC zs2 := by unfold evsC; rw [List.flatMap_append]
        rw [this]; exact hown12
      rw [← HLL.out.2.2] at hrow3
      have hfew3 : ∀ z ∈ zs3, z.1.st.2.2.length ≤ 20000 := fun z hz => by
        have hm : z.1 ∈ okL X1 ++ okL X2 := by rw [← HQ.out, ← HH1.out]; exact List.mem_map_of_mem hz
        rcases List.mem_append.1 hm with h | h
        · have := HFa.out.2 _ h; omega
        · have := HFb.out.2 _ h; omega
      have HSE := Lib.hid (sameevs_any Ah A12 ch c12 zs3 (zs1 ++ zs2) w12 (read_evs hrow3) hE3.read (read_evs hown12') hE12.read hfew3 (by rw [HLL.out.2.2, HQ.out, List.length_append]; omega) (by rw [e12]; omega))
      rw [HH1.out, HQ.out, List.map_append, HZA.out, HM1.out, evsEq_refl, HLL.out.2.2, e12] at HSE
      clear hown12 hg12 hgr hE12 hE3 hrow3 hown12' hfew3 e12
      refine HSE.out.mono ?_
      rintro e w13 ⟨rfl, hB13⟩
      go_wp2
      go_ret
      exact ⟨rfl, nxt hBw12 hB13 hBw12.size⟩
    · rw [q5]
      have hE3 : (E3 == 0) = false := beq_eq_false_iff_ne.2 q3
      have hE3n : (E3 != 0) = true := by rw [bne_iff_ne]; exact q3
      by_cases k1 : E1 = 0
      · subst k1
        have hE2 : (E2 == 0) = false := beq_eq_false_iff_ne.2 (by omega)
        clear hor q3 q6
        go_wp2
        go_ret
        exact ⟨rfl, hBw11⟩
      · have hE1 : (E1 == 0) = false := beq_eq_false_iff_ne.2 k1
        by_cases k2 : E2 = 0
        · subst k2
          clear hor q3 q6 k1
          go_wp2
          go_ret
          exact ⟨rfl, hBw11⟩
        · have hE2 : (E2 == 0) = false := beq_eq_false_iff_ne.2 k2
          by_cases k3 : E3 = E1
          · subst k3
            have hee : (E3 == E3) = true := by simp
            clear hor q3 q6 k1 k2
            go_wp2
            go_ret
            exact ⟨rfl, hBw11⟩
          · have k4 : E3 = E2 := by rcases q6 with h | h | h | h <;> first | exact h | exact absurd h k1 | exact absurd h k2 | exact absurd h k3
            subst k4
            have hee : (E3 == E3) = true := by simp
            have hne : (E3 == E1) = false := beq_eq_false_iff_ne.2 k3
            clear hor q3 q6 k1 k2 k3
            go_wp2
            go_ret
            exact ⟨rfl, hBw11⟩
end Go.Proofs.YtpdbkjnaicjfdaaGreatDoor
