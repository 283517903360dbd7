/- take. -/
import Derived.Test.YtmpglmepmdpjoaaOpH
namespace Go.Proofs.Ytmpglmepmdpjoaa
open Go.RowKit Go.Maps
set_option linter.unusedVariables false

def stepE : Nat → ByteArray → Int
  | 0, s => errOf (wordI s)
  | 1, s => fillE s 5
  | 2, s => fillE s 5
  | 3, s => arrE s
  | _, s => resE s
def stepS : Nat → ByteArray → St → St
  | 0, s, st => kindSt s st
  | 1, s, st => stA s st
  | 2, s, st => stB s st
  | 3, _, st => st
  | _, s, st => stR s st

theorem step_any (c : Nat) (s : ByteArray) (lo B : Nat) (v : Value) (st : St) (W : World) (h : Rd W lo B v st) (hlo : lo ≤ W.heap.size) (hl : st.steps.length ≤ 1000) (hs : s.size ≤ maxLen) :
    Calls Try.prog (fS c) #[.pointer (some ⟨B, 0, none⟩), .string s] W (StepPost lo B (stepS c s st) (stepE c s) W) := by
  match c with
  | 0 => exact kind_step s lo B v st W h hlo hl
  | 1 => exact argA_any s lo B v st W h hlo hs
  | 2 => exact argB_any s lo B v st W h hlo hs
  | 3 => exact arrow_any s lo B v st W h hlo
  | c + 4 => exact result_any s lo B v st W h hlo hs
theorem enter_S (c : Nat) : ∀ args w, (callFunc (fS c) args).run Try.prog w = .ok (.enter (fS c) args) w := by
  match c with
  | 0 => exact Go.Proofs.enters_of Try.func40 (by kernel_rfl) rfl
  | 1 => exact Go.Proofs.enters_of Try.func52 (by kernel_rfl) rfl
  | 2 => exact Go.Proofs.enters_of Try.func53 (by kernel_rfl) rfl
  | 3 => exact Go.Proofs.enters_of Try.func54 (by kernel_rfl) rfl
  | c + 4 => exact Go.Proofs.enters_of Try.func55 (by kernel_rfl) rfl
theorem step_len (c : Nat) (s : ByteArray) (st : St) : st.steps.length ≤ (stepS c s st).steps.length ∧ (stepS c s st).steps.length ≤ st.steps.length + 4 := by
  match c with
  | 0 =>
    show st.steps.length ≤ (kindSt s st).steps.length ∧ (kindSt s st).steps.length ≤ st.steps.length + 4
    unfold kindSt
    split
    · exact ⟨Nat.le_refl _, by omega⟩
    · simp
      omega
  | 1 =>
    show st.steps.length ≤ (stA s st).steps.length ∧ (stA s st).steps.length ≤ st.steps.length + 4
    unfold stA; split <;> exact ⟨Nat.le_refl _, Nat.le_add_right _ _⟩
  | 2 =>
    show st.steps.length ≤ (stB s st).steps.length ∧ (stB s st).steps.length ≤ st.steps.length + 4
    unfold stB; split <;> exact ⟨Nat.le_refl _, Nat.le_add_right _ _⟩
  | 3 => exact ⟨Nat.le_refl _, Nat.le_add_right _ _⟩
  | c + 4 =>
    show st.steps.length ≤ (stR s st).steps.length ∧ (stR s st).steps.length ≤ st.steps.length + 4
    unfold stR stN
    split
    · exact ⟨Nat.le_refl _, Nat.le_add_right _ _⟩
    · split
      · exact ⟨Nat.le_refl _, Nat.le_add_right _ _⟩
      · split <;> exact ⟨Nat.le_refl _, Nat.le_add_right _ _⟩

/-- Words and steps side by side, from number i on. -/
def takeP : Nat → List ByteArray → St → Nat × Int × St
  | i, [], st => if i = st.steps.length then (i, 0, st) else (i, 5, st)
  | i, s :: r, st => if i = st.steps.length then (i, 5, st) else
      if stepE (st.steps[i]?.getD 0) s = 0 then takeP (i + 1) r (stepS (st.steps[i]?.getD 0) s st) else (i, stepE (st.steps[i]?.getD 0) s, stepS (st.steps[i]?.getD 0) s st)

def TakePost (lo B : Nat) (x : Nat × Int × St) (W : World) (e : Ending) (W' : World) : Prop := e = .returned (.tuple #[.int .i64 x.1, .int .i64 x.2.1]) ∧ ∃ v', Rd W' lo B v' x.2.2 ∧ Below lo W W'

set_option maxRecDepth 100000 in
set_option maxHeartbeats 2000000 in
theorem take_any (A : Option Addr) (c : Nat) (ws : List ByteArray) (lo B : Nat) (v : Value) (st : St) (W : World) (h : Rd W lo B v st) (hlo : lo ≤ W.heap.size) (hA : Strs lo W A ws) (h1 : st.steps.length ≤ 1) (hm : ws.length ≤ 100) (hz : ∀ s ∈ ws, s.size ≤ maxLen) :
    Calls Try.prog 41 #[.pointer (some ⟨B, 0, none⟩), .slice A ws.length c] W (TakePost lo B (takeP 0 ws st) W) := by
  have HA := Lib.hid hA
  have HZ := Lib.hid hz
  have HR0 := Lib.hid h
  clear h hA hz
  go_enter Try.func41, Try.ntmps41
  go_wp2
  refine wp_scope_straight ?_
  go_wp2
  refine wp_label ?_
  go_wp2
  go_loopw [6, 7] (fun s6 s7 wr => ∃ (k : Nat) (vr : Value) (sr : St), k ≤ ws.length ∧ k ≤ sr.steps.length ∧ s6 = .int .i64 k ∧ s7 = .int .i64 0 ∧ Rd wr lo B vr sr ∧ Below lo W wr ∧ sr.steps.length ≤ 1 + 4 * k ∧ takeP 0 ws st = takeP k (ws.drop k) sr) (fun s6 s7 wr => ws.length + 1 - (intOf s6).toNat)
  case atStart => exact ⟨0, v, st, Nat.zero_le _, Nat.zero_le _, rfl, rfl, HR0.out, Below.refl _ _, by omega, by rw [List.drop_zero]⟩
  case round =>
    obtain ⟨k, vr, sr, hk1, hk2, rfl, rfl, hR, hB, hls, heq⟩ := hrel
    have c12 := hR.c12
    obtain ⟨Av, cv, hv⟩ := row_one hR.row
    subst hv
    have HR := Lib.hid hR
    have HE := Lib.hid heq
    clear hR heq
    have hwr : lo ≤ wr.heap.size := Nat.le_trans hlo hB.size
    obtain ⟨n, hn⟩ : ∃ n, sr.steps.length = n := ⟨_, rfl⟩
    rw [hn] at hk2 hls c12 HR
    by_cases e1 : k = ws.length
    · by_cases e2 : k = n
      · have HT : takeP k (ws.drop k) sr = (k, 0, sr) := by rw [e1, List.drop_length, ← e1, takeP, if_pos (by omega)]
        have hfin : TakePost lo B (takeP 0 ws st) W (.returned (.tuple #[.int .i64 k, .int .i64 0])) wr := ⟨by rw [HE.out, HT], _, by rw [HE.out, HT]; exact HR.out, hB⟩
        have HFIN := Lib.hid hfin
        clear HT hfin HE HR
        subst e2
        subst e1
        go_wp2
        rw [Exit.noGoto_ret]
        go_ret2
        exact HFIN.out
      · have HT : takeP k (ws.drop k) sr = (k, 5, sr) := by rw [e1, List.drop_length, ← e1, takeP, if_neg (by omega)]
        have hfin : TakePost lo B (takeP 0 ws st) W (.returned (.tuple #[.int .i64 k, .int .i64 5])) wr := ⟨by rw [HE.out, HT], _, by rw [HE.out, HT]; exact HR.out, hB⟩
        have HFIN := Lib.hid hfin
        have q2 : ((k : Int) == (n : Int)) = false := beq_eq_false_iff_ne.2 (by omega)
        clear HT hfin HE HR
        subst e1
        go_wp2
        rw [Exit.noGoto_ret]
        go_ret2
        exact HFIN.out
    · have q1 : ((k : Int) == (ws.length : Int)) = false := beq_eq_false_iff_ne.2 (by omega)
      have hlt : k < ws.length := by omega
      have hdrop : ws.drop k = (ws[k]?.getD ⟨#[]⟩) :: ws.drop (k + 1) := by
        rw [List.getElem?_eq_getElem hlt]
        exact List.drop_eq_getElem_cons hlt
      by_cases e2 : k = n
      · have HT : takeP k (ws.drop k) sr = (k, 5, sr) := by rw [hdrop, takeP, if_pos (by omega)]
        have hfin : TakePost lo B (takeP 0 ws st) W (.returned (.tuple #[.int .i64 k, .int .i64 5])) wr := ⟨by rw [HE.out, HT], _, by rw [HE.out, HT]; exact HR.out, hB⟩
        have HFIN := Lib.hid hfin
        clear HT hfin HE HR hdrop
        subst e2
        go_wp2
        rw [Exit.noGoto_ret]
        go_ret2
        exact HFIN.out
      · have q2 : ((k : Int) == (n : Int)) = false := beq_eq_false_iff_ne.2 (by omega)
        have hkn : k < sr.steps.length := by omega
        obtain ⟨b, off, rfl, hb, hc⟩ := HA.out.below hB (by omega)
        have hck := hc k hlt
        have hsz : (ws[k]?.getD ⟨#[]⟩).size ≤ maxLen := by
          rw [List.getElem?_eq_getElem hlt]; exact HZ.out _ (List.getElem_mem hlt)
        obtain ⟨g, rfl⟩ : ∃ g, Av = some ⟨g, 0, none⟩ := by
          rcases HR.out.row.2 with ⟨e, hn0⟩ | ⟨g, cap, cur, e, _⟩
          · omega
          · injection e with e1 _ _; exact ⟨g, e1⟩
        have hst : wr.cell? ⟨g, k, none⟩ = some (stepV B (sr.steps[k]?.getD 0)) := by
          have hrow := HR.out.row
          rw [hn] at hrow
          rw [hrow.cellAt k (by omega), List.getElem?_map, List.getElem?_eq_getElem hkn]
          rfl
        have HT : takeP k (ws.drop k) sr = if stepE (sr.steps[k]?.getD 0) (ws[k]?.getD ⟨#[]⟩) = 0 then takeP (k + 1) (ws.drop (k + 1)) (stepS (sr.steps[k]?.getD 0) (ws[k]?.getD ⟨#[]⟩) sr) else (k, stepE (sr.steps[k]?.getD 0) (ws[k]?.getD ⟨#[]⟩), stepS (sr.steps[k]?.getD 0) (ws[k]?.getD ⟨#[]⟩) sr) := by rw [hdrop, takeP, if_neg (by omega)]
        obtain ⟨s, hs⟩ : ∃ s, ws[k]?.getD ⟨#[]⟩ = s := ⟨_, rfl⟩
        obtain ⟨cc, hcc⟩ : ∃ cc, sr.steps[k]?.getD 0 = cc := ⟨_, rfl⟩
        rw [hs, hcc] at HT
        rw [hs] at hck hsz
        rw [hcc] at hst
        have hsl := step_len cc s sr
        have HSL := Lib.hid hsl
        have HT' := Lib.hid HT
        have HS := Lib.hid (fun (X : World) (hX : Below wr.heap.size wr X) => step_any cc s lo B _ sr X (HR.out.below hX (Nat.le_refl _)) (Nat.le_trans hwr hX.size) (by omega) hsz)
        have eg := enter_S cc
        have hd : ∀ args w, (callFunc (fS cc) args).run Try.prog w = .ok (.enter (fS cc) args) w := eg
        unfold stepV at hst
        clear hc HT hs hcc hdrop eg hsl
        generalize fS cc = fg at *
        have j0 : (0 : Int) ≤ (k : Int) := by omega
        have j1 : (k : Int) < (n : Int) := by omega
        have j2 : (k : Int) < (ws.length : Int) := by omega
        go_wp2_with fail
        refine wp_region_noPanic ?_
        refine wp_region_till 10 (fun w' => w'.cell? ⟨B, 12, none⟩ = some (.slice (some ⟨g, 0, none⟩) n cv) ∧ w'.cell? ⟨g, k, none⟩ = some (.func (.func fg) #[.pointer (some ⟨B, 0, none⟩)] #[]) ∧ w'.cell? ⟨b, off + k, none⟩ = some (.string s)) (by kernel_rfl) (by kernel_rfl) (fun _ _ _ _ _ h => h) ⟨c12, hst, hck⟩ ?_
        iterate 10
          refine readsN.cons ?_ (by rfl) ?_ ?_
          rotate_left
          · intro w' hw'
            try dsimp only at hw'
            go_simp
            try with_reducible rfl
          simp only [Act.put, List.setIfInBounds_toArray, List.set_cons_zero, List.set_cons_succ]
        refine readsN.done (.string s) wr.drew (by rfl) (by go_simp) ⟨c12, hst, hck⟩ ?_
        simp only [Act.put, List.setIfInBounds_toArray, List.set_cons_zero, List.set_cons_succ]
        go_wp2_with fail
        refine (HS.out wr.drew (Below.refl _ wr).drew).mono ?_
        rintro e w1 ⟨rfl, v1, hR1, hB1⟩
        have hB01 : Below lo W w1 := hB.trans (Below.trans (Below.refl _ wr).drew hB1)
        have HR1 := Lib.hid hR1
        clear hR1 hst hck c12
        generalize stepE cc s = er at *
        by_cases he : er = 0
        · have HT2 := Lib.hid (show takeP k (ws.drop k) sr = takeP (k + 1) (ws.drop (k + 1)) (stepS cc s sr) by rw [HT'.out, if_pos he])
          clear HT'
          subst he
          go_wp2
          refine NoPanic.normal ?_
          go_wp2
          go_roundw
          case rel => exact ⟨k + 1, v1, _, by omega, by have := HSL.out; omega, by go_num, rfl, HR1.out, hB01, by have := HSL.out; omega, HE.out.trans HT2.out⟩
          case measure => simp [intOf]; omega
        · have hfin : TakePost lo B (takeP 0 ws st) W (.returned (.tuple #[.int .i64 k, .int .i64 er])) w1 := ⟨by rw [HE.out, HT'.out, if_neg he], v1, by rw [HE.out, HT'.out, if_neg he]; exact HR1.out, hB01⟩
          have HFIN := Lib.hid hfin
          have hb : (er == 0) = false := by simpa using he
          clear hfin HT' HE
          go_wp2
          refine NoPanic.normal ?_
          go_wp2
          rw [Exit.noGoto_ret]
          go_ret2
          exact HFIN.out
end Go.Proofs.Ytmpglmepmdpjoaa
