/- GrammarBack. -/
import Derived.Test.YtakbphjdfgidmaaGreatDoorGvB
import Derived.Test.YtakbphjdfgidmaaGreatDoorGuC
import Derived.Test.YtakbphjdfgidmaaGreatDoorGrP
namespace Go.Proofs.YtakbphjdfgidmaaGreatDoor
open Go.RowKit Go.Maps
set_option linter.unusedVariables false
set_option maxRecDepth 100000

theorem ev_size2 {e : Ev} (hok : EvOk e) (h : evE e = 0) (hl : e.st.2.2.length ≤ 30) : (evS e).size ≤ 1000 := by
  obtain ⟨hk, hb, hn, h1, h3⟩ := evE_cases h
  have hnm := (name_size (nm_name hn)).2
  have hkw := kwB_size8 e.kd.toNat
  have hbl : blB.size = 1 := by decide
  have hh : (evH e).size ≤ 41 := by unfold evH; rw [app_size, app_size]; omega
  unfold evS
  by_cases k1 : e.kd = 1
  · rw [if_pos k1]
    obtain ⟨hs1, hs2⟩ := firstE_zero (h1 k1)
    have hs : (stS e.st).size ≤ 700 := by
      have e1 : (stS e.st).size = (txtL e.st.1 e.st.2.1 e.st.2.2).length := by simp [stS, ByteArray.size]
      rw [e1]
      obtain ⟨g1, g5, _⟩ := check_ok hs1
      unfold txtL
      rw [List.length_append]
      have hw := word_len e.st.1.toNat
      have hw2 : (wordL e.st.1.toNat).length = (st_wordB e.st.1.toNat).size := rfl
      have := txtOf_len (numsOf e.st.1 e.st.2.1 e.st.2.2) (nums_small hok.n hok.small)
      have hl : (numsOf e.st.1 e.st.2.1 e.st.2.2).length ≤ 30 := by
        unfold numsOf; split
        · simp
        · omega
      omega
    rw [app_size, app_size]; omega
  · rw [if_neg k1]
    by_cases k3 : e.kd = 3
    · rw [if_pos k3]
      have ho := (name_size (nm_name (doneE_zero (h3 k3)).1)).2
      have hs : (opS e.op).size ≤ 200 := op_size _ _ _ _ _
      rw [app_size, app_size, app_size, app_size]; omega
    · rw [if_neg k3]; omega
theorem print_cuts : ∀ {es : List Ev}, (∀ e ∈ es, (evS e).size ≤ 1000) → (prL es).length ≤ es.length * 1001 ∧ ∀ y ∈ cuts 10 0 (prL es), y.2.length ≤ 7000
  | [], _ => ⟨by simp [prL], fun y hy => by
    have e : cuts 10 0 (prL []) = [(0, [])] := rfl
    rw [e] at hy
    obtain rfl : y = (0, []) := by simpa using hy
    simp⟩
  | e :: r, h => by
    obtain ⟨i1, i2⟩ := print_cuts (es := r) fun x hx => h x (List.mem_cons_of_mem _ hx)
    have hs := h e List.mem_cons_self
    refine ⟨?_, fun y hy => ?_⟩
    · simp only [prL_cons, List.length_append, nums_len, List.length_cons, List.length_nil]
      omega
    · rw [prL_cons, (two_cuts _ _).1, List.mem_append] at hy
      rcases hy with hy | hy
      · have := cuts_le hy
        rw [nums_len] at this
        omega
      · obtain ⟨z, hz, rfl⟩ := List.mem_map.1 hy
        exact i2 z hz
theorem prL_octets : ∀ (es : List Ev), Octets (prL es)
  | [] => fun x hx => by cases hx
  | e :: r => fun x hx => by
    rw [prL_cons] at hx
    rcases List.mem_append.1 hx with h | h
    · rcases List.mem_append.1 h with h | h
      · exact nums_octets _ x h
      · obtain rfl : x = 10 := by simpa using h
        decide
    · exact prL_octets r x h
theorem parse_strF (s : ByteArray) (w : World) (hs : s.size ≤ 1000000) (hf : ∀ x ∈ textL (nums s), Fine x.2 ∧ Lined (nums s) x.2) (hw : Wds w) (hk : KWds w) :
    Calls Tryz.prog 21 #[.slice (some ⟨w.heap.size, 0, none⟩) s.size (grownCap w s.size 0 5)] (Lib.bytesWorld w 5 s) (ParsePost (parseX (nums s)) (Lib.bytesWorld w 5 s)) := by
  have h := parse_any (some ⟨w.heap.size, 0, none⟩) (grownCap w s.size 0 5) (nums s) (Lib.bytesWorld w 5 s) (bytes_of_str w s) (nums_octets s) (by rw [nums_len]; exact grownCap_ge _ _ _ _) (by rw [nums_len]; exact hs) hf (hw.on (below_str w s)) (hk.on (below_str w s))
  rwa [nums_len] at h
theorem prE_some {es : List Ev} {k : Nat} (hk : k < es.length) (h : evE (es[k]?.getD evD) ≠ 0) : prE es ≠ 0 := fun e => by
  rw [List.getElem?_eq_getElem hk] at h
  exact h (prE_zero.1 e _ (List.getElem_mem hk))

set_option maxHeartbeats 4000000 in
theorem back_law (A : Option Addr) (c : Nat) (zs : List EvZ) (w : World) (hG : Gds w) (hA : ReadEvs w.heap.size w A zs) (hN : ReadNums w zs) (hE : ∀ z ∈ zs, EvW z.1) (hm : zs.length ≤ maxLen) :
    Calls Tryz.prog 7 #[.slice A zs.length c] w (Yes w) := by
  obtain ⟨hw, hk⟩ := hG
  have HA := Lib.hid hA
  have HN := Lib.hid hN
  have HW := Lib.hid hw
  have HK := Lib.hid hk
  have HL := Lib.hid (fun W (hB : Below w.heap.size w W) => long_any A c zs W ((HA.out.below hB).mono hB.size) hm)
  have HKN := Lib.hid (gknown_any w hw hk)
  have hEW : ∀ e ∈ zs.map Prod.fst, EvW e := fun e he => by
    obtain ⟨z, hz, rfl⟩ := List.mem_map.1 he
    exact hE z hz
  obtain ⟨es, hes⟩ : ∃ es, zs.map Prod.fst = es := ⟨_, rfl⟩
  rw [hes] at HL hEW
  have HES := Lib.hid hes
  have hel : es.length = zs.length := by rw [← hes, List.length_map]
  have HEL := Lib.hid hel
  clear hA hN hw hk hE hes hel
  cases hlong : longB es with
  | true =>
    rw [hlong] at HL
    clear hlong hm
    go_enter Tryz.func7, Tryz.ntmps7
    go_wp2_with fail
    refine HKN.out.mono ?_
    rintro e w1 ⟨rfl, hB1⟩
    go_wp2_with fail
    refine (HL.out _ hB1).mono ?_
    rintro e w2 ⟨rfl, hB2⟩
    go_wp2
    go_ret
    exact ⟨rfl, nxt hB1 hB2 hB1.size⟩
  | false =>
    rw [hlong] at HL
    obtain ⟨h60, hok⟩ := evw_ok hlong hEW
    have HOK := Lib.hid hok
    clear hlong hEW hok hm
    have hzok : ∀ z ∈ zs, EvOk z.1 ∧ z.1.st.2.2.length ≤ 30 := fun z hz => HOK.out _ (fst_mem HES.out hz)
    have HZOK := Lib.hid hzok
    clear hzok
    obtain ⟨m, hmm⟩ : ∃ m, zs.length = m := ⟨_, rfl⟩
    have HPR := Lib.hid (fun W (hB : Below w.heap.size w W) => print_any A c zs W ((HA.out.below hB).mono hB.size) (HN.out.below hB) (fun z hz => (HZOK.out z hz).1) (by have := HEL.out; omega) (HW.out.on hB) (HK.out.on hB))
    unfold PrintPost at HPR
    rw [HES.out] at HPR
    have HEL2 := Lib.hid (HEL.out.trans hmm)
    rw [hmm] at HL HPR HEL ⊢
    have HMM := Lib.hid hmm
    have hm60 : m ≤ 60 := by have := HEL2.out; omega
    clear hmm
    go_enter Tryz.func7, Tryz.ntmps7
    go_wp2_with fail
    refine HKN.out.mono ?_
    rintro e w1 ⟨rfl, hB1⟩
    go_wp2_with fail
    refine (HL.out _ hB1).mono ?_
    rintro e w2 ⟨rfl, hB2⟩
    have hB2' := nxt hB1 hB2 hB1.size
    go_wp2_with fail
    refine (HPR.out _ hB2').mono ?_
    rintro e w3 ⟨rfl, hB3⟩
    have hB3' := nxt hB2' hB3 hB2'.size
    have HA3 := Lib.hid ((HA.out.below hB3').mono hB3'.size)
    have HN3 := Lib.hid (HN.out.below hB3')
    have HB3 := Lib.hid hB3'
    clear hB1 hB2 hB2' hB3 hB3' HL HPR HKN
    obtain ⟨S, hS⟩ : ∃ S, prS es = S := ⟨_, rfl⟩
    obtain ⟨E, hEE⟩ : ∃ E, prE es = E := ⟨_, rfl⟩
    rw [hS, hEE]
    have HSS := Lib.hid hS
    have HEE := Lib.hid hEE
    clear hS hEE
    go_wp2
    go_loopw [6] (fun i wr => ∃ k : Nat, k ≤ m ∧ i = .int .i64 k ∧ Below w3.heap.size w3 wr ∧ ∀ j, j < k → evE (es[j]?.getD evD) = 0) (fun i wr => m - (intOf i).toNat)
    case atStart => exact ⟨0, Nat.zero_le _, rfl, Below.refl _ _, fun j h => absurd h (Nat.not_lt_zero _)⟩
    case round =>
      obtain ⟨k, hk, rfl, hB0, hall⟩ := hrel
      have HALL := Lib.hid hall
      clear hall
      have hB9 := nxt HB3.out hB0 HB3.out.size
      by_cases hlt : k < m
      · have hkd : decide (k < m) = true := decide_eq_true hlt
        obtain ⟨b, off, rfl, hb, hcs⟩ := ev_read (HA3.out.below hB0) (by rw [HMM.out]; exact hlt)
        have hz := wd_memE (zs := zs) (by rw [HMM.out]; exact hlt)
        have ez := fst_at (zs := zs) (by rw [HMM.out]; exact hlt)
        rw [HES.out] at ez
        generalize zs[k]?.getD (⟨0, emB, emB, op0, stz⟩, none, 0) = z at *
        obtain ⟨ev, Ae, ce⟩ := z
        dsimp only at hcs ez
        obtain ⟨x0, x1, x2, x3, x4, x5, x6, x7, x8, x9, x10⟩ := hcs
        have hok := HZOK.out _ hz
        dsimp only at hok
        have HC1 := Lib.hid (check_ev ev Ae ce wr ((HN3.out _ hz).below hB0) (by omega) hok.1.nm hok.1.ob)
        have HEV := Lib.hid (show evE (es[k]?.getD evD) = evE ev by rw [show es[k]?.getD evD = ev from ez])
        unfold evV evC at HC1
        generalize evE ev = F at *
        have hk0 : (0 : Int) ≤ (k : Int) := by omega
        have hk1 : (k : Int) < (m : Int) := by omega
        have hkw : IntKind.i64.wrap (k : Int) = (k : Int) := by rw [IntKind.wrap_i64]; omega
        clear hz ez hok
        go_wp2_with fail
        refine HC1.out.mono ?_
        rintro e u1 ⟨rfl, hU1⟩
        have hB10 := nxt hB9 hU1 hB9.size
        have hB11 := nxt hB0 hU1 hB0.size
        by_cases hF : F = 0
        · subst hF
          go_wp2
          go_roundw
          case rel =>
            refine ⟨k + 1, by omega, by go_num, hB11, fun j hj => ?_⟩
            by_cases he : j = k
            · subst he; exact HEV.out
            · exact HALL.out j (by omega)
          case measure => simp [intOf]; omega
        · have hbn : (F != 0) = true := by rw [bne_iff_ne]; exact hF
          have hpe : prE es ≠ 0 := prE_some (k := k) (by rw [HEL2.out]; exact hlt) (by rw [HEV.out]; exact hF)
          have hE0 : E ≠ 0 := by rw [← HEE.out]; exact hpe
          have hbe : (E != 0) = true := by rw [bne_iff_ne]; exact hE0
          have hS0 : S = ⟨#[]⟩ := by rw [← HSS.out]; unfold prS; rw [if_neg hpe]; rfl
          subst hS0
          clear hpe
          go_wp2
          go_ret
          exact ⟨rfl, hB10⟩
      · have hkk : k = m := by omega
        subst hkk
        have hkd : decide (k < k) = false := decide_eq_false hlt
        have hz0 : ∀ e ∈ es, evE e = 0 := fun e he => by
          obtain ⟨j, hj, rfl⟩ := List.getElem_of_mem he
          have := HALL.out j (by rw [← HEL2.out]; exact hj)
          rwa [List.getElem?_eq_getElem hj] at this
        have hpe := prE_zero.2 hz0
        have hE0 : E = 0 := by rw [← HEE.out]; exact hpe
        subst hE0
        have hSS : S = strOfNums (prL es) := by rw [← HSS.out]; unfold prS; rw [if_pos hpe]
        have hsz : ∀ e ∈ es, (evS e).size ≤ 1000 := fun e he => ev_size2 (HOK.out e he).1 (hz0 e he) (HOK.out e he).2
        obtain ⟨hcl, hcc⟩ := print_cuts hsz
        have hnS : nums S = prL es := by rw [hSS, nums_strOf _ (prL_octets es)]
        have hSl : S.size ≤ 100000 := by rw [← nums_len, hnS]; have := HEL2.out; omega
        have hfine : ∀ x ∈ textL (nums S), Fine x.2 ∧ Lined (nums S) x.2 := by
          rw [hnS]; exact text_fine (by have := HEL2.out; omega) hcc
        have hpp := parse_print (es := es) (by have := HEL2.out; omega) (fun e he => (HOK.out e he).1) hpe
        have HPA := Lib.hid (parse_strF S wr (by omega) hfine (HW.out.on hB9) (HK.out.on hB9))
        rw [hnS, hpp] at HPA
        unfold ParsePost at HPA
        dsimp only at HPA
        rw [HEL2.out] at HPA
        have hcv := fun (W : World) (s : ByteArray) => Lib.run_convert_string_bytes (P := Tryz.prog) W 9 41 5 s Tryz.underlying9 Tryz.underlying41 Tryz.underlying5
        have hBs := below_str wr S
        clear hz0 hpe hSS hsz hcl hcc hnS hfine hpp
        go_wp2_with fail
        refine HPA.out.mono ?_
        rintro e u2 ⟨A2, c2, rfl, hown, hU2⟩
        have hU3 := nxt hBs hU2 hBs.size
        have hU4 := alloc1 u2 (.cells #[.int .i64 0, .int .i64 0] 44)
        have HX4 := Lib.hid (Holds.new u2 44 #[.int .i64 0, .int .i64 0])
        have hU5 := nxt hU3 hU4 hU3.size
        have hB5 := nxt hB9 hU5 hB9.size
        have hB35 := nxt hB0 hU5 hB0.size
        have HOWN := Lib.hid (hown.below hU4)
        clear hown hU2 hU3 hU4
        go_upto_region 12 with fail
        generalize u2.alloc (.cells #[.int .i64 0, .int .i64 0] 44) = u3 at *
        obtain ⟨ys, hy1, hy2, hy3, hy4⟩ := HOWN.out.readX HEL2.out
        have HS := Lib.hid (sameevs_any A2 A c2 c ys zs u3 hy3 hy4 ((HA3.out.below hB35).mono hB35.size) (HN3.out.below hB35) (fun z hz => by have := (HOK.out _ (fst_mem hy1 hz)).2; omega) (by omega) (by rw [HMM.out]; omega))
        rw [hy1, HES.out, hy2, HMM.out, evsEq_refl] at HS
        have x0 := HX4.out.c (j := 0) rfl
        have x1 := HX4.out.c (j := 1) rfl
        clear hy1 hy2 hy3 hy4
        go_wp2_with fail
        refine HS.out.mono ?_
        rintro e u4 ⟨rfl, hU6⟩
        go_wp2
        go_ret
        exact ⟨rfl, nxt hB5 hU6 hB5.size⟩
end Go.Proofs.YtakbphjdfgidmaaGreatDoor
