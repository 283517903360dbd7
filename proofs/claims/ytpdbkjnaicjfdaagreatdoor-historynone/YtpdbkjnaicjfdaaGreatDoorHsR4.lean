/- The law's own; HistoryKnown; Life. -/
import Derived.Test.YtpdbkjnaicjfdaaGreatDoorHsR3
import Derived.Test.YtpdbkjnaicjfdaaGreatDoorGrO
namespace Go.Proofs.YtpdbkjnaicjfdaaGreatDoor
open Go.RowKit Go.Maps
set_option linter.unusedVariables false
set_option maxRecDepth 100000

def evSm (e : Ev) : Bool := decide (e.st.2.2.length ≤ 20000) && (decide (e.nm.size ≤ 8000) && decide (e.ob.size ≤ 8000))
theorem evSm_ok {es : List Ev} (h : es.all evSm = true) {zs : List EvZ} (hz : zs.map Prod.fst = es) : ∀ z ∈ zs, z.1.st.2.2.length ≤ 20000 ∧ z.1.nm.size ≤ 8000 ∧ z.1.ob.size ≤ 8000 := fun z hm => by
  have := List.all_eq_true.1 h z.1 (by rw [← hz]; exact List.mem_map_of_mem hm)
  unfold evSm at this
  simpa using this
def HofPost (es : List Ev) (w : World) (e : Ending) (w' : World) : Prop := ∃ A c, e = .returned (.slice A es.length c) ∧ OwnEvs w' w.heap.size (.slice A es.length c) es ∧ Below w.heap.size w w'

set_option maxHeartbeats 1000000 in
theorem hof_yes (s : ByteArray) (es : List Ev) (w : World) (hs : s.size ≤ 7000) (h : parseX (nums s) = .ok es) (hw : Wds w) (hk : KWds w) :
    Calls Tryz.prog 33 #[.string s] w (HofPost es w) := by
  have hcv := fun (W : World) (s : ByteArray) => Lib.run_convert_string_bytes (P := Tryz.prog) W 9 78 5 s Tryz.underlying9 Tryz.underlying78 Tryz.underlying5
  have HP := parse_str s w hs hw hk
  unfold ParsePost at HP
  rw [h] at HP
  have hB0 := below_str w s
  clear h hw hk hs
  go_enter Tryz.func33, Tryz.ntmps33
  go_wp2_with fail
  refine HP.mono ?_
  rintro e w1 ⟨A, c, rfl, ho, hB1⟩
  have HO := Lib.hid ho
  clear ho
  go_wp2
  go_ret
  have hb := nxt hB0 hB1 hB0.size
  have hsz := hB0.size
  exact ⟨A, c, rfl, (HO.out.mono hsz).below (alloc1 _ _), hb.alloc hb.size _⟩
/-- What was parsed may be handed in. -/
theorem own_in {w : World} {base : Nat} {A : Option Addr} {c : Nat} {es : List Ev} (h : OwnEvs w base (.slice A es.length c) es) (hs : es.all evSm = true) (hm : es.length ≤ 90) : ∃ zs : List EvZ, zs.map Prod.fst = es ∧ zs.length = es.length ∧ EvIn w A zs := by
  obtain ⟨zs, h1, h2, h3⟩ := h
  have hl : zs.length = es.length := by rw [← h1, List.length_map]
  rw [← hl] at h2
  exact ⟨zs, h1, hl, read_evs h2, h3.read, evSm_ok hs h1, by omega⟩

set_option maxHeartbeats 2000000 in
theorem checks_yes (s : ByteArray) (es : List Ev) (n : Nat) (er p : Int) (w : World) (hs : s.size ≤ 7000) (h : parseX (nums s) = .ok es) (hn : es.length = n) (hm : n ≤ 90) (hsm : es.all evSm = true) (he : layE es = er) (hp : layP es = p) (hw : Wds w) (hk : KWds w) :
    Calls Tryz.prog 32 #[.string s, .int .i64 n, .int .i64 er, .int .i64 p] w (Yes w) := by
  have HP := hof_yes s es w hs h hw hk
  have HSM := Lib.hid hsm
  have HN := Lib.hid hn
  have HE := Lib.hid he
  have HPP := Lib.hid hp
  unfold HofPost at HP
  have k0 : ((n : Int) == (n : Int)) = true := by simp
  have k1 : (p == p) = true := by simp
  have k2 : (er == er) = true := by simp
  clear h hw hk hs hsm hn he hp
  go_enter Tryz.func32, Tryz.ntmps32
  go_wp2_with fail
  refine HP.mono ?_
  rintro e w1 ⟨A, c, rfl, ho, hB1⟩
  obtain ⟨zs, h1, hl, hin⟩ := own_in ho HSM.out (by rw [HN.out]; exact hm)
  have HC := Lib.hid (check_any A c zs w1 hin)
  rw [hl, h1] at HC
  unfold fltV at HC
  rw [show (layX dk0 0 es).2.1 = er from HE.out, show (layX dk0 0 es).2.2 = p from HPP.out, HN.out] at HC
  rw [HN.out]
  clear ho h1 hl hin
  go_wp2_with fail
  refine HC.out.mono ?_
  rintro e w2 ⟨rfl, hB2⟩
  go_wp2
  go_ret
  exact ⟨rfl, nxt hB1 hB2 hB1.size⟩

/-! ### Lives, read -/

def lfL (x : Lf) : List Value := (lfC x).toList
def lfD : Lf := ⟨⟨#[]⟩, 0, 0, false, 0⟩
theorem lfs_at : ∀ (xs : List Lf) (k j : Nat), j < 5 → (xs.flatMap lfL)[k * 5 + j]? = (xs[k]?).bind fun x => (lfL x)[j]?
  | [], k, j, h => by simp
  | x :: r, 0, j, h => by
    rw [List.flatMap_cons, Nat.zero_mul, Nat.zero_add, List.getElem?_append_left (by show j < 5; exact h)]; rfl
  | x :: r, k + 1, j, h => by
    rw [List.flatMap_cons, List.getElem?_append_right (by show 5 ≤ (k + 1) * 5 + j; omega), show (k + 1) * 5 + j - (lfL x).length = k * 5 + j by show (k + 1) * 5 + j - 5 = _; omega, lfs_at r k j h]; rfl
/-- Lives to be read. -/
def ReadLfs (B : Nat) (W : World) (A : Option Addr) (xs : List Lf) : Prop :=
  0 < xs.length → ∃ b off, A = some ⟨b, off, none⟩ ∧ b < B ∧ ∀ k x, xs[k]? = some x → W.cell? ⟨b, off + k * 5, none⟩ = some (.string x.nm) ∧ W.cell? ⟨b, off + k * 5 + 1, none⟩ = some (.int .i64 x.bg) ∧ W.cell? ⟨b, off + k * 5 + 2, none⟩ = some (.int .i64 x.en) ∧ W.cell? ⟨b, off + k * 5 + 3, none⟩ = some (.bool x.cm) ∧ W.cell? ⟨b, off + k * 5 + 4, none⟩ = some (.int .i64 x.ops)
theorem ReadLfs.below {B : Nat} {W W' : World} {A : Option Addr} {xs : List Lf} (h : ReadLfs B W A xs) (hb : Below B W W') : ReadLfs B W' A xs := fun hl => by
  obtain ⟨b, off, e, hlt, hc⟩ := h hl
  refine ⟨b, off, e, hlt, fun k x hx => ?_⟩
  obtain ⟨h0, h1, h2, h3, h4⟩ := hc k x hx
  exact ⟨(hb.cell (p := ⟨b, _, none⟩) hlt).trans h0, (hb.cell (p := ⟨b, _, none⟩) hlt).trans h1, (hb.cell (p := ⟨b, _, none⟩) hlt).trans h2, (hb.cell (p := ⟨b, _, none⟩) hlt).trans h3, (hb.cell (p := ⟨b, _, none⟩) hlt).trans h4⟩
theorem ReadLfs.mono {B B' : Nat} {W : World} {A : Option Addr} {xs : List Lf} (h : ReadLfs B W A xs) (hb : B ≤ B') : ReadLfs B' W A xs := fun hl => by
  obtain ⟨b, off, e, hlt, hc⟩ := h hl
  exact ⟨b, off, e, by omega, hc⟩
theorem lifes_shape {W : World} {base : Nat} {v : Value} {xs : List Lf} (h : OwnLifes W base v xs) : ∃ A c, v = .slice A xs.length c := by
  rcases h.2 with ⟨e, hn⟩ | ⟨g, cap, cur, e, _⟩
  · exact ⟨none, 0, by rw [e, hn]⟩
  · exact ⟨_, _, e⟩
theorem read_lfs {W : World} {base : Nat} {A : Option Addr} {c : Nat} {xs : List Lf} (h : OwnLifes W base (.slice A xs.length c) xs) : ReadLfs W.heap.size W A xs := fun hl => by
  rcases h.2 with ⟨_, hn⟩ | ⟨g, cap, cur, e, hb, hg, rest⟩
  · omega
  · injection e with e1
    subst e1
    refine ⟨g, 0, rfl, (Array.getElem?_eq_some_iff.1 hg).1, fun k x hx => ?_⟩
    have hc : ∀ j u, j < 5 → (lfL x)[j]? = some u → W.cell? ⟨g, 0 + k * 5 + j, none⟩ = some u := fun j u hj hu => by
      have h2 := h.cells (g := g) rfl (k * 5 + j) u (by rw [show (xs.flatMap fun x => (lfC x).toList) = xs.flatMap lfL from rfl, lfs_at xs k j hj, hx]; exact hu)
      have e2 : (⟨g, 0, none⟩ : Addr).add (k * 5 + j) = ⟨g, 0 + k * 5 + j, none⟩ := by unfold Addr.add; split <;> simp_all
      rwa [e2] at h2
    exact ⟨hc 0 _ (by omega) rfl, hc 1 _ (by omega) rfl, hc 2 _ (by omega) rfl, hc 3 _ (by omega) rfl, hc 4 _ (by omega) rfl⟩
theorem OwnLifes.below {W W' : World} {base : Nat} {v : Value} {xs : List Lf} (h : OwnLifes W base v xs) (hb : Below W.heap.size W W') : OwnLifes W' base v xs := row_below h hb

set_option maxHeartbeats 4000000 in
theorem sames_yes (A B : Option Addr) (c d : Nat) (xs : List Lf) (w : World) (hA : ReadLfs w.heap.size w A xs) (hB : ReadLfs w.heap.size w B xs) (hm : xs.length ≤ 1000) :
    Calls Tryz.prog 18 #[.slice A xs.length c, .slice B xs.length d] w (Yes w) := by
  have HA := Lib.hid hA
  have HB := Lib.hid hB
  obtain ⟨m, hmm⟩ : ∃ m, xs.length = m := ⟨_, rfl⟩
  have HM := Lib.hid hmm
  rw [hmm] at hm ⊢
  clear hA hB hmm
  go_enter Tryz.func18, Tryz.ntmps18
  go_wp2
  go_loopw [5] (fun i wr => ∃ k : Nat, k ≤ m ∧ i = .int .i64 k ∧ Below w.heap.size w wr) (fun i wr => m - (intOf i).toNat)
  case atStart => exact ⟨0, Nat.zero_le _, rfl, Below.refl _ _⟩
  case round =>
    obtain ⟨k, hk, rfl, hB0⟩ := hrel
    by_cases hlt : k < m
    · have hkd : decide (k < m) = true := decide_eq_true hlt
      obtain ⟨b, off, rfl, hb, hcs⟩ := (HA.out.below hB0) (by rw [HM.out]; omega)
      obtain ⟨b', off', rfl, hb', hcs'⟩ := (HB.out.below hB0) (by rw [HM.out]; omega)
      obtain ⟨x, hx⟩ : ∃ x, xs[k]? = some x := ⟨_, List.getElem?_eq_getElem (by rw [HM.out]; exact hlt)⟩
      obtain ⟨x0, x1, x2, x3, x4⟩ := hcs k x hx
      obtain ⟨y0, y1, y2, y3, y4⟩ := hcs' k x hx
      obtain ⟨xn, xb, xe, xc, xo⟩ := x
      dsimp only at x0 x1 x2 x3 x4 y0 y1 y2 y3 y4
      have hk0 : (0 : Int) ≤ (k : Int) := by omega
      have hk1 : (k : Int) < (m : Int) := by omega
      have hkw : IntKind.i64.wrap (k : Int) = (k : Int) := by rw [IntKind.wrap_i64]; omega
      clear hcs hcs' hx
      go_wp2_with fail
      go_quiet (fail)
      go_wp2
      go_roundw
      case rel => exact ⟨k + 1, by omega, by go_num, belowN hB0 _⟩
      case measure => simp [intOf]; omega
    · have hkd : decide (k < m) = false := decide_eq_false hlt
      go_wp2
      go_ret
      exact ⟨rfl, hB0⟩

/-! ### The chapter's examples -/
def cS0 : ByteArray := ⟨#[111, 98, 106, 101, 99, 116, 32, 97, 32, 99, 111, 117, 110, 116, 101, 114, 32, 49, 10, 98, 101, 103, 105, 110, 32, 116, 10, 111, 112, 32, 116, 32, 97, 32, 114, 101, 97, 100, 32, 45, 62, 32, 49, 10, 99, 111, 109, 109, 105, 116, 32, 116]⟩
def cE0 : List Ev := [⟨1, ⟨#[97]⟩, ⟨#[]⟩, (0, 0, 0, 0, 0), 1, 1, []⟩, ⟨2, ⟨#[116]⟩, ⟨#[]⟩, (0, 0, 0, 0, 0), 0, 0, []⟩, ⟨3, ⟨#[116]⟩, ⟨#[97]⟩, (2, 0, 0, 2, 1), 0, 0, []⟩, ⟨4, ⟨#[116]⟩, ⟨#[]⟩, (0, 0, 0, 0, 0), 0, 0, []⟩]
theorem cP0 : parseX (nums cS0) = .ok cE0 := by kernel_rfl
theorem cL0 : (layE cE0 = 0 ∧ layP cE0 = 0) ∧ cE0.all evSm = true := by decide +kernel
theorem cC0 (w : World) (hw : Wds w) (hk : KWds w) : Calls Tryz.prog 32 #[.string ⟨#[111, 98, 106, 101, 99, 116, 32, 97, 32, 99, 111, 117, 110, 116, 101, 114, 32, 49, 10, 98, 101, 103, 105, 110, 32, 116, 10, 111, 112, 32, 116, 32, 97, 32, 114, 101, 97, 100, 32, 45, 62, 32, 49, 10, 99, 111, 109, 109, 105, 116, 32, 116]⟩, .int .i64 4, .int .i64 0, .int .i64 0] w (Yes w) := checks_yes cS0 cE0 4 0 0 w (by decide) cP0 rfl (by decide) cL0.2 cL0.1.1 cL0.1.2 hw hk
def cS1 : ByteArray := ⟨#[98, 101, 103, 105, 110, 32, 116, 10, 98, 101, 103, 105, 110, 32, 116]⟩
def cE1 : List Ev := [⟨2, ⟨#[116]⟩, ⟨#[]⟩, (0, 0, 0, 0, 0), 0, 0, []⟩, ⟨2, ⟨#[116]⟩, ⟨#[]⟩, (0, 0, 0, 0, 0), 0, 0, []⟩]
theorem cP1 : parseX (nums cS1) = .ok cE1 := by kernel_rfl
theorem cL1 : (layE cE1 = 10 ∧ layP cE1 = 1) ∧ cE1.all evSm = true := by decide +kernel
theorem cC1 (w : World) (hw : Wds w) (hk : KWds w) : Calls Tryz.prog 32 #[.string ⟨#[98, 101, 103, 105, 110, 32, 116, 10, 98, 101, 103, 105, 110, 32, 116]⟩, .int .i64 2, .int .i64 10, .int .i64 1] w (Yes w) := checks_yes cS1 cE1 2 10 1 w (by decide) cP1 rfl (by decide) cL1.2 cL1.1.1 cL1.1.2 hw hk
def cS2 : ByteArray := ⟨#[99, 111, 109, 109, 105, 116, 32, 116]⟩
def cE2 : List Ev := [⟨4, ⟨#[116]⟩, ⟨#[]⟩, (0, 0, 0, 0, 0), 0, 0, []⟩]
theorem cP2 : parseX (nums cS2) = .ok cE2 := by kernel_rfl
theorem cL2 : (layE cE2 = 11 ∧ layP cE2 = 0) ∧ cE2.all evSm = true := by decide +kernel
theorem cC2 (w : World) (hw : Wds w) (hk : KWds w) : Calls Tryz.prog 32 #[.string ⟨#[99, 111, 109, 109, 105, 116, 32, 116]⟩, .int .i64 1, .int .i64 11, .int .i64 0] w (Yes w) := checks_yes cS2 cE2 1 11 0 w (by decide) cP2 rfl (by decide) cL2.2 cL2.1.1 cL2.1.2 hw hk
def cS3 : ByteArray := ⟨#[111, 98, 106, 101, 99, 116, 32, 97, 32, 99, 111, 117, 110, 116, 101, 114, 32, 49, 10, 111, 98, 106, 101, 99, 116, 32, 97, 32, 99, 111, 117, 110, 116, 101, 114, 32, 49, 10]⟩
def cE3 : List Ev := [⟨1, ⟨#[97]⟩, ⟨#[]⟩, (0, 0, 0, 0, 0), 1, 1, []⟩, ⟨1, ⟨#[97]⟩, ⟨#[]⟩, (0, 0, 0, 0, 0), 1, 1, []⟩]
theorem cP3 : parseX (nums cS3) = .ok cE3 := by kernel_rfl
theorem cL3 : (layE cE3 = 10 ∧ layP cE3 = 1) ∧ cE3.all evSm = true := by decide +kernel
theorem cC3 (w : World) (hw : Wds w) (hk : KWds w) : Calls Tryz.prog 32 #[.string ⟨#[111, 98, 106, 101, 99, 116, 32, 97, 32, 99, 111, 117, 110, 116, 101, 114, 32, 49, 10, 111, 98, 106, 101, 99, 116, 32, 97, 32, 99, 111, 117, 110, 116, 101, 114, 32, 49, 10]⟩, .int .i64 2, .int .i64 10, .int .i64 1] w (Yes w) := checks_yes cS3 cE3 2 10 1 w (by decide) cP3 rfl (by decide) cL3.2 cL3.1.1 cL3.1.2 hw hk
def cS4 : ByteArray := ⟨#[98, 101, 103, 105, 110, 32, 116, 10, 111, 98, 106, 101, 99, 116, 32, 97, 32, 99, 111, 117, 110, 116, 101, 114, 32, 49, 10]⟩
def cE4 : List Ev := [⟨2, ⟨#[116]⟩, ⟨#[]⟩, (0, 0, 0, 0, 0), 0, 0, []⟩, ⟨1, ⟨#[97]⟩, ⟨#[]⟩, (0, 0, 0, 0, 0), 1, 1, []⟩]
theorem cP4 : parseX (nums cS4) = .ok cE4 := by kernel_rfl
theorem cL4 : (layE cE4 = 13 ∧ layP cE4 = 1) ∧ cE4.all evSm = true := by decide +kernel
theorem cC4 (w : World) (hw : Wds w) (hk : KWds w) : Calls Tryz.prog 32 #[.string ⟨#[98, 101, 103, 105, 110, 32, 116, 10, 111, 98, 106, 101, 99, 116, 32, 97, 32, 99, 111, 117, 110, 116, 101, 114, 32, 49, 10]⟩, .int .i64 2, .int .i64 13, .int .i64 1] w (Yes w) := checks_yes cS4 cE4 2 13 1 w (by decide) cP4 rfl (by decide) cL4.2 cL4.1.1 cL4.1.2 hw hk
def cS5 : ByteArray := ⟨#[111, 98, 106, 101, 99, 116, 32, 97, 32, 99, 111, 117, 110, 116, 101, 114, 32, 49, 10, 98, 101, 103, 105, 110, 32, 116, 10, 99, 111, 109, 109, 105, 116, 32, 116, 10, 97, 98, 111, 114, 116, 32, 116]⟩
def cE5 : List Ev := [⟨1, ⟨#[97]⟩, ⟨#[]⟩, (0, 0, 0, 0, 0), 1, 1, []⟩, ⟨2, ⟨#[116]⟩, ⟨#[]⟩, (0, 0, 0, 0, 0), 0, 0, []⟩, ⟨4, ⟨#[116]⟩, ⟨#[]⟩, (0, 0, 0, 0, 0), 0, 0, []⟩, ⟨5, ⟨#[116]⟩, ⟨#[]⟩, (0, 0, 0, 0, 0), 0, 0, []⟩]
theorem cP5 : parseX (nums cS5) = .ok cE5 := by kernel_rfl
theorem cL5 : (layE cE5 = 13 ∧ layP cE5 = 3) ∧ cE5.all evSm = true := by decide +kernel
theorem cC5 (w : World) (hw : Wds w) (hk : KWds w) : Calls Tryz.prog 32 #[.string ⟨#[111, 98, 106, 101, 99, 116, 32, 97, 32, 99, 111, 117, 110, 116, 101, 114, 32, 49, 10, 98, 101, 103, 105, 110, 32, 116, 10, 99, 111, 109, 109, 105, 116, 32, 116, 10, 97, 98, 111, 114, 116, 32, 116]⟩, .int .i64 4, .int .i64 13, .int .i64 3] w (Yes w) := checks_yes cS5 cE5 4 13 3 w (by decide) cP5 rfl (by decide) cL5.2 cL5.1.1 cL5.1.2 hw hk
def cS6 : ByteArray := ⟨#[111, 98, 106, 101, 99, 116, 32, 97, 32, 99, 111, 117, 110, 116, 101, 114, 32, 49, 10, 98, 101, 103, 105, 110, 32, 116, 10, 111, 112, 32, 116, 32, 97, 32, 115, 105, 122, 101, 32, 45, 62, 32, 49]⟩
def cE6 : List Ev := [⟨1, ⟨#[97]⟩, ⟨#[]⟩, (0, 0, 0, 0, 0), 1, 1, []⟩, ⟨2, ⟨#[116]⟩, ⟨#[]⟩, (0, 0, 0, 0, 0), 0, 0, []⟩, ⟨3, ⟨#[116]⟩, ⟨#[97]⟩, (6, 0, 0, 2, 1), 0, 0, []⟩]
theorem cP6 : parseX (nums cS6) = .ok cE6 := by kernel_rfl
theorem cL6 : (layE cE6 = 8 ∧ layP cE6 = 2) ∧ cE6.all evSm = true := by decide +kernel
theorem cC6 (w : World) (hw : Wds w) (hk : KWds w) : Calls Tryz.prog 32 #[.string ⟨#[111, 98, 106, 101, 99, 116, 32, 97, 32, 99, 111, 117, 110, 116, 101, 114, 32, 49, 10, 98, 101, 103, 105, 110, 32, 116, 10, 111, 112, 32, 116, 32, 97, 32, 115, 105, 122, 101, 32, 45, 62, 32, 49]⟩, .int .i64 3, .int .i64 8, .int .i64 2] w (Yes w) := checks_yes cS6 cE6 3 8 2 w (by decide) cP6 rfl (by decide) cL6.2 cL6.1.1 cL6.1.2 hw hk
def cS7 : ByteArray := ⟨#[111, 98, 106, 101, 99, 116, 32, 97, 32, 99, 111, 117, 110, 116, 101, 114, 32, 49, 10, 98, 101, 103, 105, 110, 32, 116, 10, 111, 112, 32, 116, 32, 98, 32, 114, 101, 97, 100, 32, 45, 62, 32, 49]⟩
def cE7 : List Ev := [⟨1, ⟨#[97]⟩, ⟨#[]⟩, (0, 0, 0, 0, 0), 1, 1, []⟩, ⟨2, ⟨#[116]⟩, ⟨#[]⟩, (0, 0, 0, 0, 0), 0, 0, []⟩, ⟨3, ⟨#[116]⟩, ⟨#[98]⟩, (2, 0, 0, 2, 1), 0, 0, []⟩]
theorem cP7 : parseX (nums cS7) = .ok cE7 := by kernel_rfl
theorem cL7 : (layE cE7 = 11 ∧ layP cE7 = 2) ∧ cE7.all evSm = true := by decide +kernel
theorem cC7 (w : World) (hw : Wds w) (hk : KWds w) : Calls Tryz.prog 32 #[.string ⟨#[111, 98, 106, 101, 99, 116, 32, 97, 32, 99, 111, 117, 110, 116, 101, 114, 32, 49, 10, 98, 101, 103, 105, 110, 32, 116, 10, 111, 112, 32, 116, 32, 98, 32, 114, 101, 97, 100, 32, 45, 62, 32, 49]⟩, .int .i64 3, .int .i64 11, .int .i64 2] w (Yes w) := checks_yes cS7 cE7 3 11 2 w (by decide) cP7 rfl (by decide) cL7.2 cL7.1.1 cL7.1.2 hw hk
def cS8 : ByteArray := ⟨#[98, 101, 103, 105, 110, 32, 116, 10, 97, 98, 111, 114, 116, 32, 116, 10, 98, 101, 103, 105, 110, 32, 116]⟩
def cE8 : List Ev := [⟨2, ⟨#[116]⟩, ⟨#[]⟩, (0, 0, 0, 0, 0), 0, 0, []⟩, ⟨5, ⟨#[116]⟩, ⟨#[]⟩, (0, 0, 0, 0, 0), 0, 0, []⟩, ⟨2, ⟨#[116]⟩, ⟨#[]⟩, (0, 0, 0, 0, 0), 0, 0, []⟩]
theorem cP8 : parseX (nums cS8) = .ok cE8 := by kernel_rfl
theorem cL8 : (layE cE8 = 10 ∧ layP cE8 = 2) ∧ cE8.all evSm = true := by decide +kernel
theorem cC8 (w : World) (hw : Wds w) (hk : KWds w) : Calls Tryz.prog 32 #[.string ⟨#[98, 101, 103, 105, 110, 32, 116, 10, 97, 98, 111, 114, 116, 32, 116, 10, 98, 101, 103, 105, 110, 32, 116]⟩, .int .i64 3, .int .i64 10, .int .i64 2] w (Yes w) := checks_yes cS8 cE8 3 10 2 w (by decide) cP8 rfl (by decide) cL8.2 cL8.1.1 cL8.1.2 hw hk
def cS9 : ByteArray := ⟨#[111, 98, 106, 101, 99, 116, 32, 97, 32, 99, 111, 117, 110, 116, 101, 114, 32, 49, 10, 98, 101, 103, 105, 110, 32, 116, 10, 98, 101, 103, 105, 110, 32, 117, 10, 111, 112, 32, 117, 32, 97, 32, 114, 101, 97, 100, 32, 45, 62, 32, 49, 10, 97, 98, 111, 114, 116, 32, 117]⟩
def cE9 : List Ev := [⟨1, ⟨#[97]⟩, ⟨#[]⟩, (0, 0, 0, 0, 0), 1, 1, []⟩, ⟨2, ⟨#[116]⟩, ⟨#[]⟩, (0, 0, 0, 0, 0), 0, 0, []⟩, ⟨2, ⟨#[117]⟩, ⟨#[]⟩, (0, 0, 0, 0, 0), 0, 0, []⟩, ⟨3, ⟨#[117]⟩, ⟨#[97]⟩, (2, 0, 0, 2, 1), 0, 0, []⟩, ⟨5, ⟨#[117]⟩, ⟨#[]⟩, (0, 0, 0, 0, 0), 0, 0, []⟩]
theorem cP9 : parseX (nums cS9) = .ok cE9 := by kernel_rfl
theorem cL9 : (layE cE9 = 0 ∧ layP cE9 = 0) ∧ cE9.all evSm = true := by decide +kernel
theorem cC9 (w : World) (hw : Wds w) (hk : KWds w) : Calls Tryz.prog 32 #[.string ⟨#[111, 98, 106, 101, 99, 116, 32, 97, 32, 99, 111, 117, 110, 116, 101, 114, 32, 49, 10, 98, 101, 103, 105, 110, 32, 116, 10, 98, 101, 103, 105, 110, 32, 117, 10, 111, 112, 32, 117, 32, 97, 32, 114, 101, 97, 100, 32, 45, 62, 32, 49, 10, 97, 98, 111, 114, 116, 32, 117]⟩, .int .i64 5, .int .i64 0, .int .i64 0] w (Yes w) := checks_yes cS9 cE9 5 0 0 w (by decide) cP9 rfl (by decide) cL9.2 cL9.1.1 cL9.1.2 hw hk

set_option maxHeartbeats 2000000 in
theorem hawake_any (w : World) (hw : Wds w) (hk : KWds w) : Calls Tryz.prog 12 #[] w (Yes w) := by
  have HW := Lib.hid hw
  have HK := Lib.hid hk
  clear hw hk
  have F0 := Lib.hid (fun (W : World) (hB : Below w.heap.size w W) => cC0 W (HW.out.on hB) (HK.out.on hB))
  have F1 := Lib.hid (fun (W : World) (hB : Below w.heap.size w W) => cC1 W (HW.out.on hB) (HK.out.on hB))
  have F2 := Lib.hid (fun (W : World) (hB : Below w.heap.size w W) => cC2 W (HW.out.on hB) (HK.out.on hB))
  go_enter Tryz.func12, Tryz.ntmps12
  go_wp2_with fail
  refine (F0.out _ (Below.refl _ w)).mono ?_
  rintro e w1 ⟨rfl, hb⟩
  have hB1 : Below w.heap.size w w1 := hb
  clear hb
  go_wp2_with fail
  refine (F1.out _ (hB1)).mono ?_
  rintro e w2 ⟨rfl, hb⟩
  have hB2 : Below w.heap.size w w2 := nxt hB1 hb hB1.size
  clear hb
  go_wp2_with fail
  refine (F2.out _ (hB2)).mono ?_
  rintro e w3 ⟨rfl, hb⟩
  have hB3 : Below w.heap.size w w3 := nxt hB2 hb hB2.size
  clear hb
  go_wp2
  go_ret
  exact ⟨rfl, hB3⟩

def knownL : List Lf := [⟨⟨#[116]⟩, 1, -1, false, 0⟩, ⟨⟨#[117]⟩, 2, 4, false, 1⟩]
theorem known_lay : (layX dk0 0 cE9).2.1 = 0 ∧ (layX dk0 0 cE9).2.2 = 0 := by decide +kernel
theorem known_trs : (layX dk0 0 cE9).1.trs = knownL := by rfl

set_option maxHeartbeats 8000000 in
theorem hknown_any (w : World) (hw : Wds w) (hk : KWds w) : Calls Tryz.prog 6 #[] w (Yes w) := by
  have HW := Lib.hid hw
  have HK := Lib.hid hk
  clear hw hk
  have F3 := Lib.hid (fun (W : World) (hB : Below w.heap.size w W) => cC3 W (HW.out.on hB) (HK.out.on hB))
  have F4 := Lib.hid (fun (W : World) (hB : Below w.heap.size w W) => cC4 W (HW.out.on hB) (HK.out.on hB))
  have F5 := Lib.hid (fun (W : World) (hB : Below w.heap.size w W) => cC5 W (HW.out.on hB) (HK.out.on hB))
  have F6 := Lib.hid (fun (W : World) (hB : Below w.heap.size w W) => cC6 W (HW.out.on hB) (HK.out.on hB))
  have F7 := Lib.hid (fun (W : World) (hB : Below w.heap.size w W) => cC7 W (HW.out.on hB) (HK.out.on hB))
  have F8 := Lib.hid (fun (W : World) (hB : Below w.heap.size w W) => cC8 W (HW.out.on hB) (HK.out.on hB))
  have FO := Lib.hid (fun (W : World) (hB : Below w.heap.size w W) => (hof_yes cS9 cE9 W (by decide) cP9 (HW.out.on hB) (HK.out.on hB) : Calls Tryz.prog 33 #[.string ⟨#[111, 98, 106, 101, 99, 116, 32, 97, 32, 99, 111, 117, 110, 116, 101, 114, 32, 49, 10, 98, 101, 103, 105, 110, 32, 116, 10, 98, 101, 103, 105, 110, 32, 117, 10, 111, 112, 32, 117, 32, 97, 32, 114, 101, 97, 100, 32, 45, 62, 32, 49, 10, 97, 98, 111, 114, 116, 32, 117]⟩] W (HofPost cE9 W)))
  have FA := Lib.hid (fun (W : World) (hB : Below w.heap.size w W) => hawake_any W (HW.out.on hB) (HK.out.on hB))
  go_enter Tryz.func6, Tryz.ntmps6
  go_wp2_with fail
  refine (F3.out _ (Below.refl _ w)).mono ?_
  rintro e w1 ⟨rfl, hb⟩
  have hB1 : Below w.heap.size w w1 := hb
  clear hb
  go_wp2_with fail
  refine (F4.out _ (hB1)).mono ?_
  rintro e w2 ⟨rfl, hb⟩
  have hB2 : Below w.heap.size w w2 := nxt hB1 hb hB1.size
  clear hb
  go_wp2_with fail
  refine (F5.out _ (hB2)).mono ?_
  rintro e w3 ⟨rfl, hb⟩
  have hB3 : Below w.heap.size w w3 := nxt hB2 hb hB2.size
  clear hb
  go_wp2_with fail
  refine (F6.out _ (hB3)).mono ?_
  rintro e w4 ⟨rfl, hb⟩
  have hB4 : Below w.heap.size w w4 := nxt hB3 hb hB3.size
  clear hb
  go_wp2_with fail
  refine (F7.out _ (hB4)).mono ?_
  rintro e w5 ⟨rfl, hb⟩
  have hB5 : Below w.heap.size w w5 := nxt hB4 hb hB4.size
  clear hb
  go_wp2_with fail
  refine (F8.out _ (hB5)).mono ?_
  rintro e w6 ⟨rfl, hb⟩
  have hB6 : Below w.heap.size w w6 := nxt hB5 hb hB5.size
  clear hb
  go_wp2_with fail
  refine (FO.out _ hB6).mono ?_
  rintro e w7 ⟨A, c, rfl, ho, hb⟩
  have hB7 : Below w.heap.size w w7 := nxt hB6 hb hB6.size
  obtain ⟨zs, h1, hl, hin⟩ := own_in ho (by decide +kernel) (by decide)
  have HL := Lib.hid (lives_any A c zs w7 hin)
  rw [hl, h1] at HL
  unfold LivesPost fltV at HL
  rw [if_pos known_lay.1, known_lay.1, known_lay.2, known_trs] at HL
  clear ho h1 hl hin hb
  go_wp2_with fail
  refine HL.out.mono ?_
  rintro e w8 ⟨v, rfl, hlf, hb⟩
  have hB8 : Below w.heap.size w w8 := nxt hB7 hb hB7.size
  obtain ⟨A2, c2, rfl⟩ := lifes_shape hlf
  have HLF := Lib.hid hlf
  clear hb hlf
  have hb9 := alloc1 w8 (.cells #[.int .i64 0, .int .i64 0] 29)
  have HX9 := Lib.hid (Holds.new w8 29 #[.int .i64 0, .int .i64 0])
  have HLF9 := Lib.hid (HLF.out.below hb9)
  have hB9 : Below w.heap.size w _ := nxt hB8 hb9 hB8.size
  go_upto_region 4 with fail
  generalize w8.alloc (.cells #[.int .i64 0, .int .i64 0] 29) = W9 at *
  have hb10 := alloc1 W9 (.cells #[.string ⟨#[116]⟩, .int .i64 1, .int .i64 (-1), .bool false, .int .i64 0, .string ⟨#[117]⟩, .int .i64 2, .int .i64 4, .bool false, .int .i64 1] 58)
  have HW10 := Lib.hid (Holds.new W9 58 #[.string ⟨#[116]⟩, .int .i64 1, .int .i64 (-1), .bool false, .int .i64 0, .string ⟨#[117]⟩, .int .i64 2, .int .i64 4, .bool false, .int .i64 1])
  have HX10 := Lib.hid (HX9.out.below hb10 HX9.out.lt)
  have HLF10 := Lib.hid (HLF9.out.below hb10)
  have hB10 : Below w.heap.size w _ := nxt hB9 hb10 hB9.size
  go_upto_region 5 with fail
  generalize W9.alloc (.cells #[.string ⟨#[116]⟩, .int .i64 1, .int .i64 (-1), .bool false, .int .i64 0, .string ⟨#[117]⟩, .int .i64 2, .int .i64 4, .bool false, .int .i64 1] 58) = W10 at *
  go_wp2_with fail
  refine (FA.out _ hB10).mono ?_
  rintro e w11 ⟨rfl, hb⟩
  have hB11 : Below w.heap.size w w11 := nxt hB10 hb hB10.size
  have HW11 := Lib.hid (HW10.out.below hb HW10.out.lt)
  have HX11 := Lib.hid (HX10.out.below hb HX10.out.lt)
  have HLF11 := Lib.hid (HLF10.out.below hb)
  clear hb
  have x0 : w11.cell? ⟨w8.heap.size, 0, none⟩ = some (.int .i64 0) := HX11.out.c (j := 0) rfl
  have x1 : w11.cell? ⟨w8.heap.size, 1, none⟩ = some (.int .i64 0) := HX11.out.c (j := 1) rfl
  have HRW : ReadLfs w11.heap.size w11 (some ⟨W9.heap.size, 0, none⟩) knownL := fun _ => by
    refine ⟨W9.heap.size, 0, rfl, HW11.out.lt, fun k x hx => ?_⟩
    match k, hx with
    | 0, hx => cases hx; exact ⟨HW11.out.c (j := 0) rfl, HW11.out.c (j := 1) rfl, HW11.out.c (j := 2) rfl, HW11.out.c (j := 3) rfl, HW11.out.c (j := 4) rfl⟩
    | 1, hx => cases hx; exact ⟨HW11.out.c (j := 5) rfl, HW11.out.c (j := 6) rfl, HW11.out.c (j := 7) rfl, HW11.out.c (j := 8) rfl, HW11.out.c (j := 9) rfl⟩
    | k + 2, hx => simp [knownL] at hx
  have HSL := Lib.hid (sames_yes A2 (some ⟨W9.heap.size, 0, none⟩) c2 2 knownL w11 (read_lfs HLF11.out) HRW (by decide))
  clear HRW
  go_wp2_with fail
  refine HSL.out.mono ?_
  rintro e w12 ⟨rfl, hb⟩
  go_wp2
  go_ret
  exact ⟨rfl, nxt hB11 hb hB11.size⟩
end Go.Proofs.YtpdbkjnaicjfdaaGreatDoor
namespace Go.Proofs.YtpdbkjnaicjfdaaGreatDoor
open Go.RowKit Go.Maps
set_option linter.unusedVariables false
set_option maxRecDepth 100000

def lfZ : Array Value := #[.string ⟨#[]⟩, .int .i64 0, .int .i64 0, .bool false, .int .i64 0]
def lifeV : Option Lf → Value
  | some x => .tuple #[.agg (lfC x), .bool true]
  | none => .tuple #[.agg lfZ, .bool false]

set_option maxHeartbeats 4000000 in
theorem life_any {lo : Nat} {L : Lay} {d : Dk} (s : ByteArray) (w : World) (h : Dsk w lo L d) (hs : s.size ≤ 8000) :
    Calls Tryz.prog 29 #[.pointer (some ⟨L.B, 0, none⟩), .string s] w (Says (lifeV (lfAt d s)) w) := by
  have hb0 := alloc1 w (.cells lfZ 58)
  have HF0 := Lib.hid (Holds.new w 58 lfZ)
  have HD0 := Lib.hid (h.below hb0)
  have HM := Lib.hid (made_yes L.B _ (desk_cells HD0.out).1)
  have HOf := Lib.hid (of_L L.B _ (desk_cells HD0.out).2.2.2.1 HD0.out.tr s (by unfold maxLen; omega))
  have hw := HD0.out.lfOf s
  unfold lfZ at *
  clear h
  rcases hw with ⟨hn, hbn⟩ | ⟨x, b, hn, hbn, hH, _, hxn⟩
  · rw [hn]
    simp only [hbn, ptrO] at HOf
    unfold lifeV lfZ
    clear hn hbn
    go_enter Tryz.func29, Tryz.ntmps29
    go_upto_region 1 with fail
    generalize w.alloc (.cells #[.string ⟨#[]⟩, .int .i64 0, .int .i64 0, .bool false, .int .i64 0] 58) = W0 at *
    go_wp2_with fail
    refine HM.out.mono ?_
    rintro e w1 ⟨rfl, rfl⟩
    have f0 : W0.cell? ⟨w.heap.size, 0, none⟩ = some (.string ⟨#[]⟩) := HF0.out.c (j := 0) rfl
    have f1 : W0.cell? ⟨w.heap.size, 1, none⟩ = some (.int .i64 0) := HF0.out.c (j := 1) rfl
    have f2 : W0.cell? ⟨w.heap.size, 2, none⟩ = some (.int .i64 0) := HF0.out.c (j := 2) rfl
    have f3 : W0.cell? ⟨w.heap.size, 3, none⟩ = some (.bool false) := HF0.out.c (j := 3) rfl
    have f4 : W0.cell? ⟨w.heap.size, 4, none⟩ = some (.int .i64 0) := HF0.out.c (j := 4) rfl
    have fz := HF0.out.frozen
    go_wp2_with fail
    refine HOf.out.mono ?_
    rintro e w2 ⟨rfl, rfl⟩
    go_wp2
    have hG := ((((HF0.out.set 0 (.string ⟨#[]⟩)).set 1 (.int .i64 0)).set 2 (.int .i64 0)).set 3 (.bool false)).set 4 (.int .i64 0)
    have hb9 := ((((hb0.setCell (p := ⟨w.heap.size, 0, none⟩) (Nat.le_refl _) (.string ⟨#[]⟩)).setCell (p := ⟨w.heap.size, 1, none⟩) (Nat.le_refl _) (.int .i64 0)).setCell (p := ⟨w.heap.size, 2, none⟩) (Nat.le_refl _) (.int .i64 0)).setCell (p := ⟨w.heap.size, 3, none⟩) (Nat.le_refl _) (.bool false)).setCell (p := ⟨w.heap.size, 4, none⟩) (Nat.le_refl _) (.int .i64 0)
    generalize ((((W0.setCell ⟨w.heap.size, 0, none⟩ (.string ⟨#[]⟩)).setCell ⟨w.heap.size, 1, none⟩ (.int .i64 0)).setCell ⟨w.heap.size, 2, none⟩ (.int .i64 0)).setCell ⟨w.heap.size, 3, none⟩ (.bool false)).setCell ⟨w.heap.size, 4, none⟩ (.int .i64 0) = W9 at *
    have k0 : W9.cell? ⟨w.heap.size, 0, none⟩ = some (.string ⟨#[]⟩) := hG.c (j := 0) rfl
    have k1 : W9.cell? ⟨w.heap.size, 1, none⟩ = some (.int .i64 0) := hG.c (j := 1) rfl
    have k2 : W9.cell? ⟨w.heap.size, 2, none⟩ = some (.int .i64 0) := hG.c (j := 2) rfl
    have k3 : W9.cell? ⟨w.heap.size, 3, none⟩ = some (.bool false) := hG.c (j := 3) rfl
    have k4 : W9.cell? ⟨w.heap.size, 4, none⟩ = some (.int .i64 0) := hG.c (j := 4) rfl
    refine bodyPost_ret (v := .tuple #[.agg #[.string ⟨#[]⟩, .int .i64 0, .int .i64 0, .bool false, .int .i64 0], .bool false]) (by simp [results, Tryz.f29, go_sem, k0, k1, k2, k3, k4]) rfl ?_
    exact ⟨rfl, hb9⟩
  · rw [hn]
    simp only [hbn, ptrO] at HOf
    have HH := Lib.hid hH
    have hxs : x.nm.size ≤ 8000 := by rw [hxn]; exact hs
    obtain ⟨xn, xb, xe, xc, xo⟩ := x
    unfold lifeV lfC
    dsimp only at hxs ⊢
    have hbl := hH.lt
    clear hn hbn hH hxn
    go_enter Tryz.func29, Tryz.ntmps29
    go_upto_region 1 with fail
    generalize w.alloc (.cells #[.string ⟨#[]⟩, .int .i64 0, .int .i64 0, .bool false, .int .i64 0] 58) = W0 at *
    go_wp2_with fail
    refine HM.out.mono ?_
    rintro e w1 ⟨rfl, rfl⟩
    have r0 : W0.cell? ⟨b, 0, none⟩ = some (.string xn) := HH.out.c (j := 0) rfl
    have r1 : W0.cell? ⟨b, 1, none⟩ = some (.int .i64 xb) := HH.out.c (j := 1) rfl
    have r2 : W0.cell? ⟨b, 2, none⟩ = some (.int .i64 xe) := HH.out.c (j := 2) rfl
    have r3 : W0.cell? ⟨b, 3, none⟩ = some (.bool xc) := HH.out.c (j := 3) rfl
    have r4 : W0.cell? ⟨b, 4, none⟩ = some (.int .i64 xo) := HH.out.c (j := 4) rfl
    have hbA := alloc1 W0 (.cells #[.string xn, .int .i64 xb, .int .i64 xe, .bool xc, .int .i64 xo] 58)
    have HX := Lib.hid (Holds.new W0 58 #[.string xn, .int .i64 xb, .int .i64 xe, .bool xc, .int .i64 xo])
    have HFA := Lib.hid (HF0.out.below hbA HF0.out.lt)
    have hbb := nxt hb0 hbA hb0.size
    have hw0 := HF0.out.lt
    go_wp2_with fail
    refine HOf.out.mono ?_
    rintro e w2 ⟨rfl, rfl⟩
    go_upto_region 7 with fail
    have hl0 := HX.out.lt
    generalize W0.alloc (.cells #[.string xn, .int .i64 xb, .int .i64 xe, .bool xc, .int .i64 xo] 58) = W1 at *
    have s0 : W1.cell? ⟨W0.heap.size, 0, none⟩ = some (.string xn) := HX.out.c (j := 0) rfl
    go_wp2_with fail
    refine (clone_any xn _ (by omega)).mono ?_
    rintro e w3 ⟨rfl, hb3⟩
    have HX3 := Lib.hid (HX.out.below hb3 hl0)
    have HF3 := Lib.hid (HFA.out.below hb3 HFA.out.lt)
    have hbb3 := nxt hbb hb3 hbb.size
    clear r0 r1 r2 r3 r4 s0
    have s0 : w3.cell? ⟨W0.heap.size, 0, none⟩ = some (.string xn) := HX3.out.c (j := 0) rfl
    have sz := HX3.out.frozen
    have hne : W0.heap.size ≠ w.heap.size := by omega
    have HX4 := Lib.hid (HX3.out.set 0 (.string xn))
    have HF4 := Lib.hid (HF3.out.of ((only_set w3 W0.heap.size 0 (.string xn)).block w.heap.size HF3.out.lt hne.symm))
    have hbb4 := hbb3.setCell (p := ⟨W0.heap.size, 0, none⟩) (show w.heap.size ≤ W0.heap.size by omega) (.string xn)
    go_upto_region 8 with fail
    generalize w3.setCell ⟨W0.heap.size, 0, none⟩ (.string xn) = W4 at *
    clear s0 sz
    have x0 : W4.cell? ⟨W0.heap.size, 0, none⟩ = some (.string xn) := HX4.out.c (j := 0) rfl
    have x1 : W4.cell? ⟨W0.heap.size, 1, none⟩ = some (.int .i64 xb) := HX4.out.c (j := 1) rfl
    have x2 : W4.cell? ⟨W0.heap.size, 2, none⟩ = some (.int .i64 xe) := HX4.out.c (j := 2) rfl
    have x3 : W4.cell? ⟨W0.heap.size, 3, none⟩ = some (.bool xc) := HX4.out.c (j := 3) rfl
    have x4 : W4.cell? ⟨W0.heap.size, 4, none⟩ = some (.int .i64 xo) := HX4.out.c (j := 4) rfl
    have f0 : W4.cell? ⟨w.heap.size, 0, none⟩ = some (.string ⟨#[]⟩) := HF4.out.c (j := 0) rfl
    have f1 : W4.cell? ⟨w.heap.size, 1, none⟩ = some (.int .i64 0) := HF4.out.c (j := 1) rfl
    have f2 : W4.cell? ⟨w.heap.size, 2, none⟩ = some (.int .i64 0) := HF4.out.c (j := 2) rfl
    have f3 : W4.cell? ⟨w.heap.size, 3, none⟩ = some (.bool false) := HF4.out.c (j := 3) rfl
    have f4 : W4.cell? ⟨w.heap.size, 4, none⟩ = some (.int .i64 0) := HF4.out.c (j := 4) rfl
    have fz := HF4.out.frozen
    have hG := ((((HF4.out.set 0 (.string xn)).set 1 (.int .i64 xb)).set 2 (.int .i64 xe)).set 3 (.bool xc)).set 4 (.int .i64 xo)
    have hb9 := ((((hbb4.setCell (p := ⟨w.heap.size, 0, none⟩) (Nat.le_refl _) (.string xn)).setCell (p := ⟨w.heap.size, 1, none⟩) (Nat.le_refl _) (.int .i64 xb)).setCell (p := ⟨w.heap.size, 2, none⟩) (Nat.le_refl _) (.int .i64 xe)).setCell (p := ⟨w.heap.size, 3, none⟩) (Nat.le_refl _) (.bool xc)).setCell (p := ⟨w.heap.size, 4, none⟩) (Nat.le_refl _) (.int .i64 xo)
    go_wp2
    clear f0 f1 f2 f3 f4 x0 x1 x2 x3 x4
    generalize ((((W4.setCell ⟨w.heap.size, 0, none⟩ (.string xn)).setCell ⟨w.heap.size, 1, none⟩ (.int .i64 xb)).setCell ⟨w.heap.size, 2, none⟩ (.int .i64 xe)).setCell ⟨w.heap.size, 3, none⟩ (.bool xc)).setCell ⟨w.heap.size, 4, none⟩ (.int .i64 xo) = W9 at *
    have k0 : W9.cell? ⟨w.heap.size, 0, none⟩ = some (.string xn) := hG.c (j := 0) rfl
    have k1 : W9.cell? ⟨w.heap.size, 1, none⟩ = some (.int .i64 xb) := hG.c (j := 1) rfl
    have k2 : W9.cell? ⟨w.heap.size, 2, none⟩ = some (.int .i64 xe) := hG.c (j := 2) rfl
    have k3 : W9.cell? ⟨w.heap.size, 3, none⟩ = some (.bool xc) := hG.c (j := 3) rfl
    have k4 : W9.cell? ⟨w.heap.size, 4, none⟩ = some (.int .i64 xo) := hG.c (j := 4) rfl
    refine bodyPost_ret (v := .tuple #[.agg #[.string xn, .int .i64 xb, .int .i64 xe, .bool xc, .int .i64 xo], .bool true]) (by simp [results, Tryz.f29, go_sem, k0, k1, k2, k3, k4]) rfl ?_
    exact ⟨rfl, hb9⟩
end Go.Proofs.YtpdbkjnaicjfdaaGreatDoor
