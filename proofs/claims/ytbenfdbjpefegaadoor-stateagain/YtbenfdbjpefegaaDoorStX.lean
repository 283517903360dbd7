/- StateTells. -/
import Derived.Test.YtbenfdbjpefegaaDoorStU
import Derived.Test.YtbenfdbjpefegaaDoorStO
namespace Go.Proofs.YtbenfdbjpefegaaDoor
open Go.RowKit Go.Maps
set_option linter.unusedVariables false

def encR (t n : Int) (l : List Int) : List Int := if checkE t n l = 0 then encL t n l else []
def txtR (t n : Int) (l : List Int) : List UInt8 := if checkE t n l = 0 then txtL t n l else []
def EncP (E : Int) (ys : List Int) (w : World) (e : Ending) (w' : World) : Prop :=
  ∃ A c, e = .returned (.tuple #[.slice A ys.length c, .int .i64 E]) ∧ w'.ownsRow w.heap.size 5 1 (.slice A ys.length c) ys.length (bytesOf ys) ∧ Below w.heap.size w w'
def TextP (E : Int) (bs : List UInt8) (w : World) (e : Ending) (w' : World) : Prop := e = .returned (.tuple #[.string ⟨bs.toArray⟩, .int .i64 E]) ∧ Below w.heap.size w w'

theorem encR_octets (t n : Int) (l : List Int) : Octets (encR t n l) := by
  unfold encR; split
  · exact enc_octets t n l
  · intro x hx; cases hx
theorem encR_len (t n : Int) (l : List Int) : (encR t n l).length ≤ 13 + 8 * l.length := by
  unfold encR; split
  · rw [enc_len]; exact Nat.le_refl _
  · simp
theorem enc_any (t n : Int) (A : Option Addr) (c : Nat) (l : List Int) (w : World) (hA : Ints w A l) (hlen : l.length ≤ 100) :
    Calls Tryd.prog 11 #[stV t n A l.length c] w (EncP (checkE t n l) (encR t n l) w) := by
  by_cases h : checkE t n l = 0
  · refine (enc_yes t n A c l w hA hlen h).mono ?_
    rintro e w' ⟨g, cap, rfl, ho, hB⟩
    unfold encR; rw [if_pos h, h]
    exact ⟨_, _, rfl, ho, hB⟩
  · refine (enc_no t n A c l w hA hlen h).mono ?_
    rintro e w' ⟨rfl, hB⟩
    unfold encR; rw [if_neg h]
    exact ⟨none, 0, rfl, World.ownsRow_nil _ _ _ _, hB⟩
theorem renc_any (t n : Int) (A : Option Addr) (c : Nat) (l : List Int) (w : World) (hA : Ints w A l) (hlen : l.length ≤ 100) :
    Calls Tryd.prog 12 #[stV t n A l.length c] w (EncP (checkE t n l) (encR t n l) w) := by
  by_cases h : checkE t n l = 0
  · refine (renc_yes t n A c l w hA hlen h).mono ?_
    rintro e w' ⟨g, cap, rfl, ho, hB⟩
    unfold encR; rw [if_pos h, h]
    exact ⟨_, _, rfl, ho, hB⟩
  · refine (renc_no t n A c l w hA hlen h).mono ?_
    rintro e w' ⟨rfl, hB⟩
    unfold encR; rw [if_neg h]
    exact ⟨none, 0, rfl, World.ownsRow_nil _ _ _ _, hB⟩
theorem text_any (t n : Int) (A : Option Addr) (c : Nat) (l : List Int) (w : World) (hw : Wds w) (hA : Ints w A l) (hlen : l.length ≤ 100) (hsm : ∀ x ∈ l, Small x) (hn : Small n) :
    Calls Tryd.prog 13 #[stV t n A l.length c] w (TextP (checkE t n l) (txtR t n l) w) := by
  by_cases h : checkE t n l = 0
  · refine (text_yes t n A c l w hw hA (by omega) hsm hn h).mono ?_
    rintro e w' ⟨rfl, hB⟩
    unfold txtR; rw [if_pos h, h]
    exact ⟨rfl, hB⟩
  · refine (text_no t n A c l w hA (by omega) h).mono ?_
    rintro e w' ⟨rfl, hB⟩
    unfold txtR; rw [if_neg h]
    exact ⟨rfl, hB⟩
theorem rtext_any (t n : Int) (A : Option Addr) (c : Nat) (l : List Int) (w : World) (hA : Ints w A l) (hlen : l.length ≤ 100) (hsm : ∀ x ∈ l, Small x) (hn : Small n) :
    Calls Tryd.prog 14 #[stV t n A l.length c] w (TextP (checkE t n l) (txtR t n l) w) := by
  by_cases h : checkE t n l = 0
  · refine (rtext_yes t n A c l w hA hlen hsm hn h).mono ?_
    rintro e w' ⟨rfl, hB⟩
    unfold txtR; rw [if_pos h, h]
    exact ⟨rfl, hB⟩
  · refine (rtext_no t n A c l w hA hlen h).mono ?_
    rintro e w' ⟨rfl, hB⟩
    unfold txtR; rw [if_neg h]
    exact ⟨rfl, hB⟩
def wordV (t : Int) : Value := if t < 1 ∨ 5 < t then .tuple #[.string ⟨#[]⟩, .int .i64 8] else .tuple #[.string (wordB t.toNat), .int .i64 0]
theorem word_any (t : Int) (w : World) (hw : Wds w) : Calls Tryd.prog 17 #[.int .i64 t] w (Says (wordV t) w) := by
  unfold wordV
  by_cases h : t < 1 ∨ 5 < t
  · rw [if_pos h]; exact word_none t w h
  · rw [if_neg h]
    obtain ⟨k, rfl⟩ := Int.eq_ofNat_of_zero_le (show 0 ≤ t by omega)
    exact word_some k w hw (by omega) (by omega)
theorem rword_any (t : Int) (w : World) : Calls Tryd.prog 18 #[.int .i64 t] w (Says (wordV t) w) := by
  unfold wordV
  by_cases h : t < 1 ∨ 5 < t
  · rw [if_pos h]; exact rword_none t w h
  · rw [if_neg h]
    obtain ⟨k, rfl⟩ := Int.eq_ofNat_of_zero_le (show 0 ≤ t by omega)
    exact rword_some k w (by omega) (by omega)
theorem wordV_form (t : Int) : ∃ s r, wordV t = .tuple #[.string s, .int .i64 r] := by
  unfold wordV; split <;> exact ⟨_, _, rfl⟩
theorem emptyV_form (t : Int) : ∃ k r, emptyV t = .tuple #[.agg #[.int .i64 k, .int .i64 0, .slice none 0 0], .int .i64 r] := ⟨_, _, rfl⟩

theorem overb_all (base : Nat) (A : Option Addr) (cap : Nat) (l : List Int) (w : World) (hrow : w.ownsRow base 5 1 (.slice A l.length cap) l.length (bytesOf l)) (ho : Octets l) (hl : l.length ≤ 1000) (hb : base ≤ w.heap.size) :
    Calls Tryd.prog 21 #[.slice A l.length cap] w fun e w' => e = .returned (.tuple #[]) ∧ Below base w w' := by
  rcases hrow.2 with ⟨e1, e2⟩ | ⟨g, cap', cur, e1, hg, _⟩
  · injection e1 with e3 e4 e5
    subst e3 e5
    rw [e4]
    go_enter Tryd.func21, Tryd.ntmps21
    go_wp2
    go_loopw [2] (fun i wr => i = .int .i64 0 ∧ wr = w) (fun i wr => 0)
    case atStart => exact ⟨rfl, rfl⟩
    case round =>
      obtain ⟨rfl, rfl⟩ := hrel
      go_wp2
      go_end0
      exact ⟨rfl, Below.refl _ _⟩
  · injection e1 with e3 e4 e5
    subst e3
    refine (overb_any base g cap l w hrow ho hl).mono ?_
    rintro e w' ⟨rfl, hO⟩
    exact ⟨rfl, hO.below hg hb⟩
theorem own_bytes {W : World} {base : Nat} {A : Option Addr} {c : Nat} {l : List Int} (h : W.ownsRow base 5 1 (.slice A l.length c) l.length (bytesOf l)) : BytesB W.heap.size W A l := by
  rcases h.2 with ⟨e1, e2⟩ | ⟨g, cap', cur, e1, _⟩
  · intro hl; omega
  · injection e1 with e3 e4 e5
    subst e3
    exact row_bytesB h
end Go.Proofs.YtbenfdbjpefegaaDoor
