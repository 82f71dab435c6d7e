/-
  The contracts of spec.l02Div at every two rows, and of spec.DivGreat.
-/
import Derived.Test.YtpgckdhnmhjkhaaNDivD
namespace Go.Proofs.Ytpgckdhnmhjkhaa
open Go.RowKit

theorem div_any (b1 b2 ca cb : Nat) (A B : Option Addr) (la lb : List Nat) (w : World) (ha : RowN w b1 A ca la) (hb : RowN w b2 B cb lb) (La : Limbs la) (Lb : Limbs lb) (ta : Trimmed la) (tb : Trimmed lb) (hla : la.length ≤ 400000) (h0 : 0 < lV lb) :
    Calls Try.prog 59 #[.slice A la.length ca, .slice B lb.length cb] w (DivPost (lV la) (lV lb) w) := by
  by_cases hlt : lV la < lV lb
  · exact div_less b1 b2 ca cb A B la lb w ha hb La Lb ta tb hla hlt
  by_cases h1 : lb.length = 1
  · obtain ⟨d, rfl⟩ : ∃ d, lb = [d] := by
      cases lb with
      | nil => cases h1
      | cons d r =>
        have : r = [] := List.eq_nil_of_length_eq_zero (by simpa using h1)
        exact ⟨d, by rw [this]⟩
    have hv : lV [d] = d := by simp [lV]
    rw [hv] at h0 hlt ⊢
    exact div_one b1 b2 ca cb d A B la w ha hb La Lb ta tb hla (by omega) h0
  · have h2 : 2 ≤ lb.length := by
      rcases Nat.lt_or_ge lb.length 2 with h | h
      · exfalso
        have : lb = [] := List.eq_nil_of_length_eq_zero (by omega)
        rw [this] at h0
        exact absurd h0 (by simp [lV])
      · exact h
    exact div_many b1 b2 ca cb A B la lb w ha hb La Lb ta tb hla (by omega) h2

def divB (a b : ByteArray) : Bool := okT a b && decide (0 < gV b)
def divQ (a b : ByteArray) : ByteArray := if divB a b then gS (gV a / gV b) else ⟨#[]⟩
def divR (a b : ByteArray) : ByteArray := if divB a b then gS (gV a % gV b) else ⟨#[]⟩
theorem gV_empty {s : ByteArray} (h : s.size = 0) : gV s = 0 := by
  have : s.data.toList = [] := List.eq_nil_of_length_eq_zero (by simpa using h)
  unfold gV; rw [this]; rfl
theorem gV_pos {s : ByteArray} (ok : okG s = true) (h : 0 < s.size) : 0 < gV s := Nat.lt_of_lt_of_le (Nat.pow_pos (by omega)) (gV_ge ok h)
def DivGPost (a b : ByteArray) (w : World) (e : Ending) (w' : World) : Prop := e = .returned (.tuple #[.string (divQ a b), .string (divR a b), .bool (divB a b)]) ∧ Below w.heap.size w w'
theorem divG_no {a b : ByteArray} (h : divB a b = false) {w w' : World} (hb : Below w.heap.size w w') : DivGPost a b w (.returned (.tuple #[.string ⟨#[]⟩, .string ⟨#[]⟩, .bool false])) w' := ⟨by unfold divQ divR; rw [h]; rfl, hb⟩
theorem divG_yes {a b : ByteArray} (h : divB a b = true) {w w' : World} (hb : Below w.heap.size w w') : DivGPost a b w (.returned (.tuple #[.string (gS (gV a / gV b)), .string (gS (gV a % gV b)), .bool true])) w' := ⟨by unfold divQ divR; rw [h]; rfl, hb⟩
set_option maxHeartbeats 1000000 in
theorem divGreat_any (a b : ByteArray) (w : World) : Calls Try.prog 36 #[.string a, .string b] w (DivGPost a b w) := by
  have HA := greatOk_any a
  have HB := greatOk_any b
  cases ha : okG a with
  | false =>
    have N := Lib.hid (divG_no (a := a) (b := b) (w := w) (w' := w) (by unfold divB okT; rw [ha]; rfl) (Below.refl _ _))
    rw [ha] at HA
    go_enter Try.func36, Try.ntmps36
    go_wp2_with fail
    refine (HA _).mono ?_
    rintro e w1 ⟨rfl, rfl⟩
    go_wp2
    go_ret3
    exact N.out
  | true =>
    cases hb : okG b with
    | false =>
      have N := Lib.hid (divG_no (a := a) (b := b) (w := w) (w' := w) (by unfold divB okT; rw [ha, hb]; rfl) (Below.refl _ _))
      rw [ha] at HA
      rw [hb] at HB
      go_enter Try.func36, Try.ntmps36
      go_wp2_with fail
      refine (HA _).mono ?_
      rintro e w1 ⟨rfl, rfl⟩
      go_wp2_with fail
      refine (HB _).mono ?_
      rintro e w1 ⟨rfl, rfl⟩
      go_wp2
      go_ret3
      exact N.out
    | true =>
      have sa := okG_size ha
      have sb := okG_size hb
      rw [ha] at HA
      rw [hb] at HB
      by_cases h0 : b.size = 0
      · have N := Lib.hid (divG_no (a := a) (b := b) (w := w) (w' := w) (by unfold divB okT; rw [ha, hb, gV_empty h0]; rfl) (Below.refl _ _))
        have he : b.toList = [] := by have := isEmpty_size (s := b); rw [h0] at this; simpa using this
        go_enter Try.func36, Try.ntmps36
        go_wp2_with fail
        refine (HA _).mono ?_
        rintro e w1 ⟨rfl, rfl⟩
        go_wp2_with fail
        refine (HB _).mono ?_
        rintro e w1 ⟨rfl, rfl⟩
        go_wp2
        go_ret3
        exact N.out
      have he : b.toList.isEmpty = false := by rw [isEmpty_size]; simpa using h0
      have hp := gV_pos hb (by omega)
      have hB : divB a b = true := by unfold divB okT; rw [ha, hb]; simpa using hp
      go_enter Try.func36, Try.ntmps36
      go_wp2_with fail
      refine (HA _).mono ?_
      rintro e w1 ⟨rfl, rfl⟩
      go_wp2_with fail
      refine (HB _).mono ?_
      rintro e w1 ⟨rfl, rfl⟩
      go_wp2_with fail
      refine (in_any a _ (by omega)).mono ?_
      rintro e w1 ⟨A, ca, la, rfl, pa, ra, b1⟩
      go_wp2_with fail
      refine (in_any b _ (by omega)).mono ?_
      rintro e w2 ⟨B, cb, lb, rfl, pb, rb, b2⟩
      have ra2 := ra.below b2
      have b3 := bt b1 b2
      have la54 := pa.len54 ha
      have hc := div_any _ _ ca cb A B la lb w2 ra2 rb pa.1 pb.1 pa.2.1 pb.2.1 (by omega) (by rw [pb.2.2]; exact hp)
      rw [pa.2.2, pb.2.2] at hc
      have HC := Lib.hid hc
      clear pa pb ra rb ra2 b1 b2 hc
      go_wp2_with fail
      refine HC.out.mono ?_
      rintro e w3 ⟨Q, cq, lq, R, cr, lr, rfl, pq, pr, rq, rr, b4⟩
      have b5 := bt b3 b4
      have lq54 : lq.length ≤ 54 := pq.len (Nat.lt_of_le_of_lt (Nat.div_le_self _ _) (Nat.lt_of_lt_of_le (gV_lt ha) GB_54))
      have lr54 : lr.length ≤ 54 := pr.len (Nat.lt_of_le_of_lt (Nat.mod_le _ _) (Nat.lt_of_lt_of_le (gV_lt ha) GB_54))
      have H1 := Lib.hid (out_any _ _ _ _ _ rq pq.1 (by omega))
      have H2 := Lib.hid (fun w' (hb : Below w3.heap.size w3 w') => out_any _ _ _ _ w' (rr.below hb) pr.1 (by omega))
      have E1 := Lib.hid pq.2.2
      have E2 := Lib.hid pr.2.2
      clear HC pq pr rq rr b4 b3
      go_wp2_with fail
      refine H1.out.mono ?_
      rintro e w4 ⟨rfl, b6⟩
      go_wp2_with fail
      refine (H2.out _ b6).mono ?_
      rintro e w5 ⟨rfl, b7⟩
      have Z := divG_yes hB (bt (bt b5 b6) b7)
      rw [← E1.out, ← E2.out] at Z
      have HZ := Lib.hid Z
      clear Z
      go_wp2
      go_ret3
      exact HZ.out
end Go.Proofs.Ytpgckdhnmhjkhaa
