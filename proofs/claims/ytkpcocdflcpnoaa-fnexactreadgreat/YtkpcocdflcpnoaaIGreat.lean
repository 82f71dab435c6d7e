/-
  The contract of impl's great: the one text of a right row's number.
-/
import Derived.Test.YtkpcocdflcpnoaaILen
import Derived.Test.YtkpcocdflcpnoaaNSpec
namespace Go.Proofs.Ytkpcocdflcpnoaa
open Go.RowKit

theorem bitLen_bounds {V : Nat} (h : 0 < V) : 2 ^ (bitLen V - 1) ≤ V ∧ V < 2 ^ bitLen V ∧ 0 < bitLen V := by
  have h0 : V ≠ 0 := by omega
  have e : bitLen V = V.log2 + 1 := by unfold bitLen; rw [if_neg h0]
  rw [e, Nat.add_sub_cancel]
  exact ⟨(Nat.le_log2 h0).1 (Nat.le_refl _), (Nat.log2_lt h0).1 (Nat.lt_succ_self _), by omega⟩
theorem bitLen_zero : bitLen 0 = 0 := rfl
/-- How many bytes. -/
def byteLen (V : Nat) : Nat := (bitLen V + 7) / 8
theorem byteLen_lt (V : Nat) : V < 256 ^ byteLen V := by
  rcases Nat.eq_zero_or_pos V with rfl | h
  · decide
  · have := (bitLen_bounds h).2.1
    have e : 2 ^ bitLen V ≤ 2 ^ (8 * byteLen V) := Nat.pow_le_pow_right (by omega) (by unfold byteLen; omega)
    rw [Nat.pow_mul, show (2 : Nat) ^ 8 = 256 from rfl] at e
    omega
theorem bitLen_pow {V c : Nat} (h : V < 4294967296 ^ c) : bitLen V ≤ 32 * c := by
  rcases Nat.eq_zero_or_pos V with rfl | h0
  · exact Nat.zero_le _
  · have a := (bitLen_bounds h0).1
    rw [show (4294967296 : Nat) = 2 ^ 32 from rfl, ← Nat.pow_mul] at h
    rcases Nat.lt_or_ge (32 * c) (bitLen V) with h1 | h1
    · have : 2 ^ (32 * c) ≤ 2 ^ (bitLen V - 1) := Nat.pow_le_pow_right (by omega) (by omega)
      omega
    · exact h1
theorem byteLen_ge {V : Nat} (h : 0 < byteLen V) : 256 ^ (byteLen V - 1) ≤ V := by
  have hV : 0 < V := by
    rcases Nat.eq_zero_or_pos V with rfl | h2
    · exact absurd h (by decide)
    · exact h2
  have b := bitLen_bounds hV
  have e : 2 ^ (8 * (byteLen V - 1)) ≤ 2 ^ (bitLen V - 1) := Nat.pow_le_pow_right (by omega) (by unfold byteLen at *; omega)
  rw [Nat.pow_mul] at e
  exact Nat.le_trans e b.1
/-- What the bytes hold behind i of them. -/
structure OutRel (V n i : Nat) (L : List UInt8) : Prop where
  le : i ≤ n
  eq : ∃ s : List UInt8, L = List.replicate (n - i) 0 ++ s ∧ s.length = i ∧ bN s = V % 256 ^ i
theorem OutRel.start (V n : Nat) : OutRel V n 0 (List.replicate n 0) := ⟨Nat.zero_le _, [], by simp, rfl, by rw [Nat.pow_zero, Nat.mod_one]; rfl⟩
theorem OutRel.next {V n i : Nat} {L : List UInt8} (h : OutRel V n i L) (hi : i < n) : OutRel V n (i + 1) (L.set (n - 1 - i) (UInt8.ofNat (V / 256 ^ i % 256))) := by
  obtain ⟨_, s, rfl, hs, hv⟩ := h
  refine ⟨hi, UInt8.ofNat (V / 256 ^ i % 256) :: s, ?_, by rw [List.length_cons, hs], ?_⟩
  · rw [show n - i = n - (i + 1) + 1 from by omega, show n - 1 - i = n - (i + 1) from by omega, ← List.replicate_append_replicate, List.append_assoc, List.set_append_right _ _ (by simp)]
    simp
  · rw [bN_cons, byte_nat _ (Nat.mod_lt _ (by omega)), hs, hv, Nat.pow_succ, Nat.mod_mul, Nat.mul_comm, Nat.add_comm]
theorem OutRel.length {V n i : Nat} {L : List UInt8} (h : OutRel V n i L) : L.length = n := by
  obtain ⟨h1, s, rfl, hs, _⟩ := h
  rw [List.length_append, List.length_replicate, hs]; omega
theorem OutRel.done {V : Nat} {L : List UInt8} (h : OutRel V (byteLen V) (byteLen V) L) : L = gT V := by
  have hl := h.length
  obtain ⟨_, s, hL, hs, hv⟩ := h
  rw [Nat.sub_self, List.replicate_zero, List.nil_append] at hL
  subst hL
  rw [Nat.mod_eq_of_lt (byteLen_lt V)] at hv
  rw [← hv]
  refine (gT_bN _ ?_).symm
  cases L with
  | nil => rfl
  | cons c r =>
    simp only [headOk, decide_eq_true_eq]
    intro e
    have := byteLen_ge (V := V) (by rw [← hs, List.length_cons]; omega)
    rw [← hs, List.length_cons, Nat.add_sub_cancel, ← hv, bN_cons, e, Nat.zero_mul, Nat.zero_add] at this
    have := bN_lt r
    omega
theorem bound_long {V : Nat} (h : 160 < byteLen V) : boundG (gS V) = ⟨#[]⟩ := by
  have := byteLen_ge (V := V) (by omega)
  have e : 256 ^ 160 ≤ 256 ^ (byteLen V - 1) := Nat.pow_le_pow_right (by omega) (by omega)
  rw [boundG_gS, if_neg (by unfold GB; omega), gS_zero]
theorem bound_short {V : Nat} (h : byteLen V ≤ 160) : boundG (gS V) = gS V := by
  have := byteLen_lt V
  have e : 256 ^ byteLen V ≤ 256 ^ 160 := Nat.pow_le_pow_right (by omega) h
  rw [boundG_gS, if_pos (by unfold GB; omega)]
/-- The byte that is stored. -/
theorem limb_byte {l : List Nat} (h : W.Limbs l) (i : Nat) : l.getD (i / 4) 0 / 2 ^ (8 * (i % 4)) % 256 = W.lV l / 256 ^ i % 256 := by
  have e256 : (256 : Nat) ^ i = 4294967296 ^ (i / 4) * 2 ^ (8 * (i % 4)) := by
    rw [show (256 : Nat) = 2 ^ 8 from rfl, show (4294967296 : Nat) = 2 ^ 32 from rfl, ← Nat.pow_mul, ← Nat.pow_mul, ← Nat.pow_add]; congr 1; omega
  have hd := W.lV_dig h (i / 4)
  rw [e256, ← Nat.div_div_eq_div_mul, hd]
  obtain ⟨k, hk⟩ : ∃ k, 32 = 8 * (i % 4) + 8 + k := ⟨32 - 8 * (i % 4) - 8, by omega⟩
  have e32 : (4294967296 : Nat) = 2 ^ (8 * (i % 4)) * (256 * 2 ^ k) := by
    rw [show (256 : Nat) = 2 ^ 8 from rfl, ← Nat.mul_assoc, ← Nat.pow_add, ← Nat.pow_add, ← hk]
  have hp : 0 < 2 ^ (8 * (i % 4)) := Nat.pow_pos (by omega)
  generalize W.lV l / 4294967296 ^ (i / 4 + 1) = z
  rw [e32, Nat.mul_assoc, Nat.add_mul_div_left _ _ hp, Nat.mul_assoc, Nat.add_mul_mod_self_left]

set_option maxRecDepth 8000 in
set_option maxHeartbeats 2000000 in
theorem great_any (g c : Nat) (l : List Nat) (w : World) (h : RowI w g l c) (hv : RV l c) (hc : c ≤ 81) :
    Calls Try.prog 38 #[.pointer (some ⟨g, 0, none⟩)] w fun e w' => e = .returned (.string (boundG (gS (W.lV l)))) ∧ Below w.heap.size w w' := by
  obtain ⟨i0, hi, hz0, hz1, hz2⟩ := info_parts Try.infoB
  have HB := Lib.hid (bitCount_any g c l w h hv hc)
  obtain ⟨V, hV⟩ : ∃ V, W.lV l = V := ⟨_, rfl⟩
  obtain ⟨b, hb⟩ : ∃ b, bitLen V = b := ⟨_, rfl⟩
  have hb2 : b ≤ 2592 := by
    have := bitLen_pow hv.lt
    rw [hV, hb] at this
    omega
  obtain ⟨n, hn⟩ : ∃ n, byteLen V = n := ⟨_, rfl⟩
  have hnb : (b + 7) / 8 = n := by rw [← hn]; unfold byteLen; rw [hb]
  rw [hV] at HB ⊢
  rw [hb] at HB
  have q1 : ((b : Int) + 7) / 8 = (n : Int) := by omega
  have HR := Lib.hid h
  have HL := Lib.hid hv.lim
  have HV := Lib.hid hV
  have HN := Lib.hid hn
  have hlt := h.lt
  by_cases h160 : 160 < n
  · rw [bound_long (V := V) (by rw [hn]; exact h160)]
    have h1 : (160 : Int) < (n : Int) := by omega
    clear h hv hV hb hn hnb
    go_enter Try.func38, Try.ntmps38
    go_wp2_with fail
    refine HB.out.mono ?_
    rintro e w1 ⟨rfl, k, rfl⟩
    go_wp2
    go_ret
    exact ⟨rfl, bdN (Below.refl _ _) _⟩
  · rw [bound_short (V := V) (by rw [hn]; omega)]
    have h1 : ¬ (160 : Int) < (n : Int) := by omega
    clear h hv hV hb hn hnb
    go_enter Try.func38, Try.ntmps38
    go_wp2_with fail
    refine HB.out.mono ?_
    rintro e w1 ⟨rfl, k, rfl⟩
    have HR2 : Hid (RowI (w.drewN k) g l c) := HR.out.other rfl
    have hbw : Below w.heap.size w (w.drewN k) := bdN (Below.refl _ _) _
    have hsz : (w.drewN k).heap.size = w.heap.size := rfl
    rw [← hsz] at hlt
    have HBW := Lib.hid hbw
    clear HR HB hsz hbw
    generalize w.drewN k = w1 at *
    go_wp2_with (at_make; refine wpList_make_full _ rfl _ _ 22 rfl w1.heap.size 5 i0 (.int .u8 0) 1 Try.underlying22 hi hz0 hz1 .i64 .i64 _ _ n rfl rfl (by first | rfl | omega) (by first | rfl | omega) (by rw [hz2]; omega) (by unfold maxLen; omega) (Nat.le_refl _) ?_; intro w0 hown0 hgrow0)
    have hb0 : Below w1.heap.size w1 w0 := (Below.refl _ _).grown hgrow0 (Nat.le_refl _) (fun k hk => by cases hk)
    have hO0 : w0.ownsRow w1.heap.size 5 1 (.slice (some ⟨w1.heap.size, 0, none⟩) n n) n (Lib.byteCells (List.replicate n 0)) := by
      have e : Lib.byteCells (List.replicate n 0) = (madeCells (Value.cells (.int .u8 0)) (n * 1)).toList := by
        have := toList_madeCells_one (.int .u8 0) (n * 1)
        simp only [Value.cells] at this ⊢
        rw [this]
        simp [Lib.byteCells]
      rw [e]; exact hown0
    have hR0 := Lib.hid hO0
    clear hown0 hgrow0 hO0
    have hd160 : decide (160 < (n : Int)) = false := by simpa using h1
    go_loopw [15] (fun iv wr => ∃ (i : Nat) (L : List UInt8), i ≤ n ∧ iv = .int .i64 i ∧ Hid (OutRel V n i L) ∧ Hid (wr.ownsRow w1.heap.size 5 1 (.slice (some ⟨w1.heap.size, 0, none⟩) n n) n (Lib.byteCells L)) ∧ Below w1.heap.size w1 wr) (fun iv _ => n - (intOf iv).toNat)
    case atStart => exact ⟨0, _, Nat.zero_le _, rfl, OutRel.start V n, hR0, hb0⟩
    case round =>
      clear hR0 hb0
      obtain ⟨i, L, hin, rfl, hI, hO, hb⟩ := hrel
      have hbs := hb.size
      by_cases hlt2 : i < n
      · have hlt' : (i : Int) < (n : Int) := by omega
        have HR3 := HR2.out.below hb hlt
        obtain ⟨q, hq⟩ : ∃ q, i / 4 = q := ⟨_, rfl⟩
        obtain ⟨t, ht⟩ : ∃ t, 8 * (i % 4) = t := ⟨_, rfl⟩
        obtain ⟨c1, f1⟩ := HR3.cell (k := q) (by omega)
        obtain ⟨x, hx⟩ : ∃ x, l.getD q 0 = x := ⟨_, rfl⟩
        have hxl : x < 4294967296 := by rw [← hx]; exact W.getD_lt HL.out q
        have hbyte := limb_byte HL.out i
        rw [HV.out, hq, ht, hx] at hbyte
        have hN := hI.out.next hlt2
        obtain ⟨j, hj⟩ : ∃ j, n - 1 - i = j := ⟨_, rfl⟩
        obtain ⟨u, hu⟩ : ∃ u, UInt8.ofNat (V / 256 ^ i % 256) = u := ⟨_, rfl⟩
        rw [hj, hu] at hN
        rw [hx] at c1
        obtain ⟨y, hy⟩ : ∃ y, x / 2 ^ t = y := ⟨_, rfl⟩
        rw [hy] at hbyte
        have hu2 : u.toNat = y % 256 := by rw [← hu, byte_nat _ (Nat.mod_lt _ (by omega)), hbyte]
        have hyx : y ≤ x := by rw [← hy]; exact Nat.div_le_self _ _
        have hy2 : (x : Int) / 2 ^ t = (y : Int) := by rw [← hy]; simp
        have hw : IntKind.u8.wrap (y : Int) = (u.toNat : Int) := by rw [IntKind.wrap_u8, hu2]; omega
        obtain ⟨v, hcv⟩ : ∃ v, wr.cell? ⟨w1.heap.size, j, none⟩ = some v := ⟨_, (hO.out.cellAt j (by omega)).trans (List.getElem?_eq_getElem (by rw [hO.out.1]; omega))⟩
        have hfv := hO.out.frozenAt j
        have S1 := (hO.out.stored j (.int .u8 (u.toNat : Int))).1
        rw [byteCells_set] at S1
        have HS := Lib.hid S1
        have HN2 := Lib.hid hN
        have d1 : (i : Int) / 4 = (q : Int) := by omega
        have d2 : (q : Int) < 81 := by omega
        have d3 : (n : Int) - 1 - (i : Int) = (j : Int) := by omega
        have d4 : (j : Int) < (n : Int) := by omega
        have d5 : 8 * ((i : Int) % 4) = (t : Int) := by omega
        have d6 : (t : Int) ≤ 32 := by omega
        have d7 : t ≤ 32 := by omega
        have hne : ¬ g = w1.heap.size := by omega
        clear hq ht hx hbyte hN hj hu hy hu2 hI hO S1 HR3
        go_wp2
        go_roundw
        case rel => exact ⟨i + 1, L.set j u, by omega, by go_num, HN2, HS, hb.setCell (p := ⟨w1.heap.size, j, none⟩) (Nat.le_refl _) _⟩
        case measure => simp [intOf]; omega
      · obtain rfl : i = n := by omega
        have hlt' : ¬ (i : Int) < (i : Int) := by omega
        have hL : L = gT V := by
          have := hI.out
          rw [← HN.out] at this
          exact this.done
        have hcv := conv_own (P := Try.prog) (src := 22) (dst := 9) (e := 5) Try.underlying22 Try.underlying5 Try.underlying9 hO.out
        rw [hL] at hcv
        have hbb : Below w.heap.size w wr := HBW.out.trans (hb.mono (HBW.out.size))
        clear hI hO hL
        go_wp2
        go_ret
        exact ⟨rfl, hbb⟩
end Go.Proofs.Ytkpcocdflcpnoaa
