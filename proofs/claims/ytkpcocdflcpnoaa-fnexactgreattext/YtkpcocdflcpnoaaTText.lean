/-
  The contract of spec.GreatText.
-/
import Derived.Test.YtkpcocdflcpnoaaTDec
import Derived.Test.YtkpcocdflcpnoaaTBytes
import Derived.Test.YtkpcocdflcpnoaaNDiv
import Derived.Deep.DeepCutAuto
import Derived.Deep.LoopGhost
namespace Go.Proofs.Ytkpcocdflcpnoaa
open Go.RowKit

def textG (s : ByteArray) : ByteArray := if okG s then txt (dT (gV s)) else ⟨#[]⟩
/-- What the figures hold, the lowest first, with A still to come. -/
structure Figs (V A : Nat) (O : List UInt8) : Prop where
  fig : O.all isF = true
  val : V = A * 10 ^ O.length + fV O.reverse
/-- Inside a step: q behind six figures more, n of them to come. -/
structure Six (V q L i n : Nat) (O : List UInt8) : Prop where
  fig : O.all isF = true
  len : O.length = L + i
  val : V = q * 10 ^ (L + 6) + n * 10 ^ (L + i) + fV O.reverse
  lt : n < 10 ^ (6 - i)
theorem Figs.six {V A q n : Nat} {O : List UInt8} (h : Figs V A O) (hA : A = q * 1000000 + n) (hn : n < 1000000) : Six V q O.length 0 n O := by
  refine ⟨h.fig, rfl, ?_, hn⟩
  rw [h.val, hA, Nat.add_mul, Nat.pow_add, Nat.mul_assoc, Nat.mul_comm 1000000, Nat.add_zero]
theorem Six.next {V q L i n x y : Nat} {O : List UInt8} (h : Six V q L i n O) (hi : i < 6) (hx : n % 10 = x) (hy : n / 10 = y) : Six V q L (i + 1) y (O ++ [UInt8.ofNat (48 + x)]) := by
  have hx10 : x < 10 := by omega
  refine ⟨?_, by rw [List.length_append, h.len]; rfl, ?_, ?_⟩
  · rw [List.all_append, h.fig]
    simp only [List.all_cons, List.all_nil, Bool.and_true, Bool.true_and]
    exact isF_fig x hx10
  · rw [h.val, List.reverse_append, List.reverse_singleton, List.singleton_append, fV_cons, dgv_fig x hx10, List.length_reverse, h.len, ← Nat.add_assoc L i 1, Nat.pow_succ 10 (L + i)]
    have : n * 10 ^ (L + i) = y * (10 ^ (L + i) * 10) + x * 10 ^ (L + i) := by
      rw [Nat.mul_comm (10 ^ (L + i)) 10, ← Nat.mul_assoc, ← Nat.add_mul]; congr 1; omega
    omega
  · have hl := h.lt
    rw [show 6 - i = 6 - (i + 1) + 1 from by omega, Nat.pow_succ] at hl
    omega
theorem Six.done {V q L n : Nat} {O : List UInt8} (h : Six V q L 6 n O) : Figs V q O := by
  have hl := h.lt
  have hn : n = 0 := by
    rw [Nat.sub_self, Nat.pow_zero] at hl; omega
  refine ⟨h.fig, ?_⟩
  rw [h.val, hn, h.len, Nat.zero_mul, Nat.add_zero]
theorem GB_ten {K : Nat} (hK : K = 13 * 32) : GB ≤ 10 ^ K := by
  have e1 : (256 : Nat) ^ 160 = (256 ^ 5) ^ 32 := by rw [← Nat.pow_mul]
  have e2 : (10 : Nat) ^ K = (10 ^ 13) ^ 32 := (congrArg (fun k => (10 : Nat) ^ k) hK).trans (Nat.pow_mul 10 13 32)
  unfold GB
  rw [e2, e1]
  exact Nat.pow_le_pow_left (by decide) _
theorem Figs.le {V A : Nat} {O : List UInt8} (h : Figs V A O) : A ≤ V := by
  have h2 := h.val
  have h3 : A * 1 ≤ A * 10 ^ O.length := Nat.mul_le_mul_left _ (Nat.pow_pos (by omega))
  omega
theorem Figs.len {V A : Nat} {O : List UInt8} (h : Figs V A O) (hA : 0 < A) (hV : V < GB) : O.length ≤ 416 := by
  obtain ⟨K, hK⟩ : ∃ K, K = 13 * 32 := ⟨_, rfl⟩
  have hG := GB_ten hK
  have : O.length ≤ K := by
    rcases Nat.lt_or_ge K O.length with h1 | h1
    · exfalso
      have h2 := h.val
      have h3 : 1 * 10 ^ O.length ≤ A * 10 ^ O.length := Nat.mul_le_mul_right _ hA
      have h4 : 10 ^ K ≤ 10 ^ O.length := Nat.pow_le_pow_right (by omega) (by omega)
      omega
    · exact h1
  omega
/-- Which noughts ahead are left out. -/
structure Cut (O : List UInt8) (m : Nat) : Prop where
  le : m ≤ O.length
  val : fV (O.take m).reverse = fV O.reverse
theorem Cut.next {O : List UInt8} {k : Nat} (h : Cut O (k + 1)) (hk : k < O.length) (hz : O[k].toNat = 48) : Cut O k := by
  refine ⟨by omega, ?_⟩
  have e := h.val
  rw [List.take_succ_eq_append_getElem hk, List.reverse_append, List.reverse_singleton, List.singleton_append, fV_cons, dgv_eq, hz] at e
  simpa using e
theorem Cut.done {O : List UInt8} {m V : Nat} (h : Cut O m) (hf : O.all isF = true) (hv : V = fV O.reverse) (h0 : 0 < m) (hm : m = 1 ∨ ∃ k, m = k + 1 ∧ ∃ hk : k < O.length, O[k].toNat ≠ 48) : (O.take m).reverse = dT V := by
  rw [hv, ← h.val]
  refine (dT_fV _ ?_ ?_).symm
  · rw [List.all_reverse]
    exact List.all_eq_true.2 fun x hx => List.all_eq_true.1 hf x (List.mem_of_mem_take hx)
  · have hl : (O.take m).length = m := by rw [List.length_take]; have := h.le; omega
    rcases hm with rfl | ⟨k, rfl, hk, hz⟩
    · cases hO : O.take 1 with
      | nil => rw [hO] at hl; cases hl
      | cons x r =>
        have : r = [] := List.eq_nil_of_length_eq_zero (by rw [hO] at hl; simpa using hl)
        subst this; rfl
    · rw [List.take_succ_eq_append_getElem hk, List.reverse_append, List.reverse_singleton, List.singleton_append]
      cases hr : (O.take k).reverse with
      | nil => rfl
      | cons x r =>
        rw [headF_cons _ (by simp)]; simpa using hz

set_option maxRecDepth 8000 in
set_option maxHeartbeats 4000000 in
theorem greatText_any (s : ByteArray) (w : World) : Calls Try.prog 18 #[.string s] w fun e w' => e = .returned (.string (textG s)) ∧ Below w.heap.size w w' := by
  obtain ⟨i0, hi, hz0, hz1, hz2⟩ := info_parts Try.infoB
  have HG := greatOk_any s
  unfold textG
  cases ok : okG s with
  | false =>
    rw [ok] at HG
    go_enter Try.func18, Try.ntmps18
    go_wp2_with fail
    refine (HG _).mono ?_
    rintro e w1 ⟨rfl, rfl⟩
    go_wp2
    go_ret
    exact ⟨rfl, Below.refl _ _⟩
  | true =>
    rw [ok] at HG
    have hs := okG_size ok
    have hV := gV_lt ok
    obtain ⟨V, hVV⟩ : ∃ V, gV s = V := ⟨_, rfl⟩
    have HIn := in_any s
    rw [hVV] at HIn hV ⊢
    have HVB := Lib.hid hV
    clear hVV hV
    go_enter Try.func18, Try.ntmps18
    go_wp2_with fail
    refine (HG _).mono ?_
    rintro e w1 ⟨rfl, rfl⟩
    go_wp2_with fail
    refine (HIn _ (by omega)).mono ?_
    rintro e w1 ⟨A1, ca1, la1, rfl, p1, r1, b1⟩
    have hb1 := b1.size
    have R1 := Lib.hid (r1.below ((Below.refl _ _).alloc (Nat.le_refl _) (.cells #[] 5)))
    have P1 := Lib.hid p1
    have B1 := Lib.hid (b1.alloc hb1 (.cells #[] 5))
    have O1 : Hid ((w1.alloc (.cells #[] 5)).ownsRow w.heap.size 5 1 (.slice (some ⟨w1.heap.size, 0, none⟩) 0 0) 0 (Lib.byteCells [])) := World.ownsRow_made _ #[] 0 hb1 (by decide) rfl
    clear r1 p1 b1 HG HIn
    go_wp2
    go_loopg [3, 4] V (fun gh av ov wr => ∃ (la : List Nat) (A' : Option Addr) (ca : Nat) (O : List UInt8) (Ao : Option Addr) (co : Nat), gh = lV la ∧ av = .slice A' la.length ca ∧ ov = .slice Ao O.length co ∧
      Hid (InP (lV la) la) ∧ Hid (RowN wr w.heap.size A' ca la) ∧ Hid (wr.ownsRow w.heap.size 5 1 (.slice Ao O.length co) O.length (Lib.byteCells O)) ∧ Hid (Figs V (lV la) O) ∧ Hid (Below w.heap.size w wr) ∧ Hid (O.length ≤ 422))
    case atStart =>
      refine ⟨la1, A1, ca1, [], some ⟨w1.heap.size, 0, none⟩, 0, P1.out.2.2.symm, rfl, rfl, ⟨P1.out.1, P1.out.2.1, rfl⟩, R1, O1, ⟨rfl, ?_⟩, B1, Nat.zero_le _⟩
      rw [P1.out.2.2]; simp [fV]
    case round =>
      clear R1 P1 B1 O1
      obtain ⟨la, A', ca, O, Ao, co, rfl, rfl, rfl, hP, hR, hO, hF, hB, hO4⟩ := hrel
      have hbs := hB.out.size
      by_cases h0 : la.length = 0
      · have HF0 : Hid (O.all isF = true ∧ V = fV O.reverse) := ⟨hF.out.fig, by have := hF.out.val; rw [List.eq_nil_of_length_eq_zero h0] at this; simpa [lV] using this⟩
        have h0' : ¬ (0 : Int) < (la.length : Int) := by omega
        have hd0 : decide (0 < la.length) = false := decide_eq_false (by omega)
        obtain ⟨N, hN⟩ : ∃ N, O.length = N := ⟨_, rfl⟩
        rw [hN] at hO hO4 ⊢
        have HN := Lib.hid hN
        have hN4 : N ≤ 422 := hO4.out
        clear hP hR hF hN h0 hO4
        go_upto_block 4 with fail
        go_cut [9] (fun nv wc => ∃ m : Nat, nv = .int .i64 m ∧ m ≤ N ∧ wc = wr ∧ Hid ((m = 0 ∧ V = 0) ∨ (0 < m ∧ (O.take m).reverse = dT V)))
        case first =>
          go_wp2
          go_loop [9] (fun nv => ∃ m : Nat, m ≤ N ∧ nv = .int .i64 m ∧ Hid (Cut O m) ∧ Hid (N = 0 ∨ 0 < m)) (fun nv => (intOf nv).toNat)
          case atStart => exact ⟨N, Nat.le_refl _, rfl, ⟨by rw [HN.out]; exact Nat.le_refl _, by rw [List.take_of_length_le (by rw [HN.out]; exact Nat.le_refl _)]⟩, Nat.eq_zero_or_pos N⟩
          case round =>
            obtain ⟨m, hm, rfl, hC, hp⟩ := hrel
            by_cases h1 : 1 < m
            · obtain ⟨k, rfl⟩ : ∃ k, m = k + 1 := ⟨m - 1, by omega⟩
              have hk : k < O.length := by rw [HN.out]; omega
              obtain ⟨g, cp, hv, _, _⟩ := World.ownsRow.form hO.out (by omega)
              injection hv with e1 e2 e3
              subst e1 e3
              have hcell : wr.cell? ⟨g, k, none⟩ = some (.int .u8 (O[k].toNat : Int)) := by
                rw [hO.out.cellAt k (by omega)]
                simp [Lib.byteCells, hk]
              have h1' : (1 : Int) < ((k + 1 : Nat) : Int) := by omega
              have hkn : (k : Int) < (N : Int) := by omega
              by_cases hz : O[k].toNat = 48
              · have hz' : ((O[k].toNat : Int) == 48) = true := by simp [hz]
                have hC2 := Lib.hid (hC.out.next hk hz)
                clear hz e2
                go_wp2
                go_round
                case rel => exact ⟨k, by omega, by go_num, hC2, .inr (by omega)⟩
                case measure => simp [intOf]
              · have hz' : ((O[k].toNat : Int) == 48) = false := by
                  have : ¬ ((O[k].toNat : Int) = 48) := by omega
                  simpa using this
                have hE := Lib.hid (hC.out.done HF0.out.1 HF0.out.2 (by omega) (.inr ⟨k, rfl, hk, hz⟩))
                clear hz e2
                go_wp2
                go_meet
                exact ⟨k + 1, by go_num, by omega, rfl, .inr ⟨by omega, hE.out⟩⟩
            · have h1' : ¬ (1 : Int) < (m : Int) := by omega
              have hE : Hid ((m = 0 ∧ V = 0) ∨ (0 < m ∧ (O.take m).reverse = dT V)) := by
                rcases Nat.eq_zero_or_pos m with h | h
                · left
                  refine ⟨h, ?_⟩
                  have hN0 : O = [] := List.eq_nil_of_length_eq_zero (by rw [HN.out]; rcases hp.out with e | e <;> omega)
                  rw [HF0.out.2, hN0]; rfl
                · exact .inr ⟨h, hC.out.done HF0.out.1 HF0.out.2 h (.inl (by omega))⟩
              go_wp2
              go_meet
              exact ⟨m, rfl, hm, rfl, hE⟩
        case rest =>
          obtain ⟨m, rfl, hm, rfl, hE⟩ := hcut
          clear HF0
          by_cases hm0 : m = 0
          · have hV0 : V = 0 := by
              rcases hE.out with h | h
              · exact h.2
              · omega
            have hm0' : ((m : Int) == 0) = true := by simp [hm0]
            have HT : Hid (txt (dT V) = ⟨#[48]⟩) := by show _ = _; rw [hV0, dT_one (by omega)]; rfl
            clear hm0 hV0 hE
            go_wp2
            go_ret
            exact ⟨by rw [HT.out]; rfl, hB.out⟩
          · have hm0' : ((m : Int) == 0) = false := by simpa using hm0
            have HT : Hid ((O.take m).reverse = dT V) := by
              rcases hE.out with h | h
              · exact absurd h.1 hm0
              · exact h.2
            have hmp : 0 < m := by omega
            clear hE hm0
            go_wp2_with (at_make; refine wpList_make_full _ rfl _ _ 22 rfl wc.heap.size 5 i0 (.int .u8 0) 1 Try.underlying22 hi hz0 hz1 .i64 .i64 _ _ m rfl rfl (by first | rfl | omega) (by first | rfl | omega) (by rw [hz2]; omega) (by unfold maxLen; omega) (Nat.le_refl _) ?_; intro w0 hown0 hgrow0)
            have hb0 : Below wc.heap.size wc w0 := (Below.refl _ _).grown hgrow0 (Nat.le_refl _) (fun k hk => by cases hk)
            have hR0 := Lib.hid (made_bytes hown0)
            have hmO : m ≤ O.length := by rw [HN.out]; exact hm
            obtain ⟨T, hT⟩ : ∃ T, O.take m = T := ⟨_, rfl⟩
            have HTl : Hid (T.length = m) := by show _ = _; rw [← hT, List.length_take]; omega
            have HTat : Hid (∀ j (hj : j < T.length), ∃ hj2 : j < O.length, T[j] = O[j]) := fun j hj => by
              have : j < m := by rw [← HTl.out]; exact hj
              refine ⟨by omega, ?_⟩
              subst hT
              simp
            rw [hT] at HT
            obtain ⟨g, cp, hv, hg1, hg2⟩ := World.ownsRow.form hO.out (by omega)
            injection hv with e1 e2 e3
            subst e1 e3
            have HmO := Lib.hid hmO
            clear hown0 hgrow0 hT e2 hmO
            go_loopw [11] (fun iv wx => ∃ (i : Nat), i ≤ m ∧ iv = .int .i64 i ∧ Hid (wx.ownsRow wc.heap.size 5 1 (.slice (some ⟨wc.heap.size, 0, none⟩) m m) m (Lib.byteCells (T.reverse.take i ++ List.replicate (m - i) 0))) ∧ Below wc.heap.size wc wx) (fun iv _ => m - (intOf iv).toNat)
            case atStart => exact ⟨0, Nat.zero_le _, rfl, by simpa using hR0, hb0⟩
            case round =>
              clear hR0 hb0
              obtain ⟨i, him, rfl, hU, hb⟩ := hrel
              have hbs3 := hb.size
              by_cases hlt : i < m
              · have hlt' : (i : Int) < (m : Int) := by omega
                obtain ⟨v, hcv⟩ : ∃ v, wr.cell? ⟨wc.heap.size, i, none⟩ = some v := ⟨_, (hU.out.cellAt i (by omega)).trans (List.getElem?_eq_getElem (by rw [hU.out.1]; omega))⟩
                have hfv := hU.out.frozenAt i
                obtain ⟨j, hj⟩ : ∃ j, m - 1 - i = j := ⟨_, rfl⟩
                have hjm : j < m := by omega
                have hji : (m : Int) - 1 - (i : Int) = (j : Int) := by omega
                have hjT : j < T.length := by rw [HTl.out]; exact hjm
                obtain ⟨hjO, eTO⟩ := HTat.out j hjT
                obtain ⟨x, hx⟩ : ∃ x, T[j] = x := ⟨_, rfl⟩
                have hcell : wr.cell? ⟨g, j, none⟩ = some (.int .u8 (x.toNat : Int)) := by
                  rw [(own_below hO.out hb).cellAt j (by omega), ← hx, eTO]
                  simp [Lib.byteCells, hjO]
                have S1 := (hU.out.stored i (.int .u8 (x.toNat : Int))).1
                have tn := turn_next (s := T) (i := i) (by rw [HTl.out]; exact hlt)
                have ej : T[T.length - 1 - i]'(by rw [HTl.out]; omega) = x := by
                  have : T.length - 1 - i = j := by rw [HTl.out]; exact hj
                  simp only [this]; exact hx
                rw [ej] at tn
                simp only [HTl.out] at tn
                rw [byteCells_set, tn] at S1
                have HS := Lib.hid S1
                have hj2 : (j : Int) < (N : Int) := by omega
                clear hU S1 tn ej hj eTO hjO hx hjT
                go_wp2
                go_roundw
                case rel => exact ⟨i + 1, by omega, by go_num, HS, hb.setCell (p := ⟨wc.heap.size, i, none⟩) (Nat.le_refl _) _⟩
                case measure => simp [intOf]; omega
              · obtain rfl : i = m := by omega
                have hlt' : ¬ (i : Int) < (i : Int) := by omega
                have hO2 := hU.out
                rw [Nat.sub_self, List.replicate_zero, List.append_nil, List.take_of_length_le (by rw [List.length_reverse, HTl.out]; exact Nat.le_refl _), HT.out] at hO2
                have hcv := conv_own (P := Try.prog) (src := 22) (dst := 9) (e := 5) Try.underlying22 Try.underlying5 Try.underlying9 hO2
                clear hU hO2
                go_wp2
                go_ret
                exact ⟨rfl, bt hB.out hb⟩
      · have hAp : 0 < lV la := by
          have hne : la ≠ [] := fun e => h0 (by rw [e]; rfl)
          have := hP.out.2.1.ge hne
          exact Nat.lt_of_lt_of_le (Nat.pow_pos (by omega)) this
        have hOl := hF.out.len hAp HVB.out
        have h0' : (0 : Int) < (la.length : Int) := by omega
        have hll : la.length ≤ 54 := hP.out.len (Nat.lt_of_le_of_lt hF.out.le (Nat.lt_of_lt_of_le HVB.out GB_54))
        have hrow := one_row w wr hB.out 1000000
        have hal : Below wr.heap.size wr (wr.alloc (.cells #[.int .i64 ((1000000 : Nat) : Int)] 3)) := (Below.refl _ _).alloc (Nat.le_refl _) _
        have hDv := div_any w.heap.size w.heap.size ca 1 A' (some ⟨wr.heap.size, 0, none⟩) la [1000000] _ (hR.out.below hal) hrow hP.out.1 (fun x hx => by (have h : x = 1000000 := by simpa using hx); omega) hP.out.2.1 (.inr ⟨[], 1000000, rfl, by omega⟩) (by omega) (by decide)
        have e6 : lV [1000000] = 1000000 := by simp [lV]
        rw [e6] at hDv
        have HDv := Lib.hid hDv
        have HOa := Lib.hid (own_below hO.out hal)
        have HBa := Lib.hid (bt hB.out hal)
        clear hDv hrow hal hO hB hR e6 hP
        go_wp2_with fail
        refine HDv.out.mono ?_
        rintro e w2 ⟨Q, cq, lq, R, cr, lr, rfl, pq, pr, rq, rr, b2⟩
        have HQ := Lib.hid pq
        have hn1 : lr.length ≤ 1 := pr.len (k := 1) (by have := Nat.mod_lt (lV la) (show 0 < 1000000 by omega); omega)
        have HN := Lib.hid pr.2.2
        have HRR := Lib.hid rr
        have hBs := HBa.out.size
        have HO2 := Lib.hid (own_below HOa.out b2)
        have HB2 := Lib.hid (bt HBa.out b2)
        have HQR := Lib.hid (RowN.base rq hBs)
        have HAp : Hid ((Value.slice Q lq.length cq).ownBlock = none ∨ (Value.slice Q lq.length cq).ownBlock ≠ (Value.slice Ao O.length co).ownBlock) := by
          cases hq : (Value.slice Q lq.length cq).ownBlock with
          | none => exact .inl rfl
          | some k =>
            right
            intro e
            have h1 := (World.ownsRow.lt rq k hq).1
            have h2 := (World.ownsRow.lt HOa.out k e.symm).2
            omega
        have HSix := Lib.hid (hF.out.six (q := lV la / 1000000) (n := lV la % 1000000) (by omega) (Nat.mod_lt _ (by omega)))
        clear pq pr rq rr b2 HDv HOa HBa hF
        go_upto_if 29 with (fail)
        go_cut [7] (fun nv wc => nv = .int .i64 ((lV la % 1000000 : Nat) : Int) ∧ wc = w2)
        case first =>
          by_cases hr0 : lr.length = 0
          · have hr0' : ¬ (0 : Int) < (lr.length : Int) := by omega
            have e0 : lV la % 1000000 = 0 := by rw [← HN.out, List.eq_nil_of_length_eq_zero hr0]; rfl
            have E0 := Lib.hid e0
            clear hr0 e0
            go_wp2
            go_meet
            exact ⟨by rw [E0.out]; rfl, rfl⟩
          · have hr0' : (0 : Int) < (lr.length : Int) := by omega
            obtain ⟨g, rfl, _, _, hc, _⟩ := HRR.out.at_ (k := 0) (by omega)
            have e0 : lr[0]'(by omega) = lV la % 1000000 := by
              rw [← HN.out]
              cases lr with
              | nil => exact absurd rfl hr0
              | cons x r =>
                have : r = [] := List.eq_nil_of_length_eq_zero (by simpa using hn1)
                subst this
                simp [lV]
            go_wp2
            go_meet
            exact ⟨congrArg _ (by omega), rfl⟩
        case rest =>
          obtain ⟨rfl, rfl⟩ := hcut
          clear HRR HN hn1
          have hlt : lV la / 1000000 < lV la := Nat.div_lt_self hAp (by omega)
          obtain ⟨q, hq⟩ : ∃ q, lV la / 1000000 = q := ⟨_, rfl⟩
          obtain ⟨n, hn⟩ : ∃ n, lV la % 1000000 = n := ⟨_, rfl⟩
          have hn6 : n < 1000000 := by omega
          rw [hq] at HQ hlt
          rw [hq, hn] at HSix
          rw [hn]
          clear hq hn
          obtain ⟨L, hL⟩ : ∃ L, O.length = L := ⟨_, rfl⟩
          rw [hL] at HSix hOl
          clear hL
          go_wp2
          go_loopw [4, 7, 8] (fun ov nv iv wx => ∃ (i n' : Nat) (O' : List UInt8) (Ao' : Option Addr) (co' : Nat), i ≤ 6 ∧ n' < 1000000 ∧ iv = .int .i64 i ∧ nv = .int .i64 n' ∧ ov = .slice Ao' O'.length co' ∧
            Hid (Six V q L i n' O') ∧ Hid (wx.ownsRow w.heap.size 5 1 (.slice Ao' O'.length co') O'.length (Lib.byteCells O')) ∧ Hid (RowN wx w.heap.size Q cq lq) ∧ Hid (Below w.heap.size w wx) ∧
            Hid ((Value.slice Q lq.length cq).ownBlock = none ∨ (Value.slice Q lq.length cq).ownBlock ≠ (Value.slice Ao' O'.length co').ownBlock)) (fun _ _ iv _ => 6 - (intOf iv).toNat)
          case atStart => exact ⟨0, n, O, Ao, co, by omega, hn6, rfl, rfl, rfl, HSix, HO2, HQR, HB2, HAp⟩
          case round =>
            clear HSix HO2 HQR HB2 HAp
            obtain ⟨i, m, O', Ao', co', hi6, hm6, rfl, rfl, rfl, HS, HO, HR, HB, HA⟩ := hrel
            by_cases hlast : i < 6
            · obtain ⟨x, hx⟩ : ∃ x, m % 10 = x := ⟨_, rfl⟩
              obtain ⟨y, hy⟩ : ∃ y, m / 10 = y := ⟨_, rfl⟩
              have hx10 : x < 10 := by omega
              have hy6 : y < 1000000 := by omega
              have HS2 := Lib.hid (HS.out.next hlast hx hy)
              have hOl2 : O'.length = L + i := HS.out.len
              have hxI : (m : Int) % 10 = (x : Int) := by omega
              have hyI : (m : Int) / 10 = (y : Int) := by omega
              have hbs2 := HB.out.size
              have hil : (i : Int) < 6 := by omega
              obtain ⟨k, hk⟩ : ∃ k, O'.length = k := ⟨_, rfl⟩
              rw [hk] at HO HA hOl2 ⊢
              have HK := Lib.hid hk
              have hk1 : k ≤ 1000 := by omega
              clear HS hk hx hy hOl2
              go_wp2_with (at_builtin; refine wpList_append_lies _ rfl (.tmp 37) (.tmp 42) _ rfl w.heap.size 5 i0 (.int .u8 0) 1 1 Try.underlying22 hi hz0 hz1 hz2 rfl (by omega) _ k _ rfl (World.ownsRow.alloc HO.out _) ⟨wr.heap.size, 0, none⟩ 1 1 [.int .u8 (48 + (x : Int))] rfl rfl (World.news_of_block (cs := #[.int .u8 (48 + (x : Int))]) (t := 5) (fr := (0, 0)) (heap_alloc_new wr _)) (by simp [Value.oneCell']) (by omega) (by unfold maxLen; omega) (by omega) (by simp; omega) _ rfl ?_)
              intro g cp w3 hown1 hgrow hat hlt1
              have HB3 := Lib.hid (bytes_grown HB.out HO.out hgrow)
              have hl : (O' ++ [UInt8.ofNat (48 + x)]).length = k + 1 := by rw [List.length_append, HK.out]; rfl
              have HO3 : Hid (w3.ownsRow w.heap.size 5 1 (.slice (some ⟨g, 0, none⟩) (O' ++ [UInt8.ofNat (48 + x)]).length cp) (O' ++ [UInt8.ofNat (48 + x)]).length (Lib.byteCells (O' ++ [UInt8.ofNat (48 + x)]))) := by
                show World.ownsRow _ _ _ _ _ _ _
                rw [hl, byteCells_snoc, byte_nat _ (by omega)]
                exact hown1
              have HR3 : Hid (RowN w3 w.heap.size Q cq lq) := World.ownsRow.kept (World.ownsRow.alloc HR.out _) hgrow HA.out
              have HA3 : Hid ((Value.slice Q lq.length cq).ownBlock = none ∨ (Value.slice Q lq.length cq).ownBlock ≠ (Value.slice (some ⟨g, 0, none⟩) (O' ++ [UInt8.ofNat (48 + x)]).length cp).ownBlock) := by
                rcases HA.out with h | h
                · exact .inl h
                · right
                  rcases hat with h2 | h2
                  · intro e; exact h (e.trans h2.symm)
                  · intro e
                    have := (World.ownsRow.lt HR.out g e).2
                    rw [h2] at this
                    omega
              have HL := Lib.hid hl
              clear hown1 hgrow hat hlt1 HO HR HA hl
              go_wp2
              go_roundw
              case rel => exact ⟨i + 1, y, O' ++ [UInt8.ofNat (48 + x)], some ⟨g, 0, none⟩, cp, by omega, hy6, by go_num, rfl, by rw [HL.out], HS2, HO3, HR3, HB3, HA3⟩
              case measure => simp [intOf]; omega
            · obtain rfl : i = 6 := by omega
              have HF := Lib.hid HS.out.done
              have hOl6 : O'.length = L + 6 := HS.out.len
              clear HS
              have hO6 := Lib.hid (show O'.length ≤ 422 by omega)
              clear hOl6
              go_wp2
              go_roundg q
              case measure => exact hlt
              case rel => exact ⟨lq, Q, cq, O', Ao', co', HQ.out.2.2.symm, rfl, rfl, ⟨HQ.out.1, HQ.out.2.1, rfl⟩, HR, HO, by rw [HQ.out.2.2]; exact HF, HB, hO6⟩
end Go.Proofs.Ytkpcocdflcpnoaa
