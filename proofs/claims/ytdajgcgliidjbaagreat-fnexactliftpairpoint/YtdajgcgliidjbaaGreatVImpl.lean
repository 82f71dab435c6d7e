import Derived.Test.YtdajgcgliidjbaaGreatVRoot
import Derived.Test.YtdajgcgliidjbaaGreatQSpec
import Derived.Test.YtdajgcgliidjbaaGreatUOps
import Derived.Test.YtdajgcgliidjbaaGreatILow
import Derived.Test.YtdajgcgliidjbaaGreatJRootA
import Derived.Test.YtdajgcgliidjbaaGreatJPairM
set_option maxRecDepth 8000
set_option maxHeartbeats 4000000
namespace Go.Proofs.YtdajgcgliidjbaaGreat
open Go.RowKit
theorem bit_two {p : ByteArray} (h : primeB p = true) : bitG p 0 = 1 ∧ bitG p 1 = ((gV p / 2 % 2 : Nat) : Int) := by
 obtain ⟨ok, pp⟩ := primeB_p h
 have h3 := pp.ge
 have ho := pp.prm.odd h3
 have hl := lt_bits (gV p)
 have h2 : 1 < bitLen (gV p) := by
  rcases Nat.lt_or_ge 1 (bitLen (gV p)) with h | h
  ·exact h
  ·exfalso
   have := Nat.pow_le_pow_right (show 0 < 2 by omega) h
   omega
 have e0 := bit_pow ok (i := 0) (by omega)
 have e1 := bit_pow ok (i := 1) h2
 rw [Nat.pow_zero, Nat.div_one, ho] at e0
 rw [Nat.pow_one] at e1
 exact ⟨e0, e1⟩
theorem pprime_bits {p : ByteArray} (h : primeB p = true) : decide (bitG p 1 = 1) = decide (gV p % 4 = 3) := by
 obtain ⟨_, pp⟩ := primeB_p h
 have ho := pp.prm.odd pp.ge
 rw [(bit_two h).2]
 by_cases h4 : gV p % 4 = 3
 ·rw [decide_eq_true h4, decide_eq_true (by omega)]
 ·rw [decide_eq_false h4, decide_eq_false (by omega)]
theorem pairPrime_any (p : ByteArray) (w : World) : Calls Tryz.prog 131 #[.string p] w fun e w' => e = .returned (.bool (pprimeB p)) ∧ Below w.heap.size w w' := by
 have HP := Lib.hid (primeOk_any p)
 unfold pprimeB
 cases hp : primeB p with
 | false =>
  rw [hp] at HP
  rw [Bool.false_and]
  go_enter Tryz.func131, Tryz.ntmps131
  go_wp2_with fail
  refine (HP.out _).mono ?_
  rintro e w1 ⟨rfl, b1⟩
  go_wp2
  go_ret
  exact ⟨rfl, b1⟩
 | true =>
  rw [hp] at HP
  have E := pprime_bits hp
  have H0 := Lib.hid (fun w => bitOf_any p 0 w (by decide))
  have H1 := Lib.hid (fun w => bitOf_any p 1 w (by decide))
  rw [(bit_two hp).1] at H0
  rw [Bool.true_and, ← E]
  generalize bitG p 1 = k at *
  clear hp E
  go_enter Tryz.func131, Tryz.ntmps131
  go_wp2_with fail
  refine (HP.out _).mono ?_
  rintro e w1 ⟨rfl, b1⟩
  have HB1 := Lib.hid b1
  clear b1
  go_wp2_with fail
  refine (H0.out _).mono ?_
  rintro e w2 ⟨rfl, rfl⟩
  go_wp2_with fail
  refine (H1.out _).mono ?_
  rintro e w3 ⟨rfl, rfl⟩
  go_wp2
  go_ret
  exact ⟨rfl, HB1.out⟩
theorem pairGreater_any (x : Pt) (p : ByteArray) (w : World) : Calls Tryz.prog 16 #[.agg (aggT x), .string p] w fun e w' => e = .returned (.bool (pgtB x p)) ∧ Below w.heap.size w w' := by
 have HP := Lib.hid (pairOk_any x p)
 have HN := Lib.hid (agg_new w x 25)
 cases hx : pairB x p with
 | false =>
  rw [hx] at HP
  rw [pgt_no hx]
  clear hx
  go_enter Tryz.func16, Tryz.ntmps16
  go_wp2_with (first | refine load_p rfl (.tmp 2) rfl w.heap.size x rfl HN.out.1 ?_)
  generalize w.alloc (.cells (aggT x) 25) = w0 at *
  refine (HP.out _).mono ?_
  rintro e w1 ⟨rfl, b1⟩
  have HB := Lib.hid (bt HN.out.2 b1)
  clear b1 HN HP
  go_wp2
  go_ret
  exact ⟨rfl, HB.out⟩
 | true =>
  rw [hx] at HP
  rw [(pgt_parts hx).1]
  have G1 := Lib.hid (greater_any x.1 p)
  have G2 := Lib.hid (greater_any x.2 p)
  clear hx
  generalize greaterB x.1 p = r1 at *
  cases hg : greaterB x.2 p with
  | true =>
   rw [hg] at G2
   rw [Bool.true_or]
   clear hg
   go_enter Tryz.func16, Tryz.ntmps16
   go_wp2_with (first | refine load_p rfl (.tmp 2) rfl w.heap.size x rfl HN.out.1 ?_)
   generalize w.alloc (.cells (aggT x) 25) = w0 at *
   refine (HP.out _).mono ?_
   rintro e w1 ⟨rfl, b1⟩
   have hb1 : w1.heap[w.heap.size]? = some (.cells (aggT x) 25 (0, 0)) := (b1.block _ (Array.getElem?_eq_some_iff.1 HN.out.1).1).trans HN.out.1
   obtain ⟨c1, c2⟩ := agg_cells hb1
   have HB1 := Lib.hid (bt HN.out.2 b1)
   clear b1 hb1 HN HP
   go_wp2_with fail
   refine (G2.out _).mono ?_
   rintro e w2 ⟨rfl, b2⟩
   have HB2 := Lib.hid (bt HB1.out b2)
   clear b2 HB1 c1 c2 G1 G2
   go_wp2
   go_ret
   exact ⟨rfl, HB2.out⟩
  | false =>
   rw [hg] at G2
   rw [Bool.false_or]
   clear hg
   cases he : x.2.toList.isEmpty with
   | false =>
    rw [Bool.false_and]
    go_enter Tryz.func16, Tryz.ntmps16
    go_wp2_with (first | refine load_p rfl (.tmp 2) rfl w.heap.size x rfl HN.out.1 ?_)
    generalize w.alloc (.cells (aggT x) 25) = w0 at *
    refine (HP.out _).mono ?_
    rintro e w1 ⟨rfl, b1⟩
    have hb1 : w1.heap[w.heap.size]? = some (.cells (aggT x) 25 (0, 0)) := (b1.block _ (Array.getElem?_eq_some_iff.1 HN.out.1).1).trans HN.out.1
    have HB1 := Lib.hid (bt HN.out.2 b1)
    have HX1 := Lib.hid hb1
    obtain ⟨c1, c2⟩ := agg_cells hb1
    clear b1 hb1 HN HP
    go_wp2_with fail
    refine (G2.out _).mono ?_
    rintro e w2 ⟨rfl, b2⟩
    have hb2 : w2.heap[w.heap.size]? = some (.cells (aggT x) 25 (0, 0)) := (b2.block _ (Array.getElem?_eq_some_iff.1 HX1.out).1).trans HX1.out
    have HB2 := Lib.hid (bt HB1.out b2)
    clear c1 c2
    obtain ⟨c1, c2⟩ := agg_cells hb2
    clear b2 hb2 HB1 HX1 G1 G2
    go_wp2
    go_ret
    exact ⟨rfl, HB2.out⟩
   | true =>
    rw [Bool.true_and]
    go_enter Tryz.func16, Tryz.ntmps16
    go_wp2_with (first | refine load_p rfl (.tmp 2) rfl w.heap.size x rfl HN.out.1 ?_)
    generalize w.alloc (.cells (aggT x) 25) = w0 at *
    refine (HP.out _).mono ?_
    rintro e w1 ⟨rfl, b1⟩
    have hb1 : w1.heap[w.heap.size]? = some (.cells (aggT x) 25 (0, 0)) := (b1.block _ (Array.getElem?_eq_some_iff.1 HN.out.1).1).trans HN.out.1
    have HB1 := Lib.hid (bt HN.out.2 b1)
    have HX1 := Lib.hid hb1
    obtain ⟨c1, c2⟩ := agg_cells hb1
    clear b1 hb1 HN HP
    go_wp2_with fail
    refine (G2.out _).mono ?_
    rintro e w2 ⟨rfl, b2⟩
    have hb2 : w2.heap[w.heap.size]? = some (.cells (aggT x) 25 (0, 0)) := (b2.block _ (Array.getElem?_eq_some_iff.1 HX1.out).1).trans HX1.out
    have HB2 := Lib.hid (bt HB1.out b2)
    clear c1 c2
    obtain ⟨c1, c2⟩ := agg_cells hb2
    clear b2 hb2 HB1 HX1 G2
    go_wp2_with fail
    refine (G1.out _).mono ?_
    rintro e w3 ⟨rfl, b3⟩
    have HB3 := Lib.hid (bt HB2.out b3)
    clear b3 c1 c2 HB2 G1
    go_wp2
    go_ret
    exact ⟨rfl, HB3.out⟩
theorem sym_ge {x : Pt} {p : ByteArray} (hp : primeB p = true) (hx : pairB x p = true) : decide (0 ≤ symG (normG x p) p) = sqN (gV p) (valP x) := by rw [(sym_norm hp hx).1]; rfl
theorem pairSquare_any (x : Pt) (p : ByteArray) (w : World) : Calls Tryz.prog 86 #[.agg (aggT x), .string p] w fun e w' => e = .returned (.bool (psqB x p)) ∧ Below w.heap.size w w' := by
 have HQ := Lib.hid (pairPrime_any p)
 have HP := Lib.hid (pairOk_any x p)
 have HN := Lib.hid (agg_new w x 25)
 unfold psqB
 cases hq : pprimeB p with
 | false =>
  rw [hq] at HQ
  rw [Bool.false_and]
  clear hq
  go_enter Tryz.func86, Tryz.ntmps86
  go_wp2_with fail
  refine (HQ.out _).mono ?_
  rintro e w1 ⟨rfl, b1⟩
  have HB := Lib.hid (bt HN.out.2 b1)
  clear b1 HN HP
  go_wp2
  go_ret
  exact ⟨rfl, HB.out⟩
 | true =>
  rw [hq] at HQ
  rw [Bool.true_and]
  cases hx : pairB x p with
  | false =>
   rw [hx] at HP
   rw [Bool.false_and]
   clear hq hx
   go_enter Tryz.func86, Tryz.ntmps86
   go_wp2_with fail
   refine (HQ.out _).mono ?_
   rintro e w1 ⟨rfl, b1⟩
   have HX1 := Lib.hid ((b1.block _ (Array.getElem?_eq_some_iff.1 HN.out.1).1).trans HN.out.1)
   have HB1 := Lib.hid (bt HN.out.2 b1)
   clear b1 HN HQ
   obtain ⟨c1, c2⟩ := agg_cells HX1.out
   go_wp2_with fail
   refine (HP.out _).mono ?_
   rintro e w2 ⟨rfl, b2⟩
   have HB2 := Lib.hid (bt HB1.out b2)
   clear b2 HB1 HX1 HP c1 c2
   go_wp2
   go_ret
   exact ⟨rfl, HB2.out⟩
  | true =>
   rw [hx] at HP
   rw [Bool.true_and, ← sym_ge (pprime_parts hq).1 hx]
   have HO := Lib.hid (normOf_any x p)
   have HS := Lib.hid (symbolOf_any (normG x p) p)
   unfold SymPost at HS
   clear hq hx
   generalize symG (normG x p) p = k at *
   generalize normG x p = m at *
   go_enter Tryz.func86, Tryz.ntmps86
   go_wp2_with fail
   refine (HQ.out _).mono ?_
   rintro e w1 ⟨rfl, b1⟩
   have HX1 := Lib.hid ((b1.block _ (Array.getElem?_eq_some_iff.1 HN.out.1).1).trans HN.out.1)
   have HB1 := Lib.hid (bt HN.out.2 b1)
   clear b1 HN HQ
   obtain ⟨c1, c2⟩ := agg_cells HX1.out
   go_wp2_with fail
   refine (HP.out _).mono ?_
   rintro e w2 ⟨rfl, b2⟩
   have HX2 := Lib.hid ((b2.block _ (Array.getElem?_eq_some_iff.1 HX1.out).1).trans HX1.out)
   have HB2 := Lib.hid (bt HB1.out b2)
   clear b2 HB1 HX1 HP
   clear c1 c2
   obtain ⟨c1, c2⟩ := agg_cells HX2.out
   go_wp2_with fail
   refine (HO.out _).mono ?_
   rintro e w3 ⟨rfl, b3⟩
   have HB3 := Lib.hid (bt HB2.out b3)
   clear b3 HB2 HX2 HO c1 c2
   go_wp2_with fail
   refine (HS.out _).mono ?_
   rintro e w4 ⟨rfl, b4⟩
   have HB4 := Lib.hid (bt HB3.out b4)
   clear b4 HB3 HS
   go_wp2
   go_ret
   exact ⟨rfl, HB4.out⟩
end Go.Proofs.YtdajgcgliidjbaaGreat
namespace Go.Proofs.YtdajgcgliidjbaaGreat
open Go.RowKit
theorem pairPrime_i (p : ByteArray) (w : World) : Calls Tryz.prog 74 #[.string p] w fun e w' => e = .returned (.bool (pprimeB p)) ∧ Below w.heap.size w w' := by
 have HP := Lib.hid (primeOk_i p)
 unfold pprimeB
 cases hp : primeB p with
 | false =>
  rw [hp] at HP
  rw [Bool.false_and]
  go_enter Tryz.func74, Tryz.ntmps74
  go_wp2_with fail
  refine (HP.out _).mono ?_
  rintro e w1 ⟨rfl, b1⟩
  go_wp2
  go_ret
  exact ⟨rfl, b1⟩
 | true =>
  rw [hp] at HP
  have E := pprime_bits hp
  have H1 := Lib.hid (fun w => bitOf_i p 1 (by decide) w)
  rw [Bool.true_and, ← E]
  generalize bitG p 1 = k at *
  clear hp E
  go_enter Tryz.func74, Tryz.ntmps74
  go_wp2_with fail
  refine (HP.out _).mono ?_
  rintro e w1 ⟨rfl, b1⟩
  have HB1 := Lib.hid b1
  clear b1
  go_wp2_with fail
  refine (H1.out _).mono ?_
  rintro e w3 ⟨rfl, rfl⟩
  go_wp2
  go_ret
  exact ⟨rfl, HB1.out⟩
theorem pairGreater_i (x : Pt) (p : ByteArray) (w : World) : Calls Tryz.prog 78 #[.agg (aggT x), .string p] w fun e w' => e = .returned (.bool (pgtB x p)) ∧ Below w.heap.size w w' := by
 have HP := Lib.hid (pairOk_i x p)
 have HN := Lib.hid (agg_new w x 25)
 cases hx : pairB x p with
 | false =>
  rw [hx] at HP
  rw [pgt_no hx]
  clear hx
  go_enter Tryz.func78, Tryz.ntmps78
  go_wp2_with (first | refine load_p rfl (.tmp 2) rfl w.heap.size x rfl HN.out.1 ?_)
  generalize w.alloc (.cells (aggT x) 25) = w0 at *
  refine (HP.out _).mono ?_
  rintro e w1 ⟨rfl, b1⟩
  have HB := Lib.hid (bt HN.out.2 b1)
  clear b1 HN HP
  go_wp2
  go_ret
  exact ⟨rfl, HB.out⟩
 | true =>
  rw [hx] at HP
  rw [(pgt_parts hx).2]
  have G1 := Lib.hid (greater_i x.1 p)
  have G2 := Lib.hid (greater_i x.2 p)
  clear hx
  generalize greaterB x.1 p = r1 at *
  generalize greaterB x.2 p = r2 at *
  cases he : x.2.toList.isEmpty with
  | true =>
   rw [if_pos rfl]
   go_enter Tryz.func78, Tryz.ntmps78
   go_wp2_with (first | refine load_p rfl (.tmp 2) rfl w.heap.size x rfl HN.out.1 ?_)
   generalize w.alloc (.cells (aggT x) 25) = w0 at *
   refine (HP.out _).mono ?_
   rintro e w1 ⟨rfl, b1⟩
   obtain ⟨c1, c2⟩ := agg_cells ((b1.block _ (Array.getElem?_eq_some_iff.1 HN.out.1).1).trans HN.out.1)
   have HB1 := Lib.hid (bt HN.out.2 b1)
   clear b1 HN HP
   go_wp2_with fail
   refine (G1.out _).mono ?_
   rintro e w2 ⟨rfl, b2⟩
   have HB2 := Lib.hid (bt HB1.out b2)
   clear b2 HB1 c1 c2 G1 G2
   go_wp2
   go_ret
   exact ⟨rfl, HB2.out⟩
  | false =>
   rw [if_neg (by decide)]
   go_enter Tryz.func78, Tryz.ntmps78
   go_wp2_with (first | refine load_p rfl (.tmp 2) rfl w.heap.size x rfl HN.out.1 ?_)
   generalize w.alloc (.cells (aggT x) 25) = w0 at *
   refine (HP.out _).mono ?_
   rintro e w1 ⟨rfl, b1⟩
   obtain ⟨c1, c2⟩ := agg_cells ((b1.block _ (Array.getElem?_eq_some_iff.1 HN.out.1).1).trans HN.out.1)
   have HB1 := Lib.hid (bt HN.out.2 b1)
   clear b1 HN HP
   go_wp2_with fail
   refine (G2.out _).mono ?_
   rintro e w2 ⟨rfl, b2⟩
   have HB2 := Lib.hid (bt HB1.out b2)
   clear b2 HB1 c1 c2 G1 G2
   go_wp2
   go_ret
   exact ⟨rfl, HB2.out⟩
end Go.Proofs.YtdajgcgliidjbaaGreat
