import Derived.Test.YtejmogdognenmaaVSpec
import Derived.Test.YtejmogdognenmaaJRootA
import Derived.Test.YtejmogdognenmaaJPairM
namespace Go.Proofs.Ytejmogdognenmaa
open Go.RowKit
set_option maxRecDepth 8000 in
set_option maxHeartbeats 2000000 in
theorem pairPrime_i (p : ByteArray) (w : World) : Calls Try.prog 7 #[.string p] w fun e w' => e = .returned (.bool (pprimeB p)) ∧ Below w.heap.size w w' := by
  have HP := Lib.hid (primeOk_i p)
  unfold pprimeB
  cases hp : primeB p with
  | false =>
    rw [hp] at HP
    rw [Bool.false_and]
    go_enter Try.func7, Try.ntmps7
    go_wp2_with fail
    refine (HP.out _).mono ?_
    rintro e w1 ⟨rfl, b1⟩
    go_wp2
    go_ret
    exact ⟨rfl, b1⟩
  | true =>
    rw [hp] at HP
    have E := pprime_bits hp
    have H1 := Lib.hid (fun w => bitOf_i p 1 (by decide) w)
    rw [Bool.true_and, ← E]
    generalize bitG p 1 = k at *
    clear hp E
    go_enter Try.func7, Try.ntmps7
    go_wp2_with fail
    refine (HP.out _).mono ?_
    rintro e w1 ⟨rfl, b1⟩
    have HB1 := Lib.hid b1
    clear b1
    go_wp2_with fail
    refine (H1.out _).mono ?_
    rintro e w3 ⟨rfl, rfl⟩
    go_wp2
    go_ret
    exact ⟨rfl, HB1.out⟩
set_option maxRecDepth 8000 in
set_option maxHeartbeats 4000000 in
theorem pairGreater_i (x : Pt) (p : ByteArray) (w : World) : Calls Try.prog 11 #[.agg (aggT x), .string p] w fun e w' => e = .returned (.bool (pgtB x p)) ∧ Below w.heap.size w w' := by
  have HP := Lib.hid (pairOk_i x p)
  have HN := Lib.hid (agg_new w x 27)
  cases hx : pairB x p with
  | false =>
    rw [hx] at HP
    rw [pgt_no hx]
    clear hx
    go_enter Try.func11, Try.ntmps11
    go_wp2_with (first | refine load_p rfl (.tmp 2) rfl w.heap.size x rfl HN.out.1 ?_)
    generalize w.alloc (.cells (aggT x) 27) = w0 at *
    refine (HP.out _).mono ?_
    rintro e w1 ⟨rfl, b1⟩
    have HB := Lib.hid (bt HN.out.2 b1)
    clear b1 HN HP
    go_wp2
    go_ret
    exact ⟨rfl, HB.out⟩
  | true =>
    rw [hx] at HP
    rw [(pgt_parts hx).2]
    have G1 := Lib.hid (greater_i x.1 p)
    have G2 := Lib.hid (greater_i x.2 p)
    clear hx
    generalize greaterB x.1 p = r1 at *
    generalize greaterB x.2 p = r2 at *
    cases he : x.2.toList.isEmpty with
    | true =>
      rw [if_pos rfl]
      go_enter Try.func11, Try.ntmps11
      go_wp2_with (first | refine load_p rfl (.tmp 2) rfl w.heap.size x rfl HN.out.1 ?_)
      generalize w.alloc (.cells (aggT x) 27) = w0 at *
      refine (HP.out _).mono ?_
      rintro e w1 ⟨rfl, b1⟩
      obtain ⟨c1, c2⟩ := agg_cells ((b1.block _ (Array.getElem?_eq_some_iff.1 HN.out.1).1).trans HN.out.1)
      have HB1 := Lib.hid (bt HN.out.2 b1)
      clear b1 HN HP
      go_wp2_with fail
      refine (G1.out _).mono ?_
      rintro e w2 ⟨rfl, b2⟩
      have HB2 := Lib.hid (bt HB1.out b2)
      clear b2 HB1 c1 c2 G1 G2
      go_wp2
      go_ret
      exact ⟨rfl, HB2.out⟩
    | false =>
      rw [if_neg (by decide)]
      go_enter Try.func11, Try.ntmps11
      go_wp2_with (first | refine load_p rfl (.tmp 2) rfl w.heap.size x rfl HN.out.1 ?_)
      generalize w.alloc (.cells (aggT x) 27) = w0 at *
      refine (HP.out _).mono ?_
      rintro e w1 ⟨rfl, b1⟩
      obtain ⟨c1, c2⟩ := agg_cells ((b1.block _ (Array.getElem?_eq_some_iff.1 HN.out.1).1).trans HN.out.1)
      have HB1 := Lib.hid (bt HN.out.2 b1)
      clear b1 HN HP
      go_wp2_with fail
      refine (G2.out _).mono ?_
      rintro e w2 ⟨rfl, b2⟩
      have HB2 := Lib.hid (bt HB1.out b2)
      clear b2 HB1 c1 c2 G1 G2
      go_wp2
      go_ret
      exact ⟨rfl, HB2.out⟩
theorem sym_ne {x : Pt} {p : ByteArray} (hp : primeB p = true) (hx : pairB x p = true) : (symG (normG x p) p != -1) = sqN (gV p) (valP x) := by
  rw [(sym_norm hp hx).1]
  obtain ⟨_, pp⟩ := primeB_p hp
  unfold sqN
  rcases symN_three pp.prm pp.ge (normP (gV p) (valP x)) with e | e | e <;> rw [e] <;> rfl
set_option maxRecDepth 8000 in
set_option maxHeartbeats 2000000 in
theorem pairSquare_i (x : Pt) (p : ByteArray) (w : World) : Calls Try.prog 13 #[.agg (aggT x), .string p] w fun e w' => e = .returned (.bool (psqB x p)) ∧ Below w.heap.size w w' := by
  have HQ := Lib.hid (pairPrime_i p)
  have HP := Lib.hid (pairOk_i x p)
  have HN := Lib.hid (agg_new w x 27)
  unfold psqB
  cases hq : pprimeB p with
  | false =>
    rw [hq] at HQ
    rw [Bool.false_and]
    clear hq
    go_enter Try.func13, Try.ntmps13
    go_wp2_with fail
    refine (HQ.out _).mono ?_
    rintro e w1 ⟨rfl, b1⟩
    have HB := Lib.hid (bt HN.out.2 b1)
    clear b1 HN HP
    go_wp2
    go_ret
    exact ⟨rfl, HB.out⟩
  | true =>
    rw [hq] at HQ
    rw [Bool.true_and]
    cases hx : pairB x p with
    | false =>
      rw [hx] at HP
      rw [Bool.false_and]
      clear hq hx
      go_enter Try.func13, Try.ntmps13
      go_wp2_with fail
      refine (HQ.out _).mono ?_
      rintro e w1 ⟨rfl, b1⟩
      have HX1 := Lib.hid ((b1.block _ (Array.getElem?_eq_some_iff.1 HN.out.1).1).trans HN.out.1)
      have HB1 := Lib.hid (bt HN.out.2 b1)
      clear b1 HN HQ
      obtain ⟨c1, c2⟩ := agg_cells HX1.out
      go_wp2_with fail
      refine (HP.out _).mono ?_
      rintro e w2 ⟨rfl, b2⟩
      have HB2 := Lib.hid (bt HB1.out b2)
      clear b2 HB1 HX1 HP c1 c2
      go_wp2
      go_ret
      exact ⟨rfl, HB2.out⟩
    | true =>
      rw [hx] at HP
      rw [Bool.true_and, ← sym_ne (pprime_parts hq).1 hx]
      have HO := Lib.hid (normOf_i x p)
      have HS := Lib.hid (symbolOf_i (normG x p) p)
      unfold SymPost at HS
      clear hq hx
      generalize symG (normG x p) p = k at *
      generalize normG x p = m at *
      go_enter Try.func13, Try.ntmps13
      go_wp2_with fail
      refine (HQ.out _).mono ?_
      rintro e w1 ⟨rfl, b1⟩
      have HX1 := Lib.hid ((b1.block _ (Array.getElem?_eq_some_iff.1 HN.out.1).1).trans HN.out.1)
      have HB1 := Lib.hid (bt HN.out.2 b1)
      clear b1 HN HQ
      obtain ⟨c1, c2⟩ := agg_cells HX1.out
      go_wp2_with fail
      refine (HP.out _).mono ?_
      rintro e w2 ⟨rfl, b2⟩
      have HX2 := Lib.hid ((b2.block _ (Array.getElem?_eq_some_iff.1 HX1.out).1).trans HX1.out)
      have HB2 := Lib.hid (bt HB1.out b2)
      clear b2 HB1 HX1 HP
      clear c1 c2
      obtain ⟨c1, c2⟩ := agg_cells HX2.out
      go_wp2_with fail
      refine (HO.out _).mono ?_
      rintro e w3 ⟨rfl, b3⟩
      have HB3 := Lib.hid (bt HB2.out b3)
      clear b3 HB2 HX2 HO c1 c2
      go_wp2_with fail
      refine (HS.out _).mono ?_
      rintro e w4 ⟨rfl, b4⟩
      have HB4 := Lib.hid (bt HB3.out b4)
      clear b4 HB3 HS
      go_wp2
      go_ret
      exact ⟨rfl, HB4.out⟩
end Go.Proofs.Ytejmogdognenmaa
