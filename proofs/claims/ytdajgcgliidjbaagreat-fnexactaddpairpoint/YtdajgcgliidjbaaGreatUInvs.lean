import Derived.Test.YtdajgcgliidjbaaGreatUOps
import Derived.Test.YtdajgcgliidjbaaGreatILow
set_option maxRecDepth 8000
set_option maxHeartbeats 8000000
namespace Go.Proofs.YtdajgcgliidjbaaGreat
open Go.RowKit
theorem row_nil (w : World) : RowX w (.slice none 0 0) 0 := ⟨0, none, 0, [], rfl, World.ownsRow_nil _ _ _ _, ⟨Limbs.nil, .inl rfl, rfl⟩⟩
theorem load_7 {ops : Array Oper} {rest : List Oper} {o : Oper} {a : Act} {w : World} {Q : Exit → Act → World → Prop} (hgd : o.guard = none) (x : Operand) (ho : o.op = .load 59 x) (g : Nat) (C : Array Value) (hs : C.size = 2)
  (hx : a.eval x = .pointer (some ⟨g, 0, none⟩)) (h : w.heap[g]? = some (.cells C 59 (0, 0))) (k : wpList Tryz.prog ops Q rest (a.put o.dst (.agg C)) w) : wpList Tryz.prog ops Q (o :: rest) a w :=
 wpList_load_row hgd _ x ho g hx _ _ _ _ h Tryz.underlying59 rfl (by rw [hs]; exact Tryz.info7) k
theorem store_7 {ops : Array Oper} {rest : List Oper} {o : Oper} {a : Act} {w : World} {Q : Exit → Act → World → Prop} (hgd : o.guard = none) (x y : Operand) (ho : o.op = .store 59 x y) (g : Nat) (C C' : Array Value)
  (hx : a.eval x = .pointer (some ⟨g, 0, none⟩)) (hy : a.eval y = .agg C') (h : w.heap[g]? = some (.cells C 59 (0, 0))) (hs : C'.size = 2) (hc : C.size = 2) (h1 : C'.all (·.oneCell') = true) (k : wpList Tryz.prog ops Q rest (a.put o.dst undef) (w.setRow g C')) : wpList Tryz.prog ops Q (o :: rest) a w :=
 wpList_plain hgd fun _ hK => wp_store_row _ x y ho g _ hx hy _ _ h (by rw [hs]; exact Tryz.info7) (hc.trans hs.symm) h1 (hK _ _ k)
theorem res7 {w : World} {g : Nat} {C : Array Value} (hb : w.heap[g]? = some (.cells C 59 (0, 0))) (hs : C.size = 2) {fn : Func} {p q : Tmp} (hf : fn.results = #[.cell p 59, .tmp q]) (tmps : Array Value) (hp : tmps.getD p undef = .pointer (some ⟨g, 0, none⟩)) :
  (results fn tmps).run Tryz.prog w = .ok (.tuple #[.agg C, tmps.getD q undef]) w := by
 have e1 := run_loadVar_row (P := Tryz.prog) w g _ 59 _ _ _ hb Tryz.underlying59 rfl (by rw [hs]; exact Tryz.info7)
 have hp' : tmps[p]?.getD undef = .pointer (some ⟨g, 0, none⟩) := by simpa using hp
 simp [results, hf, hp', asAddr, e1]
theorem resP {w : World} {g : Nat} {C : Array Value} (hb : w.heap[g]? = some (.cells C 25 (0, 0))) (hs : C.size = 2) {fn : Func} {p q : Tmp} (hf : fn.results = #[.cell p 25, .tmp q]) (tmps : Array Value) (hp : tmps.getD p undef = .pointer (some ⟨g, 0, none⟩)) :
  (results fn tmps).run Tryz.prog w = .ok (.tuple #[.agg C, tmps.getD q undef]) w := by
 have e1 := run_loadVar_row (P := Tryz.prog) w g _ 25 _ _ _ hb Tryz.underlying25 rfl (by rw [hs]; exact Tryz.infoP)
 have hp' : tmps[p]?.getD undef = .pointer (some ⟨g, 0, none⟩) := by simpa using hp
 simp [results, hf, hp', asAddr, e1]
def inv7 (x : Pn) (n : Nat) : Pn := if Nat.gcd n (normP n x) = 1 then invP n x (invN (normP n x) n) else (0, 0)
def Inv7Post (x : Pn) (n : Nat) (w : World) (e : Ending) (w' : World) : Prop := ∃ v, e = .returned (.tuple #[v, .bool (decide (Nat.gcd n (normP n x) = 1))]) ∧ PairX w' v (inv7 x n) ∧ Below w.heap.size w w'
theorem linv7_x {w : World} {vx vp : Value} {x : Pn} {n : Nat} (hx : PairX w vx x) (hp : RowX w vp n) (ix : InP2 n x) (hn : n < GB) (h1 : 1 < n) :
  Calls Tryz.prog 85 #[vx, vp] w (Inv7Post x n w) := by
 obtain ⟨ax, bx, rfl, hx1, hx2⟩ := hx
 have HF0 := Lib.hid (F7.mk (x := x) (y := x) hx1 hx2 hx1 hx2 hp)
 have HX0 := Lib.hid (show PairX w (.agg #[ax, bx]) x from ⟨ax, bx, rfl, hx1, hx2⟩)
 obtain ⟨a1, n1, c1, rfl⟩ := hx1.shape
 obtain ⟨a2, n2, c2, rfl⟩ := hx2.shape
 obtain ⟨a5, n5, c5, rfl⟩ := hp.shape
 obtain ⟨qx, hqx⟩ : ∃ q : Array Value, #[.slice a1 n1 c1, .slice a2 n2 c2] = q := ⟨_, rfl⟩
 have HQX := Lib.hid hqx
 have hq2 : qx.size = 2 := by rw [← hqx]; rfl
 have HX2 := Lib.hid (heap_alloc2_old w (.cells qx 59) (.cells #[.slice none 0 0, .slice none 0 0] 59))
 have HO2 := Lib.hid (heap_alloc2_new w (.cells qx 59) (.cells #[.slice none 0 0, .slice none 0 0] 59))
 have HB2 := Lib.hid (((Below.refl w.heap.size w).alloc (Nat.le_refl _) (.cells qx 59)).alloc (by simp) (.cells #[.slice none 0 0, .slice none 0 0] 59))
 have h0 : 0 < n := by omega
 have hnl := normP_lt h0 x
 obtain ⟨i1, i2⟩ := ix
 have HIN := Lib.hid (fun m (hm : m < n) (h : m * normP n x % n = 1) => invN_eq hm h)
 have HNL := Lib.hid hnl
 unfold Inv7Post inv7
 obtain ⟨bb, hbb⟩ : ∃ b, decide (Nat.gcd n (normP n x) = 1) = b := ⟨_, rfl⟩
 obtain ⟨R7, hR7⟩ : ∃ R, (if Nat.gcd n (normP n x) = 1 then invP n x (invN (normP n x) n) else (0, 0)) = R := ⟨_, rfl⟩
 rw [hbb, hR7, hqx]
 rw [hqx] at HX0
 have HY : Hid (Nat.gcd n (normP n x) = 1 → bb = true ∧ R7 = invP n x (invN (normP n x) n)) := fun h => ⟨by rw [← hbb, decide_eq_true h], by rw [← hR7, if_pos h]⟩
 have HNo : Hid (¬ Nat.gcd n (normP n x) = 1 → bb = false ∧ R7 = (0, 0)) := fun h => ⟨by rw [← hbb, decide_eq_false h], by rw [← hR7, if_neg h]⟩
 have L1 := Lib.hid (lnorm7_x (HX0.out.below HB2.out) (HF0.out.on HB2.out).p ⟨i1, i2⟩ hn)
 clear hx1 hx2 hp hqx hR7
 generalize normP n x = N at *
 go_enter Tryz.func85, Tryz.ntmps85
 go_wp2_with (first | refine load_7 rfl (.tmp 2) rfl w.heap.size qx hq2 rfl HX2.out ?_)
 generalize (w.alloc (.cells qx 59)).alloc (.cells #[.slice none 0 0, .slice none 0 0] 59) = w2 at *
 have hz2 : w.heap.size + 1 < w2.heap.size := (Array.getElem?_eq_some_iff.1 HO2.out).1
 refine L1.out.mono ?_
 rintro e w3 ⟨v, rfl, hv, b3⟩
 have HX3 := Lib.hid ((b3.block _ (by omega)).trans HX2.out)
 have HO3 := Lib.hid ((b3.block _ hz2).trans HO2.out)
 have HB3 := Lib.hid (bt HB2.out b3)
 have HF3 := Lib.hid (HF0.out.on HB3.out)
 have L2 := Lib.hid (linv_x hv HF3.out.p HNL.out hn h1)
 have hz3 : w.heap.size + 1 < w3.heap.size := (Array.getElem?_eq_some_iff.1 HO3.out).1
 obtain ⟨av, nv, cv, rfl⟩ := hv.shape
 clear hv b3 HX2 HO2 HB2 hz2 L1 HX0 HF0
 go_wp2_with fail
 refine L2.out.mono ?_
 rintro e w4 ⟨u, m, rfl, hu, hmn, hma, b4⟩
 rw [hbb]
 have HX4 := Lib.hid ((b4.block _ (by omega)).trans HX3.out)
 have HO4 := Lib.hid ((b4.block _ hz3).trans HO3.out)
 have HB4 := Lib.hid (bt HB3.out b4)
 have HF4 := Lib.hid (HF3.out.on b4)
 have RU := Lib.hid hu
 have hz4 : w.heap.size + 1 < w4.heap.size := (Array.getElem?_eq_some_iff.1 HO4.out).1
 obtain ⟨au, nu, cu, rfl⟩ := hu.shape
 clear hu b4 HX3 HO3 HB3 hz3 L2 HF3 hbb
 by_cases hg : Nat.gcd n N = 1
 ·obtain ⟨rfl, rfl⟩ := HY.out hg
  rw [hg, Nat.mod_eq_of_lt h1] at hma
  have hm := HIN.out m hmn hma
  have HMN := Lib.hid hm
  clear hg HY HNo hma hm HIN HNL
  go_wp2_with fail
  have HX5 : Hid (w4.drew.heap[w.heap.size]? = some (.cells qx 59 (0, 0))) := HX4.out
  have HO5 : Hid (w4.drew.heap[w.heap.size + 1]? = some (.cells #[.slice none 0 0, .slice none 0 0] 59 (0, 0))) := HO4.out
  have HB5 := Lib.hid (bt HB4.out (bd7 w4))
  have HF5 := Lib.hid (HF4.out.on (bd7 w4))
  have RU5 := Lib.hid (RU.out.below (bd7 w4))
  have hz5 : w.heap.size + 1 < w4.drew.heap.size := hz4
  clear HX4 HO4 HB4 HF4 RU hz4
  refine wp_region_held (S := fun w' => w'.heap[w.heap.size]? = some (.cells qx 59 (0, 0))) (by kernel_rfl) ?_
  change wpAnyH _ _ _ _ _ _ _ _ w4.drew
  generalize w4.drew = w5 at *
  refine wpAnyH_take (i := 0) (v := .pointer (some ⟨w.heap.size, 0, none⟩)) rfl (by kernel_rfl) (by kernel_rfl) (by kernel_rfl) (fun _ _ _ h => h) (yields_if rfl fun _ _ => by unfold execOp; go_simp) HX5.out ?_
  refine wpAnyH_take (i := 1) (v := .slice a1 n1 c1) rfl (by kernel_rfl) (by kernel_rfl) (by kernel_rfl) (fun _ _ _ h => h) (yields_if rfl fun _ hw => by have c := (pair_cells HQX.out hw).1; unfold execOp; go_simp) HX5.out ?_
  refine wpAnyH_take (i := 2) (v := .slice au nu cu) rfl (by kernel_rfl) (by kernel_rfl) (by kernel_rfl) (fun _ _ _ h => h) (yields_if rfl fun _ _ => by unfold execOp; go_simp) HX5.out ?_
  refine wpAnyH_take (i := 3) (v := .slice a5 n5 c5) rfl (by kernel_rfl) (by kernel_rfl) (by kernel_rfl) (fun _ _ _ h => h) (yields_if rfl fun _ _ => by unfold execOp; go_simp) HX5.out ?_
  refine wpAnyH_take (i := 6) (v := .pointer (some ⟨w.heap.size, 1, none⟩)) rfl (by kernel_rfl) (by kernel_rfl) (by kernel_rfl) (fun _ _ _ h => h) (yields_if rfl fun _ _ => by unfold execOp; go_simp) HX5.out ?_
  refine wpAnyH_take (i := 7) (v := .slice a2 n2 c2) rfl (by kernel_rfl) (by kernel_rfl) (by kernel_rfl) (fun _ _ _ h => h) (yields_if rfl fun _ hw => by have c := (pair_cells HQX.out hw).2; unfold execOp; go_simp) HX5.out ?_
  refine wpAnyH_take (i := 8) (v := .slice a5 n5 c5) rfl (by kernel_rfl) (by kernel_rfl) (by kernel_rfl) (fun _ _ _ h => h) (yields_if rfl fun _ _ => by unfold execOp; go_simp) HX5.out ?_
  refine wpAnyH_take (i := 10) (v := .slice au nu cu) rfl (by kernel_rfl) (by kernel_rfl) (by kernel_rfl) (fun _ _ _ h => h) (yields_if rfl fun _ _ => by unfold execOp; go_simp) HX5.out ?_
  refine wpAnyH_take (i := 11) (v := .slice a5 n5 c5) rfl (by kernel_rfl) (by kernel_rfl) (by kernel_rfl) (fun _ _ _ h => h) (yields_if rfl fun _ _ => by unfold execOp; go_simp) HX5.out ?_
  refine wpAnyH_all (rs := [4, 5]) (by kernel_rfl) (by decide) ?_
  intro i hi
  rcases (by simpa using hi : i = 4 ∨ i = 5) with rfl | rfl
  focus
   unfold wpOp
   go_simp
   left
   refine (lmul_x HF5.out.x1 RU5.out HF5.out.p (by omega) (by omega) h0).mono ?_
   rintro e w6 ⟨vA, rfl, hA, b6⟩
   have HX6 := Lib.hid ((b6.block _ (by omega)).trans HX5.out)
   have HO6 := Lib.hid ((b6.block _ hz5).trans HO5.out)
   have HB6 := Lib.hid (bt HB5.out b6)
   have HF6 := Lib.hid (HF5.out.on b6)
   have RU6 := Lib.hid (RU5.out.below b6)
   have hz6 : w.heap.size + 1 < w6.heap.size := (Array.getElem?_eq_some_iff.1 HO6.out).1
   have RA6 := Lib.hid hA
   obtain ⟨sA, mA, kA, rfl⟩ := hA.shape
   clear hA b6 HX5 HO5 HB5 HF5 RU5 hz5
   refine ⟨HX6.out, ?_⟩
   refine wpAnyH_all (rs := [5]) (by kernel_rfl) (by decide) ?_
   intro i hi
   obtain rfl : i = 5 := by simpa using hi
   unfold wpOp
   go_simp
   left
   have b7 : Below w6.heap.size w6 (w6.alloc (.cells #[] 3)) := (Below.refl _ _).alloc (Nat.le_refl _) _
   have HX7 := Lib.hid ((b7.block _ (by omega)).trans HX6.out)
   have HO7 := Lib.hid ((b7.block _ hz6).trans HO6.out)
   have HB7 := Lib.hid (bt HB6.out b7)
   have HF7 := Lib.hid (HF6.out.on b7)
   have RU7 := Lib.hid (RU6.out.below b7)
   have hz7 : w.heap.size + 1 < (w6.alloc (.cells #[] 3)).heap.size := (Array.getElem?_eq_some_iff.1 HO7.out).1
   have RA7 := Lib.hid (RA6.out.below b7)
   have RE7 := Lib.hid (row_none w6)
   clear b7 HX6 HO6 HB6 HF6 RU6 hz6 RA6
   generalize w6.alloc (.cells #[] 3) = w7 at *
  rotate_left
  focus
   unfold wpOp
   go_simp
   left
   have b6 : Below w5.heap.size w5 (w5.alloc (.cells #[] 3)) := (Below.refl _ _).alloc (Nat.le_refl _) _
   have HX6 := Lib.hid ((b6.block _ (by omega)).trans HX5.out)
   have HO6 := Lib.hid ((b6.block _ hz5).trans HO5.out)
   have HB6 := Lib.hid (bt HB5.out b6)
   have HF6 := Lib.hid (HF5.out.on b6)
   have RU6 := Lib.hid (RU5.out.below b6)
   have hz6 : w.heap.size + 1 < (w5.alloc (.cells #[] 3)).heap.size := (Array.getElem?_eq_some_iff.1 HO6.out).1
   have RE6 := Lib.hid (row_none w5)
   clear b6 HX5 HO5 HB5 HF5 RU5 hz5
   generalize w5.alloc (.cells #[] 3) = w6 at *
   refine ⟨HX6.out, ?_⟩
   refine wpAnyH_all (rs := [4]) (by kernel_rfl) (by decide) ?_
   intro i hi
   obtain rfl : i = 4 := by simpa using hi
   unfold wpOp
   go_simp
   left
   refine (lmul_x HF6.out.x1 RU6.out HF6.out.p (by omega) (by omega) h0).mono ?_
   rintro e w7 ⟨vA, rfl, hA, b7⟩
   have HX7 := Lib.hid ((b7.block _ (by omega)).trans HX6.out)
   have HO7 := Lib.hid ((b7.block _ hz6).trans HO6.out)
   have HB7 := Lib.hid (bt HB6.out b7)
   have HF7 := Lib.hid (HF6.out.on b7)
   have RU7 := Lib.hid (RU6.out.below b7)
   have hz7 : w.heap.size + 1 < w7.heap.size := (Array.getElem?_eq_some_iff.1 HO7.out).1
   have RA7 := Lib.hid hA
   have RE7 := Lib.hid (RE6.out.below b7)
   obtain ⟨sA, mA, kA, rfl⟩ := hA.shape
   clear hA b7 HX6 HO6 HB6 HF6 RU6 hz6 RE6
  rotate_left
  all_goals (
   refine ⟨HX7.out, ?_⟩
   refine wpAnyH_all (rs := [9]) (by kernel_rfl) (by decide) ?_
   intro i hi
   obtain rfl : i = 9 := by simpa using hi
   unfold wpOp
   go_simp
   left
   refine (lsub_x RE7.out HF7.out.x2 HF7.out.p h0 i2 hn).mono ?_
   rintro e w8 ⟨vB, rfl, hB, b8⟩
   have HX8 := Lib.hid ((b8.block _ (by omega)).trans HX7.out)
   have HO8 := Lib.hid ((b8.block _ hz7).trans HO7.out)
   have HB8 := Lib.hid (bt HB7.out b8)
   have HF8 := Lib.hid (HF7.out.on b8)
   have RU8 := Lib.hid (RU7.out.below b8)
   have hz8 : w.heap.size + 1 < w8.heap.size := (Array.getElem?_eq_some_iff.1 HO8.out).1
   have RA8 := Lib.hid (RA7.out.below b8)
   have RB8 := Lib.hid hB
   obtain ⟨sB, mB, kB, rfl⟩ := hB.shape
   clear hB b8 HX7 HO7 HB7 HF7 RU7 hz7 RA7 RE7
   refine ⟨HX8.out, ?_⟩
   refine wpAnyH_all (rs := [12]) (by kernel_rfl) (by decide) ?_
   intro i hi
   obtain rfl : i = 12 := by simpa using hi
   unfold wpOp
   go_simp
   left
   refine (lmul_x RB8.out RU8.out HF8.out.p (Nat.lt_trans (Nat.mod_lt _ h0) hn) (by omega) h0).mono ?_
   rintro e w9 ⟨vC, rfl, hC, b9⟩
   have HX9 := Lib.hid ((b9.block _ (by omega)).trans HX8.out)
   have HO9 := Lib.hid ((b9.block _ hz8).trans HO8.out)
   have HB9 := Lib.hid (bt HB8.out b9)
   have HF9 := Lib.hid (HF8.out.on b9)
   have RU9 := Lib.hid (RU8.out.below b9)
   have hz9 : w.heap.size + 1 < w9.heap.size := (Array.getElem?_eq_some_iff.1 HO9.out).1
   have RA9 := Lib.hid (RA8.out.below b9)
   have RC9 := Lib.hid hC
   obtain ⟨sC, mC, kC, rfl⟩ := hC.shape
   clear hC b9 HX8 HO8 HB8 HF8 RU8 hz8 RA8 RB8
   refine ⟨HX9.out, ?_⟩
   refine wpAnyH_take (i := 13) (v := .agg #[.slice sA mA kA, .slice sC mC kC]) rfl (by kernel_rfl) (by kernel_rfl) (by kernel_rfl) (fun _ _ _ h => h) (yields_if rfl fun _ _ => by unfold execOp; go_simp) HX9.out ?_
   refine wpAnyH_all (rs := [14]) (by kernel_rfl) (by decide) ?_
   intro i hi
   obtain rfl : i = 14 := by simpa using hi
   have HW := Lib.hid (below_setRow2 HB9.out (show w.heap.size ≤ w.heap.size + 1 by omega) #[.slice sA mA kA, .slice sC mC kC])
   have HR := Lib.hid (setRow_heap w9 (w.heap.size + 1) _ #[.slice sA mA kA, .slice sC mC kC] _ _ HO9.out)
   have RA10 := Lib.hid (RA9.out.setRow (C' := #[.slice sA mA kA, .slice sC mC kC]) HO9.out (by decide))
   have RC10 := Lib.hid (RC9.out.setRow (C' := #[.slice sA mA kA, .slice sC mC kC]) HO9.out (by decide))
   have hS : (w9.setRow (w.heap.size + 1) #[.slice sA mA kA, .slice sC mC kC]).heap[w.heap.size]? = some (.cells qx 59 (0, 0)) := (setRow_other _ _ _ _ (by omega)).trans HX9.out
   refine store_gen rfl rfl 59 (.tmp 4) (.tmp 32) rfl (w.heap.size + 1) _ _ rfl rfl HO9.out Tryz.info7 rfl (by simp [Value.oneCell']) ⟨hS, ?_⟩
   refine wpAnyH_take (i := 15) (v := .bool true) rfl (by kernel_rfl) (by kernel_rfl) (by kernel_rfl) (fun _ _ _ h => h) (yields_if rfl fun _ _ => by unfold execOp; go_simp) hS ?_
   refine wpAnyH_done (by kernel_rfl) ?_ _
   clear HX9 HO9 HB9 HF9 RU9 hz9 RA9 RC9 hS
   go_wp2
   exact bodyPost_ret (res7 HR.out rfl Tryz.results85 _ rfl) rfl ⟨_, rfl, ⟨_, _, rfl, by rw [HMN.out]; exact RA10.out, by rw [HMN.out]; exact RC10.out⟩, HW.out⟩
  )
 ·obtain ⟨rfl, rfl⟩ := HNo.out hg
  clear hg HY HNo HIN HNL hma
  have HW := Lib.hid (below_setRow2 HB4.out (show w.heap.size ≤ w.heap.size + 1 by omega) #[.slice none 0 0, .slice none 0 0])
  have HR := Lib.hid (setRow_heap w4 (w.heap.size + 1) _ #[.slice none 0 0, .slice none 0 0] _ _ HO4.out)
  go_wp2_with (first | refine store_7 rfl (.tmp 4) (.tmp 18) rfl (w.heap.size + 1) _ #[.slice none 0 0, .slice none 0 0] rfl rfl HO4.out rfl rfl (by simp [Value.oneCell']) ?_)
  exact bodyPost_ret (res7 HR.out rfl Tryz.results85 _ rfl) rfl ⟨_, rfl, ⟨_, _, rfl, row_nil _, row_nil _⟩, HW.out⟩
theorem two_laid {w w1 : World} {g : Nat} {C D C' D' : Array Value} {t : TypeId} (h1 : w1.heap[g]? = some (.cells C t (0, 0))) (h2 : w1.heap[g + 1]? = some (.cells D t (0, 0))) (hb : Below w.heap.size w w1) (hg : w.heap.size ≤ g) :
  (w1.setRow g C').heap[g + 1]? = some (.cells D t (0, 0)) ∧ ((w1.setRow g C').setRow (g + 1) D').heap[g]? = some (.cells C' t (0, 0)) ∧ ((w1.setRow g C').setRow (g + 1) D').heap[g + 1]? = some (.cells D' t (0, 0)) ∧ Below w.heap.size w ((w1.setRow g C').setRow (g + 1) D') := by
 have e1 := (setRow_other w1 g (g + 1) C' (by omega)).trans h2
 have e2 := setRow_heap w1 g _ C' _ _ h1
 exact ⟨e1, (setRow_other _ (g + 1) g D' (by omega)).trans e2, setRow_heap _ _ _ D' _ _ e1, below_setRow2 (below_setRow2 hb hg _) (by omega) _⟩
end Go.Proofs.YtdajgcgliidjbaaGreat
namespace Go.Proofs.YtdajgcgliidjbaaGreat
open Go.RowKit
theorem inv7_in {x : Pn} {n : Nat} (h : 0 < n) : InP2 n (inv7 x n) := by
 unfold inv7
 split
 ·exact invP_in h _ _
 ·exact zero_in h
theorem inv7_txt {x : Pt} {p : ByteArray} (hx : pairB x p = true) : invPG x p = txtP (inv7 (valP x) (gV p)) ∧ invPB x p = decide (Nat.gcd (gV p) (normP (gV p) (valP x)) = 1) := by
 have hb : invPB x p = decide (Nat.gcd (gV p) (normP (gV p) (valP x)) = 1) := by unfold invPB; rw [hx, Bool.true_and]
 refine ⟨?_, hb⟩
 unfold invPG inv7
 rw [hb]
 by_cases h : Nat.gcd (gV p) (normP (gV p) (valP x)) = 1
 ·rw [decide_eq_true h, if_pos rfl, if_pos h]
 ·rw [decide_eq_false h, if_neg (by decide), if_neg h, noP_txt]
theorem inv_no {x : Pt} {p : ByteArray} (hx : pairB x p = false) : invPG x p = noP ∧ invPB x p = false := by
 have hb : invPB x p = false := by unfold invPB; rw [hx]; rfl
 exact ⟨by unfold invPG; rw [hb]; rfl, hb⟩
def InvPPost (x : Pt) (p : ByteArray) (w : World) (e : Ending) (w' : World) : Prop := e = .returned (.tuple #[.agg (aggT (invPG x p)), .bool (invPB x p)]) ∧ Below w.heap.size w w'
end Go.Proofs.YtdajgcgliidjbaaGreat
namespace Go.Proofs.YtdajgcgliidjbaaGreat
open Go.RowKit
theorem PairX.arr {w : World} {q : Array Value} {x : Pn} (h : PairX w (.agg q) x) : q.size = 2 ∧ q.all (·.oneCell') = true := by
 obtain ⟨a, b, e, h1, h2⟩ := h
 obtain ⟨a1, n1, c1, rfl⟩ := h1.shape
 obtain ⟨a2, n2, c2, rfl⟩ := h2.shape
 injection e with e
 subst e
 exact ⟨rfl, by simp [Value.oneCell']⟩
theorem PairX.setRow {w : World} {v : Value} {x : Pn} {g : Nat} {C C' : Array Value} {t : TypeId} (h : PairX w v x) (hg : w.heap[g]? = some (.cells C t (0, 0))) (ht : t ≠ 3) : PairX (w.setRow g C') v x := by
 obtain ⟨a, b, e, h1, h2⟩ := h
 exact ⟨a, b, e, h1.setRow hg ht, h2.setRow hg ht⟩
end Go.Proofs.YtdajgcgliidjbaaGreat
