import Derived.Test.YtflfeepgkcamnaaGreatUOps
import Derived.Test.YtflfeepgkcamnaaGreatJBits
/-
  The contracts of spec's l07Inverse and InversePair.
-/
namespace Go.Proofs.YtflfeepgkcamnaaGreat
open Go.RowKit

theorem row_nil (w : World) : RowX w (.slice none 0 0) 0 := ⟨0, none, 0, [], rfl, World.ownsRow_nil _ _ _ _, ⟨Limbs.nil, .inl rfl, rfl⟩⟩
theorem load_7 {ops : Array Oper} {rest : List Oper} {o : Oper} {a : Act} {w : World} {Q : Exit → Act → World → Prop} (hgd : o.guard = none) (x : Operand) (ho : o.op = .load 57 x) (g : Nat) (C : Array Value) (hs : C.size = 2)
    (hx : a.eval x = .pointer (some ⟨g, 0, none⟩)) (h : w.heap[g]? = some (.cells C 57 (0, 0))) (k : wpList Tryz.prog ops Q rest (a.put o.dst (.agg C)) w) : wpList Tryz.prog ops Q (o :: rest) a w :=
  wpList_load_row hgd _ x ho g hx _ _ _ _ h Tryz.underlying57 rfl (by rw [hs]; exact Tryz.info7) k
theorem store_7 {ops : Array Oper} {rest : List Oper} {o : Oper} {a : Act} {w : World} {Q : Exit → Act → World → Prop} (hgd : o.guard = none) (x y : Operand) (ho : o.op = .store 57 x y) (g : Nat) (C C' : Array Value)
    (hx : a.eval x = .pointer (some ⟨g, 0, none⟩)) (hy : a.eval y = .agg C') (h : w.heap[g]? = some (.cells C 57 (0, 0))) (hs : C'.size = 2) (hc : C.size = 2) (h1 : C'.all (·.oneCell') = true) (k : wpList Tryz.prog ops Q rest (a.put o.dst undef) (w.setRow g C')) : wpList Tryz.prog ops Q (o :: rest) a w :=
  wpList_plain hgd fun _ hK => wp_store_row _ x y ho g _ hx hy _ _ h (by rw [hs]; exact Tryz.info7) (hc.trans hs.symm) h1 (hK _ _ k)
/-- A struct and a word as results. -/
theorem res7 {w : World} {g : Nat} {C : Array Value} (hb : w.heap[g]? = some (.cells C 57 (0, 0))) (hs : C.size = 2) {fn : Func} {p q : Tmp} (hf : fn.results = #[.cell p 57, .tmp q]) (tmps : Array Value) (hp : tmps.getD p undef = .pointer (some ⟨g, 0, none⟩)) :
    (results fn tmps).run Tryz.prog w = .ok (.tuple #[.agg C, tmps.getD q undef]) w := by
  have e1 := run_loadVar_row (P := Tryz.prog) w g _ 57 _ _ _ hb Tryz.underlying57 rfl (by rw [hs]; exact Tryz.info7)
  have hp' : tmps[p]?.getD undef = .pointer (some ⟨g, 0, none⟩) := by simpa using hp
  simp [results, hf, hp', asAddr, e1]
theorem resP {w : World} {g : Nat} {C : Array Value} (hb : w.heap[g]? = some (.cells C 25 (0, 0))) (hs : C.size = 2) {fn : Func} {p q : Tmp} (hf : fn.results = #[.cell p 25, .tmp q]) (tmps : Array Value) (hp : tmps.getD p undef = .pointer (some ⟨g, 0, none⟩)) :
    (results fn tmps).run Tryz.prog w = .ok (.tuple #[.agg C, tmps.getD q undef]) w := by
  have e1 := run_loadVar_row (P := Tryz.prog) w g _ 25 _ _ _ hb Tryz.underlying25 rfl (by rw [hs]; exact Tryz.infoP)
  have hp' : tmps[p]?.getD undef = .pointer (some ⟨g, 0, none⟩) := by simpa using hp
  simp [results, hf, hp', asAddr, e1]
def inv7 (x : Pn) (n : Nat) : Pn := if Nat.gcd n (normP n x) = 1 then invP n x (invN (normP n x) n) else (0, 0)
def Inv7Post (x : Pn) (n : Nat) (w : World) (e : Ending) (w' : World) : Prop := ∃ v, e = .returned (.tuple #[v, .bool (decide (Nat.gcd n (normP n x) = 1))]) ∧ PairX w' v (inv7 x n) ∧ Below w.heap.size w w'
theorem one7 (a b : Value) (ha : a.oneCell' = true) (hb : b.oneCell' = true) : (#[a, b] : Array Value).all (·.oneCell') = true := by simp [ha, hb]
set_option maxRecDepth 8000 in
set_option maxHeartbeats 8000000 in
theorem linv7_x {w : World} {vx vp : Value} {x : Pn} {n : Nat} (hx : PairX w vx x) (hp : RowX w vp n) (ix : InP2 n x) (hn : n < GB) (h1 : 1 < n) :
    Calls Tryz.prog 25 #[vx, vp] w (Inv7Post x n w) := by
  obtain ⟨ax, bx, rfl, hx1, hx2⟩ := hx
  have HF0 := Lib.hid (F7.mk (x := x) (y := x) hx1 hx2 hx1 hx2 hp)
  have HX0 := Lib.hid (show PairX w (.agg #[ax, bx]) x from ⟨ax, bx, rfl, hx1, hx2⟩)
  obtain ⟨a1, n1, c1, rfl⟩ := hx1.shape
  obtain ⟨a2, n2, c2, rfl⟩ := hx2.shape
  obtain ⟨a5, n5, c5, rfl⟩ := hp.shape
  obtain ⟨qx, hqx⟩ : ∃ q : Array Value, #[.slice a1 n1 c1, .slice a2 n2 c2] = q := ⟨_, rfl⟩
  have HQX := Lib.hid hqx
  have hq2 : qx.size = 2 := by rw [← hqx]; rfl
  have HX2 := Lib.hid (heap_alloc2_old w (.cells qx 57) (.cells #[.slice none 0 0, .slice none 0 0] 57))
  have HO2 := Lib.hid (heap_alloc2_new w (.cells qx 57) (.cells #[.slice none 0 0, .slice none 0 0] 57))
  have HB2 := Lib.hid (((Below.refl w.heap.size w).alloc (Nat.le_refl _) (.cells qx 57)).alloc (by simp) (.cells #[.slice none 0 0, .slice none 0 0] 57))
  have h0 : 0 < n := by omega
  have hnl := normP_lt h0 x
  obtain ⟨i1, i2⟩ := ix
  have HIN := Lib.hid (fun m (hm : m < n) (h : m * normP n x % n = 1) => invN_eq hm h)
  have HNL := Lib.hid hnl
  unfold Inv7Post inv7
  obtain ⟨bb, hbb⟩ : ∃ b, decide (Nat.gcd n (normP n x) = 1) = b := ⟨_, rfl⟩
  obtain ⟨R7, hR7⟩ : ∃ R, (if Nat.gcd n (normP n x) = 1 then invP n x (invN (normP n x) n) else (0, 0)) = R := ⟨_, rfl⟩
  rw [hbb, hR7, hqx]
  rw [hqx] at HX0
  have HY : Hid (Nat.gcd n (normP n x) = 1 → bb = true ∧ R7 = invP n x (invN (normP n x) n)) := fun h => ⟨by rw [← hbb, decide_eq_true h], by rw [← hR7, if_pos h]⟩
  have HNo : Hid (¬ Nat.gcd n (normP n x) = 1 → bb = false ∧ R7 = (0, 0)) := fun h => ⟨by rw [← hbb, decide_eq_false h], by rw [← hR7, if_neg h]⟩
  have L1 := Lib.hid (lnorm7_x (HX0.out.below HB2.out) (HF0.out.on HB2.out).p ⟨i1, i2⟩ hn)
  clear hx1 hx2 hp hqx hR7
  generalize normP n x = N at *
  go_enter Tryz.func25, Tryz.ntmps25
  go_wp2_with (first | refine load_7 rfl (.tmp 2) rfl w.heap.size qx hq2 rfl HX2.out ?_)
  generalize (w.alloc (.cells qx 57)).alloc (.cells #[.slice none 0 0, .slice none 0 0] 57) = w2 at *
  have hz2 : w.heap.size + 1 < w2.heap.size := (Array.getElem?_eq_some_iff.1 HO2.out).1
  refine L1.out.mono ?_
  rintro e w3 ⟨v, rfl, hv, b3⟩
  have HX3 := Lib.hid ((b3.block _ (by omega)).trans HX2.out)
  have HO3 := Lib.hid ((b3.block _ hz2).trans HO2.out)
  have HB3 := Lib.hid (bt HB2.out b3)
  have HF3 := Lib.hid (HF0.out.on HB3.out)
  have L2 := Lib.hid (linv_x hv HF3.out.p HNL.out hn h1)
  have hz3 : w.heap.size + 1 < w3.heap.size := (Array.getElem?_eq_some_iff.1 HO3.out).1
  obtain ⟨av, nv, cv, rfl⟩ := hv.shape
  clear hv b3 HX2 HO2 HB2 hz2 L1 HX0 HF0
  go_wp2_with fail
  refine L2.out.mono ?_
  rintro e w4 ⟨u, m, rfl, hu, hmn, hma, b4⟩
  rw [hbb]
  have HX4 := Lib.hid ((b4.block _ (by omega)).trans HX3.out)
  have HO4 := Lib.hid ((b4.block _ hz3).trans HO3.out)
  have HB4 := Lib.hid (bt HB3.out b4)
  have HF4 := Lib.hid (HF3.out.on b4)
  have RU := Lib.hid hu
  have hz4 : w.heap.size + 1 < w4.heap.size := (Array.getElem?_eq_some_iff.1 HO4.out).1
  obtain ⟨au, nu, cu, rfl⟩ := hu.shape
  clear hu b4 HX3 HO3 HB3 hz3 L2 HF3 hbb
  by_cases hg : Nat.gcd n N = 1
  · obtain ⟨rfl, rfl⟩ := HY.out hg
    rw [hg, Nat.mod_eq_of_lt h1] at hma
    have hm := HIN.out m hmn hma
    have HMN := Lib.hid hm
    clear hg HY HNo hma hm HIN HNL
    go_wp2_with fail
    have HX5 : Hid (w4.drew.heap[w.heap.size]? = some (.cells qx 57 (0, 0))) := HX4.out
    have HO5 : Hid (w4.drew.heap[w.heap.size + 1]? = some (.cells #[.slice none 0 0, .slice none 0 0] 57 (0, 0))) := HO4.out
    have HB5 := Lib.hid (bt HB4.out (bd7 w4))
    have HF5 := Lib.hid (HF4.out.on (bd7 w4))
    have RU5 := Lib.hid (RU.out.below (bd7 w4))
    have hz5 : w.heap.size + 1 < w4.drew.heap.size := hz4
    clear HX4 HO4 HB4 HF4 RU hz4
    refine wp_region_held (S := fun w' => w'.heap[w.heap.size]? = some (.cells qx 57 (0, 0))) (by kernel_rfl) ?_
    change wpAnyH _ _ _ _ _ _ _ _ w4.drew
    generalize w4.drew = w5 at *
    refine wpAnyH_take (i := 0) (v := .pointer (some ⟨w.heap.size, 0, none⟩)) rfl (by kernel_rfl) (by kernel_rfl) (by kernel_rfl) (fun _ _ _ h => h) (yields_if rfl fun _ _ => by unfold execOp; go_simp) HX5.out ?_
    refine wpAnyH_take (i := 1) (v := .slice a1 n1 c1) rfl (by kernel_rfl) (by kernel_rfl) (by kernel_rfl) (fun _ _ _ h => h) (yields_if rfl fun _ hw => by have c := (pair_cells HQX.out hw).1; unfold execOp; go_simp) HX5.out ?_
    refine wpAnyH_take (i := 2) (v := .slice au nu cu) rfl (by kernel_rfl) (by kernel_rfl) (by kernel_rfl) (fun _ _ _ h => h) (yields_if rfl fun _ _ => by unfold execOp; go_simp) HX5.out ?_
    refine wpAnyH_take (i := 3) (v := .slice a5 n5 c5) rfl (by kernel_rfl) (by kernel_rfl) (by kernel_rfl) (fun _ _ _ h => h) (yields_if rfl fun _ _ => by unfold execOp; go_simp) HX5.out ?_
    refine wpAnyH_take (i := 6) (v := .pointer (some ⟨w.heap.size, 1, none⟩)) rfl (by kernel_rfl) (by kernel_rfl) (by kernel_rfl) (fun _ _ _ h => h) (yields_if rfl fun _ _ => by unfold execOp; go_simp) HX5.out ?_
    refine wpAnyH_take (i := 7) (v := .slice a2 n2 c2) rfl (by kernel_rfl) (by kernel_rfl) (by kernel_rfl) (fun _ _ _ h => h) (yields_if rfl fun _ hw => by have c := (pair_cells HQX.out hw).2; unfold execOp; go_simp) HX5.out ?_
    refine wpAnyH_take (i := 8) (v := .slice a5 n5 c5) rfl (by kernel_rfl) (by kernel_rfl) (by kernel_rfl) (fun _ _ _ h => h) (yields_if rfl fun _ _ => by unfold execOp; go_simp) HX5.out ?_
    refine wpAnyH_take (i := 10) (v := .slice au nu cu) rfl (by kernel_rfl) (by kernel_rfl) (by kernel_rfl) (fun _ _ _ h => h) (yields_if rfl fun _ _ => by unfold execOp; go_simp) HX5.out ?_
    refine wpAnyH_take (i := 11) (v := .slice a5 n5 c5) rfl (by kernel_rfl) (by kernel_rfl) (by kernel_rfl) (fun _ _ _ h => h) (yields_if rfl fun _ _ => by unfold execOp; go_simp) HX5.out ?_
    refine wpAnyH_all (rs := [4, 5]) (by kernel_rfl) (by decide) ?_
    intro i hi
    rcases (by simpa using hi : i = 4 ∨ i = 5) with rfl | rfl
    focus
      unfold wpOp
      go_simp
      left
      refine (lmul_x HF5.out.x1 RU5.out HF5.out.p (by omega) (by omega) h0).mono ?_
      rintro e w6 ⟨vA, rfl, hA, b6⟩
      have HX6 := Lib.hid ((b6.block _ (by omega)).trans HX5.out)
      have HO6 := Lib.hid ((b6.block _ hz5).trans HO5.out)
      have HB6 := Lib.hid (bt HB5.out b6)
      have HF6 := Lib.hid (HF5.out.on b6)
      have RU6 := Lib.hid (RU5.out.below b6)
      have hz6 : w.heap.size + 1 < w6.heap.size := (Array.getElem?_eq_some_iff.1 HO6.out).1
      have RA6 := Lib.hid hA
      obtain ⟨sA, mA, kA, rfl⟩ := hA.shape
      clear hA b6 HX5 HO5 HB5 HF5 RU5 hz5
      refine ⟨HX6.out, ?_⟩
      refine wpAnyH_all (rs := [5]) (by kernel_rfl) (by decide) ?_
      intro i hi
      obtain rfl : i = 5 := by simpa using hi
      unfold wpOp
      go_simp
      left
      have b7 : Below w6.heap.size w6 (w6.alloc (.cells #[] 3)) := (Below.refl _ _).alloc (Nat.le_refl _) _
      have HX7 := Lib.hid ((b7.block _ (by omega)).trans HX6.out)
      have HO7 := Lib.hid ((b7.block _ hz6).trans HO6.out)
      have HB7 := Lib.hid (bt HB6.out b7)
      have HF7 := Lib.hid (HF6.out.on b7)
      have RU7 := Lib.hid (RU6.out.below b7)
      have hz7 : w.heap.size + 1 < (w6.alloc (.cells #[] 3)).heap.size := (Array.getElem?_eq_some_iff.1 HO7.out).1
      have RA7 := Lib.hid (RA6.out.below b7)
      have RE7 := Lib.hid (row_none w6)
      clear b7 HX6 HO6 HB6 HF6 RU6 hz6 RA6
      generalize w6.alloc (.cells #[] 3) = w7 at *
    rotate_left
    focus
      unfold wpOp
      go_simp
      left
      have b6 : Below w5.heap.size w5 (w5.alloc (.cells #[] 3)) := (Below.refl _ _).alloc (Nat.le_refl _) _
      have HX6 := Lib.hid ((b6.block _ (by omega)).trans HX5.out)
      have HO6 := Lib.hid ((b6.block _ hz5).trans HO5.out)
      have HB6 := Lib.hid (bt HB5.out b6)
      have HF6 := Lib.hid (HF5.out.on b6)
      have RU6 := Lib.hid (RU5.out.below b6)
      have hz6 : w.heap.size + 1 < (w5.alloc (.cells #[] 3)).heap.size := (Array.getElem?_eq_some_iff.1 HO6.out).1
      have RE6 := Lib.hid (row_none w5)
      clear b6 HX5 HO5 HB5 HF5 RU5 hz5
      generalize w5.alloc (.cells #[] 3) = w6 at *
      refine ⟨HX6.out, ?_⟩
      refine wpAnyH_all (rs := [4]) (by kernel_rfl) (by decide) ?_
      intro i hi
      obtain rfl : i = 4 := by simpa using hi
      unfold wpOp
      go_simp
      left
      refine (lmul_x HF6.out.x1 RU6.out HF6.out.p (by omega) (by omega) h0).mono ?_
      rintro e w7 ⟨vA, rfl, hA, b7⟩
      have HX7 := Lib.hid ((b7.block _ (by omega)).trans HX6.out)
      have HO7 := Lib.hid ((b7.block _ hz6).trans HO6.out)
      have HB7 := Lib.hid (bt HB6.out b7)
      have HF7 := Lib.hid (HF6.out.on b7)
      have RU7 := Lib.hid (RU6.out.below b7)
      have hz7 : w.heap.size + 1 < w7.heap.size := (Array.getElem?_eq_some_iff.1 HO7.out).1
      have RA7 := Lib.hid hA
      have RE7 := Lib.hid (RE6.out.below b7)
      obtain ⟨sA, mA, kA, rfl⟩ := hA.shape
      clear hA b7 HX6 HO6 HB6 HF6 RU6 hz6 RE6
    rotate_left
    all_goals (
      refine ⟨HX7.out, ?_⟩
      refine wpAnyH_all (rs := [9]) (by kernel_rfl) (by decide) ?_
      intro i hi
      obtain rfl : i = 9 := by simpa using hi
      unfold wpOp
      go_simp
      left
      refine (lsub_x RE7.out HF7.out.x2 HF7.out.p h0 i2 hn).mono ?_
      rintro e w8 ⟨vB, rfl, hB, b8⟩
      have HX8 := Lib.hid ((b8.block _ (by omega)).trans HX7.out)
      have HO8 := Lib.hid ((b8.block _ hz7).trans HO7.out)
      have HB8 := Lib.hid (bt HB7.out b8)
      have HF8 := Lib.hid (HF7.out.on b8)
      have RU8 := Lib.hid (RU7.out.below b8)
      have hz8 : w.heap.size + 1 < w8.heap.size := (Array.getElem?_eq_some_iff.1 HO8.out).1
      have RA8 := Lib.hid (RA7.out.below b8)
      have RB8 := Lib.hid hB
      obtain ⟨sB, mB, kB, rfl⟩ := hB.shape
      clear hB b8 HX7 HO7 HB7 HF7 RU7 hz7 RA7 RE7
      refine ⟨HX8.out, ?_⟩
      refine wpAnyH_all (rs := [12]) (by kernel_rfl) (by decide) ?_
      intro i hi
      obtain rfl : i = 12 := by simpa using hi
      unfold wpOp
      go_simp
      left
      refine (lmul_x RB8.out RU8.out HF8.out.p (Nat.lt_trans (Nat.mod_lt _ h0) hn) (by omega) h0).mono ?_
      rintro e w9 ⟨vC, rfl, hC, b9⟩
      have HX9 := Lib.hid ((b9.block _ (by omega)).trans HX8.out)
      have HO9 := Lib.hid ((b9.block _ hz8).trans HO8.out)
      have HB9 := Lib.hid (bt HB8.out b9)
      have HF9 := Lib.hid (HF8.out.on b9)
      have RU9 := Lib.hid (RU8.out.below b9)
      have hz9 : w.heap.size + 1 < w9.heap.size := (Array.getElem?_eq_some_iff.1 HO9.out).1
      have RA9 := Lib.hid (RA8.out.below b9)
      have RC9 := Lib.hid hC
      obtain ⟨sC, mC, kC, rfl⟩ := hC.shape
      clear hC b9 HX8 HO8 HB8 HF8 RU8 hz8 RA8 RB8
      refine ⟨HX9.out, ?_⟩
      refine wpAnyH_take (i := 13) (v := .agg #[.slice sA mA kA, .slice sC mC kC]) rfl (by kernel_rfl) (by kernel_rfl) (by kernel_rfl) (fun _ _ _ h => h) (yields_if rfl fun _ _ => by unfold execOp; go_simp) HX9.out ?_
      refine wpAnyH_all (rs := [14]) (by kernel_rfl) (by decide) ?_
      intro i hi
      obtain rfl : i = 14 := by simpa using hi
      have HW := Lib.hid (below_setRow2 HB9.out (show w.heap.size ≤ w.heap.size + 1 by omega) #[.slice sA mA kA, .slice sC mC kC])
      have HR := Lib.hid (setRow_heap w9 (w.heap.size + 1) _ #[.slice sA mA kA, .slice sC mC kC] _ _ HO9.out)
      have RA10 := Lib.hid (RA9.out.setRow (C' := #[.slice sA mA kA, .slice sC mC kC]) HO9.out (by decide))
      have RC10 := Lib.hid (RC9.out.setRow (C' := #[.slice sA mA kA, .slice sC mC kC]) HO9.out (by decide))
      have hS : (w9.setRow (w.heap.size + 1) #[.slice sA mA kA, .slice sC mC kC]).heap[w.heap.size]? = some (.cells qx 57 (0, 0)) := (setRow_other _ _ _ _ (by omega)).trans HX9.out
      refine store_gen rfl rfl 57 (.tmp 4) (.tmp 32) rfl (w.heap.size + 1) _ _ rfl rfl HO9.out Tryz.info7 rfl (by simp [Value.oneCell']) ⟨hS, ?_⟩
      refine wpAnyH_take (i := 15) (v := .bool true) rfl (by kernel_rfl) (by kernel_rfl) (by kernel_rfl) (fun _ _ _ h => h) (yields_if rfl fun _ _ => by unfold execOp; go_simp) hS ?_
      refine wpAnyH_done (by kernel_rfl) ?_ _
      clear HX9 HO9 HB9 HF9 RU9 hz9 RA9 RC9 hS
      go_wp2
      exact bodyPost_ret (res7 HR.out rfl Tryz.results25 _ rfl) rfl ⟨_, rfl, ⟨_, _, rfl, by rw [HMN.out]; exact RA10.out, by rw [HMN.out]; exact RC10.out⟩, HW.out⟩
    )
  · obtain ⟨rfl, rfl⟩ := HNo.out hg
    clear hg HY HNo HIN HNL hma
    have HW := Lib.hid (below_setRow2 HB4.out (show w.heap.size ≤ w.heap.size + 1 by omega) #[.slice none 0 0, .slice none 0 0])
    have HR := Lib.hid (setRow_heap w4 (w.heap.size + 1) _ #[.slice none 0 0, .slice none 0 0] _ _ HO4.out)
    go_wp2_with (first | refine store_7 rfl (.tmp 4) (.tmp 18) rfl (w.heap.size + 1) _ #[.slice none 0 0, .slice none 0 0] rfl rfl HO4.out rfl rfl (by simp [Value.oneCell']) ?_)
    exact bodyPost_ret (res7 HR.out rfl Tryz.results25 _ rfl) rfl ⟨_, rfl, ⟨_, _, rfl, row_nil _, row_nil _⟩, HW.out⟩
/-- Two structs laid one behind the other into two blocks made new. -/
theorem two_laid {w w1 : World} {g : Nat} {C D C' D' : Array Value} {t : TypeId} (h1 : w1.heap[g]? = some (.cells C t (0, 0))) (h2 : w1.heap[g + 1]? = some (.cells D t (0, 0))) (hb : Below w.heap.size w w1) (hg : w.heap.size ≤ g) :
    (w1.setRow g C').heap[g + 1]? = some (.cells D t (0, 0)) ∧ ((w1.setRow g C').setRow (g + 1) D').heap[g]? = some (.cells C' t (0, 0)) ∧ ((w1.setRow g C').setRow (g + 1) D').heap[g + 1]? = some (.cells D' t (0, 0)) ∧ Below w.heap.size w ((w1.setRow g C').setRow (g + 1) D') := by
  have e1 := (setRow_other w1 g (g + 1) C' (by omega)).trans h2
  have e2 := setRow_heap w1 g _ C' _ _ h1
  exact ⟨e1, (setRow_other _ (g + 1) g D' (by omega)).trans e2, setRow_heap _ _ _ D' _ _ e1, below_setRow2 (below_setRow2 hb hg _) (by omega) _⟩
end Go.Proofs.YtflfeepgkcamnaaGreat

/-
  The contract of spec's InversePair.
-/
namespace Go.Proofs.YtflfeepgkcamnaaGreat
open Go.RowKit

theorem inv7_in {x : Pn} {n : Nat} (h : 0 < n) : InP2 n (inv7 x n) := by
  unfold inv7
  split
  · exact invP_in h _ _
  · exact zero_in h
theorem inv7_txt {x : Pt} {p : ByteArray} (hx : pairB x p = true) : invPG x p = txtP (inv7 (valP x) (gV p)) ∧ invPB x p = decide (Nat.gcd (gV p) (normP (gV p) (valP x)) = 1) := by
  have hb : invPB x p = decide (Nat.gcd (gV p) (normP (gV p) (valP x)) = 1) := by unfold invPB; rw [hx, Bool.true_and]
  refine ⟨?_, hb⟩
  unfold invPG inv7
  rw [hb]
  by_cases h : Nat.gcd (gV p) (normP (gV p) (valP x)) = 1
  · rw [decide_eq_true h, if_pos rfl, if_pos h]
  · rw [decide_eq_false h, if_neg (by decide), if_neg h, noP_txt]
theorem inv_no {x : Pt} {p : ByteArray} (hx : pairB x p = false) : invPG x p = noP ∧ invPB x p = false := by
  have hb : invPB x p = false := by unfold invPB; rw [hx]; rfl
  exact ⟨by unfold invPG; rw [hb]; rfl, hb⟩
def InvPPost (x : Pt) (p : ByteArray) (w : World) (e : Ending) (w' : World) : Prop := e = .returned (.tuple #[.agg (aggT (invPG x p)), .bool (invPB x p)]) ∧ Below w.heap.size w w'
set_option maxRecDepth 8000 in
set_option maxHeartbeats 4000000 in
theorem inversePair_any (x : Pt) (p : ByteArray) (w : World) : Calls Tryz.prog 7 #[.agg (aggT x), .string p] w (InvPPost x p w) := by
  have HP := Lib.hid (pairOk_any x p)
  have HX2 := Lib.hid (heap_alloc2_old w (.cells (aggT x) 25) (.cells #[.string ⟨#[]⟩, .string ⟨#[]⟩] 25))
  have HO2 := Lib.hid (heap_alloc2_new w (.cells (aggT x) 25) (.cells #[.string ⟨#[]⟩, .string ⟨#[]⟩] 25))
  have HB2 := Lib.hid (((Below.refl w.heap.size w).alloc (Nat.le_refl _) (.cells (aggT x) 25)).alloc (by simp) (.cells #[.string ⟨#[]⟩, .string ⟨#[]⟩] 25))
  unfold InvPPost
  cases hx : pairB x p with
  | false =>
    rw [hx] at HP
    rw [(inv_no hx).1, (inv_no hx).2]
    clear hx
    go_enter Tryz.func7, Tryz.ntmps7
    go_wp2_with (first | refine load_p rfl (.tmp 2) rfl w.heap.size x rfl HX2.out ?_)
    generalize (w.alloc (.cells (aggT x) 25)).alloc (.cells #[.string ⟨#[]⟩, .string ⟨#[]⟩] 25) = w2 at *
    have hz2 : w.heap.size + 1 < w2.heap.size := (Array.getElem?_eq_some_iff.1 HO2.out).1
    refine (HP.out _).mono ?_
    rintro e w3 ⟨rfl, b3⟩
    have HO3 := Lib.hid ((b3.block _ hz2).trans HO2.out)
    have HB3 := Lib.hid (bt HB2.out b3)
    have HW := Lib.hid (below_setRow2 HB3.out (show w.heap.size ≤ w.heap.size + 1 by omega) (aggT noP))
    have HR := Lib.hid (setRow_heap w3 (w.heap.size + 1) _ (aggT noP) _ _ HO3.out)
    clear b3 HB2 HO2 HX2 HP
    go_wp2_with (first | refine store_p rfl (.tmp 4) (.tmp 12) rfl (w.heap.size + 1) _ noP rfl rfl HO3.out rfl ?_)
    exact bodyPost_ret (resP HR.out rfl Tryz.results7 _ rfl) rfl ⟨rfl, HW.out⟩
  | true =>
    rw [hx] at HP
    rw [(inv7_txt hx).1, (inv7_txt hx).2]
    obtain ⟨⟨sx1, sx2⟩, ix⟩ := in_pair hx
    obtain ⟨okp, h1⟩ := modB_parts (pairB_parts hx).1
    have sp := okG_size okp
    have hn := gV_lt okp
    have I1 := Lib.hid (fun w => in7_x x w sx1 sx2)
    have I3 := Lib.hid (fun w => in_x p w (by omega))
    have i7 := inv7_in (x := valP x) (show 0 < gV p by omega)
    have HI7 := Lib.hid (And.intro (sm_one (Nat.lt_trans i7.1 hn)) (sm_one (Nat.lt_trans i7.2 hn)))
    have HL7 : Hid (∀ {w : World} {vx vp : Value}, PairX w vx (valP x) → RowX w vp (gV p) → Calls Tryz.prog 25 #[vx, vp] w (Inv7Post (valP x) (gV p) w)) := fun a b => linv7_x a b ix hn h1
    unfold Inv7Post at HL7
    obtain ⟨bb, hbb⟩ : ∃ b, decide (Nat.gcd (gV p) (normP (gV p) (valP x)) = 1) = b := ⟨_, rfl⟩
    obtain ⟨Y, hY⟩ : ∃ Y, inv7 (valP x) (gV p) = Y := ⟨_, rfl⟩
    rw [hbb, hY] at HL7 ⊢
    rw [hY] at HI7
    clear hx sx1 sx2 okp sp i7 hbb hY ix
    go_enter Tryz.func7, Tryz.ntmps7
    go_wp2_with (first | refine load_p rfl (.tmp 2) rfl w.heap.size x rfl HX2.out ?_)
    generalize (w.alloc (.cells (aggT x) 25)).alloc (.cells #[.string ⟨#[]⟩, .string ⟨#[]⟩] 25) = w2 at *
    have hz2 : w.heap.size + 1 < w2.heap.size := (Array.getElem?_eq_some_iff.1 HO2.out).1
    refine (HP.out _).mono ?_
    rintro e w3 ⟨rfl, b3⟩
    have HX3 := Lib.hid ((b3.block _ (by omega)).trans HX2.out)
    have HO3 := Lib.hid ((b3.block _ hz2).trans HO2.out)
    have HB3 := Lib.hid (bt HB2.out b3)
    have hz3 : w.heap.size + 1 < w3.heap.size := (Array.getElem?_eq_some_iff.1 HO3.out).1
    clear b3 HB2 HO2 HX2 HP hz2
    go_wp2_with (first | refine load_p rfl (.tmp 2) rfl w.heap.size x rfl HX3.out ?_)
    refine (I1.out _).mono ?_
    rintro e w4 ⟨vx, rfl, hvx, b4⟩
    have HV4 := Lib.hid hvx
    have HO4 := Lib.hid ((b4.block _ hz3).trans HO3.out)
    have HB4 := Lib.hid (bt HB3.out b4)
    have hz4 : w.heap.size + 1 < w4.heap.size := (Array.getElem?_eq_some_iff.1 HO4.out).1
    obtain ⟨ax, bx, rfl, _, _⟩ := hvx
    clear b4 HX3 HO3 HB3 hz3 I1
    go_wp2_with fail
    refine (I3.out _).mono ?_
    rintro e w5 ⟨vp, rfl, hvp, b5⟩
    have L1 := Lib.hid (HL7.out (HV4.out.below b5) hvp)
    have HO5 := Lib.hid ((b5.block _ hz4).trans HO4.out)
    have HB5 := Lib.hid (bt HB4.out b5)
    have hz5 : w.heap.size + 1 < w5.heap.size := (Array.getElem?_eq_some_iff.1 HO5.out).1
    obtain ⟨a5, n5, c5, rfl⟩ := hvp.shape
    clear b5 HO4 HB4 hz4 HV4 hvp I3 HL7
    go_wp2_with fail
    refine L1.out.mono ?_
    rintro e w6 ⟨v, rfl, hv, b6⟩
    have HO6 := Lib.hid ((b6.block _ hz5).trans HO5.out)
    have HB6 := Lib.hid (bt HB5.out b6)
    have hz6 : w.heap.size + 1 < w6.heap.size := (Array.getElem?_eq_some_iff.1 HO6.out).1
    have HV6 := Lib.hid hv
    obtain ⟨q1, q2, rfl, h11, h22⟩ := hv
    obtain ⟨a7, n7, c7, rfl⟩ := h11.shape
    obtain ⟨a8, n8, c8, rfl⟩ := h22.shape
    obtain ⟨qv, hqv⟩ : ∃ q : Array Value, #[.slice a7 n7 c7, .slice a8 n8 c8] = q := ⟨_, rfl⟩
    have hq2 : qv.size = 2 := by rw [← hqv]; rfl
    have hq1 : qv.all (·.oneCell') = true := by rw [← hqv]; simp [Value.oneCell']
    rw [hqv] at HV6 ⊢
    have HN7 := Lib.hid (heap_alloc_new w6 (.cells #[.slice none 0 0, .slice none 0 0] 57))
    have HX7 := Lib.hid (setRow_heap _ w6.heap.size _ qv _ _ HN7.out)
    have b7 : Below w6.heap.size w6 ((w6.alloc (.cells #[.slice none 0 0, .slice none 0 0] 57)).setRow w6.heap.size qv) := below_setRow2 ((Below.refl _ _).alloc (Nat.le_refl _) _) (Nat.le_refl _) _
    have HO7 := Lib.hid ((b7.block _ hz6).trans HO6.out)
    have HB7 := Lib.hid (bt HB6.out b7)
    have O1 := Lib.hid (out7_x (HV6.out.below b7) HI7.out.1 HI7.out.2)
    have hz7 : w.heap.size + 1 < ((w6.alloc (.cells #[.slice none 0 0, .slice none 0 0] 57)).setRow w6.heap.size qv).heap.size := (Array.getElem?_eq_some_iff.1 HO7.out).1
    clear b6 HO5 HB5 hz5 L1 h11 h22 hqv b7 HB6 HO6 hz6 HV6
    go_wp2_with (first | refine store_7 rfl (.tmp 6) (.tmp 19) rfl w6.heap.size _ qv rfl rfl HN7.out hq2 rfl hq1 ?_ | refine load_7 rfl (.tmp 6) rfl w6.heap.size qv hq2 rfl HX7.out ?_)
    generalize (w6.alloc (.cells #[.slice none 0 0, .slice none 0 0] 57)).setRow w6.heap.size qv = w7 at *
    refine O1.out.mono ?_
    rintro e w8 ⟨rfl, b8⟩
    have HO8 := Lib.hid ((b8.block _ hz7).trans HO7.out)
    have HB8 := Lib.hid (bt HB7.out b8)
    have HW := Lib.hid (below_setRow2 HB8.out (show w.heap.size ≤ w.heap.size + 1 by omega) (aggT (txtP Y)))
    have HR := Lib.hid (setRow_heap w8 (w.heap.size + 1) _ (aggT (txtP Y)) _ _ HO8.out)
    clear b8 HO7 HB7 O1 HX7 HN7 HB8
    go_wp2_with (first | refine store_p rfl (.tmp 4) (.tmp 22) rfl (w.heap.size + 1) _ (txtP Y) rfl rfl HO8.out rfl ?_)
    exact bodyPost_ret (resP HR.out rfl Tryz.results7 _ rfl) rfl ⟨rfl, HW.out⟩
end Go.Proofs.YtflfeepgkcamnaaGreat

/-
  The contract of spec's PowPair.
-/
namespace Go.Proofs.YtflfeepgkcamnaaGreat
open Go.RowKit

theorem PairX.arr {w : World} {q : Array Value} {x : Pn} (h : PairX w (.agg q) x) : q.size = 2 ∧ q.all (·.oneCell') = true := by
  obtain ⟨a, b, e, h1, h2⟩ := h
  obtain ⟨a1, n1, c1, rfl⟩ := h1.shape
  obtain ⟨a2, n2, c2, rfl⟩ := h2.shape
  injection e with e
  subst e
  exact ⟨rfl, by simp [Value.oneCell']⟩
theorem PairX.setRow {w : World} {v : Value} {x : Pn} {g : Nat} {C C' : Array Value} {t : TypeId} (h : PairX w v x) (hg : w.heap[g]? = some (.cells C t (0, 0))) (ht : t ≠ 3) : PairX (w.setRow g C') v x := by
  obtain ⟨a, b, e, h1, h2⟩ := h
  exact ⟨a, b, e, h1.setRow hg ht, h2.setRow hg ht⟩
/-- What PowPair's rounds carry along. -/
structure PW (w wr : World) (g8 g9 : Nat) (qy q : Array Value) (vp : Value) (X a : Pn) (n : Nat) : Prop where
  x8 : wr.heap[g8]? = some (.cells qy 57 (0, 0))
  x9 : wr.heap[g9]? = some (.cells q 57 (0, 0))
  o : wr.heap[w.heap.size + 1]? = some (.cells #[.string ⟨#[]⟩, .string ⟨#[]⟩] 25 (0, 0))
  b : Below w.heap.size w wr
  ne : g8 ≠ g9
  no : w.heap.size + 1 ≠ g9
  ge : w.heap.size ≤ g9
  r8 : PairX wr (.agg qy) X
  r9 : PairX wr (.agg q) a
  p : RowX wr vp n
theorem PW.on {w wr w' : World} {g8 g9 : Nat} {qy q : Array Value} {vp : Value} {X a : Pn} {n : Nat} (h : PW w wr g8 g9 qy q vp X a n) (b : Below wr.heap.size wr w') : PW w w' g8 g9 qy q vp X a n :=
  ⟨(b.block _ (Array.getElem?_eq_some_iff.1 h.x8).1).trans h.x8, (b.block _ (Array.getElem?_eq_some_iff.1 h.x9).1).trans h.x9, (b.block _ (Array.getElem?_eq_some_iff.1 h.o).1).trans h.o, bt h.b b, h.ne, h.no, h.ge, h.r8.below b, h.r9.below b, h.p.below b⟩
theorem PW.put {w wr : World} {g8 g9 : Nat} {qy q q' : Array Value} {vp : Value} {X a a' : Pn} {n : Nat} (h : PW w wr g8 g9 qy q vp X a n) (r : PairX wr (.agg q') a') : PW w (wr.setRow g9 q') g8 g9 qy q' vp X a' n :=
  ⟨(setRow_other _ _ _ _ h.ne).trans h.x8, setRow_heap wr g9 _ q' _ _ h.x9, (setRow_other _ _ _ _ h.no).trans h.o, below_setRow2 h.b h.ge _, h.ne, h.no, h.ge, h.r8.setRow h.x9 (by decide), r.setRow h.x9 (by decide), h.p.setRow h.x9 (by decide)⟩
theorem pw_start {w w5 : World} {qy : Array Value} {vp : Value} {X : Pn} {n : Nat} (ho : w5.heap[w.heap.size + 1]? = some (.cells #[.string ⟨#[]⟩, .string ⟨#[]⟩] 25 (0, 0))) (hb : Below w.heap.size w w5) (hv : RowX w5 vp n) (hy : PairX w5 (.agg qy) X) :
    PW w ((((w5.alloc (.cells #[.slice none 0 0, .slice none 0 0] 57)).setRow w5.heap.size qy).alloc (.cells #[.int .i64 1] 3)).alloc (.cells #[.slice (some ⟨w5.heap.size + 1, 0, none⟩) 1 1, .slice none 0 0] 57)) w5.heap.size (w5.heap.size + 1 + 1) qy #[.slice (some ⟨w5.heap.size + 1, 0, none⟩) 1 1, .slice none 0 0] vp X (1, 0) n := by
  have hz := (Array.getElem?_eq_some_iff.1 ho).1
  have r1 := heap_alloc_new w5 (.cells #[.slice none 0 0, .slice none 0 0] 57)
  have b1 : Below w5.heap.size w5 ((w5.alloc (.cells #[.slice none 0 0, .slice none 0 0] 57)).setRow w5.heap.size qy) := below_setRow2 ((Below.refl _ _).alloc (Nat.le_refl _) _) (Nat.le_refl _) _
  have x1 := setRow_heap _ w5.heap.size _ qy _ _ r1
  have s1 : ((w5.alloc (.cells #[.slice none 0 0, .slice none 0 0] 57)).setRow w5.heap.size qy).heap.size = w5.heap.size + 1 := by rw [size_setRow]; simp
  generalize (w5.alloc (.cells #[.slice none 0 0, .slice none 0 0] 57)).setRow w5.heap.size qy = w6 at *
  have b2 : Below w6.heap.size w6 (w6.alloc (.cells #[.int .i64 1] 3)) := (Below.refl _ _).alloc (Nat.le_refl _) _
  have ro : RowX (w6.alloc (.cells #[.int .i64 1] 3)) (.slice (some ⟨w6.heap.size, 0, none⟩) 1 1) 1 := row_one w6 1 (by omega) (by omega)
  have s2 : (w6.alloc (.cells #[.int .i64 1] 3)).heap.size = w6.heap.size + 1 := by simp
  rw [s1] at ro s2
  generalize w6.alloc (.cells #[.int .i64 1] 3) = w7 at *
  have r3 := heap_alloc_new w7 (.cells #[.slice (some ⟨w5.heap.size + 1, 0, none⟩) 1 1, .slice none 0 0] 57)
  rw [s2] at r3
  have b3 : Below w7.heap.size w7 (w7.alloc (.cells #[.slice (some ⟨w5.heap.size + 1, 0, none⟩) 1 1, .slice none 0 0] 57)) := (Below.refl _ _).alloc (Nat.le_refl _) _
  have b13 := bt (bt b1 b2) b3
  have sz := hb.size
  exact ⟨(b3.block _ (by omega)).trans ((b2.block _ (by omega)).trans x1), r3, (b13.block _ hz).trans ho, bt hb b13, by omega, by omega, by omega, hy.below b13, ⟨_, _, rfl, ro.below b3, row_nil _⟩, hv.below b13⟩
set_option maxRecDepth 8000 in
set_option maxHeartbeats 8000000 in
theorem powPair_any (x : Pt) (m p : ByteArray) (w : World) : Calls Tryz.prog 10 #[.agg (aggT x), .string m, .string p] w fun e w' => e = .returned (.agg (aggT (powPG x m p))) ∧ Below w.heap.size w w' := by
  have HP := Lib.hid (pairOk_any x p)
  have HK := Lib.hid (greatOk_any m)
  have HX2 := Lib.hid (heap_alloc2_old w (.cells (aggT x) 25) (.cells #[.string ⟨#[]⟩, .string ⟨#[]⟩] 25))
  have HO2 := Lib.hid (heap_alloc2_new w (.cells (aggT x) 25) (.cells #[.string ⟨#[]⟩, .string ⟨#[]⟩] 25))
  have HB2 := Lib.hid (((Below.refl w.heap.size w).alloc (Nat.le_refl _) (.cells (aggT x) 25)).alloc (by simp) (.cells #[.string ⟨#[]⟩, .string ⟨#[]⟩] 25))
  unfold powPG
  cases hx : pairB x p with
  | false =>
    rw [hx] at HP
    rw [Bool.false_and, if_neg (by decide)]
    clear hx
    go_enter Tryz.func10, Tryz.ntmps10
    go_wp2_with (first | refine load_p rfl (.tmp 3) rfl w.heap.size x rfl HX2.out ?_)
    generalize (w.alloc (.cells (aggT x) 25)).alloc (.cells #[.string ⟨#[]⟩, .string ⟨#[]⟩] 25) = w2 at *
    have hz2 : w.heap.size + 1 < w2.heap.size := (Array.getElem?_eq_some_iff.1 HO2.out).1
    refine (HP.out _).mono ?_
    rintro e w3 ⟨rfl, b3⟩
    have HO3 := Lib.hid ((b3.block _ hz2).trans HO2.out)
    have HB3 := Lib.hid (bt HB2.out b3)
    have HW := Lib.hid (below_setRow2 HB3.out (show w.heap.size ≤ w.heap.size + 1 by omega) (aggT noP))
    have HR := Lib.hid (setRow_heap w3 (w.heap.size + 1) _ (aggT noP) _ _ HO3.out)
    clear b3 HB2 HO2 HX2 HP
    go_wp2_with (first | refine store_p rfl (.tmp 6) (.tmp 20) rfl (w.heap.size + 1) _ noP rfl rfl HO3.out rfl ?_)
    exact bodyPost_ret (results_cell_row Tryz.results10 _ _ (w.heap.size + 1) _ _ _ _ rfl HR.out Tryz.underlying25 rfl Tryz.infoP) rfl ⟨rfl, HW.out⟩
  | true =>
    rw [hx] at HP
    rw [Bool.true_and]
    cases hm : okG m with
    | false =>
      rw [hm] at HK
      rw [if_neg (by decide)]
      clear hx hm
      go_enter Tryz.func10, Tryz.ntmps10
      go_wp2_with (first | refine load_p rfl (.tmp 3) rfl w.heap.size x rfl HX2.out ?_)
      generalize (w.alloc (.cells (aggT x) 25)).alloc (.cells #[.string ⟨#[]⟩, .string ⟨#[]⟩] 25) = w2 at *
      have hz2 : w.heap.size + 1 < w2.heap.size := (Array.getElem?_eq_some_iff.1 HO2.out).1
      refine (HP.out _).mono ?_
      rintro e w3 ⟨rfl, b3⟩
      have HO3 := Lib.hid ((b3.block _ hz2).trans HO2.out)
      have HB3 := Lib.hid (bt HB2.out b3)
      clear b3 HB2 HO2 HX2 HP
      go_wp2_with fail
      refine (HK.out _).mono ?_
      rintro e w4 ⟨rfl, rfl⟩
      have HW := Lib.hid (below_setRow2 HB3.out (show w.heap.size ≤ w.heap.size + 1 by omega) (aggT noP))
      have HR := Lib.hid (setRow_heap w3 (w.heap.size + 1) _ (aggT noP) _ _ HO3.out)
      go_wp2_with (first | refine store_p rfl (.tmp 6) (.tmp 20) rfl (w.heap.size + 1) _ noP rfl rfl HO3.out rfl ?_)
      exact bodyPost_ret (results_cell_row Tryz.results10 _ _ (w.heap.size + 1) _ _ _ _ rfl HR.out Tryz.underlying25 rfl Tryz.infoP) rfl ⟨rfl, HW.out⟩
    | true =>
      rw [hm] at HK
      rw [if_pos rfl]
      obtain ⟨⟨sx1, sx2⟩, ix⟩ := in_pair hx
      obtain ⟨okp, h1⟩ := modB_parts (pairB_parts hx).1
      have sp := okG_size okp
      have hn := gV_lt okp
      have I1 := Lib.hid (fun w => in7_x x w sx1 sx2)
      have I3 := Lib.hid (fun w => in_x p w (by omega))
      have HBs := Lib.hid (bitsOf_any m)
      have EB : bitsG m = (bitLen (gV m) : Int) := by unfold bitsG; rw [hm]; rfl
      rw [EB] at HBs
      have hL3 := bits_1280 hm
      have hbits := lt_bits (gV m)
      have HBit : Hid (∀ i : Nat, i < bitLen (gV m) → ∀ w, Calls Tryz.prog 41 #[.string m, .int .i64 (i : Int)] w fun e w' => e = .returned (.int .i64 ((gV m / 2 ^ i % 2 : Nat) : Int)) ∧ w = w') := fun i hi w => by
        rw [← bit_pow hm hi]
        exact bitOf_any m (i : Int) w (by omega)
      obtain ⟨M, hM⟩ : ∃ M, gV m = M := ⟨_, rfl⟩
      rw [hM] at HBs hL3 hbits HBit ⊢
      obtain ⟨L, hL⟩ : ∃ L, bitLen M = L := ⟨_, rfl⟩
      rw [hL] at HBs hL3 hbits HBit
      have Hb := Lib.hid hbits
      obtain ⟨n, hnn⟩ : ∃ n, gV p = n := ⟨_, rfl⟩
      rw [hnn] at ix h1 hn I3 ⊢
      obtain ⟨X, hX⟩ : ∃ X, valP x = X := ⟨_, rfl⟩
      rw [hX] at ix I1 ⊢
      have HIX := Lib.hid ix
      clear hx sx1 sx2 okp sp EB hM hL hbits hnn hX hm ix
      go_enter Tryz.func10, Tryz.ntmps10
      go_wp2_with (first | refine load_p rfl (.tmp 3) rfl w.heap.size x rfl HX2.out ?_)
      generalize (w.alloc (.cells (aggT x) 25)).alloc (.cells #[.string ⟨#[]⟩, .string ⟨#[]⟩] 25) = w2 at *
      have hz2 : w.heap.size + 1 < w2.heap.size := (Array.getElem?_eq_some_iff.1 HO2.out).1
      refine (HP.out _).mono ?_
      rintro e w3 ⟨rfl, b3⟩
      have HX3 := Lib.hid ((b3.block _ (by omega)).trans HX2.out)
      have HO3 := Lib.hid ((b3.block _ hz2).trans HO2.out)
      have HB3 := Lib.hid (bt HB2.out b3)
      have hz3 : w.heap.size + 1 < w3.heap.size := (Array.getElem?_eq_some_iff.1 HO3.out).1
      clear b3 HB2 HO2 HX2 HP hz2
      go_wp2_with fail
      refine (HK.out _).mono ?_
      rintro e w4 ⟨rfl, rfl⟩
      clear HK
      go_wp2_with fail
      refine (I3.out _).mono ?_
      rintro e w4 ⟨vp, rfl, hvp, b4⟩
      have HX4 := Lib.hid ((b4.block _ (by omega)).trans HX3.out)
      have HO4 := Lib.hid ((b4.block _ hz3).trans HO3.out)
      have HB4 := Lib.hid (bt HB3.out b4)
      have hz4 : w.heap.size + 1 < w4.heap.size := (Array.getElem?_eq_some_iff.1 HO4.out).1
      have HV4 := Lib.hid hvp
      obtain ⟨a5, n5, c5, rfl⟩ := hvp.shape
      clear b4 hvp HX3 HO3 HB3 hz3 I3
      go_wp2_with (first | refine load_p rfl (.tmp 3) rfl w.heap.size x rfl HX4.out ?_)
      refine (I1.out _).mono ?_
      rintro e w5 ⟨vy, rfl, hvy, b5⟩
      have HO5 := Lib.hid ((b5.block _ hz4).trans HO4.out)
      have HB5 := Lib.hid (bt HB4.out b5)
      have hz5 : w.heap.size + 1 < w5.heap.size := (Array.getElem?_eq_some_iff.1 HO5.out).1
      have HV5 := Lib.hid (HV4.out.below b5)
      have HY5 := Lib.hid hvy
      obtain ⟨ay, by_, rfl, _, _⟩ := hvy
      obtain ⟨qy, hqy⟩ : ∃ q : Array Value, #[ay, by_] = q := ⟨_, rfl⟩
      rw [hqy] at HY5 ⊢
      obtain ⟨sy, oy⟩ := HY5.out.arr
      clear b5 HO4 HB4 hz4 HV4 HX4 I1 hqy
      have HZ6 := Lib.hid (heap_alloc_new w5 (.cells #[.slice none 0 0, .slice none 0 0] 57))
      go_wp2_with (first | refine store_7 rfl (.tmp 8) (.tmp 24) rfl w5.heap.size _ qy rfl rfl HZ6.out sy rfl oy ?_)
      have HPW := Lib.hid (pw_start HO5.out HB5.out HV5.out HY5.out)
      generalize (((w5.alloc (.cells #[.slice none 0 0, .slice none 0 0] 57)).setRow w5.heap.size qy).alloc (.cells #[.int .i64 1] 3)).alloc (.cells #[.slice (some ⟨w5.heap.size + 1, 0, none⟩) 1 1, .slice none 0 0] 57) = w8 at *
      refine (HBs.out _).mono ?_
      rintro e w9 ⟨rfl, rfl⟩
      have e0 : (1, 0) = powP n X (M / 2 ^ L) := by rw [Nat.div_eq_of_lt Hb.out, powP_zero h1]
      have HE0 := Lib.hid e0
      clear HO5 HB5 HV5 HY5 HBs HZ6 Hb hz5 e0
      obtain ⟨q0, hq0⟩ : ∃ q : Array Value, #[.slice (some ⟨w5.heap.size + 1, 0, none⟩) 1 1, .slice none 0 0] = q := ⟨_, rfl⟩
      rw [hq0] at HPW
      go_wp2
      obtain ⟨g9, hg9⟩ : ∃ g, w5.heap.size + 1 + 1 = g := ⟨_, rfl⟩
      rw [hg9] at HPW ⊢
      generalize w5.heap.size = g8 at *
      clear hg9 hq0
      go_loopw [10] (fun iv wr => ∃ (k : Nat) (a : Pn) (q : Array Value), k ≤ L ∧ iv = .int .i64 ((k : Int) - 1) ∧ Hid (a = powP n X (M / 2 ^ k)) ∧ Hid (PW w wr g8 g9 qy q (.slice a5 n5 c5) X a n)) (fun iv _ => (intOf iv + 1).toNat)
      case atStart => exact ⟨L, (1, 0), q0, Nat.le_refl _, rfl, HE0, HPW⟩
      case round =>
        clear HPW HE0
        obtain ⟨k, a, q, hk, rfl, hA, hP⟩ := hrel
        by_cases hk0 : 0 < k
        · obtain ⟨i, rfl⟩ : ∃ i, k = i + 1 := ⟨k - 1, by omega⟩
          have hji : (((i + 1 : Nat) : Int) - 1) = (i : Int) := by omega
          rw [hji]
          have hi0 : (0 : Int) ≤ (i : Int) := by omega
          have h0 : 0 < n := by omega
          have ia : InP2 n a := by rw [hA.out]; exact powP_in h0 _ _
          have s9 := hP.out.r9.arr.1
          have M1 := Lib.hid (lmul7_x hP.out.r9 hP.out.r9 hP.out.p ia ia hn)
          have HX9 := Lib.hid hP.out.x9
          have HSt := Lib.hid (powP_step h0 HIX.out i M hA.out rfl)
          have HBi := Lib.hid (HBit.out i (by omega))
          obtain ⟨bt0, hbt⟩ : ∃ b, M / 2 ^ i % 2 = b := ⟨_, rfl⟩
          rw [hbt] at HBi HSt
          have hb2 : bt0 = 0 ∨ bt0 = 1 := by omega
          clear hbt hA
          go_wp2_with (first | refine load_7 rfl (.tmp 9) rfl g9 q s9 rfl HX9.out ?_)
          refine M1.out.mono ?_
          rintro e w3 ⟨v, rfl, hv, b3⟩
          have HP3 := Lib.hid (hP.out.on b3)
          have HV3 := Lib.hid hv
          obtain ⟨cc, dd, rfl, _, _⟩ := hv
          obtain ⟨q', hq'⟩ : ∃ q : Array Value, #[cc, dd] = q := ⟨_, rfl⟩
          rw [hq'] at HV3 ⊢
          obtain ⟨s', o'⟩ := HV3.out.arr
          have HP4 := Lib.hid (HP3.out.put HV3.out)
          have HX3 := Lib.hid HP3.out.x9
          have im : InP2 n (mulP n a a) := mulP_in h0 _ _
          generalize mulP n a a = aa at *
          clear hq' b3 hP M1 HX9 HP3 HV3
          go_wp2_with (first | refine store_7 rfl (.tmp 9) (.tmp 37) rfl g9 _ q' rfl rfl HX3.out s' s9 o' ?_)
          generalize w3.setRow g9 q' = w4 at *
          refine (HBi.out _).mono ?_
          rintro e w6 ⟨rfl, rfl⟩
          clear HX3 HBi
          rcases hb2 with hb | hb
          · have HA2 := Lib.hid (HSt.out.2 hb)
            subst hb
            clear HSt
            go_wp2
            go_roundw
            case rel => exact ⟨i, aa, q', by omega, by go_num, HA2, HP4⟩
            case measure => simp [intOf]
          · have HA2 := Lib.hid (HSt.out.1 hb)
            subst hb
            have s8 := HP4.out.r8.arr.1
            have HX9 := Lib.hid HP4.out.x9
            have HX8 := Lib.hid HP4.out.x8
            have M2 := Lib.hid (lmul7_x HP4.out.r9 HP4.out.r8 HP4.out.p im HIX.out hn)
            clear HSt
            go_wp2_with (first | refine load_7 rfl (.tmp 9) rfl g9 q' s' rfl HX9.out ?_ | refine load_7 rfl (.tmp 8) rfl g8 qy s8 rfl HX8.out ?_)
            refine M2.out.mono ?_
            rintro e w6 ⟨v, rfl, hv, b6⟩
            have HP6 := Lib.hid (HP4.out.on b6)
            have HV6 := Lib.hid hv
            obtain ⟨c2, d2, rfl, _, _⟩ := hv
            obtain ⟨q2, hq2⟩ : ∃ q : Array Value, #[c2, d2] = q := ⟨_, rfl⟩
            rw [hq2] at HV6 ⊢
            obtain ⟨s2, o2⟩ := HV6.out.arr
            have HP7 := Lib.hid (HP6.out.put HV6.out)
            have HX6 := Lib.hid HP6.out.x9
            clear hq2 b6 HP4 M2 HX9 HX8 HP6 HV6
            go_wp2_with (first | refine store_7 rfl (.tmp 9) (.tmp 45) rfl g9 _ q2 rfl rfl HX6.out s2 s' o2 ?_)
            generalize w6.setRow g9 q2 = w7 at *
            go_roundw
            case rel => exact ⟨i, _, q2, by omega, by go_num, HA2, HP7⟩
            case measure => simp [intOf]
        · obtain rfl : k = 0 := by omega
          have hneg : ¬ (0 : Int) ≤ ((0 : Nat) : Int) - 1 := by omega
          have hA2 := hA.out
          rw [Nat.pow_zero, Nat.div_one] at hA2
          have h0 : 0 < n := by omega
          have ia : InP2 n a := by rw [hA2]; exact powP_in h0 _ _
          have s9 := hP.out.r9.arr.1
          have HX9 := Lib.hid hP.out.x9
          have O1 := Lib.hid (out7_x hP.out.r9 (sm_one (Nat.lt_trans ia.1 hn)) (sm_one (Nat.lt_trans ia.2 hn)))
          have HE := Lib.hid hA2
          have HPr := hP
          clear hA hA2 hP
          go_wp2_with (first | refine load_7 rfl (.tmp 9) rfl g9 q s9 rfl HX9.out ?_)
          refine O1.out.mono ?_
          rintro e w6 ⟨rfl, b6⟩
          have HP6 := Lib.hid (HPr.out.on b6)
          have HO6 := Lib.hid HP6.out.o
          have HW := Lib.hid (below_setRow2 HP6.out.b (show w.heap.size ≤ w.heap.size + 1 by omega) (aggT (txtP a)))
          have HR := Lib.hid (setRow_heap w6 (w.heap.size + 1) _ (aggT (txtP a)) _ _ HO6.out)
          clear b6 HPr HX9 O1 HP6
          go_wp2_with (first | refine store_p rfl (.tmp 6) (.tmp 47) rfl (w.heap.size + 1) _ (txtP a) rfl rfl HO6.out rfl ?_)
          exact bodyPost_ret (results_cell_row Tryz.results10 _ _ (w.heap.size + 1) _ _ _ _ rfl HR.out Tryz.underlying25 rfl Tryz.infoP) rfl ⟨by rw [HE.out] <;> rfl, HW.out⟩
end Go.Proofs.YtflfeepgkcamnaaGreat
