import Derived.Test.YtkmmlfocidfghaaGreatZPi
import Derived.Test.YtkmmlfocidfghaaGreatTyTimes
import Derived.Test.YtkmmlfocidfghaaGreatZDraw
import Derived.Test.YtkmmlfocidfghaaGreatUDraw
import Derived.Test.YtkmmlfocidfghaaGreatILow
namespace Go.Proofs.YtkmmlfocidfghaaGreat
open Go.RowKit
def TpPick (B g : Nat) (A : Option Addr) (n cap : Nat) (w : World) (e : Ending) (w' : World) : Prop := ∃ q : Tp, e = .returned (.agg (tpT q)) ∧ Curs w w' B g A n cap
set_option maxRecDepth 8000 in
set_option maxHeartbeats 8000000 in
theorem point_c {w : World} {B g n cap : Nat} {A : Option Addr} (h : Curs w w B g A n cap) (id : Int) : Calls Tryz.prog 51 #[.pointer (some ⟨g, 0, none⟩), .int .i64 id] w (TpPick B g A n cap w) := by
  have hglt := h.c.glt
  have HO := Lib.hid (heap_alloc_new w (.cells #[.bool false, .string ⟨#[]⟩, .string ⟨#[]⟩] 25))
  have hb0 : Below w.heap.size w (w.alloc (.cells #[.bool false, .string ⟨#[]⟩, .string ⟨#[]⟩] 25)) := (Below.refl _ _).alloc (Nat.le_refl _) _
  have HW := Lib.hid (h.below hb0)
  have HNe := Lib.hid (show w.heap.size ≠ g by omega)
  have HSz : Hid (w.heap.size < (w.alloc (.cells #[.bool false, .string ⟨#[]⟩, .string ⟨#[]⟩] 25)).heap.size) := by show _ < _; simp
  have HCv := Lib.hid (l09Curve_any id)
  have HFd := Lib.hid (cv_field id)
  have HPs := Lib.hid (cvPT_size id)
  clear h hb0
  unfold TpPick
  generalize cvC id = C at *
  generalize cvPT id = tp at *
  go_enter Tryz.func51, Tryz.ntmps51
  go_upto_region 1 with (fail)
  generalize w.alloc _ = w0 at *
  have fin : Hid (∀ (w6 : World) (t : Tp), Curs w0 w6 B g A n cap → (∃ q : Tp, Ending.returned (.agg (tpT t)) = .returned (.agg (tpT q)) ∧ Curs w (w6.setRow w.heap.size (tpT t)) B g A n cap) ∧ (w6.setRow w.heap.size (tpT t)).heap[w.heap.size]? = some (.cells (tpT t) 25 (0, 0))) :=
    fun w6 t hc => ⟨⟨t, rfl, (HW.out.trans hc).put (Nat.le_refl _) hglt⟩, setRow_heap _ _ _ _ _ _ (hc.kept HSz.out HNe.out HO.out)⟩
  go_wp2_with fail
  refine (HCv.out _).mono ?_
  rintro e w1 ⟨rfl, b1⟩
  have HC := Lib.hid (HW.out.start.below b1)
  have hf := HFd.out w1
  clear b1 HCv HFd
  go_wp2_with fail
  refine (below_c HC.out.start 8 (by omega) (by omega)).mono ?_
  rintro e w2 ⟨x, rfl, x0, x1, hc⟩
  replace HC := Lib.hid (HC.out.trans hc)
  clear hc hf
  by_cases e0 : x = 0
  · subst e0
    have HR := Lib.hid (HC.out.kept HSz.out HNe.out HO.out)
    have HF := Lib.hid (fin.out _ zeroT HC.out)
    clear fin HC
    go_wp2_with (first | refine store_v rfl 25 (.tmp 4) (.tmp 18) rfl w.heap.size _ (tpT zeroT) rfl rfl HR.out Tryz.infoPoint rfl (by kernel_rfl) ?_)
    exact bodyPost_ret (results_cell_row Tryz.results51 _ _ w.heap.size _ _ _ _ rfl HF.out.2 Tryz.underlying25 rfl Tryz.infoPoint) rfl HF.out.1
  have q0 : (x == 0) = false := by simpa using e0
  by_cases e1 : x = 1
  · subst e1
    clear e0 q0
    go_wp2_with fail
    refine (baseOf_all id _).mono ?_
    rintro e w3 ⟨rfl, b3⟩
    replace HC := Lib.hid (HC.out.below b3)
    have HR := Lib.hid (HC.out.kept HSz.out HNe.out HO.out)
    have HF := Lib.hid (fin.out _ (baseT id) HC.out)
    clear b3 fin HC
    go_wp2_with (first | refine store_v rfl 25 (.tmp 4) (.tmp 22) rfl w.heap.size _ (tpT (baseT id)) rfl rfl HR.out Tryz.infoPoint rfl (by kernel_rfl) ?_)
    exact bodyPost_ret (results_cell_row Tryz.results51 _ _ w.heap.size _ _ _ _ rfl HF.out.2 Tryz.underlying25 rfl Tryz.infoPoint) rfl HF.out.1
  have q1 : (x == 1) = false := by simpa using e1
  by_cases e2 : x = 2
  · subst e2
    clear e0 q0 e1 q1
    go_wp2
    go_loopw [6] (fun iv wr => ∃ i : Nat, i ≤ 8 ∧ iv = .int .i64 i ∧ Hid (Curs w0 wr B g A n cap)) (fun iv _ => 8 - (intOf iv).toNat)
    case atStart => exact ⟨0, by omega, rfl, HC⟩
    case round =>
      clear HC
      obtain ⟨i, hi, rfl, HC⟩ := hrel
      by_cases hlt : i < 8
      · have hlt' : (i : Int) < 8 := by omega
        have ei : IntKind.i64.wrap ((i : Int) + 1) = ((i + 1 : Nat) : Int) := by rw [IntWalk.i64_in _ (by omega)]; omega
        go_wp2_with fail
        refine (text_c HC.out.start tp.size (by have := HPs.out; omega)).mono ?_
        rintro e w3 ⟨t, rfl, _, hc⟩
        replace HC := Lib.hid (HC.out.trans hc)
        clear hc
        go_wp2_with fail
        refine (fromFirst_any t _).mono ?_
        rintro e w4 ⟨rfl, rfl⟩
        go_wp2_with fail
        refine (restOf_any _ tp _).mono ?_
        rintro e w5 ⟨rfl, b5⟩
        replace HC := Lib.hid (HC.out.below b5)
        clear b5
        generalize restG (fromG t) tp = rg at *
        go_wp2_with fail
        refine (once_c HC.out.start 2 (by omega) (by omega)).mono ?_
        rintro e w6 ⟨gr, rfl, hc⟩
        replace HC := Lib.hid (HC.out.trans hc)
        clear hc
        go_wp2_with fail
        refine (liftPoint_any id rg gr _).mono ?_
        rintro e w7 ⟨rfl, b7⟩
        replace HC := Lib.hid (HC.out.below b7)
        clear b7
        generalize liftG id rg gr = q at *
        generalize liftB id rg gr = qb at *
        have HN := Lib.hid (heap_alloc_new w7 (.cells #[.bool false, .string ⟨#[]⟩, .string ⟨#[]⟩] 25))
        have HX := Lib.hid (setRow_heap _ w7.heap.size _ (tpT q) _ _ HN.out)
        have b4 : Below w7.heap.size w7 ((w7.alloc (.cells #[.bool false, .string ⟨#[]⟩, .string ⟨#[]⟩] 25)).setRow w7.heap.size (tpT q)) := below_setRow2 ((Below.refl _ _).alloc (Nat.le_refl _) _) (Nat.le_refl _) _
        replace HC := Lib.hid (HC.out.below b4)
        clear b4
        cases qb with
        | true =>
          have HR := Lib.hid (HC.out.kept HSz.out HNe.out HO.out)
          have HF := Lib.hid (fin.out _ q HC.out)
          clear fin HC
          go_wp2_with (first | refine store_v rfl 25 (.tmp 7) (.tmp 41) rfl w7.heap.size _ (tpT q) rfl rfl HN.out Tryz.infoPoint rfl (by kernel_rfl) ?_ | refine load_v rfl 25 (.tmp 7) rfl w7.heap.size (tpT q) rfl HX.out Tryz.underlying25 rfl Tryz.infoPoint ?_ | refine store_v rfl 25 (.tmp 4) (.tmp 44) rfl w.heap.size _ (tpT q) rfl rfl HR.out Tryz.infoPoint rfl (by kernel_rfl) ?_)
          exact bodyPost_ret (results_cell_row Tryz.results51 _ _ w.heap.size _ _ _ _ rfl HF.out.2 Tryz.underlying25 rfl Tryz.infoPoint) rfl HF.out.1
        | false =>
          go_wp2_with (first | refine store_v rfl 25 (.tmp 7) (.tmp 41) rfl w7.heap.size _ (tpT q) rfl rfl HN.out Tryz.infoPoint rfl (by kernel_rfl) ?_)
          go_roundw
          case rel => exact ⟨i + 1, by omega, by go_num, HC⟩
          case measure => simp [intOf]; omega
      · have hlt' : ¬ (i : Int) < 8 := by omega
        go_wp2_with fail
        refine (below_c HC.out.start 500 (by omega) (by omega)).mono ?_
        rintro e wa ⟨y, rfl, y0, y1, hc⟩
        replace HC := Lib.hid (HC.out.trans hc)
        have G1 := Lib.hid (fun w => greatOf_any (1 + y) w (by omega))
        have e1 : IntKind.i64.wrap (1 + y) = 1 + y := IntWalk.i64_in _ (by omega)
        clear hc
        go_wp2_with fail
        refine (G1.out _).mono ?_
        rintro e wb ⟨rfl, bb⟩
        replace HC := Lib.hid (HC.out.below bb)
        clear bb G1
        go_wp2_with fail
        refine (baseOf_all id _).mono ?_
        rintro e wc ⟨rfl, bc⟩
        replace HC := Lib.hid (HC.out.below bc)
        clear bc
        go_wp2_with fail
        refine (timesPoint_some id (ofI (1 + y)) (baseT id) _ (fun ok => bits_1280 ok) (fun ok i hi => bit_pow ok hi)).mono ?_
        rintro e wd ⟨q, qb, rfl, bd⟩
        replace HC := Lib.hid (HC.out.below bd)
        clear bd
        have HN := Lib.hid (heap_alloc_new wd (.cells #[.bool false, .string ⟨#[]⟩, .string ⟨#[]⟩] 25))
        have HX := Lib.hid (setRow_heap _ wd.heap.size _ (tpT q) _ _ HN.out)
        have b4 : Below wd.heap.size wd ((wd.alloc (.cells #[.bool false, .string ⟨#[]⟩, .string ⟨#[]⟩] 25)).setRow wd.heap.size (tpT q)) := below_setRow2 ((Below.refl _ _).alloc (Nat.le_refl _) _) (Nat.le_refl _) _
        replace HC := Lib.hid (HC.out.below b4)
        clear b4
        have HR := Lib.hid (HC.out.kept HSz.out HNe.out HO.out)
        have HF := Lib.hid (fin.out _ q HC.out)
        go_wp2_with (first | refine store_v rfl 25 (.tmp 9) (.tmp 54) rfl wd.heap.size _ (tpT q) rfl rfl HN.out Tryz.infoPoint rfl (by kernel_rfl) ?_ | refine load_v rfl 25 (.tmp 9) rfl wd.heap.size (tpT q) rfl HX.out Tryz.underlying25 rfl Tryz.infoPoint ?_ | refine store_v rfl 25 (.tmp 4) (.tmp 56) rfl w.heap.size _ (tpT q) rfl rfl HR.out Tryz.infoPoint rfl (by kernel_rfl) ?_)
        exact bodyPost_ret (results_cell_row Tryz.results51 _ _ w.heap.size _ _ _ _ rfl HF.out.2 Tryz.underlying25 rfl Tryz.infoPoint) rfl HF.out.1
  have q2 : (x == 2) = false := by simpa using e2
  clear e0 e1 e2
  go_wp2_with fail
  refine (below_c HC.out.start 500 (by omega) (by omega)).mono ?_
  rintro e wa ⟨y, rfl, y0, y1, hc⟩
  replace HC := Lib.hid (HC.out.trans hc)
  have G1 := Lib.hid (fun w => greatOf_any (1 + y) w (by omega))
  have e1 : IntKind.i64.wrap (1 + y) = 1 + y := IntWalk.i64_in _ (by omega)
  clear hc
  go_wp2_with fail
  refine (G1.out _).mono ?_
  rintro e wb ⟨rfl, bb⟩
  replace HC := Lib.hid (HC.out.below bb)
  clear bb G1
  go_wp2_with fail
  refine (baseOf_all id _).mono ?_
  rintro e wc ⟨rfl, bc⟩
  replace HC := Lib.hid (HC.out.below bc)
  clear bc
  go_wp2_with fail
  refine (timesPoint_some id (ofI (1 + y)) (baseT id) _ (fun ok => bits_1280 ok) (fun ok i hi => bit_pow ok hi)).mono ?_
  rintro e wd ⟨q, qb, rfl, bd⟩
  replace HC := Lib.hid (HC.out.below bd)
  clear bd
  have HN := Lib.hid (heap_alloc_new wd (.cells #[.bool false, .string ⟨#[]⟩, .string ⟨#[]⟩] 25))
  have HX := Lib.hid (setRow_heap _ wd.heap.size _ (tpT q) _ _ HN.out)
  have b4 : Below wd.heap.size wd ((wd.alloc (.cells #[.bool false, .string ⟨#[]⟩, .string ⟨#[]⟩] 25)).setRow wd.heap.size (tpT q)) := below_setRow2 ((Below.refl _ _).alloc (Nat.le_refl _) _) (Nat.le_refl _) _
  replace HC := Lib.hid (HC.out.below b4)
  clear b4
  have HR := Lib.hid (HC.out.kept HSz.out HNe.out HO.out)
  have HF := Lib.hid (fin.out _ q HC.out)
  go_wp2_with (first | refine store_v rfl 25 (.tmp 9) (.tmp 54) rfl wd.heap.size _ (tpT q) rfl rfl HN.out Tryz.infoPoint rfl (by kernel_rfl) ?_ | refine load_v rfl 25 (.tmp 9) rfl wd.heap.size (tpT q) rfl HX.out Tryz.underlying25 rfl Tryz.infoPoint ?_ | refine store_v rfl 25 (.tmp 4) (.tmp 56) rfl w.heap.size _ (tpT q) rfl rfl HR.out Tryz.infoPoint rfl (by kernel_rfl) ?_)
  exact bodyPost_ret (results_cell_row Tryz.results51 _ _ w.heap.size _ _ _ _ rfl HF.out.2 Tryz.underlying25 rfl Tryz.infoPoint) rfl HF.out.1
set_option maxRecDepth 8000 in
set_option maxHeartbeats 8000000 in
theorem any10_c {w : World} {B g n cap : Nat} {A : Option Addr} (h : Curs w w B g A n cap) (id : Int) : Calls Tryz.prog 25 #[.pointer (some ⟨g, 0, none⟩), .int .i64 id] w (TpPick B g A n cap w) := by
  have hglt := h.c.glt
  have HO := Lib.hid (heap_alloc_new w (.cells #[.bool false, .string ⟨#[]⟩, .string ⟨#[]⟩] 25))
  have hb0 : Below w.heap.size w (w.alloc (.cells #[.bool false, .string ⟨#[]⟩, .string ⟨#[]⟩] 25)) := (Below.refl _ _).alloc (Nat.le_refl _) _
  have HW := Lib.hid (h.below hb0)
  have HNe := Lib.hid (show w.heap.size ≠ g by omega)
  have HSz : Hid (w.heap.size < (w.alloc (.cells #[.bool false, .string ⟨#[]⟩, .string ⟨#[]⟩] 25)).heap.size) := by show _ < _; simp
  have HCv := Lib.hid (l09Curve_any id)
  have HFd := Lib.hid (cv_field id)
  have HPs := Lib.hid (cvPT_size id)
  clear h hb0
  unfold TpPick
  generalize cvC id = C at *
  generalize cvPT id = tp at *
  go_enter Tryz.func25, Tryz.ntmps25
  go_upto_region 1 with (fail)
  generalize w.alloc _ = w0 at *
  have fin : Hid (∀ (w6 : World) (t : Tp), Curs w0 w6 B g A n cap → (∃ q : Tp, Ending.returned (.agg (tpT t)) = .returned (.agg (tpT q)) ∧ Curs w (w6.setRow w.heap.size (tpT t)) B g A n cap) ∧ (w6.setRow w.heap.size (tpT t)).heap[w.heap.size]? = some (.cells (tpT t) 25 (0, 0))) :=
    fun w6 t hc => ⟨⟨t, rfl, (HW.out.trans hc).put (Nat.le_refl _) hglt⟩, setRow_heap _ _ _ _ _ _ (hc.kept HSz.out HNe.out HO.out)⟩
  go_wp2_with fail
  refine (point_c HW.out.start id).mono ?_
  rintro e w3 ⟨⟨z, x, y⟩, rfl, hc3⟩
  have HN4 := Lib.hid (heap_alloc_new w3 (.cells #[.bool false, .string ⟨#[]⟩, .string ⟨#[]⟩] 25))
  have HX4 := Lib.hid (setRow_heap _ w3.heap.size _ (tpT (z, x, y)) _ _ HN4.out)
  have b4 : Below w3.heap.size w3 ((w3.alloc (.cells #[.bool false, .string ⟨#[]⟩, .string ⟨#[]⟩] 25)).setRow w3.heap.size (tpT (z, x, y))) := below_setRow2 ((Below.refl _ _).alloc (Nat.le_refl _) _) (Nat.le_refl _) _
  have HC4 := Lib.hid (hc3.below b4)
  have hs3 := hc3.gr.size
  have hg0 : g < w0.heap.size := Nat.lt_trans hglt HSz.out
  clear hc3 b4
  go_wp2_with (first | refine store_v rfl 25 (.tmp 5) (.tmp 8) rfl w3.heap.size _ (tpT (z, x, y)) rfl rfl HN4.out Tryz.infoPoint rfl (by kernel_rfl) ?_)
  generalize (w3.alloc (.cells #[.bool false, .string ⟨#[]⟩, .string ⟨#[]⟩] 25)).setRow w3.heap.size (tpT (z, x, y)) = w4 at *
  have hz4 : w3.heap.size < w4.heap.size := (Array.getElem?_eq_some_iff.1 HX4.out).1
  have hg3 : g ≠ w3.heap.size := by omega
  have hw5 : w0.heap.size ≤ w3.heap.size := hs3
  have hne5 : w.heap.size ≠ w3.heap.size := by have := HSz.out; omega
  have H5 := Lib.hid (below_c HC4.out.start 14 (by omega) (by omega))
  clear HN4
  generalize w3.heap.size = g5 at *
  refine H5.out.mono ?_
  rintro e w5 ⟨k, rfl, k0, k1, hc5⟩
  have HC5 := Lib.hid (HC4.out.trans hc5)
  have HX5 := Lib.hid (hc5.kept hz4 (by omega) HX4.out)
  clear hc5 HC4 HX4 H5
  by_cases e0 : k = 0
  · subst e0
    have c1 := (cell_of_row w5 g5 0 _ _ _ HX5.out).trans (show _ = some (.bool z) from rfl)
    have f1 := frozen_of_row w5 g5 0 _ _ HX5.out
    have HX6 : Hid ((w5.setCell ⟨g5, 0, none⟩ (.bool (!z))).heap[g5]? = some (.cells (tpT (!z, x, y)) 25 (0, 0))) := heap_setCell_same w5 g5 0 _ _ _ HX5.out
    have HC6 := Lib.hid (HC5.out.putC (k := 0) (v := .bool (!z)) hw5 hg0)
    have HR6 := Lib.hid (HC6.out.kept HSz.out HNe.out HO.out)
    have HF := Lib.hid (fin.out _ (!z, x, y) HC6.out)
    clear HC5 HX5 fin
    go_wp2_with (first | refine load_v rfl 25 (.tmp 5) rfl g5 (tpT (!z, x, y)) rfl HX6.out Tryz.underlying25 rfl Tryz.infoPoint ?_ | refine store_v rfl 25 (.tmp 4) (.tmp 30) rfl w.heap.size _ (tpT (!z, x, y)) rfl rfl HR6.out Tryz.infoPoint rfl (by kernel_rfl) ?_)
    exact bodyPost_ret (results_cell_row Tryz.results25 _ _ w.heap.size _ _ _ _ rfl HF.out.2 Tryz.underlying25 rfl Tryz.infoPoint) rfl HF.out.1
  have q0 : (k == 0) = false := by simpa using e0
  by_cases e1 : k = 1
  · subst e1
    clear e0 q0
    go_wp2_with fail
    refine (HCv.out _).mono ?_
    rintro e w6 ⟨rfl, b6⟩
    replace HC5 := Lib.hid (HC5.out.below b6)
    replace HX5 := Lib.hid (stays b6 HX5.out)
    have hf := HFd.out w6
    have hs6 := HC5.out.gr.size
    have hz6 : g5 < w6.heap.size := (Array.getElem?_eq_some_iff.1 HX5.out).1
    clear b6
    go_wp2_with fail
    refine (rest_c tp HPs.out HC5.out.start).mono ?_
    rintro e w7 ⟨t, rfl, _, hc7⟩
    replace HC5 := Lib.hid (HC5.out.trans hc7)
    replace HX5 := Lib.hid (hc7.kept hz6 (by omega) HX5.out)
    clear hc7 hf
    have c1 := (cell_of_row w7 g5 2 _ _ _ HX5.out).trans (show _ = some (.string y) from rfl)
    have f1 := frozen_of_row w7 g5 2 _ _ HX5.out
    have HX6 : Hid ((w7.setCell ⟨g5, 2, none⟩ (.string t)).heap[g5]? = some (.cells (tpT (z, x, t)) 25 (0, 0))) := heap_setCell_same w7 g5 2 _ _ _ HX5.out
    have HC6 := Lib.hid (HC5.out.putC (k := 2) (v := .string t) hw5 hg0)
    have HR6 := Lib.hid (HC6.out.kept HSz.out HNe.out HO.out)
    have HF := Lib.hid (fin.out _ (z, x, t) HC6.out)
    clear HC5 HX5 fin
    go_wp2_with (first | refine load_v rfl 25 (.tmp 5) rfl g5 (tpT (z, x, t)) rfl HX6.out Tryz.underlying25 rfl Tryz.infoPoint ?_ | refine store_v rfl 25 (.tmp 4) (.tmp 30) rfl w.heap.size _ (tpT (z, x, t)) rfl rfl HR6.out Tryz.infoPoint rfl (by kernel_rfl) ?_)
    exact bodyPost_ret (results_cell_row Tryz.results25 _ _ w.heap.size _ _ _ _ rfl HF.out.2 Tryz.underlying25 rfl Tryz.infoPoint) rfl HF.out.1
  have q1 : (k == 1) = false := by simpa using e1
  by_cases e2 : k = 2
  · subst e2
    clear e0 q0 e1 q1
    have hz6 : g5 < w5.heap.size := (Array.getElem?_eq_some_iff.1 HX5.out).1
    go_wp2_with fail
    refine (any_c HC5.out.start).mono ?_
    rintro e w7 ⟨t, rfl, _, hc7⟩
    replace HC5 := Lib.hid (HC5.out.trans hc7)
    replace HX5 := Lib.hid (hc7.kept hz6 (by omega) HX5.out)
    clear hc7
    have c1 := (cell_of_row w7 g5 1 _ _ _ HX5.out).trans (show _ = some (.string x) from rfl)
    have f1 := frozen_of_row w7 g5 1 _ _ HX5.out
    have HX6 : Hid ((w7.setCell ⟨g5, 1, none⟩ (.string t)).heap[g5]? = some (.cells (tpT (z, t, y)) 25 (0, 0))) := heap_setCell_same w7 g5 1 _ _ _ HX5.out
    have HC6 := Lib.hid (HC5.out.putC (k := 1) (v := .string t) hw5 hg0)
    have HR6 := Lib.hid (HC6.out.kept HSz.out HNe.out HO.out)
    have HF := Lib.hid (fin.out _ (z, t, y) HC6.out)
    clear HC5 HX5 fin
    go_wp2_with (first | refine load_v rfl 25 (.tmp 5) rfl g5 (tpT (z, t, y)) rfl HX6.out Tryz.underlying25 rfl Tryz.infoPoint ?_ | refine store_v rfl 25 (.tmp 4) (.tmp 30) rfl w.heap.size _ (tpT (z, t, y)) rfl rfl HR6.out Tryz.infoPoint rfl (by kernel_rfl) ?_)
    exact bodyPost_ret (results_cell_row Tryz.results25 _ _ w.heap.size _ _ _ _ rfl HF.out.2 Tryz.underlying25 rfl Tryz.infoPoint) rfl HF.out.1
  have q2 : (k == 2) = false := by simpa using e2
  have HR6 := Lib.hid (HC5.out.kept HSz.out HNe.out HO.out)
  have HF := Lib.hid (fin.out _ (z, x, y) HC5.out)
  clear HC5 fin e0 e1 e2
  go_wp2_with (first | refine load_v rfl 25 (.tmp 5) rfl g5 (tpT (z, x, y)) rfl HX5.out Tryz.underlying25 rfl Tryz.infoPoint ?_ | refine store_v rfl 25 (.tmp 4) (.tmp 30) rfl w.heap.size _ (tpT (z, x, y)) rfl rfl HR6.out Tryz.infoPoint rfl (by kernel_rfl) ?_)
  exact bodyPost_ret (results_cell_row Tryz.results25 _ _ w.heap.size _ _ _ _ rfl HF.out.2 Tryz.underlying25 rfl Tryz.infoPoint) rfl HF.out.1
theorem res_two {w : World} {g g' : Nat} {C C' : Array Value} (hb : w.heap[g]? = some (.cells C 25 (0, 0))) (hb' : w.heap[g']? = some (.cells C' 25 (0, 0))) (hs : C.size = 3) (hs' : C'.size = 3) {fn : Func} {q p p' : Tmp} (hf : fn.results = #[.tmp q, .cell p 25, .cell p' 25]) (tmps : Array Value) (hp : tmps.getD p undef = .pointer (some ⟨g, 0, none⟩)) (hp' : tmps.getD p' undef = .pointer (some ⟨g', 0, none⟩)) :
    (results fn tmps).run Tryz.prog w = .ok (.tuple #[tmps.getD q undef, .agg C, .agg C']) w := by
  have e1 := run_loadVar_row (P := Tryz.prog) w g _ 25 _ _ _ hb Tryz.underlying25 rfl (by rw [hs]; exact Tryz.infoPoint)
  have e2 := run_loadVar_row (P := Tryz.prog) w g' _ 25 _ _ _ hb' Tryz.underlying25 rfl (by rw [hs']; exact Tryz.infoPoint)
  have hp2 : tmps[p]?.getD undef = .pointer (some ⟨g, 0, none⟩) := by simpa using hp
  have hp3 : tmps[p']?.getD undef = .pointer (some ⟨g', 0, none⟩) := by simpa using hp'
  simp [results, hf, hp2, hp3, asAddr, e1, e2]
def AddDraw (w : World) (e : Ending) (w' : World) : Prop := ∃ (id : Int) (a b : Tp), e = .returned (.tuple #[.int .i64 id, .agg (tpT a), .agg (tpT b)]) ∧ Below w.heap.size w w'
set_option maxRecDepth 8000 in
set_option maxHeartbeats 8000000 in
theorem drawAdd_c (A : Option Addr) (n cap : Nat) (w : World) (hd : DrawIn w w.heap.size A n) : Calls Tryz.prog 7 #[.slice A n cap] w (AddDraw w) := by
  have HX2 := Lib.hid (heap_alloc2_old w (.cells #[.bool false, .string ⟨#[]⟩, .string ⟨#[]⟩] 25) (.cells #[.bool false, .string ⟨#[]⟩, .string ⟨#[]⟩] 25))
  have HO2 := Lib.hid (heap_alloc2_new w (.cells #[.bool false, .string ⟨#[]⟩, .string ⟨#[]⟩] 25) (.cells #[.bool false, .string ⟨#[]⟩, .string ⟨#[]⟩] 25))
  have HB2 := Lib.hid (((Below.refl w.heap.size w).alloc (Nat.le_refl _) (.cells #[.bool false, .string ⟨#[]⟩, .string ⟨#[]⟩] 25)).alloc (by simp) (.cells #[.bool false, .string ⟨#[]⟩, .string ⟨#[]⟩] 25))
  have hs0 : Hid (((w.alloc (.cells #[.bool false, .string ⟨#[]⟩, .string ⟨#[]⟩] 25)).alloc (.cells #[.bool false, .string ⟨#[]⟩, .string ⟨#[]⟩] 25)).heap.size = w.heap.size + 2) := by show _ = _; simp
  have HD := Lib.hid (hd.on HB2.out)
  clear hd
  unfold AddDraw
  go_enter Tryz.func7, Tryz.ntmps7
  go_upto_region 1 with (fail)
  generalize (w.alloc _).alloc _ = w0 at *
  have H := Lib.hid (new_any A n cap w0 HD.out)
  go_wp2_with fail
  refine H.out.mono ?_
  rintro e w1 ⟨h, rfl, rfl⟩
  have HC0 := Lib.hid (curs_new (cap := cap) (h := h) HD.out)
  clear H HD
  go_wp2_with fail
  refine (any9_c HC0.out).mono ?_
  rintro e w2 ⟨id, rfl, _, hc2⟩
  have HC2 := Lib.hid hc2
  clear hc2 HC0
  go_wp2_with fail
  refine (any10_c HC2.out.start id).mono ?_
  rintro e w3 ⟨a, rfl, hc3⟩
  have HC3 := Lib.hid (HC2.out.trans hc3)
  have HN4 := Lib.hid (heap_alloc_new w3 (.cells #[.bool false, .string ⟨#[]⟩, .string ⟨#[]⟩] 25))
  have HX4 := Lib.hid (setRow_heap _ w3.heap.size _ (tpT a) _ _ HN4.out)
  have b4 : Below w3.heap.size w3 ((w3.alloc (.cells #[.bool false, .string ⟨#[]⟩, .string ⟨#[]⟩] 25)).setRow w3.heap.size (tpT a)) := below_setRow2 ((Below.refl _ _).alloc (Nat.le_refl _) _) (Nat.le_refl _) _
  have HC4 := Lib.hid (HC3.out.below b4)
  have hcg : w0.heap.size < w3.heap.size := HC3.out.c.glt
  clear hc3 b4 HC2 HC3
  go_wp2_with (first | refine store_v rfl 25 (.tmp 7) (.tmp 14) rfl w3.heap.size _ (tpT a) rfl rfl HN4.out Tryz.infoPoint rfl (by kernel_rfl) ?_)
  generalize (w3.alloc (.cells #[.bool false, .string ⟨#[]⟩, .string ⟨#[]⟩] 25)).setRow w3.heap.size (tpT a) = w4 at *
  have hz4 : w3.heap.size < w4.heap.size := (Array.getElem?_eq_some_iff.1 HX4.out).1
  clear HN4
  generalize w3.heap.size = g7 at *
  refine (below_c HC4.out.start 6 (by omega) (by omega)).mono ?_
  rintro e w5 ⟨x, rfl, x0, x1, hc5⟩
  have HX5 := Lib.hid (hc5.kept hz4 (by omega) HX4.out)
  have HC5 := Lib.hid (HC4.out.trans hc5)
  have hz5 : g7 < w5.heap.size := (Array.getElem?_eq_some_iff.1 HX5.out).1
  have HP := Lib.hid (show (∀ q ∈ [(g7, tpT a, 25)], q.1 ≠ w.heap.size) ∧ (∀ q ∈ [(g7, tpT a, 25)], q.1 ≠ w.heap.size + 1) from ⟨fun q hq => by simp only [List.mem_cons, List.not_mem_nil, or_false] at hq; subst hq; show g7 ≠ w.heap.size; have := hs0.out; omega, fun q hq => by simp only [List.mem_cons, List.not_mem_nil, or_false] at hq; subst hq; show g7 ≠ w.heap.size + 1; have := hs0.out; omega⟩)
  clear hc5 HX4 HC4
  by_cases e0 : x = 0
  · subst e0
    go_upto_region 6 with (fail)
    have HS := Lib.hid (show Held w5.drew [(g7, tpT a, 25)] from (Held.none w5).cons HX5.out)
    have HBk := Lib.hid (show Below w0.heap.size w0 w5.drew from ⟨HC5.out.belowOf.os, HC5.out.belowOf.tape, HC5.out.belowOf.output, HC5.out.belowOf.size, HC5.out.belowOf.block⟩)
    have HA := Lib.hid ((HBk.out.block w.heap.size (by have := hs0.out; omega)).trans HX2.out)
    have HBo := Lib.hid ((HBk.out.block (w.heap.size + 1) (by have := hs0.out; omega)).trans HO2.out)
    refine sq_go (S := fun w' => Held w' [(g7, tpT a, 25)]) [(true, 0), (true, 1), (true, 2), (true, 3), (false, 4), (false, 5)] (by kernel_rfl) (fun d _ _ _ _ h => by cases d <;> exact h) HS.out ?_
    refine sq_ps [(0, .int .i64 id)] (by kernel_rfl) ?_
    refine sq_ld (some 20) (ld_pt (.head _) (by kernel_rfl)) (by kernel_rfl) ?_
    refine sq_ld (some 21) (ld_pt (.head _) (by kernel_rfl)) (by kernel_rfl) ?_
    refine sq_ps [(3, .int .i64 id)] (by kernel_rfl) ?_
    refine sq_st 25 w.heap.size (tpT a) HA.out Tryz.infoPoint rfl (by kernel_rfl) (HS.out.setRow HP.out.1) (by kernel_rfl) ?_
    have HBo2 := Lib.hid ((setRow_other _ _ _ (tpT a) (show w.heap.size + 1 ≠ w.heap.size by omega)).trans HBo.out)
    refine sq_st 25 (w.heap.size + 1) (tpT a) HBo2.out Tryz.infoPoint rfl (by kernel_rfl) ((HS.out.setRow HP.out.1).setRow HP.out.2) (by kernel_rfl) ?_
    refine sq_done ?_
    refine (by assumption : ∀ (a : Act) (w_1 : World), Code.wp _ Code.ret _ a w_1 → _) _ _ ?_
    refine wp_ret ?_
    try refine block_ret ?_
    try refine then_ret ?_
    exact bodyPost_ret (res_two ((setRow_other _ _ _ (tpT a) (show w.heap.size ≠ w.heap.size + 1 by omega)).trans (setRow_heap _ _ _ (tpT a) _ _ HA.out)) (setRow_heap _ _ _ (tpT a) _ _ HBo2.out) rfl rfl Tryz.results7 _ (by kernel_rfl) (by kernel_rfl)) (by kernel_rfl) ⟨id, a, a, rfl, below_setRow2 (below_setRow2 (bt HB2.out HBk.out) (Nat.le_refl _) _) (by omega) _⟩
  have q0 : (x == 0) = false := by simpa using e0
  by_cases e1 : x = 1
  · subst e1
    clear e0 q0
    go_upto_region 8 with (fail)
    have HS := Lib.hid (show Held w5.drew [(g7, tpT a, 25)] from (Held.none w5).cons HX5.out)
    have HBd := Lib.hid (show Below w0.heap.size w0 w5.drew from ⟨HC5.out.belowOf.os, HC5.out.belowOf.tape, HC5.out.belowOf.output, HC5.out.belowOf.size, HC5.out.belowOf.block⟩)
    refine sq_go (S := fun w' => Held w' [(g7, tpT a, 25)]) [(true, 0), (true, 1), (true, 2), (true, 3), (false, 4), (true, 5), (false, 6), (false, 7)] (by kernel_rfl) (fun d _ _ _ _ h => by cases d <;> exact h) HS.out ?_
    refine sq_ps [(0, .int .i64 id)] (by kernel_rfl) ?_
    refine sq_ld (some 25) (ld_pt (.head _) (by kernel_rfl)) (by kernel_rfl) ?_
    refine sq_ps [(2, .int .i64 id)] (by kernel_rfl) ?_
    refine sq_ld (some 27) (ld_pt (.head _) (by kernel_rfl)) (by kernel_rfl) ?_
    refine sq_c (some 28) Tryz.func27 (negPoint_any id a _) (by kernel_rfl) ?_
    rintro e w6 ⟨rfl, bw⟩
    have HS6 := Lib.hid (HS.out.on bw)
    have HBk := Lib.hid (bt HBd.out bw)
    generalize negPtG id a = b at *
    have HA := Lib.hid ((HBk.out.block w.heap.size (by have := hs0.out; omega)).trans HX2.out)
    have HBo := Lib.hid ((HBk.out.block (w.heap.size + 1) (by have := hs0.out; omega)).trans HO2.out)
    refine ⟨_, rfl, HS6.out, ?_⟩
    refine sq_ps [(5, .int .i64 id)] (by kernel_rfl) ?_
    refine sq_st 25 w.heap.size (tpT a) HA.out Tryz.infoPoint rfl (by kernel_rfl) (HS6.out.setRow HP.out.1) (by kernel_rfl) ?_
    have HBo2 := Lib.hid ((setRow_other _ _ _ (tpT a) (show w.heap.size + 1 ≠ w.heap.size by omega)).trans HBo.out)
    refine sq_st 25 (w.heap.size + 1) (tpT b) HBo2.out Tryz.infoPoint rfl (by kernel_rfl) ((HS6.out.setRow HP.out.1).setRow HP.out.2) (by kernel_rfl) ?_
    refine sq_done ?_
    refine (by assumption : ∀ (a : Act) (w_1 : World), Code.wp _ Code.ret _ a w_1 → _) _ _ ?_
    refine wp_ret ?_
    try refine block_ret ?_
    try refine then_ret ?_
    exact bodyPost_ret (res_two ((setRow_other _ _ _ (tpT b) (show w.heap.size ≠ w.heap.size + 1 by omega)).trans (setRow_heap _ _ _ (tpT a) _ _ HA.out)) (setRow_heap _ _ _ (tpT b) _ _ HBo2.out) rfl rfl Tryz.results7 _ (by kernel_rfl) (by kernel_rfl)) (by kernel_rfl) ⟨id, a, b, rfl, below_setRow2 (below_setRow2 (bt HB2.out HBk.out) (Nat.le_refl _) _) (by omega) _⟩
  have q1 : (x == 1) = false := by simpa using e1
  clear e0 e1
  go_upto_region 9 with (fail)
  have HS := Lib.hid (show Held w5.drew [(g7, tpT a, 25)] from (Held.none w5).cons HX5.out)
  have HCd := Lib.hid (HC5.out.below (show Below w5.heap.size w5 w5.drew from ⟨rfl, rfl, rfl, Nat.le_refl _, fun _ _ => rfl⟩))
  refine sq_go (S := fun w' => Held w' [(g7, tpT a, 25)]) [(true, 0), (true, 1), (true, 2), (true, 3), (false, 4), (true, 5), (false, 6), (false, 7)] (by kernel_rfl) (fun d _ _ _ _ h => by cases d <;> exact h) HS.out ?_
  refine sq_ps [(0, .int .i64 id)] (by kernel_rfl) ?_
  refine sq_ld (some 30) (ld_pt (.head _) (by kernel_rfl)) (by kernel_rfl) ?_
  refine sq_ps [(2, .pointer (some ⟨w0.heap.size, 0, none⟩)), (3, .int .i64 id)] (by kernel_rfl) ?_
  refine sq_c (some 33) Tryz.func25 (any10_c HCd.out.start id) (by kernel_rfl) ?_
  rintro e w6 ⟨b, rfl, hc6⟩
  have HS6 := Lib.hid (show Held w6 [(g7, tpT a, 25)] from (Held.none w6).cons (hc6.kept hz5 (by omega) HX5.out))
  have HBk := Lib.hid (HCd.out.trans hc6).belowOf
  have HA := Lib.hid ((HBk.out.block w.heap.size (by have := hs0.out; omega)).trans HX2.out)
  have HBo := Lib.hid ((HBk.out.block (w.heap.size + 1) (by have := hs0.out; omega)).trans HO2.out)
  refine ⟨_, rfl, HS6.out, ?_⟩
  refine sq_ps [(5, .int .i64 id)] (by kernel_rfl) ?_
  refine sq_st 25 w.heap.size (tpT a) HA.out Tryz.infoPoint rfl (by kernel_rfl) (HS6.out.setRow HP.out.1) (by kernel_rfl) ?_
  have HBo2 := Lib.hid ((setRow_other _ _ _ (tpT a) (show w.heap.size + 1 ≠ w.heap.size by omega)).trans HBo.out)
  refine sq_st 25 (w.heap.size + 1) (tpT b) HBo2.out Tryz.infoPoint rfl (by kernel_rfl) ((HS6.out.setRow HP.out.1).setRow HP.out.2) (by kernel_rfl) ?_
  refine sq_done ?_
  refine (by assumption : ∀ (a : Act) (w_1 : World), Code.wp _ Code.ret _ a w_1 → _) _ _ ?_
  refine wp_ret ?_
  try refine block_ret ?_
  try refine then_ret ?_
  exact bodyPost_ret (res_two ((setRow_other _ _ _ (tpT b) (show w.heap.size ≠ w.heap.size + 1 by omega)).trans (setRow_heap _ _ _ (tpT a) _ _ HA.out)) (setRow_heap _ _ _ (tpT b) _ _ HBo2.out) rfl rfl Tryz.results7 _ (by kernel_rfl) (by kernel_rfl)) (by kernel_rfl) ⟨id, a, b, rfl, below_setRow2 (below_setRow2 (bt HB2.out HBk.out) (Nat.le_refl _) _) (by omega) _⟩
end Go.Proofs.YtkmmlfocidfghaaGreat
