import Derived.Test.YtejmogdognenmaaGreatUInvs
import Derived.Test.YtejmogdognenmaaGreatQDraw
namespace Go.Proofs.YtejmogdognenmaaGreat
open Go.RowKit
def smallP (t : Pt) : Prop := t.1.size ≤ 950 ∧ t.2.size ≤ 950
def PtPost (B g : Nat) (A : Option Addr) (n cap : Nat) (w : World) (e : Ending) (w' : World) : Prop := ∃ t : Pt, e = .returned (.agg (aggT t)) ∧ smallP t ∧ Curs w w' B g A n cap
theorem none_small : (⟨#[]⟩ : ByteArray).size ≤ 950 := by decide
/-- A block that was made behind w stays while the cursor goes on. -/
theorem Curs.kept {w w1 : World} {B g k n cap : Nat} {A : Option Addr} {o : Obj} (h : Curs w w1 B g A n cap) (hk : k < w.heap.size) (hne : k ≠ g) (ho : w.heap[k]? = some o) : w1.heap[k]? = some o :=
  (h.gr.block k hk (fun e => hne (Option.some.inj e))).trans ho
/-- A store into a block that was made behind w. -/
theorem Curs.put {w w1 : World} {B g k n cap : Nat} {A : Option Addr} {C : Array Value} (h : Curs w w1 B g A n cap) (hk : w.heap.size ≤ k) (hg : g < w.heap.size) : Curs w (w1.setRow k C) B g A n cap :=
  ⟨h.c.kept (setRow_other _ _ _ _ (by omega)), h.d.below (below_setRow2 (Below.refl _ _) (Nat.le_trans h.hg (by omega)) _), h.hg, by rw [size_setRow]; exact h.hB,
    ⟨h.gr.os, h.gr.tape, h.gr.output, by rw [size_setRow]; exact h.gr.size, fun i hi hne => (setRow_other _ _ _ _ (by omega)).trans (h.gr.block i hi hne)⟩⟩
theorem Curs.putC {w w1 : World} {B g g' k n cap : Nat} {A : Option Addr} {v : Value} (h : Curs w w1 B g A n cap) (hk : w.heap.size ≤ g') (hg : g < w.heap.size) : Curs w (w1.setCell ⟨g', k, none⟩ v) B g A n cap :=
  ⟨h.c.kept (Below.heap_setCell _ _ _ _ (show g ≠ g' by omega)), h.d.below ((Below.refl _ _).setCell (p := ⟨g', k, none⟩) (Nat.le_trans h.hg (show g ≤ g' by omega)) v), h.hg, by rw [World.size_setCell]; exact h.hB,
    ⟨h.gr.os, h.gr.tape, h.gr.output, by rw [World.size_setCell]; exact h.gr.size, fun i hi hne => (Below.heap_setCell _ _ _ _ (show i ≠ g' by omega)).trans (h.gr.block i hi hne)⟩⟩
set_option maxRecDepth 8000 in
set_option maxHeartbeats 4000000 in
theorem rest7_c {w : World} {B g n cap : Nat} {A : Option Addr} (p : ByteArray) (hp : p.size ≤ 950) (h : Curs w w B g A n cap) :
    Calls Tryz.prog 42 #[.pointer (some ⟨g, 0, none⟩), .string p] w (PtPost B g A n cap w) := by
  have hglt := h.c.glt
  have HA := Lib.hid (agg_new w noP 25)
  have HC1 := Lib.hid (h.below HA.out.2)
  have hs1 : (w.alloc (.cells (aggT noP) 25)).heap.size = w.heap.size + 1 := by simp
  have eN : aggT noP = #[.string ⟨#[]⟩, .string ⟨#[]⟩] := rfl
  rw [eN] at HA HC1 hs1
  clear h eN
  go_enter Tryz.func42, Tryz.ntmps42
  go_wp2_with fail
  generalize w.alloc (.cells #[.string ⟨#[]⟩, .string ⟨#[]⟩] 25) = w1 at *
  refine (rest_c p hp HC1.out.start).mono ?_
  rintro e w2 ⟨a, rfl, sa, hc2⟩
  have HC2 := Lib.hid hc2
  clear hc2
  go_wp2_with fail
  refine (rest_c p hp HC2.out.start).mono ?_
  rintro e w3 ⟨b, rfl, sb, hc3⟩
  have hc13 := HC2.out.trans hc3
  have HC3 := Lib.hid (HC1.out.trans hc13)
  have HR3 := Lib.hid (hc13.kept (by omega) (by omega) HA.out.1)
  have hz3 : w.heap.size < w3.heap.size := (Array.getElem?_eq_some_iff.1 HR3.out).1
  have HN4 := Lib.hid (heap_alloc_new w3 (.cells #[.string ⟨#[]⟩, .string ⟨#[]⟩] 25))
  have HX4 := Lib.hid (setRow_heap _ w3.heap.size _ (aggT (a, b)) _ _ HN4.out)
  have b4 : Below w3.heap.size w3 ((w3.alloc (.cells #[.string ⟨#[]⟩, .string ⟨#[]⟩] 25)).setRow w3.heap.size (aggT (a, b))) := below_setRow2 ((Below.refl _ _).alloc (Nat.le_refl _) _) (Nat.le_refl _) _
  have HB4 := Lib.hid b4
  clear hc3 hc13 HC1 HC2 HA b4
  go_wp2_with (first | refine store_p rfl (.tmp 5) (.tmp 12) rfl w3.heap.size _ (a, b) rfl rfl HN4.out rfl ?_)
  generalize (w3.alloc (.cells #[.string ⟨#[]⟩, .string ⟨#[]⟩] 25)).setRow w3.heap.size (aggT (a, b)) = w4 at *
  have HR4 := Lib.hid ((HB4.out.block _ hz3).trans HR3.out)
  have HC4 := Lib.hid (HC3.out.below HB4.out)
  have hz4 : w3.heap.size < w4.heap.size := (Array.getElem?_eq_some_iff.1 HX4.out).1
  have hg3 : g ≠ w3.heap.size := by omega
  have H5 := Lib.hid (below_c HC4.out.start 6 (by omega) (by omega))
  clear HN4 HB4 HR3 HC3
  generalize w3.heap.size = g5 at *
  refine H5.out.mono ?_
  rintro e w5 ⟨x, rfl, x0, x1, hc5⟩
  have HC5 := Lib.hid (HC4.out.trans hc5)
  have HX5 := Lib.hid (hc5.kept hz4 (by omega) HX4.out)
  have HR5 := Lib.hid (hc5.kept (by omega) (by omega) HR4.out)
  clear hc5 HC4 HX4 HR4 H5
  have fin : Hid (∀ (w6 : World) (t : Pt), smallP t → w6.heap[w.heap.size]? = some (.cells #[.string ⟨#[]⟩, .string ⟨#[]⟩] 25 (0, 0)) → Curs w w6 B g A n cap →
      PtPost B g A n cap w (.returned (.agg (aggT t))) (w6.setRow w.heap.size (aggT t)) ∧ (w6.setRow w.heap.size (aggT t)).heap[w.heap.size]? = some (.cells (aggT t) 25 (0, 0))) := fun w6 t ht hr hc =>
    ⟨⟨t, rfl, ht, hc.put (Nat.le_refl _) hglt⟩, setRow_heap _ _ _ _ _ _ hr⟩
  by_cases e0 : x = 0
  · subst e0
    have c1 := (cell_of_row w5 g5 1 _ _ _ HX5.out).trans (show _ = some (.string b) from rfl)
    have f1 := frozen_of_row w5 g5 1 _ _ HX5.out
    have HX6 : Hid ((w5.setCell ⟨g5, 1, none⟩ (.string ⟨#[]⟩)).heap[g5]? = some (.cells (aggT (a, ⟨#[]⟩)) 25 (0, 0))) := heap_setCell_same w5 g5 1 _ _ _ HX5.out
    have HR6 := Lib.hid ((Below.heap_setCell w5 ⟨g5, 1, none⟩ (.string ⟨#[]⟩) w.heap.size (show w.heap.size ≠ g5 by omega)).trans HR5.out)
    have HF := Lib.hid (fin.out _ (a, ⟨#[]⟩) ⟨sa, none_small⟩ HR6.out (HC5.out.putC (k := 1) (v := .string ⟨#[]⟩) (show w.heap.size ≤ g5 by omega) hglt))
    clear HC5 HR5 HX5 fin
    go_wp2_with (first | refine load_p rfl (.tmp 5) rfl g5 (a, ⟨#[]⟩) rfl HX6.out ?_ | refine store_p rfl (.tmp 4) (.tmp 21) rfl w.heap.size _ (a, ⟨#[]⟩) rfl rfl HR6.out rfl ?_)
    exact bodyPost_ret (results_cell_row Tryz.results42 _ _ w.heap.size _ _ _ _ rfl HF.out.2 Tryz.underlying25 rfl Tryz.infoP) rfl HF.out.1
  by_cases e1 : x = 1
  · subst e1
    have c1 := (cell_of_row w5 g5 0 _ _ _ HX5.out).trans (show _ = some (.string a) from rfl)
    have f1 := frozen_of_row w5 g5 0 _ _ HX5.out
    have HX6 : Hid ((w5.setCell ⟨g5, 0, none⟩ (.string ⟨#[]⟩)).heap[g5]? = some (.cells (aggT (⟨#[]⟩, b)) 25 (0, 0))) := heap_setCell_same w5 g5 0 _ _ _ HX5.out
    have HR6 := Lib.hid ((Below.heap_setCell w5 ⟨g5, 0, none⟩ (.string ⟨#[]⟩) w.heap.size (show w.heap.size ≠ g5 by omega)).trans HR5.out)
    have HF := Lib.hid (fin.out _ (⟨#[]⟩, b) ⟨none_small, sb⟩ HR6.out (HC5.out.putC (k := 0) (v := .string ⟨#[]⟩) (show w.heap.size ≤ g5 by omega) hglt))
    clear HC5 HR5 HX5 fin e0
    go_wp2_with (first | refine load_p rfl (.tmp 5) rfl g5 (⟨#[]⟩, b) rfl HX6.out ?_ | refine store_p rfl (.tmp 4) (.tmp 21) rfl w.heap.size _ (⟨#[]⟩, b) rfl rfl HR6.out rfl ?_)
    exact bodyPost_ret (results_cell_row Tryz.results42 _ _ w.heap.size _ _ _ _ rfl HF.out.2 Tryz.underlying25 rfl Tryz.infoP) rfl HF.out.1
  · have q0 : (x == 0) = false := by simpa using e0
    have q1 : (x == 1) = false := by simpa using e1
    have HF := Lib.hid (fin.out _ (a, b) ⟨sa, sb⟩ HR5.out HC5.out)
    clear HC5 fin e0 e1
    go_wp2_with (first | refine load_p rfl (.tmp 5) rfl g5 (a, b) rfl HX5.out ?_ | refine store_p rfl (.tmp 4) (.tmp 21) rfl w.heap.size _ (a, b) rfl rfl HR5.out rfl ?_)
    exact bodyPost_ret (results_cell_row Tryz.results42 _ _ w.heap.size _ _ _ _ rfl HF.out.2 Tryz.underlying25 rfl Tryz.infoP) rfl HF.out.1
end Go.Proofs.YtejmogdognenmaaGreat
