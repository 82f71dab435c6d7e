import Derived.Test.YtdajgcgliidjbaaGreatNArith
import Derived.Test.YtdajgcgliidjbaaGreatRows
import Derived.Test.YtdajgcgliidjbaaGreatBase
import Derived.Handy
import Derived.Lib.Hide
import Derived.Outline
import Derived.Deep.QuietTactic
import Derived.BigQuiet
import Derived.Laws.OwnMore
import Derived.OpenShut
import Derived.Test.YtdajgcgliidjbaaGreatRSpec
import Derived.Laws.Rows
import Derived.Laws.Tables
set_option maxRecDepth 8000
set_option maxHeartbeats 4000000
namespace Go.Proofs.YtdajgcgliidjbaaGreat
open Go.RowKit
theorem in_i (x l m : Int) (w : World) : Calls Tryz.prog 43 #[.int .i64 x, .int .i64 l, .int .i64 m] w fun e w' => e = .returned (.bool (decide (l ≤ x) && decide (x ≤ m))) ∧ w = w' := by
 by_cases h1 : l ≤ x
 ·have d1 : decide (l ≤ x) = true := by simpa using h1
  rw [d1, Bool.true_and]
  go_enter Tryz.func43, Tryz.ntmps43
  go_wp2
  go_ret
  exact ⟨rfl, rfl⟩
 ·have d1 : decide (l ≤ x) = false := by simpa using h1
  rw [d1, Bool.false_and]
  go_enter Tryz.func43, Tryz.ntmps43
  go_wp2
  go_ret
  exact ⟨rfl, rfl⟩
end Go.Proofs.YtdajgcgliidjbaaGreat
namespace Go.Proofs.YtdajgcgliidjbaaGreat
open Go.RowKit
def cvP1 : ByteArray := ⟨#[26, 9, 71]⟩
def cvR1 : ByteArray := ⟨#[26, 4, 1]⟩
def cv1 : Array Value := #[.string ⟨#[110, 97, 114, 114, 111, 119, 45, 115, 109, 97, 108, 108]⟩, .string cvP1, .string cvR1, .string ⟨#[3]⟩, .string ⟨#[180, 37]⟩, .string ⟨#[4, 56, 219]⟩, .int .i64 3, .int .i64 3, .bool false]
def cvP2 : ByteArray := ⟨#[2, 122, 161, 225, 67]⟩
def cvR2 : ByteArray := ⟨#[150, 3, 193]⟩
def cv2 : Array Value := #[.string ⟨#[98, 114, 111, 97, 100, 45, 115, 109, 97, 108, 108]⟩, .string cvP2, .string cvR2, .string ⟨#[4]⟩, .string ⟨#[4]⟩, .string ⟨#[4]⟩, .int .i64 5, .int .i64 3, .bool true]
def cvP3 : ByteArray := ⟨#[48, 100, 78, 114, 225, 49, 160, 41, 184, 80, 69, 182, 129, 129, 88, 93, 151, 129, 106, 145, 104, 113, 202, 141, 60, 32, 140, 22, 216, 124, 253, 71]⟩
def cvR3 : ByteArray := ⟨#[48, 100, 78, 114, 225, 49, 160, 41, 184, 80, 69, 182, 129, 129, 88, 93, 40, 51, 232, 72, 121, 185, 112, 145, 67, 225, 245, 147, 240, 0, 0, 1]⟩
def cv3 : Array Value := #[.string ⟨#[110, 97, 114, 114, 111, 119]⟩, .string cvP3, .string cvR3, .string ⟨#[3]⟩, .string ⟨#[43, 20, 157, 64, 206, 184, 170, 174, 129, 190, 24, 153, 27, 224, 106, 195, 181, 180, 197, 229, 89, 219, 239, 163, 50, 103, 230, 220, 36, 161, 56, 229]⟩, .string ⟨#[151, 19, 176, 58, 240, 254, 212, 205, 44, 175, 173, 238, 216, 253, 244, 167, 79, 160, 132, 229, 45, 24, 82, 228, 162, 189, 6, 133, 195, 21, 210]⟩, .int .i64 32, .int .i64 32, .bool false]
def cvP4 : ByteArray := ⟨#[26, 1, 17, 234, 57, 127, 230, 154, 75, 27, 167, 182, 67, 75, 172, 215, 100, 119, 75, 132, 243, 133, 18, 191, 103, 48, 210, 160, 246, 176, 246, 36, 30, 171, 255, 254, 177, 83, 255, 255, 185, 254, 255, 255, 255, 255, 170, 171]⟩
def cvR4 : ByteArray := ⟨#[115, 237, 167, 83, 41, 157, 125, 72, 51, 57, 216, 8, 9, 161, 216, 5, 83, 189, 164, 2, 255, 254, 91, 254, 255, 255, 255, 255, 0, 0, 0, 1]⟩
def cv4 : Array Value := #[.string ⟨#[98, 114, 111, 97, 100]⟩, .string cvP4, .string cvR4, .string ⟨#[4]⟩, .string ⟨#[4]⟩, .string ⟨#[4]⟩, .int .i64 48, .int .i64 32, .bool true]
abbrev cv0 : Array Value := #[.string ⟨#[]⟩, .string ⟨#[]⟩, .string ⟨#[]⟩, .string ⟨#[]⟩, .string ⟨#[]⟩, .string ⟨#[]⟩, .int .i64 0, .int .i64 0, .bool false]
def cvC (id : Int) : Array Value := if id = 1 then cv1 else if id = 2 then cv2 else if id = 3 then cv3 else if id = 4 then cv4 else cv0
theorem cvC_size (id : Int) : (cvC id).size = 9 := by
 unfold cvC
 split
 ·rfl
 split
 ·rfl
 split
 ·rfl
 split <;> rfl
theorem Tryz.infoCv : (Tryz.prog.info? 35).map (·.size) = some 9 := by kernel_rfl
theorem cv_result {w : World} {g : Nat} {C : Array Value} (hb : w.heap[g]? = some (.cells C 35 (0, 0))) (hs : C.size = 9) {fn : Func} {p : Tmp} (hf : fn.results = #[.cell p 35]) (tmps : Array Value) (hp : tmps.getD p undef = .pointer (some ⟨g, 0, none⟩)) :
  (results fn tmps).run Tryz.prog w = .ok (.agg C) w :=
 results_cell_row hf tmps w g _ _ _ _ hp hb Tryz.underlying35 rfl (by rw [hs]; exact Tryz.infoCv)
theorem cv_result2 {w : World} {g : Nat} {C : Array Value} (hb : w.heap[g]? = some (.cells C 35 (0, 0))) (hs : C.size = 9) {fn : Func} {p q : Tmp} (hf : fn.results = #[.cell p 35, .tmp q]) (tmps : Array Value) (hp : tmps.getD p undef = .pointer (some ⟨g, 0, none⟩)) :
  (results fn tmps).run Tryz.prog w = .ok (.tuple #[.agg C, tmps.getD q undef]) w := by
 have e1 := run_loadVar_row (P := Tryz.prog) w g _ 35 _ _ _ hb Tryz.underlying35 rfl (by rw [hs]; exact Tryz.infoCv)
 have hp' : tmps[p]?.getD undef = .pointer (some ⟨g, 0, none⟩) := by simpa using hp
 simp [results, hf, hp', asAddr, e1]
theorem l09Curve_any (id : Int) (w : World) : Calls Tryz.prog 42 #[.int .i64 id] w fun e w' => e = .returned (.agg (cvC id)) ∧ Below w.heap.size w w' := by
 have hb := (Below.refl w.heap.size w).alloc (Nat.le_refl _)
 by_cases h1 : id = 1
 ·subst h1
  skip
  have HR := Lib.hid (fun tmps => cv_result (w := w.alloc (.cells cv1 35)) (heap_alloc_new w _) rfl Tryz.results42 tmps)
  go_enter Tryz.func42, Tryz.ntmps42
  go_wp2
  exact bodyPost_ret (HR.out _ rfl) rfl ⟨rfl, hb _⟩
 by_cases h2 : id = 2
 ·subst h2
  clear h1
  have HR := Lib.hid (fun tmps => cv_result (w := w.alloc (.cells cv2 35)) (heap_alloc_new w _) rfl Tryz.results42 tmps)
  go_enter Tryz.func42, Tryz.ntmps42
  go_wp2
  exact bodyPost_ret (HR.out _ rfl) rfl ⟨rfl, hb _⟩
 by_cases h3 : id = 3
 ·subst h3
  clear h1 h2
  have HR := Lib.hid (fun tmps => cv_result (w := w.alloc (.cells cv3 35)) (heap_alloc_new w _) rfl Tryz.results42 tmps)
  go_enter Tryz.func42, Tryz.ntmps42
  go_wp2
  exact bodyPost_ret (HR.out _ rfl) rfl ⟨rfl, hb _⟩
 by_cases h4 : id = 4
 ·subst h4
  clear h1 h2 h3
  have HR := Lib.hid (fun tmps => cv_result (w := w.alloc (.cells cv4 35)) (heap_alloc_new w _) rfl Tryz.results42 tmps)
  go_enter Tryz.func42, Tryz.ntmps42
  go_wp2
  exact bodyPost_ret (HR.out _ rfl) rfl ⟨rfl, hb _⟩
 have e : cvC id = cv0 := by unfold cvC; rw [if_neg h1, if_neg h2, if_neg h3, if_neg h4]
 rw [e]
 have q1 : (id == 1) = false := by simpa using h1
 have q2 : (id == 2) = false := by simpa using h2
 have q3 : (id == 3) = false := by simpa using h3
 have q4 : (id == 4) = false := by simpa using h4
 have HR := Lib.hid (fun tmps => cv_result (w := w.alloc (.cells cv0 35)) (heap_alloc_new w _) rfl Tryz.results42 tmps)
 clear h1 h2 h3 h4 e
 go_enter Tryz.func42, Tryz.ntmps42
 go_wp2
 exact bodyPost_ret (HR.out _ rfl) rfl ⟨rfl, hb _⟩
def cvB (id : Int) : Bool := decide (1 ≤ id) && decide (id ≤ 4)
theorem below_setRow2 {B : Nat} {w wr : World} (h : Below B w wr) {g : Nat} (hg : B ≤ g) (cs : Array Value) : Below B w (wr.setRow g cs) :=
 ⟨h.os, h.tape, h.output, by rw [size_setRow]; exact h.size, fun i hi => (setRow_other wr g i cs (by omega)).trans (h.block i hi)⟩
theorem cv_store {ops : Array Oper} {rest : List Oper} {o : Oper} {a : Act} {w : World} {Q : Exit → Act → World → Prop} (hgd : o.guard = none) (x y : Operand) (ho : o.op = .store 35 x y) (g : Nat) (C C' : Array Value)
  (hx : a.eval x = .pointer (some ⟨g, 0, none⟩)) (hy : a.eval y = .agg C') (h : w.heap[g]? = some (.cells C 35 (0, 0))) (hs : C.size = 9) (hs' : C'.size = 9) (h1 : C'.all (·.oneCell') = true) (k : wpList Tryz.prog ops Q rest (a.put o.dst undef) (w.setRow g C')) : wpList Tryz.prog ops Q (o :: rest) a w :=
 wpList_plain hgd fun _ hK => wp_store_row _ x y ho g _ hx hy _ _ h (by rw [hs']; exact Tryz.infoCv) (by rw [hs', hs]) h1 (hK _ _ k)
theorem cvC_one (id : Int) : (cvC id).all (·.oneCell') = true := by
 unfold cvC
 split
 ·kernel_rfl
 split
 ·kernel_rfl
 split
 ·kernel_rfl
 split <;> kernel_rfl
theorem curveOf_any (id : Int) (w : World) : Calls Tryz.prog 14 #[.int .i64 id] w fun e w' => e = .returned (.tuple #[.agg (cvC id), .bool (cvB id)]) ∧ Below w.heap.size w w' := by
 have HC := Lib.hid (l09Curve_any id)
 have HI := Lib.hid (in_i id 1 4)
 have hs := cvC_size id
 have h1 := cvC_one id
 have HS := Lib.hid hs
 have H1 := Lib.hid h1
 unfold cvB
 generalize cvC id = C at *
 generalize (decide (1 ≤ id) && decide (id ≤ 4)) = bb at *
 clear hs h1
 go_enter Tryz.func14, Tryz.ntmps14
 go_wp2_with fail
 refine (HC.out _).mono ?_
 rintro e w1 ⟨rfl, b1⟩
 go_wp2_with fail
 refine (HI.out _).mono ?_
 rintro e w2 ⟨rfl, rfl⟩
 have hblk : w1.heap[w.heap.size]? = some (.cells cv0 35 (0, 0)) := (b1.block w.heap.size (by simp)).trans (heap_alloc_new w _)
 have HB := Lib.hid hblk
 have HR := Lib.hid (fun tmps => cv_result2 (w := w1.setRow w.heap.size C) (setRow_heap w1 w.heap.size _ _ _ _ hblk) HS.out Tryz.results14 tmps)
 have HW := Lib.hid (below_setRow2 (bt ((Below.refl w.heap.size w).alloc (Nat.le_refl _) _) b1) (Nat.le_refl w.heap.size) C)
 clear b1 hblk HC HI
 go_wp2_with (first | refine cv_store rfl (.tmp 2) (.tmp 5) rfl w.heap.size cv0 C rfl rfl HB.out rfl HS.out H1.out ?_)
 exact bodyPost_ret (HR.out _ rfl) rfl ⟨rfl, HW.out⟩
theorem gS_small {n : Nat} (h : n < GB) : (gS n).size ≤ 950 := by
 have : okG (gS n) = true := by rw [okG_gS]; simpa using h
 have := okG_size this; omega
theorem cv_var (w : World) (C : Array Value) (_hs : C.size = 9) : (w.alloc (.cells cv0 35)).heap[w.heap.size]? = some (.cells cv0 35 (0, 0)) ∧ ((w.alloc (.cells cv0 35)).setRow w.heap.size C).heap[w.heap.size]? = some (.cells C 35 (0, 0)) ∧ Below w.heap.size w ((w.alloc (.cells cv0 35)).setRow w.heap.size C) ∧ ((w.alloc (.cells cv0 35)).setRow w.heap.size C).heap.size = w.heap.size + 1 :=
 ⟨heap_alloc_new w _, setRow_heap _ _ _ _ _ _ (heap_alloc_new w _), below_setRow2 ((Below.refl _ _).alloc (Nat.le_refl _) _) (Nat.le_refl _) _, by rw [size_setRow]; simp⟩
end Go.Proofs.YtdajgcgliidjbaaGreat
