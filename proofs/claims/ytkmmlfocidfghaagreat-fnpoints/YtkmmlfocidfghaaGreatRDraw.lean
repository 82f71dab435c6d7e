import Derived.Test.YtkmmlfocidfghaaGreatGDraw
import Derived.Test.YtkmmlfocidfghaaGreatRSpec
import Derived.Test.YtkmmlfocidfghaaGreatTBytes
import Derived.Laws.Rows
import Derived.Laws.Tables
namespace Go.Proofs.YtkmmlfocidfghaaGreat
open Go.RowKit
def cvP1 : ByteArray := ⟨#[26, 9, 71]⟩
def cvR1 : ByteArray := ⟨#[26, 4, 1]⟩
def cv1 : Array Value := #[.string ⟨#[110, 97, 114, 114, 111, 119, 45, 115, 109, 97, 108, 108]⟩, .string cvP1, .string cvR1, .string ⟨#[3]⟩, .string ⟨#[180, 37]⟩, .string ⟨#[4, 56, 219]⟩, .int .i64 3, .int .i64 3, .bool false]
def cvP2 : ByteArray := ⟨#[2, 122, 161, 225, 67]⟩
def cvR2 : ByteArray := ⟨#[150, 3, 193]⟩
def cv2 : Array Value := #[.string ⟨#[98, 114, 111, 97, 100, 45, 115, 109, 97, 108, 108]⟩, .string cvP2, .string cvR2, .string ⟨#[4]⟩, .string ⟨#[4]⟩, .string ⟨#[4]⟩, .int .i64 5, .int .i64 3, .bool true]
def cvP3 : ByteArray := ⟨#[48, 100, 78, 114, 225, 49, 160, 41, 184, 80, 69, 182, 129, 129, 88, 93, 151, 129, 106, 145, 104, 113, 202, 141, 60, 32, 140, 22, 216, 124, 253, 71]⟩
def cvR3 : ByteArray := ⟨#[48, 100, 78, 114, 225, 49, 160, 41, 184, 80, 69, 182, 129, 129, 88, 93, 40, 51, 232, 72, 121, 185, 112, 145, 67, 225, 245, 147, 240, 0, 0, 1]⟩
def cv3 : Array Value := #[.string ⟨#[110, 97, 114, 114, 111, 119]⟩, .string cvP3, .string cvR3, .string ⟨#[3]⟩, .string ⟨#[43, 20, 157, 64, 206, 184, 170, 174, 129, 190, 24, 153, 27, 224, 106, 195, 181, 180, 197, 229, 89, 219, 239, 163, 50, 103, 230, 220, 36, 161, 56, 229]⟩, .string ⟨#[151, 19, 176, 58, 240, 254, 212, 205, 44, 175, 173, 238, 216, 253, 244, 167, 79, 160, 132, 229, 45, 24, 82, 228, 162, 189, 6, 133, 195, 21, 210]⟩, .int .i64 32, .int .i64 32, .bool false]
def cvP4 : ByteArray := ⟨#[26, 1, 17, 234, 57, 127, 230, 154, 75, 27, 167, 182, 67, 75, 172, 215, 100, 119, 75, 132, 243, 133, 18, 191, 103, 48, 210, 160, 246, 176, 246, 36, 30, 171, 255, 254, 177, 83, 255, 255, 185, 254, 255, 255, 255, 255, 170, 171]⟩
def cvR4 : ByteArray := ⟨#[115, 237, 167, 83, 41, 157, 125, 72, 51, 57, 216, 8, 9, 161, 216, 5, 83, 189, 164, 2, 255, 254, 91, 254, 255, 255, 255, 255, 0, 0, 0, 1]⟩
def cv4 : Array Value := #[.string ⟨#[98, 114, 111, 97, 100]⟩, .string cvP4, .string cvR4, .string ⟨#[4]⟩, .string ⟨#[4]⟩, .string ⟨#[4]⟩, .int .i64 48, .int .i64 32, .bool true]
abbrev cv0 : Array Value := #[.string ⟨#[]⟩, .string ⟨#[]⟩, .string ⟨#[]⟩, .string ⟨#[]⟩, .string ⟨#[]⟩, .string ⟨#[]⟩, .int .i64 0, .int .i64 0, .bool false]
/-- A curve's fields, by its number. -/
def cvC (id : Int) : Array Value := if id = 1 then cv1 else if id = 2 then cv2 else if id = 3 then cv3 else if id = 4 then cv4 else cv0
theorem cvC_size (id : Int) : (cvC id).size = 9 := by
  unfold cvC
  split
  · rfl
  split
  · rfl
  split
  · rfl
  split <;> rfl
theorem Tryz.infoCv : (Tryz.prog.info? 43).map (·.size) = some 9 := by kernel_rfl
theorem cv_result {w : World} {g : Nat} {C : Array Value} (hb : w.heap[g]? = some (.cells C 43 (0, 0))) (hs : C.size = 9) {fn : Func} {p : Tmp} (hf : fn.results = #[.cell p 43]) (tmps : Array Value) (hp : tmps.getD p undef = .pointer (some ⟨g, 0, none⟩)) :
    (results fn tmps).run Tryz.prog w = .ok (.agg C) w :=
  results_cell_row hf tmps w g _ _ _ _ hp hb Tryz.underlying43 rfl (by rw [hs]; exact Tryz.infoCv)
theorem cv_result2 {w : World} {g : Nat} {C : Array Value} (hb : w.heap[g]? = some (.cells C 43 (0, 0))) (hs : C.size = 9) {fn : Func} {p q : Tmp} (hf : fn.results = #[.cell p 43, .tmp q]) (tmps : Array Value) (hp : tmps.getD p undef = .pointer (some ⟨g, 0, none⟩)) :
    (results fn tmps).run Tryz.prog w = .ok (.tuple #[.agg C, tmps.getD q undef]) w := by
  have e1 := run_loadVar_row (P := Tryz.prog) w g _ 43 _ _ _ hb Tryz.underlying43 rfl (by rw [hs]; exact Tryz.infoCv)
  have hp' : tmps[p]?.getD undef = .pointer (some ⟨g, 0, none⟩) := by simpa using hp
  simp [results, hf, hp', asAddr, e1]
set_option maxRecDepth 8000 in
set_option maxHeartbeats 4000000 in
theorem l09Curve_any (id : Int) (w : World) : Calls Tryz.prog 40 #[.int .i64 id] w fun e w' => e = .returned (.agg (cvC id)) ∧ Below w.heap.size w w' := by
  have hb := (Below.refl w.heap.size w).alloc (Nat.le_refl _)
  by_cases h1 : id = 1
  · subst h1
    skip
    have HR := Lib.hid (fun tmps => cv_result (w := w.alloc (.cells cv1 43)) (heap_alloc_new w _) rfl Tryz.results40 tmps)
    go_enter Tryz.func40, Tryz.ntmps40
    go_wp2
    exact bodyPost_ret (HR.out _ rfl) rfl ⟨rfl, hb _⟩
  by_cases h2 : id = 2
  · subst h2
    clear h1
    have HR := Lib.hid (fun tmps => cv_result (w := w.alloc (.cells cv2 43)) (heap_alloc_new w _) rfl Tryz.results40 tmps)
    go_enter Tryz.func40, Tryz.ntmps40
    go_wp2
    exact bodyPost_ret (HR.out _ rfl) rfl ⟨rfl, hb _⟩
  by_cases h3 : id = 3
  · subst h3
    clear h1 h2
    have HR := Lib.hid (fun tmps => cv_result (w := w.alloc (.cells cv3 43)) (heap_alloc_new w _) rfl Tryz.results40 tmps)
    go_enter Tryz.func40, Tryz.ntmps40
    go_wp2
    exact bodyPost_ret (HR.out _ rfl) rfl ⟨rfl, hb _⟩
  by_cases h4 : id = 4
  · subst h4
    clear h1 h2 h3
    have HR := Lib.hid (fun tmps => cv_result (w := w.alloc (.cells cv4 43)) (heap_alloc_new w _) rfl Tryz.results40 tmps)
    go_enter Tryz.func40, Tryz.ntmps40
    go_wp2
    exact bodyPost_ret (HR.out _ rfl) rfl ⟨rfl, hb _⟩
  have e : cvC id = cv0 := by unfold cvC; rw [if_neg h1, if_neg h2, if_neg h3, if_neg h4]
  rw [e]
  have q1 : (id == 1) = false := by simpa using h1
  have q2 : (id == 2) = false := by simpa using h2
  have q3 : (id == 3) = false := by simpa using h3
  have q4 : (id == 4) = false := by simpa using h4
  have HR := Lib.hid (fun tmps => cv_result (w := w.alloc (.cells cv0 43)) (heap_alloc_new w _) rfl Tryz.results40 tmps)
  clear h1 h2 h3 h4 e
  go_enter Tryz.func40, Tryz.ntmps40
  go_wp2
  exact bodyPost_ret (HR.out _ rfl) rfl ⟨rfl, hb _⟩
def cvB (id : Int) : Bool := decide (1 ≤ id) && decide (id ≤ 4)
theorem below_setRow2 {B : Nat} {w wr : World} (h : Below B w wr) {g : Nat} (hg : B ≤ g) (cs : Array Value) : Below B w (wr.setRow g cs) :=
  ⟨h.os, h.tape, h.output, by rw [size_setRow]; exact h.size, fun i hi => (setRow_other wr g i cs (by omega)).trans (h.block i hi)⟩
theorem cv_store {ops : Array Oper} {rest : List Oper} {o : Oper} {a : Act} {w : World} {Q : Exit → Act → World → Prop} (hgd : o.guard = none) (x y : Operand) (ho : o.op = .store 43 x y) (g : Nat) (C C' : Array Value)
    (hx : a.eval x = .pointer (some ⟨g, 0, none⟩)) (hy : a.eval y = .agg C') (h : w.heap[g]? = some (.cells C 43 (0, 0))) (hs : C.size = 9) (hs' : C'.size = 9) (h1 : C'.all (·.oneCell') = true) (k : wpList Tryz.prog ops Q rest (a.put o.dst undef) (w.setRow g C')) : wpList Tryz.prog ops Q (o :: rest) a w :=
  wpList_plain hgd fun _ hK => wp_store_row _ x y ho g _ hx hy _ _ h (by rw [hs']; exact Tryz.infoCv) (by rw [hs', hs]) h1 (hK _ _ k)
theorem cvC_one (id : Int) : (cvC id).all (·.oneCell') = true := by
  unfold cvC
  split
  · kernel_rfl
  split
  · kernel_rfl
  split
  · kernel_rfl
  split <;> kernel_rfl
set_option maxRecDepth 8000 in
set_option maxHeartbeats 4000000 in
theorem curveOf_any (id : Int) (w : World) : Calls Tryz.prog 20 #[.int .i64 id] w fun e w' => e = .returned (.tuple #[.agg (cvC id), .bool (cvB id)]) ∧ Below w.heap.size w w' := by
  have HC := Lib.hid (l09Curve_any id)
  have HI := Lib.hid (in_i id 1 4)
  have hs := cvC_size id
  have h1 := cvC_one id
  have HS := Lib.hid hs
  have H1 := Lib.hid h1
  unfold cvB
  generalize cvC id = C at *
  generalize (decide (1 ≤ id) && decide (id ≤ 4)) = bb at *
  clear hs h1
  go_enter Tryz.func20, Tryz.ntmps20
  go_wp2_with fail
  refine (HC.out _).mono ?_
  rintro e w1 ⟨rfl, b1⟩
  go_wp2_with fail
  refine (HI.out _).mono ?_
  rintro e w2 ⟨rfl, rfl⟩
  have hblk : w1.heap[w.heap.size]? = some (.cells cv0 43 (0, 0)) := (b1.block w.heap.size (by simp)).trans (heap_alloc_new w _)
  have HB := Lib.hid hblk
  have HR := Lib.hid (fun tmps => cv_result2 (w := w1.setRow w.heap.size C) (setRow_heap w1 w.heap.size _ _ _ _ hblk) HS.out Tryz.results20 tmps)
  have HW := Lib.hid (below_setRow2 (bt ((Below.refl w.heap.size w).alloc (Nat.le_refl _) _) b1) (Nat.le_refl w.heap.size) C)
  clear b1 hblk HC HI
  go_wp2_with (first | refine cv_store rfl (.tmp 2) (.tmp 5) rfl w.heap.size cv0 C rfl rfl HB.out rfl HS.out H1.out ?_)
  exact bodyPost_ret (HR.out _ rfl) rfl ⟨rfl, HW.out⟩
theorem gS_small {n : Nat} (h : n < GB) : (gS n).size ≤ 950 := by
  have : okG (gS n) = true := by rw [okG_gS]; simpa using h
  have := okG_size this; omega
theorem subG_size (a b : ByteArray) : (subG a b).size ≤ 950 := by
  unfold subG
  split
  · rename_i h
    refine gS_small (Nat.lt_of_le_of_lt (Nat.sub_le _ _) (gV_lt ?_))
    simp [subB, okT] at h
    exact h.1.1
  · decide
theorem restG_size (a p : ByteArray) : (restG a p).size ≤ 950 := by
  unfold restG
  split
  · rename_i h
    simp only [Bool.and_eq_true] at h
    exact gS_small (Nat.lt_of_le_of_lt (Nat.mod_le _ _) (gV_lt h.2))
  · decide
/-- A curve laid into a variable of the call's own. -/
theorem cv_var (w : World) (C : Array Value) (_hs : C.size = 9) : (w.alloc (.cells cv0 43)).heap[w.heap.size]? = some (.cells cv0 43 (0, 0)) ∧ ((w.alloc (.cells cv0 43)).setRow w.heap.size C).heap[w.heap.size]? = some (.cells C 43 (0, 0)) ∧ Below w.heap.size w ((w.alloc (.cells cv0 43)).setRow w.heap.size C) ∧ ((w.alloc (.cells cv0 43)).setRow w.heap.size C).heap.size = w.heap.size + 1 :=
  ⟨heap_alloc_new w _, setRow_heap _ _ _ _ _ _ (heap_alloc_new w _), below_setRow2 ((Below.refl _ _).alloc (Nat.le_refl _) _) (Nat.le_refl _) _, by rw [size_setRow]; simp⟩
set_option maxRecDepth 8000 in
set_option maxHeartbeats 4000000 in
theorem rest_c {w : World} {B g n cap : Nat} {A : Option Addr} (p : ByteArray) (hp : p.size ≤ 950) (h : Curs w w B g A n cap) :
    Calls Tryz.prog 39 #[.pointer (some ⟨g, 0, none⟩), .string p] w (TextPost (fun t => t.size ≤ 950) B g A n cap w) := by
  have H := Lib.hid (below_c h 10 (by omega) (by omega))
  have hglt := h.c.glt
  clear h
  go_enter Tryz.func39, Tryz.ntmps39
  go_wp2_with fail
  refine H.out.mono ?_
  rintro e w1 ⟨x, rfl, x0, x1, hc⟩
  have HC := Lib.hid hc
  clear hc H
  by_cases e0 : x = 0
  · subst e0
    go_wp2_with fail
    refine (any_c HC.out.start).mono ?_
    rintro e w2 ⟨t, rfl, st, hc2⟩
    have HC2 := Lib.hid (HC.out.trans hc2)
    clear hc2 HC
    go_wp2
    go_ret
    exact ⟨_, rfl, st, HC2.out⟩
  have q0 : (x == 0) = false := by simpa using e0
  by_cases e1 : x = 1
  · subst e1
    clear e0 q0
    go_wp2
    go_ret
    exact ⟨_, rfl, hp, HC.out⟩
  have q1 : (x == 1) = false := by simpa using e1
  by_cases e2 : x = 2
  · subst e2
    clear e0 q0 e1 q1
    go_wp2
    go_ret
    exact ⟨_, rfl, by decide, HC.out⟩
  have q2 : (x == 2) = false := by simpa using e2
  by_cases e3 : x = 3
  · subst e3
    clear e0 e1 e2 q0 q1 q2
    have H2 := Lib.hid (below_c HC.out.start 3 (by omega) (by omega))
    go_wp2_with fail
    refine H2.out.mono ?_
    rintro e w2 ⟨y, rfl, y0, y1, hc2⟩
    have HC2 := Lib.hid (HC.out.trans hc2)
    have G1 := Lib.hid (fun w => greatOf_any (1 + y) w (by omega))
    clear hc2 H2 HC
    go_wp2_with fail
    refine (G1.out _).mono ?_
    rintro e w3 ⟨rfl, b3⟩
    have HC3 := Lib.hid (HC2.out.below b3)
    clear b3 HC2 G1
    go_wp2_with fail
    refine (subGreat_any p _ _).mono ?_
    rintro e w4 ⟨rfl, b4⟩
    have HC4 := Lib.hid (HC3.out.below b4)
    have SZ := Lib.hid (subG_size p (ofI (1 + y)))
    generalize subG p (ofI (1 + y)) = sg at *
    generalize subB p (ofI (1 + y)) = sb at *
    clear b4 HC3
    go_wp2
    go_ret
    exact ⟨_, rfl, SZ.out, HC4.out⟩
  have q3 : (x == 3) = false := by simpa using e3
  clear e0 e1 e2 e3
  have H2 := Lib.hid (below_c HC.out.start ((p.size : Int) + 2) (by omega) (by omega))
  go_wp2_with fail
  refine H2.out.mono ?_
  rintro e w2 ⟨y, rfl, y0, y1, hc2⟩
  obtain ⟨m, rfl⟩ : ∃ m : Nat, y = (m : Int) := ⟨y.toNat, by omega⟩
  have HC2 := Lib.hid (HC.out.trans hc2)
  have T1 := Lib.hid (text_c HC2.out.start m (by omega))
  clear hc2 H2 HC
  go_wp2_with fail
  refine T1.out.mono ?_
  rintro e w3 ⟨t, rfl, ht, hc3⟩
  have HC3 := Lib.hid (HC2.out.trans hc3)
  clear hc3 T1 HC2
  go_wp2_with fail
  refine (fromFirst_any t _).mono ?_
  rintro e w4 ⟨rfl, rfl⟩
  go_wp2_with fail
  refine (restOf_any _ p _).mono ?_
  rintro e w5 ⟨rfl, b5⟩
  have HC5 := Lib.hid (HC3.out.below b5)
  have SZ := Lib.hid (restG_size (fromG t) p)
  generalize restG (fromG t) p = rg at *
  clear b5 HC3
  go_wp2
  go_ret
  exact ⟨_, rfl, SZ.out, HC5.out⟩
end Go.Proofs.YtkmmlfocidfghaaGreat
