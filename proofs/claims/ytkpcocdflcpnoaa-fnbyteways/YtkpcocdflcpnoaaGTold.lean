/-
  The draws of chapter 3 (spec.l01PickInt, l03Wide, DrawFirstBytes, DrawGreatText, DrawReadGreat): something is drawn, nothing else turns.
-/
import Derived.Test.YtkpcocdflcpnoaaGDraw
import Derived.Test.YtkpcocdflcpnoaaTText
namespace Go.Proofs.Ytkpcocdflcpnoaa
open Go.RowKit

theorem big_g (A : Option Addr) (n cap : Nat) (w : World) (_hn : n ≤ maxLen) : Calls Try.prog 11 #[.slice A n cap] w fun e w' => e = .returned (.bool (decide ((1048576 : Int) < (n : Int)))) ∧ w = w' := by
  go_enter Try.func11, Try.ntmps11
  go_wp2
  go_ret
  exact ⟨rfl, rfl⟩
/-- A row of numbers. -/
def Nums (w : World) (gl k : Nat) : Prop := ∀ i, i < k → ∃ x : Int, w.cell? ⟨gl, i, none⟩ = some (.int .i64 x)
def IntPick (B g : Nat) (A : Option Addr) (n cap : Nat) (w : World) (e : Ending) (w' : World) : Prop := ∃ x : Int, e = .returned (.int .i64 x) ∧ Curs w w' B g A n cap
set_option maxHeartbeats 1000000 in
theorem pickInt_c {w : World} {B g n cap gl k cl : Nat} {A : Option Addr} (h : Curs w w B g A n cap) (ht : Nums w gl k) (hgl : gl < w.heap.size) (hne : gl ≠ g) (hk : 0 < k) (hk2 : k ≤ 1000) :
    Calls Try.prog 67 #[.pointer (some ⟨g, 0, none⟩), .slice (some ⟨gl, 0, none⟩) k cl] w (IntPick B g A n cap w) := by
  have H := Lib.hid (below_c h (k : Int) (by omega) (by omega))
  have HT := Lib.hid ht
  clear h ht
  go_enter Try.func67, Try.ntmps67
  go_wp2_with fail
  refine H.out.mono ?_
  rintro e w1 ⟨x, rfl, x0, x1, hc⟩
  obtain ⟨i, rfl⟩ : ∃ i : Nat, x = (i : Int) := ⟨x.toNat, by omega⟩
  obtain ⟨t, htc⟩ := HT.out i (by omega)
  have e1 : w1.heap[gl]? = w.heap[gl]? := hc.gr.block gl hgl (fun e => hne (by injection e))
  have htc1 : w1.cell? ⟨gl, i, none⟩ = some (.int .i64 t) := (World.cell?_of_block (w := w) (a := ⟨gl, i, none⟩) e1).trans htc
  have HC := Lib.hid hc
  clear hc e1 H
  go_wp2
  go_ret
  exact ⟨t, rfl, HC.out⟩
def isNum : Value → Bool
  | .int .i64 _ => true
  | _ => false
theorem nums_new (w : World) (l : List Value) (t : TypeId) (h : l.all isNum = true) : Nums (w.alloc (.cells l.toArray t)) w.heap.size l.length := fun i hi => by
  have h1 := cell_of_row (w.alloc (.cells l.toArray t)) w.heap.size i _ _ _ (heap_alloc_new w _)
  rw [List.getElem?_toArray, List.getElem?_eq_getElem hi] at h1
  have h2 := List.all_eq_true.1 h l[i] (List.getElem_mem hi)
  cases hv : l[i] with
  | int k x =>
    cases k with
    | i64 => exact ⟨x, by rw [h1, hv]⟩
    | _ => rw [hv] at h2; cases h2
  | _ => rw [hv] at h2; cases h2
theorem pickInt_new {w w4 : World} {B g n cap : Nat} {A : Option Addr} (h : Curs w w4 B g A n cap) (hglt : g < w.heap.size) (l : List Value) (t : TypeId) (hs : l.all isNum = true) (hk : 0 < l.length) (hk2 : l.length ≤ 1000) :
    Calls Try.prog 67 #[.pointer (some ⟨g, 0, none⟩), .slice (some ⟨w4.heap.size, 0, none⟩) l.length l.length] (w4.alloc (.cells l.toArray t)) (IntPick B g A n cap w) := by
  have hc := h.below ((Below.refl w4.heap.size w4).alloc (Nat.le_refl _) (.cells l.toArray t))
  have hsz := h.gr.size
  exact (pickInt_c hc.start (nums_new w4 l t hs) (by simp) (by omega) hk hk2).mono fun _ _ ⟨x, he, hc2⟩ => ⟨x, he, hc.trans hc2⟩
/-- A cursor new made. -/
theorem curs_new {w : World} {A : Option Addr} {n cap : Nat} {h : Int} (hd : DrawIn w w.heap.size A n) : Curs (w.alloc (.cells #[.slice A n cap, .int .i64 0, .int .i64 h] 68)) (w.alloc (.cells #[.slice A n cap, .int .i64 0, .int .i64 h] 68)) w.heap.size w.heap.size A n cap :=
  Curs.refl ⟨0, h, by omega, by omega, heap_alloc_new w _⟩ (hd.below ((Below.refl _ _).alloc (Nat.le_refl _) _)) (Nat.le_refl _) (by simp)
def WidePost (w : World) (e : Ending) (w' : World) : Prop := ∃ (s : ByteArray) (x : Int), e = .returned (.tuple #[.string s, .int .i64 x]) ∧ Below w.heap.size w w'
set_option maxRecDepth 8000 in
set_option maxHeartbeats 4000000 in
theorem wide_c (A : Option Addr) (n cap : Nat) (w : World) (hd : DrawIn w w.heap.size A n) : Calls Try.prog 50 #[.slice A n cap] w (WidePost w) := by
  have H := Lib.hid (new_any A n cap w hd)
  have HD := Lib.hid hd
  clear hd
  go_enter Try.func50, Try.ntmps50
  go_wp2_with fail
  refine H.out.mono ?_
  rintro e w1 ⟨h, rfl, rfl⟩
  have HC0 := Lib.hid (curs_new (cap := cap) (h := h) HD.out)
  clear H HD
  go_wp2_with fail
  refine (any_c HC0.out).mono ?_
  rintro e w2 ⟨s, rfl, _, hc2⟩
  have HC2 := Lib.hid hc2
  obtain ⟨x1, h1⟩ : ∃ x1, IntKind.i64.wrap ((s.size : Int) + 1) = x1 := ⟨_, rfl⟩
  obtain ⟨x2, h2⟩ : ∃ x2, IntKind.i64.wrap ((s.size : Int) - 1) = x2 := ⟨_, rfl⟩
  clear hc2 HC0
  go_wp2_with fail
  have HP := pickInt_new HC2.out (by simp) [.int .i64 (s.size : Int), .int .i64 x1, .int .i64 x2, .int .i64 0, .int .i64 3, .int .i64 48, .int .i64 160, .int .i64 161, .int .i64 (-1)] 3 rfl (by simp) (by simp)
  simp only [List.length_cons, List.length_nil, Nat.zero_add, Nat.reduceAdd] at HP
  refine HP.mono ?_
  rintro e w3 ⟨x, rfl, hc3⟩
  have HB := Lib.hid hc3.belowOf
  clear hc3 HP HC2 h1 h2
  go_wp2
  go_ret2
  exact ⟨s, x, rfl, HB.out⟩
theorem drawFirst_c (A : Option Addr) (n cap : Nat) (w : World) (hd : DrawIn w w.heap.size A n) : Calls Try.prog 19 #[.slice A n cap] w (WidePost w) := by
  have H := Lib.hid (wide_c A n cap w hd)
  clear hd
  go_enter Try.func19, Try.ntmps19
  go_wp2_with fail
  refine H.out.mono ?_
  rintro e w1 ⟨s, x, rfl, hb⟩
  go_wp2
  go_ret2
  exact ⟨s, x, rfl, hb⟩
def DrawnPost (w : World) (e : Ending) (w' : World) : Prop := ∃ (s : ByteArray), e = .returned (.string s) ∧ Below w.heap.size w w'
theorem drawText_c (A : Option Addr) (n cap : Nat) (w : World) (hd : DrawIn w w.heap.size A n) : Calls Try.prog 12 #[.slice A n cap] w (DrawnPost w) := by
  have H := Lib.hid (new_any A n cap w hd)
  have HD := Lib.hid hd
  clear hd
  go_enter Try.func12, Try.ntmps12
  go_wp2_with fail
  refine H.out.mono ?_
  rintro e w1 ⟨h, rfl, rfl⟩
  have HC0 := Lib.hid (curs_new (cap := cap) (h := h) HD.out)
  clear H HD
  go_wp2_with fail
  refine (any_c HC0.out).mono ?_
  rintro e w2 ⟨s, rfl, _, hc2⟩
  have HB := Lib.hid hc2.belowOf
  clear hc2 HC0
  go_wp2
  go_ret
  exact ⟨s, rfl, HB.out⟩
set_option maxRecDepth 8000 in
set_option maxHeartbeats 4000000 in
theorem drawRead_c (A : Option Addr) (n cap : Nat) (w : World) (hd : DrawIn w w.heap.size A n) : Calls Try.prog 16 #[.slice A n cap] w (DrawnPost w) := by
  have H := Lib.hid (new_any A n cap w hd)
  have HD := Lib.hid hd
  clear hd
  go_enter Try.func16, Try.ntmps16
  go_wp2_with fail
  refine H.out.mono ?_
  rintro e w1 ⟨h, rfl, rfl⟩
  have HC0 := Lib.hid (curs_new (cap := cap) (h := h) HD.out)
  have H6 := Lib.hid (below_c HC0.out 6 (by omega) (by omega))
  clear H HD
  go_wp2_with fail
  refine H6.out.mono ?_
  rintro e w2 ⟨x, rfl, x0, x1, hc⟩
  have HC := Lib.hid hc
  clear hc H6 HC0
  by_cases e0 : x = 0
  · subst e0
    have L1 := Lib.hid (long_c 400 49 (by omega) (by omega) (by omega))
    have L2 := Lib.hid (long_c 401 49 (by omega) (by omega) (by omega))
    have L3 := Lib.hid (long_c 385 57 (by omega) (by omega) (by omega))
    have L4 := Lib.hid (long_c 386 57 (by omega) (by omega) (by omega))
    go_wp2_with fail
    refine (L1.out _).mono ?_
    rintro e w3 ⟨t1, rfl, _, b3⟩
    have HC3 := Lib.hid (HC.out.below b3)
    clear b3
    go_wp2_with fail
    refine (L2.out _).mono ?_
    rintro e w4 ⟨t2, rfl, _, b4⟩
    have HC4 := Lib.hid (HC3.out.below b4)
    clear b4
    go_wp2_with fail
    refine (L3.out _).mono ?_
    rintro e w5 ⟨t3, rfl, _, b5⟩
    have HC5 := Lib.hid (HC4.out.below b5)
    clear b5
    go_wp2_with fail
    refine (L4.out _).mono ?_
    rintro e w6 ⟨t4, rfl, _, b6⟩
    have HC6 := Lib.hid (HC5.out.below b6)
    clear b6 HC HC3 HC4 HC5 L1 L2 L3 L4
    go_wp2_with fail
    have HP := pick_new HC6.out (by simp) [.string ⟨#[]⟩, .string ⟨#[48]⟩, .string ⟨#[48, 48]⟩, .string ⟨#[48, 49]⟩, .string ⟨#[45, 49]⟩, .string ⟨#[49, 97]⟩, .string ⟨#[32, 49]⟩, .string ⟨#[49, 46, 48]⟩, .string t1, .string t2, .string t3, .string t4] 9 rfl (by simp) (by simp)
    simp only [List.length_cons, List.length_nil, Nat.zero_add, Nat.reduceAdd] at HP
    refine HP.mono ?_
    rintro e w7 ⟨t5, rfl, _, hc7⟩
    have HB := Lib.hid hc7.belowOf
    clear hc7 HC6 HP
    go_wp2
    go_ret
    exact ⟨_, rfl, HB.out⟩
  · have q0 : (x == 0) = false := by simpa using e0
    clear e0
    go_wp2_with fail
    refine (great_c HC.out.start).mono ?_
    rintro e w3 ⟨t, rfl, _, hc3⟩
    have HC3 := Lib.hid (HC.out.trans hc3)
    clear hc3 HC
    go_wp2_with fail
    refine (greatText_any t _).mono ?_
    rintro e w4 ⟨rfl, b4⟩
    have HB := Lib.hid (HC3.out.below b4).belowOf
    clear b4 HC3
    go_wp2
    go_ret
    exact ⟨_, rfl, HB.out⟩
end Go.Proofs.Ytkpcocdflcpnoaa
