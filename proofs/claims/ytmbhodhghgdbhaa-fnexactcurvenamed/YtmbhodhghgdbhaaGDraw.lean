import Derived.Test.YtmbhodhghgdbhaaDraw
import Derived.Test.YtmbhodhghgdbhaaNArith
namespace Go.Proofs.Ytmbhodhghgdbhaa
open Go.RowKit
theorem grow_of_below {w w' : World} (h : Below w.heap.size w w') (row : Option Nat) : w.grownBy w' row := ⟨h.os, h.tape, h.output, h.size, fun i hi _ => h.block i hi⟩
theorem Cur.glt {w : World} {g n cap : Nat} {A : Option Addr} (h : Cur w g A n cap) : g < w.heap.size := by
  obtain ⟨_, _, _, _, hg⟩ := h
  exact (Array.getElem?_eq_some_iff.1 hg).1
theorem Cur.below {w w' : World} {g n cap : Nat} {A : Option Addr} (h : Cur w g A n cap) (hb : Below w.heap.size w w') : Cur w' g A n cap := h.kept (hb.block g h.glt)
/-- The cursor's state, as it is handed on. -/
structure Curs (w wr : World) (B g : Nat) (A : Option Addr) (n cap : Nat) : Prop where
  c : Cur wr g A n cap
  d : DrawIn wr B A n
  hg : B ≤ g
  hB : B ≤ wr.heap.size
  gr : w.grownBy wr (some g)
theorem Curs.refl {w : World} {B g n cap : Nat} {A : Option Addr} (c : Cur w g A n cap) (d : DrawIn w B A n) (hg : B ≤ g) (hB : B ≤ w.heap.size) : Curs w w B g A n cap := ⟨c, d, hg, hB, ⟨rfl, rfl, rfl, Nat.le_refl _, fun _ _ _ => rfl⟩⟩
theorem Curs.start {w wr : World} {B g n cap : Nat} {A : Option Addr} (h : Curs w wr B g A n cap) : Curs wr wr B g A n cap := Curs.refl h.c h.d h.hg h.hB
theorem Curs.next {w wr w' : World} {B g n cap : Nat} {A : Option Addr} (h : Curs w wr B g A n cap) (c : Cur w' g A n cap) (hgr : wr.grownBy w' (some g)) : Curs w w' B g A n cap :=
  ⟨c, h.d.grown h.hg h.hB hgr, h.hg, Nat.le_trans h.hB hgr.size, grow_trans h.gr hgr⟩
theorem Curs.below {w wr w' : World} {B g n cap : Nat} {A : Option Addr} (h : Curs w wr B g A n cap) (hb : Below wr.heap.size wr w') : Curs w w' B g A n cap := h.next (h.c.below hb) (grow_of_below hb _)
theorem Curs.trans {w w1 w2 : World} {B g n cap : Nat} {A : Option Addr} (h : Curs w w1 B g A n cap) (k : Curs w1 w2 B g A n cap) : Curs w w2 B g A n cap := ⟨k.c, k.d, k.hg, k.hB, grow_trans h.gr k.gr⟩
def NumPost (m : Int) (B g : Nat) (A : Option Addr) (n cap : Nat) (w : World) (e : Ending) (w' : World) : Prop := ∃ x : Int, e = .returned (.int .i64 x) ∧ 0 ≤ x ∧ x < m ∧ Curs w w' B g A n cap
theorem below_c {w : World} {B g n cap : Nat} {A : Option Addr} (h : Curs w w B g A n cap) (m : Int) (m0 : 0 < m) (m1 : m ≤ 4294967296) : Calls Try.prog 59 #[.pointer (some ⟨g, 0, none⟩), .int .i64 m] w (NumPost m B g A n cap w) := by
  by_cases hm : m ≤ 256
  · exact (below_small g B A n cap m w h.hg h.c h.d m0 hm).mono fun _ _ ⟨x, he, h0, h1, c, gr⟩ => ⟨x, he, h0, h1, h.next c gr⟩
  · exact (below_big g B A n cap m w h.hg h.hB h.c h.d (by omega) m1).mono fun _ _ ⟨x, he, h0, h1, c, gr⟩ => ⟨x, he, h0, h1, h.next c gr⟩
def Yes (w : World) (e : Ending) (w' : World) : Prop := e = .returned (.bool true) ∧ Below w.heap.size w w'
theorem DrawIn.on {w w' : World} {n : Nat} {A : Option Addr} (h : DrawIn w w.heap.size A n) (hb : Below w.heap.size w w') : DrawIn w' w'.heap.size A n :=
  ⟨h.1, fun k hk => by
    obtain ⟨b, off, c, e, hB, c0, c1, hc⟩ := (h.below hb).2 k hk
    exact ⟨b, off, c, e, Nat.lt_of_lt_of_le hB hb.size, c0, c1, hc⟩⟩
theorem big_g (A : Option Addr) (n cap : Nat) (w : World) (_hn : n ≤ maxLen) : Calls Try.prog 10 #[.slice A n cap] w fun e w' => e = .returned (.bool (decide ((1048576 : Int) < (n : Int)))) ∧ w = w' := by
  go_enter Try.func10, Try.ntmps10
  go_wp2
  go_ret
  exact ⟨rfl, rfl⟩
/-- A row of numbers. -/
def Nums (w : World) (gl k : Nat) : Prop := ∀ i, i < k → ∃ x : Int, w.cell? ⟨gl, i, none⟩ = some (.int .i64 x) ∧ -9223372036854775808 ≤ x ∧ x ≤ 9223372036854775807
def IntPick (B g : Nat) (A : Option Addr) (n cap : Nat) (w : World) (e : Ending) (w' : World) : Prop := ∃ x : Int, e = .returned (.int .i64 x) ∧ (-9223372036854775808 ≤ x ∧ x ≤ 9223372036854775807) ∧ Curs w w' B g A n cap
set_option maxRecDepth 8000 in
set_option maxHeartbeats 1000000 in
theorem pickInt_c {w : World} {B g n cap gl k cl : Nat} {A : Option Addr} (h : Curs w w B g A n cap) (ht : Nums w gl k) (hgl : gl < w.heap.size) (hne : gl ≠ g) (hk : 0 < k) (hk2 : k ≤ 1000) :
    Calls Try.prog 35 #[.pointer (some ⟨g, 0, none⟩), .slice (some ⟨gl, 0, none⟩) k cl] w (IntPick B g A n cap w) := by
  have H := Lib.hid (below_c h (k : Int) (by omega) (by omega))
  have HT := Lib.hid ht
  clear h ht
  go_enter Try.func35, Try.ntmps35
  go_wp2_with fail
  refine H.out.mono ?_
  rintro e w1 ⟨x, rfl, x0, x1, hc⟩
  obtain ⟨i, rfl⟩ : ∃ i : Nat, x = (i : Int) := ⟨x.toNat, by omega⟩
  obtain ⟨t, htc, htr⟩ := HT.out i (by omega)
  have HR := Lib.hid htr
  have e1 : w1.heap[gl]? = w.heap[gl]? := hc.gr.block gl hgl (fun e => hne (by injection e))
  have htc1 : w1.cell? ⟨gl, i, none⟩ = some (.int .i64 t) := (World.cell?_of_block (w := w) (a := ⟨gl, i, none⟩) e1).trans htc
  have HC := Lib.hid hc
  clear hc e1 H htr
  go_wp2
  go_ret
  exact ⟨t, rfl, HR.out, HC.out⟩
def isNum : Value → Bool
  | .int .i64 x => decide (-9223372036854775808 ≤ x) && decide (x ≤ 9223372036854775807)
  | _ => false
theorem nums_new (w : World) (l : List Value) (t : TypeId) (h : l.all isNum = true) : Nums (w.alloc (.cells l.toArray t)) w.heap.size l.length := fun i hi => by
  have h1 := cell_of_row (w.alloc (.cells l.toArray t)) w.heap.size i _ _ _ (heap_alloc_new w _)
  rw [List.getElem?_toArray, List.getElem?_eq_getElem hi] at h1
  have h2 := List.all_eq_true.1 h l[i] (List.getElem_mem hi)
  cases hv : l[i] with
  | int k x =>
    cases k with
    | i64 => exact ⟨x, by rw [h1, hv], by rw [hv] at h2; simpa [isNum] using h2⟩
    | _ => rw [hv] at h2; cases h2
  | _ => rw [hv] at h2; cases h2
theorem pickInt_new {w w4 : World} {B g n cap : Nat} {A : Option Addr} (h : Curs w w4 B g A n cap) (hglt : g < w.heap.size) (l : List Value) (t : TypeId) (hs : l.all isNum = true) (hk : 0 < l.length) (hk2 : l.length ≤ 1000) :
    Calls Try.prog 35 #[.pointer (some ⟨g, 0, none⟩), .slice (some ⟨w4.heap.size, 0, none⟩) l.length l.length] (w4.alloc (.cells l.toArray t)) (IntPick B g A n cap w) := by
  have hc := h.below ((Below.refl w4.heap.size w4).alloc (Nat.le_refl _) (.cells l.toArray t))
  have hsz := h.gr.size
  exact (pickInt_c hc.start (nums_new w4 l t hs) (by simp) (by omega) hk hk2).mono fun _ _ ⟨x, he, hr, hc2⟩ => ⟨x, he, hr, hc.trans hc2⟩
/-- A cursor new made. -/
theorem curs_new {w : World} {A : Option Addr} {n cap : Nat} {h : Int} (hd : DrawIn w w.heap.size A n) : Curs (w.alloc (.cells #[.slice A n cap, .int .i64 0, .int .i64 h] 76)) (w.alloc (.cells #[.slice A n cap, .int .i64 0, .int .i64 h] 76)) w.heap.size w.heap.size A n cap :=
  Curs.refl ⟨0, h, by omega, by omega, heap_alloc_new w _⟩ (hd.below ((Below.refl _ _).alloc (Nat.le_refl _) _)) (Nat.le_refl _) (by simp)
theorem Curs.belowOf {w w' : World} {n cap : Nat} {A : Option Addr} {o : Obj} (h : Curs (w.alloc o) w' w.heap.size w.heap.size A n cap) : Below w.heap.size w w' :=
  ((Below.refl _ _).alloc (Nat.le_refl _) o).grown h.gr (by simp) (fun k hk => by injection hk; omega)
end Go.Proofs.Ytmbhodhghgdbhaa
