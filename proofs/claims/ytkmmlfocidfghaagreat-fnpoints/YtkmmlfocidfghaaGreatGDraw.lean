import Derived.Test.YtkmmlfocidfghaaGreatDraw
import Derived.Test.YtkmmlfocidfghaaGreatNArith
namespace Go.Proofs.YtkmmlfocidfghaaGreat
open Go.RowKit
theorem grow_of_below {w w' : World} (h : Below w.heap.size w w') (row : Option Nat) : w.grownBy w' row := ⟨h.os, h.tape, h.output, h.size, fun i hi _ => h.block i hi⟩
theorem Cur.glt {w : World} {g n cap : Nat} {A : Option Addr} (h : Cur w g A n cap) : g < w.heap.size := by
  obtain ⟨_, _, _, _, hg⟩ := h
  exact (Array.getElem?_eq_some_iff.1 hg).1
theorem Cur.below {w w' : World} {g n cap : Nat} {A : Option Addr} (h : Cur w g A n cap) (hb : Below w.heap.size w w') : Cur w' g A n cap := h.kept (hb.block g h.glt)
/-- The cursor's state, as it is handed on. -/
structure Curs (w wr : World) (B g : Nat) (A : Option Addr) (n cap : Nat) : Prop where
  c : Cur wr g A n cap
  d : DrawIn wr B A n
  hg : B ≤ g
  hB : B ≤ wr.heap.size
  gr : w.grownBy wr (some g)
theorem Curs.refl {w : World} {B g n cap : Nat} {A : Option Addr} (c : Cur w g A n cap) (d : DrawIn w B A n) (hg : B ≤ g) (hB : B ≤ w.heap.size) : Curs w w B g A n cap := ⟨c, d, hg, hB, ⟨rfl, rfl, rfl, Nat.le_refl _, fun _ _ _ => rfl⟩⟩
theorem Curs.start {w wr : World} {B g n cap : Nat} {A : Option Addr} (h : Curs w wr B g A n cap) : Curs wr wr B g A n cap := Curs.refl h.c h.d h.hg h.hB
theorem Curs.next {w wr w' : World} {B g n cap : Nat} {A : Option Addr} (h : Curs w wr B g A n cap) (c : Cur w' g A n cap) (hgr : wr.grownBy w' (some g)) : Curs w w' B g A n cap :=
  ⟨c, h.d.grown h.hg h.hB hgr, h.hg, Nat.le_trans h.hB hgr.size, grow_trans h.gr hgr⟩
theorem Curs.below {w wr w' : World} {B g n cap : Nat} {A : Option Addr} (h : Curs w wr B g A n cap) (hb : Below wr.heap.size wr w') : Curs w w' B g A n cap := h.next (h.c.below hb) (grow_of_below hb _)
theorem Curs.trans {w w1 w2 : World} {B g n cap : Nat} {A : Option Addr} (h : Curs w w1 B g A n cap) (k : Curs w1 w2 B g A n cap) : Curs w w2 B g A n cap := ⟨k.c, k.d, k.hg, k.hB, grow_trans h.gr k.gr⟩
/-- What a draw of a text leaves. -/
def TextPost (P : ByteArray → Prop) (B g : Nat) (A : Option Addr) (n cap : Nat) (w : World) (e : Ending) (w' : World) : Prop := ∃ t : ByteArray, e = .returned (.string t) ∧ P t ∧ Curs w w' B g A n cap
def NumPost (m : Int) (B g : Nat) (A : Option Addr) (n cap : Nat) (w : World) (e : Ending) (w' : World) : Prop := ∃ x : Int, e = .returned (.int .i64 x) ∧ 0 ≤ x ∧ x < m ∧ Curs w w' B g A n cap
theorem below_c {w : World} {B g n cap : Nat} {A : Option Addr} (h : Curs w w B g A n cap) (m : Int) (m0 : 0 < m) (m1 : m ≤ 4294967296) : Calls Tryz.prog 26 #[.pointer (some ⟨g, 0, none⟩), .int .i64 m] w (NumPost m B g A n cap w) := by
  by_cases hm : m ≤ 256
  · exact (below_small g B A n cap m w h.hg h.c h.d m0 hm).mono fun _ _ ⟨x, he, h0, h1, c, gr⟩ => ⟨x, he, h0, h1, h.next c gr⟩
  · exact (below_big g B A n cap m w h.hg h.hB h.c h.d (by omega) m1).mono fun _ _ ⟨x, he, h0, h1, c, gr⟩ => ⟨x, he, h0, h1, h.next c gr⟩
theorem byte_c {w : World} {B g n cap : Nat} {A : Option Addr} (h : Curs w w B g A n cap) : Calls Tryz.prog 53 #[.pointer (some ⟨g, 0, none⟩)] w (NumPost 256 B g A n cap w) :=
  (byte_any g B A n cap w h.hg h.c h.d).mono fun _ _ ⟨x, he, h0, h1, c, gr⟩ => ⟨x, he, h0, h1, h.next c gr⟩
def BoolPost (B g : Nat) (A : Option Addr) (n cap : Nat) (w : World) (e : Ending) (w' : World) : Prop := ∃ x : Bool, e = .returned (.bool x) ∧ Curs w w' B g A n cap
theorem once_c {w : World} {B g n cap : Nat} {A : Option Addr} (h : Curs w w B g A n cap) (m : Int) (m0 : 0 < m) (m1 : m ≤ 4294967296) : Calls Tryz.prog 41 #[.pointer (some ⟨g, 0, none⟩), .int .i64 m] w (BoolPost B g A n cap w) := by
  have H := Lib.hid (below_c h m m0 m1)
  clear h
  go_enter Tryz.func41, Tryz.ntmps41
  go_wp2_with fail
  refine H.out.mono ?_
  rintro e w1 ⟨x, rfl, _, _, hc⟩
  have HC := Lib.hid hc
  clear hc
  go_wp2
  go_ret
  exact ⟨_, rfl, HC.out⟩
/-! l01Long -/
def LongPost (w : World) (e : Ending) (w' : World) : Prop := ∃ t : ByteArray, e = .returned (.string t) ∧ t.size ≤ 900 ∧ Below w.heap.size w w'
set_option maxRecDepth 8000 in
set_option maxHeartbeats 1000000 in
theorem long_c (k : Nat) (x : Int) (hk : k ≤ 900) (hx0 : 0 ≤ x) (hx1 : x ≤ 255) (w : World) : Calls Tryz.prog 83 #[.int .i64 (k : Int), .int .u8 x] w (LongPost w) := by
  obtain ⟨i0, hi, hz0, hz1, hz2⟩ := info_parts Tryz.infoB
  obtain ⟨u, hu⟩ : ∃ u : UInt8, x = (u.toNat : Int) := ⟨UInt8.ofNat x.toNat, by rw [byte_nat _ (by omega)]; omega⟩
  subst hu
  clear hx0 hx1
  go_enter Tryz.func83, Tryz.ntmps83
  go_wp2_with (at_make; refine wpList_make_full _ rfl _ _ 22 rfl w.heap.size 5 i0 (.int .u8 0) 1 Tryz.underlying22 hi hz0 hz1 .i64 .i64 _ _ k rfl rfl (by first | rfl | omega) (by first | rfl | omega) (by rw [hz2]; omega) (by unfold maxLen; omega) (Nat.le_refl _) ?_; intro w0 hown0 hgrow0)
  have hb0 : Below w.heap.size w w0 := (Below.refl _ _).grown hgrow0 (Nat.le_refl _) (fun k hk => by cases hk)
  have hO0 : w0.ownsRow w.heap.size 5 1 (.slice (some ⟨w.heap.size, 0, none⟩) k k) k (Lib.byteCells (List.replicate k 0)) := by
    have e : Lib.byteCells (List.replicate k 0) = (madeCells (Value.cells (.int .u8 0)) (k * 1)).toList := by
      have := toList_madeCells_one (.int .u8 0) (k * 1)
      simp only [Value.cells] at this ⊢
      rw [this]
      simp [Lib.byteCells]
    rw [e]; exact hown0
  have hR0 := Lib.hid hO0
  clear hown0 hgrow0 hO0
  go_loopw [6] (fun iv wr => ∃ (i : Nat) (L : List UInt8), i ≤ k ∧ iv = .int .i64 i ∧ Hid (wr.ownsRow w.heap.size 5 1 (.slice (some ⟨w.heap.size, 0, none⟩) k k) k (Lib.byteCells L)) ∧ Below w.heap.size w wr) (fun iv _ => k - (intOf iv).toNat)
  case atStart => exact ⟨0, _, Nat.zero_le _, rfl, hR0, hb0⟩
  case round =>
    clear hR0 hb0
    obtain ⟨i, L, hik, rfl, hO, hb⟩ := hrel
    have hbs := hb.size
    by_cases hlt : i < k
    · have hlt' : (i : Int) < (k : Int) := by omega
      obtain ⟨v, hcv⟩ : ∃ v, wr.cell? ⟨w.heap.size, i, none⟩ = some v := ⟨_, (hO.out.cellAt i (by omega)).trans (List.getElem?_eq_getElem (by rw [hO.out.1]; omega))⟩
      have hfv := hO.out.frozenAt i
      have S1 := (hO.out.stored i (.int .u8 (u.toNat : Int))).1
      rw [byteCells_set] at S1
      have HS := Lib.hid S1
      clear hO S1
      go_wp2
      go_roundw
      case rel => exact ⟨i + 1, L.set i u, by omega, by go_num, HS, hb.setCell (p := ⟨w.heap.size, i, none⟩) (Nat.le_refl _) _⟩
      case measure => simp [intOf]; omega
    · have hlt' : ¬ (i : Int) < (k : Int) := by omega
      have hcv := conv_own (P := Tryz.prog) (src := 22) (dst := 9) (e := 5) Tryz.underlying22 Tryz.underlying5 Tryz.underlying9 hO.out
      have hL : L.length = k := by have := hO.out.1; simpa [Lib.byteCells] using this
      have HT : Hid ((⟨L.toArray⟩ : ByteArray).size ≤ 900) := by show L.toArray.size ≤ 900; simp; omega
      clear hO hL
      go_wp2
      go_ret
      exact ⟨_, rfl, HT.out, hb⟩
/-! l01Pick -/
/-- A row of texts. -/
def Texts (w : World) (gl k : Nat) : Prop := ∀ i, i < k → ∃ t : ByteArray, w.cell? ⟨gl, i, none⟩ = some (.string t) ∧ t.size ≤ 950
set_option maxRecDepth 8000 in
set_option maxHeartbeats 1000000 in
theorem pick_c {w : World} {B g n cap gl k cl : Nat} {A : Option Addr} (h : Curs w w B g A n cap) (ht : Texts w gl k) (hgl : gl < w.heap.size) (hne : gl ≠ g) (hk : 0 < k) (hk2 : k ≤ 1000) :
    Calls Tryz.prog 82 #[.pointer (some ⟨g, 0, none⟩), .slice (some ⟨gl, 0, none⟩) k cl] w (TextPost (fun t => t.size ≤ 950) B g A n cap w) := by
  have H := Lib.hid (below_c h (k : Int) (by omega) (by omega))
  have HT := Lib.hid ht
  clear h ht
  go_enter Tryz.func82, Tryz.ntmps82
  go_wp2_with fail
  refine H.out.mono ?_
  rintro e w1 ⟨x, rfl, x0, x1, hc⟩
  obtain ⟨i, rfl⟩ : ∃ i : Nat, x = (i : Int) := ⟨x.toNat, by omega⟩
  obtain ⟨t, htc, hts⟩ := HT.out i (by omega)
  have e1 : w1.heap[gl]? = w.heap[gl]? := hc.gr.block gl hgl (fun e => hne (by injection e))
  have htc1 : w1.cell? ⟨gl, i, none⟩ = some (.string t) := (World.cell?_of_block (w := w) (a := ⟨gl, i, none⟩) e1).trans htc
  have HC := Lib.hid hc
  clear hc e1 H
  go_wp2
  go_ret
  exact ⟨t, rfl, hts, HC.out⟩
/-! l01Text -/
theorem Curs.appended {w w1 w2 : World} {B g n cap : Nat} {A : Option Addr} {ob : Obj} {row : Option Nat} (h : Curs w w1 B g A n cap) (hglt : g < w.heap.size) (hrow : ∀ k, row = some k → w.heap.size ≤ k) (hgrow : (w1.alloc ob).grownBy w2 row) : Curs w w2 B g A n cap := by
  have hs1 := h.gr.size
  have hsz : (w1.alloc ob).heap.size = w1.heap.size + 1 := by simp
  have hs2 := hgrow.size
  have blk : ∀ j, j < w.heap.size → w2.heap[j]? = w1.heap[j]? := fun j hj => by
    rw [hgrow.block j (by omega) (fun e => by have := hrow j e.symm; omega)]
    exact Below.heap_alloc w1 _ _ (by omega)
  have hhg := h.hg
  refine ⟨h.c.kept (blk g hglt), h.d.below (w' := w2) ⟨hgrow.os, hgrow.tape, hgrow.output, by omega, fun j hj => blk j (by omega)⟩, h.hg, by have := h.hB; omega, ?_⟩
  exact ⟨hgrow.os.trans h.gr.os, hgrow.tape.trans h.gr.tape, hgrow.output.trans h.gr.output, by omega, fun j hj hr => (blk j hj).trans (h.gr.block j hj hr)⟩
set_option maxRecDepth 8000 in
set_option maxHeartbeats 2000000 in
theorem text_c {w : World} {B g n cap : Nat} {A : Option Addr} (h : Curs w w B g A n cap) (m : Nat) (hm : m ≤ 4000) :
    Calls Tryz.prog 71 #[.pointer (some ⟨g, 0, none⟩), .int .i64 (m : Int)] w (TextPost (fun t => t.size ≤ 5000) B g A n cap w) := by
  obtain ⟨i0, hi, hz0, hz1, hz2⟩ := info_parts Tryz.infoB
  have HC0 := Lib.hid h
  have hglt := h.c.glt
  have h5 : ¬ (5000 : Int) < (m : Int) := by omega
  clear h
  go_enter Tryz.func71, Tryz.ntmps71
  go_wp2
  go_loopw [5, 6] (fun v iv wr => ∃ (i : Nat) (o : List UInt8) (A' : Option Addr) (cp : Nat), i ≤ m ∧ o.length = i ∧ iv = .int .i64 i ∧ v = .slice A' i cp ∧ Hid (wr.ownsRow w.heap.size 5 1 (.slice A' i cp) i (Lib.byteCells o)) ∧ Hid (Curs w wr B g A n cap)) (fun _ iv _ => m - (intOf iv).toNat)
  case atStart =>
    refine ⟨0, [], some ⟨w.heap.size, 0, none⟩, 0, by omega, rfl, rfl, rfl, World.ownsRow_made _ #[] 0 (Nat.le_refl _) (by decide) rfl, HC0.out.below ((Below.refl _ _).alloc (Nat.le_refl _) _)⟩
  case round =>
    clear HC0
    obtain ⟨i, o, A', cp, him, hol, rfl, rfl, hO, hC⟩ := hrel
    have hsz := hC.out.gr.size
    by_cases hlt : i < m
    · have hlt' : (i : Int) < (m : Int) := by omega
      have HB := Lib.hid (byte_c hC.out.start)
      have HOL := Lib.hid hol
      clear hol
      go_wp2_with fail
      refine HB.out.mono ?_
      rintro e w1 ⟨x, rfl, x0, x1, hc1⟩
      obtain ⟨y, rfl⟩ : ∃ y : Nat, x = (y : Int) := ⟨x.toNat, by omega⟩
      have hs1 := hc1.gr.size
      have hown1 : w1.ownsRow w.heap.size 5 1 (.slice A' i cp) i (Lib.byteCells o) := hO.out.kept hc1.gr (by
        cases ho : (Value.slice A' i cp).ownBlock with
        | none => exact .inl rfl
        | some k => right; intro e; have := (hO.out.lt k ho).1; cases e; omega)
      have hC1 := hC.out.trans hc1
      have HC1 := Lib.hid hC1
      have HO1 := Lib.hid hown1
      have hwy : IntKind.u8.wrap (y : Int) = (y : Int) := IntWalk.u8_in _ (by omega)
      clear hO hC hc1 hown1 hC1 HB
      go_wp2_with (at_builtin; refine wpList_append_lies _ rfl (.tmp 15) (.tmp 19) _ rfl w.heap.size 5 i0 (.int .u8 0) 1 1 Tryz.underlying22 hi hz0 hz1 hz2 rfl (by omega) _ i _ rfl (World.ownsRow.alloc HO1.out _) ⟨w1.heap.size, 0, none⟩ 1 1 [.int .u8 (y : Int)] rfl rfl (World.news_of_block (cs := #[.int .u8 (y : Int)]) (t := 5) (fr := (0, 0)) (heap_alloc_new w1 _)) (by simp [Value.oneCell']) (by omega) (by unfold maxLen; omega) (by omega) (by simp; omega) _ rfl ?_)
      intro g2 cp2 w2 hown2 hgrow hat hlt2
      have HC2 := Lib.hid (HC1.out.appended hglt (fun k hk => (HO1.out.lt k hk).1) hgrow)
      have hown3 : w2.ownsRow w.heap.size 5 1 (.slice (some ⟨g2, 0, none⟩) (i + 1) cp2) (i + 1) (Lib.byteCells (o ++ [UInt8.ofNat y])) := by
        rw [byteCells_snoc, byte_nat _ (by omega)]; exact hown2
      have HO3 := Lib.hid hown3
      have hol2 : (o ++ [UInt8.ofNat y]).length = i + 1 := by rw [List.length_append, HOL.out]; rfl
      have HOL2 := Lib.hid hol2
      clear hown2 hgrow hat hlt2 HO1 HC1 hown3 hol2
      go_wp2
      go_roundw
      case rel => exact ⟨i + 1, o ++ [UInt8.ofNat y], some ⟨g2, 0, none⟩, cp2, by omega, HOL2.out, by go_num, rfl, HO3, HC2⟩
      case measure => simp [intOf]; omega
    · have hlt' : ¬ (i : Int) < (m : Int) := by omega
      have hcv := conv_own (P := Tryz.prog) (src := 22) (dst := 9) (e := 5) Tryz.underlying22 Tryz.underlying5 Tryz.underlying9 hO.out
      have hts : (⟨o.toArray⟩ : ByteArray).size ≤ 5000 := by show o.toArray.size ≤ 5000; simp; omega
      have HTS := Lib.hid hts
      clear hO hts hol
      go_wp2
      go_ret
      exact ⟨_, rfl, HTS.out, hC.out⟩
/-! l02Great -/
def isStr : Value → Bool
  | .string t => Nat.ble t.size 950
  | _ => false
theorem ble_of {n m : Nat} (h : n ≤ m) : Nat.ble n m = true := Nat.ble_eq_true_of_le h
theorem bound_size (s : ByteArray) : (boundG s).size ≤ 950 := by
  unfold boundG
  split
  · rename_i h
    have := okG_size h; omega
  · decide
theorem of_size {n : Int} (h : n < 9223372036854775808) : (ofI n).size ≤ 950 := by
  unfold ofI
  rw [gS_size]
  have : (gT n.toNat).length ≤ 8 := gT_len_lt (by omega)
  omega
theorem texts_new (w : World) (l : List Value) (t : TypeId) (h : l.all isStr = true) : Texts (w.alloc (.cells l.toArray t)) w.heap.size l.length := fun i hi => by
  have h1 := cell_of_row (w.alloc (.cells l.toArray t)) w.heap.size i _ _ _ (heap_alloc_new w _)
  rw [List.getElem?_toArray, List.getElem?_eq_getElem hi] at h1
  have h2 := List.all_eq_true.1 h l[i] (List.getElem_mem hi)
  cases hv : l[i] with
  | string s => exact ⟨s, by rw [h1, hv], by rw [hv] at h2; exact Nat.le_of_ble_eq_true h2⟩
  | _ => rw [hv] at h2; cases h2
theorem text_len {t : ByteArray} {l : List Nat} {K : Nat} (ht : t.size ≤ K) (p : InP (gV t) l) : l.length ≤ K := by
  have h := gV_size t
  have a : 256 ^ t.size ≤ 256 ^ K := Nat.pow_le_pow_right (by omega) ht
  have b : 256 ^ K ≤ 16777216 ^ K := Nat.pow_le_pow_left (by omega) _
  exact p.len (Nat.lt_of_lt_of_le h (Nat.le_trans a b))
theorem pick_new {w w4 : World} {B g n cap : Nat} {A : Option Addr} (h : Curs w w4 B g A n cap) (hglt : g < w.heap.size) (l : List Value) (t : TypeId) (hs : l.all isStr = true) (hk : 0 < l.length) (hk2 : l.length ≤ 1000) :
    Calls Tryz.prog 82 #[.pointer (some ⟨g, 0, none⟩), .slice (some ⟨w4.heap.size, 0, none⟩) l.length l.length] (w4.alloc (.cells l.toArray t)) (TextPost (fun t => t.size ≤ 950) B g A n cap w) := by
  have hc := h.below ((Below.refl w4.heap.size w4).alloc (Nat.le_refl _) (.cells l.toArray t))
  have hsz := h.gr.size
  exact (pick_c hc.start (texts_new w4 l t hs) (by simp) (by omega) hk hk2).mono fun _ _ ⟨x, he, hsz, hc2⟩ => ⟨x, he, hsz, hc.trans hc2⟩
def Yes (w : World) (e : Ending) (w' : World) : Prop := e = .returned (.bool true) ∧ Below w.heap.size w w'
theorem DrawIn.on {w w' : World} {n : Nat} {A : Option Addr} (h : DrawIn w w.heap.size A n) (hb : Below w.heap.size w w') : DrawIn w' w'.heap.size A n :=
  ⟨h.1, fun k hk => by
    obtain ⟨b, off, c, e, hB, c0, c1, hc⟩ := (h.below hb).2 k hk
    exact ⟨b, off, c, e, Nat.lt_of_lt_of_le hB hb.size, c0, c1, hc⟩⟩
theorem big_g (A : Option Addr) (n cap : Nat) (w : World) (_hn : n ≤ maxLen) : Calls Tryz.prog 6 #[.slice A n cap] w fun e w' => e = .returned (.bool (decide ((1048576 : Int) < (n : Int)))) ∧ w = w' := by
  go_enter Tryz.func6, Tryz.ntmps6
  go_wp2
  go_ret
  exact ⟨rfl, rfl⟩
/-- A row of numbers. -/
def Nums (w : World) (gl k : Nat) : Prop := ∀ i, i < k → ∃ x : Int, w.cell? ⟨gl, i, none⟩ = some (.int .i64 x) ∧ -9223372036854775808 ≤ x ∧ x ≤ 9223372036854775807
def IntPick (B g : Nat) (A : Option Addr) (n cap : Nat) (w : World) (e : Ending) (w' : World) : Prop := ∃ x : Int, e = .returned (.int .i64 x) ∧ (-9223372036854775808 ≤ x ∧ x ≤ 9223372036854775807) ∧ Curs w w' B g A n cap
set_option maxRecDepth 8000 in
set_option maxHeartbeats 1000000 in
theorem pickInt_c {w : World} {B g n cap gl k cl : Nat} {A : Option Addr} (h : Curs w w B g A n cap) (ht : Nums w gl k) (hgl : gl < w.heap.size) (hne : gl ≠ g) (hk : 0 < k) (hk2 : k ≤ 1000) :
    Calls Tryz.prog 49 #[.pointer (some ⟨g, 0, none⟩), .slice (some ⟨gl, 0, none⟩) k cl] w (IntPick B g A n cap w) := by
  have H := Lib.hid (below_c h (k : Int) (by omega) (by omega))
  have HT := Lib.hid ht
  clear h ht
  go_enter Tryz.func49, Tryz.ntmps49
  go_wp2_with fail
  refine H.out.mono ?_
  rintro e w1 ⟨x, rfl, x0, x1, hc⟩
  obtain ⟨i, rfl⟩ : ∃ i : Nat, x = (i : Int) := ⟨x.toNat, by omega⟩
  obtain ⟨t, htc, htr⟩ := HT.out i (by omega)
  have HR := Lib.hid htr
  have e1 : w1.heap[gl]? = w.heap[gl]? := hc.gr.block gl hgl (fun e => hne (by injection e))
  have htc1 : w1.cell? ⟨gl, i, none⟩ = some (.int .i64 t) := (World.cell?_of_block (w := w) (a := ⟨gl, i, none⟩) e1).trans htc
  have HC := Lib.hid hc
  clear hc e1 H htr
  go_wp2
  go_ret
  exact ⟨t, rfl, HR.out, HC.out⟩
def isNum : Value → Bool
  | .int .i64 x => decide (-9223372036854775808 ≤ x) && decide (x ≤ 9223372036854775807)
  | _ => false
theorem nums_new (w : World) (l : List Value) (t : TypeId) (h : l.all isNum = true) : Nums (w.alloc (.cells l.toArray t)) w.heap.size l.length := fun i hi => by
  have h1 := cell_of_row (w.alloc (.cells l.toArray t)) w.heap.size i _ _ _ (heap_alloc_new w _)
  rw [List.getElem?_toArray, List.getElem?_eq_getElem hi] at h1
  have h2 := List.all_eq_true.1 h l[i] (List.getElem_mem hi)
  cases hv : l[i] with
  | int k x =>
    cases k with
    | i64 => exact ⟨x, by rw [h1, hv], by rw [hv] at h2; simpa [isNum] using h2⟩
    | _ => rw [hv] at h2; cases h2
  | _ => rw [hv] at h2; cases h2
theorem pickInt_new {w w4 : World} {B g n cap : Nat} {A : Option Addr} (h : Curs w w4 B g A n cap) (hglt : g < w.heap.size) (l : List Value) (t : TypeId) (hs : l.all isNum = true) (hk : 0 < l.length) (hk2 : l.length ≤ 1000) :
    Calls Tryz.prog 49 #[.pointer (some ⟨g, 0, none⟩), .slice (some ⟨w4.heap.size, 0, none⟩) l.length l.length] (w4.alloc (.cells l.toArray t)) (IntPick B g A n cap w) := by
  have hc := h.below ((Below.refl w4.heap.size w4).alloc (Nat.le_refl _) (.cells l.toArray t))
  have hsz := h.gr.size
  exact (pickInt_c hc.start (nums_new w4 l t hs) (by simp) (by omega) hk hk2).mono fun _ _ ⟨x, he, hr, hc2⟩ => ⟨x, he, hr, hc.trans hc2⟩
/-- A cursor new made. -/
theorem curs_new {w : World} {A : Option Addr} {n cap : Nat} {h : Int} (hd : DrawIn w w.heap.size A n) : Curs (w.alloc (.cells #[.slice A n cap, .int .i64 0, .int .i64 h] 80)) (w.alloc (.cells #[.slice A n cap, .int .i64 0, .int .i64 h] 80)) w.heap.size w.heap.size A n cap :=
  Curs.refl ⟨0, h, by omega, by omega, heap_alloc_new w _⟩ (hd.below ((Below.refl _ _).alloc (Nat.le_refl _) _)) (Nat.le_refl _) (by simp)
set_option maxRecDepth 8000 in
set_option maxHeartbeats 4000000 in
theorem great_c {w : World} {B g n cap : Nat} {A : Option Addr} (h : Curs w w B g A n cap) :
    Calls Tryz.prog 84 #[.pointer (some ⟨g, 0, none⟩)] w (TextPost (fun t => t.size ≤ 950) B g A n cap w) := by
  have H := Lib.hid (below_c h 8 (by omega) (by omega))
  have hglt := h.c.glt
  clear h
  go_enter Tryz.func84, Tryz.ntmps84
  go_wp2_with fail
  refine H.out.mono ?_
  rintro e w1 ⟨x, rfl, x0, x1, hc⟩
  have HC := Lib.hid hc
  have hs1 := hc.gr.size
  clear hc H
  by_cases e0 : x = 0
  · subst e0
    have H2 := Lib.hid (below_c HC.out.start 50 (by omega) (by omega))
    go_wp2_with fail
    refine H2.out.mono ?_
    rintro e w2 ⟨y, rfl, y0, y1, hc2⟩
    obtain ⟨m, rfl⟩ : ∃ m : Nat, y = (m : Int) := ⟨y.toNat, by omega⟩
    have H3 := Lib.hid (text_c hc2.start m (by omega))
    have HC2 := Lib.hid (HC.out.trans hc2)
    clear hc2 H2 HC
    go_wp2_with fail
    refine H3.out.mono ?_
    rintro e w3 ⟨t, rfl, ht, hc3⟩
    have HC3 := Lib.hid (HC2.out.trans hc3)
    clear hc3 H3 HC2
    go_wp2_with fail
    refine (in_any t _ (by omega)).mono ?_
    rintro e w4 ⟨A4, ca, la, rfl, pa, ra, b4⟩
    have HC4 := Lib.hid (HC3.out.below b4)
    have hla := text_len ht pa
    clear b4 HC3
    go_wp2_with fail
    refine (out_any _ _ _ _ _ ra pa.1 (by omega)).mono ?_
    rintro e w5 ⟨rfl, b5⟩
    have HC5 := Lib.hid (HC4.out.below b5)
    clear b5 HC4 ra pa
    go_wp2_with fail
    refine (bound_any _ _).mono ?_
    rintro e w6 ⟨rfl, rfl⟩
    go_wp2
    go_ret
    exact ⟨_, rfl, bound_size _, HC5.out⟩
  by_cases e1 : x = 1
  · subst e1
    have L1 := Lib.hid (long_c 160 255 (by omega) (by omega) (by omega))
    have L2 := Lib.hid (long_c 80 255 (by omega) (by omega) (by omega))
    have L3 := Lib.hid (long_c 48 255 (by omega) (by omega) (by omega))
    go_wp2_with fail
    refine (L1.out _).mono ?_
    rintro e w2 ⟨t1, rfl, s1, b2⟩
    have HC2 := Lib.hid (HC.out.below b2)
    clear b2
    go_wp2_with fail
    refine (L2.out _).mono ?_
    rintro e w3 ⟨t2, rfl, s2, b3⟩
    have HC3 := Lib.hid (HC2.out.below b3)
    clear b3
    go_wp2_with fail
    refine (L3.out _).mono ?_
    rintro e w4 ⟨t3, rfl, s3, b4⟩
    have HC4 := Lib.hid (HC3.out.below b4)
    clear b4 HC HC2 HC3 L1 L2 L3
    go_wp2_with fail
    have HP := pick_new HC4.out hglt [.string ⟨#[]⟩, .string ⟨#[1]⟩, .string ⟨#[255]⟩, .string ⟨#[1, 0]⟩, .string ⟨#[255, 255, 255]⟩, .string ⟨#[1, 0, 0, 0]⟩, .string ⟨#[127, 255, 255, 255, 255, 255, 255, 255]⟩, .string ⟨#[128, 0, 0, 0, 0, 0, 0, 0]⟩, .string ⟨#[255, 255, 255, 255, 255, 255]⟩, .string t1, .string t2, .string t3] 9 (by simp only [List.all_cons, List.all_nil, isStr, ble_of (Nat.le_trans s1 (by omega : 900 ≤ 950)), ble_of (Nat.le_trans s2 (by omega : 900 ≤ 950)), ble_of (Nat.le_trans s3 (by omega : 900 ≤ 950))]; rfl) (by simp) (by simp)
    simp only [List.length_cons, List.length_nil, Nat.zero_add, Nat.reduceAdd] at HP
    refine HP.mono ?_
    rintro e w5 ⟨t5, rfl, s5, hc5⟩
    have HC5 := Lib.hid hc5
    clear hc5 HC4 HP
    go_wp2
    go_ret
    exact ⟨_, rfl, s5, HC5.out⟩
  have q0 : (x == 0) = false := by simpa using e0
  have q1 : (x == 1) = false := by simpa using e1
  by_cases e2 : x = 2
  · subst e2
    clear e0 e1 q0 q1
    have H2 := Lib.hid (below_c HC.out.start 20 (by omega) (by omega))
    go_wp2_with fail
    refine H2.out.mono ?_
    rintro e w2 ⟨y, rfl, y0, y1, hc2⟩
    obtain ⟨m, rfl⟩ : ∃ m : Nat, y = (m : Int) := ⟨y.toNat, by omega⟩
    have HC2 := Lib.hid (HC.out.trans hc2)
    clear hc2 H2 HC
    go_wp2_with fail
    refine (long_c m 0 (by omega) (by omega) (by omega) _).mono ?_
    rintro e w3 ⟨t, rfl, ht, b3⟩
    have ht1 : (⟨#[128]⟩ : ByteArray).size + t.size ≤ maxLen := by unfold maxLen; show 1 + t.size ≤ _; omega
    have ht2 : 1 + t.size ≤ maxLen := by unfold maxLen; omega
    have hts : ((⟨#[128]⟩ : ByteArray) ++ t).size ≤ 950 := by rw [ByteArray.size_append]; show 1 + t.size ≤ 950; omega
    have HC3 := Lib.hid (HC2.out.below b3)
    clear b3 HC2
    go_wp2
    go_ret
    exact ⟨_, rfl, hts, HC3.out⟩
  have q2 : (x == 2) = false := by simpa using e2
  by_cases e3 : x = 3
  · subst e3
    clear e0 e1 q0 q1 e2 q2
    have H2 := Lib.hid (below_c HC.out.start 9 (by omega) (by omega))
    go_wp2_with fail
    refine H2.out.mono ?_
    rintro e w2 ⟨y, rfl, y0, y1, hc2⟩
    obtain ⟨m, rfl⟩ : ∃ m : Nat, y = (m : Int) := ⟨y.toNat, by omega⟩
    have H3 := Lib.hid (text_c hc2.start m (by omega))
    have HC2 := Lib.hid (HC.out.trans hc2)
    clear hc2 H2 HC
    go_wp2_with fail
    refine H3.out.mono ?_
    rintro e w3 ⟨t, rfl, ht, hc3⟩
    have HC3 := Lib.hid (HC2.out.trans hc3)
    clear hc3 H3 HC2
    go_wp2_with fail
    refine (in_any t _ (by omega)).mono ?_
    rintro e w4 ⟨A4, ca, la, rfl, pa, ra, b4⟩
    have HC4 := Lib.hid (HC3.out.below b4)
    have hla := text_len ht pa
    clear b4 HC3
    go_wp2_with fail
    refine (out_any _ _ _ _ _ ra pa.1 (by omega)).mono ?_
    rintro e w5 ⟨rfl, b5⟩
    have HC5 := Lib.hid (HC4.out.below b5)
    clear b5 HC4 ra pa
    go_wp2_with fail
    refine (bound_any _ _).mono ?_
    rintro e w6 ⟨rfl, rfl⟩
    go_wp2
    go_ret
    exact ⟨_, rfl, bound_size _, HC5.out⟩
  have q3 : (x == 3) = false := by simpa using e3
  clear e0 e1 e2 e3
  have H2 := Lib.hid (below_c HC.out.start 100000 (by omega) (by omega))
  go_wp2_with fail
  refine H2.out.mono ?_
  rintro e w2 ⟨y, rfl, y0, y1, hc2⟩
  have HC2 := Lib.hid (HC.out.trans hc2)
  clear hc2 H2 HC
  go_wp2_with fail
  refine (greatOf_any y _ (by omega)).mono ?_
  rintro e w3 ⟨rfl, b3⟩
  have HC3 := Lib.hid (HC2.out.below b3)
  clear b3 HC2
  go_wp2
  go_ret
  exact ⟨_, rfl, of_size (by omega), HC3.out⟩
set_option maxRecDepth 8000 in
set_option maxHeartbeats 4000000 in
theorem any_c {w : World} {B g n cap : Nat} {A : Option Addr} (h : Curs w w B g A n cap) :
    Calls Tryz.prog 52 #[.pointer (some ⟨g, 0, none⟩)] w (TextPost (fun t => t.size ≤ 950) B g A n cap w) := by
  have H := Lib.hid (once_c h 14 (by omega) (by omega))
  have hglt := h.c.glt
  clear h
  go_enter Tryz.func52, Tryz.ntmps52
  go_wp2_with fail
  refine H.out.mono ?_
  rintro e w1 ⟨x, rfl, hc⟩
  have HC := Lib.hid hc
  clear hc H
  cases x with
  | true =>
    go_wp2_with fail
    refine (long_c 161 7 (by omega) (by omega) (by omega) _).mono ?_
    rintro e w2 ⟨t1, rfl, s1, b2⟩
    have HC2 := Lib.hid (HC.out.below b2)
    clear b2 HC
    go_wp2_with fail
    refine (long_c 160 7 (by omega) (by omega) (by omega) _).mono ?_
    rintro e w3 ⟨t2, rfl, s2, b3⟩
    have HC3 := Lib.hid (HC2.out.below b3)
    clear b3 HC2
    go_wp2_with fail
    have HP := pick_new HC3.out hglt [.string ⟨#[0]⟩, .string ⟨#[0, 5]⟩, .string t1, .string t2] 9 (by simp only [List.all_cons, List.all_nil, isStr, ble_of (Nat.le_trans s1 (by omega : 900 ≤ 950)), ble_of (Nat.le_trans s2 (by omega : 900 ≤ 950))]; rfl) (by simp) (by simp)
    simp only [List.length_cons, List.length_nil, Nat.zero_add, Nat.reduceAdd] at HP
    refine HP.mono ?_
    rintro e w5 ⟨t5, rfl, s5, hc5⟩
    have HC5 := Lib.hid hc5
    clear hc5 HC3 HP
    go_wp2
    go_ret
    exact ⟨_, rfl, s5, HC5.out⟩
  | false =>
    go_wp2_with fail
    refine (great_c HC.out.start).mono ?_
    rintro e w2 ⟨t, rfl, st, hc2⟩
    have HC2 := Lib.hid (HC.out.trans hc2)
    clear hc2 HC
    go_wp2
    go_ret
    exact ⟨_, rfl, st, HC2.out⟩
theorem Curs.belowOf {w w' : World} {n cap : Nat} {A : Option Addr} {o : Obj} (h : Curs (w.alloc o) w' w.heap.size w.heap.size A n cap) : Below w.heap.size w w' :=
  ((Below.refl _ _).alloc (Nat.le_refl _) o).grown h.gr (by simp) (fun k hk => by injection hk; omega)
end Go.Proofs.YtkmmlfocidfghaaGreat
