import Derived.Test.YtdajgcgliidjbaaGreatJHalf
import Derived.Deep.LoopGhost
set_option maxRecDepth 8000
set_option maxHeartbeats 8000000
namespace Go.Proofs.YtdajgcgliidjbaaGreat
open Go.RowKit
def RowV (w : World) (g x : Nat) : Prop := ∃ l c, RowI w g l c ∧ RV l c ∧ W.lV l = x
theorem RowV.on {w w' : World} {g x : Nat} (h : RowV w g x) (b : Below w.heap.size w w') : RowV w' g x := by
 obtain ⟨l, c, h1, h2, h3⟩ := h
 exact ⟨l, c, h1.below b h1.lt, h2, h3⟩
theorem RowV.apart {w : World} {g A x : Nat} {cs : Array Value} (h : RowV w g x) (hne : g ≠ A) : RowV (w.setRow A cs) g x := by
 obtain ⟨l, c, h1, h2, h3⟩ := h
 exact ⟨l, c, h1.storedApart hne, h2, h3⟩
theorem RowV.lt {w : World} {g x : Nat} (h : RowV w g x) : g < w.heap.size := by
 obtain ⟨l, c, h1, h2, h3⟩ := h
 exact h1.lt
theorem build_at {ops : Array Oper} {rest : List Oper} {o : Oper} {a : Act} {w : World} {Q : Exit → Act → World → Prop} (hgd : o.guard = none) (ho : o.op = .build 100 #[])
  (k : wpList Tryz.prog ops Q rest (a.put o.dst (.agg (rowC Z81 0))) w) : wpList Tryz.prog ops Q (o :: rest) a w := by
 refine wpList_plain hgd fun K hK => ?_
 unfold Oper.wp execOp
 simp only [ho]
 have e := run_build (P := Tryz.prog) w 100 #[] _ Tryz.builtRow
 simp [e]
 exact hK _ _ k
theorem load_op {ops : Array Oper} {i : Nat} {o : Oper} {a : Act} {w : World} {K : Act → World → Prop} {Q : Exit → Act → World → Prop} (hi : ops[i]? = some o) (hgd : o.guard = none) (x : Operand) (ho : o.op = .load 100 x) (g : Nat) (l : List Nat) (c : Nat)
  (hx : a.eval x = .pointer (some ⟨g, 0, none⟩)) (h : RowI w g l c) (k : K (a.put o.dst (.agg (rowC l c))) w) : wpOp Tryz.prog ops Q i K a w :=
 (yields_load (S := fun w' => w' = w) hgd x ho g l c hx (fun _ e => e ▸ h)).wpOp hi rfl k
structure InvSt (w wr : World) (B L T U r s x y : Nat) : Prop where
 out : RowI wr w.heap.size Z81 0
 r : RowV wr B r
 s : RowV wr L s
 x : RowV wr T x
 y : RowV wr U y
 b : Below w.heap.size w wr
theorem InvSt.on {w wr w' : World} {B L T U r s x y : Nat} (h : InvSt w wr B L T U r s x y) (b : Below wr.heap.size wr w') : InvSt w w' B L T U r s x y :=
 ⟨h.out.below b h.out.lt, h.r.on b, h.s.on b, h.x.on b, h.y.on b, bt h.b b⟩
structure Apart4 (o B L T U : Nat) : Prop where
 oB : o < B
 oL : o < L
 oT : o < T
 oU : o < U
 BL : B ≠ L
 BT : B ≠ T
 BU : B ≠ U
 LT : L ≠ T
 LU : L ≠ U
 TU : T ≠ U
theorem InvSt.putBL {w wr : World} {B L T U r s x y r' s' : Nat} {l l' : List Nat} {c c' : Nat} (h : InvSt w wr B L T U r s x y) (a : Apart4 w.heap.size B L T U) (hl : l.length = 81) (v : RV l c) (e : W.lV l = r') (hl' : l'.length = 81) (v' : RV l' c') (e' : W.lV l' = s') :
  InvSt w ((wr.setRow B (rowC l c)).setRow L (rowC l' c')) B L T U r' s' x y := by
 obtain ⟨a1, a2, a3, a4, a5, a6, a7, a8, a9, a10⟩ := a
 obtain ⟨lb, cb, hb, _, _⟩ := h.r
 obtain ⟨ll, cl, hL, _, _⟩ := h.s
 exact ⟨(h.out.storedApart (by omega)).storedApart (by omega), ⟨l, c, (hb.stored hl).storedApart a5, v, e⟩, ⟨l', c', (hL.storedApart (Ne.symm a5)).stored hl', v', e'⟩,
  (h.x.apart (Ne.symm a6)).apart (Ne.symm a8), (h.y.apart (Ne.symm a7)).apart (Ne.symm a9), below_setRow (below_setRow h.b (by omega) _) (by omega) _⟩
theorem InvSt.putTU {w wr : World} {B L T U r s x y x' y' : Nat} {l l' : List Nat} {c c' : Nat} (h : InvSt w wr B L T U r s x y) (a : Apart4 w.heap.size B L T U) (hl : l.length = 81) (v : RV l c) (e : W.lV l = x') (hl' : l'.length = 81) (v' : RV l' c') (e' : W.lV l' = y') :
  InvSt w ((wr.setRow T (rowC l c)).setRow U (rowC l' c')) B L T U r s x' y' := by
 obtain ⟨a1, a2, a3, a4, a5, a6, a7, a8, a9, a10⟩ := a
 obtain ⟨lt, ct, ht, _, _⟩ := h.x
 obtain ⟨lu, cu, hu, _, _⟩ := h.y
 exact ⟨(h.out.storedApart (by omega)).storedApart (by omega), (h.r.apart a6).apart a7, (h.s.apart a8).apart a9, ⟨l, c, (ht.stored hl).storedApart a10, v, e⟩, ⟨l', c', (hu.storedApart (Ne.symm a10)).stored hl', v', e'⟩, below_setRow (below_setRow h.b (by omega) _) (by omega) _⟩
theorem RV.cnt_zero {l : List Nat} {c x : Nat} (h : RV l c) (e : W.lV l = x) : (0 < c ↔ 0 < x) := by
 constructor
 ·intro h0
  rcases Nat.eq_zero_or_pos x with h1 | h1
  ·have := h.cnt_le (k := 0) (by rw [e, h1]; decide); omega
  ·exact h1
 ·intro h0
  rcases Nat.eq_zero_or_pos c with h1 | h1
  ·subst h1; rw [h.zeroVal] at e; omega
  ·exact h1
theorem bits_one {r : Nat} (h : 0 < r) : bitLen r = 1 ↔ r = 1 := by
 constructor
 ·intro e
  have := bitLen_bounds h
  rw [e] at this
  omega
 ·intro e; subst e; rfl
def InvAgg (a n : Nat) (w : World) (e : Ending) (w' : World) : Prop :=
 ∃ l c, e = .returned (.tuple #[.agg (rowC l c), .bool (decide (Nat.gcd n a = 1))]) ∧ l.length = 81 ∧ RV l c ∧ (Nat.gcd n a = 1 → W.lV l < n ∧ W.lV l * a % n = 1) ∧ (Nat.gcd n a ≠ 1 → W.lV l = 0) ∧ Below w.heap.size w w'
theorem inv_results {fn : Func} {p q : Tmp} {g c : Nat} {l : List Nat} {w : World} {v : Value} (hf : fn.results = #[.cell p 100, .tmp q]) (tmps : Array Value) (h : RowI w g l c)
  (hp : tmps.getD p undef = .pointer (some ⟨g, 0, none⟩)) (hq : tmps.getD q undef = v) : (results fn tmps).run Tryz.prog w = .ok (.tuple #[.agg (rowC l c), v]) w := by
 have e1 := run_loadVar_row (P := Tryz.prog) w g _ 100 _ _ _ h.blk Tryz.underlying100 rfl (by rw [rowC_size82 h.len]; exact zero_row.2)
 have hp' : tmps[p]?.getD undef = .pointer (some ⟨g, 0, none⟩) := by simpa using hp
 have hq' : tmps[q]?.getD undef = v := by simpa using hq
 simp [results, hf, hp', hq', asAddr, e1]
theorem RowA.storedApart {w : World} {g g' c : Nat} {l : List Nat} {cs : Array Value} (h : RowA w g l c) (hne : g ≠ g') : RowA (w.setRow g' cs) g l c := h.other (setRow_other w g' g cs hne)
theorem yields_loadA {ops : Array Oper} {S : World → Prop} {o : Oper} {a : Act} (hgd : o.guard = none) (x : Operand) (ho : o.op = .load 100 x) (g : Nat) (l : List Nat) (c : Nat)
  (hx : a.eval x = .pointer (some ⟨g, 0, none⟩)) (h : ∀ w, S w → RowA w g l c) : YieldsIf Tryz.prog ops S o (.agg (rowC l c)) a := by
 refine .inl ⟨by simp only [Region.wanted, hgd], fun w hw => ?_⟩
 unfold execOp
 simp only [ho, hx]
 have hA := h w hw
 have e := run_loadAt_mid (P := Tryz.prog) w g 0 100 (rowC l c).toList _ hA.part.range Tryz.underlying100 rfl (by rw [Array.length_toList, rowC_size82 hA.len]; exact zero_row.2)
 simp only [Array.toArray_toList] at e
 simp only [Sem.run_bind, e, Result.andThen_ok, Sem.run_pure]
theorem inverseOfRestA_any (gx gp cx cp : Nat) (lx lp : List Nat) (w : World) (hx : RowI w gx lx cx) (hp : RowA w gp lp cp) (vx : RV lx cx) (vp : RV lp cp) (a n : Nat) (ex : W.lV lx = a) (ep : W.lV lp = n) (han : a < n) (h1 : 1 < n) (hG : n < GB) :
  Calls Tryz.prog 164 #[.pointer (some ⟨gx, 0, none⟩), .pointer (some ⟨gp, 0, none⟩)] w (InvAgg a n w) := by
 obtain ⟨Z, hZ⟩ : ∃ Z, rowC Z81 0 = Z := ⟨_, rfl⟩
 have hz := zero_row.1
 rw [hZ] at hz
 have HZ := Lib.hid hZ
 have HX := Lib.hid hx
 have HP := Lib.hid hp
 have HVX := Lib.hid (And.intro vx ex)
 have HVP := Lib.hid (And.intro vp ep)
 have ltx := hx.lt
 have ltp := hp.lt
 have I3 := Lib.hid (fun w => rowOf_any ⟨#[1]⟩ w (by decide))
 rw [show gV ⟨#[1]⟩ = 1 from rfl] at I3
 clear hZ hx hp vx vp ex ep
 go_enter Tryz.func164, Tryz.ntmps164
 go_wp2_with fail
 have HV0 := one_var w HZ.out
 have s0 : (w.alloc (.cells Z 100)).heap.size = w.heap.size + 1 := by simp
 generalize w.alloc (.cells Z 100) = w0 at *
 have HO1 : Hid (RowI w0.drew w.heap.size Z81 0) := HV0.1.other rfl
 have HB1 : Hid (Below w.heap.size w w0.drew) := bdN' HV0.2
 have s1 : w0.drew.heap.size = w.heap.size + 1 := s0
 clear HV0 s0
 refine wp_region_held (S := fun w' => RowI w' gx lx cx ∧ RowA w' gp lp cp) (by kernel_rfl) ?_
 change wpAnyH _ _ _ _ _ _ _ _ w0.drew
 generalize w0.drew = w1 at *
 have HS1 := Lib.hid (And.intro (HX.out.below HB1.out ltx) (HP.out.below HB1.out ltp))
 refine wpAnyH_take (i := 0) (v := .pointer (some ⟨gp, 0, none⟩)) rfl (by kernel_rfl) (by kernel_rfl) (by kernel_rfl) (fun _ _ _ h => h) (yields_pure rfl fun _ => rfl) HS1.out ?_
 refine wpAnyH_take (i := 1) (v := .pointer (some ⟨gp, 0, none⟩)) rfl (by kernel_rfl) (by kernel_rfl) (by kernel_rfl) (fun _ _ _ h => h) (yields_pure rfl fun _ => rfl) HS1.out ?_
 refine wpAnyH_take (i := 2) (v := .agg (rowC lp cp)) rfl (by kernel_rfl) (by kernel_rfl) (by kernel_rfl) (fun _ _ _ h => h) (yields_loadA rfl (.tmp 15) rfl gp lp cp rfl fun _ h => h.2) HS1.out ?_
 refine wpAnyH_take (i := 3) (v := .pointer (some ⟨gx, 0, none⟩)) rfl (by kernel_rfl) (by kernel_rfl) (by kernel_rfl) (fun _ _ _ h => h) (yields_pure rfl fun _ => rfl) HS1.out ?_
 refine wpAnyH_take (i := 4) (v := .pointer (some ⟨gx, 0, none⟩)) rfl (by kernel_rfl) (by kernel_rfl) (by kernel_rfl) (fun _ _ _ h => h) (yields_pure rfl fun _ => rfl) HS1.out ?_
 refine wpAnyH_take (i := 5) (v := .agg (rowC lx cx)) rfl (by kernel_rfl) (by kernel_rfl) (by kernel_rfl) (fun _ _ _ h => h) (yields_load rfl (.tmp 18) rfl gx lx cx rfl fun _ h => h.1) HS1.out ?_
 have b2 := one_var w1 HZ.out
 have s2 : (w1.alloc (.cells Z 100)).heap.size = w1.heap.size + 1 := by simp
 refine wpAnyH_all (rs := [6, 7]) (by kernel_rfl) (by decide) ?_
 intro i hi
 rcases (by simpa using hi : i = 6 ∨ i = 7) with rfl | rfl
 focus (
  unfold wpOp
  go_simp
  left
  generalize w1.alloc (.cells Z 100) = w2 at *
  have HS2 := Lib.hid (And.intro (HS1.out.1.below b2.2 HS1.out.1.lt) (HS1.out.2.below b2.2 HS1.out.2.lt))
  refine ⟨HS2.out, ?_⟩
  have b3 := one_var w2 HZ.out
  refine wpAnyH_all (rs := [7]) (by kernel_rfl) (by decide) ?_
  intro i hi
  obtain rfl : i = 7 := by simpa using hi
  unfold wpOp
  go_simp
  left
  generalize w2.alloc (.cells Z 100) = w3 at *
  have HS3 := Lib.hid (And.intro (HS2.out.1.below b3.2 HS2.out.1.lt) (HS2.out.2.below b3.2 HS2.out.2.lt))
  have hB := b2.1.below b3.2 (by omega)
  have hL := b3.1
  have HB3 := Lib.hid (bt (bt HB1.out b2.2) b3.2)
  have HO3 := Lib.hid ((HO1.out.below b2.2 HO1.out.lt).below b3.2 (by omega))
  refine ⟨HS3.out, ?_⟩
  rw [s1] at hB
  rw [s2, s1] at hL
  have z3 := hL.lt
  generalize hLe : w.heap.size + 1 + 1 = L at *
  generalize hBe : w.heap.size + 1 = B at *
  have HE := Lib.hid (And.intro hLe hBe)
  have hoB : w.heap.size < B := by omega
  have hoL : w.heap.size < L := by omega
  have hBL : B ≠ L := by omega
  have HLX := Lib.hid HX.out.len
  have HLP := Lib.hid HP.out.len
  refine wpAnyH_all (rs := [8]) (by kernel_rfl) (by decide) ?_
  intro i hi
  obtain rfl : i = 8 := by simpa using hi
  refine store_op rfl rfl (.tmp 6) (.tmp 16) rfl B Z81 lp 0 cp rfl rfl hB HLP.out ⟨⟨HS3.out.1.storedApart (by omega), HS3.out.2.storedApart (by omega)⟩, ?_⟩
  refine wpAnyH_all (rs := [9]) (by kernel_rfl) (by decide) ?_
  intro i hi
  obtain rfl : i = 9 := by simpa using hi
  refine store_op rfl rfl (.tmp 7) (.tmp 19) rfl L Z81 lx 0 cx rfl rfl (hL.storedApart (by omega)) HLX.out ⟨⟨(HS3.out.1.storedApart (by omega)).storedApart (by omega), (HS3.out.2.storedApart (by omega)).storedApart (by omega)⟩, ?_⟩
  refine wpAnyH_done (by kernel_rfl) ?_ _
  have HB4 := Lib.hid (below_setRow (below_setRow HB3.out (show w.heap.size ≤ B by omega) (rowC lp cp)) (show w.heap.size ≤ L by omega) (rowC lx cx))
  have HO4 := Lib.hid ((HO3.out.storedApart (g' := B) (cs := rowC lp cp) (by omega)).storedApart (g' := L) (cs := rowC lx cx) (by omega))
  have HRB := Lib.hid ((hB.stored (c' := cp) HLP.out).storedApart (g' := L) (cs := rowC lx cx) hBL)
  have HRL := Lib.hid ((hL.storedApart (g' := B) (cs := rowC lp cp) (Ne.symm hBL)).stored (c' := cx) HLX.out)
  clear hB hL HS1 HS2 HS3 HB1 HB3 HO1 HO3 b2 b3 s1 s2 HE z3
  generalize World.setRow (World.setRow _ _ _) _ _ = w4 at *)
 rotate_left
 focus (
  unfold wpOp
  go_simp
  left
  generalize w1.alloc (.cells Z 100) = w2 at *
  have HS2 := Lib.hid (And.intro (HS1.out.1.below b2.2 HS1.out.1.lt) (HS1.out.2.below b2.2 HS1.out.2.lt))
  refine ⟨HS2.out, ?_⟩
  have b3 := one_var w2 HZ.out
  refine wpAnyH_all (rs := [6]) (by kernel_rfl) (by decide) ?_
  intro i hi
  obtain rfl : i = 6 := by simpa using hi
  unfold wpOp
  go_simp
  left
  generalize w2.alloc (.cells Z 100) = w3 at *
  have HS3 := Lib.hid (And.intro (HS2.out.1.below b3.2 HS2.out.1.lt) (HS2.out.2.below b3.2 HS2.out.2.lt))
  have hL := b2.1.below b3.2 (by omega)
  have hB := b3.1
  have HB3 := Lib.hid (bt (bt HB1.out b2.2) b3.2)
  have HO3 := Lib.hid ((HO1.out.below b2.2 HO1.out.lt).below b3.2 (by omega))
  refine ⟨HS3.out, ?_⟩
  rw [s1] at hL
  rw [s2, s1] at hB
  have z3 := hB.lt
  generalize hLe : w.heap.size + 1 + 1 = B at *
  generalize hBe : w.heap.size + 1 = L at *
  have HE := Lib.hid (And.intro hLe hBe)
  have hoB : w.heap.size < B := by omega
  have hoL : w.heap.size < L := by omega
  have hBL : B ≠ L := by omega
  have HLX := Lib.hid HX.out.len
  have HLP := Lib.hid HP.out.len
  refine wpAnyH_all (rs := [8]) (by kernel_rfl) (by decide) ?_
  intro i hi
  obtain rfl : i = 8 := by simpa using hi
  refine store_op rfl rfl (.tmp 6) (.tmp 16) rfl B Z81 lp 0 cp rfl rfl hB HLP.out ⟨⟨HS3.out.1.storedApart (by omega), HS3.out.2.storedApart (by omega)⟩, ?_⟩
  refine wpAnyH_all (rs := [9]) (by kernel_rfl) (by decide) ?_
  intro i hi
  obtain rfl : i = 9 := by simpa using hi
  refine store_op rfl rfl (.tmp 7) (.tmp 19) rfl L Z81 lx 0 cx rfl rfl (hL.storedApart (by omega)) HLX.out ⟨⟨(HS3.out.1.storedApart (by omega)).storedApart (by omega), (HS3.out.2.storedApart (by omega)).storedApart (by omega)⟩, ?_⟩
  refine wpAnyH_done (by kernel_rfl) ?_ _
  have HB4 := Lib.hid (below_setRow (below_setRow HB3.out (show w.heap.size ≤ B by omega) (rowC lp cp)) (show w.heap.size ≤ L by omega) (rowC lx cx))
  have HO4 := Lib.hid ((HO3.out.storedApart (g' := B) (cs := rowC lp cp) (by omega)).storedApart (g' := L) (cs := rowC lx cx) (by omega))
  have HRB := Lib.hid ((hB.stored (c' := cp) HLP.out).storedApart (g' := L) (cs := rowC lx cx) hBL)
  have HRL := Lib.hid ((hL.storedApart (g' := B) (cs := rowC lp cp) (Ne.symm hBL)).stored (c' := cx) HLX.out)
  clear hB hL HS1 HS2 HS3 HB1 HB3 HO1 HO3 b2 b3 s1 s2 HE z3
  generalize World.setRow (World.setRow _ _ _) _ _ = w4 at *)
 all_goals (
  go_wp2_with (refine build_at rfl rfl ?_)
  refine (I3.out _).mono ?_
  rintro e w6 ⟨l0, c0, rfl, hl0, v0, e0, b6⟩
  have z4 := HRB.out.lt
  have z5 := HRL.out.lt
  have z6 := b6.size
  have HB6 := Lib.hid (bt HB4.out b6)
  have HO6 := HO4.out.below b6 HO4.out.lt
  have HRB6 := HRB.out.below b6 HRB.out.lt
  have HRL6 := HRL.out.below b6 HRL.out.lt
  have HWs := Lib.hid (Work.start w6 HZ.out)
  have HVs := Vars.of (cx := 0) (cy := c0) HWs.out Z81_len hl0
  have HSt0 := Lib.hid (InvSt.mk (w := w) (B := B) (L := L) (T := w6.heap.size) (U := w6.heap.size + 1) (r := n) (s := a) (x := 0) (y := 1) (HO6.below HVs.b (by omega)) ⟨lp, cp, HRB6.below HVs.b (by omega), HVP.out.1, HVP.out.2⟩ ⟨lx, cx, HRL6.below HVs.b (by omega), HVX.out.1, HVX.out.2⟩ ⟨Z81, 0, HVs.x, zero_rv, Z81_val⟩ ⟨l0, c0, HVs.y, v0, e0⟩ (bt HB6.out HVs.b))
  have HAp := Lib.hid (Apart4.mk (o := w.heap.size) (B := B) (L := L) (T := w6.heap.size) (U := w6.heap.size + 1) hoB hoL (by omega) (by omega) hBL (by omega) (by omega) (by omega) (by omega) (by omega))
  have HL0 := Lib.hid hl0
  clear HO6 HRB6 HRL6 HVs hl0 v0 e0 b6 HB4 HO4 HRB HRL I3 HB6 z4 z5 z6
  go_wp2_with (first | refine store_at rfl (.tmp 8) (.tmp 20) rfl w6.heap.size Z81 Z81 0 0 rfl rfl HWs.out.out Z81_len ?_ | refine store_at rfl (.tmp 9) (.tmp 21) rfl (w6.heap.size + 1) Z81 l0 0 c0 rfl rfl (HWs.out.row.storedApart (by omega)) HL0.out ?_)
  clear HWs HL0 hoB hoL hBL
  generalize World.setRow (World.setRow _ _ _) _ _ = w7 at *
  generalize w6.heap.size + 1 = U at *
  generalize w6.heap.size = T at *
  go_loopg [10] a (fun gh bv wr => ∃ (r s x y : Nat) (b : Bool), s = gh ∧ bv = .bool b ∧ Hid (InvT a n r s x y b) ∧ Hid (InvSt w wr B L T U r s x y))
  case atStart => exact ⟨n, a, 0, 1, true, rfl, rfl, InvT.start han, HSt0⟩
  case round =>
   clear HSt0
   obtain ⟨r, s, x, y, b, rfl, rfl, hI, hW⟩ := hrel
   obtain ⟨ll, cl, hL, vL, eL⟩ := hW.out.s
   obtain ⟨lb, cb, hB, vB, eB⟩ := hW.out.r
   obtain ⟨lt, ct, hT, vT, eT⟩ := hW.out.x
   obtain ⟨lu, cu, hU, vU, eU⟩ := hW.out.y
   obtain ⟨c1, c2⟩ := hL.cnt
   have hcs := vL.cnt_zero eL
   by_cases hs : 0 < s
   ·have hc0 : (0 : Int) < (cl : Int) := by have := hcs.2 hs; omega
    have hNx := hI.out.next hs
    have hmo := hI.out.more_le hs
    have hrn := hI.out.rn
    have hxn := hI.out.xn
    have hyn := hI.out.yn
    have hsr := hI.out.lt
    have cb40 := cnt_40 vB (by omega)
    have cl40 := cnt_40 vL (by omega)
    have ct40 := cnt_40 vT (by omega)
    have cu40 := cnt_40 vU (by omega)
    have HNx := Lib.hid hNx
    have hltm := Nat.mod_lt r hs
    have HD := Lib.hid (divRows_any B L cb cl lb ll wr hB hL vB vL (by omega) (by rw [eL]; exact hs))
    rw [eB, eL] at HD
    have HrB := Lib.hid hB
    have HrL := Lib.hid hL
    have HrT := Lib.hid hT
    have HrU := Lib.hid hU
    have HvL := Lib.hid (And.intro vL eL)
    have HvT := Lib.hid (And.intro vT eT)
    have HvU := Lib.hid (And.intro vU eU)
    clear hB hL hT hU vB vL vT vU eB eL eT eU hNx hcs hI
    go_wp2_with fail
    refine HD.out.mono ?_
    rintro e w1 ⟨lq, cq, lr, cr, rfl, q1, q2, q3, q4, q5, q6, q7, q8, bw1⟩
    have hqn : r / s ≤ n := Nat.le_trans (Nat.div_le_self _ _) hrn
    have cq40 := cnt_40 q3 (by rw [q5]; omega)
    have HQ := Lib.hid (And.intro q1 (And.intro q3 q5))
    have HR := Lib.hid (And.intro q2 (And.intro q4 q6))
    have HW1 := Lib.hid (hW.out.on bw1)
    have HWs := Lib.hid (Work.start w1 HZ.out)
    have HVs := Lib.hid (Vars.of (cx := cq) (cy := cr) HWs.out q1 q2)
    have HrL1 := Lib.hid (HrL.out.below bw1 HrL.out.lt)
    have HrT1 := Lib.hid (HrT.out.below bw1 HrT.out.lt)
    have HrU1 := Lib.hid (HrU.out.below bw1 HrU.out.lt)
    clear q1 q2 q3 q4 q5 q6 q7 q8 bw1 HD hW HrB HrL HrT HrU c1 c2 hc0 hqn
    go_wp2_with (first | refine store_at rfl (.tmp 11) (.tmp 27) rfl w1.heap.size Z81 lq 0 cq rfl rfl HWs.out.out HQ.out.1 ?_ | refine store_at rfl (.tmp 12) (.tmp 28) rfl (w1.heap.size + 1) Z81 lr 0 cr rfl rfl (HWs.out.row.storedApart (by omega)) HR.out.1 ?_)
    generalize World.setRow (World.setRow _ _ _) _ _ = w2 at *
    have HW2 := Lib.hid (HW1.out.on HVs.out.b)
    have HrL2 := Lib.hid (HrL1.out.below HVs.out.b HrL1.out.lt)
    have HrT2 := Lib.hid (HrT1.out.below HVs.out.b HrT1.out.lt)
    have HrU2 := Lib.hid (HrU1.out.below HVs.out.b HrU1.out.lt)
    have HrQ2 := Lib.hid HVs.out.x
    have HrR2 := Lib.hid HVs.out.y
    have z1 := HrL1.out.lt
    have z2 := HrT1.out.lt
    have z3 := HrU1.out.lt
    have z4 := HW1.out.r.lt
    have z5 := HW1.out.out.lt
    have hRB : w1.heap.size + 1 ≠ B := by omega
    have hRL : w1.heap.size + 1 ≠ L := by omega
    clear HWs HVs HW1 HrL1 HrT1 HrU1
    generalize w1.heap.size + 1 = R12 at *
    generalize w1.heap.size = Q11 at *
    refine (mulRows_any Q11 U cq cu lq lu w2 HrQ2.out HrU2.out HQ.out.2.1 HvU.out.1 cq40 cu40).mono ?_
    rintro e w3 ⟨lm, cm, rfl, m1, m2, ⟨m3, _⟩, bw3⟩
    rw [HQ.out.2.2, HvU.out.2] at m3
    have cm40 := cnt_40 m2 (by rw [m3]; omega)
    have HV3 := Lib.hid (one_var w3 HZ.out)
    have HVS := Lib.hid (var_set w3 (c := cm) HZ.out m1)
    have HM := Lib.hid (And.intro m1 (And.intro m2 m3))
    have HW3 := Lib.hid (HW2.out.on bw3)
    have HrL3 := Lib.hid (HrL2.out.below bw3 HrL2.out.lt)
    have HrT3 := Lib.hid (HrT2.out.below bw3 HrT2.out.lt)
    have HrU3 := Lib.hid (HrU2.out.below bw3 HrU2.out.lt)
    have HrR3 := Lib.hid (HrR2.out.below bw3 HrR2.out.lt)
    clear m1 m2 m3 bw3 HW2 HrL2 HrT2 HrU2 HrQ2 HrR2 HQ
    go_wp2_with (refine store_at rfl (.tmp 13) (.tmp 29) rfl w3.heap.size Z81 lm 0 cm rfl rfl HV3.out.1 HM.out.1 ?_)
    generalize World.setRow _ _ _ = w5 at *
    have HW5 := Lib.hid (HW3.out.on HVS.out.2)
    have HrL5 := HrL3.out.below HVS.out.2 HrL3.out.lt
    have HrT5 := HrT3.out.below HVS.out.2 HrT3.out.lt
    have HrU5 := HrU3.out.below HVS.out.2 HrU3.out.lt
    have HrR5 := HrR3.out.below HVS.out.2 HrR3.out.lt
    have HrM5 := HVS.out.1
    have y1 := HrR3.out.lt
    have y2 := HW3.out.b.size
    have y3 := HrL3.out.lt
    have y4 := HrT3.out.lt
    have y5 := HrU3.out.lt
    have y6 := HW3.out.r.lt
    clear HV3 HVS HW3 HrL3 HrT3 HrU3 HrR3
    generalize w3.heap.size = M13 at *
    refine wp_region_held (S := fun w' => RowI w' R12 lr cr) (by kernel_rfl) ?_
    change wpAnyH _ _ _ _ _ _ _ _ w5.drew
    have HW6 : Hid (InvSt w w5.drew B L T U r s x y) := HW5.out.on (bdN' (Below.refl _ _))
    have HrL6 : Hid (RowI w5.drew L ll cl) := HrL5.other rfl
    have HrT6 : Hid (RowI w5.drew T lt ct) := HrT5.other rfl
    have HrU6 : Hid (RowI w5.drew U lu cu) := HrU5.other rfl
    have HrR6 : Hid (RowI w5.drew R12 lr cr) := HrR5.other rfl
    have HrM6 : Hid (RowI w5.drew M13 lm cm) := HrM5.other rfl
    clear HW5 HrL5 HrT5 HrU5 HrR5 HrM5
    generalize w5.drew = w8 at *
    obtain ⟨lb', cb', hB8, _, _⟩ := HW6.out.r
    have HLL := Lib.hid HrL6.out.len
    have HLR := Lib.hid HR.out.1
    refine wpAnyH_take (i := 1) (v := .agg (rowC lr cr)) rfl (by kernel_rfl) (by kernel_rfl) (by kernel_rfl) (fun _ _ _ h => h) (yields_load rfl (.tmp 12) rfl R12 lr cr rfl fun _ h => h) HrR6.out ?_
    refine wpAnyH_all (rs := [0]) (by kernel_rfl) (by decide) ?_
    intro i hi
    obtain rfl : i = 0 := by simpa using hi
    refine load_op rfl rfl (.tmp 7) rfl L ll cl rfl HrL6.out ⟨HrR6.out, ?_⟩
    refine wpAnyH_all (rs := [2]) (by kernel_rfl) (by decide) ?_
    intro i hi
    obtain rfl : i = 2 := by simpa using hi
    refine store_op rfl rfl (.tmp 6) (.tmp 30) rfl B lb' ll cb' cl rfl rfl hB8 HLL.out ⟨HrR6.out.storedApart hRB, ?_⟩
    refine wpAnyH_all (rs := [3]) (by kernel_rfl) (by decide) ?_
    intro i hi
    obtain rfl : i = 3 := by simpa using hi
    refine store_op rfl rfl (.tmp 7) (.tmp 31) rfl L ll lr cl cr rfl rfl (HrL6.out.storedApart (Ne.symm HAp.out.BL)) HLR.out ⟨(HrR6.out.storedApart hRB).storedApart hRL, ?_⟩
    refine wpAnyH_done (by kernel_rfl) ?_ _
    have HW9 := Lib.hid (HW6.out.putBL (r' := s) (s' := r % s) HAp.out HLL.out HvL.out.1 HvL.out.2 HLR.out HR.out.2.1 HR.out.2.2)
    have HrT9 := Lib.hid ((HrT6.out.storedApart (g' := B) (cs := rowC ll cl) (Ne.symm HAp.out.BT)).storedApart (g' := L) (cs := rowC lr cr) (Ne.symm HAp.out.LT))
    have HrU9 := Lib.hid ((HrU6.out.storedApart (g' := B) (cs := rowC ll cl) (Ne.symm HAp.out.BU)).storedApart (g' := L) (cs := rowC lr cr) (Ne.symm HAp.out.LU))
    have HrM9 := Lib.hid ((HrM6.out.storedApart (g' := B) (cs := rowC ll cl) (by omega)).storedApart (g' := L) (cs := rowC lr cr) (by omega))
    clear HW6 HrL6 HrT6 HrU6 HrR6 HrM6 hB8 HvL HR HLL HLR
    generalize World.setRow (World.setRow _ _ _) _ _ = w9 at *
    go_wp2_with fail
    refine wp_region_held (S := fun _ => True) (by kernel_rfl) ?_
    change wpAnyH _ _ _ _ _ _ _ _ w9.drew
    have HW10 : Hid (InvSt w w9.drew B L T U s (r % s) x y) := HW9.out.on (bdN' (Below.refl _ _))
    have HrT10 : Hid (RowI w9.drew T lt ct) := HrT9.out.other rfl
    have HrU10 : Hid (RowI w9.drew U lu cu) := HrU9.out.other rfl
    have HrM10 : Hid (RowI w9.drew M13 lm cm) := HrM9.out.other rfl
    clear HW9 HrT9 HrU9 HrM9
    generalize w9.drew = w10 at *
    have HLU := Lib.hid HrU10.out.len
    have HAd := Lib.hid (addRows_any T M13 ct cm lt lm w10 HrT10.out HrM10.out HvT.out.1 HM.out.2.1 (by omega) (by omega))
    rw [HvT.out.2, HM.out.2.2] at HAd
    refine wpAnyH_all (rs := [0, 1]) (by kernel_rfl) (by decide) ?_
    intro i hi
    rcases (by simpa using hi : i = 0 ∨ i = 1) with rfl | rfl
    ·refine load_op rfl rfl (.tmp 9) rfl U lu cu rfl HrU10.out ⟨trivial, ?_⟩
     refine wpAnyH_all (rs := [1]) (by kernel_rfl) (by decide) ?_
     intro i hi
     obtain rfl : i = 1 := by simpa using hi
     unfold wpOp
     go_simp
     left
     refine HAd.out.mono ?_
     rintro e w11 ⟨ls, cs, rfl, k1, k2, ⟨k3, _⟩, b11⟩
     have HW11 := Lib.hid (HW10.out.on b11)
     have HrT11 := Lib.hid (HrT10.out.below b11 HrT10.out.lt)
     have HrU11 := Lib.hid (HrU10.out.below b11 HrU10.out.lt)
     have HLS := Lib.hid k1
     have HVs := Lib.hid (And.intro k2 k3)
     clear k1 k2 k3 b11 HAd HW10 HrT10 HrU10
     refine wpAnyH_all (rs := [2]) (by kernel_rfl) (by decide) ?_
     intro i hi
     obtain rfl : i = 2 := by simpa using hi
     refine store_op rfl rfl (.tmp 8) (.tmp 32) rfl T lt lu ct cu rfl rfl HrT11.out HLU.out ⟨trivial, ?_⟩
     refine wpAnyH_all (rs := [3]) (by kernel_rfl) (by decide) ?_
     intro i hi
     obtain rfl : i = 3 := by simpa using hi
     refine store_op rfl rfl (.tmp 9) (.tmp 33) rfl U lu ls cu cs rfl rfl (HrU11.out.storedApart (Ne.symm HAp.out.TU)) HLS.out ⟨trivial, ?_⟩
     refine wpAnyH_done (by kernel_rfl) ?_ _
     have HW12 := Lib.hid (HW11.out.putTU (x' := y) (y' := x + r / s * y) HAp.out HLU.out HvU.out.1 HvU.out.2 HLS.out HVs.out.1 HVs.out.2)
     clear HW11 HrT11 HrU11 HrM10 HvT HvU HM HVs HLU HLS
     generalize World.setRow (World.setRow _ _ _) _ _ = w12 at *
     go_wp2
     go_roundg (r % s)
     case measure => exact hltm
     case rel => exact ⟨s, r % s, y, x + r / s * y, !b, rfl, rfl, HNx, HW12⟩
    ·unfold wpOp
     go_simp
     left
     refine HAd.out.mono ?_
     rintro e w11 ⟨ls, cs, rfl, k1, k2, ⟨k3, _⟩, b11⟩
     have HW11 := Lib.hid (HW10.out.on b11)
     have HrT11 := Lib.hid (HrT10.out.below b11 HrT10.out.lt)
     have HrU11 := Lib.hid (HrU10.out.below b11 HrU10.out.lt)
     have HLS := Lib.hid k1
     have HVs := Lib.hid (And.intro k2 k3)
     clear k1 k2 k3 b11 HAd HW10 HrT10 HrU10
     refine wpAnyH_all (rs := [0]) (by kernel_rfl) (by decide) ?_
     intro i hi
     obtain rfl : i = 0 := by simpa using hi
     refine load_op rfl rfl (.tmp 9) rfl U lu cu rfl HrU11.out ⟨trivial, ?_⟩
     refine wpAnyH_all (rs := [2]) (by kernel_rfl) (by decide) ?_
     intro i hi
     obtain rfl : i = 2 := by simpa using hi
     refine store_op rfl rfl (.tmp 8) (.tmp 32) rfl T lt lu ct cu rfl rfl HrT11.out HLU.out ⟨trivial, ?_⟩
     refine wpAnyH_all (rs := [3]) (by kernel_rfl) (by decide) ?_
     intro i hi
     obtain rfl : i = 3 := by simpa using hi
     refine store_op rfl rfl (.tmp 9) (.tmp 33) rfl U lu ls cu cs rfl rfl (HrU11.out.storedApart (Ne.symm HAp.out.TU)) HLS.out ⟨trivial, ?_⟩
     refine wpAnyH_done (by kernel_rfl) ?_ _
     have HW12 := Lib.hid (HW11.out.putTU (x' := y) (y' := x + r / s * y) HAp.out HLU.out HvU.out.1 HvU.out.2 HLS.out HVs.out.1 HVs.out.2)
     clear HW11 HrT11 HrU11 HrM10 HvT HvU HM HVs HLU HLS
     generalize World.setRow (World.setRow _ _ _) _ _ = w12 at *
     go_wp2
     go_roundg (r % s)
     case measure => exact hltm
     case rel => exact ⟨s, r % s, y, x + r / s * y, !b, rfl, rfl, HNx, HW12⟩
   ·obtain rfl : s = 0 := by omega
    have hc0 : ¬ (0 : Int) < (cl : Int) := by have := hcs; omega
    obtain ⟨hg, hr0⟩ := hI.out.last
    have hrn := hI.out.rn
    have hxn := hI.out.xn
    have cb40 := cnt_40 vB (by omega)
    have ct40 := cnt_40 vT (by omega)
    have HBC := Lib.hid (bitCount_any B cb lb wr hB vB (by omega))
    rw [eB] at HBC
    have hb1 := bits_one hr0
    have HrT := Lib.hid hT
    have HvT := Lib.hid (And.intro vT eT)
    have HG := Lib.hid hg
    clear hB hL hT hU vB vL vT vU eB eL eT eU hcs hg
    go_wp2_with fail
    refine HBC.out.mono ?_
    rintro e w1 ⟨rfl, k, rfl⟩
    have HW1 := Lib.hid (hW.out.on (bdN (Below.refl _ _) k))
    have HrT1 : Hid (RowI (wr.drewN k) T lt ct) := HrT.out.other rfl
    clear hW HrT HBC c1 c2 hc0
    generalize wr.drewN k = w2 at *
    by_cases hr1 : r = 1
    ·have hq : ((bitLen r : Int) != 1) = false := by rw [hb1.2 hr1]; rfl
     subst hr1
     have hgd : decide (Nat.gcd n a = 1) = true := decide_eq_true HG.out.symm
     generalize (bitLen 1 : Int) = bl at *
     cases b with
     | false =>
      obtain ⟨f1, f2⟩ := hI.out.found h1
      have HO := Lib.hid (HW1.out.out.stored (c' := ct) HrT1.out.len)
      have HBB := Lib.hid (below_setRow HW1.out.b (Nat.le_refl _) (rowC lt ct))
      have HLT := Lib.hid HrT1.out.len
      have HF : Hid (W.lV lt < n ∧ W.lV lt * a % n = 1) := by show _ ∧ _; rw [HvT.out.2]; exact ⟨f1, f2⟩
      have HE : Hid (InvAgg a n w (.returned (.tuple #[.agg (rowC lt ct), .bool true])) (w2.setRow w.heap.size (rowC lt ct))) := ⟨lt, ct, by rw [hgd], HLT.out, HvT.out.1, fun _ => HF.out, fun h => absurd HG.out.symm h, HBB.out⟩
      clear f1 f2 hgd hI hb1
      go_wp2_with (first | refine load_at rfl (.tmp 8) rfl T lt ct rfl HrT1.out ?_ | refine store_at rfl (.tmp 4) (.tmp 42) rfl w.heap.size Z81 lt 0 ct rfl rfl HW1.out.out HLT.out ?_)
      exact bodyPost_ret (inv_results Tryz.results164 _ HO.out rfl rfl) rfl HE.out
     | true =>
      obtain ⟨f1, f2⟩ := hI.out.foundB h1
      have HF := Lib.hid (And.intro f1 f2)
      have hPw := HP.out.below HW1.out.b ltp
      have cp40 := cnt_40 HVP.out.1 (by rw [HVP.out.2]; exact hG)
      have HSb := Lib.hid (subRowsA_any gp T cp ct lp lt w2 hPw HrT1.out HVP.out.1 HvT.out.1 (by omega) (by omega) (by rw [HvT.out.2, HVP.out.2]; exact hxn))
      rw [HvT.out.2, HVP.out.2] at HSb
      have HGd := Lib.hid hgd
      clear f1 f2 hPw hgd hI hb1
      go_wp2_with fail
      refine HSb.out.mono ?_
      rintro e w3 ⟨l2, c2, rfl, k1, k2, ⟨k3, _⟩, b3⟩
      have HW3 := Lib.hid (HW1.out.on b3)
      have HO := Lib.hid (HW3.out.out.stored (c' := c2) k1)
      have HBB := Lib.hid (below_setRow HW3.out.b (Nat.le_refl _) (rowC l2 c2))
      have HL2 := Lib.hid k1
      have HE : Hid (InvAgg a n w (.returned (.tuple #[.agg (rowC l2 c2), .bool true])) (w3.setRow w.heap.size (rowC l2 c2))) := ⟨l2, c2, by rw [HGd.out], k1, k2, fun _ => by rw [k3]; exact HF.out, fun h => absurd HG.out.symm h, HBB.out⟩
      clear k1 k2 k3 b3 HSb HW1 HrT1
      go_wp2_with (first | refine store_at rfl (.tmp 4) (.tmp 41) rfl w.heap.size Z81 l2 0 c2 rfl rfl HW3.out.out HL2.out ?_)
      exact bodyPost_ret (inv_results Tryz.results164 _ HO.out rfl rfl) rfl HE.out
    ·have hq : ((bitLen r : Int) != 1) = true := by
      simp only [bne_iff_ne, ne_eq]
      intro h
      exact hr1 (hb1.1 (by omega))
     have hgd : decide (Nat.gcd n a = 1) = false := decide_eq_false fun h => hr1 (HG.out.trans h)
     have HO := Lib.hid (HW1.out.out.stored (c' := 0) Z81_len)
     have HBB := Lib.hid (below_setRow HW1.out.b (Nat.le_refl _) (rowC Z81 0))
     have HE : Hid (InvAgg a n w (.returned (.tuple #[.agg (rowC Z81 0), .bool false])) (w2.setRow w.heap.size (rowC Z81 0))) := ⟨Z81, 0, by rw [hgd], Z81_len, zero_rv, fun h => absurd (HG.out.trans h) hr1, fun _ => Z81_val, HBB.out⟩
     generalize (bitLen r : Int) = bl at *
     clear hgd hI hb1
     go_wp2_with (first | refine build_at rfl rfl ?_ | refine store_at rfl (.tmp 4) (.tmp 38) rfl w.heap.size Z81 Z81 0 0 rfl rfl HW1.out.out Z81_len ?_)
     exact bodyPost_ret (inv_results Tryz.results164 _ HO.out rfl rfl) rfl HE.out)
theorem inverseOfRest_any (gx gp cx cp : Nat) (lx lp : List Nat) (w : World) (hx : RowI w gx lx cx) (hp : RowI w gp lp cp) (vx : RV lx cx) (vp : RV lp cp) (a n : Nat) (ex : W.lV lx = a) (ep : W.lV lp = n) (han : a < n) (h1 : 1 < n) (hG : n < GB) :
  Calls Tryz.prog 164 #[.pointer (some ⟨gx, 0, none⟩), .pointer (some ⟨gp, 0, none⟩)] w (InvAgg a n w) :=
 inverseOfRestA_any gx gp cx cp lx lp w hx hp.atA vx vp a n ex ep han h1 hG
theorem inverseRest_i (a p : ByteArray) (w : World) : Calls Tryz.prog 125 #[.string a, .string p] w (InvG a p w) := by
 have HM := leaves_s p
 have HR := restOk_s a p
 cases hm : modB p with
 | false =>
  rw [hm] at HM
  have N := Lib.hid (InvG.no (a := a) (p := p) (w := w) (w' := w) (by unfold invB oneB; rw [hm]; rfl) (Below.refl _ _))
  go_enter Tryz.func125, Tryz.ntmps125
  go_wp2_with fail
  refine (HM _).mono ?_
  rintro e w1 ⟨rfl, rfl⟩
  go_wp2
  go_ret2
  exact N.out
 | true =>
  rw [hm] at HM
  cases hr : restB a p with
  | false =>
   rw [hr] at HR
   have N := Lib.hid (InvG.no (a := a) (p := p) (w := w) (w' := w) (by unfold invB oneB; rw [hm, hr]; rfl) (Below.refl _ _))
   go_enter Tryz.func125, Tryz.ntmps125
   go_wp2_with fail
   refine (HM _).mono ?_
   rintro e w1 ⟨rfl, rfl⟩
   go_wp2_with fail
   refine (HR _).mono ?_
   rintro e w1 ⟨rfl, rfl⟩
   go_wp2
   go_ret2
   exact N.out
  | true =>
   rw [hr] at HR
   obtain ⟨okp, h1⟩ := modB_parts hm
   obtain ⟨oka, _, hap⟩ := restB_parts hr
   have hpG := gV_lt okp
   have I1 := Lib.hid (fun w => rowOf_any a w (okG_size' oka))
   have I2 := Lib.hid (fun w => rowOf_any p w (okG_size' okp))
   have HI : Hid (invB a p = decide (Nat.gcd (gV p) (gV a) = 1)) := by show _ = _; unfold invB oneB; rw [hm, hr]; rfl
   have HN := Lib.hid (And.intro hap (And.intro h1 hpG))
   obtain ⟨Z, hZ⟩ : ∃ Z, rowC Z81 0 = Z := ⟨_, rfl⟩
   have hz := zero_row.1
   rw [hZ] at hz
   have HZ := Lib.hid hZ
   clear hm hr okp oka hZ h1 hap hpG
   go_enter Tryz.func125, Tryz.ntmps125
   go_wp2_with fail
   refine (HM _).mono ?_
   rintro e w1 ⟨rfl, rfl⟩
   go_wp2_with fail
   refine (HR _).mono ?_
   rintro e w1 ⟨rfl, rfl⟩
   clear HM HR
   go_wp2_with fail
   refine (I1.out _).mono ?_
   rintro e w1 ⟨lx, cx, rfl, hlx, vx, ex, b1⟩
   go_wp2_with fail
   refine (I2.out _).mono ?_
   rintro e w2 ⟨lp, cp, rfl, hlp, vp, ep, b2⟩
   have HLX := Lib.hid hlx
   have HLP := Lib.hid hlp
   have HVX := Lib.hid (And.intro vx ex)
   have HVP := Lib.hid (And.intro vp ep)
   have HS := Lib.hid (Work.start w2 HZ.out)
   have HVs := Lib.hid (Vars.of (cx := cx) (cy := cp) HS.out hlx hlp)
   have HB3 := Lib.hid (bt (bt b1 b2) HVs.out.b)
   clear hlx hlp vx ex vp ep b1 b2 I1 I2
   go_wp2_with (first | refine store_at rfl (.tmp 6) (.tmp 20) rfl w2.heap.size Z81 lx 0 cx rfl rfl HS.out.out HLX.out ?_ | refine store_at rfl (.tmp 7) (.tmp 22) rfl (w2.heap.size + 1) Z81 lp 0 cp rfl rfl (HS.out.row.storedApart (by omega)) HLP.out ?_)
   generalize World.setRow (World.setRow _ _ _) _ _ = w3 at *
   refine (inverseOfRest_any _ _ _ _ _ _ _ HVs.out.x HVs.out.y HVX.out.1 HVP.out.1 _ _ HVX.out.2 HVP.out.2 HN.out.1 HN.out.2.1 HN.out.2.2).mono ?_
   rintro e w4 ⟨l, c, rfl, hl, v, y1, y2, b4⟩
   have HV4 := Lib.hid (one_var w4 HZ.out)
   have HVS := Lib.hid (var_set w4 (c := c) HZ.out hl)
   have HB4 := Lib.hid (bt HB3.out b4)
   have HL := Lib.hid hl
   have hlt : W.lV l < GB := by
    by_cases h : Nat.gcd (gV p) (gV a) = 1
    ·exact Nat.lt_trans (y1 h).1 HN.out.2.2
    ·rw [y2 h]; exact Nat.lt_trans (by decide) GB_pos
   have HY : Hid (∀ w', Below w.heap.size w w' → InvG a p w (.returned (.tuple #[.string (gS (W.lV l)), .bool (decide (Nat.gcd (gV p) (gV a) = 1))])) w') := by
    intro w' bw
    by_cases h : Nat.gcd (gV p) (gV a) = 1
    ·rw [decide_eq_true h]
     exact InvG.yes (by rw [HI.out, decide_eq_true h]) (y1 h).1 (y1 h).2 bw
    ·rw [decide_eq_false h, y2 h, gS_zero]
     exact InvG.no (by rw [HI.out, decide_eq_false h]) bw
   have c40 := cnt_40 v hlt
   have HVV := Lib.hid (And.intro v hlt)
   generalize decide (Nat.gcd (gV p) (gV a) = 1) = found at *
   clear HVs HS HB3 hl v y1 y2 b4 hlt HI
   go_wp2_with (refine store_at rfl (.tmp 8) (.tmp 25) rfl w4.heap.size Z81 l 0 c rfl rfl HV4.out.1 HL.out ?_)
   generalize World.setRow _ _ _ = w5 at *
   have HB5 := Lib.hid (bt HB4.out HVS.out.2)
   have HG := Lib.hid (great_any _ _ _ _ HVS.out.1 HVV.out.1 (by omega))
   rw [great_gS HVV.out.2] at HG
   clear HVS HV4 HB4
   refine HG.out.mono ?_
   rintro e w6 ⟨rfl, b6⟩
   have HF := Lib.hid (HY.out _ (bt HB5.out b6))
   clear HG HB5 b6 HY
   go_wp2
   go_ret2
   exact HF.out
end Go.Proofs.YtdajgcgliidjbaaGreat
