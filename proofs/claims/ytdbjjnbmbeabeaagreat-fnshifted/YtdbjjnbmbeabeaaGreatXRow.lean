/-
  Rows of impl's chapter 5 (108 limbs, kept in 32 or in 64 bits), as blocks of memory; the contracts of shiftRowOf at both.
-/
import Derived.Test.YtdbjjnbmbeabeaaGreatILow
import Derived.Test.YtdbjjnbmbeabeaaGreatXMath
namespace Go.Proofs.YtdbjjnbmbeabeaaGreat
open Go.RowKit

/-- The cells of a row. -/
def rowK (k : IntKind) (l : List Nat) : Array Value := (l.map (fun x : Nat => Value.int k (x : Int))).toArray
theorem rowK_size (k : IntKind) (l : List Nat) : (rowK k l).size = l.length := by simp [rowK]
theorem rowK_at {k : IntKind} {l : List Nat} {i : Nat} (hi : i < l.length) : (rowK k l)[i]? = some (.int k (l.getD i 0 : Int)) := by
  simp only [rowK, List.getElem?_toArray]
  rw [List.getElem?_map, List.getElem?_eq_getElem hi, List.getD_eq_getElem?_getD, List.getElem?_eq_getElem hi]
  rfl
theorem rowK_set {k : IntKind} {l : List Nat} {i : Nat} (y : Nat) : (rowK k l).setIfInBounds i (.int k (y : Int)) = rowK k (l.set i y) := by
  simp only [rowK, List.setIfInBounds_toArray]
  rw [← List.map_set]
theorem rowK_one (k : IntKind) (l : List Nat) : (rowK k l).all (·.oneCell') = true := by
  rw [Array.all_eq_true_iff_forall_mem]
  intro v hv
  simp only [rowK, List.mem_toArray, List.mem_map] at hv
  rcases hv with ⟨x, _, rfl⟩; rfl
structure RowK (k : IntKind) (t : TypeId) (w : World) (g : Nat) (l : List Nat) : Prop where
  len : l.length = 108
  blk : w.heap[g]? = some (.cells (rowK k l) t (0, 0))
/-- What is known of a type of rows. -/
structure KT (t : TypeId) : Prop where
  und : ∃ n e, Tryz.prog.underlying t = some (.array n e)
  size : (Tryz.prog.info? t).map (·.size) = some 108
section
variable {k : IntKind} {t : TypeId} {w : World} {g : Nat} {l : List Nat}
theorem RowK.lt (h : RowK k t w g l) : g < w.heap.size := (Array.getElem?_eq_some_iff.1 h.blk).1
theorem RowK.cell (h : RowK k t w g l) {i : Nat} (hi : i < 108) : w.cell? ⟨g, i, none⟩ = some (.int k (l.getD i 0 : Int)) ∧ w.frozen? ⟨g, i, none⟩ = false :=
  ⟨(cell_of_row w g i _ _ _ h.blk).trans (rowK_at (by rw [h.len]; exact hi)), frozen_of_row w g i _ _ h.blk⟩
theorem RowK.set (h : RowK k t w g l) {i : Nat} (y : Nat) : RowK k t (w.setCell ⟨g, i, none⟩ (.int k (y : Int))) g (l.set i y) :=
  ⟨by rw [List.length_set]; exact h.len, by rw [heap_setCell_same w g i _ _ _ h.blk, rowK_set y]⟩
theorem RowK.other {w' : World} (h : RowK k t w g l) (e : w'.heap[g]? = w.heap[g]?) : RowK k t w' g l := ⟨h.len, e.trans h.blk⟩
theorem RowK.below {w' : World} {B : Nat} (h : RowK k t w g l) (hb : Below B w w') (hg : g < B) : RowK k t w' g l := h.other (hb.block g hg)
theorem RowK.apart {g' i : Nat} {v : Value} (h : RowK k t w g l) (hne : g ≠ g') : RowK k t (w.setCell ⟨g', i, none⟩ v) g l := h.other (Below.heap_setCell _ _ _ _ hne)
theorem RowK.stored {l' : List Nat} (h : RowK k t w g l) (hl : l'.length = 108) : RowK k t (w.setRow g (rowK k l')) g l' := ⟨hl, setRow_heap w g _ _ _ _ h.blk⟩
theorem RowK.storedApart {g' : Nat} {cs : Array Value} (h : RowK k t w g l) (hne : g ≠ g') : RowK k t (w.setRow g' cs) g l := h.other (setRow_other w g' g cs hne)
theorem RowK.new (w : World) (k : IntKind) (t : TypeId) (hl : l.length = 108) : RowK k t (w.alloc (.cells (rowK k l) t)) w.heap.size l := ⟨hl, heap_alloc_new w _⟩
theorem RowK.result (h : RowK k t w g l) (T : KT t) {fn : Func} {p : Tmp} (hf : fn.results = #[.cell p t]) (tmps : Array Value) (hp : tmps.getD p undef = .pointer (some ⟨g, 0, none⟩)) :
    (results fn tmps).run Tryz.prog w = .ok (.agg (rowK k l)) w := by
  obtain ⟨d, e, h1⟩ := T.und
  exact results_cell_row hf tmps w g _ _ _ _ hp h.blk h1 rfl (by rw [rowK_size, h.len]; exact T.size)
/-- The operations 'load', 'store' of a whole row. -/
theorem load_k {ops : Array Oper} {rest : List Oper} {o : Oper} {a : Act} {Q : Exit → Act → World → Prop} (T : KT t) (hgd : o.guard = none) (x : Operand) (ho : o.op = .load t x)
    (hx : a.eval x = .pointer (some ⟨g, 0, none⟩)) (h : RowK k t w g l) (j : wpList Tryz.prog ops Q rest (a.put o.dst (.agg (rowK k l))) w) : wpList Tryz.prog ops Q (o :: rest) a w := by
  obtain ⟨d, e, h1⟩ := T.und
  exact wpList_load_row hgd _ x ho g hx _ _ _ _ h.blk h1 rfl (by rw [rowK_size, h.len]; exact T.size) j
theorem store_k {ops : Array Oper} {rest : List Oper} {o : Oper} {a : Act} {Q : Exit → Act → World → Prop} {l' : List Nat} (T : KT t) (hgd : o.guard = none) (x y : Operand) (ho : o.op = .store t x y)
    (hx : a.eval x = .pointer (some ⟨g, 0, none⟩)) (hy : a.eval y = .agg (rowK k l')) (h : RowK k t w g l) (hl : l'.length = 108) (j : wpList Tryz.prog ops Q rest (a.put o.dst undef) (w.setRow g (rowK k l'))) : wpList Tryz.prog ops Q (o :: rest) a w :=
  wpList_plain hgd fun _ hK => wp_store_row _ x y ho g _ hx hy _ _ h.blk (by rw [rowK_size, hl]; exact T.size) (by rw [rowK_size, rowK_size, hl, h.len]) (rowK_one _ _) (hK _ _ j)
end
theorem Tryz.infoR32 : (Tryz.prog.info? 37).map (fun i => (i.zero, i.size)) = some (some (.agg (rowK .u32 Z108)), 108) := by kernel_rfl
theorem Tryz.infoR64 : (Tryz.prog.info? 41).map (fun i => (i.zero, i.size)) = some (some (.agg (rowK .u64 Z108)), 108) := by kernel_rfl
theorem zero_k {t : TypeId} {k : IntKind} (h : (Tryz.prog.info? t).map (fun i => (i.zero, i.size)) = some (some (.agg (rowK k Z108)), 108)) :
    (∀ w, (zeroValue t).run Tryz.prog w = .ok (.agg (rowK k Z108)) w) ∧ (Tryz.prog.info? t).map (·.size) = some 108 := by
  cases hq : Tryz.prog.info? t with
  | none => simp [hq] at h
  | some i =>
    simp [hq] at h
    exact ⟨fun w => by simp [zeroValue, typeInfo, hq, h.1], by simp [h.2]⟩
theorem kt32 : KT 37 := ⟨⟨_, _, Tryz.underlying37⟩, (zero_k Tryz.infoR32).2⟩
theorem kt64 : KT 41 := ⟨⟨_, _, Tryz.underlying41⟩, (zero_k Tryz.infoR64).2⟩
/-- A call's own two rows: its result's (still zero) and the one at work. -/
structure WorkK (k : IntKind) (t : TypeId) (w wr : World) (l : List Nat) : Prop where
  out : RowK k t wr w.heap.size Z108
  row : RowK k t wr (w.heap.size + 1) l
  b : Below w.heap.size w wr
theorem WorkK.start (k : IntKind) (t : TypeId) (w : World) {Z : Array Value} (hZ : rowK k Z108 = Z) : WorkK k t w ((w.alloc (.cells Z t)).alloc (.cells Z t)) Z108 := by
  subst hZ
  refine ⟨⟨Z108_len, heap_alloc2_old w _ _⟩, ⟨Z108_len, heap_alloc2_new w _ _⟩, ?_⟩
  exact ((Below.refl _ _).alloc (Nat.le_refl _) _).alloc (by simp) _
theorem WorkK.drewN {k : IntKind} {t : TypeId} {w wr : World} {l : List Nat} (h : WorkK k t w wr l) (n : Nat) : WorkK k t w (wr.drewN n) l := ⟨h.out.other rfl, h.row.other rfl, bdN h.b n⟩
theorem WorkK.set {k : IntKind} {t : TypeId} {w wr : World} {l : List Nat} (h : WorkK k t w wr l) (i y : Nat) : WorkK k t w (wr.setCell ⟨w.heap.size + 1, i, none⟩ (.int k (y : Int))) (l.set i y) :=
  ⟨h.out.apart (by omega), h.row.set y, h.b.setCell (p := ⟨w.heap.size + 1, i, none⟩) (by simp) _⟩

/-! The bytes laid into limbs. -/
theorem orU64b (k a c : Nat) (hc : c < 2 ^ k) (h : 2 ^ k * a + c < 4294967296) : bits .or .u64 (c : Int) (((2 ^ k * a : Nat) : Int)) = ((2 ^ k * a + c : Nat) : Int) := by
  show IntKind.u64.wrap ((BitVec.ofInt 64 (c : Int) ||| BitVec.ofInt 64 ((2 ^ k * a : Nat) : Int)).toNat : Nat) = _
  rw [BitVec.or_comm, BitVec.toNat_or, BitVec.toNat_ofInt, BitVec.toNat_ofInt]
  have e1 : (((2 ^ k * a : Nat) : Int) % ((2 ^ 64 : Nat) : Int)).toNat = 2 ^ k * a := by
    generalize 2 ^ k * a = y at *; omega
  have e2 : ((c : Int) % ((2 ^ 64 : Nat) : Int)).toNat = c := by
    generalize 2 ^ k * a = y at *; omega
  rw [e1, e2, ← Nat.two_pow_add_eq_or_of_lt hc]
  generalize 2 ^ k * a + c = y at *
  rw [IntKind.wrap_u64]; omega
/-- What the row holds behind i bytes. -/
structure InR (s : ByteArray) (i : Nat) (l : List Nat) : Prop where
  lim : Limbs l
  len : l.length = 108
  val : lV l = bN (s.data.toList.drop (s.size - i))
theorem InR.lt {s : ByteArray} {i : Nat} {l : List Nat} (h : InR s i l) (hi : i ≤ s.size) : lV l < 256 ^ i := by
  have := bN_lt (s.data.toList.drop (s.size - i))
  rw [List.length_drop, Array.length_toList, show s.data.size - (s.size - i) = i from by show s.size - (s.size - i) = i; omega] at this
  rw [h.val]; exact this
theorem getD_div24 {l : List Nat} (h : Limbs l) {k : Nat} (hv : lV l < 16777216 ^ (k + 1)) : l.getD k 0 = lV l / 16777216 ^ k := by
  rw [lV_dig h k, Nat.div_eq_of_lt hv]; omega
theorem InR.next {s : ByteArray} {i x : Nat} {l : List Nat} (h : InR s i l) (hi : i < s.size) (hs : s.size ≤ 160) (hx : l.getD (i / 3) 0 = x) :
    x < 2 ^ (8 * (i % 3)) ∧ 2 ^ (8 * (i % 3)) * (s[s.size - 1 - i]'(by omega)).toNat + x < 16777216 ∧
    InR s (i + 1) (l.set (i / 3) (2 ^ (8 * (i % 3)) * (s[s.size - 1 - i]'(by omega)).toNat + x)) := by
  obtain ⟨b, hb⟩ : ∃ b, (s[s.size - 1 - i]'(by omega)).toNat = b := ⟨_, rfl⟩
  have hb2 : b < 256 := by rw [← hb]; exact (s[s.size - 1 - i]'(by omega)).toNat_lt
  have hlt := h.lt (by omega)
  have e256 : (256 : Nat) ^ i = 16777216 ^ (i / 3) * 2 ^ (8 * (i % 3)) := by
    rw [show (256 : Nat) = 2 ^ 8 from rfl, show (16777216 : Nat) = 2 ^ 24 from rfl, ← Nat.pow_mul, ← Nat.pow_mul, ← Nat.pow_add]; congr 1; omega
  have hp : 0 < 16777216 ^ (i / 3) := Nat.pow_pos (by omega)
  have h8 : 2 ^ (8 * (i % 3)) * 256 ≤ 16777216 := by
    have : 2 ^ (8 * (i % 3)) * 2 ^ 8 ≤ 2 ^ 24 := by rw [← Nat.pow_add]; exact Nat.pow_le_pow_right (by omega) (by omega)
    exact this
  have hlt2 : lV l < 16777216 ^ (i / 3 + 1) := by
    rw [Nat.pow_succ]
    have : 16777216 ^ (i / 3) * 2 ^ (8 * (i % 3)) ≤ 16777216 ^ (i / 3) * 16777216 := Nat.mul_le_mul_left _ (by omega)
    omega
  have hxd : x = lV l / 16777216 ^ (i / 3) := by rw [← hx]; exact getD_div24 h.lim hlt2
  have hx1 : x < 2 ^ (8 * (i % 3)) := by
    rw [hxd]; exact (Nat.div_lt_iff_lt_mul hp).2 (by rw [Nat.mul_comm, ← e256]; exact hlt)
  have hx2 : 2 ^ (8 * (i % 3)) * b + x < 16777216 := by
    have : 2 ^ (8 * (i % 3)) * (b + 1) ≤ 2 ^ (8 * (i % 3)) * 256 := Nat.mul_le_mul_left _ hb2
    rw [Nat.mul_add] at this
    omega
  rw [hb]
  refine ⟨hx1, hx2, h.lim.set _ hx2, by rw [List.length_set]; exact h.len, ?_⟩
  have hs1 := lV_set l (i / 3) (2 ^ (8 * (i % 3)) * b + x) (by rw [h.len]; omega)
  rw [hx, Nat.mul_add, ← Nat.mul_assoc, ← e256] at hs1
  have hd : s.data.toList.drop (s.size - (i + 1)) = s[s.size - 1 - i]'(by omega) :: s.data.toList.drop (s.size - i) := by
    have hl : s.size - (i + 1) < s.data.toList.length := by rw [Array.length_toList]; show s.size - (i + 1) < s.size; omega
    rw [List.drop_eq_getElem_cons hl, show s.size - (i + 1) + 1 = s.size - i from by omega]
    congr 1
    show s.data.toList[s.size - (i + 1)]'hl = s.data[s.size - 1 - i]'(by show _ < s.size; omega)
    rw [Array.getElem_toList]; congr 1; omega
  rw [hd, bN_cons, hb, List.length_drop, Array.length_toList, show s.data.size - (s.size - i) = i from by show s.size - (s.size - i) = i; omega, ← h.val]
  rw [Nat.mul_comm b]
  omega
theorem InR.start (s : ByteArray) : InR s 0 Z108 := ⟨Z108_lim, Z108_len, by rw [Z108_val, List.drop_of_length_le (by rw [Array.length_toList]; exact Nat.le_refl _)]; rfl⟩
theorem InR.done {s : ByteArray} {l : List Nat} (h : InR s s.size l) : LRow l ((s.size + 2) / 3) ∧ lV l = gV s := by
  have hlt := h.lt (Nat.le_refl _)
  refine ⟨⟨h.lim, h.len, fun k hk => high_zero h.lim (m := (s.size + 2) / 3) ?_ hk⟩, by rw [h.val, show s.size - s.size = 0 from by omega]; rfl⟩
  refine Nat.lt_of_lt_of_le hlt ?_
  rw [show (16777216 : Nat) = 256 ^ 3 from rfl, ← Nat.pow_mul]
  exact Nat.pow_le_pow_right (by omega) (by omega)
/-- What a call hands back that makes a row. -/
def AggK (k : IntKind) (P : List Nat → Prop) (w : World) (e : Ending) (w' : World) : Prop :=
  ∃ l, e = .returned (.agg (rowK k l)) ∧ l.length = 108 ∧ P l ∧ Below w.heap.size w w'
def OfS (s : ByteArray) (l : List Nat) : Prop := LRow l ((s.size + 2) / 3) ∧ lV l = gV s

set_option maxRecDepth 8000 in
set_option maxHeartbeats 2000000 in
theorem shiftRowOf32_any (s : ByteArray) (w : World) (hs : s.size ≤ 160) :
    Calls Tryz.prog 23 #[.string s] w (AggK .u32 (OfS s) w) := by
  obtain ⟨Z, hZ⟩ : ∃ Z, rowK .u32 Z108 = Z := ⟨_, rfl⟩
  have hz := (zero_k Tryz.infoR32).1
  rw [hZ] at hz
  have HZ := Lib.hid hZ
  clear hZ
  go_enter Tryz.func23, Tryz.ntmps23
  go_wp2
  have HW := Lib.hid (WorkK.start .u32 37 w HZ.out)
  clear hz HZ
  go_loopw [7] (fun iv wr => ∃ (i : Nat) (l : List Nat), i ≤ s.size ∧ iv = .int .i64 i ∧ Hid (InR s i l) ∧ Hid (WorkK .u32 37 w wr l)) (fun iv _ => s.size - (intOf iv).toNat)
  case atStart => exact ⟨0, Z108, Nat.zero_le _, rfl, InR.start s, HW⟩
  case round =>
    clear HW
    obtain ⟨i, l, his, rfl, hI, hW⟩ := hrel
    by_cases hlt : i < s.size
    · have hlt' : (i : Int) < (s.size : Int) := by omega
      obtain ⟨x, hx⟩ : ∃ x, l.getD (i / 3) 0 = x := ⟨_, rfl⟩
      obtain ⟨h1, h2, h3⟩ := hI.out.next hlt hs hx
      obtain ⟨j, hj⟩ : ∃ j, s.size - 1 - i = j := ⟨_, rfl⟩
      have hjs : j < s.size := by omega
      simp only [hj] at h2 h3
      obtain ⟨q, hq⟩ : ∃ q, i / 3 = q := ⟨_, rfl⟩
      obtain ⟨t, ht⟩ : ∃ t, 8 * (i % 3) = t := ⟨_, rfl⟩
      obtain ⟨b, hb⟩ : ∃ b, s[j].toNat = b := ⟨_, rfl⟩
      obtain ⟨c1, f1⟩ := hW.out.row.cell (i := q) (by omega)
      rw [hq] at hx h3
      rw [ht] at h1 h2 h3
      rw [hb] at h2 h3
      rw [hx] at c1
      have hb2 : b < 256 := by rw [← hb]; exact s[j].toNat_lt
      have ho := orU32 t b x h1 (by omega)
      obtain ⟨V, hV⟩ : ∃ V, 2 ^ t * b + x = V := ⟨_, rfl⟩
      obtain ⟨Y, hY⟩ : ∃ Y, 2 ^ t * b = Y := ⟨_, rfl⟩
      have hY2 : (b : Int) * 2 ^ t = (Y : Int) := by rw [← hY]; simp [Int.mul_comm]
      rw [hV] at h3 h2
      rw [hV, hY] at ho
      have d1 : IntKind.i64.wrap ((i : Int) / 3) = (q : Int) := by rw [IntWalk.i64_in _ (by omega)]; omega
      have d2 : (0 : Int) ≤ (q : Int) := by omega
      have d3 : (q : Int) < 108 := by omega
      have d4 : IntKind.i64.wrap ((s.size : Int) - 1) = (s.size : Int) - 1 := IntWalk.i64_in _ (by omega)
      have d5 : IntKind.i64.wrap ((s.size : Int) - 1 - (i : Int)) = (j : Int) := by rw [IntWalk.i64_in _ (by omega)]; omega
      have d6 : (0 : Int) ≤ (j : Int) := by omega
      have d7 : (j : Int) < (s.size : Int) := by omega
      have d8 : IntKind.u32.wrap (b : Int) = (b : Int) := IntWalk.u32_in _ (by omega)
      have d9 : IntKind.i64.wrap (8 * (i : Int).tmod 3) = (t : Int) := by rw [Int.tmod_eq_emod_of_nonneg (by omega), IntWalk.i64_in _ (by omega)]; omega
      have e3 : (0 : Int) ≤ (t : Int) := by omega
      have e4 : (t : Int) ≤ 32 := by omega
      have e5 : IntKind.u32.wrap (Y : Int) = (Y : Int) := IntWalk.u32_in _ (by omega)
      have HN := Lib.hid h3
      clear hx hI hV hj ht h1 h2 hY hq h3
      go_wp2
      go_still_tail 18, (by kernel_rfl)
      change wpList _ _ _ _ _ wr.drew
      have HW2 := Lib.hid (hW.out.drewN 1)
      have HW3 := Lib.hid (HW2.out.set q V)
      change Hid (WorkK .u32 37 w (wr.drew.setCell _ _) (l.set q V)) at HW3
      change wr.drew.cell? _ = _ at c1
      change wr.drew.frozen? _ = _ at f1
      clear HW2 hW
      generalize wr.drew = wr at *
      go_wp2
      go_roundw
      case rel => exact ⟨i + 1, l.set q V, by omega, by go_num, HN, HW3⟩
      case measure => simp [intOf]; omega
    · obtain rfl : i = s.size := by omega
      have hlt' : ¬ (s.size : Int) < (s.size : Int) := by omega
      have HV := Lib.hid hI.out.done
      have hlen := Lib.hid hI.out.len
      have HB := Lib.hid (below_setRow hW.out.b (Nat.le_refl _) (rowK .u32 l))
      have HO := Lib.hid (hW.out.out.stored hlen.out)
      clear hI
      go_wp2_with (first | refine load_k kt32 rfl (.tmp 3) rfl rfl hW.out.row ?_ | refine store_k kt32 rfl (.tmp 2) (.tmp 29) rfl rfl rfl hW.out.out hlen.out ?_)
      exact bodyPost_ret (HO.out.result kt32 Tryz.results23 _ rfl) rfl ⟨l, rfl, hlen.out, HV.out, HB.out⟩
set_option maxRecDepth 8000 in
set_option maxHeartbeats 2000000 in
theorem shiftRowOf64_any (s : ByteArray) (w : World) (hs : s.size ≤ 160) :
    Calls Tryz.prog 40 #[.string s] w (AggK .u64 (OfS s) w) := by
  obtain ⟨Z, hZ⟩ : ∃ Z, rowK .u64 Z108 = Z := ⟨_, rfl⟩
  have hz := (zero_k Tryz.infoR64).1
  rw [hZ] at hz
  have HZ := Lib.hid hZ
  clear hZ
  go_enter Tryz.func40, Tryz.ntmps40
  go_wp2
  have HW := Lib.hid (WorkK.start .u64 41 w HZ.out)
  clear hz HZ
  go_loopw [7] (fun iv wr => ∃ (i : Nat) (l : List Nat), i ≤ s.size ∧ iv = .int .i64 i ∧ Hid (InR s i l) ∧ Hid (WorkK .u64 41 w wr l)) (fun iv _ => s.size - (intOf iv).toNat)
  case atStart => exact ⟨0, Z108, Nat.zero_le _, rfl, InR.start s, HW⟩
  case round =>
    clear HW
    obtain ⟨i, l, his, rfl, hI, hW⟩ := hrel
    by_cases hlt : i < s.size
    · have hlt' : (i : Int) < (s.size : Int) := by omega
      obtain ⟨x, hx⟩ : ∃ x, l.getD (i / 3) 0 = x := ⟨_, rfl⟩
      obtain ⟨h1, h2, h3⟩ := hI.out.next hlt hs hx
      obtain ⟨j, hj⟩ : ∃ j, s.size - 1 - i = j := ⟨_, rfl⟩
      have hjs : j < s.size := by omega
      simp only [hj] at h2 h3
      obtain ⟨q, hq⟩ : ∃ q, i / 3 = q := ⟨_, rfl⟩
      obtain ⟨t, ht⟩ : ∃ t, 8 * (i % 3) = t := ⟨_, rfl⟩
      obtain ⟨b, hb⟩ : ∃ b, s[j].toNat = b := ⟨_, rfl⟩
      obtain ⟨c1, f1⟩ := hW.out.row.cell (i := q) (by omega)
      rw [hq] at hx h3
      rw [ht] at h1 h2 h3
      rw [hb] at h2 h3
      rw [hx] at c1
      have hb2 : b < 256 := by rw [← hb]; exact s[j].toNat_lt
      have ho := orU64b t b x h1 (by omega)
      obtain ⟨V, hV⟩ : ∃ V, 2 ^ t * b + x = V := ⟨_, rfl⟩
      obtain ⟨Y, hY⟩ : ∃ Y, 2 ^ t * b = Y := ⟨_, rfl⟩
      have hY2 : (b : Int) * 2 ^ t = (Y : Int) := by rw [← hY]; simp [Int.mul_comm]
      rw [hV] at h3 h2
      rw [hV, hY] at ho
      have d1 : IntKind.i64.wrap ((i : Int) / 3) = (q : Int) := by rw [IntWalk.i64_in _ (by omega)]; omega
      have d2 : (0 : Int) ≤ (q : Int) := by omega
      have d3 : (q : Int) < 108 := by omega
      have d4 : IntKind.i64.wrap ((s.size : Int) - 1) = (s.size : Int) - 1 := IntWalk.i64_in _ (by omega)
      have d5 : IntKind.i64.wrap ((s.size : Int) - 1 - (i : Int)) = (j : Int) := by rw [IntWalk.i64_in _ (by omega)]; omega
      have d6 : (0 : Int) ≤ (j : Int) := by omega
      have d7 : (j : Int) < (s.size : Int) := by omega
      have d8 : IntKind.u64.wrap (b : Int) = (b : Int) := IntWalk.u64_in _ (by omega)
      have d9 : IntKind.i64.wrap (8 * (i : Int).tmod 3) = (t : Int) := by rw [Int.tmod_eq_emod_of_nonneg (by omega), IntWalk.i64_in _ (by omega)]; omega
      have e3 : (0 : Int) ≤ (t : Int) := by omega
      have e4 : (t : Int) ≤ 64 := by omega
      have e5 : IntKind.u64.wrap (Y : Int) = (Y : Int) := IntWalk.u64_in _ (by omega)
      have HN := Lib.hid h3
      clear hx hI hV hj ht h1 h2 hY hq h3
      go_wp2
      go_still_tail 18, (by kernel_rfl)
      change wpList _ _ _ _ _ wr.drew
      have HW2 := Lib.hid (hW.out.drewN 1)
      have HW3 := Lib.hid (HW2.out.set q V)
      change Hid (WorkK .u64 41 w (wr.drew.setCell _ _) (l.set q V)) at HW3
      change wr.drew.cell? _ = _ at c1
      change wr.drew.frozen? _ = _ at f1
      clear HW2 hW
      generalize wr.drew = wr at *
      go_wp2
      go_roundw
      case rel => exact ⟨i + 1, l.set q V, by omega, by go_num, HN, HW3⟩
      case measure => simp [intOf]; omega
    · obtain rfl : i = s.size := by omega
      have hlt' : ¬ (s.size : Int) < (s.size : Int) := by omega
      have HV := Lib.hid hI.out.done
      have hlen := Lib.hid hI.out.len
      have HB := Lib.hid (below_setRow hW.out.b (Nat.le_refl _) (rowK .u64 l))
      have HO := Lib.hid (hW.out.out.stored hlen.out)
      clear hI
      go_wp2_with (first | refine load_k kt64 rfl (.tmp 3) rfl rfl hW.out.row ?_ | refine store_k kt64 rfl (.tmp 2) (.tmp 29) rfl rfl rfl hW.out.out hlen.out ?_)
      exact bodyPost_ret (HO.out.result kt64 Tryz.results40 _ rfl) rfl ⟨l, rfl, hlen.out, HV.out, HB.out⟩
end Go.Proofs.YtdbjjnbmbeabeaaGreat
