/-
  The contract of impl.rowOf.
-/
import Derived.Test.YtkpcocdflcpnoaaIRow
import Derived.Test.YtkpcocdflcpnoaaNBits
namespace Go.Proofs.Ytkpcocdflcpnoaa
open Go.RowKit

theorem orU32 (k a c : Nat) (hc : c < 2 ^ k) (h : 2 ^ k * a + c < 4294967296) : bits .or .u32 (c : Int) (((2 ^ k * a : Nat) : Int)) = ((2 ^ k * a + c : Nat) : Int) := by
  show IntKind.u32.wrap ((BitVec.ofInt 32 (c : Int) ||| BitVec.ofInt 32 ((2 ^ k * a : Nat) : Int)).toNat : Nat) = _
  rw [BitVec.or_comm, BitVec.toNat_or, BitVec.toNat_ofInt, BitVec.toNat_ofInt]
  have e1 : (((2 ^ k * a : Nat) : Int) % ((2 ^ 32 : Nat) : Int)).toNat = 2 ^ k * a := by
    generalize 2 ^ k * a = y at *; omega
  have e2 : ((c : Int) % ((2 ^ 32 : Nat) : Int)).toNat = c := by
    generalize 2 ^ k * a = y at *; omega
  rw [e1, e2, ← Nat.two_pow_add_eq_or_of_lt hc]
  generalize 2 ^ k * a + c = y at *
  rw [IntKind.wrap_u32]; omega
theorem getD_div {l : List Nat} (h : W.Limbs l) {k : Nat} (hv : W.lV l < 4294967296 ^ (k + 1)) : l.getD k 0 = W.lV l / 4294967296 ^ k := by
  rw [W.lV_dig h k, Nat.div_eq_of_lt hv]; omega
/-- What the row holds behind i bytes. -/
structure InRow (s : ByteArray) (i : Nat) (l : List Nat) : Prop where
  lim : W.Limbs l
  len : l.length = 81
  val : W.lV l = bN (s.data.toList.drop (s.size - i))
theorem InRow.lt {s : ByteArray} {i : Nat} {l : List Nat} (h : InRow s i l) (hi : i ≤ s.size) : W.lV l < 256 ^ i := by
  have := bN_lt (s.data.toList.drop (s.size - i))
  rw [List.length_drop, Array.length_toList, show s.data.size - (s.size - i) = i from by show s.size - (s.size - i) = i; omega] at this
  rw [h.val]; exact this
theorem InRow.next {s : ByteArray} {i x : Nat} {l : List Nat} (h : InRow s i l) (hi : i < s.size) (hs : s.size ≤ 160) (hx : l.getD (i / 4) 0 = x) :
    x < 2 ^ (8 * (i % 4)) ∧ 2 ^ (8 * (i % 4)) * (s[s.size - 1 - i]'(by omega)).toNat + x < 4294967296 ∧
    InRow s (i + 1) (l.set (i / 4) (2 ^ (8 * (i % 4)) * (s[s.size - 1 - i]'(by omega)).toNat + x)) := by
  obtain ⟨b, hb⟩ : ∃ b, (s[s.size - 1 - i]'(by omega)).toNat = b := ⟨_, rfl⟩
  have hb2 : b < 256 := by rw [← hb]; exact (s[s.size - 1 - i]'(by omega)).toNat_lt
  have hlt := h.lt (by omega)
  have e256 : (256 : Nat) ^ i = 4294967296 ^ (i / 4) * 2 ^ (8 * (i % 4)) := by
    rw [show (256 : Nat) = 2 ^ 8 from rfl, show (4294967296 : Nat) = 2 ^ 32 from rfl, ← Nat.pow_mul, ← Nat.pow_mul, ← Nat.pow_add]; congr 1; omega
  have hp : 0 < 4294967296 ^ (i / 4) := Nat.pow_pos (by omega)
  have h8 : 2 ^ (8 * (i % 4)) * 256 ≤ 4294967296 := by
    have : 2 ^ (8 * (i % 4)) * 2 ^ 8 ≤ 2 ^ 32 := by rw [← Nat.pow_add]; exact Nat.pow_le_pow_right (by omega) (by omega)
    exact this
  have hlt2 : W.lV l < 4294967296 ^ (i / 4 + 1) := by
    rw [Nat.pow_succ]
    have : 4294967296 ^ (i / 4) * 2 ^ (8 * (i % 4)) ≤ 4294967296 ^ (i / 4) * 4294967296 := Nat.mul_le_mul_left _ (by omega)
    omega
  have hxd : x = W.lV l / 4294967296 ^ (i / 4) := by rw [← hx]; exact getD_div h.lim hlt2
  have hx1 : x < 2 ^ (8 * (i % 4)) := by
    rw [hxd]; exact (Nat.div_lt_iff_lt_mul hp).2 (by rw [Nat.mul_comm, ← e256]; exact hlt)
  have hx2 : 2 ^ (8 * (i % 4)) * b + x < 4294967296 := by
    have : 2 ^ (8 * (i % 4)) * (b + 1) ≤ 2 ^ (8 * (i % 4)) * 256 := Nat.mul_le_mul_left _ hb2
    rw [Nat.mul_add] at this
    omega
  rw [hb]
  refine ⟨hx1, hx2, h.lim.set _ hx2, by rw [List.length_set]; exact h.len, ?_⟩
  have hs1 := W.lV_set l (i / 4) (2 ^ (8 * (i % 4)) * b + x) (by rw [h.len]; omega)
  rw [hx, Nat.mul_add, ← Nat.mul_assoc, ← e256] at hs1
  have hd : s.data.toList.drop (s.size - (i + 1)) = s[s.size - 1 - i]'(by omega) :: s.data.toList.drop (s.size - i) := by
    have hl : s.size - (i + 1) < s.data.toList.length := by rw [Array.length_toList]; show s.size - (i + 1) < s.size; omega
    rw [List.drop_eq_getElem_cons hl, show s.size - (i + 1) + 1 = s.size - i from by omega]
    congr 1
    show s.data.toList[s.size - (i + 1)]'hl = s.data[s.size - 1 - i]'(by show _ < s.size; omega)
    rw [Array.getElem_toList]; congr 1; omega
  rw [hd, bN_cons, hb, List.length_drop, Array.length_toList, show s.data.size - (s.size - i) = i from by show s.size - (s.size - i) = i; omega, ← h.val]
  rw [Nat.mul_comm b]
  omega
theorem InRow.start (s : ByteArray) : InRow s 0 Z81 := ⟨Z81_lim, Z81_len, by rw [Z81_val, List.drop_of_length_le (by rw [Array.length_toList]; exact Nat.le_refl _)]; rfl⟩
/-- What a call hands back that makes a row. -/
def AggPost (P : List Nat → Nat → Prop) (w : World) (e : Ending) (w' : World) : Prop :=
  ∃ l c, e = .returned (.agg (rowC l c)) ∧ l.length = 81 ∧ RV l c ∧ P l c ∧ Below w.heap.size w w'
theorem zero_row : (∀ w, (zeroValue 39).run Try.prog w = .ok (.agg (rowC Z81 0)) w) ∧ (Try.prog.info? 39).map (·.size) = some 82 := by
  have h := Try.infoRow
  cases hq : Try.prog.info? 39 with
  | none => simp [hq] at h
  | some i =>
    simp [hq] at h
    exact ⟨fun w => by simp [zeroValue, typeInfo, hq, h.1], by simp [h.2]⟩

/-- A call's own two rows: its result's (still zero) and the one at work. -/
structure Work (w wr : World) (l : List Nat) (c : Nat) : Prop where
  out : RowI wr w.heap.size Z81 0
  row : RowI wr (w.heap.size + 1) l c
  b : Below w.heap.size w wr
theorem Work.start (w : World) {Z : Array Value} (hZ : rowC Z81 0 = Z) : Work w ((w.alloc (.cells Z 39)).alloc (.cells Z 39)) Z81 0 := by
  subst hZ
  refine ⟨⟨Z81_len, heap_alloc2_old w _ _⟩, ⟨Z81_len, heap_alloc2_new w _ _⟩, ?_⟩
  exact ((Below.refl _ _).alloc (Nat.le_refl _) _).alloc (by simp) _
theorem bdN {B : Nat} {w x : World} (h : Below B w x) (k : Nat) : Below B w (x.drewN k) := ⟨h.os, h.tape, h.output, h.size, h.block⟩
theorem Work.drewN {w wr : World} {l : List Nat} {c : Nat} (h : Work w wr l c) (k : Nat) : Work w (wr.drewN k) l c := ⟨h.out.other rfl, h.row.other rfl, bdN h.b k⟩
theorem Work.set {w wr : World} {l : List Nat} {c k : Nat} (h : Work w wr l c) (y : Nat) (hk : k < 81) : Work w (wr.setCell ⟨w.heap.size + 1, k, none⟩ (.int .u32 (y : Int))) (l.set k y) c :=
  ⟨h.out.apart (by omega), h.row.set y hk, h.b.setCell (p := ⟨w.heap.size + 1, k, none⟩) (by simp) _⟩
theorem Work.setC {w wr : World} {l : List Nat} {c : Nat} (h : Work w wr l c) (y : Nat) : Work w (wr.setCell ⟨w.heap.size + 1, 81, none⟩ (.int .i64 (y : Int))) l y :=
  ⟨h.out.apart (by omega), h.row.setC y, h.b.setCell (p := ⟨w.heap.size + 1, 81, none⟩) (by simp) _⟩
theorem rowC_size82 {l : List Nat} {c : Nat} (h : l.length = 81) : (rowC l c).size = 82 := by rw [rowC_size, h]
theorem RowI.load {w : World} {g c : Nat} {l : List Nat} (h : RowI w g l c) : (Instr.loadAt 39 (.pointer (some ⟨g, 0, none⟩))).run Try.prog w = .ok (.agg (rowC l c)) w := by
  simp only [Instr.loadAt, Instr.sureAddr, Sem.run_bind, Sem.run_pure, Result.andThen_ok]
  exact run_loadVar_row w g _ _ _ _ _ h.blk Try.underlying39 rfl (by rw [rowC_size82 h.len]; exact zero_row.2)
theorem RowI.store {w : World} {g c c' : Nat} {l l' : List Nat} (h : RowI w g l c) (hl : l'.length = 81) : (Instr.storeAt 39 (.pointer (some ⟨g, 0, none⟩)) (.agg (rowC l' c'))).run Try.prog w = .ok () (w.setRow g (rowC l' c')) := by
  simp only [Instr.storeAt, Instr.sureAddr, Sem.run_bind, Sem.run_pure, Result.andThen_ok]
  exact run_storeVar_row w g _ _ _ _ h.blk (by rw [rowC_size82 hl]; exact zero_row.2) (by rw [rowC_size82 hl, rowC_size82 h.len]) (rowC_one _ _)
theorem RowI.stored {w : World} {g c c' : Nat} {l l' : List Nat} (h : RowI w g l c) (hl : l'.length = 81) : RowI (w.setRow g (rowC l' c')) g l' c' := ⟨hl, setRow_heap w g _ _ _ _ h.blk⟩
theorem RowI.storedApart {w : World} {g g' c : Nat} {l : List Nat} {cs : Array Value} (h : RowI w g l c) (hne : g ≠ g') : RowI (w.setRow g' cs) g l c := h.other (setRow_other w g' g cs hne)
theorem below_setRow {B : Nat} {w wr : World} (h : Below B w wr) {g : Nat} (hg : B ≤ g) (cs : Array Value) : Below B w (wr.setRow g cs) :=
  ⟨h.os, h.tape, h.output, by rw [size_setRow]; exact h.size, fun i hi => (setRow_other wr g i cs (by omega)).trans (h.block i hi)⟩
theorem RowI.result {w : World} {g c : Nat} {l : List Nat} (h : RowI w g l c) {fn : Func} {p : Tmp} (hf : fn.results = #[.cell p 39]) (tmps : Array Value) (hp : tmps.getD p undef = .pointer (some ⟨g, 0, none⟩)) :
    (results fn tmps).run Try.prog w = .ok (.agg (rowC l c)) w :=
  results_cell_row hf tmps w g _ _ _ _ hp h.blk Try.underlying39 rfl (by rw [rowC_size82 h.len]; exact zero_row.2)
/-- The operations 'load', 'store' of a whole row. -/
theorem load_at {ops : Array Oper} {rest : List Oper} {o : Oper} {a : Act} {w : World} {Q : Exit → Act → World → Prop} (hgd : o.guard = none) (x : Operand) (ho : o.op = .load 39 x) (g : Nat) (l : List Nat) (c : Nat)
    (hx : a.eval x = .pointer (some ⟨g, 0, none⟩)) (h : RowI w g l c) (k : wpList Try.prog ops Q rest (a.put o.dst (.agg (rowC l c))) w) : wpList Try.prog ops Q (o :: rest) a w :=
  wpList_load_row hgd _ x ho g hx _ _ _ _ h.blk Try.underlying39 rfl (by rw [rowC_size82 h.len]; exact zero_row.2) k
theorem store_at {ops : Array Oper} {rest : List Oper} {o : Oper} {a : Act} {w : World} {Q : Exit → Act → World → Prop} (hgd : o.guard = none) (x y : Operand) (ho : o.op = .store 39 x y) (g : Nat) (l l' : List Nat) (c c' : Nat)
    (hx : a.eval x = .pointer (some ⟨g, 0, none⟩)) (hy : a.eval y = .agg (rowC l' c')) (h : RowI w g l c) (hl : l'.length = 81) (k : wpList Try.prog ops Q rest (a.put o.dst undef) (w.setRow g (rowC l' c'))) : wpList Try.prog ops Q (o :: rest) a w :=
  wpList_plain hgd fun _ hK => wp_store_row _ x y ho g _ hx hy _ _ h.blk (by rw [rowC_size82 hl]; exact zero_row.2) (by rw [rowC_size82 hl, rowC_size82 h.len]) (rowC_one _ _) (hK _ _ k)
/-- The count told, a row is right. -/
theorem CountRel.right {l : List Nat} {e c : Nat} (h : CountRel l e c) (lim : W.Limbs l) (hz : ∀ k, e ≤ k → l.getD k 0 = 0) : RV l c :=
  ⟨lim, fun k hk => by rcases Nat.lt_or_ge k e with h1 | h1; exact h.zero k hk h1; exact hz k h1, h.top⟩

set_option maxRecDepth 8000 in
set_option maxHeartbeats 1000000 in
theorem rowOf_any (s : ByteArray) (w : World) (hs : s.size ≤ 160) :
    Calls Try.prog 31 #[.string s] w (AggPost (fun l _ => W.lV l = gV s) w) := by
  obtain ⟨Z, hZ⟩ : ∃ Z, rowC Z81 0 = Z := ⟨_, rfl⟩
  have hz := zero_row.1
  rw [hZ] at hz
  have HZ := Lib.hid hZ
  clear hZ
  go_enter Try.func31, Try.ntmps31
  go_wp2
  have HW := Lib.hid (Work.start w HZ.out)
  clear hz HZ
  go_loopw [7] (fun iv wr => ∃ (i : Nat) (l : List Nat), i ≤ s.size ∧ iv = .int .i64 i ∧ Hid (InRow s i l) ∧ Hid (Work w wr l 0)) (fun iv _ => s.size - (intOf iv).toNat)
  case atStart => exact ⟨0, Z81, Nat.zero_le _, rfl, InRow.start s, HW⟩
  case round =>
    clear HW
    obtain ⟨i, l, his, rfl, hI, hW⟩ := hrel
    by_cases hlt : i < s.size
    · have hlt' : (i : Int) < (s.size : Int) := by omega
      obtain ⟨x, hx⟩ : ∃ x, l.getD (i / 4) 0 = x := ⟨_, rfl⟩
      obtain ⟨h1, h2, h3⟩ := hI.out.next hlt hs hx
      obtain ⟨j, hj⟩ : ∃ j, s.size - 1 - i = j := ⟨_, rfl⟩
      have hjs : j < s.size := by omega
      simp only [hj] at h2 h3
      obtain ⟨q, hq⟩ : ∃ q, i / 4 = q := ⟨_, rfl⟩
      obtain ⟨t, ht⟩ : ∃ t, 8 * (i % 4) = t := ⟨_, rfl⟩
      obtain ⟨b, hb⟩ : ∃ b, s[j].toNat = b := ⟨_, rfl⟩
      obtain ⟨c1, f1⟩ := hW.out.row.cell (k := q) (by omega)
      rw [hq] at hx h3
      rw [ht] at h1 h2 h3
      rw [hb] at h2 h3
      rw [hx] at c1
      have hb2 : b < 256 := by rw [← hb]; exact s[j].toNat_lt
      have ho := orU32 t b x h1 h2
      obtain ⟨V, hV⟩ : ∃ V, 2 ^ t * b + x = V := ⟨_, rfl⟩
      obtain ⟨Y, hY⟩ : ∃ Y, 2 ^ t * b = Y := ⟨_, rfl⟩
      have hY2 : (b : Int) * 2 ^ t = (Y : Int) := by rw [← hY]; simp [Int.mul_comm]
      rw [hV] at h3 h2
      rw [hV, hY] at ho
      have d1 : IntKind.i64.wrap ((i : Int) / 4) = (q : Int) := by rw [IntWalk.i64_in _ (by omega)]; omega
      have d2 : (0 : Int) ≤ (q : Int) := by omega
      have d3 : (q : Int) < 81 := by omega
      have d4 : IntKind.i64.wrap ((s.size : Int) - 1) = (s.size : Int) - 1 := IntWalk.i64_in _ (by omega)
      have d5 : IntKind.i64.wrap ((s.size : Int) - 1 - (i : Int)) = (j : Int) := by rw [IntWalk.i64_in _ (by omega)]; omega
      have d6 : (0 : Int) ≤ (j : Int) := by omega
      have d7 : (j : Int) < (s.size : Int) := by omega
      have d8 : IntKind.u32.wrap (b : Int) = (b : Int) := IntWalk.u32_in _ (by omega)
      have d9 : IntKind.i64.wrap (8 * (i : Int).tmod 4) = (t : Int) := by rw [Int.tmod_eq_emod_of_nonneg (by omega), IntWalk.i64_in _ (by omega)]; omega
      have e3 : (0 : Int) ≤ (t : Int) := by omega
      have e4 : (t : Int) ≤ 32 := by omega
      have e5 : IntKind.u32.wrap (Y : Int) = (Y : Int) := IntWalk.u32_in _ (by omega)
      have HN := Lib.hid h3
      clear hx hI hV hj ht h1 h2 hY hq h3
      go_wp2
      go_still_tail 20, (by kernel_rfl)
      change wpList _ _ _ _ _ wr.drew
      have HW2 := Lib.hid (hW.out.drewN 1)
      have HW3 := Lib.hid (HW2.out.set (k := q) V (by omega))
      change Hid (Work w (wr.drew.setCell _ _) (l.set q V) 0) at HW3
      change wr.drew.cell? _ = _ at c1
      change wr.drew.frozen? _ = _ at f1
      clear HW2 hW
      generalize wr.drew = wr at *
      go_wp2
      go_roundw
      case rel => exact ⟨i + 1, l.set q V, by omega, by go_num, HN, HW3⟩
      case measure => simp [intOf]; omega
    · obtain rfl : i = s.size := by omega
      have hlt' : ¬ (s.size : Int) < (s.size : Int) := by omega
      obtain ⟨E, hE⟩ : ∃ E, s.size / 4 + 1 = E := ⟨_, rfl⟩
      have HC := Lib.hid (countBelow_any (w.heap.size + 1) 0 E l wr hW.out.row (by omega))
      have hval : Hid (W.lV l = gV s) := by
        show W.lV l = gV s
        rw [hI.out.val, show s.size - s.size = 0 from by omega]; rfl
      have q1 : (s.size : Int) / 4 + 1 = (E : Int) := by omega
      have hR := fun c (h : CountRel l E c) => h.right hI.out.lim (fun k hk => W.high_zero hI.out.lim (m := E) (by
        have := hI.out.lt (Nat.le_refl _)
        have e : 256 ^ s.size ≤ 256 ^ (4 * E) := Nat.pow_le_pow_right (by omega) (by omega)
        rw [Nat.pow_mul] at e
        exact Nat.lt_of_lt_of_le this e) hk)
      have HR := Lib.hid hR
      have hlen := Lib.hid hI.out.len
      clear hI hR hE
      go_wp2_with fail
      refine HC.out.mono ?_
      rintro e w1 ⟨c, hc, rfl, rfl⟩
      have HW2 := hW.out.setC c
      have HV := Lib.hid (HR.out c hc)
      clear HC hW HR hc
      generalize wr.setCell ⟨w.heap.size + 1, 81, none⟩ (.int .i64 (c : Int)) = w2 at *
      have HB := Lib.hid (below_setRow HW2.b (Nat.le_refl _) (rowC l c))
      have HO := Lib.hid (HW2.out.stored (c' := c) hlen.out)
      have H2 := Lib.hid HW2
      clear HW2
      go_wp2_with (first | refine load_at rfl (.tmp 3) rfl (w.heap.size + 1) l c rfl H2.out.row ?_ | refine store_at rfl (.tmp 2) (.tmp 36) rfl w.heap.size Z81 l 0 c rfl rfl H2.out.out hlen.out ?_)
      exact bodyPost_ret (HO.out.result Try.results31 _ rfl) rfl ⟨l, c, rfl, hlen.out, HV.out, hval.out, HB.out⟩
end Go.Proofs.Ytkpcocdflcpnoaa
