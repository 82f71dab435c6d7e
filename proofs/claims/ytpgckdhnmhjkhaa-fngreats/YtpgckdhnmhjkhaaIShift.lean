/-
  The contracts of impl's shiftedUp and shiftedDown.
-/
import Derived.Test.YtpgckdhnmhjkhaaIMul
namespace Go.Proofs.Ytpgckdhnmhjkhaa
open Go.RowKit

theorem pow_split {s : Nat} (h : s ≤ 32) : (4294967296 : Nat) = 2 ^ (32 - s) * 2 ^ s := by
  rw [← Nat.pow_add, show 32 - s + s = 32 from by omega]
theorem orU32' (k a c : Nat) (hc : c < 2 ^ k) (h : 2 ^ k * a + c < 4294967296) : bits .or .u32 (((2 ^ k * a : Nat) : Int)) (c : Int) = ((2 ^ k * a + c : Nat) : Int) := by
  rw [← orU32 k a c hc h]
  show IntKind.u32.wrap ((BitVec.ofInt 32 ((2 ^ k * a : Nat) : Int) ||| BitVec.ofInt 32 (c : Int)).toNat : Nat) = IntKind.u32.wrap ((BitVec.ofInt 32 (c : Int) ||| BitVec.ofInt 32 ((2 ^ k * a : Nat) : Int)).toNat : Nat)
  rw [BitVec.or_comm]
/-- One limb shifted up. -/
theorem up_step {x s c : Nat} (hx : x < 4294967296) (hs : s ≤ 31) (hc : c < 2 ^ s) : ∃ X lo hi o : Nat, (x : Int) * 2 ^ s = (X : Int) ∧ IntKind.u32.wrap (X : Int) = (lo : Int) ∧ (X : Int) % 4294967296 = (lo : Int) ∧ (x : Int) / 2 ^ (32 - s) = (hi : Int) ∧
    bits .or .u32 (lo : Int) (c : Int) = (o : Int) ∧ o < 4294967296 ∧ hi < 2 ^ s ∧ o + 4294967296 * hi = 2 ^ s * x + c := by
  have hp : 0 < 2 ^ s := Nat.pow_pos (by omega)
  have hq : 0 < 2 ^ (32 - s) := Nat.pow_pos (by omega)
  have e := pow_split (s := s) (by omega)
  have hm := Nat.mod_lt x hq
  have hd := Nat.div_add_mod x (2 ^ (32 - s))
  have hhi : x / 2 ^ (32 - s) < 2 ^ s := (Nat.div_lt_iff_lt_mul hq).2 (by rw [Nat.mul_comm, ← e]; exact hx)
  have hlo : 2 ^ s * x % 4294967296 = 2 ^ s * (x % 2 ^ (32 - s)) := by
    conv => lhs; rw [e, Nat.mul_comm (2 ^ (32 - s))]
    rw [Nat.mul_mod_mul_left]
  have hlt : 2 ^ s * (x % 2 ^ (32 - s)) + c < 4294967296 := by
    have : 2 ^ s * (x % 2 ^ (32 - s) + 1) ≤ 2 ^ s * 2 ^ (32 - s) := Nat.mul_le_mul_left _ hm
    rw [Nat.mul_add, Nat.mul_comm (2 ^ s) (2 ^ (32 - s)), ← e] at this
    omega
  refine ⟨2 ^ s * x, 2 ^ s * (x % 2 ^ (32 - s)), x / 2 ^ (32 - s), 2 ^ s * (x % 2 ^ (32 - s)) + c, by simp [Int.mul_comm], ?_, ?_, by simp, orU32' s _ c hc hlt, hlt, hhi, ?_⟩
  · rw [IntKind.wrap_u32, ← hlo]; omega
  · rw [← hlo]; omega
  · have : 4294967296 * (x / 2 ^ (32 - s)) = 2 ^ s * (2 ^ (32 - s) * (x / 2 ^ (32 - s))) := by rw [← Nat.mul_assoc, Nat.mul_comm (2 ^ s), ← e]
    rw [this]
    have h2 : 2 ^ s * (x % 2 ^ (32 - s)) + 2 ^ s * (2 ^ (32 - s) * (x / 2 ^ (32 - s))) = 2 ^ s * x := by rw [← Nat.mul_add]; congr 1; omega
    omega
structure UpW (lx : List Nat) (s i c : Nat) (l : List Nat) : Prop where
  lim : W.Limbs l
  len : l.length = 81
  val : W.lV l + 4294967296 ^ i * c = 2 ^ s * W.lV (lx.take i)
  zero : ∀ k, i ≤ k → l.getD k 0 = 0
  cs : c < 2 ^ s
theorem UpW.start (lx : List Nat) (s : Nat) : UpW lx s 0 0 Z81 := ⟨Z81_lim, Z81_len, by rw [Z81_val]; simp [W.lV], fun k _ => Z81_getD k, Nat.pow_pos (by omega)⟩
theorem UpW.next {lx l : List Nat} {s i c o hi : Nat} (h : UpW lx s i c l) (hi81 : i < 81) (ho : o < 4294967296) (hh : hi < 2 ^ s) (hn : o + 4294967296 * hi = 2 ^ s * lx.getD i 0 + c) : UpW lx s (i + 1) hi (l.set i o) := by
  have hs := W.lV_set l i o (by rw [h.len]; exact hi81)
  refine ⟨h.lim.set _ ho, by rw [List.length_set]; exact h.len, ?_, fun k hk => by rw [W.getD_set_ne _ (by omega)]; exact h.zero k (by omega), hh⟩
  rw [h.zero i (Nat.le_refl _), Nat.mul_zero, Nat.add_zero] at hs
  have hv := h.val
  rw [W.lV_take_succ, hs, Nat.pow_succ, Nat.mul_assoc, Nat.mul_add]
  have e : 4294967296 ^ i * o + 4294967296 ^ i * (4294967296 * hi) = 4294967296 ^ i * (2 ^ s * lx.getD i 0) + 4294967296 ^ i * c := by
    rw [← Nat.mul_add, ← Nat.mul_add, hn]
  rw [Nat.mul_left_comm (2 ^ s)]
  omega
theorem UpW.done {lx l : List Nat} {s m c : Nat} (h : UpW lx s m c l) (hm : m < 81) (hs31 : s ≤ 31) (zx : ∀ k, m ≤ k → lx.getD k 0 = 0) :
    W.lV (l.set m c) = 2 ^ s * W.lV lx ∧ W.Limbs (l.set m c) ∧ (l.set m c).length = 81 ∧ ∀ k, m + 1 ≤ k → (l.set m c).getD k 0 = 0 := by
  have hs := W.lV_set l m c (by rw [h.len]; exact hm)
  rw [h.zero m (Nat.le_refl _), Nat.mul_zero, Nat.add_zero] at hs
  have hc := h.cs
  have : 2 ^ s ≤ 2 ^ 31 := Nat.pow_le_pow_right (by omega) hs31
  refine ⟨?_, h.lim.set _ (by omega), by rw [List.length_set]; exact h.len, fun k hk => by rw [W.getD_set_ne _ (by omega)]; exact h.zero k (by omega)⟩
  rw [hs, h.val, W.lV_take_all zx]

set_option maxRecDepth 8000 in
set_option maxHeartbeats 2000000 in
theorem shiftedUp_any (gx cx s : Nat) (lx : List Nat) (w : World) (hx : RowI w gx lx cx) (vx : RV lx cx) (hcx : cx ≤ 79) (hs : s ≤ 31) :
    Calls Try.prog 70 #[.pointer (some ⟨gx, 0, none⟩), .int .i64 (s : Int)] w (AggPost (fun l c => W.lV l = 2 ^ s * W.lV lx ∧ c ≤ cx + 1) w) := by
  obtain ⟨Z, hZ⟩ : ∃ Z, rowC Z81 0 = Z := ⟨_, rfl⟩
  have hz := zero_row.1
  rw [hZ] at hz
  have HZ := Lib.hid hZ
  have HX := Lib.hid hx
  have HVX := Lib.hid vx
  have ltx := hx.lt
  have HW := Work.start w HZ.out
  obtain ⟨x1, x2⟩ := (HX.out.below HW.b ltx).cnt
  have HW1 := Lib.hid HW
  have n1 : ¬ gx = w.heap.size + 1 := by omega
  clear hZ hx vx HW
  go_enter Try.func70, Try.ntmps70
  go_wp2
  clear x1 x2 hz
  go_loopw [6, 12] (fun cv iv wr => ∃ (i c : Nat) (l : List Nat), i ≤ cx ∧ iv = .int .i64 i ∧ cv = .int .u32 c ∧ Hid (UpW lx s i c l) ∧ Hid (Work w wr l 0)) (fun _ iv _ => cx - (intOf iv).toNat)
  case atStart => exact ⟨0, 0, Z81, Nat.zero_le _, rfl, rfl, UpW.start lx s, HW1⟩
  case round =>
    clear HW1
    obtain ⟨i, c, l, hicx, rfl, rfl, hI, hW⟩ := hrel
    by_cases hlt : i < cx
    · have hlt' : (i : Int) < (cx : Int) := by omega
      obtain ⟨x1, _⟩ := (HX.out.below hW.out.b ltx).cell (k := i) (by omega)
      obtain ⟨z1, f1⟩ := hW.out.row.cell (k := i) (by omega)
      generalize l.getD i 0 = z at *
      have bx := W.getD_lt HVX.out.lim i
      obtain ⟨x, hx⟩ : ∃ x, lx.getD i 0 = x := ⟨_, rfl⟩
      rw [hx] at x1 bx
      obtain ⟨X, lo, hi, o, e1, e2, e3, e4, e5, e6, e7, e8⟩ := up_step bx hs hI.out.cs
      have HN := Lib.hid (hI.out.next (by omega) e6 e7 (by rw [hx]; exact e8))
      have HW3 := Lib.hid (hW.out.set (k := i) o (by omega))
      have d1 : (i : Int) < 81 := by omega
      have d2 : (s : Int) ≤ 32 := by omega
      have d3 : (32 : Int) - (s : Int) = ((32 - s : Nat) : Int) := by omega
      obtain ⟨t, ht⟩ : ∃ t, 32 - s = t := ⟨_, rfl⟩
      rw [ht] at d3 e4
      have d4 : (t : Int) ≤ 32 := by omega
      have d5 : t ≤ 32 := by omega
      have d6 : s ≤ 32 := by omega
      clear hx hI hW e6 e7 e8 ht
      go_wp2
      go_roundw
      case rel => exact ⟨i + 1, hi, l.set i o, by omega, by go_num, rfl, HN, HW3⟩
      case measure => simp [intOf]; omega
    · obtain rfl : i = cx := by omega
      have hlt' : ¬ (i : Int) < (i : Int) := by omega
      obtain ⟨r1, f1⟩ := hW.out.row.cell (k := i) (by omega)
      generalize l.getD i 0 = z at *
      obtain ⟨x1, _⟩ := (HX.out.below hW.out.b ltx).cnt
      obtain ⟨D1, D2, D3, D4⟩ := hI.out.done (by omega) hs HVX.out.zero
      have HW2 := Lib.hid (hW.out.set (k := i) c (by omega))
      obtain ⟨x2, _⟩ := (HX.out.below HW2.out.b ltx).cnt
      obtain ⟨E, hE⟩ : ∃ E, i + 1 = E := ⟨_, rfl⟩
      rw [hE] at D4
      have HC := Lib.hid (countBelow_any (w.heap.size + 1) 0 E (l.set i c) _ HW2.out.row (by omega))
      have HR := Lib.hid (fun k (h : CountRel (l.set i c) E k) => And.intro (h.right D2 D4) h.le)
      have HD1 := Lib.hid D1
      have HD3 := Lib.hid D3
      have e1 : (i : Int) + 1 = (E : Int) := by omega
      have d1 : (i : Int) < 81 := by omega
      have hE2 : E ≤ i + 1 := by omega
      clear D1 D2 D3 D4 hI hW hE
      generalize l.set i c = l2 at *
      go_wp2_with fail
      refine HC.out.mono ?_
      rintro e w1 ⟨cc, hcc, rfl, rfl⟩
      have HW4 := Lib.hid (HW2.out.setC cc)
      have HV := Lib.hid (HR.out cc hcc)
      clear HC HW2 HR hcc x1 x2
      generalize (wr.setCell ⟨w.heap.size + 1, i, none⟩ (.int .u32 (c : Int))).setCell ⟨w.heap.size + 1, 81, none⟩ (.int .i64 (cc : Int)) = w2 at *
      have HB := Lib.hid (below_setRow HW4.out.b (Nat.le_refl _) (rowC l2 cc))
      have HO := Lib.hid (HW4.out.out.stored (c' := cc) HD3.out)
      go_wp2_with (first | refine load_at rfl (.tmp 5) rfl (w.heap.size + 1) l2 cc rfl HW4.out.row ?_ | refine store_at rfl (.tmp 4) (.tmp 51) rfl w.heap.size Z81 l2 0 cc rfl rfl HW4.out.out HD3.out ?_)
      exact bodyPost_ret (HO.out.result Try.results70 _ rfl) rfl ⟨l2, cc, rfl, HD3.out, HV.out.1, ⟨HD1.out, by have := HV.out.2; omega⟩, HB.out⟩

/-! shiftedDown -/
/-- Two limbs shifted down. -/
theorem down_step {x y s : Nat} (hx : x < 4294967296) (hs : s ≤ 31) : ∃ A Y B o : Nat, (x : Int) / 2 ^ s = (A : Int) ∧ (y : Int) * 2 ^ (32 - s) = (Y : Int) ∧ IntKind.u32.wrap (Y : Int) = (B : Int) ∧ (Y : Int) % 4294967296 = (B : Int) ∧
    bits .or .u32 (A : Int) (B : Int) = (o : Int) ∧ o < 4294967296 ∧ 2 ^ s * o + x % 2 ^ s = x + 4294967296 * (y % 2 ^ s) := by
  have hp : 0 < 2 ^ s := Nat.pow_pos (by omega)
  have hq : 0 < 2 ^ (32 - s) := Nat.pow_pos (by omega)
  have e := pow_split (s := s) (by omega)
  have hA : x / 2 ^ s < 2 ^ (32 - s) := (Nat.div_lt_iff_lt_mul hp).2 (by rw [← e]; exact hx)
  have hB : 2 ^ (32 - s) * y % 4294967296 = 2 ^ (32 - s) * (y % 2 ^ s) := by
    conv => lhs; rw [e]
    rw [Nat.mul_mod_mul_left]
  have hm := Nat.mod_lt y hp
  have hlt : 2 ^ (32 - s) * (y % 2 ^ s) + x / 2 ^ s < 4294967296 := by
    have : 2 ^ (32 - s) * (y % 2 ^ s + 1) ≤ 2 ^ (32 - s) * 2 ^ s := Nat.mul_le_mul_left _ hm
    rw [Nat.mul_add, ← e] at this
    omega
  refine ⟨x / 2 ^ s, 2 ^ (32 - s) * y, 2 ^ (32 - s) * (y % 2 ^ s), 2 ^ (32 - s) * (y % 2 ^ s) + x / 2 ^ s, by simp, by simp [Int.mul_comm], ?_, ?_, orU32 (32 - s) _ _ hA hlt, hlt, ?_⟩
  · rw [IntKind.wrap_u32, ← hB]; omega
  · rw [← hB]; omega
  · have h1 : 2 ^ s * (2 ^ (32 - s) * (y % 2 ^ s)) = 4294967296 * (y % 2 ^ s) := by rw [← Nat.mul_assoc, Nat.mul_comm (2 ^ s), ← e]
    have h2 := Nat.div_add_mod x (2 ^ s)
    rw [Nat.mul_add, h1]
    omega
structure DnW (lx : List Nat) (s i : Nat) (l : List Nat) : Prop where
  lim : W.Limbs l
  len : l.length = 81
  val : 2 ^ s * W.lV l + lx.getD 0 0 % 2 ^ s = W.lV (lx.take i) + 4294967296 ^ i * (lx.getD i 0 % 2 ^ s)
  zero : ∀ k, i ≤ k → l.getD k 0 = 0
theorem DnW.start (lx : List Nat) (s : Nat) : DnW lx s 0 Z81 := ⟨Z81_lim, Z81_len, by rw [Z81_val]; simp [W.lV], fun k _ => Z81_getD k⟩
theorem DnW.next {lx l : List Nat} {s i o : Nat} (h : DnW lx s i l) (hi81 : i < 81) (ho : o < 4294967296) (hn : 2 ^ s * o + lx.getD i 0 % 2 ^ s = lx.getD i 0 + 4294967296 * (lx.getD (i + 1) 0 % 2 ^ s)) : DnW lx s (i + 1) (l.set i o) := by
  have hs := W.lV_set l i o (by rw [h.len]; exact hi81)
  refine ⟨h.lim.set _ ho, by rw [List.length_set]; exact h.len, ?_, fun k hk => by rw [W.getD_set_ne _ (by omega)]; exact h.zero k (by omega)⟩
  rw [h.zero i (Nat.le_refl _), Nat.mul_zero, Nat.add_zero] at hs
  have hv := h.val
  rw [W.lV_take_succ, hs, Nat.pow_succ, Nat.mul_assoc, Nat.mul_add, Nat.mul_left_comm (2 ^ s)]
  have e : 4294967296 ^ i * (2 ^ s * o) + 4294967296 ^ i * (lx.getD i 0 % 2 ^ s) = 4294967296 ^ i * lx.getD i 0 + 4294967296 ^ i * (4294967296 * (lx.getD (i + 1) 0 % 2 ^ s)) := by
    rw [← Nat.mul_add, ← Nat.mul_add, hn]
  omega
theorem DnW.done {lx l : List Nat} {s m : Nat} (h : DnW lx s m l) (zx : ∀ k, m ≤ k → lx.getD k 0 = 0) : W.lV l = W.lV lx / 2 ^ s := by
  have hv := h.val
  have hp : 0 < 2 ^ s := Nat.pow_pos (by omega)
  rw [zx m (Nat.le_refl _), Nat.zero_mod, Nat.mul_zero, Nat.add_zero, W.lV_take_all zx] at hv
  rw [← hv, Nat.mul_add_div hp, Nat.div_eq_of_lt (Nat.mod_lt _ hp)]; rfl

set_option maxRecDepth 8000 in
set_option maxHeartbeats 2000000 in
theorem shiftedDown_any (gx cx s : Nat) (lx : List Nat) (w : World) (hx : RowI w gx lx cx) (vx : RV lx cx) (hcx : cx ≤ 79) (hs : s ≤ 31) :
    Calls Try.prog 72 #[.pointer (some ⟨gx, 0, none⟩), .int .i64 (s : Int)] w (AggPost (fun l c => W.lV l = W.lV lx / 2 ^ s ∧ c ≤ cx) w) := by
  obtain ⟨Z, hZ⟩ : ∃ Z, rowC Z81 0 = Z := ⟨_, rfl⟩
  have hz := zero_row.1
  rw [hZ] at hz
  have HZ := Lib.hid hZ
  have HX := Lib.hid hx
  have HVX := Lib.hid vx
  have ltx := hx.lt
  have HW := Work.start w HZ.out
  obtain ⟨x1, x2⟩ := (HX.out.below HW.b ltx).cnt
  have HW1 := Lib.hid HW
  have n1 : ¬ gx = w.heap.size + 1 := by omega
  clear hZ hx vx HW
  go_enter Try.func72, Try.ntmps72
  go_wp2
  clear x1 x2 hz
  go_loopw [11] (fun iv wr => ∃ (i : Nat) (l : List Nat), i ≤ cx ∧ iv = .int .i64 i ∧ Hid (DnW lx s i l) ∧ Hid (Work w wr l 0)) (fun iv _ => cx - (intOf iv).toNat)
  case atStart => exact ⟨0, Z81, Nat.zero_le _, rfl, DnW.start lx s, HW1⟩
  case round =>
    clear HW1
    obtain ⟨i, l, hicx, rfl, hI, hW⟩ := hrel
    by_cases hlt : i < cx
    · have hlt' : (i : Int) < (cx : Int) := by omega
      obtain ⟨x1, _⟩ := (HX.out.below hW.out.b ltx).cell (k := i) (by omega)
      obtain ⟨y1, _⟩ := (HX.out.below hW.out.b ltx).cell (k := i + 1) (by omega)
      obtain ⟨z1, f1⟩ := hW.out.row.cell (k := i) (by omega)
      generalize l.getD i 0 = z at *
      have bx := W.getD_lt HVX.out.lim i
      obtain ⟨A, Y, B, o, e1, e2, e3, e4, e5, e6, e7⟩ := down_step (y := lx.getD (i + 1) 0) bx hs
      have HN := Lib.hid (hI.out.next (by omega) e6 e7)
      generalize lx.getD i 0 = x at *
      generalize lx.getD (i + 1) 0 = y at *
      have HW2 := hW.out.drewN 1
      have HW3 := Lib.hid (HW2.set (k := i) o (by omega))
      have d1 : (i : Int) < 81 := by omega
      have d2 : (s : Int) ≤ 32 := by omega
      obtain ⟨t, ht⟩ : ∃ t, 32 - s = t := ⟨_, rfl⟩
      have d3 : IntKind.i64.wrap ((32 : Int) - (s : Int)) = (t : Int) := by rw [IntWalk.i64_in _ (by omega)]; omega
      rw [ht] at e2
      have d4 : (t : Int) ≤ 32 := by omega
      have d5 : t ≤ 32 := by omega
      have d6 : s ≤ 32 := by omega
      have j1 : (i : Int) + 1 < 81 := by omega
      have j2 : ((i : Int) + 1).toNat = i + 1 := by omega
      have wI : IntKind.i64.wrap ((i : Int) + 1) = (i : Int) + 1 := IntWalk.i64_in _ (by omega)
      have pI : 0 ≤ (i : Int) + 1 := by omega
      have p0 : (0 : Int) ≤ (i : Int) := by omega
      have p1 : (0 : Int) ≤ (s : Int) := by omega
      have p2 : (0 : Int) ≤ (t : Int) := by omega
      clear hI hW e6 e7 ht HW2
      go_wp2_with fail
      go_still_tail 22, (by kernel_rfl)
      change wpList _ _ _ _ _ wr.drew
      change Hid (Work w (wr.drew.setCell _ _) (l.set i o) 0) at HW3
      change wr.drew.cell? _ = _ at z1
      change wr.drew.frozen? _ = _ at f1
      clear x1 y1 e1 e2 e3 e4 e5 d3 wI
      generalize wr.drew = wr at *
      go_wp2
      go_roundw
      case rel => exact ⟨i + 1, l.set i o, by omega, by go_num, HN, HW3⟩
      case measure => simp [intOf]; omega
    · obtain rfl : i = cx := by omega
      have hlt' : ¬ (i : Int) < (i : Int) := by omega
      have HD1 := Lib.hid (hI.out.done HVX.out.zero)
      have HD3 := Lib.hid hI.out.len
      have HW2 := hW
      have HC := Lib.hid (countBelow_any (w.heap.size + 1) 0 i l _ HW2.out.row (by omega))
      have HR := Lib.hid (fun k (h : CountRel l i k) => And.intro (h.right hI.out.lim hI.out.zero) h.le)
      obtain ⟨x1, x2⟩ := (HX.out.below hW.out.b ltx).cnt
      clear hI hW
      go_wp2_with fail
      refine HC.out.mono ?_
      rintro e w1 ⟨cc, hcc, rfl, rfl⟩
      have HW4 := Lib.hid (HW2.out.setC cc)
      have HV := Lib.hid (HR.out cc hcc)
      clear HC HW2 HR hcc x1 x2
      generalize (wr).setCell ⟨w.heap.size + 1, 81, none⟩ (.int .i64 (cc : Int)) = w2 at *
      have HB := Lib.hid (below_setRow HW4.out.b (Nat.le_refl _) (rowC l cc))
      have HO := Lib.hid (HW4.out.out.stored (c' := cc) HD3.out)
      go_wp2_with (first | refine load_at rfl (.tmp 5) rfl (w.heap.size + 1) l cc rfl HW4.out.row ?_ | refine store_at rfl (.tmp 4) (.tmp 42) rfl w.heap.size Z81 l 0 cc rfl rfl HW4.out.out HD3.out ?_)
      exact bodyPost_ret (HO.out.result Try.results72 _ rfl) rfl ⟨l, cc, rfl, HD3.out, HV.out.1, ⟨HD1.out, by have := HV.out.2; omega⟩, HB.out⟩
end Go.Proofs.Ytpgckdhnmhjkhaa
