/-
  The contract of impl's divRows where the divisor has two limbs and more.
-/
import Derived.Test.YtpgckdhnmhjkhaaIDivRows
namespace Go.Proofs.Ytpgckdhnmhjkhaa
open Go.RowKit

theorem norm_div {ly lv : List Nat} {n cv s : Nat} (vy : RV ly n) (h2 : 2 ≤ n) (hs : 32 - bitLen (ly.getD (n - 1) 0) = s) (vv : RV lv cv) (hv : W.lV lv = 2 ^ s * W.lV ly) : W.D.Dvr lv n ∧ cv = n := by
  obtain ⟨k, rfl⟩ : ∃ k, n = k + 1 := ⟨n - 1, by omega⟩
  rw [show k + 1 - 1 = k from rfl] at hs
  have ht : 0 < ly.getD k 0 := by rcases vy.top with h | h; omega; exact h
  have htl := W.getD_lt vy.lim k
  have htd := getD_div vy.lim vy.lt
  obtain ⟨t, htt⟩ : ∃ t, ly.getD k 0 = t := ⟨_, rfl⟩
  rw [htt] at hs ht htl htd
  obtain ⟨b1, b2, b3⟩ := bitLen_bounds ht
  have b4 := bitLen_32 htl
  obtain ⟨b, hb⟩ : ∃ b, bitLen t = b := ⟨_, rfl⟩
  rw [hb] at b1 b2 b3 b4 hs
  obtain ⟨p, hp⟩ : ∃ p, (4294967296 : Nat) ^ k = p := ⟨_, rfl⟩
  have hp0 : 0 < p := by rw [← hp]; exact Nat.pow_pos (by omega)
  have hpk : (4294967296 : Nat) ^ (k + 1) = p * 4294967296 := by rw [Nat.pow_succ, hp]
  rw [hp] at htd
  have hY1 : t * p ≤ W.lV ly := by rw [htd]; exact Nat.div_mul_le_self _ _
  have hY2 : W.lV ly < (t + 1) * p := by
    rw [htd]; have := Nat.div_add_mod (W.lV ly) p; have := Nat.mod_lt (W.lV ly) hp0; rw [Nat.add_mul, Nat.mul_comm (W.lV ly / p)]; omega
  have hps : 0 < 2 ^ s := Nat.pow_pos (by omega)
  have e32 : 2 ^ s * 2 ^ b = 4294967296 := by rw [← Nat.pow_add, show s + b = 32 from by omega]
  have e31 : 2 ^ s * 2 ^ (b - 1) = 2147483648 := by rw [← Nat.pow_add, show s + (b - 1) = 31 from by omega]
  have hV2 : W.lV lv < 4294967296 ^ (k + 1) := by
    rw [hv, hpk]
    have a1 : 2 ^ s * W.lV ly < 2 ^ s * ((t + 1) * p) := Nat.mul_lt_mul_of_pos_left hY2 hps
    have a2 : 2 ^ s * ((t + 1) * p) ≤ 2 ^ s * (2 ^ b * p) := Nat.mul_le_mul_left _ (Nat.mul_le_mul_right _ b2)
    rw [← Nat.mul_assoc (2 ^ s) (2 ^ b), e32, Nat.mul_comm 4294967296 p] at a2
    omega
  have hV1 : 2147483648 * p ≤ W.lV lv := by
    rw [hv]
    have a1 : 2 ^ s * (2 ^ (b - 1) * p) ≤ 2 ^ s * (t * p) := Nat.mul_le_mul_left _ (Nat.mul_le_mul_right _ b1)
    rw [← Nat.mul_assoc, e31] at a1
    exact Nat.le_trans a1 (Nat.mul_le_mul_left _ hY1)
  have hz : ∀ j, k + 1 ≤ j → lv.getD j 0 = 0 := fun j hj => W.high_zero vv.lim hV2 hj
  have htop : 2147483648 ≤ lv.getD k 0 := by
    rw [getD_div vv.lim hV2, hp, Nat.le_div_iff_mul_le hp0]; exact hV1
  refine ⟨⟨vv.lim, hz, h2, htop⟩, ?_⟩
  have c1 := vv.cnt_le hV2
  rcases Nat.lt_or_ge cv (k + 1) with h | h
  · rw [vv.zero k (by omega)] at htop; omega
  · omega
theorem many_start {lx ly lv U : List Nat} {n cx s : Nat} (vx : RV lx cx) (vy : RV ly n) (h2 : 2 ≤ n) (hcx : n ≤ cx) (hv : W.lV lv = 2 ^ s * W.lV ly) (hu : W.lV U = 2 ^ s * W.lV lx) (lU : W.Limbs U) (nU : U.length = 81) :
    W.D.DivRel (2 ^ s * W.lV lx) lv n (cx - n + 1) 81 U Z81 := by
  refine ⟨lU, Z81_lim, nU, Z81_len, by rw [Z81_val, hu]; simp, ?_, fun k _ => Z81_getD k⟩
  rw [hu, hv, Nat.mul_assoc]
  refine Nat.mul_lt_mul_of_pos_left ?_ (Nat.pow_pos (by omega))
  have a := vx.lt
  have b : 4294967296 ^ (n - 1) ≤ W.lV ly := by
    rcases Nat.lt_or_ge (W.lV ly) (4294967296 ^ (n - 1)) with h | h
    · have := vy.cnt_le h; omega
    · exact h
  have c := Nat.mul_le_mul_right (4294967296 ^ (cx - n + 1)) b
  rw [← Nat.pow_add, show n - 1 + (cx - n + 1) = cx from by omega] at c
  omega
theorem quo_lt {lx ly : List Nat} {n cx : Nat} (vx : RV lx cx) (vy : RV ly n) (h2 : 2 ≤ n) (hcx : n ≤ cx) : W.lV lx / W.lV ly < 4294967296 ^ (cx - n + 1) := by
  have a := vx.lt
  have b : 4294967296 ^ (n - 1) ≤ W.lV ly := by
    rcases Nat.lt_or_ge (W.lV ly) (4294967296 ^ (n - 1)) with h | h
    · have := vy.cnt_le h; omega
    · exact h
  have hp : 0 < 4294967296 ^ (n - 1) := Nat.pow_pos (by omega)
  rw [Nat.div_lt_iff_lt_mul (by omega)]
  have c := Nat.mul_le_mul_left (4294967296 ^ (cx - n + 1)) b
  rw [← Nat.pow_add, show cx - n + 1 + (n - 1) = cx from by omega] at c
  omega
/-- What the long division holds in memory. -/
structure DivSt (w wr : World) (g : Nat) (U : List Nat) (cu : Nat) (v : List Nat) (n : Nat) (q : List Nat) (cq : Nat) : Prop where
  o1 : RowI wr w.heap.size Z81 0
  o2 : RowI wr (w.heap.size + 1) Z81 0
  u : RowI wr g U cu
  v : RowI wr (g + 1) v n
  q : RowI wr (g + 2) q cq
  b : Below w.heap.size w wr
  ge : w.heap.size + 2 ≤ g
theorem DivSt.start {w w1 w3 : World} {Z : Array Value} (hZ : rowC Z81 0 = Z) {lu lv : List Nat} {cu cv : Nat} (hW : Work w w1 Z81 0) (hb : Below w1.heap.size w1 w3) (hu : lu.length = 81) (hv : lv.length = 81) :
    DivSt w (((((w3.alloc (.cells Z 46)).alloc (.cells Z 46)).setRow w3.heap.size (rowC lu cu)).setRow (w3.heap.size + 1) (rowC lv cv)).alloc (.cells Z 46)) w3.heap.size lu cu lv cv Z81 0 := by
  have V := Vars.of (cx := cu) (cy := cv) (Work.start w3 hZ) hu hv
  have O := one_var ((((w3.alloc (.cells Z 46)).alloc (.cells Z 46)).setRow w3.heap.size (rowC lu cu)).setRow (w3.heap.size + 1) (rowC lv cv)) hZ
  have hs : ((((w3.alloc (.cells Z 46)).alloc (.cells Z 46)).setRow w3.heap.size (rowC lu cu)).setRow (w3.heap.size + 1) (rowC lv cv)).heap.size = w3.heap.size + 2 := by simp
  rw [hs] at O
  generalize (((w3.alloc (.cells Z 46)).alloc (.cells Z 46)).setRow w3.heap.size (rowC lu cu)).setRow (w3.heap.size + 1) (rowC lv cv) = w5 at *
  have h13 := hb.size
  have a1 := hW.out.lt
  have a2 := hW.row.lt
  have p1 := (hW.out.below hb a1)
  have p2 := (hW.row.below hb a2)
  have q1 := p1.below V.b (by omega)
  have q2 := p2.below V.b (by omega)
  refine ⟨q1.below O.2 (by omega), q2.below O.2 (by omega), V.x.below O.2 (by omega), V.y.below O.2 (by omega), O.1, ?_, by omega⟩
  have b1 : Below w.heap.size w w3 := hW.b.trans (hb.mono hW.b.size)
  have b2 : Below w.heap.size w w5 := b1.trans (V.b.mono b1.size)
  exact b2.trans (O.2.mono (by omega))
theorem DivSt.drewN {w wr : World} {g cu n cq : Nat} {U v q : List Nat} (h : DivSt w wr g U cu v n q cq) (k : Nat) : DivSt w (wr.drewN k) g U cu v n q cq :=
  ⟨h.o1.other rfl, h.o2.other rfl, h.u.other rfl, h.v.other rfl, h.q.other rfl, bdN h.b k, h.ge⟩
theorem DivSt.two {w wr : World} {g cu n cq : Nat} {U v q : List Nat} (h : DivSt w wr g U cu v n q cq) : Two wr wr g (g + 1) U cu v n := Two.refl h.u h.v (by omega)
theorem DivSt.take {w wr w' : World} {g cu n cq : Nat} {U v q R : List Nat} (h : DivSt w wr g U cu v n q cq) (t : Two wr w' g (g + 1) R cu v n) : DivSt w w' g R cu v n q cq := by
  have hge := h.ge
  have ne : ∀ k, k < wr.heap.size → k ≠ g → w'.heap[k]? = wr.heap[k]? := fun k hk hne => t.g.block k hk (fun e => hne (by injection e))
  exact ⟨h.o1.other (ne _ h.o1.lt (by omega)), h.o2.other (ne _ h.o2.lt (by omega)), t.u, t.v, h.q.other (ne _ h.q.lt (by omega)), h.b.grown t.g h.b.size (fun k hk => by injection hk; omega), hge⟩
theorem DivSt.setQ {w wr : World} {g cu n cq k : Nat} {U v q : List Nat} (h : DivSt w wr g U cu v n q cq) (y : Nat) (hk : k < 81) : DivSt w (wr.setCell ⟨g + 2, k, none⟩ (.int .u32 (y : Int))) g U cu v n (q.set k y) cq := by
  have hge := h.ge
  exact ⟨h.o1.apart (by omega), h.o2.apart (by omega), h.u.apart (by omega), h.v.apart (by omega), h.q.set y hk, h.b.setCell (p := ⟨g + 2, k, none⟩) (by simp; omega) _, hge⟩
theorem DivSt.cntQ {w wr : World} {g cu n cq : Nat} {U v q : List Nat} (h : DivSt w wr g U cu v n q cq) (y : Nat) : DivSt w (wr.setCell ⟨g + 2, 81, none⟩ (.int .i64 (y : Int))) g U cu v n q y := by
  have hge := h.ge
  exact ⟨h.o1.apart (by omega), h.o2.apart (by omega), h.u.apart (by omega), h.v.apart (by omega), h.q.setC y, h.b.setCell (p := ⟨g + 2, 81, none⟩) (by simp; omega) _, hge⟩
theorem DivSt.cntU {w wr : World} {g cu n cq : Nat} {U v q : List Nat} (h : DivSt w wr g U cu v n q cq) (y : Nat) : DivSt w (wr.setCell ⟨g, 81, none⟩ (.int .i64 (y : Int))) g U y v n q cq := by
  have hge := h.ge
  exact ⟨h.o1.apart (by omega), h.o2.apart (by omega), h.u.setC y, h.v.apart (by omega), h.q.apart (by omega), h.b.setCell (p := ⟨g, 81, none⟩) (by simp; omega) _, hge⟩

set_option maxRecDepth 8000 in
set_option maxHeartbeats 8000000 in
theorem divRows_many (gx gy cx n : Nat) (lx ly : List Nat) (w : World) (hx : RowI w gx lx cx) (hy : RowI w gy ly n) (vx : RV lx cx) (vy : RV ly n) (hcx : cx ≤ 78) (h2 : 2 ≤ n) (hge : n ≤ cx) :
    Calls Try.prog 47 #[.pointer (some ⟨gx, 0, none⟩), .pointer (some ⟨gy, 0, none⟩)] w (DivAgg (W.lV lx) (W.lV ly) w) := by
  obtain ⟨Z, hZ⟩ : ∃ Z, rowC Z81 0 = Z := ⟨_, rfl⟩
  have hz := zero_row.1
  rw [hZ] at hz
  have HZ := Lib.hid hZ
  have HX := Lib.hid hx
  have HY := Lib.hid hy
  have HVX := Lib.hid vx
  have HVY := Lib.hid vy
  have ltx := hx.lt
  have lty := hy.lt
  have hlt' : ¬ (cx : Int) < (n : Int) := by omega
  have h11 : ((n : Int) == 1) = false := by simp; omega
  clear hZ hx hy vx vy
  go_enter Try.func47, Try.ntmps47
  go_wp2
  have HW := Work.start w HZ.out
  obtain ⟨x1, x2⟩ := (HX.out.below HW.b ltx).cnt
  obtain ⟨y1, y2⟩ := (HY.out.below HW.b lty).cnt
  have HW0 := Lib.hid HW
  clear HW
  generalize (w.alloc (.cells Z 46)).alloc (.cells Z 46) = w0 at *
  go_quiet (fail)
  have HW1 := Lib.hid (HW0.out.drewN nq)
  clear HW0 x1 x2 y1 y2
  generalize w0.drewN nq = w1 at *
  obtain ⟨y1, y2⟩ := (HY.out.below HW1.out.b lty).cnt
  obtain ⟨n1, hn1⟩ : ∃ j, n - 1 = j := ⟨_, rfl⟩
  obtain ⟨t1, _⟩ := (HY.out.below HW1.out.b lty).cell (k := n1) (by omega)
  have ht := W.getD_lt HVY.out.lim n1
  obtain ⟨t, htt⟩ : ∃ t, ly.getD n1 0 = t := ⟨_, rfl⟩
  rw [htt] at t1 ht
  have HLZ := Lib.hid (lead32_any t ht)
  obtain ⟨s, hs⟩ : ∃ s, 32 - bitLen t = s := ⟨_, rfl⟩
  rw [hs] at HLZ
  have hs31 : s ≤ 31 := by
    have : 0 < t := by
      have h := HVY.out.top
      rw [hn1, htt] at h
      rcases h with h | h
      · omega
      · exact h
    have := (bitLen_bounds this).2.2
    omega
  have HS : Hid (32 - bitLen (ly.getD (n - 1) 0) = s) := by show _ = _; rw [hn1, htt]; exact hs
  have p1 : IntKind.i64.wrap ((n : Int) - 1) = (n1 : Int) := by rw [IntWalk.i64_in _ (by omega)]; omega
  have p2 : (n1 : Int) < 81 := by omega
  have p3 : (0 : Int) ≤ (n1 : Int) := by omega
  clear hs htt hn1
  go_wp2_with fail
  go_quiet ((go_at_call 69; exact Calls.quiet_of_same (still_of (HLZ.out _))))
  have HW2 := Lib.hid (HW1.out.drewN nq)
  clear HW1 y1 y2 t1 p1 p2 p3 HLZ
  generalize w1.drewN nq = w2 at *
  have HUp := Lib.hid (shiftedUp_any gx cx s lx w2 (HX.out.below HW2.out.b ltx) HVX.out (by omega) hs31)
  go_wp2_with fail
  refine HUp.out.mono ?_
  rintro e w3 ⟨U, cu, rfl, hUl, vU, ⟨eU, cU⟩, b3⟩
  have b23 : Below w.heap.size w w3 := HW2.out.b.trans (b3.mono HW2.out.b.size)
  have HVp := Lib.hid (shiftedUp_any gy n s ly w3 (HY.out.below b23 lty) HVY.out (by omega) hs31)
  go_wp2_with fail
  refine HVp.out.mono ?_
  rintro e w4 ⟨lv, cv, rfl, hvl, vv, ⟨ev, cV⟩, b4⟩
  obtain ⟨hD, hcv⟩ := norm_div HVY.out h2 HS.out vv ev
  obtain rfl : n = cv := hcv.symm
  have b24 : Below w2.heap.size w2 w4 := b3.trans (b4.mono b3.size)
  have HDv := Lib.hid hD
  have HMS := Lib.hid (many_start HVX.out HVY.out h2 hge ev eU vU.lim hUl)
  have HSt := Lib.hid (DivSt.start (cu := cu) (cv := n) HZ.out HW2.out b24 hUl hvl)
  have HWs := Lib.hid (Work.start w4 HZ.out)
  have HUl := Lib.hid hUl
  have Hvl := Lib.hid hvl
  have HEv := Lib.hid ev
  clear hUl vU eU b3 hvl vv b4 hD b24 b23 ev HUp HVp HW2
  go_wp2_with (first | refine store_at rfl (.tmp 7) (.tmp 51) rfl w4.heap.size Z81 U 0 cu rfl rfl HWs.out.out HUl.out ?_ | refine store_at rfl (.tmp 8) (.tmp 54) rfl (w4.heap.size + 1) Z81 lv 0 n rfl rfl (HWs.out.row.storedApart (by omega)) Hvl.out ?_)
  clear HWs hz HZ HUl Hvl
  obtain ⟨g, hg⟩ : ∃ g, w4.heap.size = g := ⟨_, rfl⟩
  rw [hg] at HSt ⊢
  clear hg
  generalize World.alloc _ _ = w5 at *
  obtain ⟨x1, x2⟩ := (HX.out.below HSt.out.b ltx).cnt
  obtain ⟨y1, y2⟩ := (HY.out.below HSt.out.b lty).cnt
  obtain ⟨K, hK⟩ : ∃ K, cx - n + 1 = K := ⟨_, rfl⟩
  have p1 : IntKind.i64.wrap ((cx : Int) - (n : Int)) = (cx : Int) - (n : Int) := IntWalk.i64_in _ (by omega)
  go_quiet (fail)
  have HSt2 := Lib.hid (HSt.out.drewN nq)
  clear HSt x1 x2 y1 y2 p1
  generalize w5.drewN nq = w6 at *
  rw [hK] at HMS
  have hK78 : K + n ≤ 79 := by omega
  have e0 : (cx : Int) - (n : Int) = (K : Int) - 1 := by omega
  rw [e0]
  go_wp2
  clear e0
  go_loopw [10] (fun iv wr => ∃ (k : Nat) (U' q : List Nat), k ≤ K ∧ iv = .int .i64 ((k : Int) - 1) ∧ Hid (W.D.DivRel (2 ^ s * W.lV lx) lv n k 81 U' q) ∧ Hid (DivSt w wr g U' cu lv n q 0)) (fun iv _ => (intOf iv + 1).toNat)
  case atStart => exact ⟨K, U, Z81, Nat.le_refl _, rfl, HMS, HSt2⟩
  case round =>
    clear HSt2 HMS
    obtain ⟨k, U', q, hk, rfl, hI, hW⟩ := hrel
    by_cases h0 : 0 < k
    · obtain ⟨j, rfl⟩ : ∃ j, k = j + 1 := ⟨k - 1, by omega⟩
      have hji : (((j + 1 : Nat) : Int) - 1) = (j : Int) := by omega
      rw [hji]
      have hj0 : (0 : Int) ≤ (j : Int) := by omega
      have hj81 : (j : Int) < 81 := by omega
      have HT := Lib.hid (takeOut_any g (g + 1) cu n j _ 81 U' lv q wr hW.out.two HDv.out hI.out (by omega))
      clear hji
      go_wp2_with fail
      refine HT.out.mono ?_
      rintro e w7 ⟨R, gg, hgg, hL, rfl, t2⟩
      have S1 := hW.out.take t2
      obtain ⟨q1, fq⟩ := S1.q.cell (k := j) (by omega)
      generalize q.getD j 0 = z at *
      have HS2 := Lib.hid (S1.setQ (k := j) gg (by omega))
      have HN := Lib.hid (hI.out.next (by omega) hL hgg)
      clear HT hL t2 S1 hI hW
      go_wp2
      go_roundw
      case rel => exact ⟨j, R, q.set j gg, by omega, by go_num, HN, HS2⟩
      case measure => simp [intOf]
    · obtain rfl : k = 0 := by omega
      have hneg : ¬ (0 : Int) ≤ ((0 : Nat) : Int) - 1 := by omega
      obtain ⟨D1, D2⟩ := hI.out.done
      rw [HEv.out, Nat.mul_div_mul_left _ _ (Nat.pow_pos (by omega))] at D1
      rw [HEv.out, Nat.mul_mod_mul_left] at D2
      have hqlt := quo_lt HVX.out HVY.out h2 hge
      rw [hK] at hqlt
      have zq : ∀ i, K ≤ i → q.getD i 0 = 0 := fun i hi => W.high_zero hI.out.lq (by rw [D1]; exact hqlt) hi
      have zu : ∀ i, n ≤ i → U'.getD i 0 = 0 := fun i hi => by
        have hu := hI.out.lt
        rw [Nat.pow_zero, Nat.mul_one] at hu
        exact W.high_zero hI.out.lU (Nat.lt_trans hu HDv.out.lt) hi
      have HRq := Lib.hid (fun k (h : CountRel q K k) => And.intro (h.right hI.out.lq zq) h.le)
      have HRu := Lib.hid (fun k (h : CountRel U' n k) => And.intro (h.right hI.out.lU zu) h.le)
      have HD1 := Lib.hid D1
      have HD2 := Lib.hid D2
      have HLq := Lib.hid hI.out.nq
      obtain ⟨x1, x2⟩ := (HX.out.below hW.out.b ltx).cnt
      obtain ⟨y1, y2⟩ := (HY.out.below hW.out.b lty).cnt
      have HS1 : Hid (DivSt w wr.drew g U' cu lv n q 0) := hW.out.drewN 1
      have p1 : IntKind.i64.wrap ((cx : Int) - (n : Int)) = (cx : Int) - (n : Int) := IntWalk.i64_in _ (by omega)
      have p2 : IntKind.i64.wrap ((cx : Int) - (n : Int) + 1) = (K : Int) := by rw [IntWalk.i64_in _ (by omega)]; omega
      have HC := Lib.hid (countBelow_any (g + 2) 0 K q _ HS1.out.q (by omega))
      clear D1 D2 hqlt zq zu hI hW
      go_wp2_with fail
      go_still_tail 10, (by kernel_rfl)
      change wpList _ _ _ _ _ wr.drew
      clear x1 x2 y1 y2 p1 p2
      generalize wr.drew = wr at *
      go_wp2_with fail
      refine HC.out.mono ?_
      rintro e w1' ⟨cq, hcq, rfl, rfl⟩
      have S2 := HS1.out.cntQ cq
      have HVq := Lib.hid (HRq.out cq hcq)
      clear HC HRq hcq HS1
      generalize wr.setCell ⟨g + 2, 81, none⟩ (.int .i64 (cq : Int)) = w7 at *
      obtain ⟨y1, y2⟩ := (HY.out.below S2.b lty).cnt
      have HC2 := Lib.hid (countBelow_any g cu n U' _ S2.u (by omega))
      have HS2 := Lib.hid S2
      clear S2
      go_wp2_with fail
      refine HC2.out.mono ?_
      rintro e w1' ⟨cr, hcr, rfl, rfl⟩
      have S3 := HS2.out.cntU cr
      have HVr := Lib.hid (HRu.out cr hcr)
      clear HC2 HRu hcr HS2 y1 y2
      generalize w7.setCell ⟨g, 81, none⟩ (.int .i64 (cr : Int)) = w8 at *
      have HS4 : Hid (DivSt w w8.drew g U' cr lv n q cq) := S3.drewN 1
      clear S3
      go_wp2_with fail
      refine wp_region_held (S := fun w' => RowI w' (g + 2) q cq) (by kernel_rfl) ?_
      change wpAnyH _ _ _ _ _ _ _ _ w8.drew
      generalize w8.drew = w9 at *
      have hge2 := HS4.out.ge
      have hu79 : cr ≤ 79 := by have := HVr.out.2; omega
      have HDn := Lib.hid (shiftedDown_any g cr s U' w9 HS4.out.u HVr.out.1 hu79 hs31)
      refine wpAnyH_take (i := 0) (v := .agg (rowC q cq)) rfl (by kernel_rfl) (by kernel_rfl) (by kernel_rfl) (fun _ _ _ h => h) (yields_load rfl (.tmp 9) rfl (g + 2) q cq rfl fun _ h => h) HS4.out.q ?_
      refine wpAnyH_take (i := 1) (v := .int .i64 (s : Int)) rfl (by kernel_rfl) (by kernel_rfl) (by kernel_rfl) (fun _ _ _ h => h) (yields_pure rfl fun _ => rfl) HS4.out.q ?_
      refine wpAnyH_all (rs := [2]) (by kernel_rfl) (by decide) ?_
      intro i hi
      obtain rfl : i = 2 := by simpa using hi
      unfold wpOp
      go_simp
      left
      refine HDn.out.mono ?_
      rintro e w10 ⟨lr, cr2, rfl, hlr, vr, ⟨er, cle⟩, b10⟩
      have T1 := HS4.out.q.below b10 HS4.out.q.lt
      have P1 := HS4.out.o1.below b10 HS4.out.o1.lt
      have P2 := HS4.out.o2.below b10 HS4.out.o2.lt
      have bb : Below w.heap.size w w10 := HS4.out.b.trans (b10.mono HS4.out.b.size)
      have HO1 := Lib.hid ((P1.stored (c' := cq) HLq.out).storedApart (g' := w.heap.size + 1) (cs := rowC lr cr2) (by omega))
      have HO2 := Lib.hid ((P2.storedApart (g' := w.heap.size) (cs := rowC q cq) (by omega)).stored (c' := cr2) hlr)
      have HB := Lib.hid (below_setRow (below_setRow bb (Nat.le_refl _) (rowC q cq)) (show w.heap.size ≤ w.heap.size + 1 by omega) (rowC lr cr2))
      have hrv : W.lV lr = W.lV lx % W.lV ly := by rw [er, HD2.out, Nat.mul_div_cancel_left _ (Nat.pow_pos (by omega))]
      refine ⟨T1, ?_⟩
      refine wpAnyH_all (rs := [3]) (by kernel_rfl) (by decide) ?_
      intro i hi
      obtain rfl : i = 3 := by simpa using hi
      refine store_op rfl rfl (.tmp 4) (.tmp 89) rfl w.heap.size Z81 q 0 cq rfl rfl P1 HLq.out ⟨T1.storedApart (by omega), ?_⟩
      refine wpAnyH_all (rs := [4]) (by kernel_rfl) (by decide) ?_
      intro i hi
      obtain rfl : i = 4 := by simpa using hi
      refine store_op rfl rfl (.tmp 5) (.tmp 91) rfl (w.heap.size + 1) Z81 lr 0 cr2 rfl rfl (P2.storedApart (by omega)) hlr ⟨(T1.storedApart (by omega)).storedApart (by omega), ?_⟩
      refine wpAnyH_done (by kernel_rfl) ?_ _
      have HF := Lib.hid (And.intro hlr (And.intro vr hrv))
      clear T1 P1 P2 bb hlr vr er b10 hrv HDn HS4
      go_wp2
      exact bodyPost_ret (results_two Try.results47 _ HO1.out HO2.out rfl rfl) rfl ⟨q, cq, lr, cr2, rfl, HLq.out, HF.out.1, HVq.out.1, HF.out.2.1, HD1.out, HF.out.2.2, by have := HVq.out.2; omega, by omega, HB.out⟩
theorem divRows_any (gx gy cx cy : Nat) (lx ly : List Nat) (w : World) (hx : RowI w gx lx cx) (hy : RowI w gy ly cy) (vx : RV lx cx) (vy : RV ly cy) (hcx : cx ≤ 78) (h0 : 0 < W.lV ly) :
    Calls Try.prog 47 #[.pointer (some ⟨gx, 0, none⟩), .pointer (some ⟨gy, 0, none⟩)] w (DivAgg (W.lV lx) (W.lV ly) w) := by
  rcases Nat.lt_or_ge cx cy with h | h
  · exact divRows_less gx gy cx cy lx ly w hx hy vx vy (by omega) h
  · have hc0 : cy ≠ 0 := fun e => by subst e; rw [vy.zeroVal] at h0; omega
    by_cases h1 : cy = 1
    · subst h1; exact divRows_one gx gy cx lx ly w hx hy vx vy (by omega) h
    · exact divRows_many gx gy cx cy lx ly w hx hy vx vy hcx (by omega) h
end Go.Proofs.Ytpgckdhnmhjkhaa
