/-
  The walk of laws.FnFigures.
-/
import Derived.Test.YtbncjdieilcjjaaDoorReadI
import Derived.Test.YtbncjdieilcjjaaDoorWordsHexI
import Derived.Test.YtbncjdieilcjjaaDoorWordsUnhexI
import Derived.Test.YtbncjdieilcjjaaDoorHexBack
import Derived.Test.YtbncjdieilcjjaaDoorWordsBr
import Derived.Test.YtbncjdieilcjjaaDoorDrawPlaces
import Derived.Deep.RegionHeld3
import Derived.Deep.DrawnRows
import Derived.Deep.DeepCutAuto
import Derived.BigRegion
import Derived.Deep.RegionWith
namespace Go.Proofs.YtbncjdieilcjjaaDoor
open Go.RowKit
attribute [local go_sem ↓] Go.wp_at_zero Go.wp_at_succ
theorem big_any (A : Option Addr) (n cap : Nat) (w : World) (_hn : n ≤ maxLen) : Calls Tryd.prog 6 #[.slice A n cap] w fun e w' => e = .returned (.bool (decide ((1048576 : Int) < (n : Int)))) ∧ w = w' := by
  go_enter Tryd.func6, Tryd.ntmps6
  go_wp2
  go_ret
  exact ⟨rfl, rfl⟩

/-- The text of two new bytes, wherever they lie. -/
theorem two_bytes {P : Program} {src dst e : TypeId} (hs : P.underlying src = some (.slice e)) (he : P.underlying e = some (.int .u8)) (hd : P.underlying dst = some .string) (X Y : Int) (x y : UInt8) (hx : X = (x.toNat : Int)) (hy : Y = (y.toNat : Int)) :
    ∀ (W : World) (N : Nat), W.cell? ⟨N, 0, none⟩ = some (.int .u8 X) → W.cell? ⟨N, 1, none⟩ = some (.int .u8 Y) → (convert src dst (.slice (some ⟨N, 0, none⟩) 2 2)).run P W = .ok (.string ⟨#[x, y]⟩) W := by
  intro W N h0 h1
  subst hx hy
  refine run_convert_bytes_back W src dst e _ 2 [x, y] hs he hd fun j hj => ?_
  have : j = 0 ∨ j = 1 := by simp at hj; omega
  rcases this with rfl | rfl
  · simpa [Addr.add] using h0
  · simpa [Addr.add] using h1
theorem byte_of (z : Int) : ∃ (X : Int) (x : UInt8), IntKind.u8.wrap z = X ∧ X = (x.toNat : Int) := by
  refine ⟨_, UInt8.ofNat (IntKind.u8.wrap z).toNat, rfl, ?_⟩
  rw [IntKind.wrap_u8]
  simp
  omega

/-- What is carried from statement to statement. -/
structure Kept (w wx : World) (g cap : Nat) (zs : List Int) : Prop where
  own : wx.ownsRow w.heap.size 3 1 (.slice (some ⟨g, 0, none⟩) 12 cap) 12 (intV zs)
  tens : Tens wx
  errs : Errs wx
  below : Below w.heap.size w wx
  lt : 2 < w.heap.size
theorem Kept.next {w wx wy : World} {g cap : Nat} {zs : List Int} (h : Kept w wx g cap zs) (hb : Below wx.heap.size wx wy) : Kept w wy g cap zs :=
  ⟨own_below h.own hb, h.tens.below hb (by have := h.lt; have := h.below.size; omega), h.errs.below hb (by have := h.lt; have := h.below.size; omega) (by have := h.lt; have := h.below.size; omega), h.below.trans (hb.mono h.below.size), h.lt⟩
theorem Kept.cell {w wx : World} {g cap : Nat} {zs : List Int} (h : Kept w wx g cap zs) (k : Nat) (hk : k < 12) : wx.cell? ⟨g, k, none⟩ = some (.int .i64 (zs.getD k 0)) := by
  rw [h.own.cellAt k (by omega)]
  have hl : zs.length = 12 := by have := h.own.1; simpa [intV] using this
  simp [intV, List.getElem?_eq_getElem (show k < zs.length by omega)]
theorem draws_below (w : World) (k : Nat) : Below w.heap.size w (w.drewN k) := ⟨rfl, rfl, rfl, Nat.le_refl _, fun _ _ => rfl⟩
theorem Kept.drew {w wx : World} {g cap : Nat} {zs : List Int} (h : Kept w wx g cap zs) : Kept w wx.drew g cap zs := h.next (Below.refl _ _).drew
theorem Kept.alloc {w wx : World} {g cap : Nat} {zs : List Int} (h : Kept w wx g cap zs) (o : Obj) : Kept w (wx.alloc o) g cap zs := h.next ((Below.refl _ _).alloc (Nat.le_refl _) o)
theorem Kept.glt {w wx : World} {g cap : Nat} {zs : List Int} (h : Kept w wx g cap zs) : g < wx.heap.size := (h.own.lt g rfl).2

theorem Small.at_ {n : Nat} {zs : List Int} (h : Small n zs) (k : Nat) (hk : k < n) : 0 ≤ zs.getD k 0 ∧ zs.getD k 0 < 10000 := by
  have hl : k < zs.length := by rw [h.1]; exact hk
  rw [List.getD_eq_getElem?_getD, List.getElem?_eq_getElem hl]
  exact h.2 _ (List.getElem_mem _)

set_option maxRecDepth 100000 in
set_option maxHeartbeats 4000000 in
theorem figures_walk (a0 : Option Addr) (len0 cap0 : Nat) (z0 : List Int) (w : World) (hL : laidMetH Tryd.prog Rows.fnFiguresRow.laid w) (w0 : IsRow .u8 w a0 len0 cap0 z0) :
    Calls Tryd.prog 3 #[.slice a0 len0 cap0] w fun e w' => e = .returned (.bool true) ∧ Below w.heap.size w w' := by
  rw [MakeChecks.laidMetH_plain _ _ _ (by kernel_rfl)] at hL
  obtain ⟨ht, he⟩ := laid_errs hL
  have hlt := ht.lt
  have T := Lib.hid ht
  have E := Lib.hid he
  clear hL ht he
  have hlen : len0 ≤ maxLen := by rcases w0 with ⟨_, rfl, _⟩ | ⟨_, _, h1, h2, _⟩ <;> unfold maxLen at * <;> omega
  have HBig := Lib.hid (big_any a0 len0 cap0 w hlen)
  by_cases h1 : 1048576 < len0
  · have hd : decide ((1048576 : Int) < (len0 : Int)) = true := by simp; omega
    clear w0 hlen
    go_enter Tryd.func3, Tryd.ntmps3
    go_wp2_with (go_at_call 6; refine HBig.out.mono ?_; rintro e w' ⟨rfl, rfl⟩)
    go_ret
    exact ⟨rfl, Below.refl _ _⟩
  have hd : decide ((1048576 : Int) < (len0 : Int)) = false := by simp; omega
  have HP := Lib.hid (places_any a0 len0 cap0 w (w0.draw (by omega)))
  clear w0 hlen h1
  go_enter Tryd.func3, Tryd.ntmps3
  go_wp2_with fail
  refine HBig.out.mono ?_
  rintro e w' ⟨rfl, rfl⟩
  go_wp2_with fail
  refine HP.out.mono ?_
  rintro e w1 ⟨v, zs, rfl, hS, hown, hb⟩
  obtain ⟨g, cap, hv, _, _⟩ := hown.form (by omega)
  subst hv
  have K : Hid (Kept w w1 g cap zs) := ⟨hown, T.out.below hb hlt, E.out.below hb (by omega) (by omega), hb, by omega⟩
  have HS := Lib.hid hS
  clear hown hb hS HP HBig T E
  go_upto_region 4 with (fail)
  go_cut [4] (fun s4 wx => ∃ T : ByteArray, s4 = .string T ∧ Hid (T.size ≤ 20000) ∧ Hid (Kept w wx g cap zs))
  case first =>
    obtain ⟨X6, x6, e6, f6⟩ := byte_of (zs.getD 6 0)
    obtain ⟨X7, x7, e7, f7⟩ := byte_of (zs.getD 7 0)
    have k5 := K.out.cell 5 (by omega)
    have k6 := K.out.cell 6 (by omega)
    have k7 := K.out.cell 7 (by omega)
    have hz5 : 0 ≤ zs.getD 5 0 ∧ zs.getD 5 0 < 10000 := HS.out.at_ 5 (by omega)
    have HDec : ∀ W, Kept w W g cap zs → Calls Tryd.prog 8 #[.int .i64 (zs.getD 5 0)] W fun e w' => e = .returned (.string ⟨(Lib.itoa (zs.getD 5 0)).toArray⟩) ∧ Below W.heap.size W w' ∧ Hid (Kept w w' g cap zs) ∧
        w'.cell? ⟨g, 5, none⟩ = some (.int .i64 (zs.getD 5 0)) ∧ w'.cell? ⟨g, 6, none⟩ = some (.int .i64 (zs.getD 6 0)) ∧ w'.cell? ⟨g, 7, none⟩ = some (.int .i64 (zs.getD 7 0)) := fun W hk =>
      (impl_Decimal _ W (by omega) (by omega) hk.tens).mono fun _ _ ⟨he, hb⟩ => ⟨he, hb, hk.next hb, (hk.next hb).cell 5 (by omega), (hk.next hb).cell 6 (by omega), (hk.next hb).cell 7 (by omega)⟩
    have HDec := Lib.hid HDec
    obtain ⟨T, hT⟩ : ∃ T : ByteArray, T = ⟨(Lib.itoa (zs.getD 5 0)).toArray⟩ ++ ⟨#[x6, x7]⟩ := ⟨_, rfl⟩
    have hl5 : (Lib.itoa (zs.getD 5 0)).length ≤ 10 := by
      obtain ⟨m, hm⟩ : ∃ m : Nat, zs.getD 5 0 = (m : Int) := ⟨(zs.getD 5 0).toNat, by omega⟩
      rw [hm, itoa_nat]
      exact dec_len m (by omega)
    have hs1 : (⟨(Lib.itoa (zs.getD 5 0)).toArray⟩ : ByteArray).size ≤ 10 := by
      show (Lib.itoa (zs.getD 5 0)).toArray.size ≤ 10
      simpa using hl5
    have hs2 : (⟨#[x6, x7]⟩ : ByteArray).size = 2 := rfl
    have hTs : Hid (T.size ≤ 20000) := by
      show T.size ≤ 20000
      rw [hT, ByteArray.size_append, hs2]
      omega
    have hadd : ∀ W, (Op.stringOp .add ⟨(Lib.itoa (zs.getD 5 0)).toArray⟩ ⟨#[x6, x7]⟩).run Tryd.prog W = .ok (.string T) W := by
      intro W
      rw [run_string_add_sum W _ _ (by rw [hs2]; omega), hT]
    have hcv := two_bytes (P := Tryd.prog) Tryd.underlying22 Tryd.underlying5 Tryd.underlying9 X6 X7 x6 x7 f6 f7
    have hgl := K.out.glt
    clear hT f6 f7 hl5 hs1 hs2 HS
    generalize zs.getD 5 0 = z5 at *
    generalize zs.getD 6 0 = z6 at *
    generalize zs.getD 7 0 = z7 at *
    go_region_with (first | (go_at_call 8; refine (HDec.out _ ?_).mono ?_; (first | exact K.out.drew | exact (K.out.alloc _).drew | exact K.out.drew.alloc _); rintro e wy ⟨rfl, hb1, K1, r5, r6, r7⟩; (try have y0 := (hb1.cell (p := ⟨w1.heap.size, 0, none⟩) (by simp)).trans (World.news_of_block (heap_alloc_new w1 _) 0 _ rfl)); (try have y1 := (hb1.cell (p := ⟨w1.heap.size, 1, none⟩) (by simp)).trans (World.news_of_block (heap_alloc_new w1 _) 1 _ rfl))))
    all_goals (go_wp2_with fail; go_meet; exact ⟨T, rfl, hTs, (by first | exact K1 | exact K1.out.alloc _)⟩)
  case rest =>
    obtain ⟨T, rfl, hT, KX⟩ := hcut
    clear K
    have b0 := HS.out.at_ 0 (by omega)
    have b1 := HS.out.at_ 1 (by omega)
    have b2 := HS.out.at_ 2 (by omega)
    have b3 := HS.out.at_ 3 (by omega)
    have b4 := HS.out.at_ 4 (by omega)
    obtain ⟨Hx, hHx⟩ : ∃ Hx : ByteArray, Hx = ⟨(hexL T.data.toList).toArray⟩ := ⟨_, rfl⟩
    have hsz : Hx.size = 2 * T.size := by
      rw [hHx]
      show (hexL T.data.toList).toArray.size = _
      simp only [List.size_toArray, hexL_length]
      simp
    have HC1 : ∀ W, Calls Tryd.prog 9 #[.string T] W fun e w' => e = .returned (.tuple #[.string Hx, .bool true]) ∧ Below W.heap.size W w' := by
      intro W
      have h := impl_Hex_short T W hT.out
      rw [← hHx] at h
      exact h
    have HC2 : ∀ W, Calls Tryd.prog 10 #[.string Hx] W fun e w' => e = .returned (.tuple #[.string T, .bool true]) ∧ Below W.heap.size W w' := by
      intro W
      have h := impl_Unhex Hx W (by have := hT.out; unfold maxLen; omega)
      have U := un_back T hT.out
      rw [← hHx] at U
      rw [U.1, U.2] at h
      exact h
    obtain ⟨nn, hn⟩ : ∃ nn : Int, IntKind.i64.wrap (zs.getD 0 0 * 10000 + zs.getD 1 0) = nn := ⟨_, rfl⟩
    have n1 : IntKind.i64.wrap (zs.getD 0 0 * 10000) = zs.getD 0 0 * 10000 := IntWalk.i64_in _ (by omega)
    have n2 : 0 ≤ nn ∧ nn ≤ 1000000000 := by
      rw [IntWalk.i64_in _ (by omega)] at hn
      omega
    obtain ⟨q, hq⟩ : ∃ q : Int, IntKind.i64.wrap (zs.getD 2 0 - 5000) = q := ⟨_, rfl⟩
    obtain ⟨r, hr⟩ : ∃ r : Int, IntKind.i64.wrap (-(zs.getD 3 0)) = r := ⟨_, rfl⟩
    have r1 : r ≤ zs.getD 4 0 := by
      rw [IntWalk.i64_in _ (by omega)] at hr
      omega
    obtain ⟨b, hbr⟩ : ∃ b : Int, b = brI q r (zs.getD 4 0) := ⟨_, rfl⟩
    have bb := brI_in (n := q) r1
    rw [← hbr] at bb
    have HC3 : ∀ W, Calls Tryd.prog 12 #[.int .i64 q, .int .i64 r, .int .i64 (zs.getD 4 0)] W fun e w' => e = .returned (.int .i64 b) ∧ W = w' := by
      intro W
      have h := brought_any q r (zs.getD 4 0) W
      rw [← hbr] at h
      exact h
    have HC4 : ∀ W, Calls Tryd.prog 12 #[.int .i64 b, .int .i64 r, .int .i64 (zs.getD 4 0)] W fun e w' => e = .returned (.int .i64 b) ∧ W = w' := by
      intro W
      have h := brought_any b r (zs.getD 4 0) W
      rw [brI_stays bb.1 bb.2] at h
      exact h
    have HC5 : ∀ W, Tens W → Calls Tryd.prog 8 #[.int .i64 nn] W fun e w' => e = .returned (.string ⟨(Lib.itoa nn).toArray⟩) ∧ Below W.heap.size W w' := fun W ht => impl_Decimal nn W (by omega) (by omega) ht
    have HC6 : ∀ W, Tens W → Errs W → Calls Tryd.prog 11 #[.string ⟨(Lib.itoa nn).toArray⟩] W fun e w' => e = .returned (.tuple #[.int .i64 nn, .bool true]) ∧ Below W.heap.size W w' := by
      intro W ht he
      obtain ⟨m, hm⟩ : ∃ m : Nat, nn = (m : Int) := ⟨nn.toNat, by omega⟩
      have hl := dec_len m (by omega)
      have h := impl_ReadDecimal ⟨(Lib.itoa nn).toArray⟩ W (by
        show (Lib.itoa nn).toArray.size ≤ _
        rw [hm, itoa_nat]
        simp
        omega) ht he
      have R := r_yes (s := ⟨(Lib.itoa nn).toArray⟩) (n := m) (by omega) (by rw [hm, itoa_nat])
      rw [R.1, R.2, ← hm] at h
      exact h
    have HC1 := Lib.hid HC1
    have HC2 := Lib.hid HC2
    have HC3 := Lib.hid HC3
    have HC4 := Lib.hid HC4
    have HC5 := Lib.hid HC5
    have HC6 := Lib.hid HC6
    have HK : ∀ W, Kept w W g cap zs → W.cell? ⟨g, 0, none⟩ = some (.int .i64 (zs.getD 0 0)) ∧ W.cell? ⟨g, 1, none⟩ = some (.int .i64 (zs.getD 1 0)) ∧ W.cell? ⟨g, 2, none⟩ = some (.int .i64 (zs.getD 2 0)) ∧ W.cell? ⟨g, 3, none⟩ = some (.int .i64 (zs.getD 3 0)) ∧ W.cell? ⟨g, 4, none⟩ = some (.int .i64 (zs.getD 4 0)) :=
      fun W hk => ⟨hk.cell 0 (by omega), hk.cell 1 (by omega), hk.cell 2 (by omega), hk.cell 3 (by omega), hk.cell 4 (by omega)⟩
    have HK := Lib.hid HK
    generalize zs.getD 0 0 = z0 at *
    generalize zs.getD 1 0 = z1 at *
    generalize zs.getD 2 0 = z2 at *
    generalize zs.getD 3 0 = z3 at *
    generalize zs.getD 4 0 = z4 at *
    have t1 : ((Hx.size : Int) == 2 * (T.size : Int)) = true := by rw [hsz]; simp
    have hTl := hT.out
    clear hHx hbr hT HS
    go_wp2_with fail
    refine (HC1.out _).mono ?_
    rintro e w2 ⟨rfl, hb2⟩
    have K2 := Lib.hid (KX.out.next hb2)
    clear hb2 KX HC1
    go_wp2_with fail
    refine (HC2.out _).mono ?_
    rintro e w3 ⟨rfl, hb3⟩
    have K3 := Lib.hid (K2.out.next hb3)
    clear hb3 K2 HC2
    obtain ⟨k0, k1, k2, k3, k4⟩ := HK.out _ K3.out
    go_wp2_with fail
    go_quiet (fail)
    go_wp2_with fail
    have K4 := Lib.hid (K3.out.next (draws_below w3 nq))
    clear k0 k1 k2 k3 k4 K3
    generalize w3.drewN nq = w4 at *
    refine (HC5.out _ K4.out.tens).mono ?_
    rintro e w5 ⟨rfl, hb5⟩
    have K5 := Lib.hid (K4.out.next hb5)
    clear hb5 K4
    go_wp2_with fail
    refine (HC6.out _ K5.out.tens K5.out.errs).mono ?_
    rintro e w6 ⟨rfl, hb6⟩
    have K6 := Lib.hid (K5.out.next hb6)
    clear hb6 K5
    obtain ⟨k0, k1, k2, k3, k4⟩ := HK.out _ K6.out
    have HB := Lib.hid K6.out.below
    go_wp2_with fail
    go_quiet ((go_at_call 12; exact Calls.quiet_of_same ((HC3.out _).mono fun _ _ h => ⟨h.1, h.2.symm⟩)))
    go_wp2_with fail
    have K7 := Lib.hid (K6.out.next (draws_below w6 nq))
    clear k0 k1 k2 k3 k4 K6 HB
    generalize w6.drewN nq = w7 at *
    obtain ⟨k0, k1, k2, k3, k4⟩ := HK.out _ K7.out
    have HB := Lib.hid K7.out.below
    have t2 : IntKind.i64.wrap (2 * (T.size : Int)) = 2 * (T.size : Int) := IntWalk.i64_in _ (by omega)
    have t3 : decide (r ≤ b) = true := by simpa using bb.1
    have t4 : decide (b ≤ z4) = true := by simpa using bb.2
    have t5 := bb.1
    have t6 := bb.2
    clear bb hn n1 n2 b0 b1 b2 b3 b4
    go_quiet ((go_at_call 12; exact Calls.quiet_of_same ((HC4.out _).mono fun _ _ h => ⟨h.1, h.2.symm⟩)))
    go_wp2
    go_ret
    exact ⟨rfl, HB.out.trans ((draws_below w7 nq).mono HB.out.size)⟩
end Go.Proofs.YtbncjdieilcjjaaDoor
