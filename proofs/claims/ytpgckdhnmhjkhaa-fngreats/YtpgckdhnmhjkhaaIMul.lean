/-
  The contract of impl's mulRows.
-/
import Derived.Test.YtpgckdhnmhjkhaaIAdd
namespace Go.Proofs.Ytpgckdhnmhjkhaa
open Go.RowKit

structure MulW (lx ly : List Nat) (cy i : Nat) (l : List Nat) : Prop where
  lim : W.Limbs l
  len : l.length = 81
  val : W.lV l = W.lV (lx.take i) * W.lV ly
  zero : ∀ k, i + cy ≤ k → l.getD k 0 = 0
theorem MulW.start (lx ly : List Nat) (cy : Nat) : MulW lx ly cy 0 Z81 := ⟨Z81_lim, Z81_len, by rw [Z81_val]; simp [W.lV], fun k _ => Z81_getD k⟩
theorem MulW.inner {lx ly l : List Nat} {cy i : Nat} (h : MulW lx ly cy i l) : W.MulIn lx ly i l 0 0 l := ⟨h.lim, rfl, by simp [W.lV], fun _ _ => rfl⟩
theorem MulW.done {lx ly l Q : List Nat} {cy i c : Nat} (h : MulW lx ly cy i l) (k : W.MulIn lx ly i l cy c Q) (hi : i + cy < 81) (zy : ∀ k, cy ≤ k → ly.getD k 0 = 0) (hc : c < 4294967296) : MulW lx ly cy (i + 1) (Q.set (i + cy) c) := by
  obtain ⟨h1, h2, h3, h4⟩ := k
  have hz : Q.getD (i + cy) 0 = 0 := by rw [h4 _ (Nat.le_refl _)]; exact h.zero _ (Nat.le_refl _)
  refine ⟨h1.set _ hc, by rw [List.length_set, h2]; exact h.len, ?_, fun j hj => by rw [W.getD_set_ne _ (by omega), h4 j (by omega)]; exact h.zero j (by omega)⟩
  have hs := W.lV_set Q (i + cy) c (by rw [h2, h.len]; exact hi)
  rw [hz, Nat.mul_zero, Nat.add_zero] at hs
  rw [hs, h3, h.val, W.lV_take_all zy, W.lV_take_succ, Nat.add_mul, Nat.mul_comm (lx.getD i 0)]
theorem mul_bd {x y z c p s n : Nat} (hx : x < 4294967296) (hy : y < 4294967296) (hz : z < 4294967296) (hc : c < 4294967296) (hp : x * y = p) (hs : p + z = s) (hn : c + s = n) :
    ((x : Int) * (y : Int) = (p : Int)) ∧ IntKind.u64.wrap (p : Int) = (p : Int) ∧ IntKind.u64.wrap ((p : Int) + (z : Int)) = (s : Int) ∧ IntKind.u64.wrap ((c : Int) + (s : Int)) = (n : Int) ∧ n / 4294967296 < 4294967296 := by
  have h1 : p ≤ 4294967295 * 4294967295 := by rw [← hp]; exact Nat.mul_le_mul (by omega) (by omega)
  refine ⟨by rw [← hp]; simp, by rw [IntKind.wrap_u64]; omega, by rw [IntKind.wrap_u64]; omega, by rw [IntKind.wrap_u64]; omega, by omega⟩
theorem u64_of {x : Nat} (h : x < 4294967296) : IntKind.u64.wrap (x : Int) = (x : Int) := by rw [IntKind.wrap_u64]; omega
theorem u32_of {n y : Nat} (h : n % 4294967296 = y) : IntKind.u32.wrap (n : Int) = (y : Int) ∧ (n : Int) % 4294967296 = (y : Int) := by rw [IntKind.wrap_u32]; exact ⟨by omega, by omega⟩

set_option maxRecDepth 8000 in
set_option maxHeartbeats 4000000 in
theorem mulRows_any (gx gy cx cy : Nat) (lx ly : List Nat) (w : World) (hx : RowI w gx lx cx) (hy : RowI w gy ly cy) (vx : RV lx cx) (vy : RV ly cy) (hcx : cx ≤ 40) (hcy : cy ≤ 40) :
    Calls Try.prog 43 #[.pointer (some ⟨gx, 0, none⟩), .pointer (some ⟨gy, 0, none⟩)] w (AggPost (fun l c => W.lV l = W.lV lx * W.lV ly ∧ c ≤ 80) w) := by
  obtain ⟨Z, hZ⟩ : ∃ Z, rowC Z81 0 = Z := ⟨_, rfl⟩
  have hz := zero_row.1
  rw [hZ] at hz
  have HZ := Lib.hid hZ
  have HX := Lib.hid hx
  have HY := Lib.hid hy
  have HVX := Lib.hid vx
  have HVY := Lib.hid vy
  have ltx := hx.lt
  have lty := hy.lt
  have HW := Work.start w HZ.out
  obtain ⟨x1, x2⟩ := (HX.out.below HW.b ltx).cnt
  have HW1 := Lib.hid HW
  have n1 : ¬ gx = w.heap.size + 1 := by omega
  have n2 : ¬ gy = w.heap.size + 1 := by omega
  clear hZ hx hy vx vy HW
  go_enter Try.func43, Try.ntmps43
  go_wp2
  clear x1 x2 hz
  go_loopw [13] (fun iv wr => ∃ (i : Nat) (l : List Nat), i ≤ cx ∧ iv = .int .i64 i ∧ Hid (MulW lx ly cy i l) ∧ Hid (Work w wr l 0)) (fun iv _ => cx - (intOf iv).toNat)
  case atStart => exact ⟨0, Z81, Nat.zero_le _, rfl, MulW.start lx ly cy, HW1⟩
  case round =>
    clear HW1
    obtain ⟨i, l, hicx, rfl, hM, hW⟩ := hrel
    by_cases hlt : i < cx
    · have hlt' : (i : Int) < (cx : Int) := by omega
      have hdi : decide (i < cx) = true := by simpa using hlt
      obtain ⟨y1, _⟩ := (HY.out.below hW.out.b lty).cnt
      go_wp2
      clear y1
      go_loopw [7, 20] (fun cv kv ws => ∃ (k c : Nat) (Q : List Nat), k ≤ cy ∧ c < 4294967296 ∧ kv = .int .i64 k ∧ cv = .int .u64 c ∧ Hid (W.MulIn lx ly i l k c Q) ∧ Hid (Work w ws Q 0)) (fun _ kv _ => cy - (intOf kv).toNat)
      case atStart => exact ⟨0, 0, l, Nat.zero_le _, by omega, rfl, rfl, hM.out.inner, hW⟩
      case round =>
        clear hW
        obtain ⟨k, c, Q, hkc, hc, rfl, rfl, hI, hW⟩ := hrel
        by_cases hk : k < cy
        · have hk' : (k : Int) < (cy : Int) := by omega
          obtain ⟨x1, _⟩ := (HX.out.below hW.out.b ltx).cell (k := i) (by omega)
          obtain ⟨y1, _⟩ := (HY.out.below hW.out.b lty).cell (k := k) (by omega)
          obtain ⟨z1, f1⟩ := hW.out.row.cell (k := i + k) (by omega)
          have bx := W.getD_lt HVX.out.lim i
          have by_ := W.getD_lt HVY.out.lim k
          have bz := W.getD_lt hI.out.1 (i + k)
          have hNx := hI.out.next (n := Q.getD (i + k) 0 + lx.getD i 0 * ly.getD k 0 + c) (by rw [hW.out.row.len]; omega) rfl
          obtain ⟨x, hx⟩ : ∃ x, lx.getD i 0 = x := ⟨_, rfl⟩
          obtain ⟨y, hy⟩ : ∃ y, ly.getD k 0 = y := ⟨_, rfl⟩
          obtain ⟨z, hz⟩ : ∃ z, Q.getD (i + k) 0 = z := ⟨_, rfl⟩
          rw [hx] at x1 bx hNx
          rw [hy] at y1 by_ hNx
          rw [hz] at z1 bz hNx
          obtain ⟨p, hp⟩ : ∃ p, x * y = p := ⟨_, rfl⟩
          obtain ⟨s, hs⟩ : ∃ s, p + z = s := ⟨_, rfl⟩
          obtain ⟨n, hn⟩ : ∃ n, c + s = n := ⟨_, rfl⟩
          obtain ⟨m1, m2, m3, m4, m5⟩ := mul_bd bx by_ bz hc hp hs hn
          rw [show z + x * y + c = n from by rw [hp]; omega] at hNx
          obtain ⟨u, hu⟩ : ∃ u, n % 4294967296 = u := ⟨_, rfl⟩
          obtain ⟨v, hv⟩ : ∃ v, n / 4294967296 = v := ⟨_, rfl⟩
          rw [hu, hv] at hNx
          rw [hv] at m5
          obtain ⟨u1, u2⟩ := u32_of hu
          have u3 : (n : Int) / 4294967296 = (v : Int) := by omega
          have a1 := u64_of bx
          have a2 := u64_of by_
          have a3 := u64_of bz
          have HN := Lib.hid hNx
          have HW3 := Lib.hid ((hW.out.drewN 1).set (k := i + k) u (by omega))
          have HW4 := Lib.hid (fun nq => (hW.out.drewN nq).set (k := i + k) u (by omega))
          have q0 : IntKind.i64.wrap ((i : Int) + (k : Int)) = (i : Int) + (k : Int) := IntWalk.i64_in _ (by omega)
          have q1 : (0 : Int) ≤ (i : Int) + (k : Int) := by omega
          have q2 : (i : Int) + (k : Int) < 81 := by omega
          have q3 : ((i : Int) + (k : Int)).toNat = i + k := by omega
          have q4 : (0 : Int) ≤ (i : Int) := by omega
          have q5 : (i : Int) < 81 := by omega
          have q6 : (0 : Int) ≤ (k : Int) := by omega
          have q7 : (k : Int) < 81 := by omega
          clear hx hy hz hp hs hn hu hv hI hW hNx HW3
          go_wp2_with fail
          go_quiet (fail)
          clear q0 m1 m2 m3 m4 a1 a2 a3
          go_wp2
          go_roundw
          case rel => exact ⟨k + 1, v, Q.set (i + k) u, by omega, m5, by go_num, rfl, HN, HW4.out _⟩
          case measure => simp [intOf]; omega
        · obtain rfl : k = cy := by omega
          have hk' : ¬ (k : Int) < (k : Int) := by omega
          obtain ⟨y1, _⟩ := (HY.out.below hW.out.b lty).cnt
          obtain ⟨z1, f1⟩ := hW.out.row.cell (k := i + k) (by omega)
          generalize Q.getD (i + k) 0 = z at *
          have HD := Lib.hid (hM.out.done hI.out (by omega) HVY.out.zero hc)
          have HW3 := Lib.hid (hW.out.set (k := i + k) c (by omega))
          have q1 : (0 : Int) ≤ (i : Int) + (k : Int) := by omega
          have q2 : (i : Int) + (k : Int) < 81 := by omega
          have q3 : ((i : Int) + (k : Int)).toNat = i + k := by omega
          have u1 : IntKind.u32.wrap (c : Int) = (c : Int) := by rw [IntKind.wrap_u32]; omega
          clear hI hW
          go_wp2
          go_roundw
          case rel => exact ⟨i + 1, Q.set (i + k) c, by omega, by go_num, HD, HW3⟩
          case measure => simp [intOf]; omega
    · obtain rfl : i = cx := by omega
      have hlt' : ¬ (i : Int) < (i : Int) := by omega
      have hv1 : W.lV l = W.lV lx * W.lV ly := by rw [hM.out.val, W.lV_take_all HVX.out.zero]
      have HD1 := Lib.hid hv1
      have HD3 := Lib.hid hM.out.len
      obtain ⟨E, hE⟩ : ∃ E, i + cy = E := ⟨_, rfl⟩
      have HW2 : Hid (Work w wr.drew l 0) := hW.out.drewN 1
      have HC := Lib.hid (countBelow_any (w.heap.size + 1) 0 E l _ HW2.out.row (by omega))
      have HR := Lib.hid (fun k (h : CountRel l E k) => And.intro (h.right hM.out.lim (by rw [← hE]; exact hM.out.zero)) h.le)
      obtain ⟨x1, x2⟩ := (HX.out.below hW.out.b ltx).cnt
      obtain ⟨y1, y2⟩ := (HY.out.below hW.out.b lty).cnt
      have e1 : IntKind.i64.wrap ((i : Int) + (cy : Int)) = (E : Int) := by rw [IntWalk.i64_in _ (by omega)]; omega
      have hE2 : E ≤ 80 := by omega
      clear hM hW hv1 hE
      go_wp2_with fail
      go_still_tail 9, (by kernel_rfl)
      change wpList _ _ _ _ _ wr.drew
      clear x1 x2 y1 y2 e1
      generalize wr.drew = wr at *
      go_wp2_with fail
      refine HC.out.mono ?_
      rintro e w1 ⟨cc, hcc, rfl, rfl⟩
      have HW4 := Lib.hid (HW2.out.setC cc)
      have HV := Lib.hid (HR.out cc hcc)
      clear HC HW2 HR hcc
      generalize (wr).setCell ⟨w.heap.size + 1, 81, none⟩ (.int .i64 (cc : Int)) = w2 at *
      have HB := Lib.hid (below_setRow HW4.out.b (Nat.le_refl _) (rowC l cc))
      have HO := Lib.hid (HW4.out.out.stored (c' := cc) HD3.out)
      go_wp2_with (first | refine load_at rfl (.tmp 5) rfl (w.heap.size + 1) l cc rfl HW4.out.row ?_ | refine store_at rfl (.tmp 4) (.tmp 79) rfl w.heap.size Z81 l 0 cc rfl rfl HW4.out.out HD3.out ?_)
      exact bodyPost_ret (HO.out.result Try.results43 _ rfl) rfl ⟨l, cc, rfl, HD3.out, HV.out.1, ⟨HD1.out, by have := HV.out.2; omega⟩, HB.out⟩
end Go.Proofs.Ytpgckdhnmhjkhaa
