/-
  The contracts of impl's productUncarried and carriedFrom.
-/
import Derived.Test.YtdbjjnbmbeabeaaGreatIMid
import Derived.Test.YtdbjjnbmbeabeaaGreatXRow
namespace Go.Proofs.YtdbjjnbmbeabeaaGreat
open Go.RowKit

theorem prod_nums {x y z n : Nat} (hx : x < 16777216) (hy : y < 16777216) (hz : z < 36028797018963968) (hn : z + x * y = n) :
    ∃ p : Nat, IntKind.u64.wrap ((x : Int) * (y : Int)) = (p : Int) ∧ IntKind.u64.wrap ((z : Int) + (p : Int)) = (n : Int) ∧ n < 18446744073709551616 := by
  have h : x * y ≤ 16777215 * 16777215 := Nat.mul_le_mul (by omega) (by omega)
  obtain ⟨p, hp⟩ : ∃ p, x * y = p := ⟨_, rfl⟩
  have e : (x : Int) * (y : Int) = (p : Int) := by rw [← hp]; simp
  rw [hp] at h hn
  refine ⟨p, ?_, ?_, by omega⟩
  · rw [e, IntKind.wrap_u64]; omega
  · rw [IntKind.wrap_u64]; omega
theorem ProdW.fits {x y l : List Nat} {L i j : Nat} (h : ProdW x y L i j l) (hi : i ≤ 54) (k : Nat) : l.getD k 0 < 36028797018963968 := by
  have := h.bd k
  refine MM_fits (a := if k < i + j then i + 1 else i) (by split <;> omega) ?_
  omega
set_option maxRecDepth 8000 in
set_option maxHeartbeats 2000000 in
theorem product_any (gx gy L : Nat) (lx ly : List Nat) (w : World) (hx : RowK .u32 37 w gx lx) (hy : RowK .u32 37 w gy ly) (vx : LRow lx L) (vy : LRow ly L) (hL : L ≤ 54) :
    Calls Tryz.prog 24 #[.pointer (some ⟨gx, 0, none⟩), .pointer (some ⟨gy, 0, none⟩), .int .i64 (L : Int)] w (AggK .u64 (SumW (lV lx * lV ly) L) w) := by
  obtain ⟨Z, hZ⟩ : ∃ Z, rowK .u64 Z108 = Z := ⟨_, rfl⟩
  have hz := (zero_k Tryz.infoR64).1
  rw [hZ] at hz
  have HZ := Lib.hid hZ
  have HX := Lib.hid hx
  have HY := Lib.hid hy
  have HVX := Lib.hid vx
  have HVY := Lib.hid vy
  have ltx := hx.lt
  have lty := hy.lt
  have HW := Lib.hid (WorkK.start .u64 41 w HZ.out)
  have n1 : ¬ gx = w.heap.size + 1 := by omega
  have n2 : ¬ gy = w.heap.size + 1 := by omega
  clear hZ hx hy vx vy
  go_enter Tryz.func24, Tryz.ntmps24
  go_wp2
  clear hz HZ
  go_loopw [11] (fun iv wr => ∃ (i : Nat) (l : List Nat), i ≤ L ∧ iv = .int .i64 i ∧ Hid (ProdW lx ly L i 0 l) ∧ Hid (WorkK .u64 41 w wr l)) (fun iv _ => L - (intOf iv).toNat)
  case atStart => exact ⟨0, Z108, Nat.zero_le _, rfl, ProdW.start lx ly L, HW⟩
  case round =>
    clear HW
    obtain ⟨i, l, hiL, rfl, hM, hW⟩ := hrel
    by_cases hlt : i < L
    · have hlt' : (i : Int) < (L : Int) := by omega
      go_wp2
      go_loopw [15] (fun kv wr => ∃ (k : Nat) (Q : List Nat), k ≤ L ∧ kv = .int .i64 k ∧ Hid (ProdW lx ly L i k Q) ∧ Hid (WorkK .u64 41 w wr Q)) (fun kv _ => L - (intOf kv).toNat)
      case atStart => exact ⟨0, l, Nat.zero_le _, rfl, hM, hW⟩
      case round =>
        clear hW hM
        obtain ⟨k, Q, hkc, rfl, hI, hW⟩ := hrel
        by_cases hk : k < L
        · have hk' : (k : Int) < (L : Int) := by omega
          obtain ⟨x1, _⟩ := (HX.out.below hW.out.b ltx).cell (i := i) (by omega)
          obtain ⟨y1, _⟩ := (HY.out.below hW.out.b lty).cell (i := k) (by omega)
          obtain ⟨z1, f1⟩ := hW.out.row.cell (i := i + k) (by omega)
          have bx := getD_lt HVX.out.lim i
          have by_ := getD_lt HVY.out.lim k
          have bz := hI.out.fits (by omega) (i + k)
          have hNx := hI.out.next (n := Q.getD (i + k) 0 + lx.getD i 0 * ly.getD k 0) hlt hk hL HVX.out.lim HVY.out.lim rfl
          obtain ⟨x, hx⟩ : ∃ x, lx.getD i 0 = x := ⟨_, rfl⟩
          obtain ⟨y, hy⟩ : ∃ y, ly.getD k 0 = y := ⟨_, rfl⟩
          obtain ⟨z, hz⟩ : ∃ z, Q.getD (i + k) 0 = z := ⟨_, rfl⟩
          rw [hx] at x1 bx hNx
          rw [hy] at y1 by_ hNx
          rw [hz] at z1 bz hNx
          obtain ⟨n, hn⟩ : ∃ n, z + x * y = n := ⟨_, rfl⟩
          obtain ⟨p, m1, m2, m3⟩ := prod_nums bx by_ bz hn
          rw [hn] at hNx
          have a1 := u64_of (x := x) (by omega)
          have a2 := u64_of (x := y) (by omega)
          have HN := Lib.hid hNx
          have HW4 := Lib.hid ((hW.out.drewN 1).set (i + k) n)
          change Hid (WorkK .u64 41 w (wr.drew.setCell _ _) (Q.set (i + k) n)) at HW4
          have q0 : IntKind.i64.wrap ((i : Int) + (k : Int)) = (i : Int) + (k : Int) := IntWalk.i64_in _ (by omega)
          have q1 : (0 : Int) ≤ (i : Int) + (k : Int) := by omega
          have q2 : (i : Int) + (k : Int) < 108 := by omega
          have q3 : ((i : Int) + (k : Int)).toNat = i + k := by omega
          have q4 : (0 : Int) ≤ (i : Int) := by omega
          have q5 : (i : Int) < 108 := by omega
          have q6 : (0 : Int) ≤ (k : Int) := by omega
          have q7 : (k : Int) < 108 := by omega
          clear hx hy hz hn hI hW hNx m3
          go_wp2
          go_still_tail 20, (by kernel_rfl)
          change wpList _ _ _ _ _ wr.drew
          change wr.drew.cell? _ = _ at z1
          change wr.drew.frozen? _ = _ at f1
          clear x1 y1 m1 m2 a1 a2 bx by_ bz
          generalize wr.drew = wr at *
          go_wp2
          go_roundw
          case rel => exact ⟨k + 1, Q.set (i + k) n, by omega, by go_num, HN, HW4⟩
          case measure => simp [intOf]; omega
        · obtain rfl : k = L := by omega
          have hk' : ¬ (k : Int) < (k : Int) := by omega
          have HD := Lib.hid (hI.out.row HVY.out.zero)
          clear hI
          go_wp2
          go_roundw
          case rel => exact ⟨i + 1, Q, by omega, by go_num, HD, hW⟩
          case measure => simp [intOf]; omega
    · obtain rfl : i = L := by omega
      have hlt' : ¬ (i : Int) < (i : Int) := by omega
      have HD := Lib.hid (hM.out.done HVX.out.zero hL)
      have hlen := Lib.hid hM.out.len
      have HB := Lib.hid (below_setRow hW.out.b (Nat.le_refl _) (rowK .u64 l))
      have HO := Lib.hid (hW.out.out.stored hlen.out)
      clear hM
      go_wp2_with (first | refine load_k kt64 rfl (.tmp 7) rfl rfl hW.out.row ?_ | refine store_k kt64 rfl (.tmp 6) (.tmp 40) rfl rfl rfl hW.out.out hlen.out ?_)
      exact bodyPost_ret (HO.out.result kt64 Tryz.results24 _ rfl) rfl ⟨l, rfl, hlen.out, HD.out, HB.out⟩

/-- What is carried. -/
def CarP (l : List Nat) (L : Nat) (o : List Nat) : Prop := LRow o (L + 1) ∧ lV o = lV (l.drop L)
set_option maxRecDepth 8000 in
set_option maxHeartbeats 2000000 in
theorem carried_any (g L P : Nat) (l : List Nat) (w : World) (h : RowK .u64 41 w g l) (hL : L ≤ 54) (hf : ∀ k, l.getD k 0 < 36028797018963968) (hz2 : ∀ k, 2 * L ≤ k → l.getD k 0 = 0) (hV : lV (l.drop L) < 2 * P) (hP : P < 16777216 ^ L) :
    Calls Tryz.prog 49 #[.pointer (some ⟨g, 0, none⟩), .int .i64 (L : Int)] w (AggK .u32 (CarP l L) w) := by
  obtain ⟨Z, hZ⟩ : ∃ Z, rowK .u32 Z108 = Z := ⟨_, rfl⟩
  have hz := (zero_k Tryz.infoR32).1
  rw [hZ] at hz
  have HZ := Lib.hid hZ
  have HX := Lib.hid h
  have HF := Lib.hid hf
  have HE := Lib.hid (fun c o (h : CarW l L L c o) => h.done hL hz2 hV hP)
  have ltx := h.lt
  have HW := Lib.hid (WorkK.start .u32 37 w HZ.out)
  have n1 : ¬ g = w.heap.size + 1 := by omega
  clear hZ h hf hz2 hV hP
  go_enter Tryz.func49, Tryz.ntmps49
  go_wp2
  clear hz HZ
  go_loopw [6, 9] (fun cv iv wr => ∃ (i c : Nat) (o : List Nat), i ≤ L ∧ c < 17179869184 ∧ iv = .int .i64 i ∧ cv = .int .u64 c ∧ Hid (CarW l L i c o) ∧ Hid (WorkK .u32 37 w wr o)) (fun _ iv _ => L - (intOf iv).toNat)
  case atStart => exact ⟨0, 0, Z108, Nat.zero_le _, by omega, rfl, rfl, CarW.start l L, HW⟩
  case round =>
    clear HW
    obtain ⟨i, c, o, hiL, hc, rfl, rfl, hI, hW⟩ := hrel
    by_cases hlt : i < L
    · have hlt' : (i : Int) < (L : Int) := by omega
      obtain ⟨x1, _⟩ := (HX.out.below hW.out.b ltx).cell (i := L + i) (by omega)
      obtain ⟨z1, f1⟩ := hW.out.row.cell (i := i) (by omega)
      have bx := HF.out (L + i)
      have hNx := hI.out.next (n := c + l.getD (L + i) 0) (by omega) bx rfl
      obtain ⟨x, hx⟩ : ∃ x, l.getD (L + i) 0 = x := ⟨_, rfl⟩
      rw [hx] at x1 bx hNx
      generalize o.getD i 0 = z at *
      obtain ⟨n, hn⟩ : ∃ n, c + x = n := ⟨_, rfl⟩
      rw [hn] at hNx
      have hnI : (c : Int) + (x : Int) = (n : Int) := by omega
      have hnb : n < 36028814198833152 := by omega
      obtain ⟨u, hu⟩ : ∃ u, n % 16777216 = u := ⟨_, rfl⟩
      obtain ⟨v, hv⟩ : ∃ v, n / 16777216 = v := ⟨_, rfl⟩
      have hv2 : v < 17179869184 := by omega
      have hu2 : u < 16777216 := by omega
      have m1 : IntKind.u64.wrap (n : Int) = (n : Int) := by rw [IntKind.wrap_u64]; omega
      have m2 : (n : Int) % 16777216 = (u : Int) := by omega
      have m3 : (n : Int) / 16777216 = (v : Int) := by omega
      have m4 : IntKind.u32.wrap (u : Int) = (u : Int) := by rw [IntKind.wrap_u32]; omega
      rw [hu, hv] at hNx
      have HN := Lib.hid hNx
      have HW3 := Lib.hid (hW.out.set i u)
      have q1 : (0 : Int) ≤ (L : Int) + (i : Int) := by omega
      have q2 : (L : Int) + (i : Int) < 108 := by omega
      have q3 : ((L : Int) + (i : Int)).toNat = L + i := by omega
      have q4 : (i : Int) < 108 := by omega
      clear hx hn hu hv hI hW hNx bx
      go_wp2
      go_roundw
      case rel => exact ⟨i + 1, v, o.set i u, by omega, hv2, by go_num, rfl, HN, HW3⟩
      case measure => simp [intOf]; omega
    · obtain rfl : i = L := by omega
      have hlt' : ¬ (i : Int) < (i : Int) := by omega
      obtain ⟨hc2, hR, hV⟩ := HE.out c o hI.out
      obtain ⟨z1, f1⟩ := hW.out.row.cell (i := i) (by omega)
      generalize o.getD i 0 = z at *
      have HD := Lib.hid (And.intro hR hV)
      have hlen := Lib.hid hR.len
      have HW3 := Lib.hid (hW.out.set i c)
      have HB := Lib.hid (below_setRow HW3.out.b (Nat.le_refl _) (rowK .u32 (o.set i c)))
      have HO := Lib.hid (HW3.out.out.stored hlen.out)
      have m4 : IntKind.u32.wrap (c : Int) = (c : Int) := by rw [IntKind.wrap_u32]; omega
      have m5 : (c : Int) % 4294967296 = (c : Int) := by omega
      have q4 : (i : Int) < 108 := by omega
      clear hI hW hR hV HE
      go_wp2_with (first | refine load_k kt32 rfl (.tmp 5) rfl rfl HW3.out.row ?_ | refine store_k kt32 rfl (.tmp 4) (.tmp 33) rfl rfl rfl HW3.out.out hlen.out ?_)
      exact bodyPost_ret (HO.out.result kt32 Tryz.results49 _ rfl) rfl ⟨_, rfl, hlen.out, HD.out, HB.out⟩
end Go.Proofs.YtdbjjnbmbeabeaaGreat
