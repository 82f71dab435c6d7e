/-
  The contract of spec.l02Out: the one text of the number of a row of limbs.
-/
import Derived.Test.YtkpcocdflcpnoaaNTrim
namespace Go.Proofs.Ytkpcocdflcpnoaa
open Go.RowKit

theorem Try.infoB : (Try.prog.info? 5).map (fun i => (i.zero, i.size, i.bytes)) = some (some (.int .u8 0), 1, 1) := by kernel_rfl
/-- The bytes of limbs, the highest first. -/
def be : List Nat → List UInt8
  | [] => []
  | x :: r => be r ++ [UInt8.ofNat (x / 65536 % 256), UInt8.ofNat (x / 256 % 256), UInt8.ofNat (x % 256)]
theorem be_length (l : List Nat) : (be l).length = 3 * l.length := by
  induction l with
  | nil => rfl
  | cons x r ih => simp only [be, List.length_append, ih, List.length_cons, List.length_nil]; omega
theorem be_snoc (l : List Nat) (x : Nat) : be (l ++ [x]) = [UInt8.ofNat (x / 65536 % 256), UInt8.ofNat (x / 256 % 256), UInt8.ofNat (x % 256)] ++ be l := by
  induction l with
  | nil => rfl
  | cons y r ih => rw [List.cons_append, be, ih, be, List.append_assoc]
theorem bN_be {l : List Nat} (h : Limbs l) : bN (be l) = lV l := by
  induction l with
  | nil => rfl
  | cons x r ih =>
    have h1 := h x (by simp)
    rw [be, bN_append, ih (fun y hy => h y (by simp [hy])), lV_cons]
    have e : bN [UInt8.ofNat (x / 65536 % 256), UInt8.ofNat (x / 256 % 256), UInt8.ofNat (x % 256)] = x := by
      simp only [bN, List.foldl_cons, List.foldl_nil]
      rw [byte_nat _ (by omega), byte_nat _ (by omega), byte_nat _ (by omega)]
      omega
    rw [e]
    simp only [List.length_cons, List.length_nil]
    omega
/-- What the row of bytes holds behind i limbs. -/
def outB (l : List Nat) (i : Nat) : List UInt8 := List.replicate (3 * (l.length - i)) 0 ++ be (l.take i)
theorem outB_length {l : List Nat} {i : Nat} (h : i ≤ l.length) : (outB l i).length = 3 * l.length := by
  unfold outB
  rw [List.length_append, List.length_replicate, be_length, List.length_take]; omega
theorem outB_next {l : List Nat} {i : Nat} (h : i < l.length) : (((outB l i).set (3 * (l.length - i) - 1) (UInt8.ofNat (l[i] % 256))).set (3 * (l.length - i) - 2) (UInt8.ofNat (l[i] / 256 % 256))).set (3 * (l.length - i) - 3) (UInt8.ofNat (l[i] / 65536 % 256)) = outB l (i + 1) := by
  have e1 : 3 * (l.length - i) = 3 * (l.length - (i + 1)) + 3 := by omega
  unfold outB
  rw [take_snocN l h, be_snoc, e1]
  generalize 3 * (l.length - (i + 1)) = p
  have e2 : List.replicate (p + 3) (0 : UInt8) = List.replicate p 0 ++ [0, 0, 0] := by
    rw [← List.replicate_append_replicate]; rfl
  rw [e2, List.append_assoc]
  rw [List.set_append_right _ _ (by simp), List.set_append_right _ _ (by simp), List.set_append_right _ _ (by simp)]
  simp only [List.length_replicate]
  rw [show p + 3 - 1 - p = 2 from by omega, show p + 3 - 2 - p = 1 from by omega, show p + 3 - 3 - p = 0 from by omega]
  rfl
theorem byteCells_set (l : List UInt8) (i : Nat) (c : UInt8) : (Lib.byteCells l).set i (.int .u8 (c.toNat : Int)) = Lib.byteCells (l.set i c) := by simp [Lib.byteCells, List.map_set]
/-- What leads with noughts. -/
def Lead (l : List UInt8) (m : Nat) : Prop := l.take m = List.replicate m 0
theorem Lead.zero (l : List UInt8) : Lead l 0 := by simp [Lead]
theorem Lead.next {l : List UInt8} {m : Nat} (h : Lead l m) (hm : m < l.length) (hz : l[m] = 0) : Lead l (m + 1) := by
  unfold Lead at *
  rw [List.take_succ_eq_append_getElem hm, h, hz, ← List.replicate_succ']
theorem Lead.val {l : List UInt8} {m : Nat} (h : Lead l m) : bN (l.drop m) = bN l := by
  have := List.take_append_drop m l
  rw [h] at this
  conv => rhs; rw [← this]
  rw [bN_zeros]
theorem Lead.text {l : List UInt8} {m n : Nat} (h : Lead l m) (hv : bN l = n) (hm : m = l.length ∨ ∃ hm : m < l.length, l[m] ≠ 0) : l.drop m = gT n := by
  rw [← hv, ← h.val]
  refine (gT_bN _ ?_).symm
  rcases hm with rfl | ⟨hm, hz⟩
  · rw [List.drop_length]; rfl
  · rw [List.drop_eq_getElem_cons hm]
    simp only [headOk, decide_eq_true_eq]
    intro e
    exact hz (by rw [← UInt8.toNat_inj]; simpa using e)

/-- The three bytes of a limb, as the walk writes them. -/
theorem limb_bytes (x : Nat) : ∃ c0 c1 c2 : UInt8, c0 = UInt8.ofNat (x % 256) ∧ c1 = UInt8.ofNat (x / 256 % 256) ∧ c2 = UInt8.ofNat (x / 65536 % 256) ∧
    IntKind.u8.wrap (x : Int) = (c0.toNat : Int) ∧ IntKind.u8.wrap ((x : Int) / 256) = (c1.toNat : Int) ∧ IntKind.u8.wrap ((x : Int) / 65536) = (c2.toNat : Int) := by
  refine ⟨_, _, _, rfl, rfl, rfl, ?_, ?_, ?_⟩
  · rw [IntKind.wrap_u8, byte_nat _ (by omega)]; omega
  · rw [IntKind.wrap_u8, byte_nat _ (by omega)]; omega
  · rw [IntKind.wrap_u8, byte_nat _ (by omega)]; omega

set_option maxHeartbeats 2000000 in
theorem out_any (b cap : Nat) (A : Option Addr) (l : List Nat) (w : World) (h : RowN w b A cap l) (hL : Limbs l) (hl : l.length ≤ 1000001) :
    Calls Try.prog 47 #[.slice A l.length cap] w fun e w' => e = .returned (.string (gS (lV l))) ∧ Below w.heap.size w w' := by
  obtain ⟨i0, hi, hz0, hz1, hz2⟩ := info_parts Try.infoB
  have H := Lib.hid h
  have HL := Lib.hid hL
  clear h hL
  obtain ⟨n, hn⟩ : ∃ n, l.length = n := ⟨_, rfl⟩
  rw [hn] at hl ⊢
  have HN := Lib.hid hn
  clear hn
  go_enter Try.func47, Try.ntmps47
  go_wp2_with (at_make; refine wpList_make_full _ rfl _ _ 22 rfl w.heap.size 5 i0 (.int .u8 0) 1 Try.underlying22 hi hz0 hz1 .i64 .i64 _ _ (3 * n) rfl rfl (by first | rfl | omega) (by first | rfl | omega) (by rw [hz2]; omega) (by unfold maxLen; omega) (Nat.le_refl _) ?_; intro w0 hown0 hgrow0)
  have hb0 : Below w.heap.size w w0 := (Below.refl _ _).grown hgrow0 (Nat.le_refl _) (fun k hk => by cases hk)
  have hO0 : w0.ownsRow w.heap.size 5 1 (.slice (some ⟨w.heap.size, 0, none⟩) (3 * n) (3 * n)) (3 * n) (Lib.byteCells (outB l 0)) := by
    have e : Lib.byteCells (outB l 0) = (madeCells (Value.cells (.int .u8 0)) (3 * n * 1)).toList := by
      unfold outB
      have := toList_madeCells_one (.int .u8 0) (3 * n * 1)
      simp only [Value.cells] at this ⊢
      rw [this, HN.out]
      simp [Lib.byteCells, be]
    rw [e]; exact hown0
  have hR0 := Lib.hid hO0
  clear hown0 hgrow0 hO0
  go_loopw [4] (fun iv wr => ∃ i : Nat, i ≤ n ∧ iv = .int .i64 i ∧ Hid (wr.ownsRow w.heap.size 5 1 (.slice (some ⟨w.heap.size, 0, none⟩) (3 * n) (3 * n)) (3 * n) (Lib.byteCells (outB l i))) ∧ Below w.heap.size w wr) (fun iv _ => n - (intOf iv).toNat)
  case atStart => exact ⟨0, Nat.zero_le _, rfl, hR0, hb0⟩
  case round =>
    clear hR0 hb0
    obtain ⟨i, hin, rfl, hO, hb⟩ := hrel
    have hbs := hb.size
    by_cases hlt : i < n
    · have hil : i < l.length := by rw [HN.out]; exact hlt
      have hx := HL.out.get hil
      obtain ⟨g, rfl, _, hgl, hc, _⟩ := H.out.at_ hil
      have hc' : wr.cell? ⟨g, i, none⟩ = some (.int .i64 (l[i] : Int)) := (hb.cell (p := ⟨g, i, none⟩) hgl).trans hc
      have hne : ¬ g = w.heap.size := by omega
      have hne2 : ¬ w.heap.size = g := by omega
      obtain ⟨p, hp⟩ : ∃ p, 3 * (n - i) = p + 3 := ⟨3 * (n - i) - 3, by omega⟩
      have hp3 : p + 3 ≤ 3 * n := by omega
      have k1 : (3 * (n : Int) - 3 * (i : Int) - 1) = ((p + 2 : Nat) : Int) := by omega
      have k2 : (3 * (n : Int) - 3 * (i : Int) - 2) = ((p + 1 : Nat) : Int) := by omega
      have k3 : (3 * (n : Int) - 3 * (i : Int) - 3) = ((p : Nat) : Int) := by omega
      have cx : ∀ j, j < 3 * n → ∃ v, wr.cell? ⟨w.heap.size, j, none⟩ = some v := fun j hj => ⟨_, (hO.out.cellAt j (by omega)).trans (List.getElem?_eq_getElem (by rw [hO.out.1]; omega))⟩
      obtain ⟨v2, d2⟩ := cx (p + 2) (by omega)
      obtain ⟨v1, d1⟩ := cx (p + 1) (by omega)
      obtain ⟨v0, d0⟩ := cx p (by omega)
      have f2 := hO.out.frozenAt (p + 2)
      have f1 := hO.out.frozenAt (p + 1)
      have f0 := hO.out.frozenAt p
      obtain ⟨c0, c1, c2, q0, q1, q2, r0, r1, r2⟩ := limb_bytes l[i]
      have Q : Hid ((((outB l i).set (p + 2) c0).set (p + 1) c1).set p c2 = outB l (i + 1)) := by
        show _ = _
        rw [← outB_next hil, q0, q1, q2, HN.out, hp]
        rfl
      have S1 := (hO.out.stored (p + 2) (.int .u8 (c0.toNat : Int))).1
      have S2 := (S1.stored (p + 1) (.int .u8 (c1.toNat : Int))).1
      have S3 := (S2.stored p (.int .u8 (c2.toNat : Int))).1
      rw [byteCells_set, byteCells_set, byteCells_set, Q.out] at S3
      have HS := Lib.hid S3
      have HP := Lib.hid hp
      have hlt' : (i : Int) < (n : Int) := by omega
      clear S1 S2 S3 Q q0 q1 q2 cx hc hp
      go_wp2
      go_roundw
      case rel => exact ⟨i + 1, by omega, by go_num, HS, ((hb.setCell (p := ⟨w.heap.size, p + 2, none⟩) (Nat.le_refl _) _).setCell (p := ⟨w.heap.size, p + 1, none⟩) (Nat.le_refl _) _).setCell (p := ⟨w.heap.size, p, none⟩) (Nat.le_refl _) _⟩
      case measure => simp [intOf]; omega
    · obtain rfl : i = n := by omega
      have hO2 : wr.ownsRow w.heap.size 5 1 (.slice (some ⟨w.heap.size, 0, none⟩) (3 * i) (3 * i)) (3 * i) (Lib.byteCells (be l)) := by
        have e : outB l i = be l := by unfold outB; rw [HN.out, List.take_of_length_le (by rw [HN.out]; omega)]; simp
        have h := hO.out
        rw [e] at h
        exact h
      obtain ⟨bl, hbl⟩ : ∃ bl, bl = be l := ⟨_, rfl⟩
      have B1 : bl.length = 3 * i := by rw [hbl, be_length, HN.out]
      have B2 : Hid (bN bl = lV l) := by rw [hbl]; exact bN_be HL.out
      rw [← hbl] at hO2
      have HO := Lib.hid hO2
      have HB1 := Lib.hid B1
      clear hbl hO hO2 H HL B1
      have hlt' : ¬ (i : Int) < (i : Int) := by omega
      go_wp2
      go_loop [6] (fun mv => ∃ m : Nat, m ≤ 3 * i ∧ mv = .int .i64 m ∧ Hid (Lead bl m)) (fun mv => 3 * i - (intOf mv).toNat)
      case atStart => exact ⟨0, by omega, rfl, Lead.zero _⟩
      case round =>
        obtain ⟨m, hm, rfl, hLd⟩ := hrel
        by_cases hml : m < 3 * i
        · have hmb : m < bl.length := by rw [HB1.out]; exact hml
          have hml' : (m : Int) < 3 * (i : Int) := by omega
          have hcell : wr.cell? ⟨w.heap.size, m, none⟩ = some (.int .u8 (bl[m].toNat : Int)) := by
            rw [HO.out.cellAt m (by omega)]
            simp [Lib.byteCells, hmb]
          by_cases hz : bl[m] = 0
          · have hz' : ((bl[m].toNat : Int) == 0) = true := by rw [hz]; rfl
            have hN := Lib.hid (hLd.out.next hmb hz)
            clear hz
            go_wp2
            go_round
            case rel => exact ⟨m + 1, by omega, by go_num, hN⟩
            case measure => simp [intOf]; omega
          · have hz' : ((bl[m].toNat : Int) == 0) = false := by
              have : bl[m].toNat ≠ 0 := fun e => hz (by rw [← UInt8.toNat_inj]; simpa using e)
              simpa using this
            have hT := hLd.out.text B2.out (.inr ⟨hmb, hz⟩)
            have hdl : (bl.drop m).length = 3 * i - m := by rw [List.length_drop, HB1.out]
            have hcv := run_convert_bytes_back (P := Try.prog) wr 22 9 5 ⟨w.heap.size, m, none⟩ (3 * i - m) (bl.drop m) Try.underlying22 Try.underlying5 Try.underlying9 (fun j hj => by
              have e : (⟨w.heap.size, m, none⟩ : Addr).add j = ⟨w.heap.size, m + j, none⟩ := by unfold Addr.add; split <;> simp_all
              rw [e, HO.out.cellAt (m + j) (by omega)]
              have : m + j < bl.length := by rw [HB1.out]; omega
              simp [Lib.byteCells, this])
            rw [hdl, hT] at hcv
            have hci : ¬ 3 * i = m := by omega
            clear hT hdl hz
            go_wp2
            go_ret
            exact ⟨rfl, hb⟩
        · obtain rfl : m = 3 * i := by omega
          have hT := hLd.out.text B2.out (.inl HB1.out.symm)
          rw [List.drop_of_length_le (by rw [HB1.out]; omega)] at hT
          have HT := Lib.hid hT
          have hcv := fun c => run_convert_bytes_back (P := Try.prog) wr 22 9 5 ⟨w.heap.size, 0, none⟩ c [] Try.underlying22 Try.underlying5 Try.underlying9 (fun j hj => by simp at hj)
          simp only [List.length_nil] at hcv
          have hml' : ¬ ((3 * i : Nat) : Int) < 3 * (i : Int) := by omega
          clear hT
          go_wp2
          go_ret
          exact ⟨by unfold gS; rw [← HT.out]; rfl, hb⟩
end Go.Proofs.Ytkpcocdflcpnoaa
