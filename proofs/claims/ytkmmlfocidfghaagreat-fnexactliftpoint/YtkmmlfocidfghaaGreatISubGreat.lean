import Derived.Test.YtkmmlfocidfghaaGreatIMid
import Derived.Test.YtkmmlfocidfghaaGreatILow
import Derived.Test.YtkmmlfocidfghaaGreatICmp
namespace Go.Proofs.YtkmmlfocidfghaaGreat
open Go.RowKit
set_option maxRecDepth 8000 in
set_option maxHeartbeats 2000000 in
theorem subGreat_i (a b : ByteArray) (w : World) : Calls Tryz.prog 127 #[.string a, .string b] w fun e w' => e = .returned (.tuple #[.string (subG a b), .bool (subB a b)]) ∧ Below w.heap.size w w' := by
  have HA := greatOk_i a
  have HB := greatOk_i b
  unfold subG subB okT
  cases ha : okG a with
  | false =>
    rw [ha] at HA
    go_enter Tryz.func127, Tryz.ntmps127
    go_wp2_with fail
    refine (HA _).mono ?_
    rintro e w1 ⟨rfl, rfl⟩
    go_wp2
    go_ret2
    exact ⟨rfl, Below.refl _ _⟩
  | true =>
    cases hb : okG b with
    | false =>
      rw [ha] at HA
      rw [hb] at HB
      go_enter Tryz.func127, Tryz.ntmps127
      go_wp2_with fail
      refine (HA _).mono ?_
      rintro e w1 ⟨rfl, rfl⟩
      go_wp2_with fail
      refine (HB _).mono ?_
      rintro e w1 ⟨rfl, rfl⟩
      go_wp2
      go_ret2
      exact ⟨rfl, Below.refl _ _⟩
    | true =>
      rw [ha] at HA
      rw [hb] at HB
      obtain ⟨Z, hZ⟩ : ∃ Z, rowC Z81 0 = Z := ⟨_, rfl⟩
      have hz := zero_row.1
      rw [hZ] at hz
      have HZ := Lib.hid hZ
      clear hZ
      go_enter Tryz.func127, Tryz.ntmps127
      go_wp2_with fail
      refine (HA _).mono ?_
      rintro e w1 ⟨rfl, rfl⟩
      go_wp2_with fail
      refine (HB _).mono ?_
      rintro e w1 ⟨rfl, rfl⟩
      go_wp2_with fail
      refine (compareGreat_i a b _).mono ?_
      rintro e w0 ⟨rfl, rfl⟩
      have hcmp : cmpG a b = cmpI (gV a) (gV b) := by unfold cmpG okT; rw [ha, hb]; rfl
      rw [hcmp]
      by_cases hlt : gV a < gV b
      · have h1 : cmpI (gV a) (gV b) = -1 := by unfold cmpI; rw [if_pos hlt]
        rw [h1]
        have Z1 : Hid (decide (gV b ≤ gV a) = false) := by show _ = _; simpa using hlt
        clear hcmp h1
        go_wp2
        all_goals (go_ret2; exact ⟨rfl, Below.refl _ _⟩)
      have hle : gV b ≤ gV a := by omega
      have h1 : ¬ cmpI (gV a) (gV b) < 0 := by unfold cmpI; rw [if_neg hlt]; split <;> decide
      have Z1 : Hid (decide (gV b ≤ gV a) = true) := by show _ = _; simpa using hle
      generalize cmpI (gV a) (gV b) = kk at *
      go_wp2_with fail
      refine (rowOf_any a _ (okG_size' ha)).mono ?_
      rintro e w1 ⟨lx, cx, rfl, hlx, vx, ex, b1⟩
      go_wp2_with fail
      refine (rowOf_any b _ (okG_size' hb)).mono ?_
      rintro e w2 ⟨ly, cy, rfl, hly, vy, ey, b2⟩
      have cx40 := vx.cnt40 ex ha
      have cy40 := vy.cnt40 ey hb
      have HLX := Lib.hid hlx
      have HLY := Lib.hid hly
      have HEX := Lib.hid ex
      have HEY := Lib.hid ey
      have HVX := Lib.hid vx
      have HVY := Lib.hid vy
      have HS := Lib.hid (Work.start w2 HZ.out)
      have b3 := bt b1 b2
      clear hlx hly ex ey vx vy b1 b2
      go_wp2_with (first | refine store_at rfl (.tmp 6) (.tmp 24) rfl w2.heap.size Z81 lx 0 cx rfl rfl HS.out.out HLX.out ?_ | refine store_at rfl (.tmp 7) (.tmp 26) rfl (w2.heap.size + 1) Z81 ly 0 cy rfl rfl (HS.out.row.storedApart (by omega)) HLY.out ?_)
      have HVs := Vars.of (cx := cx) (cy := cy) HS.out HLX.out HLY.out
      generalize (World.setRow (World.setRow _ _ _) _ _) = w3 at *
      have b4 := bt b3 HVs.b
      refine (subRows_any _ _ _ _ _ _ _ HVs.x HVs.y HVX.out HVY.out (by omega) (by omega) (by rw [HEX.out, HEY.out]; exact hle)).mono ?_
      rintro e w4 ⟨l, c, rfl, hl, v, hv, b5⟩
      have HV1 := Lib.hid (one_var w4 HZ.out)
      have HL := Lib.hid hl
      have HVV := Lib.hid v
      have HVL := Lib.hid hv
      have b6 := bt b4 b5
      clear HVs HS hl v hv b4 b5 b3
      go_wp2_with (refine store_at rfl (.tmp 8) (.tmp 27) rfl w4.heap.size Z81 l 0 c rfl rfl HV1.out.1 HL.out ?_)
      have HR := HV1.out.1.stored (c' := c) HL.out
      have HB := bt b6 (below_setRow HV1.out.2 (Nat.le_refl _) (rowC l c))
      generalize World.setRow _ _ _ = w5 at *
      refine (great_any _ _ _ _ HR HVV.out (by have := HVL.out.2; omega)).mono ?_
      rintro e w6 ⟨rfl, b7⟩
      have b8 := bt HB b7
      clear HR HB b6
      go_wp2
      go_ret2
      have hs : boundG (gS (gV a - gV b)) = gS (gV a - gV b) := by rw [boundG_gS, if_pos (Nat.lt_of_le_of_lt (Nat.sub_le _ _) (gV_lt ha))]
      exact ⟨by rw [HVL.out.1, HEX.out, HEY.out, hs]; rfl, b8⟩
end Go.Proofs.YtkmmlfocidfghaaGreat
