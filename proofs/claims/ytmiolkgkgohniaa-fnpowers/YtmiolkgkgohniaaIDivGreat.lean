/-
  The contract of impl.DivGreat.
-/
import Derived.Test.YtmiolkgkgohniaaIDivR
import Derived.Test.YtmiolkgkgohniaaNDivs
namespace Go.Proofs.Ytmiolkgkgohniaa
open Go.RowKit

set_option maxRecDepth 8000 in
set_option maxHeartbeats 2000000 in
theorem divGreat_i (a b : ByteArray) (w : World) : Calls Try.prog 78 #[.string a, .string b] w (DivGPost a b w) := by
  have HA := greatOk_i a
  have HB := greatOk_i b
  cases ha : okG a with
  | false =>
    rw [ha] at HA
    have N := Lib.hid (divG_no (a := a) (b := b) (w := w) (w' := w) (by unfold divB okT; rw [ha]; rfl) (Below.refl _ _))
    go_enter Try.func78, Try.ntmps78
    go_wp2_with fail
    refine (HA _).mono ?_
    rintro e w1 ⟨rfl, rfl⟩
    go_wp2
    go_ret3
    exact N.out
  | true =>
    cases hb : okG b with
    | false =>
      rw [ha] at HA
      rw [hb] at HB
      have N := Lib.hid (divG_no (a := a) (b := b) (w := w) (w' := w) (by unfold divB okT; rw [ha, hb]; rfl) (Below.refl _ _))
      go_enter Try.func78, Try.ntmps78
      go_wp2_with fail
      refine (HA _).mono ?_
      rintro e w1 ⟨rfl, rfl⟩
      go_wp2_with fail
      refine (HB _).mono ?_
      rintro e w1 ⟨rfl, rfl⟩
      go_wp2
      go_ret3
      exact N.out
    | true =>
      rw [ha] at HA
      rw [hb] at HB
      by_cases h0 : b.size = 0
      · have he : b.toList = [] := by have := isEmpty_size (s := b); rw [h0] at this; simpa using this
        have N := Lib.hid (divG_no (a := a) (b := b) (w := w) (w' := w) (by unfold divB; rw [gV_empty h0]; simp) (Below.refl _ _))
        clear h0
        go_enter Try.func78, Try.ntmps78
        go_wp2_with fail
        refine (HA _).mono ?_
        rintro e w1 ⟨rfl, rfl⟩
        go_wp2_with fail
        refine (HB _).mono ?_
        rintro e w1 ⟨rfl, rfl⟩
        go_wp2
        go_ret3
        exact N.out
      have he : b.toList.isEmpty = false := by rw [isEmpty_size]; simpa using h0
      have hp := gV_pos hb (by omega)
      have hB : divB a b = true := by unfold divB okT; rw [ha, hb]; simpa using hp
      have HDB := Lib.hid hB
      clear hB h0
      obtain ⟨Z, hZ⟩ : ∃ Z, rowC Z81 0 = Z := ⟨_, rfl⟩
      have hz := zero_row.1
      rw [hZ] at hz
      have HZ := Lib.hid hZ
      clear hZ
      go_enter Try.func78, Try.ntmps78
      go_wp2_with fail
      refine (HA _).mono ?_
      rintro e w1 ⟨rfl, rfl⟩
      go_wp2_with fail
      refine (HB _).mono ?_
      rintro e w1 ⟨rfl, rfl⟩
      go_wp2_with fail
      refine (rowOf_any a _ (okG_size' ha)).mono ?_
      rintro e w1 ⟨lx, cx, rfl, hlx, vx, ex, b1⟩
      go_wp2_with fail
      refine (rowOf_any b _ (okG_size' hb)).mono ?_
      rintro e w2 ⟨ly, cy, rfl, hly, vy, ey, b2⟩
      have cx40 := vx.cnt40 ex ha
      have HLX := Lib.hid hlx
      have HLY := Lib.hid hly
      have HEX := Lib.hid ex
      have HEY := Lib.hid ey
      have HVX := Lib.hid vx
      have HVY := Lib.hid vy
      have HS := Lib.hid (Work.start w2 HZ.out)
      have b3 := bt b1 b2
      clear hlx hly ex ey vx vy b1 b2
      go_wp2_with (first | refine store_at rfl (.tmp 7) (.tmp 24) rfl w2.heap.size Z81 lx 0 cx rfl rfl HS.out.out HLX.out ?_ | refine store_at rfl (.tmp 8) (.tmp 26) rfl (w2.heap.size + 1) Z81 ly 0 cy rfl rfl (HS.out.row.storedApart (by omega)) HLY.out ?_)
      have HVs := Vars.of (cx := cx) (cy := cy) HS.out HLX.out HLY.out
      generalize (World.setRow (World.setRow _ _ _) _ _) = w3 at *
      have b4 := bt b3 HVs.b
      refine (divRows_any _ _ _ _ _ _ _ HVs.x HVs.y HVX.out HVY.out (by omega) (by rw [HEY.out]; exact hp)).mono ?_
      rintro e w4 ⟨lq, cq, lr, cr, rfl, h1, h2, h3, h4, h5, h6, h7, h8, b5⟩
      have b6 := bt b4 b5
      have HQ1 := Lib.hid h1
      have HQ2 := Lib.hid h2
      have HS2 := Lib.hid (Work.start w4 HZ.out)
      have R := Lib.hid (And.intro h3 (And.intro h4 (And.intro h5 (And.intro h6 (And.intro h7 h8)))))
      clear HVs HS b4 b5 b3 h1 h2 h3 h4 h5 h6 h7 h8
      go_wp2_with (first | refine store_at rfl (.tmp 9) (.tmp 29) rfl w4.heap.size Z81 lq 0 cq rfl rfl HS2.out.out HQ1.out ?_ | refine store_at rfl (.tmp 10) (.tmp 30) rfl (w4.heap.size + 1) Z81 lr 0 cr rfl rfl (HS2.out.row.storedApart (by omega)) HQ2.out ?_)
      have HVs := Vars.of (cx := cq) (cy := cr) HS2.out HQ1.out HQ2.out
      generalize (World.setRow (World.setRow _ _ _) _ _) = w5 at *
      have b7 := bt b6 HVs.b
      have HVs2 := Lib.hid HVs
      clear HVs HS2
      refine (great_any _ _ _ _ HVs2.out.x R.out.1 (by have := R.out.2.2.2.2.1; omega)).mono ?_
      rintro e w6 ⟨rfl, b8⟩
      have hy2 := HVs2.out.y.below b8 HVs2.out.y.lt
      have b9 := bt b7 b8
      go_wp2_with fail
      refine (great_any _ _ _ _ hy2 R.out.2.1 (by have := R.out.2.2.2.2.2; omega)).mono ?_
      rintro e w7 ⟨rfl, b10⟩
      have Zz := divG_yes HDB.out (bt b9 b10)
      have q1 : boundG (gS (W.lV lq)) = gS (gV a / gV b) := by
        rw [R.out.2.2.1, HEX.out, HEY.out, boundG_gS, if_pos (Nat.lt_of_le_of_lt (Nat.div_le_self _ _) (gV_lt ha))]
      have q2 : boundG (gS (W.lV lr)) = gS (gV a % gV b) := by
        rw [R.out.2.2.2.1, HEX.out, HEY.out, boundG_gS, if_pos (Nat.lt_of_le_of_lt (Nat.mod_le _ _) (gV_lt ha))]
      rw [← q1, ← q2] at Zz
      have HZz := Lib.hid Zz
      clear Zz q1 q2 hy2 b9 b10 b8 b7 b6
      go_wp2
      go_ret3
      exact HZz.out
end Go.Proofs.Ytmiolkgkgohniaa
