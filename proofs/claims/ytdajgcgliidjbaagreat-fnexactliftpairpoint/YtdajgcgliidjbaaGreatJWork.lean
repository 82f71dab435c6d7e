import Derived.Test.YtdajgcgliidjbaaGreatJRow
import Derived.Test.YtdajgcgliidjbaaGreatRLaw
import Derived.Test.YtdajgcgliidjbaaGreatIDivR
import Derived.Test.YtdajgcgliidjbaaGreatNDivs
import Derived.Test.YtdajgcgliidjbaaGreatISubGreat
set_option maxRecDepth 8000
set_option maxHeartbeats 4000000
namespace Go.Proofs.YtdajgcgliidjbaaGreat
open Go.RowKit
theorem cmp_rest (a p : ByteArray) : decide (cmpG a p < 0) = restB a p := by
 unfold cmpG restB okT
 cases ha : okG a <;> cases hp : okG p <;> simp [cmp_lt]
theorem cmp_mod (p : ByteArray) : decide (0 < cmpG p ⟨#[1]⟩) = modB p := by
 unfold cmpG modB okT
 rw [show okG ⟨#[1]⟩ = true from rfl, show gV ⟨#[1]⟩ = 1 from rfl]
 cases hp : okG p
 ·rfl
 ·simp only [Bool.true_and, Bool.and_self, if_true, cmpI]
  rcases Nat.lt_trichotomy (gV p) 1 with h | h | h
  ·rw [if_pos h, decide_eq_false (by omega : ¬ 1 < gV p)]; rfl
  ·rw [if_neg (by omega), if_pos h, decide_eq_false (by omega : ¬ 1 < gV p)]; rfl
  ·rw [if_neg (by omega), if_neg (by omega), decide_eq_true h]; rfl
theorem restOk_s (a p : ByteArray) (w : World) : Calls Tryz.prog 68 #[.string a, .string p] w fun e w' => e = .returned (.bool (restB a p)) ∧ w = w' := by
 rw [← cmp_rest]
 have H := Lib.hid (compareGreat_i a p)
 generalize cmpG a p = v at *
 go_enter Tryz.func68, Tryz.ntmps68
 go_wp2_with fail
 refine (H.out _).mono ?_
 rintro e w1 ⟨rfl, rfl⟩
 go_wp2
 go_ret
 exact ⟨rfl, rfl⟩
theorem restOk_i (a p : ByteArray) (w : World) : Calls Tryz.prog 68 #[.string a, .string p] w fun e w' => e = .returned (.bool (restB a p)) ∧ Below w.heap.size w w' :=
 (restOk_s a p w).mono fun _ _ ⟨h1, h2⟩ => ⟨h1, h2 ▸ Below.refl _ _⟩
theorem leaves_s (p : ByteArray) (w : World) : Calls Tryz.prog 67 #[.string p] w fun e w' => e = .returned (.bool (modB p)) ∧ w = w' := by
 rw [← cmp_mod]
 have H := Lib.hid (compareGreat_i p ⟨#[1]⟩)
 generalize cmpG p ⟨#[1]⟩ = v at *
 go_enter Tryz.func67, Tryz.ntmps67
 go_wp2_with fail
 refine (H.out _).mono ?_
 rintro e w1 ⟨rfl, rfl⟩
 go_wp2
 go_ret
 exact ⟨rfl, rfl⟩
def workF (k : Nat) : Nat := if k = 0 then 151 else if k = 1 then 149 else 150
def workL : Array Value := #[.func (.func 151) #[] #[], .func (.func 149) #[] #[], .func (.func 150) #[] #[]]
theorem workL_at {k : Nat} (h : k < 3) : workL[k]? = some (.func (.func (workF k)) #[] #[]) := by
 match k, h with
 | 0, _ => rfl
 | 1, _ => rfl
 | 2, _ => rfl
theorem enter_of {P : Program} {f : FuncId} {fn : Func} (hf : P.funcs[f]? = some fn) (hname : (fn.name == "runtime.NumGoroutine") = false) (hb : fn.body.isSome = true) (args : Array Value) (w : World) : (callFunc f args).run P w = .ok (.enter f args) w := by
 have h1 : fn.name ≠ "runtime.NumGoroutine" := by simpa using hname
 obtain ⟨c, hc⟩ := Option.isSome_iff_exists.1 hb
 simp [callFunc, hf, h1, hc]
theorem work_enter {k : Nat} (h : k < 3) (args : Array Value) (w : World) : (callFunc (workF k) args).run Tryz.prog w = .ok (.enter (workF k) args) w := by
 match k, h with
 | 0, _ => exact enter_of Tryz.func151 (by kernel_rfl) (by kernel_rfl) args w
 | 1, _ => exact enter_of Tryz.func149 (by kernel_rfl) (by kernel_rfl) args w
 | 2, _ => exact enter_of Tryz.func150 (by kernel_rfl) (by kernel_rfl) args w
theorem restWorks_any (w : World) : Calls Tryz.prog 188 #[] w fun e w' => e = .returned (.slice (some ⟨w.heap.size, 0, none⟩) 3 3) ∧ w' = w.alloc (.cells workL 180) := by
 go_enter Tryz.func188, Tryz.ntmps188
 go_wp2
 go_ret
 exact ⟨rfl, rfl⟩
def Works (F : Nat) (R : Nat → Nat → Nat → Nat) : Prop :=
 ∀ (lx ly lp : List Nat) (cx cy cp : Nat) (w : World), lx.length = 81 → ly.length = 81 → lp.length = 81 → RV lx cx → RV ly cy → RV lp cp → W.lV lx < W.lV lp → W.lV ly < W.lV lp → W.lV lp < GB → 1 < W.lV lp →
  Calls Tryz.prog F #[.agg (rowC lx cx), .agg (rowC ly cy), .agg (rowC lp cp)] w (AggPost (fun l _ => W.lV l = R (W.lV lx) (W.lV ly) (W.lV lp)) w)
structure Row3 (w : World) (g : Nat) (lx : List Nat) (cx : Nat) (ly : List Nat) (cy : Nat) (lp : List Nat) (cp : Nat) : Prop where
 x : RowI w g lx cx
 y : RowI w (g + 1) ly cy
 p : RowI w (g + 2) lp cp
theorem Row3.on {w w' : World} {g : Nat} {lx ly lp : List Nat} {cx cy cp : Nat} (h : Row3 w g lx cx ly cy lp cp) (b : Below w.heap.size w w') : Row3 w' g lx cx ly cy lp cp :=
 ⟨h.x.below b h.x.lt, h.y.below b h.y.lt, h.p.below b h.p.lt⟩
theorem Row3.zero (w : World) {Z : Array Value} (hZ : rowC Z81 0 = Z) :
  Row3 (((w.alloc (.cells Z 100)).alloc (.cells Z 100)).alloc (.cells Z 100)) w.heap.size Z81 0 Z81 0 Z81 0 ∧ Below w.heap.size w (((w.alloc (.cells Z 100)).alloc (.cells Z 100)).alloc (.cells Z 100)) := by
 have h := Work.start w hZ
 have s : ((w.alloc (.cells Z 100)).alloc (.cells Z 100)).heap.size = w.heap.size + 2 := by simp
 generalize (w.alloc (.cells Z 100)).alloc (.cells Z 100) = w1 at *
 have o := one_var w1 hZ
 rw [s] at o
 refine ⟨⟨h.out.below o.2 (by omega), h.row.below o.2 (by omega), o.1⟩, h.b.trans (o.2.mono (by omega))⟩
theorem Row3.laid {w w' : World} {lx ly lp : List Nat} {cx cy cp : Nat} (h : Row3 w' w.heap.size Z81 0 Z81 0 Z81 0 ∧ Below w.heap.size w w') (hx : lx.length = 81) (hy : ly.length = 81) (hp : lp.length = 81) :
  Row3 (((w'.setRow w.heap.size (rowC lx cx)).setRow (w.heap.size + 1) (rowC ly cy)).setRow (w.heap.size + 2) (rowC lp cp)) w.heap.size lx cx ly cy lp cp ∧ Below w.heap.size w (((w'.setRow w.heap.size (rowC lx cx)).setRow (w.heap.size + 1) (rowC ly cy)).setRow (w.heap.size + 2) (rowC lp cp)) := by
 obtain ⟨r, b⟩ := h
 refine ⟨⟨((r.x.stored hx).storedApart (by omega)).storedApart (by omega), (((r.y.storedApart (by omega)).stored hy).storedApart (by omega)), (((r.p.storedApart (by omega)).storedApart (by omega)).stored hp)⟩, ?_⟩
 exact below_setRow (below_setRow (below_setRow b (Nat.le_refl _) _) (by omega) _) (by omega) _
def FuncsAt (w : World) (G : Nat) : Prop := w.heap[G]? = some (.cells workL 180 (0, 0))
theorem FuncsAt.on {w w' : World} {G : Nat} (h : FuncsAt w G) (b : Below w.heap.size w w') : FuncsAt w' G := (b.block G (Array.getElem?_eq_some_iff.1 h).1).trans h
theorem FuncsAt.cell {w : World} {G k : Nat} {v : Value} (h : FuncsAt w G) (hk : workL[k]? = some v) : w.cell? ⟨G, k, none⟩ = some v := (cell_of_row w G k _ _ _ h).trans hk
theorem FuncsAt.new (w : World) : FuncsAt (w.alloc (.cells workL 180)) w.heap.size := heap_alloc_new w _
theorem Row3.apart {w : World} {g A : Nat} {lx ly lp : List Nat} {cx cy cp : Nat} {cs : Array Value} (h : Row3 w g lx cx ly cy lp cp) (hA : g + 2 < A) : Row3 (w.setRow A cs) g lx cx ly cy lp cp :=
 ⟨h.x.storedApart (by omega), h.y.storedApart (by omega), h.p.storedApart (by omega)⟩
theorem great_gS {V : Nat} (h : V < GB) : boundG (gS V) = gS V := by rw [boundG_gS, if_pos h]
theorem workedOut_any (k : Nat) (hk : k < 3) (R : Nat → Nat → Nat → Nat) (hF : Works (workF k) R) (hR : ∀ x y n, x < n → y < n → R x y n < n) (a b p : ByteArray) (w : World) :
  Calls Tryz.prog 163 #[.int .i64 (k : Int), .string a, .string b, .string p] w fun e w' => e = .returned (.string (if twoB a b p then gS (R (gV a) (gV b) (gV p)) else ⟨#[]⟩)) ∧ Below w.heap.size w w' := by
 have HM := leaves_s p
 have HA := restOk_s a p
 have HB := restOk_s b p
 unfold twoB
 cases hm : modB p with
 | false =>
  rw [hm] at HM
  rw [Bool.false_and, if_neg (by decide)]
  go_enter Tryz.func163, Tryz.ntmps163
  go_wp2_with fail
  refine (HM _).mono ?_
  rintro e w1 ⟨rfl, rfl⟩
  go_wp2
  go_ret
  exact ⟨rfl, Below.refl _ _⟩
 | true =>
  rw [hm] at HM
  cases ha : restB a p with
  | false =>
   rw [ha] at HA
   rw [Bool.false_and, Bool.true_and, if_neg (by decide)]
   go_enter Tryz.func163, Tryz.ntmps163
   go_wp2_with fail
   refine (HM _).mono ?_
   rintro e w1 ⟨rfl, rfl⟩
   go_wp2_with fail
   refine (HA _).mono ?_
   rintro e w1 ⟨rfl, rfl⟩
   go_wp2
   go_ret
   exact ⟨rfl, Below.refl _ _⟩
  | true =>
   rw [ha] at HA
   cases hb : restB b p with
   | false =>
    rw [hb] at HB
    rw [Bool.true_and, Bool.true_and, if_neg (by decide)]
    go_enter Tryz.func163, Tryz.ntmps163
    go_wp2_with fail
    refine (HM _).mono ?_
    rintro e w1 ⟨rfl, rfl⟩
    go_wp2_with fail
    refine (HA _).mono ?_
    rintro e w1 ⟨rfl, rfl⟩
    go_wp2_with fail
    refine (HB _).mono ?_
    rintro e w1 ⟨rfl, rfl⟩
    go_wp2
    go_ret
    exact ⟨rfl, Below.refl _ _⟩
   | true =>
    rw [hb] at HB
    rw [Bool.true_and, Bool.true_and, if_pos rfl]
    obtain ⟨okp, h1⟩ := modB_parts hm
    obtain ⟨oka, _, hap⟩ := restB_parts ha
    obtain ⟨okb, _, hbp⟩ := restB_parts hb
    obtain ⟨Z, hZ⟩ : ∃ Z, rowC Z81 0 = Z := ⟨_, rfl⟩
    have hz := zero_row.1
    rw [hZ] at hz
    have HZ := Lib.hid hZ
    have HK := Lib.hid (workL_at hk)
    have HEnt := Lib.hid (fun args w => work_enter hk args w)
    have HW := Lib.hid hF
    have HRR := Lib.hid (hR _ _ _ hap hbp)
    have HOk := Lib.hid (And.intro oka (And.intro okb okp))
    have HLt := Lib.hid (And.intro hap (And.intro hbp h1))
    generalize workF k = F at *
    clear hZ hm ha hb okp h1 oka hap okb hbp hF hR
    go_enter Tryz.func163, Tryz.ntmps163
    go_wp2_with fail
    refine (HM _).mono ?_
    rintro e w1 ⟨rfl, rfl⟩
    go_wp2_with fail
    refine (HA _).mono ?_
    rintro e w1 ⟨rfl, rfl⟩
    go_wp2_with fail
    refine (HB _).mono ?_
    rintro e w1 ⟨rfl, rfl⟩
    clear HM HA HB
    go_wp2_with fail
    refine (rowOf_any a _ (okG_size' HOk.out.1)).mono ?_
    rintro e w1 ⟨lx, cx, rfl, hlx, vx, ex, b1⟩
    go_wp2_with fail
    refine (rowOf_any b _ (okG_size' HOk.out.2.1)).mono ?_
    rintro e w2 ⟨ly, cy, rfl, hly, vy, ey, b2⟩
    go_wp2_with fail
    refine (rowOf_any p _ (okG_size' HOk.out.2.2)).mono ?_
    rintro e w3 ⟨lp, cp, rfl, hlp, vp, ep, b3⟩
    have HB3 := Lib.hid (bt (bt b1 b2) b3)
    have HR0 := Lib.hid (Row3.zero w3 HZ.out)
    have HR1 := Lib.hid (Row3.laid (cx := cx) (cy := cy) (cp := cp) HR0.out hlx hly hlp)
    have HLX := Lib.hid hlx
    have HLY := Lib.hid hly
    have HLP := Lib.hid hlp
    have HGP := gV_lt HOk.out.2.2
    have HWk := Lib.hid (fun w => HW.out lx ly lp cx cy cp w hlx hly hlp vx vy vp (by rw [ex, ep]; exact HLt.out.1) (by rw [ey, ep]; exact HLt.out.2.1) (by rw [ep]; exact HGP) (by rw [ep]; exact HLt.out.2.2))
    rw [ex, ey, ep] at HWk
    clear b1 b2 b3 hlx hly hlp vx vy vp ex ey ep HW HGP
    go_wp2_with (first | refine store_at rfl (.tmp 9) (.tmp 29) rfl w3.heap.size Z81 lx 0 cx rfl rfl HR0.out.1.x HLX.out ?_ | refine store_at rfl (.tmp 10) (.tmp 31) rfl (w3.heap.size + 1) Z81 ly 0 cy rfl rfl (HR0.out.1.y.storedApart (by omega)) HLY.out ?_ | refine store_at rfl (.tmp 11) (.tmp 33) rfl (w3.heap.size + 2) Z81 lp 0 cp rfl rfl ((HR0.out.1.p.storedApart (by omega)).storedApart (by omega)) HLP.out ?_)
    generalize (World.setRow (World.setRow (World.setRow _ _ _) _ _) _ _) = w4 at *
    have HB4 := Lib.hid (bt HB3.out HR1.out.2)
    have HR4 := Lib.hid HR1.out.1
    clear HB3 HR1 HR0 HLX HLY HLP
    generalize w3.heap.size = g at *
    have p0 : (0 : Int) ≤ (k : Int) := by omega
    have p1 : (k : Int) < 3 := by omega
    have HR5 : Hid (Row3 w4.drew g lx cx ly cy lp cp) := ⟨HR4.out.x.other rfl, HR4.out.y.other rfl, HR4.out.p.other rfl⟩
    have HB5 : Hid (Below w.heap.size w w4.drew) := bdN' HB4.out
    clear HB4 HR4
    refine wp_region_held (S := fun w' => Row3 w' g lx cx ly cy lp cp) (by kernel_rfl) ?_
    change wpAnyH _ _ _ _ _ _ _ _ w4.drew
    generalize w4.drew = w5 at *
    refine wpAnyH_take (i := 1) (v := .int .i64 (k : Int)) rfl (by kernel_rfl) (by kernel_rfl) (by kernel_rfl) (fun _ _ _ h => h) (yields_pure rfl fun _ => rfl) HR5.out ?_
    refine wpAnyH_take (i := 4) (v := .agg (rowC lx cx)) rfl (by kernel_rfl) (by kernel_rfl) (by kernel_rfl) (fun _ _ _ h => h) (yields_load rfl (.tmp 9) rfl g lx cx rfl fun _ h => h.x) HR5.out ?_
    refine wpAnyH_take (i := 5) (v := .agg (rowC ly cy)) rfl (by kernel_rfl) (by kernel_rfl) (by kernel_rfl) (fun _ _ _ h => h) (yields_load rfl (.tmp 10) rfl (g + 1) ly cy rfl fun _ h => h.y) HR5.out ?_
    refine wpAnyH_take (i := 6) (v := .agg (rowC lp cp)) rfl (by kernel_rfl) (by kernel_rfl) (by kernel_rfl) (fun _ _ _ h => h) (yields_load rfl (.tmp 11) rfl (g + 2) lp cp rfl fun _ h => h.p) HR5.out ?_
    refine wpAnyH_all (rs := [0, 8]) (by kernel_rfl) (by decide) ?_
    intro i hi
    rcases (by simpa using hi : i = 0 ∨ i = 8) with rfl | rfl
    ·unfold wpOp
     go_simp
     left
     refine (restWorks_any _).mono ?_
     rintro e w6 ⟨rfl, hw6⟩
     have bw6 : Below w5.heap.size w5 w6 := hw6 ▸ below_new _ _
     have Fw6 : Hid (FuncsAt w6 w5.heap.size) := hw6 ▸ FuncsAt.new _
     have HRw6 := Lib.hid (HR5.out.on bw6)
     have HBw6 := Lib.hid (bt HB5.out bw6)
     refine ⟨HRw6.out, ?_⟩
     clear bw6 hw6
     have z5 := HB5.out.size
     refine wpAnyH_take (i := 2) (v := .pointer (some ⟨w5.heap.size, k, none⟩)) rfl (by kernel_rfl) (by kernel_rfl) (by kernel_rfl) (fun _ _ _ h => h) (yields_pure rfl fun _ => by unfold execOp; go_simp) HRw6.out ?_
     refine wpAnyH_all (rs := [3, 8]) (by kernel_rfl) (by decide) ?_
     intro i hi
     rcases (by simpa using hi : i = 3 ∨ i = 8) with rfl | rfl
     ·have cf := Fw6.out.cell HK.out
      unfold wpOp
      go_simp
      clear cf
      left
      refine ⟨HRw6.out, ?_⟩
      refine wpAnyH_all (rs := [7, 8]) (by kernel_rfl) (by decide) ?_
      intro i hi
      rcases (by simpa using hi : i = 7 ∨ i = 8) with rfl | rfl
      ·unfold wpOp
       go_simp
       left
       rw [HEnt.out, Oper.upon_enter]
       refine (HWk.out _).mono ?_
       rintro e w7 ⟨l, c, rfl, hl, v, hv, bw7⟩
       have HRw7 := Lib.hid (HRw6.out.on bw7)
       have HBw7 := Lib.hid (bt HBw6.out bw7)
       refine ⟨HRw7.out, ?_⟩
       refine wpAnyH_all (rs := [8]) (by kernel_rfl) (by decide) ?_
       intro i hi
       obtain rfl : i = 8 := by simpa using hi
       unfold wpOp
       go_simp
       left
       have Aw8 := one_var w7 HZ.out
       have qw8 := HRw7.out.p.lt
       have zw8 := HBw7.out.size
       generalize w7.alloc (.cells Z 100) = w8 at *
       have HAw8 := Lib.hid Aw8.1
       have HRw8 := Lib.hid (HRw7.out.on Aw8.2)
       have HBw8 := Lib.hid (bt HBw7.out Aw8.2)
       clear Aw8
       refine ⟨HRw8.out, ?_⟩
       refine wpAnyH_all (rs := [9]) (by kernel_rfl) (by decide) ?_
       intro i hi
       obtain rfl : i = 9 := by simpa using hi
       refine store_op rfl rfl (.tmp 12) (.tmp 41) rfl w7.heap.size Z81 l 0 c rfl rfl HAw8.out hl ⟨HRw8.out.apart (by omega), ?_⟩
       refine wpAnyH_done (by kernel_rfl) ?_ _
       have HF := HAw8.out.stored (c' := c) hl
       have HBF := Lib.hid (below_setRow HBw8.out (show w.heap.size ≤ w7.heap.size by omega) (rowC l c))
       have hlt : W.lV l < GB := by rw [hv]; exact Nat.lt_trans HRR.out (gV_lt HOk.out.2.2)
       have HG := Lib.hid (great_any _ _ _ _ HF v (by have := cnt_40 v hlt; omega))
       rw [great_gS hlt, hv] at HG
       clear HF hlt hv v
       generalize World.setRow _ _ _ = w9 at *
       go_wp2_with fail
       refine HG.out.mono ?_
       rintro e w10 ⟨rfl, b10⟩
       have bb := bt HBF.out b10
       clear HG HBF b10
       go_wp2
       go_ret
       exact ⟨rfl, bb⟩
      ·unfold wpOp
       go_simp
       left
       have Aw7 := one_var w6 HZ.out
       have qw7 := HRw6.out.p.lt
       have zw7 := HBw6.out.size
       generalize w6.alloc (.cells Z 100) = w7 at *
       have HAw7 := Lib.hid Aw7.1
       have HRw7 := Lib.hid (HRw6.out.on Aw7.2)
       have HBw7 := Lib.hid (bt HBw6.out Aw7.2)
       clear Aw7
       refine ⟨HRw7.out, ?_⟩
       refine wpAnyH_all (rs := [7]) (by kernel_rfl) (by decide) ?_
       intro i hi
       obtain rfl : i = 7 := by simpa using hi
       unfold wpOp
       go_simp
       left
       rw [HEnt.out, Oper.upon_enter]
       refine (HWk.out _).mono ?_
       rintro e w8 ⟨l, c, rfl, hl, v, hv, bw8⟩
       have HRw8 := Lib.hid (HRw7.out.on bw8)
       have HBw8 := Lib.hid (bt HBw7.out bw8)
       have HA8 := Lib.hid (HAw7.out.below bw8 HAw7.out.lt)
       refine ⟨HRw8.out, ?_⟩
       refine wpAnyH_all (rs := [9]) (by kernel_rfl) (by decide) ?_
       intro i hi
       obtain rfl : i = 9 := by simpa using hi
       refine store_op rfl rfl (.tmp 12) (.tmp 41) rfl w6.heap.size Z81 l 0 c rfl rfl HA8.out hl ⟨HRw8.out.apart (by omega), ?_⟩
       refine wpAnyH_done (by kernel_rfl) ?_ _
       have HF := HA8.out.stored (c' := c) hl
       have HBF := Lib.hid (below_setRow HBw8.out (show w.heap.size ≤ w6.heap.size by omega) (rowC l c))
       have hlt : W.lV l < GB := by rw [hv]; exact Nat.lt_trans HRR.out (gV_lt HOk.out.2.2)
       have HG := Lib.hid (great_any _ _ _ _ HF v (by have := cnt_40 v hlt; omega))
       rw [great_gS hlt, hv] at HG
       clear HF hlt hv v
       generalize World.setRow _ _ _ = w9 at *
       go_wp2_with fail
       refine HG.out.mono ?_
       rintro e w10 ⟨rfl, b10⟩
       have bb := bt HBF.out b10
       clear HG HBF b10
       go_wp2
       go_ret
       exact ⟨rfl, bb⟩
     ·unfold wpOp
      go_simp
      left
      have Aw7 := one_var w6 HZ.out
      have qw7 := HRw6.out.p.lt
      have zw7 := HBw6.out.size
      generalize w6.alloc (.cells Z 100) = w7 at *
      have HAw7 := Lib.hid Aw7.1
      have HRw7 := Lib.hid (HRw6.out.on Aw7.2)
      have HBw7 := Lib.hid (bt HBw6.out Aw7.2)
      have Fw7 := Lib.hid (Fw6.out.on Aw7.2)
      clear Aw7
      refine ⟨HRw7.out, ?_⟩
      refine wpAnyH_all (rs := [3]) (by kernel_rfl) (by decide) ?_
      intro i hi
      obtain rfl : i = 3 := by simpa using hi
      have cf := Fw7.out.cell HK.out
      unfold wpOp
      go_simp
      clear cf
      left
      refine ⟨HRw7.out, ?_⟩
      refine wpAnyH_all (rs := [7]) (by kernel_rfl) (by decide) ?_
      intro i hi
      obtain rfl : i = 7 := by simpa using hi
      unfold wpOp
      go_simp
      left
      rw [HEnt.out, Oper.upon_enter]
      refine (HWk.out _).mono ?_
      rintro e w8 ⟨l, c, rfl, hl, v, hv, bw8⟩
      have HRw8 := Lib.hid (HRw7.out.on bw8)
      have HBw8 := Lib.hid (bt HBw7.out bw8)
      have HA8 := Lib.hid (HAw7.out.below bw8 HAw7.out.lt)
      refine ⟨HRw8.out, ?_⟩
      refine wpAnyH_all (rs := [9]) (by kernel_rfl) (by decide) ?_
      intro i hi
      obtain rfl : i = 9 := by simpa using hi
      refine store_op rfl rfl (.tmp 12) (.tmp 41) rfl w6.heap.size Z81 l 0 c rfl rfl HA8.out hl ⟨HRw8.out.apart (by omega), ?_⟩
      refine wpAnyH_done (by kernel_rfl) ?_ _
      have HF := HA8.out.stored (c' := c) hl
      have HBF := Lib.hid (below_setRow HBw8.out (show w.heap.size ≤ w6.heap.size by omega) (rowC l c))
      have hlt : W.lV l < GB := by rw [hv]; exact Nat.lt_trans HRR.out (gV_lt HOk.out.2.2)
      have HG := Lib.hid (great_any _ _ _ _ HF v (by have := cnt_40 v hlt; omega))
      rw [great_gS hlt, hv] at HG
      clear HF hlt hv v
      generalize World.setRow _ _ _ = w9 at *
      go_wp2_with fail
      refine HG.out.mono ?_
      rintro e w10 ⟨rfl, b10⟩
      have bb := bt HBF.out b10
      clear HG HBF b10
      go_wp2
      go_ret
      exact ⟨rfl, bb⟩
    ·unfold wpOp
     go_simp
     left
     have Aw6 := one_var w5 HZ.out
     have qw6 := HR5.out.p.lt
     have zw6 := HB5.out.size
     generalize w5.alloc (.cells Z 100) = w6 at *
     have HAw6 := Lib.hid Aw6.1
     have HRw6 := Lib.hid (HR5.out.on Aw6.2)
     have HBw6 := Lib.hid (bt HB5.out Aw6.2)
     clear Aw6
     refine ⟨HRw6.out, ?_⟩
     refine wpAnyH_all (rs := [0]) (by kernel_rfl) (by decide) ?_
     intro i hi
     obtain rfl : i = 0 := by simpa using hi
     unfold wpOp
     go_simp
     left
     refine (restWorks_any _).mono ?_
     rintro e w7 ⟨rfl, hw7⟩
     have bw7 : Below w6.heap.size w6 w7 := hw7 ▸ below_new _ _
     have Fw7 : Hid (FuncsAt w7 w6.heap.size) := hw7 ▸ FuncsAt.new _
     have HRw7 := Lib.hid (HRw6.out.on bw7)
     have HBw7 := Lib.hid (bt HBw6.out bw7)
     have HA7 := Lib.hid (HAw6.out.below bw7 HAw6.out.lt)
     refine ⟨HRw7.out, ?_⟩
     clear bw7 hw7
     refine wpAnyH_take (i := 2) (v := .pointer (some ⟨w6.heap.size, k, none⟩)) rfl (by kernel_rfl) (by kernel_rfl) (by kernel_rfl) (fun _ _ _ h => h) (yields_pure rfl fun _ => by unfold execOp; go_simp) HRw7.out ?_
     refine wpAnyH_all (rs := [3]) (by kernel_rfl) (by decide) ?_
     intro i hi
     obtain rfl : i = 3 := by simpa using hi
     have cf := Fw7.out.cell HK.out
     unfold wpOp
     go_simp
     clear cf
     left
     refine ⟨HRw7.out, ?_⟩
     refine wpAnyH_all (rs := [7]) (by kernel_rfl) (by decide) ?_
     intro i hi
     obtain rfl : i = 7 := by simpa using hi
     unfold wpOp
     go_simp
     left
     rw [HEnt.out, Oper.upon_enter]
     refine (HWk.out _).mono ?_
     rintro e w8 ⟨l, c, rfl, hl, v, hv, bw8⟩
     have HRw8 := Lib.hid (HRw7.out.on bw8)
     have HBw8 := Lib.hid (bt HBw7.out bw8)
     have HA8 := Lib.hid (HA7.out.below bw8 HA7.out.lt)
     refine ⟨HRw8.out, ?_⟩
     refine wpAnyH_all (rs := [9]) (by kernel_rfl) (by decide) ?_
     intro i hi
     obtain rfl : i = 9 := by simpa using hi
     refine store_op rfl rfl (.tmp 12) (.tmp 41) rfl w5.heap.size Z81 l 0 c rfl rfl HA8.out hl ⟨HRw8.out.apart (by omega), ?_⟩
     refine wpAnyH_done (by kernel_rfl) ?_ _
     have HF := HA8.out.stored (c' := c) hl
     have HBF := Lib.hid (below_setRow HBw8.out (show w.heap.size ≤ w5.heap.size by omega) (rowC l c))
     have hlt : W.lV l < GB := by rw [hv]; exact Nat.lt_trans HRR.out (gV_lt HOk.out.2.2)
     have HG := Lib.hid (great_any _ _ _ _ HF v (by have := cnt_40 v hlt; omega))
     rw [great_gS hlt, hv] at HG
     clear HF hlt hv v
     generalize World.setRow _ _ _ = w9 at *
     go_wp2_with fail
     refine HG.out.mono ?_
     rintro e w10 ⟨rfl, b10⟩
     have bb := bt HBF.out b10
     clear HG HBF b10
     go_wp2
     go_ret
     exact ⟨rfl, bb⟩
end Go.Proofs.YtdajgcgliidjbaaGreat
