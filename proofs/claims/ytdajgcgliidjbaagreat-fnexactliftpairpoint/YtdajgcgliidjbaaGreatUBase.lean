import Derived.Test.YtdajgcgliidjbaaGreatRLaw
import Derived.Test.YtdajgcgliidjbaaGreatMAll
import Derived.Deep.RegionHeld3
import Derived.OrdersHeld
import Derived.Laws.Tables
set_option maxRecDepth 8000
set_option maxHeartbeats 2000000
namespace Go.Proofs.YtdajgcgliidjbaaGreat
abbrev Pn := Nat × Nat
def toZ (x : Pn) : Gz := ((x.1 : Int), (x.2 : Int))
def prN (n : Nat) (t : Int) : Nat := (t % (n : Int)).toNat
def prP (n : Nat) (z : Gz) : Pn := (prN n z.1, prN n z.2)
theorem prN_cast {n : Nat} (h : 0 < n) (t : Int) : ((prN n t : Nat) : Int) = t % (n : Int) := Int.toNat_of_nonneg (Int.emod_nonneg _ (by omega))
theorem prN_dvd {n : Nat} (h : 0 < n) (t : Int) : (n : Int) ∣ ((prN n t : Nat) : Int) - t := by
 rw [prN_cast h]
 exact ⟨-(t / (n : Int)), by have := Int.mul_ediv_add_emod t (n : Int); grind⟩
theorem prN_eq {n : Nat} {s t : Int} (h : (n : Int) ∣ s - t) : prN n s = prN n t := by
 unfold prN
 rw [Int.emod_eq_emod_iff_emod_sub_eq_zero.2 (Int.emod_eq_zero_of_dvd h)]
theorem prN_nat (n x : Nat) : prN n (x : Int) = x % n := by unfold prN; rw [← Int.natCast_emod, Int.toNat_natCast]
theorem prN_sub {n x y : Nat} (hy : y ≤ n) : prN n ((x : Int) - (y : Int)) = (x + n - y) % n := by
 rw [← prN_nat]
 refine prN_eq ⟨-1, ?_⟩
 rw [Int.natCast_sub (by omega)]
 push_cast
 omega
theorem prP_gc {n : Nat} (h : 0 < n) (z : Gz) : GC (n : Int) (toZ (prP n z)) z := ⟨prN_dvd h z.1, prN_dvd h z.2⟩
theorem prP_eq {n : Nat} {z y : Gz} (h : GC (n : Int) z y) : prP n z = prP n y := by unfold prP; rw [prN_eq h.a, prN_eq h.b]
theorem prP_of {n : Nat} {x : Pn} (h1 : x.1 < n) (h2 : x.2 < n) : prP n (toZ x) = x := by
 unfold prP toZ
 rw [prN_nat, prN_nat, Nat.mod_eq_of_lt h1, Nat.mod_eq_of_lt h2]
def addP (n : Nat) (x y : Pn) : Pn := ((x.1 + y.1) % n, (x.2 + y.2) % n)
def subP (n : Nat) (x y : Pn) : Pn := ((x.1 + n - y.1) % n, (x.2 + n - y.2) % n)
def mulP (n : Nat) (x y : Pn) : Pn := ((x.1 * y.1 % n + n - x.2 * y.2 % n) % n, (x.1 * y.2 % n + x.2 * y.1 % n) % n)
def normP (n : Nat) (x : Pn) : Nat := (x.1 * x.1 % n + x.2 * x.2 % n) % n
def negP (n : Nat) (x : Pn) : Pn := subP n (0, 0) x
def InP2 (n : Nat) (x : Pn) : Prop := x.1 < n ∧ x.2 < n
theorem addP_pr (n : Nat) (x y : Pn) : addP n x y = prP n (ga (toZ x) (toZ y)) := by
 unfold addP prP ga toZ
 simp only
 rw [← prN_nat, ← prN_nat]
 push_cast
 rfl
theorem mulP_pr {n : Nat} (h : 0 < n) (x y : Pn) : mulP n x y = prP n (gm (toZ x) (toZ y)) := by
 unfold mulP prP gm toZ
 simp only
 have e : ∀ a b : Nat, (n : Int) ∣ ((a * b % n : Nat) : Int) - (a : Int) * (b : Int) := fun a b => by
  have := prN_dvd h ((a * b : Nat) : Int)
  rw [prN_nat] at this
  simpa using this
 obtain ⟨c1, k1⟩ := e x.1 y.1
 obtain ⟨c2, k2⟩ := e x.2 y.2
 obtain ⟨c3, k3⟩ := e x.1 y.2
 obtain ⟨c4, k4⟩ := e x.2 y.1
 have hl : x.2 * y.2 % n ≤ n := Nat.le_of_lt (Nat.mod_lt _ h)
 obtain ⟨A, hA⟩ : ∃ A, x.1 * y.1 % n = A := ⟨_, rfl⟩
 obtain ⟨B, hB⟩ : ∃ B, x.2 * y.2 % n = B := ⟨_, rfl⟩
 obtain ⟨C, hC⟩ : ∃ C, x.1 * y.2 % n = C := ⟨_, rfl⟩
 obtain ⟨D, hD⟩ : ∃ D, x.2 * y.1 % n = D := ⟨_, rfl⟩
 rw [hA] at k1 ⊢
 rw [hB] at k2 hl ⊢
 rw [hC] at k3 ⊢
 rw [hD] at k4 ⊢
 rw [← prN_sub hl, ← prN_nat n (C + D)]
 rw [prN_eq (s := (A : Int) - (B : Int)) (t := (x.1 : Int) * y.1 - x.2 * y.2) ⟨c1 - c2, by grind⟩]
 rw [prN_eq (s := ((C + D : Nat) : Int)) (t := (x.1 : Int) * y.2 + x.2 * y.1) ⟨c3 + c4, by push_cast; grind⟩]
theorem subP_pr {n : Nat} {x y : Pn} (hy : InP2 n y) : subP n x y = prP n ((x.1 : Int) - (y.1 : Int), (x.2 : Int) - (y.2 : Int)) := by
 unfold subP prP
 rw [← prN_sub (Nat.le_of_lt hy.1), ← prN_sub (Nat.le_of_lt hy.2)]
theorem normP_pr {n : Nat} (h : 0 < n) (x : Pn) : normP n x = prN n (gn (toZ x)) := by
 unfold normP gn toZ
 simp only
 have e : ∀ a b : Nat, (n : Int) ∣ ((a * b % n : Nat) : Int) - (a : Int) * (b : Int) := fun a b => by
  have := prN_dvd h ((a * b : Nat) : Int)
  rw [prN_nat] at this
  simpa using this
 obtain ⟨c1, k1⟩ := e x.1 x.1
 obtain ⟨c2, k2⟩ := e x.2 x.2
 obtain ⟨A, hA⟩ : ∃ A, x.1 * x.1 % n = A := ⟨_, rfl⟩
 obtain ⟨B, hB⟩ : ∃ B, x.2 * x.2 % n = B := ⟨_, rfl⟩
 rw [hA] at k1 ⊢
 rw [hB] at k2 ⊢
 rw [← prN_nat n (A + B)]
 rw [prN_eq (s := ((A + B : Nat) : Int)) (t := (x.1 : Int) * x.1 + x.2 * x.2) ⟨c1 + c2, by push_cast; grind⟩]
theorem addP_in {n : Nat} (h : 0 < n) (x y : Pn) : InP2 n (addP n x y) := ⟨Nat.mod_lt _ h, Nat.mod_lt _ h⟩
theorem mulP_in {n : Nat} (h : 0 < n) (x y : Pn) : InP2 n (mulP n x y) := ⟨Nat.mod_lt _ h, Nat.mod_lt _ h⟩
theorem subP_in {n : Nat} (h : 0 < n) (x y : Pn) : InP2 n (subP n x y) := ⟨Nat.mod_lt _ h, Nat.mod_lt _ h⟩
theorem mulP_of {n : Nat} (h : 0 < n) (z y : Gz) : mulP n (prP n z) (prP n y) = prP n (gm z y) := by
 rw [mulP_pr h]; exact prP_eq ((prP_gc h z).mul (prP_gc h y))
theorem mulP_left {n : Nat} (h : 0 < n) (x : Pn) (y : Gz) : mulP n x (prP n y) = prP n (gm (toZ x) y) := by
 rw [mulP_pr h]; exact prP_eq ((GC.refl _ _).mul (prP_gc h y))
theorem addP_of {n : Nat} (h : 0 < n) (z y : Gz) : addP n (prP n z) (prP n y) = prP n (ga z y) := by
 rw [addP_pr]; exact prP_eq ((prP_gc h z).add (prP_gc h y))
theorem mulP_comm {n : Nat} (h : 0 < n) (x y : Pn) : mulP n x y = mulP n y x := by rw [mulP_pr h, mulP_pr h, gm_comm]
theorem mulP_assoc {n : Nat} (h : 0 < n) {x y z : Pn} (hx : InP2 n x) (hz : InP2 n z) : mulP n (mulP n x y) z = mulP n x (mulP n y z) := by
 rw [mulP_pr h x y, mulP_pr h y z]
 conv => lhs; rw [← prP_of hz.1 hz.2]
 conv => rhs; rw [← prP_of hx.1 hx.2]
 rw [mulP_of h, mulP_of h, gm_assoc]
theorem mulP_addP {n : Nat} (h : 0 < n) {x y z : Pn} (hx : InP2 n x) : mulP n x (addP n y z) = addP n (mulP n x y) (mulP n x z) := by
 rw [mulP_pr h x y, mulP_pr h x z, addP_of h, addP_pr]
 conv => lhs; rw [← prP_of hx.1 hx.2]
 rw [mulP_of h, gm_ga]
theorem add_negP {n : Nat} (h : 0 < n) {x : Pn} (hx : InP2 n x) : addP n x (negP n x) = (0, 0) := by
 unfold addP negP subP
 have e : ∀ a : Nat, a < n → (a + (0 + n - a) % n) % n = 0 := fun a ha => by
  rw [Nat.add_mod_mod, show a + (0 + n - a) = n from by omega, Nat.mod_self]
 have := h
 simp only [e _ hx.1, e _ hx.2]
theorem normP_mul {n : Nat} (h : 0 < n) (x y : Pn) : normP n (mulP n x y) = normP n x * normP n y % n := by
 rw [normP_pr h, normP_pr h, normP_pr h, ← prN_nat, mulP_pr h]
 obtain ⟨c, hc⟩ := prN_dvd h (gn (toZ x))
 obtain ⟨d, hd⟩ := prN_dvd h (gn (toZ y))
 obtain ⟨⟨e, he⟩, ⟨f, hf⟩⟩ := prP_gc h (gm (toZ x) (toZ y))
 have hg := gn_gm (toZ x) (toZ y)
 push_cast
 generalize toZ (prP n (gm (toZ x) (toZ y))) = q at *
 generalize gm (toZ x) (toZ y) = r at *
 generalize gn (toZ x) = X at *
 generalize gn (toZ y) = Y at *
 generalize ((prN n X : Nat) : Int) = X' at *
 generalize ((prN n Y : Nat) : Int) = Y' at *
 unfold gn at *
 refine prN_eq ⟨e * (q.1 + r.1) + f * (q.2 + r.2) - c * Y' - X * d, ?_⟩
 grind
def invP (n : Nat) (x : Pn) (m : Nat) : Pn := (x.1 * m % n, (0 + n - x.2) % n * m % n)
theorem mul_invP {n : Nat} (h : 1 < n) {x : Pn} (hx : InP2 n x) {m : Nat} (hm : m * normP n x % n = 1) : mulP n x (invP n x m) = (1, 0) := by
 have h0 : 0 < n := by omega
 have e : invP n x m = prP n (gk (m : Int) (gcj (toZ x))) := by
  unfold invP prP gk gcj toZ
  have e1 : prN n ((m : Int) * (x.1 : Int)) = x.1 * m % n := by rw [← prN_nat]; congr 1; push_cast; grind
  have e2 : prN n ((m : Int) * -(x.2 : Int)) = (0 + n - x.2) % n * m % n := by
   rw [← prN_nat]
   have k := prN_dvd h0 ((0 : Nat) - (x.2 : Int))
   rw [prN_sub (Nat.le_of_lt hx.2)] at k
   obtain ⟨c, hc⟩ := k
   refine prN_eq ⟨-(c * (m : Int)), ?_⟩
   push_cast
   push_cast at hc
   grind
  rw [e1, e2]
 rw [e, mulP_left h0]
 have e3 : gm (toZ x) (gk (m : Int) (gcj (toZ x))) = ((m : Int) * gn (toZ x), 0) := gz_ext (by simp only [gm, gk, gcj, gn]; grind) (by simp only [gm, gk, gcj]; grind)
 rw [e3]
 have hN := prN_dvd h0 (gn (toZ x))
 rw [← normP_pr h0] at hN
 obtain ⟨c, hc⟩ := hN
 have e4 : prN n ((m : Int) * gn (toZ x)) = 1 := by
  rw [← hm, ← prN_nat]
  refine prN_eq ⟨-(c * (m : Int)), ?_⟩
  push_cast
  grind
 show (prN n ((m : Int) * gn (toZ x)), prN n 0) = _
 rw [e4, show (0 : Int) = ((0 : Nat) : Int) from rfl, prN_nat, Nat.zero_mod]
end Go.Proofs.YtdajgcgliidjbaaGreat
namespace Go.Proofs.YtdajgcgliidjbaaGreat
abbrev Pt := ByteArray × ByteArray
def noP : Pt := (⟨#[]⟩, ⟨#[]⟩)
def valP (x : Pt) : Pn := (gV x.1, gV x.2)
def txtP (x : Pn) : Pt := (gS x.1, gS x.2)
def pairB (x : Pt) (p : ByteArray) : Bool := modB p && (restB x.1 p && restB x.2 p)
def twoPB (x y : Pt) (p : ByteArray) : Bool := pairB x p && pairB y p
def addPG (x y : Pt) (p : ByteArray) : Pt := if twoPB x y p then txtP (addP (gV p) (valP x) (valP y)) else noP
def subPG (x y : Pt) (p : ByteArray) : Pt := if twoPB x y p then txtP (subP (gV p) (valP x) (valP y)) else noP
def mulPG (x y : Pt) (p : ByteArray) : Pt := if twoPB x y p then txtP (mulP (gV p) (valP x) (valP y)) else noP
def normG (x : Pt) (p : ByteArray) : ByteArray := if pairB x p then gS (normP (gV p) (valP x)) else ⟨#[]⟩
def negPG (x : Pt) (p : ByteArray) : Pt := subPG noP x p
theorem pairB_parts {x : Pt} {p : ByteArray} (h : pairB x p = true) : modB p = true ∧ restB x.1 p = true ∧ restB x.2 p = true := by simpa [pairB] using h
theorem pair_num {x : Pt} {p : ByteArray} (h : pairB x p = true) : InP2 (gV p) (valP x) ∧ x = txtP (valP x) := by
 obtain ⟨_, h1, h2⟩ := pairB_parts h
 obtain ⟨e1, l1⟩ := rest_num h1
 obtain ⟨e2, l2⟩ := rest_num h2
 exact ⟨⟨l1, l2⟩, Prod.ext e1 e2⟩
theorem val_txt (x : Pn) : valP (txtP x) = x := by unfold valP txtP; rw [gV_gS, gV_gS]
theorem pair_txt {x : Pn} {p : ByteArray} (hm : modB p = true) (hx : InP2 (gV p) x) : pairB (txtP x) p = true := by
 unfold pairB txtP
 rw [hm, rest_gS hm hx.1, rest_gS hm hx.2]; rfl
theorem mod_pos {p : ByteArray} (hm : modB p = true) : 0 < gV p := by have := (modB_parts hm).2; omega
theorem add_txt {x y : Pn} {p : ByteArray} (hm : modB p = true) (hx : InP2 (gV p) x) (hy : InP2 (gV p) y) : addPG (txtP x) (txtP y) p = txtP (addP (gV p) x y) := by
 unfold addPG twoPB; rw [pair_txt hm hx, pair_txt hm hy, val_txt, val_txt]; rfl
theorem sub_txt {x y : Pn} {p : ByteArray} (hm : modB p = true) (hx : InP2 (gV p) x) (hy : InP2 (gV p) y) : subPG (txtP x) (txtP y) p = txtP (subP (gV p) x y) := by
 unfold subPG twoPB; rw [pair_txt hm hx, pair_txt hm hy, val_txt, val_txt]; rfl
theorem mul_txt {x y : Pn} {p : ByteArray} (hm : modB p = true) (hx : InP2 (gV p) x) (hy : InP2 (gV p) y) : mulPG (txtP x) (txtP y) p = txtP (mulP (gV p) x y) := by
 unfold mulPG twoPB; rw [pair_txt hm hx, pair_txt hm hy, val_txt, val_txt]; rfl
theorem zero_in {n : Nat} (h : 0 < n) : InP2 n (0, 0) := ⟨h, h⟩
theorem noP_txt : noP = txtP (0, 0) := by unfold noP txtP; rw [gS_zero]
theorem neg_txt {x : Pn} {p : ByteArray} (hm : modB p = true) (hx : InP2 (gV p) x) : negPG (txtP x) p = txtP (negP (gV p) x) := by
 unfold negPG; rw [noP_txt, sub_txt hm (zero_in (mod_pos hm)) hx]; rfl
theorem normP_lt {n : Nat} (h : 0 < n) (x : Pn) : normP n x < n := Nat.mod_lt _ h
theorem negP_in {n : Nat} (h : 0 < n) (x : Pn) : InP2 n (negP n x) := subP_in h _ _
theorem invP_in {n : Nat} (h : 0 < n) (x : Pn) (m : Nat) : InP2 n (invP n x m) := ⟨Nat.mod_lt _ h, Nat.mod_lt _ h⟩
end Go.Proofs.YtdajgcgliidjbaaGreat
namespace Go.Proofs.YtdajgcgliidjbaaGreat
open Go.RowKit
def aggT (x : Pt) : Array Value := #[.string x.1, .string x.2]
theorem agg_cells {w : World} {g : Nat} {x : Pt} {t : TypeId} (h : w.heap[g]? = some (.cells (aggT x) t (0, 0))) : w.cell? ⟨g, 0, none⟩ = some (.string x.1) ∧ w.cell? ⟨g, 1, none⟩ = some (.string x.2) :=
 ⟨(cell_of_row w g 0 _ _ _ h).trans rfl, (cell_of_row w g 1 _ _ _ h).trans rfl⟩
theorem agg_new (w : World) (x : Pt) (t : TypeId) : (w.alloc (.cells (aggT x) t)).heap[w.heap.size]? = some (.cells (aggT x) t (0, 0)) ∧ Below w.heap.size w (w.alloc (.cells (aggT x) t)) := ⟨heap_alloc_new w _, (Below.refl _ _).alloc (Nat.le_refl _) _⟩
theorem pairOk_any (x : Pt) (p : ByteArray) (w : World) : Calls Tryz.prog 30 #[.agg (aggT x), .string p] w fun e w' => e = .returned (.bool (pairB x p)) ∧ Below w.heap.size w w' := by
 have HM := Lib.hid (mod_any p)
 have H1 := Lib.hid (restOk_any x.1 p)
 have H2 := Lib.hid (restOk_any x.2 p)
 have HN := Lib.hid (agg_new w x 25)
 obtain ⟨c1, c2⟩ := agg_cells HN.out.1
 unfold pairB
 cases hm : modB p with
 | false =>
  rw [hm] at HM
  go_enter Tryz.func30, Tryz.ntmps30
  go_wp2_with fail
  refine (HM.out _).mono ?_
  rintro e w1 ⟨rfl, rfl⟩
  go_wp2
  go_ret
  exact ⟨rfl, HN.out.2⟩
 | true =>
  rw [hm] at HM
  rw [Bool.true_and]
  cases hr : restB x.1 p with
  | false =>
   rw [hr] at H1
   go_enter Tryz.func30, Tryz.ntmps30
   go_wp2_with fail
   refine (HM.out _).mono ?_
   rintro e w1 ⟨rfl, rfl⟩
   go_wp2_with fail
   refine (H1.out _).mono ?_
   rintro e w2 ⟨rfl, b2⟩
   have bb := bt HN.out.2 b2
   go_wp2
   go_ret
   exact ⟨rfl, bb⟩
  | true =>
   rw [hr] at H1
   rw [Bool.true_and]
   generalize restB x.2 p = r2 at *
   clear hm hr
   go_enter Tryz.func30, Tryz.ntmps30
   go_wp2_with fail
   refine (HM.out _).mono ?_
   rintro e w1 ⟨rfl, rfl⟩
   go_wp2_with fail
   refine (H1.out _).mono ?_
   rintro e w2 ⟨rfl, b2⟩
   have c3 : w2.cell? ⟨w.heap.size, 1, none⟩ = some (.string x.2) := by rw [b2.cell (by simp)]; exact c2
   have HB2 := Lib.hid (bt HN.out.2 b2)
   clear b2 c1 c2
   go_wp2_with fail
   refine (H2.out _).mono ?_
   rintro e w3 ⟨rfl, b3⟩
   have bb := bt HB2.out b3
   clear b3
   go_wp2
   go_ret
   exact ⟨rfl, bb⟩
end Go.Proofs.YtdajgcgliidjbaaGreat
namespace Go.Proofs.YtdajgcgliidjbaaGreat
open Go.RowKit
def PairX (w : World) (v : Value) (x : Pn) : Prop := ∃ a b, v = .agg #[a, b] ∧ RowX w a x.1 ∧ RowX w b x.2
theorem PairX.below {w w' : World} {v : Value} {x : Pn} (h : PairX w v x) (b : Below w.heap.size w w') : PairX w' v x := by
 obtain ⟨a, c, rfl, h1, h2⟩ := h
 exact ⟨a, c, rfl, h1.below b, h2.below b⟩
def PairTo (x : Pn) (w : World) (e : Ending) (w' : World) : Prop := ∃ v, e = .returned v ∧ PairX w' v x ∧ Below w.heap.size w w'
theorem yields_if {P : Program} {ops : Array Oper} {S : World → Prop} {o : Oper} {v : Value} {a : Act} (hgd : o.guard = none) (h : ∀ w, S w → (execOp a.eval o).run P w = .ok (.value v) w) : YieldsIf P ops S o v a :=
 .inl ⟨by simp only [Region.wanted, hgd], h⟩
theorem RowX.setRow {w : World} {v : Value} {x g : Nat} {C C' : Array Value} {t : TypeId} (h : RowX w v x) (hg : w.heap[g]? = some (.cells C t (0, 0))) (ht : t ≠ 3) : RowX (w.setRow g C') v x := by
 obtain ⟨b, A, cap, l, rfl, r, p⟩ := h
 refine ⟨b, A, cap, l, rfl, ⟨r.1, ?_⟩, p⟩
 rcases r.2 with h | ⟨g', cp, cur, hv, hb, hh, h3⟩
 ·exact .inl h
 ·refine .inr ⟨g', cp, cur, hv, hb, ?_, h3⟩
  have hne : g' ≠ g := fun e => by
   subst e
   rw [hg] at hh
   injection hh with hh
   injection hh with _ h2 _
   exact ht h2
  rw [setRow_other w g g' C' hne]; exact hh
theorem store_gen {ops : Array Oper} {i : Nat} {o : Oper} {a : Act} {w : World} {K : Act → World → Prop} {Q : Exit → Act → World → Prop} (hi : ops[i]? = some o) (hgd : o.guard = none) (t : TypeId) (x y : Operand) (ho : o.op = .store t x y) (g : Nat) (C C' : Array Value)
  (hx : a.eval x = .pointer (some ⟨g, 0, none⟩)) (hy : a.eval y = .agg C') (h : w.heap[g]? = some (.cells C t (0, 0))) (hs : (Tryz.prog.info? t).map (·.size) = some C'.size) (hc : C'.size = C.size) (h1 : C'.all (·.oneCell') = true) (k : K (a.put o.dst undef) (w.setRow g C')) : wpOp Tryz.prog ops Q i K a w := by
 unfold wpOp
 simp only [hi, Region.wanted, hgd, if_true]
 exact .inl (wp_store_row _ x y ho g _ hx hy _ _ h hs hc.symm h1 k)
theorem Tryz.info7 : (Tryz.prog.info? 59).map (·.size) = some 2 := by kernel_rfl
theorem in7_x (x : Pt) (w : World) (h1 : x.1.size ≤ 1000000) (h2 : x.2.size ≤ 1000000) : Calls Tryz.prog 33 #[.agg (aggT x)] w (PairTo (valP x) w) := by
 have HN := Lib.hid (agg_new w x 25)
 have I1 := Lib.hid (fun w => in_x x.1 w h1)
 have I2 := Lib.hid (fun w => in_x x.2 w h2)
 clear h1 h2
 go_enter Tryz.func33, Tryz.ntmps33
 go_wp2_with fail
 have hs : (w.alloc (.cells (aggT x) 25)).heap.size = w.heap.size + 1 := by simp
 have bA := HN.out.2
 have bl := HN.out.1
 generalize w.alloc (.cells (aggT x) 25) = w1 at *
 have bN := (Below.refl w1.heap.size w1).alloc (Nat.le_refl _) (.cells #[.slice none 0 0, .slice none 0 0] 59)
 have rN : (w1.alloc (.cells #[.slice none 0 0, .slice none 0 0] 59)).heap[w1.heap.size]? = some (.cells #[.slice none 0 0, .slice none 0 0] 59 (0, 0)) := heap_alloc_new w1 _
 rw [hs] at rN
 have bl2 := (bN.block w.heap.size (by omega)).trans bl
 have HB0 := Lib.hid (bt bA bN)
 generalize w1.alloc (.cells #[.slice none 0 0, .slice none 0 0] 59) = w2 at *
 have HS : Hid (w2.drew.heap[w.heap.size]? = some (.cells (aggT x) 25 (0, 0)) ∧ w2.drew.heap[w.heap.size + 1]? = some (.cells #[.slice none 0 0, .slice none 0 0] 59 (0, 0))) := ⟨bl2, rN⟩
 have HB1 : Hid (Below w.heap.size w w2.drew) := ⟨HB0.out.os, HB0.out.tape, HB0.out.output, HB0.out.size, HB0.out.block⟩
 have hz2 : w.heap.size + 1 < w2.drew.heap.size := (Array.getElem?_eq_some_iff.1 HS.out.2).1
 clear bA bl bN rN bl2 HB0 HN
 refine wp_region_held (S := fun w' => w'.heap[w.heap.size]? = some (.cells (aggT x) 25 (0, 0))) (by kernel_rfl) ?_
 change wpAnyH _ _ _ _ _ _ _ _ w2.drew
 generalize w2.drew = w3 at *
 refine wpAnyH_take (i := 0) (v := .pointer (some ⟨w.heap.size, 0, none⟩)) rfl (by kernel_rfl) (by kernel_rfl) (by kernel_rfl) (fun _ _ _ h => h) (yields_if rfl fun _ _ => by unfold execOp; go_simp) HS.out.1 ?_
 refine wpAnyH_take (i := 1) (v := .string x.1) rfl (by kernel_rfl) (by kernel_rfl) (by kernel_rfl) (fun _ _ _ h => h) (yields_if rfl fun _ hw => by have c := (agg_cells hw).1; unfold execOp; go_simp) HS.out.1 ?_
 refine wpAnyH_take (i := 3) (v := .pointer (some ⟨w.heap.size, 1, none⟩)) rfl (by kernel_rfl) (by kernel_rfl) (by kernel_rfl) (fun _ _ _ h => h) (yields_if rfl fun _ _ => by unfold execOp; go_simp) HS.out.1 ?_
 refine wpAnyH_take (i := 4) (v := .string x.2) rfl (by kernel_rfl) (by kernel_rfl) (by kernel_rfl) (fun _ _ _ h => h) (yields_if rfl fun _ hw => by have c := (agg_cells hw).2; unfold execOp; go_simp) HS.out.1 ?_
 refine wpAnyH_all (rs := [2]) (by kernel_rfl) (by decide) ?_
 intro i hi
 obtain rfl : i = 2 := by simpa using hi
 unfold wpOp
 go_simp
 left
 refine (I1.out _).mono ?_
 rintro e w4 ⟨u, rfl, hu, b4⟩
 have HS4 := Lib.hid (And.intro ((b4.block _ (by omega)).trans HS.out.1) ((b4.block _ hz2).trans HS.out.2))
 have HB4 := Lib.hid (bt HB1.out b4)
 have hz4 : w.heap.size + 1 < w4.heap.size := (Array.getElem?_eq_some_iff.1 HS4.out.2).1
 have HU4 := Lib.hid hu
 obtain ⟨au, nu, cu, rfl⟩ := hu.shape
 clear hu b4 HB1 HS hz2
 refine ⟨HS4.out.1, ?_⟩
 refine wpAnyH_all (rs := [5]) (by kernel_rfl) (by decide) ?_
 intro i hi
 obtain rfl : i = 5 := by simpa using hi
 unfold wpOp
 go_simp
 left
 refine (I2.out _).mono ?_
 rintro e w5 ⟨v, rfl, hv, b5⟩
 have HS5 := Lib.hid (And.intro ((b5.block _ (by omega)).trans HS4.out.1) ((b5.block _ hz4).trans HS4.out.2))
 have HB5 := Lib.hid (bt HB4.out b5)
 have HU5 := Lib.hid (HU4.out.below b5)
 have HV5 := Lib.hid hv
 obtain ⟨av, nv, cv, rfl⟩ := hv.shape
 clear hv b5 HB4 HS4 hz4 HU4
 refine ⟨HS5.out.1, ?_⟩
 refine wpAnyH_take (i := 6) (v := .agg #[.slice au nu cu, .slice av nv cv]) rfl (by kernel_rfl) (by kernel_rfl) (by kernel_rfl) (fun _ _ _ h => h) (yields_if rfl fun _ _ => by unfold execOp; go_simp) HS5.out.1 ?_
 refine wpAnyH_all (rs := [7]) (by kernel_rfl) (by decide) ?_
 intro i hi
 obtain rfl : i = 7 := by simpa using hi
 have HW := Lib.hid (below_setRow2 HB5.out (show w.heap.size ≤ w.heap.size + 1 by omega) #[.slice au nu cu, .slice av nv cv])
 have HR := Lib.hid (setRow_heap w5 (w.heap.size + 1) _ #[.slice au nu cu, .slice av nv cv] _ _ HS5.out.2)
 have HU6 := Lib.hid (HU5.out.setRow (C' := #[.slice au nu cu, .slice av nv cv]) HS5.out.2 (by decide))
 have HV6 := Lib.hid (HV5.out.setRow (C' := #[.slice au nu cu, .slice av nv cv]) HS5.out.2 (by decide))
 have hS6 : (w5.setRow (w.heap.size + 1) #[.slice au nu cu, .slice av nv cv]).heap[w.heap.size]? = some (.cells (aggT x) 25 (0, 0)) := (setRow_other _ _ _ _ (by omega)).trans HS5.out.1
 refine store_gen rfl rfl 59 (.tmp 2) (.tmp 9) rfl (w.heap.size + 1) _ _ rfl rfl HS5.out.2 Tryz.info7 rfl (by simp [Value.oneCell']) ⟨hS6, ?_⟩
 refine wpAnyH_done (by kernel_rfl) ?_ _
 clear HU5 HV5 HS5 HB5 hS6
 go_wp2
 exact bodyPost_ret (results_cell_row Tryz.results33 _ _ (w.heap.size + 1) _ _ _ _ rfl HR.out Tryz.underlying59 rfl Tryz.info7) rfl ⟨_, rfl, ⟨_, _, rfl, HU6.out, HV6.out⟩, HW.out⟩
theorem Tryz.infoP : (Tryz.prog.info? 25).map (·.size) = some 2 := by kernel_rfl
theorem out7_x {w : World} {v : Value} {x : Pn} (h : PairX w v x) (h1 : x.1 < SM) (h2 : x.2 < SM) : Calls Tryz.prog 81 #[v] w fun e w' => e = .returned (.agg (aggT (txtP x))) ∧ Below w.heap.size w w' := by
 obtain ⟨pa, pb, rfl, ha, hb⟩ := h
 have HA := Lib.hid ha
 have HBr := Lib.hid hb
 obtain ⟨aa, na, ca, rfl⟩ := ha.shape
 obtain ⟨ab, nb, cb, rfl⟩ := hb.shape
 obtain ⟨q, hq⟩ : ∃ q : Array Value, #[.slice aa na ca, .slice ab nb cb] = q := ⟨_, rfl⟩
 have HQ : Hid (∀ w' : World, ∀ g, w'.heap[g]? = some (.cells q 59 (0, 0)) → w'.cell? ⟨g, 0, none⟩ = some (.slice aa na ca) ∧ w'.cell? ⟨g, 1, none⟩ = some (.slice ab nb cb)) := fun w' g hg => by
  subst hq
  exact ⟨(cell_of_row w' g 0 _ _ _ hg).trans rfl, (cell_of_row w' g 1 _ _ _ hg).trans rfl⟩
 have HN : Hid ((w.alloc (.cells q 59)).heap[w.heap.size]? = some (.cells q 59 (0, 0)) ∧ Below w.heap.size w (w.alloc (.cells q 59))) := ⟨heap_alloc_new w _, (Below.refl _ _).alloc (Nat.le_refl _) _⟩
 rw [hq]
 clear ha hb hq
 go_enter Tryz.func81, Tryz.ntmps81
 go_wp2_with fail
 have hs : (w.alloc (.cells q 59)).heap.size = w.heap.size + 1 := by simp
 have bA := HN.out.2
 have bl := HN.out.1
 generalize w.alloc (.cells q 59) = w1 at *
 have bN := (Below.refl w1.heap.size w1).alloc (Nat.le_refl _) (.cells #[.string ⟨#[]⟩, .string ⟨#[]⟩] 25)
 have rN : (w1.alloc (.cells #[.string ⟨#[]⟩, .string ⟨#[]⟩] 25)).heap[w1.heap.size]? = some (.cells #[.string ⟨#[]⟩, .string ⟨#[]⟩] 25 (0, 0)) := heap_alloc_new w1 _
 rw [hs] at rN
 have bl2 := (bN.block w.heap.size (by omega)).trans bl
 have HB0 := Lib.hid (bt bA bN)
 generalize w1.alloc (.cells #[.string ⟨#[]⟩, .string ⟨#[]⟩] 25) = w2 at *
 have HS : Hid (w2.drew.heap[w.heap.size]? = some (.cells q 59 (0, 0)) ∧ w2.drew.heap[w.heap.size + 1]? = some (.cells #[.string ⟨#[]⟩, .string ⟨#[]⟩] 25 (0, 0))) := ⟨bl2, rN⟩
 have HB1 : Hid (Below w.heap.size w w2.drew) := ⟨HB0.out.os, HB0.out.tape, HB0.out.output, HB0.out.size, HB0.out.block⟩
 have hz2 : w.heap.size + 1 < w2.drew.heap.size := (Array.getElem?_eq_some_iff.1 HS.out.2).1
 clear bA bl bN rN bl2 HB0 HN
 refine wp_region_held (S := fun w' => w'.heap[w.heap.size]? = some (.cells q 59 (0, 0))) (by kernel_rfl) ?_
 change wpAnyH _ _ _ _ _ _ _ _ w2.drew
 generalize w2.drew = w3 at *
 refine wpAnyH_take (i := 0) (v := .pointer (some ⟨w.heap.size, 0, none⟩)) rfl (by kernel_rfl) (by kernel_rfl) (by kernel_rfl) (fun _ _ _ h => h) (yields_if rfl fun _ _ => by unfold execOp; go_simp) HS.out.1 ?_
 refine wpAnyH_take (i := 1) (v := .slice aa na ca) rfl (by kernel_rfl) (by kernel_rfl) (by kernel_rfl) (fun _ _ _ h => h) (yields_if rfl fun _ hw => by have c := (HQ.out _ _ hw).1; unfold execOp; go_simp) HS.out.1 ?_
 refine wpAnyH_take (i := 3) (v := .pointer (some ⟨w.heap.size, 1, none⟩)) rfl (by kernel_rfl) (by kernel_rfl) (by kernel_rfl) (fun _ _ _ h => h) (yields_if rfl fun _ _ => by unfold execOp; go_simp) HS.out.1 ?_
 refine wpAnyH_take (i := 4) (v := .slice ab nb cb) rfl (by kernel_rfl) (by kernel_rfl) (by kernel_rfl) (fun _ _ _ h => h) (yields_if rfl fun _ hw => by have c := (HQ.out _ _ hw).2; unfold execOp; go_simp) HS.out.1 ?_
 refine wpAnyH_all (rs := [2]) (by kernel_rfl) (by decide) ?_
 intro i hi
 obtain rfl : i = 2 := by simpa using hi
 unfold wpOp
 go_simp
 left
 refine (out_x (HA.out.below HB1.out) h1).mono ?_
 rintro e w4 ⟨rfl, b4⟩
 have HS4 := Lib.hid (And.intro ((b4.block _ (by omega)).trans HS.out.1) ((b4.block _ hz2).trans HS.out.2))
 have HB4 := Lib.hid (bt HB1.out b4)
 have hz4 : w.heap.size + 1 < w4.heap.size := (Array.getElem?_eq_some_iff.1 HS4.out.2).1
 clear b4 HB1 HS hz2
 refine ⟨HS4.out.1, ?_⟩
 refine wpAnyH_all (rs := [5]) (by kernel_rfl) (by decide) ?_
 intro i hi
 obtain rfl : i = 5 := by simpa using hi
 unfold wpOp
 go_simp
 left
 refine (out_x (HBr.out.below HB4.out) h2).mono ?_
 rintro e w5 ⟨rfl, b5⟩
 have HS5 := Lib.hid (And.intro ((b5.block _ (by omega)).trans HS4.out.1) ((b5.block _ hz4).trans HS4.out.2))
 have HB5 := Lib.hid (bt HB4.out b5)
 clear b5 HB4 HS4 hz4
 refine ⟨HS5.out.1, ?_⟩
 refine wpAnyH_take (i := 6) (v := .agg #[.string (gS x.1), .string (gS x.2)]) rfl (by kernel_rfl) (by kernel_rfl) (by kernel_rfl) (fun _ _ _ h => h) (yields_if rfl fun _ _ => by unfold execOp; go_simp) HS5.out.1 ?_
 refine wpAnyH_all (rs := [7]) (by kernel_rfl) (by decide) ?_
 intro i hi
 obtain rfl : i = 7 := by simpa using hi
 have HW := Lib.hid (below_setRow2 HB5.out (show w.heap.size ≤ w.heap.size + 1 by omega) #[.string (gS x.1), .string (gS x.2)])
 have HR := Lib.hid (setRow_heap w5 (w.heap.size + 1) _ #[.string (gS x.1), .string (gS x.2)] _ _ HS5.out.2)
 have hS6 : (w5.setRow (w.heap.size + 1) #[.string (gS x.1), .string (gS x.2)]).heap[w.heap.size]? = some (.cells q 59 (0, 0)) := (setRow_other _ _ _ _ (by omega)).trans HS5.out.1
 refine store_gen rfl rfl 25 (.tmp 2) (.tmp 9) rfl (w.heap.size + 1) _ _ rfl rfl HS5.out.2 Tryz.infoP rfl (by simp [Value.oneCell']) ⟨hS6, ?_⟩
 refine wpAnyH_done (by kernel_rfl) ?_ _
 clear HS5 HB5 hS6
 go_wp2
 exact bodyPost_ret (results_cell_row Tryz.results81 _ _ (w.heap.size + 1) _ _ _ _ rfl HR.out Tryz.underlying25 rfl Tryz.infoP) rfl ⟨rfl, HW.out⟩
end Go.Proofs.YtdajgcgliidjbaaGreat
