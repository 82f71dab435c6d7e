import Derived.Test.YtdajgcgliidjbaaGreatILow
import Derived.RegionTactic
import Derived.BigRegion
set_option maxRecDepth 8000
set_option maxHeartbeats 2000000
namespace Go.Proofs.YtdajgcgliidjbaaGreat
open Go.RowKit
structure RevRel (l : List UInt8) (n i : Nat) (L : List UInt8) : Prop where
 len : L.length = n
 at_ : ∀ k, k < n → L.getD k 0 = if k < i ∨ n - i ≤ k then l.getD (n - 1 - k) 0 else l.getD k 0
theorem RevRel.start (l : List UInt8) {n : Nat} (h : l.length = n) : RevRel l n 0 l := ⟨h, fun k hk => by rw [if_neg (by omega)]⟩
theorem getD_set8 (L : List UInt8) (i k : Nat) (v : UInt8) (hi : i < L.length) : (L.set i v).getD k 0 = if i = k then v else L.getD k 0 := by
 simp only [List.getD_eq_getElem?_getD, List.getElem?_set, hi, if_true]
 split <;> rfl
theorem RevRel.next {l L : List UInt8} {n i : Nat} (h : RevRel l n i L) (hi : i < n - 1 - i) : RevRel l n (i + 1) ((L.set i (L.getD (n - 1 - i) 0)).set (n - 1 - i) (L.getD i 0)) := by
 refine ⟨by rw [List.length_set, List.length_set, h.len], fun k hk => ?_⟩
 rw [getD_set8 _ _ _ _ (by rw [List.length_set, h.len]; omega), getD_set8 _ _ _ _ (by rw [h.len]; omega), h.at_ (n - 1 - i) (by omega), h.at_ i (by omega), if_neg (by omega : ¬ (n - 1 - i < i ∨ n - i ≤ n - 1 - i)), if_neg (by omega : ¬ (i < i ∨ n - i ≤ i))]
 by_cases h1 : n - 1 - i = k
 ·rw [if_pos h1, if_pos (by omega)]; congr 1; omega
 ·rw [if_neg h1]
  by_cases h2 : i = k
  ·rw [if_pos h2, if_pos (by omega)]; congr 1; omega
  ·rw [if_neg h2, h.at_ k hk]
   by_cases h3 : k < i ∨ n - i ≤ k
   ·rw [if_pos h3, if_pos (by omega)]
   ·rw [if_neg h3, if_neg (by omega)]
theorem RevRel.done {l L : List UInt8} {n i : Nat} (h : RevRel l n i L) (hl : l.length = n) (hi : n - 1 - i ≤ i) : L = l.reverse := by
 apply List.ext_getElem (by rw [List.length_reverse, h.len, hl])
 intro k h1 h2
 have hk : k < n := by rw [← h.len]; exact h1
 have e := h.at_ k hk
 rw [List.getD_eq_getElem?_getD, List.getElem?_eq_getElem h1] at e
 rw [List.getElem_reverse]
 have hlast : ∀ j (hj : j < l.length), l.getD j 0 = l[j] := fun j hj => by rw [List.getD_eq_getElem?_getD, List.getElem?_eq_getElem hj]; rfl
 have e2 : L[k] = l.getD (n - 1 - k) 0 := by
  refine e.trans ?_
  by_cases h3 : k < i ∨ n - i ≤ k
  ·rw [if_pos h3]
  ·rw [if_neg h3]; congr 1; omega
 rw [e2, hlast _ (by omega)]
 congr 1; omega
def RevPost (base : Nat) (A : Option Addr) (cap : Nat) (l : List UInt8) (w : World) (e : Ending) (w' : World) : Prop :=
 e = .returned (.tuple #[]) ∧ w'.ownsRow base 5 1 (.slice A l.length cap) l.length (Lib.byteCells l.reverse) ∧ Below base w w'
theorem reverse_any (base cap : Nat) (A : Option Addr) (l : List UInt8) (w : World) (h : w.ownsRow base 5 1 (.slice A l.length cap) l.length (Lib.byteCells l)) (hl : l.length ≤ 2000000) :
  Calls Tryz.prog 199 #[.slice A l.length cap] w (RevPost base A cap l w) := by
 obtain ⟨n, hn⟩ : ∃ n, l.length = n := ⟨_, rfl⟩
 have R0 : ∀ (i : Nat) (L : List UInt8) (w' : World), RevRel l n i L → n - 1 - i ≤ i → w'.ownsRow base 5 1 (.slice A n cap) n (Lib.byteCells L) → Below base w w' → RevPost base A cap l w (.returned (.tuple #[])) w' := by
  intro i L w' h1 h2 h3 h4
  refine ⟨rfl, ?_, h4⟩
  rw [hn, ← h1.done hn h2]; exact h3
 have R := Lib.hid R0
 rw [hn] at h hl ⊢
 have H := Lib.hid h
 have HN := Lib.hid hn
 clear h hn R0
 go_enter Tryz.func199, Tryz.ntmps199
 go_wp2
 go_loopw [2, 3] (fun iv jv wr => ∃ (i : Nat) (L : List UInt8), i ≤ n ∧ iv = .int .i64 i ∧ jv = .int .i64 ((n : Int) - 1 - i) ∧ Hid (RevRel l n i L) ∧ Hid (wr.ownsRow base 5 1 (.slice A n cap) n (Lib.byteCells L)) ∧ Hid (Below base w wr)) (fun iv _ _ => n - (intOf iv).toNat)
 case atStart => exact ⟨0, l, by omega, rfl, by simp, RevRel.start l HN.out, H, Below.refl _ _⟩
 case round =>
  obtain ⟨i, L, hin, rfl, rfl, hR, hO, hB⟩ := hrel
  by_cases hlt : i < n - 1 - i
  ·obtain ⟨j, hj⟩ : ∃ j, n - 1 - i = j := ⟨_, rfl⟩
   have hji : (n : Int) - 1 - (i : Int) = (j : Int) := by omega
   rw [hji]
   have hNx := hR.out.next hlt
   rw [hj] at hNx
   have hlt1 : (i : Int) < (j : Int) := by omega
   have hLl := hR.out.len
   obtain ⟨g, cp, hv, hg1, hg2⟩ := World.ownsRow.form hO.out (by omega)
   injection hv with e1 e2 e3
   subst e1 e3
   have ci : wr.cell? ⟨g, i, none⟩ = some (.int .u8 ((L.getD i 0).toNat : Int)) := by
    rw [hO.out.cellAt i (by omega)]
    simp [Lib.byteCells, show i < L.length from by omega]
   have cj : wr.cell? ⟨g, j, none⟩ = some (.int .u8 ((L.getD j 0).toNat : Int)) := by
    rw [hO.out.cellAt j (by omega)]
    simp [Lib.byteCells, show j < L.length from by omega]
   have fi := hO.out.frozenAt i
   have fj := hO.out.frozenAt j
   generalize L.getD i 0 = ui at *
   generalize L.getD j 0 = uj at *
   have S1 := (hO.out.stored i (.int .u8 (uj.toNat : Int))).1
   have S2 := (S1.stored j (.int .u8 (ui.toNat : Int))).1
   have hli : i < (Lib.byteCells L).length := by rw [hO.out.1]; omega
   rw [byteCells_set, byteCells_set] at S2
   have HS := Lib.hid S2
   have HNx := Lib.hid hNx
   have HB2 : Hid (Below base w ((wr.setCell ⟨g, i, none⟩ (.int .u8 (uj.toNat : Int))).setCell ⟨g, j, none⟩ (.int .u8 (ui.toNat : Int)))) := (hB.out.setCell (p := ⟨g, i, none⟩) hg1 _).setCell (p := ⟨g, j, none⟩) hg1 _
   have k1 : (i : Int) < (n : Int) := by omega
   have k2 : (j : Int) < (n : Int) := by omega
   have k3 : ¬ i = j := by omega
   have k4 : ¬ j = i := by omega
   clear hR hO hB S1 S2 hNx hLl hj hli
   go_wp2
   go_region
   all_goals (
    go_wp2
    go_roundw
    case rel => exact ⟨i + 1, _, by omega, by go_num, by simp; omega, HNx, HS, bdN HB2.out 1⟩
    case measure => simp [intOf]; omega)
  ·have hlt1 : ¬ (i : Int) < (n : Int) - 1 - (i : Int) := by omega
   go_wp2
   go_end0
   exact R.out i L _ hR.out (by omega) hO.out hB.out
def OfRel (N m : Nat) (o : List UInt8) : Prop := gT N = gT m ++ o.reverse
theorem OfRel.next {N m x y : Nat} {o : List UInt8} (h : OfRel N m o) (hm : 0 < m) (hy : m / 256 = y) (hx : m % 256 = x) : OfRel N y (o ++ [UInt8.ofNat x]) := by
 unfold OfRel at *
 rw [h, gT_pos hm, hy, hx, List.reverse_append, List.append_assoc]; rfl
theorem OfRel.len {N m : Nat} {o : List UInt8} (h : OfRel N m o) (hN : N < 256 ^ 8) : o.length ≤ 8 := by
 have := gT_len_lt hN
 unfold OfRel at h
 rw [h, List.length_append, List.length_reverse] at this; omega
theorem greatOf_i (n : Int) (w : World) (hn : n < 9223372036854775808) : Calls Tryz.prog 186 #[.int .i64 n] w fun e w' => e = .returned (.string (ofI n)) ∧ Below w.heap.size w w' := by
 obtain ⟨i0, hi, hz0, hz1, hz2⟩ := info_parts Tryz.infoB
 have hN : n.toNat < 256 ^ 8 := by omega
 have HN := Lib.hid hN
 have hmax : n ≤ 9223372036854775807 := by omega
 clear hN hn
 go_enter Tryz.func186, Tryz.ntmps186
 go_wp2
 go_loopw [0, 3] (fun nv v wr => ∃ (m : Int) (o : List UInt8) (A : Option Addr) (cap : Nat), m ≤ 9223372036854775807 ∧ nv = .int .i64 m ∧ v = .slice A o.length cap ∧ Hid (OfRel n.toNat m.toNat o) ∧ Hid (wr.ownsRow w.heap.size 5 1 (.slice A o.length cap) o.length (Lib.byteCells o)) ∧ Below w.heap.size w wr) (fun nv _ _ => (intOf nv).toNat)
 case atStart =>
  refine ⟨n, [], none, 0, hmax, rfl, rfl, ?_, ⟨rfl, .inl ⟨rfl, rfl⟩⟩, Below.refl _ _⟩
  show gT n.toNat = gT n.toNat ++ [].reverse
  simp
 case round =>
  obtain ⟨m0, o, A, cap, hm0, rfl, rfl, hR, hO, hb⟩ := hrel
  have hbs := hb.size
  obtain ⟨k, hk⟩ : ∃ k, o.length = k := ⟨_, rfl⟩
  have hk8 : k ≤ 8 := by rw [← hk]; exact hR.out.len HN.out
  by_cases h0 : 0 < m0
  ·obtain ⟨m, rfl⟩ : ∃ m : Nat, m0 = (m : Int) := ⟨m0.toNat, by omega⟩
   rw [Int.toNat_natCast] at hR
   obtain ⟨y, hy⟩ : ∃ y, m / 256 = y := ⟨_, rfl⟩
   obtain ⟨x, hx⟩ : ∃ x, m % 256 = x := ⟨_, rfl⟩
   have HNx := Lib.hid (hR.out.next (by omega) hy hx)
   have hwr : IntKind.u8.wrap (m : Int) = (x : Int) := by rw [IntKind.wrap_u8]; omega
   have hdv : (m : Int) / 256 = (y : Int) := by omega
   have hym : y < m := by omega
   have hx2 : x < 256 := by omega
   rw [hk] at hO ⊢
   have HK := Lib.hid hk
   clear hk hx hy hR
   go_wp2_with (at_builtin; refine wpList_append_lies _ rfl (.tmp 8) (.tmp 11) _ rfl w.heap.size 5 i0 (.int .u8 0) 1 1 Tryz.underlying22 hi hz0 hz1 hz2 rfl (by omega) _ k _ rfl (World.ownsRow.alloc hO.out _) ⟨wr.heap.size, 0, none⟩ 1 1 [.int .u8 (x : Int)] rfl rfl (World.news_of_block (cs := #[.int .u8 (x : Int)]) (t := 5) (fr := (0, 0)) (heap_alloc_new wr _)) (by simp [Value.oneCell']) (by omega) (by unfold maxLen; omega) (by omega) (by simp; omega) _ rfl ?_)
   intro g cp w1 hown1 hgrow hat hlt1
   have hb2 := bytes_grown hb hO.out hgrow
   have R : Hid (w1.ownsRow w.heap.size 5 1 (.slice (some ⟨g, 0, none⟩) (o ++ [UInt8.ofNat x]).length cp) (o ++ [UInt8.ofNat x]).length (Lib.byteCells (o ++ [UInt8.ofNat x]))) ∧ (o ++ [UInt8.ofNat x]).length = k + 1 := by
    have e2 : (o ++ [UInt8.ofNat x]).length = k + 1 := by rw [List.length_append, HK.out]; rfl
    refine ⟨?_, e2⟩
    rw [e2, byteCells_snoc, byte_nat _ hx2]
    exact hown1
   clear hown1 hgrow hat hlt1 hO
   go_wp2
   go_roundw
   case rel => exact ⟨(y : Int), o ++ [UInt8.ofNat x], some ⟨g, 0, none⟩, cp, by omega, rfl, by rw [R.2], by rw [Int.toNat_natCast]; exact HNx, R.1, hb2⟩
   case measure => simp [intOf]; omega
  ·have hT : gT n.toNat = o.reverse := by
    have := hR.out
    unfold OfRel at this
    rw [this, show m0.toNat = 0 from by omega, gT_zero, List.nil_append]
   have HRv := Lib.hid (reverse_any w.heap.size cap A o wr hO.out (by omega))
   rw [hk] at HRv ⊢
   have HT := Lib.hid hT
   have HK := Lib.hid hk
   clear hk hT hR hO
   go_wp2_with fail
   refine HRv.out.mono ?_
   rintro e w1 ⟨rfl, ho, hb1⟩
   rw [HK.out] at ho
   have hcv := conv_own (P := Tryz.prog) (src := 22) (dst := 9) (e := 5) Tryz.underlying22 Tryz.underlying5 Tryz.underlying9 ho
   rw [← HT.out] at hcv
   have hb3 := hb.trans hb1
   clear ho
   go_wp2
   go_ret
   exact ⟨rfl, hb3⟩
end Go.Proofs.YtdajgcgliidjbaaGreat
