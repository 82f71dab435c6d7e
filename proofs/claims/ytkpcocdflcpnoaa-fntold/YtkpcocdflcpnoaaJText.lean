/-
  The contracts of impl.withGroup, highestFirst and GreatText.
-/
import Derived.Test.YtkpcocdflcpnoaaJBytes
import Derived.Test.YtkpcocdflcpnoaaTText
import Derived.Test.YtkpcocdflcpnoaaIDivLimb
import Derived.Deep.LoopGhost
namespace Go.Proofs.Ytkpcocdflcpnoaa
open Go.RowKit

/-- Inside a group: q behind nine figures more, n of them to come. -/
structure Nine (V q L i n : Nat) (O : List UInt8) : Prop where
  fig : O.all isF = true
  len : O.length = L + i
  val : V = q * 10 ^ (L + 9) + n * 10 ^ (L + i) + fV O.reverse
  lt : n < 10 ^ (9 - i)
theorem Figs.nine {V A q n : Nat} {O : List UInt8} (h : Figs V A O) (hA : A = q * 1000000000 + n) (hn : n < 1000000000) : Nine V q O.length 0 n O := by
  refine ⟨h.fig, rfl, ?_, hn⟩
  rw [h.val, hA, Nat.add_mul, Nat.pow_add, Nat.mul_assoc, Nat.mul_comm 1000000000, Nat.add_zero]
theorem Nine.next {V q L i n x y : Nat} {O : List UInt8} (h : Nine V q L i n O) (hi : i < 9) (hx : n % 10 = x) (hy : n / 10 = y) : Nine V q L (i + 1) y (O ++ [UInt8.ofNat (48 + x)]) := by
  have hx10 : x < 10 := by omega
  refine ⟨?_, by rw [List.length_append, h.len]; rfl, ?_, ?_⟩
  · rw [List.all_append, h.fig]
    simp only [List.all_cons, List.all_nil, Bool.and_true, Bool.true_and]
    exact isF_fig x hx10
  · rw [h.val, List.reverse_append, List.reverse_singleton, List.singleton_append, fV_cons, dgv_fig x hx10, List.length_reverse, h.len, ← Nat.add_assoc L i 1, Nat.pow_succ 10 (L + i)]
    have : n * 10 ^ (L + i) = y * (10 ^ (L + i) * 10) + x * 10 ^ (L + i) := by
      rw [Nat.mul_comm (10 ^ (L + i)) 10, ← Nat.mul_assoc, ← Nat.add_mul]; congr 1; omega
    omega
  · have hl := h.lt
    rw [show 9 - i = 9 - (i + 1) + 1 from by omega, Nat.pow_succ] at hl
    omega
theorem Nine.done {V q L n : Nat} {O : List UInt8} (h : Nine V q L 9 n O) : Figs V q O := by
  have hl := h.lt
  have hn : n = 0 := by
    rw [Nat.sub_self, Nat.pow_zero] at hl; omega
  refine ⟨h.fig, ?_⟩
  rw [h.val, hn, h.len, Nat.zero_mul, Nat.add_zero]
/-- Figures grown: where they lie, and what else stays. -/
structure Grew (w wr : World) (row : Option Nat) (v : Value) : Prop where
  gr : w.grownBy wr row
  at_ : ∀ k, v.ownBlock = some k → row = some k ∨ w.heap.size ≤ k
theorem Grew.refl (w : World) (v : Value) : Grew w w v.ownBlock v := ⟨⟨rfl, rfl, rfl, Nat.le_refl _, fun _ _ _ => rfl⟩, fun _ h => .inl h⟩
theorem Grew.next {w wr w1 : World} {row : Option Nat} {v v1 : Value} {ob : Obj} {g : Nat} (h : Grew w wr row v) (hg : (wr.alloc ob).grownBy w1 v.ownBlock) (hv1 : v1.ownBlock = some g) (hat : v.ownBlock = some g ∨ g = wr.heap.size + 1) : Grew w w1 row v1 := by
  have hs := h.gr.size
  have hsz : (wr.alloc ob).heap.size = wr.heap.size + 1 := by simp
  have hs1 := hg.size
  refine ⟨⟨hg.os.trans h.gr.os, hg.tape.trans h.gr.tape, hg.output.trans h.gr.output, by omega, fun k hk hr => ?_⟩, fun k hk => ?_⟩
  · rw [hg.block k (by omega) (fun e => by
      rcases h.at_ k e.symm with e2 | e2
      · exact hr e2.symm
      · omega)]
    exact (Below.heap_alloc wr ob k (by omega)).trans (h.gr.block k hk hr)
  · rw [hv1] at hk
    injection hk with hk
    subst hk
    rcases hat with e | e
    · exact h.at_ g e
    · right; omega
def GroupPost (B V q L : Nat) (row : Option Nat) (w : World) (e : Ending) (w' : World) : Prop :=
  ∃ (O : List UInt8) (A : Option Addr) (cap : Nat), e = .returned (.slice A O.length cap) ∧ Figs V q O ∧ O.length = L + 9 ∧ w'.ownsRow B 5 1 (.slice A O.length cap) O.length (Lib.byteCells O) ∧ w.grownBy w' row
set_option maxHeartbeats 2000000 in
theorem withGroup_any (B V A q n : Nat) (O : List UInt8) (Ao : Option Addr) (co : Nat) (w : World) (hO : w.ownsRow B 5 1 (.slice Ao O.length co) O.length (Lib.byteCells O)) (hB : B ≤ w.heap.size) (hF : Figs V A O) (hA : A = q * 1000000000 + n) (hn : n < 1000000000) (hl : O.length ≤ 500) :
    Calls Try.prog 33 #[.slice Ao O.length co, .int .u32 (n : Int)] w (GroupPost B V q O.length (Value.slice Ao O.length co).ownBlock w) := by
  obtain ⟨i0, hi, hz0, hz1, hz2⟩ := info_parts Try.infoB
  have H9 := Lib.hid (hF.nine hA hn)
  have HO := Lib.hid hO
  have HG := Lib.hid (Grew.refl w (.slice Ao O.length co))
  obtain ⟨row, hrow⟩ : ∃ row, (Value.slice Ao O.length co).ownBlock = row := ⟨_, rfl⟩
  rw [hrow] at HG ⊢
  obtain ⟨L, hL⟩ : ∃ L, O.length = L := ⟨_, rfl⟩
  rw [hL] at H9 HG HO hl ⊢
  have HL := Lib.hid hL
  clear hF hA hO hrow hL
  go_enter Try.func33, Try.ntmps33
  go_wp2
  go_loopw [0, 1, 5] (fun fv rv iv wr => ∃ (i m : Nat) (o : List UInt8) (A : Option Addr) (cap : Nat), i ≤ 9 ∧ iv = .int .i64 i ∧ rv = .int .u32 m ∧ fv = .slice A (L + i) cap ∧ m < 1000000000 ∧ Hid (Nine V q L i m o) ∧ Hid (wr.ownsRow B 5 1 (.slice A (L + i) cap) (L + i) (Lib.byteCells o)) ∧ Hid (Grew w wr row (.slice A (L + i) cap))) (fun _ _ iv _ => 9 - (intOf iv).toNat)
  case atStart => exact ⟨0, n, O, Ao, co, by omega, rfl, rfl, rfl, hn, H9, HO, HG⟩
  case round =>
    clear H9 HO HG
    obtain ⟨i, m, o, A, cap, hi9, rfl, rfl, rfl, hm, h9, hO, hG⟩ := hrel
    have hbs := hG.out.gr.size
    obtain ⟨k, hk⟩ : ∃ k, L + i = k := ⟨_, rfl⟩
    rw [hk] at hO hG ⊢
    by_cases hlt : i < 9
    · have hlt' : (i : Int) < 9 := by omega
      obtain ⟨x, hx⟩ : ∃ x, m % 10 = x := ⟨_, rfl⟩
      obtain ⟨y, hy⟩ : ∃ y, m / 10 = y := ⟨_, rfl⟩
      have HNx := Lib.hid (h9.out.next hlt hx hy)
      obtain ⟨c, hc⟩ : ∃ c, 48 + x = c := ⟨_, rfl⟩
      rw [hc] at HNx
      have d1 : (m : Int) % 10 = (x : Int) := by omega
      have d2 : (48 : Int) + (x : Int) = (c : Int) := by omega
      have d3 : (m : Int) / 10 = (y : Int) := by omega
      have hc2 : c < 58 := by omega
      have hym : y < 1000000000 := by omega
      clear hx hy h9 hc
      go_wp2_with (at_builtin; refine wpList_append_lies _ rfl (.tmp 7) (.tmp 12) _ rfl B 5 i0 (.int .u8 0) 1 1 Try.underlying22 hi hz0 hz1 hz2 rfl (by omega) _ k _ rfl (World.ownsRow.alloc hO.out _) ⟨wr.heap.size, 0, none⟩ 1 1 [.int .u8 (c : Int)] rfl rfl (World.news_of_block (cs := #[.int .u8 (c : Int)]) (t := 5) (fr := (0, 0)) (heap_alloc_new wr _)) (by simp [Value.oneCell']) (by omega) (by unfold maxLen; omega) (by omega) (by simp; omega) _ rfl ?_)
      intro g cp w1 hown1 hgrow hat hlt1
      have HG2 := Lib.hid (hG.out.next (v1 := .slice (some ⟨g, 0, none⟩) (k + 1) cp) hgrow rfl hat)
      have hown2 : w1.ownsRow B 5 1 (.slice (some ⟨g, 0, none⟩) (k + 1) cp) (k + 1) (Lib.byteCells (o ++ [UInt8.ofNat c])) := by
        rw [byteCells_snoc, byte_nat _ (by omega)]
        exact hown1
      have HO2 := Lib.hid hown2
      clear hown1 hgrow hat hlt1 hO hG hown2
      go_wp2
      go_roundw
      case rel => exact ⟨i + 1, y, o ++ [UInt8.ofNat c], some ⟨g, 0, none⟩, cp, by omega, by go_num, rfl, by rw [← Nat.add_assoc, hk], hym, HNx, by rw [← Nat.add_assoc, hk]; exact HO2, by rw [← Nat.add_assoc, hk]; exact HG2⟩
      case measure => simp [intOf]; omega
    · obtain rfl : i = 9 := by omega
      have hlt' : ¬ ((9 : Nat) : Int) < 9 := by omega
      have hol : o.length = k := by rw [h9.out.len, hk]
      have R : Hid (GroupPost B V q L row w (.returned (.slice A k cap)) wr) := ⟨o, A, cap, by rw [hol], h9.out.done, by rw [hol]; exact hk.symm, by rw [hol]; exact hO.out, hG.out.gr⟩
      clear h9 hO hG hol
      go_wp2
      go_ret
      exact R.out

/-! highestFirst -/
theorem BRow.convFrom {w : World} {base g k c : Nat} {L : List UInt8} {src dst e : TypeId} {P : Program} (h : BRow w base g L) (hs : P.underlying src = some (.slice e)) (he : P.underlying e = some (.int .u8)) (hd : P.underlying dst = some .string) :
    (convert src dst (.slice (some ⟨g, k, none⟩) (L.length - k) c)).run P w = .ok (.string (txt (L.drop k))) w := by
  have := run_convert_bytes_back (P := P) w src dst e ⟨g, k, none⟩ c (L.drop k) hs he hd fun j hj => by
    rw [List.length_drop] at hj
    have h1 := h.cell (k + j) (by omega)
    rw [List.getD_eq_getElem?_getD, List.getElem?_eq_getElem (by omega)] at h1
    have e : (⟨g, k, none⟩ : Addr).add j = ⟨g, k + j, none⟩ := by
      unfold Addr.add
      split
      · subst_vars; rfl
      · rfl
    rw [e, h1, List.getElem_drop]
    rfl
  rw [List.length_drop] at this
  exact this
theorem noughts_next {R : List UInt8} {k V : Nat} (h : fV (R.drop k) = V) (hk : k < R.length) (hz : (R.getD k 0).toNat = 48) : fV (R.drop (k + 1)) = V := by
  rw [List.drop_eq_getElem_cons hk, fV_cons, dgv_eq] at h
  rw [List.getD_eq_getElem?_getD, List.getElem?_eq_getElem hk] at hz
  have hz2 : R[k].toNat = 48 := hz
  rw [hz2] at h
  simpa using h
theorem noughts_done {R : List UInt8} {k V : Nat} (h : fV (R.drop k) = V) (hf : R.all isF = true) (hk : k < R.length) (hz : (R.getD k 0).toNat ≠ 48) : R.drop k = dT V := by
  rw [← h]
  refine (dT_fV _ (List.all_eq_true.2 fun x hx => List.all_eq_true.1 hf x (List.mem_of_mem_drop hx)) ?_).symm
  rw [List.drop_eq_getElem_cons hk]
  rw [List.getD_eq_getElem?_getD, List.getElem?_eq_getElem hk] at hz
  have hz2 : R[k].toNat ≠ 48 := hz
  cases hr : R.drop (k + 1) with
  | nil => rfl
  | cons c r => rw [headF_cons _ (by simp)]; simpa using hz2
set_option maxHeartbeats 2000000 in
theorem highestFirst_any (base g cap m V : Nat) (O : List UInt8) (w : World) (h : BRow w base g O) (hm : O.length = m) (hcap : m ≤ cap) (hm2 : m ≤ 2000) (hf : O.all isF = true) (hV : V = fV O.reverse) (h0 : 0 < V) :
    Calls Try.prog 34 #[.slice (some ⟨g, 0, none⟩) m cap] w fun e w' => e = .returned (.string (txt (dT V))) ∧ Below base w w' := by
  have HR := Lib.hid (reverse_row base cap g m O w h hm (by omega))
  obtain ⟨R, hR⟩ : ∃ R, O.reverse = R := ⟨_, rfl⟩
  have hRl : R.length = m := by rw [← hR, List.length_reverse, hm]
  have hRf : R.all isF = true := by rw [← hR, List.all_reverse]; exact hf
  have HRl := Lib.hid hRl
  have HRf := Lib.hid hRf
  rw [hR] at hV
  have HV := Lib.hid hV
  unfold RevB at HR
  rw [hR] at HR
  clear h hm hf hR hRl hRf hV
  go_enter Try.func34, Try.ntmps34
  go_wp2_with fail
  refine HR.out.mono ?_
  rintro e w1 ⟨rfl, hb, hB⟩
  have HB := Lib.hid hB
  have HW := Lib.hid hb
  clear hb hB HR
  go_wp2
  go_loop [3] (fun kv => ∃ k : Nat, k ≤ m ∧ kv = .int .i64 k ∧ Hid (fV (R.drop k) = V)) (fun kv => m - (intOf kv).toNat)
  case atStart => exact ⟨0, Nat.zero_le _, rfl, HV.out.symm⟩
  case round =>
    obtain ⟨k, hk, rfl, hD⟩ := hrel
    have hkm : k < m := by
      rcases Nat.eq_or_lt_of_le hk with e | e
      · exfalso
        have := hD.out
        rw [List.drop_of_length_le (by rw [HRl.out]; omega)] at this
        rw [fV_nil] at this
        omega
      · exact e
    have hkm' : (k : Int) < (m : Int) := by omega
    have hc := HW.out.cell k (by rw [HRl.out]; exact hkm)
    have hkR : k < R.length := by rw [HRl.out]; exact hkm
    by_cases hz : (R.getD k 0).toNat = 48
    · have hN := Lib.hid (noughts_next hD.out hkR hz)
      have hz' : (((R.getD k 0).toNat : Int) == 48) = true := by rw [hz]; rfl
      generalize R.getD k 0 = u at *
      clear hz hkR
      go_wp2
      go_round
      case rel => exact ⟨k + 1, by omega, by go_num, hN⟩
      case measure => simp [intOf]; omega
    · have hz' : (((R.getD k 0).toNat : Int) == 48) = false := by
        have : ¬ (((R.getD k 0).toNat : Int) = 48) := by omega
        simpa using this
      have hT := Lib.hid (noughts_done hD.out HRf.out hkR hz)
      have hcv := HW.out.convFrom (k := k) (c := cap - k) (P := Try.prog) (src := 22) (dst := 9) (e := 5) Try.underlying22 Try.underlying5 Try.underlying9
      rw [HRl.out, hT.out] at hcv
      have q1 : (k : Int) ≤ (m : Int) := by omega
      have q2 : (m : Int) ≤ (cap : Int) := by omega
      generalize R.getD k 0 = u at *
      clear hz hkR hT
      go_wp2
      go_ret
      exact ⟨rfl, HB.out⟩

/-! GreatText -/
theorem own_other {w w' : World} {base e size n : Nat} {v : Value} {xs : List Value} (h : w.ownsRow base e size v n xs) (hb : ∀ g, base ≤ g → w'.heap[g]? = w.heap[g]?) : w'.ownsRow base e size v n xs := by
  refine ⟨h.1, ?_⟩
  rcases h.2 with h | ⟨g, cap, cur, hv, hg, hh, h3⟩
  · exact .inl h
  · exact .inr ⟨g, cap, cur, hv, hg, by rw [hb g hg]; exact hh, h3⟩
theorem own_cap {w : World} {base e size n cap g : Nat} {xs : List Value} (h : w.ownsRow base e size (.slice (some ⟨g, 0, none⟩) n cap) n xs) : n ≤ cap := by
  rcases h.2 with ⟨e, _⟩ | ⟨g', cap', cur, e, _, _, hc, _⟩
  · cases e
  · injection e with e1 e2 e3
    omega
theorem limb_first {l : List Nat} (h : W.Limbs l) (hv : W.lV l < 4294967296) : l.getD 0 0 = W.lV l := by
  have := getD_div h (k := 0) (by rw [Nat.zero_add, Nat.pow_one]; exact hv)
  rwa [Nat.pow_zero, Nat.div_one] at this
theorem Figs.start (V : Nat) : Figs V V [] := ⟨rfl, by simp [fV]⟩
theorem grown_below {w w' : World} {row : Option Nat} {B : Nat} (h : w.grownBy w' row) (hB : B ≤ w.heap.size) (hr : ∀ k, row = some k → B ≤ k) : Below B w w' :=
  ⟨h.os, h.tape, h.output, h.size, fun i hi => h.block i (by omega) (fun e => by have := hr i e.symm; omega)⟩
set_option maxRecDepth 8000 in
set_option maxHeartbeats 4000000 in
theorem greatText_i (s : ByteArray) (w : World) : Calls Try.prog 13 #[.string s] w fun e w' => e = .returned (.string (textG s)) ∧ Below w.heap.size w w' := by
  have HG := greatOk_i s
  cases ok : okG s with
  | false =>
    have E : textG s = ⟨#[]⟩ := by unfold textG; rw [ok]; rfl
    rw [E]
    rw [ok] at HG
    clear E
    go_enter Try.func13, Try.ntmps13
    go_wp2_with fail
    refine (HG _).mono ?_
    rintro e w1 ⟨rfl, rfl⟩
    go_wp2
    go_ret
    exact ⟨rfl, Below.refl _ _⟩
  | true =>
    rw [ok] at HG
    have E : textG s = txt (dT (gV s)) := by unfold textG; rw [ok]; rfl
    rw [E]
    clear E
    by_cases h0 : s.size = 0
    · have he : s.toList = [] := by have := isEmpty_size (s := s); rw [h0] at this; simpa using this
      have hT : Hid (⟨#[48]⟩ = txt (dT (gV s))) := by rw [gV_empty h0, dT_one (by omega)]; rfl
      clear h0
      go_enter Try.func13, Try.ntmps13
      go_wp2_with fail
      refine (HG _).mono ?_
      rintro e w1 ⟨rfl, rfl⟩
      go_wp2
      go_ret
      exact ⟨congrArg (fun x => Ending.returned (Value.string x)) hT.out, Below.refl _ _⟩
    have he : s.toList.isEmpty = false := by rw [isEmpty_size]; simpa using h0
    obtain ⟨V, hV⟩ : ∃ V, gV s = V := ⟨_, rfl⟩
    have hVp : 0 < V := by rw [← hV]; exact gV_pos ok (by omega)
    have hVB : V < GB := by rw [← hV]; exact gV_lt ok
    have HRO := Lib.hid (fun w => rowOf_any s w (okG_size' ok))
    rw [hV] at HRO ⊢
    have HVB := Lib.hid hVB
    obtain ⟨Z, hZ⟩ : ∃ Z, rowC Z81 0 = Z := ⟨_, rfl⟩
    have hz := zero_row.1
    rw [hZ] at hz
    have HZ := Lib.hid hZ
    clear hV h0 hVB hZ
    go_enter Try.func13, Try.ntmps13
    go_wp2_with fail
    refine (HG _).mono ?_
    rintro e w1 ⟨rfl, rfl⟩
    clear HG
    go_wp2_with fail
    refine (HRO.out _).mono ?_
    rintro e w1 ⟨l1, c1, rfl, hl1, v1, e1, b1⟩
    have HL1 := Lib.hid hl1
    have HV1 := Lib.hid v1
    have HE1 := Lib.hid e1
    have H1 := Lib.hid (one_var w1 HZ.out)
    have hs1 := b1.size
    have HB1 := Lib.hid b1
    clear hl1 v1 e1 b1 HRO
    go_wp2_with (first | refine store_at rfl (.tmp 3) (.tmp 13) rfl w1.heap.size Z81 l1 0 c1 rfl rfl H1.out.1 HL1.out ?_)
    have HR1 := Lib.hid (H1.out.1.stored (c' := c1) HL1.out)
    have HBl := Lib.hid (bt HB1.out (below_setRow H1.out.2 (Nat.le_refl _) (rowC l1 c1)))
    have hs2 : w1.heap.size + 1 ≤ ((w1.alloc (.cells Z 39)).setRow w1.heap.size (rowC l1 c1)).heap.size := by rw [size_setRow]; simp
    obtain ⟨G, hG⟩ : ∃ G, w1.heap.size = G := ⟨_, rfl⟩
    rw [hG] at HR1 HBl hs1 hs2 ⊢
    generalize (World.setRow _ _ _) = w2 at *
    clear H1 HB1 hG
    go_loopg [4] V (fun gh fv wr => ∃ (l : List Nat) (c : Nat) (O : List UInt8) (Ao : Option Addr) (co : Nat), gh = W.lV l ∧ fv = .slice Ao O.length co ∧ Hid (RV l c) ∧ Hid (RowI wr G l c) ∧
      Hid (wr.ownsRow (G + 1) 5 1 (.slice Ao O.length co) O.length (Lib.byteCells O)) ∧ Hid (Figs V (W.lV l) O) ∧ Hid (Below w.heap.size w wr) ∧ G + 1 ≤ wr.heap.size ∧ Hid (O.length ≤ 425))
    case atStart => exact ⟨l1, c1, [], none, 0, HE1.out.symm, rfl, HV1, HR1, World.ownsRow_nil _ _ _ _, by rw [HE1.out]; exact Figs.start V, HBl, hs2, Nat.zero_le _⟩
    case round =>
      clear HR1 HBl hs2 HV1 HE1 HL1
      obtain ⟨l, c, O, Ao, co, rfl, rfl, hV, hR, hO, hF, hB, hsz, hO4⟩ := hrel
      obtain ⟨x1, x2⟩ := hR.out.cnt
      by_cases h0 : c = 0
      · subst h0
        have HF0 : Hid (O.all isF = true ∧ V = fV O.reverse) := ⟨hF.out.fig, by have := hF.out.val; rw [hV.out.zeroVal] at this; simpa using this⟩
        have hOne : O ≠ [] := fun e => by have := HF0.out.2; rw [e] at this; simp [fV] at this; omega
        have hOp : 0 < O.length := List.length_pos_iff.2 hOne
        obtain ⟨g, cp, hv, hg1, hg2⟩ := World.ownsRow.form hO.out (by omega)
        injection hv with e1 e2 e3
        subst e1 e3
        obtain ⟨N, hN⟩ : ∃ N, O.length = N := ⟨_, rfl⟩
        have hcp := own_cap hO.out
        have hN4 : N ≤ 425 := by rw [← hN]; exact hO4.out
        have HH := Lib.hid (highestFirst_any (G + 1) g co N V O wr (BRow.of_own hO.out).1 hN (by omega) (by omega) HF0.out.1 HF0.out.2 hVp)
        rw [hN]
        clear hF hO hO4 hOne hOp e2 hcp hV HF0 hR
        go_wp2_with fail
        refine HH.out.mono ?_
        rintro e w3 ⟨rfl, b3⟩
        have b4 := hB.out.trans (b3.mono (by omega))
        clear HH b3 x1 x2 hN hg1 hg2
        go_wp2
        go_ret
        exact ⟨rfl, b4⟩
      · have hc0 : (0 : Int) < (c : Int) := by omega
        have hAp : 0 < W.lV l := by
          have ht := hV.out.top
          have hb := hV.out.bits (by omega)
          rcases Nat.eq_zero_or_pos (W.lV l) with e | e
          · exfalso
            have hz1 := hV.out.cnt_le (k := 0) (by rw [e]; simp)
            omega
          · exact e
        have hOl := hF.out.len hAp HVB.out
        have hc40 : c ≤ 40 := hV.out.cnt_le (by rw [← GB_40]; exact Nat.lt_of_le_of_lt hF.out.le HVB.out)
        have HD := Lib.hid (divByLimb_any G c 1000000000 l wr hR.out hV.out (by omega) (by omega) (by omega))
        clear hV
        go_wp2_with fail
        refine HD.out.mono ?_
        rintro e w4 ⟨lq, cq, lr, cr, rfl, q1, q2, q3, q4, q5, q6, q7, q8, b5⟩
        have HQ1 := Lib.hid q1
        have HQ2 := Lib.hid q2
        have HS2 := Lib.hid (Work.start w4 HZ.out)
        have HVq := Lib.hid q3
        have HEq := Lib.hid q5
        have hs5 := b5.size
        have hr0 : lr.getD 0 0 = W.lV l % 1000000000 := by
          rw [← q6]
          refine limb_first q4.lim ?_
          rw [q6]
          have := Nat.mod_lt (W.lV l) (show 0 < 1000000000 by omega)
          omega
        have HR0 := Lib.hid hr0
        have HB5 := Lib.hid b5
        clear q1 q2 q3 q4 q5 q6 q7 q8 b5 hr0 HD x1 x2
        have HVs := Vars.of (cx := cq) (cy := cr) HS2.out HQ1.out HQ2.out
        obtain ⟨y1, _⟩ := HVs.y.cell (k := 0) (by omega)
        obtain ⟨n, hn⟩ : ∃ n, W.lV l % 1000000000 = n := ⟨_, rfl⟩
        obtain ⟨q, hq⟩ : ∃ q, W.lV l / 1000000000 = q := ⟨_, rfl⟩
        have hn9 : n < 1000000000 := by rw [← hn]; exact Nat.mod_lt _ (by omega)
        have HA : Hid (W.lV l = q * 1000000000 + n) := by
          show _ = _
          rw [← hn, ← hq, Nat.mul_comm]; exact (Nat.div_add_mod _ _).symm
        have hqlt : q < W.lV l := by rw [← hq]; exact Nat.div_lt_self hAp (by omega)
        have Hqlt := Lib.hid hqlt
        rw [hq] at HEq
        rw [hn] at HR0
        rw [HR0.out] at y1
        have HVs2 := Lib.hid HVs
        clear HVs hn hq hqlt
        go_wp2_with (first | refine store_at rfl (.tmp 5) (.tmp 19) rfl w4.heap.size Z81 lq 0 cq rfl rfl HS2.out.out HQ1.out ?_ | refine store_at rfl (.tmp 6) (.tmp 20) rfl (w4.heap.size + 1) Z81 lr 0 cr rfl rfl (HS2.out.row.storedApart (by omega)) HQ2.out ?_)
        generalize (World.setRow (World.setRow _ _ _) _ _) = w5 at *
        have hb45 := HVs2.out.b
        have hs45 := hb45.size
        have hO5 := own_below (own_below hO.out HB5.out) hb45
        have hOlt := World.ownsRow.lt hO.out
        have hRG := (hR.out.below HB5.out (by omega)).below hb45 (by omega)
        refine (withGroup_any (G + 1) V (W.lV l) q n O Ao co w5 hO5 (by omega) hF.out HA.out hn9 (by omega)).mono ?_
        rintro e w6 ⟨O', A', cap', rfl, hF', hl', hO', hgr⟩
        have hs56 := hgr.size
        have hRq := Lib.hid (HVs2.out.x.other (hgr.block w4.heap.size (HVs2.out.x.lt) (fun e => by have := (hOlt _ e.symm).2; omega)))
        have hRG6 := Lib.hid (hRG.other (hgr.block G (by omega) (fun e => by have := (hOlt _ e.symm).1; omega)))
        have hB6 := bt (bt hB.out HB5.out) hb45
        have hB6s := hB6.size
        have HB6 := Lib.hid (hB6.trans (grown_below hgr hB6s (fun k e => by have := (hOlt _ e).1; omega)))
        have HB7 := Lib.hid (below_setRow HB6.out hs1 (rowC lq cq))
        have HR7 := Lib.hid (hRG6.out.stored (c' := cq) HQ1.out)
        have HO7 := Lib.hid (own_other (w' := w6.setRow G (rowC lq cq)) hO' (fun g hg => setRow_other w6 G g _ (by omega)))
        have hsz7 : G + 1 ≤ (w6.setRow G (rowC lq cq)).heap.size := by rw [size_setRow]; omega
        have HF7 := Lib.hid hF'
        have HL7 : Hid (O'.length ≤ 425) := by show _ ≤ _; omega
        clear hF' hl' hO' hgr hB6 hRG hO5 hOlt hb45 hR hO hF hB HB6 y1 HVs2 hB6s
        go_wp2_with (first | refine load_at rfl (.tmp 5) rfl w4.heap.size lq cq rfl hRq.out ?_ | refine store_at rfl (.tmp 3) (.tmp 26) rfl G l lq c cq rfl rfl hRG6.out HQ1.out ?_)
        generalize w6.setRow G (rowC lq cq) = w7 at *
        go_roundg q
        case measure => exact Hqlt.out
        case rel => exact ⟨lq, cq, O', A', cap', HEq.out.symm, rfl, HVq, HR7, HO7, by rw [HEq.out]; exact HF7, HB7, hsz7, HL7⟩
end Go.Proofs.Ytkpcocdflcpnoaa
