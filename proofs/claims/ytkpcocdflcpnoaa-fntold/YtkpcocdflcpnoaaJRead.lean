/-
  The contract of impl.ReadGreat.
-/
import Derived.Test.YtkpcocdflcpnoaaJChunk
namespace Go.Proofs.Ytkpcocdflcpnoaa
open Go.RowKit Go.Shelf
attribute [local go_sem] Oper.semAt_some

theorem one_nought {t : ByteArray} (h1 : t.size = 1) (h2 : t.data.toList.head? = some 48) : t = ⟨#[48]⟩ := by
  obtain ⟨⟨l⟩⟩ := t
  have hl : l.length = 1 := h1
  match l, hl with
  | [c], _ => simp at h2; rw [h2]
theorem may_no {t : ByteArray} (h : mayB t = false) (h0 : t ≠ ⟨#[48]⟩) : readB t = false := by
  rw [← Bool.not_eq_true]
  intro hr
  simp only [readB, Bool.and_eq_true, decide_eq_true_eq] at hr
  obtain ⟨⟨r1, r2⟩, r3, r4, _⟩ := hr
  rw [← Bool.not_eq_true] at h
  apply h
  simp only [mayB, Bool.and_eq_true, decide_eq_true_eq]
  refine ⟨⟨r1, r2⟩, fun c hc hc48 => ?_, r4⟩
  have hc2 : c = 48 := by rw [← UInt8.toNat_inj]; simpa using hc48
  subst hc2
  cases hl : t.data.toList with
  | nil => rw [hl] at hc; cases hc
  | cons d r =>
    rw [hl] at hc
    have hd : d = 48 := by simpa using hc
    subst hd
    cases r with
    | nil =>
      have hs : t.data.toList.length = 1 := by rw [hl]; rfl
      exact h0 (one_nought (by simpa using hs) (by rw [hl]; rfl))
    | cons e r2 => rw [hl, headF_cons _ (by simp)] at r3; simp at r3
theorem may_yes {t : ByteArray} (h : mayB t = true) : 1 ≤ t.size ∧ t.size ≤ 400 ∧ t.data.toList.all isF = true ∧ 0 < fV t.data.toList ∧ readB t = decide (fV t.data.toList < GB) := by
  simp only [mayB, Bool.and_eq_true, decide_eq_true_eq] at h
  obtain ⟨⟨r1, r2⟩, r3, r4⟩ := h
  have hl : t.data.toList.length = t.size := by simp
  have hex : ∃ c r, t.data.toList = c :: r ∧ c.toNat ≠ 48 := by
    cases hq : t.data.toList with
    | nil => rw [hq] at hl; simp at hl; omega
    | cons d r => exact ⟨d, r, rfl, r3 d (by rw [hq]; rfl)⟩
  refine ⟨r1, r2, r4, fV_pos r4 hex, ?_⟩
  have hh : headF t.data.toList = true := by
    obtain ⟨c, r, e, hc⟩ := hex
    rw [e]
    cases r with
    | nil => rfl
    | cons d r => rw [headF_cons _ (by simp)]; simpa using hc
  unfold readB
  rw [decide_eq_true r1, decide_eq_true r2, hh, r4]
  rfl
theorem read_end {t : ByteArray} (h : mayB t = true) : readG t = boundG (gS (fV t.data.toList)) ∧ readB t = !(readG t).toList.isEmpty := by
  obtain ⟨_, _, _, hp, hr⟩ := may_yes h
  have e : readG t = boundG (gS (fV t.data.toList)) := by
    unfold readG
    rw [boundG_gS, hr]
    by_cases hV : fV t.data.toList < GB
    · rw [decide_eq_true hV, if_pos rfl, if_pos hV]
    · rw [decide_eq_false hV, if_neg (by decide), if_neg hV, gS_zero]
  refine ⟨e, ?_⟩
  rw [hr, e, boundG_gS, isEmpty_size]
  by_cases hV : fV t.data.toList < GB
  · rw [decide_eq_true hV, if_pos hV, gS_size]
    have := List.length_pos_iff.2 (gT_ne hp)
    rw [decide_eq_false (by omega)]; rfl
  · rw [decide_eq_false hV, if_neg hV, gS_zero]; rfl
set_option maxRecDepth 100000 in
set_option maxHeartbeats 4000000 in
theorem readGreat_i (t : ByteArray) (w : World) : Calls Try.prog 15 #[.string t] w fun e w' => e = .returned (.tuple #[.string (readG t), .bool (readB t)]) ∧ Below w.heap.size w w' := by
  by_cases h0 : t = ⟨#[48]⟩
  · subst h0
    have E : readB ⟨#[48]⟩ = true := by
      unfold readB
      have hv : fV [48] = 0 := by rw [fV_cons, fV_nil, dgv_eq]; rfl
      show (true && (true && (true && decide (fV [48] < GB)))) = true
      rw [hv, decide_eq_true (show 0 < GB from Nat.pow_pos (by omega))]; rfl
    have E2 : readG ⟨#[48]⟩ = ⟨#[]⟩ := by
      unfold readG
      rw [E, if_pos rfl]
      have hv : fV [48] = 0 := by rw [fV_cons, fV_nil, dgv_eq]; rfl
      show gS (fV [48]) = _
      rw [hv, gS_zero]
    rw [E, E2]
    clear E E2
    refine (callsIn_wide (n := 3)).1 ?_
    refine callsIn_of_wp_marks Try.func15 rfl trivial ?_ rfl
    simp only [Try.ntmps15, List.size_toArray, List.length_cons, List.length_nil, Nat.reduceAdd, Nat.reduceSub, Array.replicate_succ, Array.replicate_zero, List.push_toArray, List.append_toArray, List.nil_append, List.cons_append]
    gi_wp2
    exact ⟨_, results_tmp2 rfl _ _ _, rfl, Below.refl _ _⟩
  have h0' : (t.toList == [48]) = false := by
    rw [ByteArray.toList_eq]
    simp only [beq_eq_false_iff_ne, ne_eq]
    intro e
    exact h0 (by rw [← txt_of t, e]; rfl)
  cases hm : mayB t with
  | false =>
    have E := may_no hm h0
    rw [readG_of E, E]
    have HM := mayBe_any t w
    rw [hm] at HM
    clear E hm
    refine (callsIn_wide (n := 3)).1 ?_
    refine callsIn_of_wp_marks Try.func15 rfl trivial ?_ rfl
    simp only [Try.ntmps15, List.size_toArray, List.length_cons, List.length_nil, Nat.reduceAdd, Nat.reduceSub, Array.replicate_succ, Array.replicate_zero, List.push_toArray, List.append_toArray, List.nil_append, List.cons_append]
    gi_wp2_with (refine ⟨trivial, ?_⟩; gi_at_call 35; refine (callsIn_wide.2 HM).mono ?_; rintro e w' ⟨rfl, rfl⟩)
    exact ⟨_, results_tmp2 rfl _ _ _, rfl, Below.refl _ _⟩
  | true =>
    obtain ⟨hs1, hs4, hF, hp, _⟩ := may_yes hm
    obtain ⟨hE1, hE2⟩ := read_end hm
    have HM := mayBe_any t w
    rw [hm] at HM
    obtain ⟨Z, hZ⟩ : ∃ Z, rowC Z81 0 = Z := ⟨_, rfl⟩
    have hz := zero_row.1
    rw [hZ] at hz
    have HZ := Lib.hid hZ
    have hl : t.data.toList.length = t.size := by simp
    have HF := Lib.hid hF
    have HE1 := Lib.hid hE1
    have HE2 := Lib.hid hE2
    have HL := Lib.hid hl
    have HPv := Lib.hid hp
    clear hZ hm h0 hF hE1 hE2 hl hp
    have H1 := one_var w HZ.out
    generalize hw1 : w.alloc (.cells Z 39) = w1 at *
    have hs : w1.heap.size = w.heap.size + 1 := by rw [← hw1]; simp
    have hcv := Lib.run_convert_string_bytes (P := Try.prog) w1 9 22 5 t Try.underlying9 Try.underlying22 Try.underlying5
    have HB1 := BRow.made w1 t
    have hbb := below_made w1 t 5
    have hnb := Lib.bytesWorld_at_new w1 5 t
    have hsb := Lib.bytesWorld_size w1 5 t
    have hcap : t.size ≤ grownCap w1 t.size 0 5 := grownCap_ge _ _ _ _
    rw [hs] at hcv HB1 hnb hsb
    generalize Lib.bytesWorld w1 5 t = w2 at *
    generalize grownCap w1 t.size 0 5 = cp at *
    have HCk := Lib.hid (chunk_any (some ⟨w.heap.size + 1, 0, none⟩) t.size cp w2)
    rw [hsb] at HCk
    have hB2 : Below w.heap.size w w2 := H1.2.trans (hbb.mono (by omega))
    have HR2 := H1.1.below hbb (by omega)
    clear hbb
    refine (callsIn_wide (n := 3)).1 ?_
    refine callsIn_of_wp_marks Try.func15 rfl trivial ?_ rfl
    simp only [Try.ntmps15, List.size_toArray, List.length_cons, List.length_nil, Nat.reduceAdd, Nat.reduceSub, Array.replicate_succ, Array.replicate_zero, List.push_toArray, List.append_toArray, List.nil_append, List.cons_append]
    gi_wp2_with (refine ⟨trivial, ?_⟩; gi_at_call 35; refine (callsIn_wide.2 HM).mono ?_; rintro e w' ⟨rfl, rfl⟩)
    refine ⟨trivial, ?_⟩
    refine (callsIn_wide.2 HCk.out).mono ?_
    rintro e w3 ⟨rfl, hw3⟩
    have hB23 : Below w2.heap.size w2 w3 := by rw [hw3]; exact ((Below.refl _ w2).alloc (Nat.le_refl _) _).alloc (by simp) _
    have c1 : w3.cell? ⟨w.heap.size + 1 + 1, 0, none⟩ = some (.slice (some ⟨w.heap.size + 1, 0, none⟩) t.size cp) := by
      rw [hw3, ← hsb]; simp
    have c2 : w3.cell? ⟨w.heap.size + 1 + 1 + 1, 0, none⟩ = some (.int .i64 9) := by
      rw [hw3, ← hsb]; simp
    have hs3 : w3.heap.size = w.heap.size + 4 := by rw [hw3]; simp; omega
    have hb3 := (hB23.block (w.heap.size + 1) (by omega)).trans hnb
    have HR3 := HR2.below hB23 (by omega)
    have HB3 := HB1.kept (hB23.block (w.heap.size + 1) (by omega))
    have hB3 := hB2.trans (hB23.mono (by omega))
    clear hw3 HR2 HB1 hB2 hB23 hnb hcv hz HCk
    have hI0 : RdI w w3 w.heap.size t.size t.data.toList [] w3 := ⟨⟨Z81, 0, HR3, ⟨Z81_lim, fun k _ => Z81_getD k, .inl rfl⟩, by rw [Z81_val]; rfl⟩, rfl, hB3, Nat.le_refl _⟩
    gi_wp2
    refine wpIn_rangeFunc_ownG rfl (by omega) (gf := 59) (lb := #[.pointer (some ⟨w.heap.size + 1 + 1, 0, none⟩), .pointer (some ⟨w.heap.size + 1 + 1 + 1, 0, none⟩)]) rfl trivial (enters_of Try.func59 (by kernel_rfl) rfl)
      (chunk_stops 2 (by omega) (w.heap.size + 1 + 1) (w.heap.size + 1 + 1 + 1) w.heap.size (w.heap.size + 1) t.size cp (by omega) hcap w3 (by omega) (by omega) (by omega) (by omega) c1 c2) keptBut_t (keptBut_b (Nat.le_refl _)) (Below.refl _ _) (fun _ => rfl)
      (RdI w w3 w.heap.size t.size t.data.toList) (fun _ _ _ => False) (RdI.own hb3 (by omega)) (fun _ _ _ _ _ hs _ _ => hs) hI0
      (fun x => { tmps := #[.string t, undef, .string ⟨#[]⟩, .bool false, .pointer (some ⟨w.heap.size, 0, none⟩), .slice (some ⟨w.heap.size + 1, x.1.1, none⟩) x.1.2 x.1.2, undef, .string t, .bool false, .string t, .bool true, .bool false, .string t, .slice (some ⟨w.heap.size + 1, 0, none⟩) t.size cp, .func (.func 59) #[] #[.pointer (some ⟨w.heap.size + 1 + 1, 0, none⟩), .pointer (some ⟨w.heap.size + 1 + 1 + 1, 0, none⟩)], .slice (some ⟨w.heap.size + 1, x.1.1, none⟩) x.1.2 x.1.2, undef, undef, undef, undef, undef, undef], defers := [] }) ?assign ?body ?done ?stop
    case assign =>
      intro l x X K hK
      unfold encP
      gi_wp2
      exact hK
    case body =>
      rintro l pre x X hI hlen
      obtain ⟨lr, c, r1, r2, r3⟩ := hI.row
      have hlt := valP_lt HL.out HF.out pre
      have hc44 : c ≤ 50 := cnt_small r2 (m := pre.length) (by omega) (by rw [r3]; exact hlt)
      have hbx := HB3.kept hI.byt
      have HT := Lib.hid (takeIn_any w.heap.size c (w.heap.size + 1) x.1.1 x.1.2 x.1.2 lr (partOf t.data.toList x) X r1 r2 (by omega) (partOf_len HL.out x) x.2.2 (partOf_fig HF.out x) (fun i hi => by rw [partOf_at x hi]; exact hbx.cell _ (by rw [HL.out]; have := x.2.1; omega)))
      have HI := Lib.hid hI
      have HV := Lib.hid r3
      clear hI r1 r2 r3 hlt hbx
      gi_wp2_with (refine ⟨trivial, ?_⟩; gi_at_call 37; refine (CallsIn.inRound l (callsIn_wide.2 HT.out)).mono ?_; rintro e X' ⟨l', c', rfl, q1, q2, q3, q4⟩)
      have hsz := HI.out.siz
      exact ⟨KeepsFrom.of_grownBy q4 (fun j e => by cases e; omega), keptBut_g q4 hsz,
        ⟨⟨l', c', q1, q2, by rw [q3, HV.out, valP_snoc]⟩, (q4.block (w.heap.size + 1) (by omega) (fun e => by injection e; omega)).trans HI.out.byt, HI.out.bel.grown q4 (by omega) (fun k e => by cases e; exact Nat.le_refl _), Nat.le_trans hsz q4.size⟩⟩
    case done =>
      rintro D ys X hD rfl hI hK
      obtain ⟨lr, c, r1, r2, r3⟩ := hI.row
      have hlt := valP_lt HL.out HF.out (cks t.size ((t.size + 8) / 9))
      have hc50 : c ≤ 50 := cnt_small r2 (m := (t.size + 8) / 9) (by omega) (by rw [r3]; rw [cks_len] at hlt; exact hlt)
      rw [valP_all HL.out] at r3
      have HGr := great_any w.heap.size c lr X r1 r2 (by omega)
      rw [r3, ← HE1.out] at HGr
      have HGr := Lib.hid HGr
      have hDX := (Array.getElem?_eq_some_iff.1 hK).1
      have HBl := Lib.hid hI.bel
      have HK := Lib.hid hK
      clear r1 r2 r3 hlt hI hK HE1
      gi_wp2_with (refine ⟨trivial, ?_⟩; gi_at_call 38; refine (callsIn_wide.2 HGr.out).mono ?_; rintro e X2 ⟨rfl, bX⟩)
      rw [HE2.out]
      have hK2 := (bX.block D hDX).trans HK.out
      refine ⟨by simp, .inl ⟨_, _, rfl, run_takeDeferred hK2, ?_⟩⟩
      exact ⟨_, results_tmp2 rfl _ _ _, rfl, (bt HBl.out bX).trans (belowK_b (w := w) (Nat.le_refl _) X2 D _ _ (by omega) hK2 rfl rfl)⟩
    case stop =>
      rintro D c pre X _ _ h _
      exact h.elim
end Go.Proofs.Ytkpcocdflcpnoaa
