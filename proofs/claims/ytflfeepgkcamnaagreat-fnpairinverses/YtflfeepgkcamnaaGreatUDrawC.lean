/-
  The contract of spec.DrawPowPair.
-/
import Derived.Test.YtflfeepgkcamnaaGreatUDrawB
namespace Go.Proofs.YtflfeepgkcamnaaGreat
open Go.RowKit

theorem resP3 {w : World} {g : Nat} {C : Array Value} (hb : w.heap[g]? = some (.cells C 25 (0, 0))) (hs : C.size = 2) {fn : Func} {p q r : Tmp} (hf : fn.results = #[.cell p 25, .tmp q, .tmp r]) (tmps : Array Value) (vq vr : Value) (hp : tmps.getD p undef = .pointer (some ⟨g, 0, none⟩)) (h1 : tmps.getD q undef = vq) (h2 : tmps.getD r undef = vr) :
    (results fn tmps).run Tryz.prog w = .ok (.tuple #[.agg C, vq, vr]) w := by
  subst h1 h2
  have e1 := run_loadVar_row (P := Tryz.prog) w g _ 25 _ _ _ hb Tryz.underlying25 rfl (by rw [hs]; exact Tryz.infoP)
  have hp' : tmps[p]?.getD undef = .pointer (some ⟨g, 0, none⟩) := by simpa using hp
  simp [results, hf, hp', asAddr, e1]
theorem great_few (y : Int) (h0 : 0 ≤ y) (h1 : y < 4294967296) : ∃ m : ByteArray, ∀ w, Calls Tryz.prog 34 #[.int .i64 y] w fun e w' => e = .returned (.string m) ∧ Below w.heap.size w w' := ⟨_, fun w => greatOf_any y w (by omega)⟩
def PowP7 (w : World) (e : Ending) (w' : World) : Prop := ∃ (x : Pt) (m p : ByteArray), e = .returned (.tuple #[.agg (aggT x), .string m, .string p]) ∧ Below w.heap.size w w'
set_option maxRecDepth 8000 in
set_option maxHeartbeats 4000000 in
theorem drawPowPair_c (A : Option Addr) (n cap : Nat) (w : World) (hd : DrawIn w w.heap.size A n) : Calls Tryz.prog 8 #[.slice A n cap] w (PowP7 w) := by
  have HG0 := Lib.hid (begun1 (Held.none w) #[.string ⟨#[]⟩, .string ⟨#[]⟩] 25)
  have HD := Lib.hid (hd.on HG0.out.b)
  have HS1 := Lib.hid (show w.heap.size < (w.alloc (.cells #[.string ⟨#[]⟩, .string ⟨#[]⟩] 25)).heap.size by simp)
  clear hd
  go_enter Tryz.func8, Tryz.ntmps8
  go_wp2_with fail
  generalize w.alloc (.cells #[.string ⟨#[]⟩, .string ⟨#[]⟩] 25) = w1 at *
  have H := Lib.hid (new_any A n cap w1 HD.out)
  refine H.out.mono ?_
  rintro e w2 ⟨h, rfl, rfl⟩
  have HC0 := Lib.hid (curs_new (cap := cap) (h := h) HD.out)
  clear H HD
  go_wp2_with fail
  refine (modulus_c HC0.out).mono ?_
  rintro e w3 ⟨p, rfl, sp, hc3⟩
  have HC3 := Lib.hid hc3
  clear hc3 HC0
  go_wp2_with fail
  refine (rest7_c p sp HC3.out.start).mono ?_
  rintro e w4 ⟨x, rfl, _, hc4⟩
  have HC4 := Lib.hid (HC3.out.trans hc4)
  have HN4 := Lib.hid (heap_alloc_new w4 (.cells #[.string ⟨#[]⟩, .string ⟨#[]⟩] 25))
  have HX5 := Lib.hid (setRow_heap _ w4.heap.size _ (aggT x) _ _ HN4.out)
  have b5 : Below w4.heap.size w4 ((w4.alloc (.cells #[.string ⟨#[]⟩, .string ⟨#[]⟩] 25)).setRow w4.heap.size (aggT x)) := below_setRow2 ((Below.refl _ _).alloc (Nat.le_refl _) _) (Nat.le_refl _) _
  have HC5 := Lib.hid (HC4.out.below b5)
  have HNe := Lib.hid (show w4.heap.size ≠ w1.heap.size ∧ w4.heap.size ≠ w.heap.size by
    have h1 := HC4.out.gr.size
    have h2 : w1.heap.size + 1 ≤ w4.heap.size := by simpa using h1
    have h3 := HS1.out
    omega)
  clear hc4 HC3 HC4 b5 HS1
  go_wp2_with (first | refine store_p rfl (.tmp 7) (.tmp 14) rfl w4.heap.size _ x rfl rfl HN4.out rfl ?_)
  generalize (w4.alloc (.cells #[.string ⟨#[]⟩, .string ⟨#[]⟩] 25)).setRow w4.heap.size (aggT x) = w5 at *
  clear HN4
  generalize w4.heap.size = g7 at *
  have O1 := Lib.hid (once_c HC5.out.start 8 (by omega) (by omega))
  refine O1.out.mono ?_
  rintro e w6 ⟨b, rfl, hc6⟩
  have HC6 := Lib.hid (HC5.out.trans hc6)
  have HX6 := Lib.hid (hc6.kept (Array.getElem?_eq_some_iff.1 HX5.out).1 HNe.out.1 HX5.out)
  clear hc6 HC5 HX5 O1
  cases b with
  | true =>
    go_upto_region 5 with (fail)
    have HC0 := Lib.hid (HC6.out.below (bd7 w6))
    have HX0 : Hid (w6.drew.heap[g7]? = some (.cells (aggT x) 25 (0, 0))) := HX6.out
    have HS0 := HX0
    clear HC6 HX6
    have FX := Lib.hid (show ∀ w', (fun w' => w'.heap[g7]? = some (.cells (aggT x) 25 (0, 0))) w' → (Instr.loadAt 25 (.pointer (some ⟨g7, 0, none⟩))).run Tryz.prog w' = .ok (.agg (aggT x)) w' from fun w' hw => pair_load hw)
    refine wp_region_seq (S := fun w' => w'.heap[g7]? = some (.cells (aggT x) 25 (0, 0))) [⟨0, some 17, [7]⟩, ⟨0, some 18, [5]⟩, ⟨2, some 19, [18]⟩, ⟨0, some 20, [6]⟩, ⟨5, none, [2, 17]⟩, ⟨23, some 3, [19]⟩, ⟨63, some 4, [20]⟩] [(true, 0), (true, 1), (true, 3), (false, 2), (false, 4), (true, 5), (true, 6)] (by kernel_rfl) (by kernel_rfl) (by kernel_rfl) (by kernel_rfl) (by kernel_rfl) (by kernel_rfl) (fun d _ _ _ _ h => by cases d <;> exact h) HX0.out ?_
    change seqH _ _ _ _ _ _ _ w6.drew
    generalize w6.drew = w0 at *
    refine sq_held (some 17) (.agg (aggT x)) (by kernel_rfl) (by kernel_rfl) (held_load 25 (.tmp 7) (by kernel_rfl) _ _ (by kernel_rfl) FX.out) ?_
    refine sq_pure (some 18) (.pointer (some ⟨w1.heap.size, 0, none⟩)) (by kernel_rfl) (by kernel_rfl) (fun _ => (by kernel_rfl)) ?_
    refine sq_pure (some 20) (.string p) (by kernel_rfl) (by kernel_rfl) (fun _ => (by kernel_rfl)) ?_
    refine sq_fn (some 19) [.pointer (some ⟨w1.heap.size, 0, none⟩)] Tryz.func33 (by kernel_rfl) (by kernel_rfl) (by kernel_rfl) (by kernel_rfl) (by kernel_rfl) (by kernel_rfl) ?_
    refine ((any_c HC0.out.start)).mono ?_
    rintro e w1 ⟨m, rfl, _, hc1⟩
    have HC1 := Lib.hid (HC0.out.trans hc1)
    have HX1 := Lib.hid (hc1.kept (Array.getElem?_eq_some_iff.1 HX0.out).1 HNe.out.1 HX0.out)
    have HS1 := HX1
    refine ⟨_, rfl, HS1.out, ?_⟩
    have HB1 := Lib.hid (HC1.out.belowOf)
    have HO1 := Lib.hid ((HB1.out.block _ (Array.getElem?_eq_some_iff.1 HG0.out.out).1).trans HG0.out.out)
    refine sq_store 25 (.tmp 2) (.tmp 17) w.heap.size _ (aggT x) (by kernel_rfl) (by kernel_rfl) (by kernel_rfl) (by kernel_rfl) (by kernel_rfl) (by kernel_rfl) HO1.out Tryz.infoP rfl (by simp [aggT, Value.oneCell']) ((setRow_other _ _ _ _ HNe.out.2).trans HX1.out) ?_
    have HE := Lib.hid ((HG0.out.on HB1.out).put (Nat.le_refl _) (aggT x))
    refine sq_pure (some 3) (.string m) (by kernel_rfl) (by kernel_rfl) (fun _ => (by kernel_rfl)) ?_
    refine sq_pure (some 4) (.string p) (by kernel_rfl) (by kernel_rfl) (fun _ => (by kernel_rfl)) ?_
    refine sq_done ?_
    refine (by assumption : ∀ (a : Act) (w_1 : World), Code.wp _ Code.ret _ a w_1 → _) _ _ ?_
    refine wp_ret ?_
    exact bodyPost_ret (resP3 HE.out.out rfl Tryz.results8 _ (.string m) (.string p) (by kernel_rfl) (by kernel_rfl) (by kernel_rfl)) (by kernel_rfl) ⟨x, m, p, rfl, HE.out.b⟩
  | false =>
    go_upto_region 6 with (fail)
    have HC0 := Lib.hid (HC6.out.below (bd7 w6))
    have HX0 : Hid (w6.drew.heap[g7]? = some (.cells (aggT x) 25 (0, 0))) := HX6.out
    have HS0 := HX0
    clear HC6 HX6
    have FX := Lib.hid (show ∀ w', (fun w' => w'.heap[g7]? = some (.cells (aggT x) 25 (0, 0))) w' → (Instr.loadAt 25 (.pointer (some ⟨g7, 0, none⟩))).run Tryz.prog w' = .ok (.agg (aggT x)) w' from fun w' hw => pair_load hw)
    refine wp_region_seq (S := fun w' => w'.heap[g7]? = some (.cells (aggT x) 25 (0, 0))) [⟨0, some 21, [7]⟩, ⟨0, some 22, [5]⟩, ⟨2, some 23, [22]⟩, ⟨4, some 24, [23]⟩, ⟨0, some 25, [6]⟩, ⟨9, none, [2, 21]⟩, ⟨47, some 3, [24]⟩, ⟨127, some 4, [25]⟩] [(true, 0), (true, 1), (true, 4), (false, 2), (false, 3), (false, 5), (true, 6), (true, 7)] (by kernel_rfl) (by kernel_rfl) (by kernel_rfl) (by kernel_rfl) (by kernel_rfl) (by kernel_rfl) (fun d _ _ _ _ h => by cases d <;> exact h) HX0.out ?_
    change seqH _ _ _ _ _ _ _ w6.drew
    generalize w6.drew = w0 at *
    refine sq_held (some 21) (.agg (aggT x)) (by kernel_rfl) (by kernel_rfl) (held_load 25 (.tmp 7) (by kernel_rfl) _ _ (by kernel_rfl) FX.out) ?_
    refine sq_pure (some 22) (.pointer (some ⟨w1.heap.size, 0, none⟩)) (by kernel_rfl) (by kernel_rfl) (fun _ => (by kernel_rfl)) ?_
    refine sq_pure (some 25) (.string p) (by kernel_rfl) (by kernel_rfl) (fun _ => (by kernel_rfl)) ?_
    refine sq_fn (some 23) [.pointer (some ⟨w1.heap.size, 0, none⟩), .int .i64 500] Tryz.func35 (by kernel_rfl) (by kernel_rfl) (by kernel_rfl) (by kernel_rfl) (by kernel_rfl) (by kernel_rfl) ?_
    refine ((below_c HC0.out.start 500 (by omega) (by omega))).mono ?_
    rintro e w1 ⟨y, rfl, y0, y1, hc1⟩
    have HC1 := Lib.hid (HC0.out.trans hc1)
    have HX1 := Lib.hid (hc1.kept (Array.getElem?_eq_some_iff.1 HX0.out).1 HNe.out.1 HX0.out)
    have HS1 := HX1
    obtain ⟨m, hm⟩ := great_few y y0 (by omega)
    refine ⟨_, rfl, HS1.out, ?_⟩
    refine sq_fn (some 24) [.int .i64 y] Tryz.func34 (by kernel_rfl) (by kernel_rfl) (by kernel_rfl) (by kernel_rfl) (by kernel_rfl) (by kernel_rfl) ?_
    refine ((hm _)).mono ?_
    rintro e w2 ⟨rfl, bw2⟩
    have HC2 := Lib.hid (HC1.out.below bw2)
    have HX2 := Lib.hid (stays bw2 HX1.out)
    have HS2 := HX2
    refine ⟨_, rfl, HS2.out, ?_⟩
    have HB2 := Lib.hid (HC2.out.belowOf)
    have HO2 := Lib.hid ((HB2.out.block _ (Array.getElem?_eq_some_iff.1 HG0.out.out).1).trans HG0.out.out)
    refine sq_store 25 (.tmp 2) (.tmp 21) w.heap.size _ (aggT x) (by kernel_rfl) (by kernel_rfl) (by kernel_rfl) (by kernel_rfl) (by kernel_rfl) (by kernel_rfl) HO2.out Tryz.infoP rfl (by simp [aggT, Value.oneCell']) ((setRow_other _ _ _ _ HNe.out.2).trans HX2.out) ?_
    have HE := Lib.hid ((HG0.out.on HB2.out).put (Nat.le_refl _) (aggT x))
    refine sq_pure (some 3) (.string m) (by kernel_rfl) (by kernel_rfl) (fun _ => (by kernel_rfl)) ?_
    refine sq_pure (some 4) (.string p) (by kernel_rfl) (by kernel_rfl) (fun _ => (by kernel_rfl)) ?_
    refine sq_done ?_
    refine (by assumption : ∀ (a : Act) (w_1 : World), Code.wp _ Code.ret _ a w_1 → _) _ _ ?_
    refine wp_ret ?_
    exact bodyPost_ret (resP3 HE.out.out rfl Tryz.results8 _ (.string m) (.string p) (by kernel_rfl) (by kernel_rfl) (by kernel_rfl)) (by kernel_rfl) ⟨x, m, p, rfl, HE.out.b⟩
end Go.Proofs.YtflfeepgkcamnaaGreat
