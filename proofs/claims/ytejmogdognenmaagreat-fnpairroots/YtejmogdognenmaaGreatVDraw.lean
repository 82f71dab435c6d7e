import Derived.Test.YtejmogdognenmaaGreatQDraw
import Derived.Test.YtejmogdognenmaaGreatUDraw
import Derived.Test.YtejmogdognenmaaGreatVRootS
namespace Go.Proofs.YtejmogdognenmaaGreat
open Go.RowKit
def PairP8 (w : World) (e : Ending) (w' : World) : Prop := ∃ (x : Pt) (p : ByteArray), e = .returned (.tuple #[.agg (aggT x), .string p]) ∧ Below w.heap.size w w'
theorem Begun.with1 {w w' : World} {L : List (Nat × Array Value × TypeId)} {o g : Nat} {Z C : Array Value} {t tC : TypeId} (h : Begun w w' L o Z t) (hx : w'.heap[g]? = some (.cells C tC (0, 0))) (ne : g ≠ o) : Begun w w' [(g, C, tC)] o Z t :=
  ⟨(Held.none _).cons hx, h.out, (fun q hq => by rcases List.mem_cons.1 hq with rfl | hq; exact ne; cases hq), h.b⟩
set_option maxRecDepth 8000 in
set_option maxHeartbeats 4000000 in
theorem pair8_c (A : Option Addr) (n cap : Nat) (w : World) (hd : DrawIn w w.heap.size A n) : Calls Tryz.prog 18 #[.slice A n cap] w (PairP8 w) := by
  have HG0 := Lib.hid (begun1 (Held.none w) #[.string ⟨#[]⟩, .string ⟨#[]⟩] 25)
  have HD := Lib.hid (hd.on HG0.out.b)
  have HS1 := Lib.hid (show w.heap.size < (w.alloc (.cells #[.string ⟨#[]⟩, .string ⟨#[]⟩] 25)).heap.size by simp)
  clear hd
  go_enter Tryz.func18, Tryz.ntmps18
  go_wp2_with fail
  generalize w.alloc (.cells #[.string ⟨#[]⟩, .string ⟨#[]⟩] 25) = w1 at *
  have H := Lib.hid (new_any A n cap w1 HD.out)
  refine H.out.mono ?_
  rintro e w2 ⟨h, rfl, rfl⟩
  have HC0 := Lib.hid (curs_new (cap := cap) (h := h) HD.out)
  clear H HD
  go_wp2_with fail
  refine (prime_c HC0.out).mono ?_
  rintro e w3 ⟨p, rfl, sp, hc3⟩
  have HC3 := Lib.hid hc3
  clear hc3 HC0
  go_wp2_with fail
  refine (rest7_c p sp HC3.out.start).mono ?_
  rintro e w4 ⟨x, rfl, _, hc4⟩
  have HC4 := Lib.hid (HC3.out.trans hc4)
  have HN4 := Lib.hid (heap_alloc_new w4 (.cells #[.string ⟨#[]⟩, .string ⟨#[]⟩] 25))
  have HX5 := Lib.hid (setRow_heap _ w4.heap.size _ (aggT x) _ _ HN4.out)
  have b5 : Below w4.heap.size w4 ((w4.alloc (.cells #[.string ⟨#[]⟩, .string ⟨#[]⟩] 25)).setRow w4.heap.size (aggT x)) := below_setRow2 ((Below.refl _ _).alloc (Nat.le_refl _) _) (Nat.le_refl _) _
  have HC5 := Lib.hid (HC4.out.below b5)
  have HNe := Lib.hid (show w4.heap.size ≠ w1.heap.size ∧ w.heap.size < w4.heap.size by
    have h1 := HC4.out.gr.size
    have h2 : w1.heap.size + 1 ≤ w4.heap.size := by simpa using h1
    have h3 := HS1.out
    omega)
  clear hc4 HC3 HC4 b5 HS1 sp
  go_wp2_with (first | refine store_p rfl (.tmp 6) (.tmp 13) rfl w4.heap.size _ x rfl rfl HN4.out rfl ?_)
  generalize (w4.alloc (.cells #[.string ⟨#[]⟩, .string ⟨#[]⟩] 25)).setRow w4.heap.size (aggT x) = w5 at *
  clear HN4
  generalize w4.heap.size = g6 at *
  have O1 := Lib.hid (once_c HC5.out.start 2 (by omega) (by omega))
  refine O1.out.mono ?_
  rintro e w6 ⟨b, rfl, hc6⟩
  have HC6 := Lib.hid (HC5.out.trans hc6)
  have HX6 := Lib.hid (hc6.kept (Array.getElem?_eq_some_iff.1 HX5.out).1 HNe.out.1 HX5.out)
  have HG6 := Lib.hid ((HG0.out.on HC6.out.belowOf).with1 HX6.out (show g6 ≠ w.heap.size by have := HNe.out.2; omega))
  have hge : w.heap.size ≤ g6 := Nat.le_of_lt HNe.out.2
  clear hc6 HC5 HX5 O1 HC6 HG0 HNe
  cases b with
  | true =>
    have HM := Lib.hid (mulPair_any x x p)
    generalize mulPG x x p = R at *
    go_wp2_with (first | refine load_p rfl (.tmp 6) rfl g6 x rfl HX6.out ?_)
    refine (HM.out _).mono ?_
    rintro e w7 ⟨rfl, b7⟩
    have HG7 := Lib.hid (HG6.out.on b7)
    have HX7 := Lib.hid (show _ = some (Obj.cells (aggT x) 25 (0, 0)) from HG7.out.h _ (.head _))
    have HG8 := Lib.hid (HG7.out.putAt hge (fun q h => by cases h) (aggT R))
    have HX8 := Lib.hid (show _ = some (Obj.cells (aggT R) 25 (0, 0)) from HG8.out.h _ (.head _))
    have HE := Lib.hid (HG8.out.put (Nat.le_refl _) (aggT R))
    clear b7 HG6 HX6 HM
    go_wp2_with (first | refine store_p rfl (.tmp 6) (.tmp 19) rfl g6 _ R rfl rfl HX7.out rfl ?_ | refine load_p rfl (.tmp 6) rfl g6 R rfl HX8.out ?_ | refine store_p rfl (.tmp 2) (.tmp 20) rfl w.heap.size _ R rfl rfl HG8.out.out rfl ?_)
    exact bodyPost_ret (resP HE.out.out rfl Tryz.results18 _ rfl) rfl ⟨R, p, rfl, HE.out.b⟩
  | false =>
    have HE := Lib.hid (HG6.out.put (Nat.le_refl _) (aggT x))
    go_wp2_with (first | refine load_p rfl (.tmp 6) rfl g6 x rfl HX6.out ?_ | refine store_p rfl (.tmp 2) (.tmp 20) rfl w.heap.size _ x rfl rfl HG6.out.out rfl ?_)
    exact bodyPost_ret (resP HE.out.out rfl Tryz.results18 _ rfl) rfl ⟨x, p, rfl, HE.out.b⟩
set_option maxRecDepth 8000 in
set_option maxHeartbeats 4000000 in
theorem drawPairRoot_c (A : Option Addr) (n cap : Nat) (w : World) (hd : DrawIn w w.heap.size A n) : Calls Tryz.prog 6 #[.slice A n cap] w (PairP8 w) := by
  have HG0 := Lib.hid (begun1 (Held.none w) #[.string ⟨#[]⟩, .string ⟨#[]⟩] 25)
  have HD := Lib.hid (hd.on HG0.out.b)
  clear hd
  go_enter Tryz.func6, Tryz.ntmps6
  go_wp2_with fail
  generalize w.alloc (.cells #[.string ⟨#[]⟩, .string ⟨#[]⟩] 25) = w1 at *
  refine (pair8_c A n cap w1 HD.out).mono ?_
  rintro e w2 ⟨x, p, rfl, b2⟩
  have HG2 := Lib.hid (HG0.out.on b2)
  have HE := Lib.hid (HG2.out.put (Nat.le_refl _) (aggT x))
  clear b2 HG0 HD
  go_wp2_with (first | refine store_p rfl (.tmp 2) (.tmp 6) rfl w.heap.size _ x rfl rfl HG2.out.out rfl ?_)
  exact bodyPost_ret (resP HE.out.out rfl Tryz.results6 _ rfl) rfl ⟨x, p, rfl, HE.out.b⟩
end Go.Proofs.YtejmogdognenmaaGreat
