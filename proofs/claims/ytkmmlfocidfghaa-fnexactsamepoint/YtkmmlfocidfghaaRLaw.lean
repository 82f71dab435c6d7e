import Derived.Test.YtkmmlfocidfghaaRDraw
import Derived.Test.YtkmmlfocidfghaaMAll
import Derived.Maps.AppendAt
import Derived.Laws.AppendOwnNone
namespace Go.Proofs.Ytkmmlfocidfghaa
open Go.RowKit
theorem okS {x : Nat} (h : x < GB) : okG (gS x) = true := by rw [okG_gS]; simpa using h
theorem rest_gS {x : Nat} {p : ByteArray} (hp : modB p = true) (hx : x < gV p) : restB (gS x) p = true := by
  obtain ⟨okp, _⟩ := modB_parts hp
  have := gV_lt okp
  unfold restB
  rw [okS (by omega), okp, gV_gS, decide_eq_true hx]; rfl
theorem two_gS {x y : Nat} {p : ByteArray} (hp : modB p = true) (hx : x < gV p) (hy : y < gV p) : twoB (gS x) (gS y) p = true := by
  unfold twoB
  rw [hp, rest_gS hp hx, rest_gS hp hy]; rfl
theorem add_gS {x y : Nat} {p : ByteArray} (hp : modB p = true) (hx : x < gV p) (hy : y < gV p) : addR (gS x) (gS y) p = gS ((x + y) % gV p) := by
  unfold addR
  rw [two_gS hp hx hy, if_pos rfl, gV_gS, gV_gS]
theorem sub_gS {x y : Nat} {p : ByteArray} (hp : modB p = true) (hx : x < gV p) (hy : y < gV p) : subR (gS x) (gS y) p = gS ((x + gV p - y) % gV p) := by
  unfold subR
  rw [two_gS hp hx hy, if_pos rfl, gV_gS, gV_gS]
theorem mul_gS {x y : Nat} {p : ByteArray} (hp : modB p = true) (hx : x < gV p) (hy : y < gV p) : mulR (gS x) (gS y) p = gS (x * y % gV p) := by
  unfold mulR
  rw [two_gS hp hx hy, if_pos rfl, gV_gS, gV_gS]
theorem neg_gS {x : Nat} {p : ByteArray} (hp : modB p = true) (hx : x < gV p) : negR (gS x) p = gS ((gV p - x) % gV p) := by
  have h0 := (modB_parts hp).2
  unfold negR
  rw [← gS_zero, sub_gS hp (by omega) hx, Nat.zero_add]
theorem pow_gS {x m : Nat} {p : ByteArray} (hp : modB p = true) (hx : x < gV p) (hm : m < GB) : powR (gS x) (gS m) p = gS (x ^ m % gV p) := by
  unfold powR oneB
  rw [hp, rest_gS hp hx, okS hm, Bool.and_true, Bool.and_true, if_pos rfl, gV_gS, gV_gS]
/-- A right rest, by its number. -/
theorem rest_num {a p : ByteArray} (h : restB a p = true) : a = gS (gV a) ∧ gV a < gV p := by
  obtain ⟨oka, _, hl⟩ := restB_parts h
  exact ⟨(gS_gV oka).symm, hl⟩
theorem gS_ne {x : Nat} (h : 0 < x) : (gS x).toList.isEmpty = false := by
  rw [isEmpty_size, gS_size]
  have := List.length_pos_iff.2 (gT_ne h)
  simp; exact gT_ne h
theorem gS_one : gS 1 = ⟨#[1]⟩ := by unfold gS; rw [gT_pos (by omega), show 1 / 256 = 0 from rfl, gT_zero]; rfl
/-- RestOf of 1 is empty just where p is no modulus. -/
theorem one_rest (p : ByteArray) : restG ⟨#[1]⟩ p = if modB p then ⟨#[1]⟩ else ⟨#[]⟩ := by
  unfold restG
  have ok1 : okG ⟨#[1]⟩ = true := rfl
  have v1 : gV ⟨#[1]⟩ = 1 := rfl
  rw [ok1, Bool.and_true]
  cases hm : modB p with
  | false => rfl
  | true => rw [if_pos rfl, if_pos rfl, v1, Nat.mod_eq_of_lt (modB_parts hm).2, gS_one]
theorem rest_of_rest {p : ByteArray} (c : ByteArray) (hp : modB p = true) : ∃ z, restG c p = gS z ∧ z < gV p := by
  unfold restG
  rw [hp, Bool.true_and]
  have := (modB_parts hp).2
  cases okG c with
  | false => exact ⟨0, by rw [gS_zero]; rfl, by omega⟩
  | true => exact ⟨gV c % gV p, rfl, Nat.mod_lt _ (by omega)⟩
theorem add223 : addR ⟨#[2]⟩ ⟨#[2]⟩ ⟨#[3]⟩ = ⟨#[1]⟩ := by
  have h : twoB ⟨#[2]⟩ ⟨#[2]⟩ ⟨#[3]⟩ = true := rfl
  unfold addR
  rw [h, if_pos rfl, show (gV ⟨#[2]⟩ + gV ⟨#[2]⟩) % gV ⟨#[3]⟩ = 1 from rfl, gS_one]
theorem mul357 : mulR ⟨#[3]⟩ ⟨#[5]⟩ ⟨#[7]⟩ = ⟨#[1]⟩ := by
  have h : twoB ⟨#[3]⟩ ⟨#[5]⟩ ⟨#[7]⟩ = true := rfl
  unfold mulR
  rw [h, if_pos rfl, show gV ⟨#[3]⟩ * gV ⟨#[5]⟩ % gV ⟨#[7]⟩ = 1 from rfl, gS_one]
theorem pow237 : powR ⟨#[2]⟩ ⟨#[3]⟩ ⟨#[7]⟩ = ⟨#[1]⟩ := by
  have h : (oneB ⟨#[2]⟩ ⟨#[7]⟩ && okG ⟨#[3]⟩) = true := rfl
  unfold powR
  rw [h, if_pos rfl, show gV ⟨#[2]⟩ ^ gV ⟨#[3]⟩ % gV ⟨#[7]⟩ = 1 from rfl, gS_one]
theorem two_no {a b p : ByteArray} (h : twoB a b p = false) : addR a b p = ⟨#[]⟩ ∧ mulR a b p = ⟨#[]⟩ := by
  unfold addR mulR; rw [h]; exact ⟨rfl, rfl⟩
/-- The laws of sums and products of rests. -/
structure RestLaws (a b c p sum ab ac bc left : ByteArray) : Prop where
  hsum : addR b c p = sum
  hab : mulR a b p = ab
  hac : mulR a c p = ac
  hbc : mulR b c p = bc
  hleft : mulR a sum p = left
  right : addR ab ac p = left
  ba : mulR b a p = ab
  abc : ∃ t, mulR ab c p = t ∧ mulR a bc p = t
  back : subR sum c p = b
  neg : ∃ m, negR a p = m ∧ addR a m p = ⟨#[]⟩
theorem rest_laws {a b p : ByteArray} (c0 : ByteArray) (hp : modB p = true) (ha : restB a p = true) (hb : restB b p = true) : ∃ sum ab ac bc left, RestLaws a b (restG c0 p) p sum ab ac bc left := by
  obtain ⟨z, hc, hz⟩ := rest_of_rest c0 hp
  obtain ⟨ea, hx⟩ := rest_num ha
  obtain ⟨eb, hy⟩ := rest_num hb
  rw [hc, ea, eb]
  obtain ⟨x, ex⟩ : ∃ x, gV a = x := ⟨_, rfl⟩
  obtain ⟨y, ey⟩ : ∃ y, gV b = y := ⟨_, rfl⟩
  rw [ex] at hx ⊢
  rw [ey] at hy ⊢
  clear ea eb hc ha hb ex ey
  have h1 := (modB_parts hp).2
  have A : ∀ u v, u < gV p → v < gV p → addR (gS u) (gS v) p = gS ((u + v) % gV p) := fun u v hu hv => add_gS hp hu hv
  have M : ∀ u v, u < gV p → v < gV p → mulR (gS u) (gS v) p = gS (u * v % gV p) := fun u v hu hv => mul_gS hp hu hv
  have L : ∀ k, k % gV p < gV p := fun k => Nat.mod_lt _ (by omega)
  refine ⟨_, _, _, _, _, A y z hy hz, M x y hx hy, M x z hx hz, M y z hy hz, M x _ hx (L _), ?_, ?_, ⟨_, rfl, ?_⟩, ?_, ⟨_, neg_gS hp hx, ?_⟩⟩
  · rw [A _ _ (L _) (L _), ← Nat.add_mod, ← Nat.mul_add, Nat.mul_mod x ((y + z) % gV p), Nat.mod_mod, ← Nat.mul_mod]
  · rw [M y x hy hx, Nat.mul_comm]
  · rw [M _ _ hx (L _), M _ _ (L _) hz, Nat.mod_mul_mod, Nat.mul_mod x (y * z % gV p), Nat.mod_mod, ← Nat.mul_mod, Nat.mul_assoc]
  · rw [sub_gS hp (L _) hz]
    congr 1
    obtain ⟨n, hn⟩ : ∃ n, gV p = n := ⟨_, rfl⟩
    rw [hn] at hy hz ⊢
    rcases Nat.lt_or_ge (y + z) n with h | h
    · rw [Nat.mod_eq_of_lt h, show y + z + n - z = y + n from by omega, Nat.add_mod_right, Nat.mod_eq_of_lt hy]
    · rw [Nat.mod_eq_sub_mod h, Nat.mod_eq_of_lt (show y + z - n < n by omega), show y + z - n + n - z = y from by omega, Nat.mod_eq_of_lt hy]
  · rw [A _ _ hx (L _)]
    obtain ⟨n, hn⟩ : ∃ n, gV p = n := ⟨_, rfl⟩
    rw [hn] at hx ⊢
    rw [← gS_zero]
    congr 1
    rcases Nat.eq_zero_or_pos x with h | h
    · subst h; simp
    · rw [Nat.mod_eq_of_lt (show n - x < n by omega), show x + (n - x) = n from by omega, Nat.mod_self]
/-! Inverses. -/
theorem inv_ex {a n : Nat} : ∀ (s r x y : Nat), 1 < n → InvRel a n r s x y → ∃ z, z < n ∧ z * a % n = Nat.gcd n a % n := by
  intro s
  induction s using Nat.strongRecOn with
  | _ s ih =>
    intro r x y hn h
    rcases Nat.eq_zero_or_pos s with e | e
    · subst e
      exact ⟨x, h.xn, by rw [h.xa, ← h.g, Nat.gcd_zero_right]⟩
    · exact ih (r % s) (Nat.mod_lt _ e) _ _ _ hn (h.next hn e)
theorem inv_of {a n : Nat} (ha : a < n) (hn : 1 < n) (hg : Nat.gcd n a = 1) : invN a n < n ∧ invN a n * a % n = 1 := by
  obtain ⟨z, hz, e⟩ := inv_ex a n 0 1 hn (InvRel.start ha hn)
  rw [hg, Nat.mod_eq_of_lt hn] at e
  rw [invN_eq hz e]
  exact ⟨hz, e⟩
theorem gcd_of_inv {a n x : Nat} (h : x * a % n = 1) : Nat.gcd n x = 1 := by
  obtain ⟨d, hd⟩ : ∃ d, Nat.gcd n x = d := ⟨_, rfl⟩
  have h1 : d ∣ n := hd ▸ Nat.gcd_dvd_left n x
  have h2 : d ∣ x := hd ▸ Nat.gcd_dvd_right n x
  have h3 : d ∣ x * a % n := (Nat.dvd_mod_iff h1).2 (Nat.dvd_trans h2 ⟨a, rfl⟩)
  rw [h] at h3
  rw [hd]
  exact Nat.eq_one_of_dvd_one h3
theorem inv_laws {a p : ByteArray} (h : invB a p = true) : mulR a (invR a p) p = ⟨#[1]⟩ ∧ invB (invR a p) p = true ∧ invR (invR a p) p = a := by
  have h0 := h
  simp only [invB, Bool.and_eq_true, decide_eq_true_eq] at h0
  obtain ⟨ho, hg⟩ := h0
  obtain ⟨hp, ha⟩ := oneB_parts ho
  obtain ⟨ea, hx⟩ := rest_num ha
  have h1 := (modB_parts hp).2
  obtain ⟨i1, i2⟩ := inv_of hx h1 hg
  have E : invR a p = gS (invN (gV a) (gV p)) := by unfold invR; rw [h, if_pos rfl]
  rw [E]
  generalize invN (gV a) (gV p) = z at *
  have hB : invB (gS z) p = true := by
    unfold invB oneB
    rw [hp, rest_gS hp i1, gV_gS, decide_eq_true (gcd_of_inv i2)]; rfl
  refine ⟨?_, hB, ?_⟩
  · rw [ea, mul_gS hp hx i1, Nat.mul_comm, i2, gS_one]
  · unfold invR
    rw [hB, if_pos rfl, gV_gS, invN_eq hx (by rw [Nat.mul_comm]; exact i2)]
    exact ea.symm
theorem half_laws {a p : ByteArray} (h : halfB a p = true) : addR (halfR a p) (halfR a p) p = a := by
  have h0 := h
  simp only [halfB, Bool.and_eq_true, decide_eq_true_eq] at h0
  obtain ⟨ho, hodd⟩ := h0
  obtain ⟨hp, ha⟩ := oneB_parts ho
  obtain ⟨ea, hx⟩ := rest_num ha
  have E : halfR a p = gS (halfN (gV a) (gV p)) := by unfold halfR; rw [h, if_pos rfl]
  rw [E]
  have hlt : halfN (gV a) (gV p) < gV p := by unfold halfN; split <;> omega
  rw [add_gS hp hlt hlt]
  conv => rhs; rw [ea]
  congr 1
  unfold halfN
  obtain ⟨n, hn⟩ : ∃ n, gV p = n := ⟨_, rfl⟩
  obtain ⟨x, hx2⟩ : ∃ x, gV a = x := ⟨_, rfl⟩
  rw [hn, hx2] at hx ⊢
  rw [hn] at hodd
  split
  · rw [show (x + n) / 2 + (x + n) / 2 = x + n from by omega, Nat.add_mod_right, Nat.mod_eq_of_lt hx]
  · rw [show x / 2 + x / 2 = x from by omega, Nat.mod_eq_of_lt hx]
/-! Powers. -/
theorem cvP1_num : gV cvP1 = 1706311 := by unfold cvP1; rfl
theorem cvP2_num : gV cvP2 = 10647363907 := by unfold cvP2; rfl
theorem mod_cv {q : ByteArray} {n : Nat} (h : gV q = n) (ok : okG q = true) (hn : 1 < n) : modB q = true := by unfold modB; rw [ok, h, decide_eq_true hn]; rfl
theorem fermat_law {q a : ByteArray} {n : Nat} (hq : gV q = n) (hm : modB q = true) (hpr : Prm n) (oka : okG a = true) (hne : restG a q ≠ ⟨#[]⟩) : powR (restG a q) (gS (n - 1)) q = ⟨#[1]⟩ := by
  have h1 := hpr.1
  have E : restG a q = gS (gV a % n) := by unfold restG; rw [hm, oka, hq]; rfl
  have hlt : gV a % n < n := Nat.mod_lt _ (by omega)
  have h0 : gV a % n ≠ 0 := fun e => hne (by rw [E, e, gS_zero])
  have hG : n < GB := by rw [← hq]; exact gV_lt (modB_parts hm).1
  rw [E, pow_gS hm (by rw [hq]; exact hlt) (by omega), hq, hpr.fermat1 (fun hd => h0 (by have := Nat.mod_eq_zero_of_dvd hd; rwa [Nat.mod_mod] at this)), gS_one]
theorem pow_more {a m p : ByteArray} (hp : modB p = true) (ha : restB a p = true) (hm : okG m = true) (hs : m.size ≤ 100) : powR a (addG m ⟨#[1]⟩) p = mulR (powR a m p) a p := by
  obtain ⟨ea, hx⟩ := rest_num ha
  have h1 := (modB_parts hp).2
  have hN : gV m + 1 < GB := by
    have := gV_size m
    have e : 256 ^ m.size ≤ 256 ^ 100 := Nat.pow_le_pow_right (by omega) hs
    have e2 : 256 ^ 100 + 1 ≤ GB := by
      have : 256 ^ 100 * 2 ≤ 256 ^ 100 * 256 ^ 60 := Nat.mul_le_mul_left _ (by decide)
      unfold GB
      rw [show 160 = 100 + 60 from rfl, Nat.pow_add]
      have : 0 < 256 ^ 100 := Nat.pow_pos (by omega)
      omega
    omega
  have E : addG m ⟨#[1]⟩ = gS (gV m + 1) := by
    unfold addG okT
    rw [hm, show okG ⟨#[1]⟩ = true from rfl, Bool.and_true, if_pos rfl, show gV ⟨#[1]⟩ = 1 from rfl, boundG_gS, if_pos hN]
  have E2 : powR a m p = gS (gV a ^ gV m % gV p) := by unfold powR oneB; rw [hp, ha, hm]; rfl
  rw [E, E2]
  obtain ⟨x, ex⟩ : ∃ x, gV a = x := ⟨_, rfl⟩
  rw [ex] at hx ea ⊢
  rw [ea, pow_gS hp hx hN, mul_gS hp (Nat.mod_lt _ (by omega)) hx, Nat.pow_succ, Nat.mod_mul_mod]
/-- A draw's bytes as a list of values. -/
theorem DrawIn.news {w : World} {B n : Nat} {A : Option Addr} (h : DrawIn w B A n) : ∃ news : List Value, news.length = n ∧ ∀ j, j < n → ∃ b off : Nat, ∃ c : Int, A = some ⟨b, off, none⟩ ∧ b < B ∧ 0 ≤ c ∧ c ≤ 255 ∧ news[j]? = some (.int .u8 c) ∧ w.cell? ⟨b, off + j, none⟩ = some (.int .u8 c) := by
  obtain ⟨h1, h2⟩ := h
  induction n with
  | zero => exact ⟨[], rfl, fun j hj => by omega⟩
  | succ n ih =>
    obtain ⟨l, hl, hq⟩ := ih (by omega) (fun k hk => h2 k (by omega))
    obtain ⟨b, off, c, e, hB, c0, c1, hc⟩ := h2 n (by omega)
    refine ⟨l ++ [.int .u8 c], by rw [List.length_append, hl]; rfl, fun j hj => ?_⟩
    by_cases hjn : j < n
    · obtain ⟨b', off', c', e', hB', c0', c1', hn', hc'⟩ := hq j hjn
      exact ⟨b', off', c', e', hB', c0', c1', by rw [List.getElem?_append_left (by omega)]; exact hn', hc'⟩
    · obtain rfl : j = n := by omega
      exact ⟨b, off, c, e, hB, c0, c1, by rw [List.getElem?_append_right (by omega), hl]; simp, hc⟩
theorem draw_own {w : World} {base g n cap : Nat} {xs : List Value} (h : w.ownsRow base 5 1 (.slice (some ⟨g, 0, none⟩) n cap) n xs) (hn : n ≤ 2000000) (hx : ∀ j, j < n → ∃ c : Int, xs[j]? = some (.int .u8 c) ∧ 0 ≤ c ∧ c ≤ 255) : DrawIn w w.heap.size (some ⟨g, 0, none⟩) n := by
  refine ⟨hn, fun k hk => ?_⟩
  obtain ⟨c, hc, c0, c1⟩ := hx k hk
  refine ⟨g, 0, c, rfl, ?_, c0, c1, ?_⟩
  · obtain ⟨g', cp, hv, _, hlt⟩ := World.ownsRow.form h (by omega)
    injection hv with e1 _ _
    injection e1 with e1
    injection e1 with e1
    omega
  · rw [Nat.zero_add, h.cellAt k (by omega)]; exact hc
set_option maxRecDepth 8000 in
/-- append([]byte{x}, code...): a draw's bytes behind one more. -/
theorem append_code {ops : Array Oper} {rest : List Oper} {o : Oper} {a : Act} {w : World} {Q : Exit → Act → World → Prop} {A : Option Addr} {n cap : Nat} {x : Int} (hgd : o.guard = none) (s y : Operand)
    (ho : o.op = .call { callee := .builtin .append, args := #[s, y], argTypes := #[93, 93] }) (hs : a.eval s = .slice (some ⟨w.heap.size, 0, none⟩) 1 1) (hy : a.eval y = .slice A n cap) (h0 : A = none → n = 0 ∧ cap = 0)
    (hd : DrawIn w w.heap.size A n) (hx0 : 0 ≤ x) (hx1 : x ≤ 255) (hn : n ≤ 1048576)
    (k : ∀ v g cp w', v = .slice (some ⟨g, 0, none⟩) (1 + n) cp → DrawIn w' w'.heap.size (some ⟨g, 0, none⟩) (1 + n) → Below w.heap.size w w' → wpList Try.prog ops Q rest (a.put o.dst v) w') :
    wpList Try.prog ops Q (o :: rest) a (w.alloc (.cells #[.int .u8 x] 5)) := by
  obtain ⟨i0, hi, hz0, hz1, hz2⟩ := info_parts Try.infoB
  have hown : (w.alloc (.cells #[.int .u8 x] 5)).ownsRow w.heap.size 5 1 (.slice (some ⟨w.heap.size, 0, none⟩) 1 1) 1 [.int .u8 x] :=
    ⟨rfl, .inr ⟨w.heap.size, 1, _, rfl, Nat.le_refl _, heap_alloc_new w _, Nat.le_refl _, by decide, rfl, rfl⟩⟩
  have hb : Below w.heap.size w (w.alloc (.cells #[.int .u8 x] 5)) := (Below.refl _ _).alloc (Nat.le_refl _) _
  have first : ∀ (l : List Value) (m : Nat), l.length = m → (∀ j, j < m → ∃ c : Int, l[j]? = some (.int .u8 c) ∧ 0 ≤ c ∧ c ≤ 255) → ∀ j, j < 1 + m → ∃ c : Int, ([.int .u8 x] ++ l)[j]? = some (.int .u8 c) ∧ 0 ≤ c ∧ c ≤ 255 := by
    intro l m _ hl j hj
    cases j with
    | zero => exact ⟨x, rfl, hx0, hx1⟩
    | succ j =>
      obtain ⟨c, h1, h2⟩ := hl j (by omega)
      exact ⟨c, by simpa using h1, h2⟩
  cases A with
  | none =>
    obtain ⟨rfl, rfl⟩ := h0 rfl
    refine wpList_append_own_none hgd s y 93 ho w.heap.size 5 i0 1 Try.underlying93 hi _ 1 _ hs hown hy ?_
    exact k _ w.heap.size 1 _ rfl (draw_own hown (by omega) (first [] 0 rfl (fun j hj => by omega))) hb
  | some ad =>
    obtain ⟨news, hl, hq⟩ := (hd.below hb).news
    obtain ⟨b, off, spot⟩ := ad
    have hcells : ∀ j u, news[j]? = some u → (w.alloc (.cells #[.int .u8 x] 5)).cell? ((⟨b, off, spot⟩ : Addr).add j) = some u := by
      intro j u hj
      have hjn : j < n := by rw [← hl]; exact (List.getElem?_eq_some_iff.1 hj).1
      obtain ⟨b', off', c, e, _, _, _, h1, h2⟩ := hq j hjn
      have e := Option.some.inj e
      rw [e]
      rw [h1] at hj
      have hj := Option.some.inj hj
      have e2 : (⟨b', off', none⟩ : Addr).add j = ⟨b', off' + j, none⟩ := by
        unfold Addr.add
        split
        · subst_vars; rfl
        · rfl
      rw [← hj, e2]
      exact h2
    have hone : ∀ u ∈ news, u.oneCell' = true := by
      intro u hu
      obtain ⟨j, hj, rfl⟩ := List.mem_iff_getElem.1 hu
      obtain ⟨_, _, c, _, _, _, _, h1, _⟩ := hq j (by omega)
      rw [List.getElem?_eq_getElem hj] at h1
      have h1 := Option.some.inj h1
      rw [h1]; rfl
    refine wpList_append_own_at _ hgd s y 93 ho w.heap.size 5 i0 (.int .u8 0) 1 1 Try.underlying93 hi hz0 hz1 hz2 rfl (by omega) _ 1 _ hs hown ⟨b, off, spot⟩ n cap news hy (by omega) hcells hone (by unfold maxLen; omega) (by omega) (by simp) ?_
    intro v' w' hown' hgrow hnil hblk
    obtain ⟨g, cp, hv, hg1, hg2⟩ := World.ownsRow.form hown' (by omega)
    subst hv
    refine k _ g cp w' rfl (draw_own hown' (by omega) (first news n hl (fun j hj => ?_))) (hb.grown hgrow (by simp) (fun i hi => by cases hi; exact Nat.le_refl _))
    obtain ⟨_, _, c, _, _, c0, c1, h1, _⟩ := hq j hj
    exact ⟨c, h1, c0, c1⟩
end Go.Proofs.Ytkmmlfocidfghaa
