/-
  The primes of the curves are primes.
-/
import Derived.Test.YtflfeepgkcamnaaGreatMNum
namespace Go.Proofs.YtflfeepgkcamnaaGreat
/-! narrow-small P -/
theorem prm_18959 : Prm 18959 := prm_small 136 (by decide +kernel)
theorem prm_1706311 : Prm 1706311 := by
  refine prm_by 21 [⟨18959, 1, 2⟩] ?_ (by decide +kernel)
  intro y hy
  simp only [List.mem_cons, List.not_mem_nil, or_false] at hy
  subst hy
  · exact prm_18959
/-! narrow-small R -/
theorem prm_2 : Prm 2 := prm_small 0 (by decide +kernel)
theorem prm_37 : Prm 37 := prm_small 5 (by decide +kernel)
theorem prm_1704961 : Prm 1704961 := by
  refine prm_by 21 [⟨2, 10, 7⟩, ⟨37, 1, 2⟩] ?_ (by decide +kernel)
  intro y hy
  simp only [List.mem_cons, List.not_mem_nil, or_false] at hy
  rcases hy with rfl | rfl
  · exact prm_2
  · exact prm_37
/-! broad-small P -/
theorem prm_19 : Prm 19 := prm_small 3 (by decide +kernel)
theorem prm_7 : Prm 7 := prm_small 1 (by decide +kernel)
theorem prm_15566321 : Prm 15566321 := by
  refine prm_by 24 [⟨19, 2, 2⟩, ⟨7, 2, 2⟩] ?_ (by decide +kernel)
  intro y hy
  simp only [List.mem_cons, List.not_mem_nil, or_false] at hy
  rcases hy with rfl | rfl
  · exact prm_19
  · exact prm_7
theorem prm_31132643 : Prm 31132643 := by
  refine prm_by 25 [⟨15566321, 1, 2⟩] ?_ (by decide +kernel)
  intro y hy
  simp only [List.mem_cons, List.not_mem_nil, or_false] at hy
  subst hy
  · exact prm_15566321
theorem prm_10647363907 : Prm 10647363907 := by
  refine prm_by 34 [⟨31132643, 1, 2⟩] ?_ (by decide +kernel)
  intro y hy
  simp only [List.mem_cons, List.not_mem_nil, or_false] at hy
  subst hy
  · exact prm_31132643
/-! broad-small R -/
theorem prm_9831361 : Prm 9831361 := by
  refine prm_by 24 [⟨2, 6, 13⟩, ⟨7, 2, 2⟩] ?_ (by decide +kernel)
  intro y hy
  simp only [List.mem_cons, List.not_mem_nil, or_false] at hy
  rcases hy with rfl | rfl
  · exact prm_2
  · exact prm_7
/-! narrow P -/
theorem prm_3557 : Prm 3557 := prm_small 58 (by decide +kernel)
theorem prm_911 : Prm 911 := prm_small 29 (by decide +kernel)
theorem prm_1263766531 : Prm 1263766531 := by
  refine prm_by 31 [⟨3557, 1, 2⟩, ⟨911, 1, 2⟩] ?_ (by decide +kernel)
  intro y hy
  simp only [List.mem_cons, List.not_mem_nil, or_false] at hy
  rcases hy with rfl | rfl
  · exact prm_3557
  · exact prm_911
theorem prm_35385462869 : Prm 35385462869 := by
  refine prm_by 36 [⟨1263766531, 1, 2⟩] ?_ (by decide +kernel)
  intro y hy
  simp only [List.mem_cons, List.not_mem_nil, or_false] at hy
  subst hy
  · exact prm_1263766531
theorem prm_2480874801745591 : Prm 2480874801745591 := by
  refine prm_by 52 [⟨35385462869, 1, 2⟩] ?_ (by decide +kernel)
  intro y hy
  simp only [List.mem_cons, List.not_mem_nil, or_false] at hy
  subst hy
  · exact prm_35385462869
theorem prm_13327 : Prm 13327 := prm_small 114 (by decide +kernel)
theorem prm_173171039 : Prm 173171039 := by
  refine prm_by 28 [⟨13327, 1, 2⟩] ?_ (by decide +kernel)
  intro y hy
  simp only [List.mem_cons, List.not_mem_nil, or_false] at hy
  subst hy
  · exact prm_13327
theorem prm_13427688667394608761327070753331941386769 : Prm 13427688667394608761327070753331941386769 := by
  refine prm_by 134 [⟨2480874801745591, 1, 2⟩, ⟨173171039, 1, 2⟩] ?_ (by decide +kernel)
  intro y hy
  simp only [List.mem_cons, List.not_mem_nil, or_false] at hy
  rcases hy with rfl | rfl
  · exact prm_2480874801745591
  · exact prm_173171039
theorem prm_21888242871839275222246405745257275088696311157297823662689037894645226208583 : Prm 21888242871839275222246405745257275088696311157297823662689037894645226208583 := by
  refine prm_by 254 [⟨13427688667394608761327070753331941386769, 1, 2⟩] ?_ (by decide +kernel)
  intro y hy
  simp only [List.mem_cons, List.not_mem_nil, or_false] at hy
  subst hy
  · exact prm_13427688667394608761327070753331941386769
/-! narrow R -/
theorem prm_1637 : Prm 1637 := prm_small 39 (by decide +kernel)
theorem prm_853 : Prm 853 := prm_small 28 (by decide +kernel)
theorem prm_639533339 : Prm 639533339 := by
  refine prm_by 30 [⟨1637, 1, 2⟩, ⟨853, 1, 2⟩] ?_ (by decide +kernel)
  intro y hy
  simp only [List.mem_cons, List.not_mem_nil, or_false] at hy
  rcases hy with rfl | rfl
  · exact prm_1637
  · exact prm_853
theorem prm_65865678001877903 : Prm 65865678001877903 := by
  refine prm_by 56 [⟨639533339, 1, 2⟩] ?_ (by decide +kernel)
  intro y hy
  simp only [List.mem_cons, List.not_mem_nil, or_false] at hy
  subst hy
  · exact prm_639533339
theorem prm_13818364434197438864469338081 : Prm 13818364434197438864469338081 := by
  refine prm_by 94 [⟨65865678001877903, 1, 2⟩] ?_ (by decide +kernel)
  intro y hy
  simp only [List.mem_cons, List.not_mem_nil, or_false] at hy
  subst hy
  · exact prm_65865678001877903
theorem prm_93001 : Prm 93001 := prm_small 303 (by decide +kernel)
theorem prm_661 : Prm 661 := prm_small 24 (by decide +kernel)
theorem prm_12048837557 : Prm 12048837557 := by
  refine prm_by 34 [⟨93001, 1, 2⟩, ⟨661, 1, 2⟩] ?_ (by decide +kernel)
  intro y hy
  simp only [List.mem_cons, List.not_mem_nil, or_false] at hy
  rcases hy with rfl | rfl
  · exact prm_93001
  · exact prm_661
theorem prm_5156902474397 : Prm 5156902474397 := by
  refine prm_by 43 [⟨12048837557, 1, 2⟩] ?_ (by decide +kernel)
  intro y hy
  simp only [List.mem_cons, List.not_mem_nil, or_false] at hy
  subst hy
  · exact prm_12048837557
theorem prm_1670836401704629 : Prm 1670836401704629 := by
  refine prm_by 51 [⟨5156902474397, 1, 2⟩] ?_ (by decide +kernel)
  intro y hy
  simp only [List.mem_cons, List.not_mem_nil, or_false] at hy
  subst hy
  · exact prm_5156902474397
theorem prm_21888242871839275222246405745257275088548364400416034343698204186575808495617 : Prm 21888242871839275222246405745257275088548364400416034343698204186575808495617 := by
  refine prm_by 254 [⟨13818364434197438864469338081, 1, 2⟩, ⟨1670836401704629, 1, 2⟩] ?_ (by decide +kernel)
  intro y hy
  simp only [List.mem_cons, List.not_mem_nil, or_false] at hy
  rcases hy with rfl | rfl
  · exact prm_13818364434197438864469338081
  · exact prm_1670836401704629
/-! broad R -/
theorem prm_110573 : Prm 110573 := prm_small 331 (by decide +kernel)
theorem prm_2653753 : Prm 2653753 := by
  refine prm_by 22 [⟨110573, 1, 2⟩] ?_ (by decide +kernel)
  intro y hy
  simp only [List.mem_cons, List.not_mem_nil, or_false] at hy
  subst hy
  · exact prm_110573
theorem prm_63690073 : Prm 63690073 := by
  refine prm_by 26 [⟨2653753, 1, 2⟩] ?_ (by decide +kernel)
  intro y hy
  simp only [List.mem_cons, List.not_mem_nil, or_false] at hy
  subst hy
  · exact prm_2653753
theorem prm_254760293 : Prm 254760293 := by
  refine prm_by 28 [⟨63690073, 1, 2⟩] ?_ (by decide +kernel)
  intro y hy
  simp only [List.mem_cons, List.not_mem_nil, or_false] at hy
  subst hy
  · exact prm_63690073
theorem prm_906349 : Prm 906349 := prm_small 951 (by decide +kernel)
theorem prm_52435875175126190479447740508185965837690552500527637822603658699938581184513 : Prm 52435875175126190479447740508185965837690552500527637822603658699938581184513 := by
  refine prm_by 255 [⟨254760293, 2, 2⟩, ⟨906349, 2, 2⟩, ⟨2, 32, 5⟩] ?_ (by decide +kernel)
  intro y hy
  simp only [List.mem_cons, List.not_mem_nil, or_false] at hy
  rcases hy with rfl | rfl | rfl
  · exact prm_254760293
  · exact prm_906349
  · exact prm_2
/-! broad P -/
theorem prm_421987 : Prm 421987 := prm_small 648 (by decide +kernel)
theorem prm_13090036741 : Prm 13090036741 := by
  refine prm_by 34 [⟨421987, 1, 2⟩] ?_ (by decide +kernel)
  intro y hy
  simp only [List.mem_cons, List.not_mem_nil, or_false] at hy
  subst hy
  · exact prm_421987
theorem prm_755057 : Prm 755057 := prm_small 867 (by decide +kernel)
theorem prm_3819663927398918131021 : Prm 3819663927398918131021 := by
  refine prm_by 72 [⟨13090036741, 1, 2⟩, ⟨755057, 1, 2⟩] ?_ (by decide +kernel)
  intro y hy
  simp only [List.mem_cons, List.not_mem_nil, or_false] at hy
  rcases hy with rfl | rfl
  · exact prm_13090036741
  · exact prm_755057
theorem prm_1125266252156850182658904441386709967 : Prm 1125266252156850182658904441386709967 := by
  refine prm_by 120 [⟨3819663927398918131021, 1, 2⟩] ?_ (by decide +kernel)
  intro y hy
  simp only [List.mem_cons, List.not_mem_nil, or_false] at hy
  subst hy
  · exact prm_3819663927398918131021
theorem prm_15778400344354997994418419698270088123916926905054652752758194827714659 : Prm 15778400344354997994418419698270088123916926905054652752758194827714659 := by
  refine prm_by 234 [⟨1125266252156850182658904441386709967, 1, 2⟩] ?_ (by decide +kernel)
  intro y hy
  simp only [List.mem_cons, List.not_mem_nil, or_false] at hy
  subst hy
  · exact prm_1125266252156850182658904441386709967
theorem prm_4002409555221667393417789825735904156556882819939007885332058136124031650490837864442687629129015664037894272559787 : Prm 4002409555221667393417789825735904156556882819939007885332058136124031650490837864442687629129015664037894272559787 := by
  refine prm_by 381 [⟨15778400344354997994418419698270088123916926905054652752758194827714659, 1, 2⟩] ?_ (by decide +kernel)
  intro y hy
  simp only [List.mem_cons, List.not_mem_nil, or_false] at hy
  subst hy
  · exact prm_15778400344354997994418419698270088123916926905054652752758194827714659
end Go.Proofs.YtflfeepgkcamnaaGreat
