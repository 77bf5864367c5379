/-
  Mathematics for FirstRests: if there are lists of rests, the density is at most 1 and the tasks fit.
-/
import Derived.Test.YtnhdfpmjebfjmaaExt
import Derived.Test.YtnhdfpmjebfjmaaFit
namespace Go.Proofs.Ytnhdfpmjebfjmaa

theorem ext_dens {zs : List Int} {q : List (Int × Int)} (hq : q ∈ Rst.ext [] zs) : densN (natsTo zs zs.length) ≤ densD (natsTo zs zs.length) := by
  obtain ⟨hap, rs, e, hm, hb⟩ := Rst.ext_ap List.Pairwise.nil hq
  rw [List.nil_append] at e
  subst e
  have hn : natsTo zs zs.length = q.map fun c => c.2.toNat := by
    unfold natsTo
    rw [List.take_length, ← hm, List.map_map]; rfl
  have h := Rst.ap_dens hap hb (L := lcmTo (natsTo zs zs.length)) fun c hc => dvd_lcmTo (by rw [hn]; exact List.mem_map.2 ⟨c, hc, rfl⟩)
  obtain ⟨L, hL⟩ : ∃ L, lcmTo (natsTo zs zs.length) = L := ⟨_, rfl⟩
  rw [hL] at h
  have hs : sumTo (natsTo zs zs.length) L = (q.map fun c => L / c.2.toNat).sum := by
    unfold sumTo
    rw [hn, List.map_map]; rfl
  rw [← hs] at h
  unfold densN densD lowN lowD
  rw [hL]
  exact Nat.div_le_div_right h
theorem ext_fit {zs : List Int} {q : List (Int × Int)} (hq : q ∈ Rst.ext [] zs) : fitB zs = true := by
  obtain ⟨hap, rs, e, hm, hb⟩ := Rst.ext_ap List.Pairwise.nil hq
  rw [List.nil_append] at e
  subst e
  have hl : q.length = zs.length := by rw [← hm, List.length_map]
  refine fit_yes fun i hi k hk hg => ?_
  have h1 := (List.pairwise_iff_getElem.1 hap) k i (by omega) (by omega) hk
  have hz : ∀ j (hj : j < q.length), nth zs j = (q[j]).2 := fun j hj => by
    unfold nth
    rw [← hm, List.getElem?_map, List.getElem?_eq_getElem hj]; rfl
  unfold gcdAt at hg
  rw [hz i (by omega), hz k (by omega)] at hg
  have h2 := Rst.mt_gcd (c := q[i]) (d := q[k]) hg
  rw [h2] at h1
  cases h1
/-- is it possible? -/
def possB (zs : List Int) : Bool := decide (densN (natsTo zs zs.length) ≤ densD (natsTo zs zs.length)) && (decide (zs.length = 1) || fitB zs)
theorem ext_none {zs : List Int} (h : possB zs = false) : (Rst.ext [] zs).head? = none := by
  cases he : Rst.ext [] zs with
  | nil => rfl
  | cons q l =>
    have hq : q ∈ Rst.ext [] zs := by rw [he]; exact List.mem_cons_self
    have : possB zs = true := by
      unfold possB
      rw [decide_eq_true (ext_dens hq), ext_fit hq]; simp
    rw [this] at h; cases h

end Go.Proofs.Ytnhdfpmjebfjmaa
