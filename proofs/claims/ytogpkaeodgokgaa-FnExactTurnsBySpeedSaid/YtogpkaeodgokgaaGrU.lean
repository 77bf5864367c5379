/-
  TurnsByHeight and TurnsBySpeed of the model.
  Conditions: lists of at most 1048576 elements.
-/
import Derived.Test.YtogpkaeodgokgaaGrR
namespace Go.Proofs.Ytogpkaeodgokgaa
open Go.RowKit Go.Shelf
attribute [local go_sem] Oper.semAt_some

def thC (rs : List Int) : Int := if gardenOk rs = true then rdC rs 0 else 1
def thT (rs : List Int) : List Int := if gardenOk rs = true then rdT rs 0 else []
def thD (rs : List Int) : Int := if gardenOk rs = true then rdD rs 0 else 0
def tsC (rs : List Int) (x : Int) : Int := if gardenOk rs = true then if inB x 1 1000 = true then rdC rs x else 2 else 1
def tsT (rs : List Int) (x : Int) : List Int := if gardenOk rs = true then if inB x 1 1000 = true then rdT rs x else [] else []
def tsD (rs : List Int) (x : Int) : Int := if gardenOk rs = true then if inB x 1 1000 = true then rdD rs x else 0 else 0
theorem thT_len (rs : List Int) : (thT rs).length * 8 ≤ 140737488351232 := by
  have := rdT_len rs 0
  unfold thT; split
  · omega
  · simp
theorem tsT_len (rs : List Int) (x : Int) : (tsT rs x).length * 8 ≤ 140737488351232 := by
  have := rdT_len rs x
  unfold tsT; split
  · split
    · omega
    · simp
  · simp
theorem th_one {rs : List Int} (h : gardenOk rs = false) : thC rs = 1 ∧ thT rs = [] ∧ thD rs = 0 := by
  unfold thC thT thD; simp [h]
theorem th_none {rs : List Int} (h : gardenOk rs = true) : thC rs = rdC rs 0 ∧ thT rs = rdT rs 0 ∧ thD rs = rdD rs 0 := by
  unfold thC thT thD; simp [h]
theorem ts_one {rs : List Int} {x : Int} (h : gardenOk rs = false) : tsC rs x = 1 ∧ tsT rs x = [] ∧ tsD rs x = 0 := by
  unfold tsC tsT tsD; simp [h]
theorem ts_two {rs : List Int} {x : Int} (h : gardenOk rs = true) (h2 : inB x 1 1000 = false) : tsC rs x = 2 ∧ tsT rs x = [] ∧ tsD rs x = 0 := by
  unfold tsC tsT tsD; simp [h, h2]
theorem ts_none {rs : List Int} {x : Int} (h : gardenOk rs = true) (h2 : inB x 1 1000 = true) : tsC rs x = rdC rs x ∧ tsT rs x = rdT rs x ∧ tsD rs x = rdD rs x := by
  unfold tsC tsT tsD; simp [h, h2]
theorem ret_vii {v : Value} {a b a' b' : Int} (h1 : a = a') (h2 : b = b') : Ending.returned (.tuple #[v, .int .i64 a, .int .i64 b]) = .returned (.tuple #[v, .int .i64 a', .int .i64 b']) := by rw [h1, h2]


set_option maxRecDepth 100000 in
set_option maxHeartbeats 8000000 in
theorem s_TurnsByHeight (c0 : Value) (rs : List Int) (w : World) (hI : Ints w.heap.size w c0 rs) (_hN : I64s rs) (hm : rs.length ≤ 1048576) :
    Calls Try.prog 53 #[.agg #[c0]] w (GivesI w (thT rs) fun v => .tuple #[v, .int .i64 (thD rs), .int .i64 (thC rs)]) := by
  obtain ⟨a, cap, rfl⟩ := hI.shape
  have hB0 : Below w.heap.size w (w.alloc (.cells #[.slice a rs.length cap] 48)) := (Below.refl _ w).alloc (Nat.le_refl _) _
  cases hg : gardenOk rs
  · have H := Lib.hid (th_one hg)
    go_enter Try.func53, Try.ntmps53
    go_wp2_with fail
    refine (l06Is_d false _ rs _ (hI.later hB0) (by omega) hg).mono ?_
    rintro e w1 ⟨rfl, hb⟩
    go_wp2
    go_ret3
    exact ⟨.slice none 0 0, ret_vii H.out.2.2.symm H.out.1.symm, by rw [H.out.2.1]; exact ownI_nil _ _, hB0.trans (hb.mono (by simp))⟩
  · have H := Lib.hid (th_none hg)
    go_enter Try.func53, Try.ntmps53
    go_wp2_with fail
    refine (l06Is_d true _ rs _ (hI.later hB0) (by omega) hg).mono ?_
    rintro e w1 ⟨rfl, hb⟩
    have hB1 := hB0.trans (hb.mono (by simp))
    have bG : Boxed w1 w.heap.size 48 (.slice a rs.length cap) := boxed_later (Boxed.new _ _ _) hb
    have kG := bG.cell
    clear hb hB0
    go_wp2_with fail
    refine (l06Round_c _ rs 0 _ (hI.later hB1) hg (.inl rfl) (by omega)).mono ?_
    rintro e w2 (⟨h0, v, rfl, ho, hb2⟩ | ⟨h3, hT, hD, rfl, hb2⟩)
    · have Hh0 := Lib.hid h0
      clear h0
      go_wp2
      go_ret3
      exact ⟨v, ret_vii H.out.2.2.symm (by rw [H.out.1, Hh0.out]), by rw [H.out.2.1]; exact ho.base hB1.size, hB1.trans (hb2.mono hB1.size)⟩
    · have Hh3 := Lib.hid (And.intro h3 (And.intro hT hD))
      clear h3 hT hD
      go_wp2
      go_ret3
      exact ⟨.slice none 0 0, ret_vii (by rw [H.out.2.2, Hh3.out.2.2]) (by rw [H.out.1, Hh3.out.1]), by rw [H.out.2.1, Hh3.out.2.1]; exact ownI_nil _ _, hB1.trans (hb2.mono hB1.size)⟩

set_option maxRecDepth 100000 in
set_option maxHeartbeats 8000000 in
theorem s_TurnsBySpeed (c0 : Value) (rs : List Int) (x : Int) (w : World) (hI : Ints w.heap.size w c0 rs) (_hN : I64s rs) (hm : rs.length ≤ 1048576) (_hx : I64 x) :
    Calls Try.prog 55 #[.agg #[c0], .int .i64 x] w (GivesI w (tsT rs x) fun v => .tuple #[v, .int .i64 (tsD rs x), .int .i64 (tsC rs x)]) := by
  obtain ⟨a, cap, rfl⟩ := hI.shape
  have hB0 : Below w.heap.size w (w.alloc (.cells #[.slice a rs.length cap] 48)) := (Below.refl _ w).alloc (Nat.le_refl _) _
  cases hg : gardenOk rs
  · have H := Lib.hid (ts_one (x := x) hg)
    go_enter Try.func55, Try.ntmps55
    go_wp2_with fail
    refine (l06Is_d false _ rs _ (hI.later hB0) (by omega) hg).mono ?_
    rintro e w1 ⟨rfl, hb⟩
    go_wp2
    go_ret3
    exact ⟨.slice none 0 0, ret_vii H.out.2.2.symm H.out.1.symm, by rw [H.out.2.1]; exact ownI_nil _ _, hB0.trans (hb.mono (by simp))⟩
  · cases hx : inB x 1 1000
    · have H := Lib.hid (ts_two hg hx)
      have Hx := Lib.hid hx
      clear hx
      go_enter Try.func55, Try.ntmps55
      go_wp2_with fail
      refine (l06Is_d true _ rs _ (hI.later hB0) (by omega) hg).mono ?_
      rintro e w1 ⟨rfl, hb⟩
      go_wp2_with (go_at_call 86; refine (l01In_d false _ _ _ _ Hx.out).mono ?_; rintro e w' ⟨rfl, rfl⟩)
      go_ret3
      exact ⟨.slice none 0 0, ret_vii H.out.2.2.symm H.out.1.symm, by rw [H.out.2.1]; exact ownI_nil _ _, hB0.trans (hb.mono (by simp))⟩
    · have H := Lib.hid (ts_none hg hx)
      have hx2 := inB_true.1 hx
      have Hx := Lib.hid hx
      clear hx
      go_enter Try.func55, Try.ntmps55
      go_wp2_with fail
      refine (l06Is_d true _ rs _ (hI.later hB0) (by omega) hg).mono ?_
      rintro e w1 ⟨rfl, hb⟩
      have hB1 := hB0.trans (hb.mono (by simp))
      have bG : Boxed w1 w.heap.size 48 (.slice a rs.length cap) := boxed_later (Boxed.new _ _ _) hb
      have kG := bG.cell
      clear hb hB0
      go_wp2_with (go_at_call 86; refine (l01In_d true _ _ _ _ Hx.out).mono ?_; rintro e w' ⟨rfl, rfl⟩)
      refine (l06Round_c _ rs x _ (hI.later hB1) hg (.inr hx2.1) hx2.2).mono ?_
      rintro e w2 (⟨h0, v, rfl, ho, hb2⟩ | ⟨h3, hT, hD, rfl, hb2⟩)
      · have Hh0 := Lib.hid h0
        clear h0
        go_wp2
        go_ret3
        exact ⟨v, ret_vii H.out.2.2.symm (by rw [H.out.1, Hh0.out]), by rw [H.out.2.1]; exact ho.base hB1.size, hB1.trans (hb2.mono hB1.size)⟩
      · have Hh3 := Lib.hid (And.intro h3 (And.intro hT hD))
        clear h3 hT hD
        go_wp2
        go_ret3
        exact ⟨.slice none 0 0, ret_vii (by rw [H.out.2.2, Hh3.out.2.2]) (by rw [H.out.1, Hh3.out.1]), by rw [H.out.2.1, Hh3.out.2.1]; exact ownI_nil _ _, hB1.trans (hb2.mono hB1.size)⟩

end Go.Proofs.Ytogpkaeodgokgaa
