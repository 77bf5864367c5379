/-
  FirstSplit of both: extendSplit, l08Split.
  Conditions: at most 1048576 gaps.
-/
import Derived.Test.YtlgjnceedjbakaaSpa
import Derived.Test.YtlgjnceedjbakaaDbl
namespace Go.Proofs.Ytlgjnceedjbakaa
open Go.RowKit Go.Shelf
attribute [local go_sem] Oper.semAt_some

/-! ### mathematics -/
open Classical in
/-- what a split that begins with sp becomes, with r tasks left -/
noncomputable def spl (zs : List Int) (m : Nat) : Nat → List Int → Option (List Int)
  | 0, sp => some sp
  | r + 1, sp => (List.range m).findSome? fun c : Nat => if CanL (partL zs (sp ++ [(c : Int)]) (c : Int)) then spl zs m r (sp ++ [(c : Int)]) else none
open Classical in
/-- .. on the channel c next -/
noncomputable def splAt (zs : List Int) (m r : Nat) (sp : List Int) (c : Nat) : Option (List Int) := if CanL (partL zs (sp ++ [(c : Int)]) (c : Int)) then spl zs m r (sp ++ [(c : Int)]) else none
noncomputable def splTo (zs : List Int) (m r : Nat) (sp : List Int) (c : Nat) : Option (List Int) := (List.range c).findSome? (splAt zs m r sp)
theorem splTo_zero (zs : List Int) (m r : Nat) (sp : List Int) : splTo zs m r sp 0 = none := rfl
theorem splTo_succ {zs : List Int} {m r : Nat} {sp : List Int} {c : Nat} (h : splTo zs m r sp c = none) : splTo zs m r sp (c + 1) = splAt zs m r sp c := by
  unfold splTo at *
  rw [List.range_succ, List.findSome?_append, h]
  cases e : splAt zs m r sp c <;> simp [e]
theorem splTo_stays {zs : List Int} {m r : Nat} {sp ys : List Int} {c d : Nat} (h : splTo zs m r sp c = some ys) (hd : c ≤ d) : splTo zs m r sp d = some ys := by
  induction d with
  | zero => obtain rfl : c = 0 := by omega
            exact h
  | succ d ih =>
    by_cases e : c = d + 1
    · subst e; exact h
    · have := ih (by omega)
      unfold splTo at *
      rw [List.range_succ, List.findSome?_append, this]; rfl
theorem spl_succ (zs : List Int) (m r : Nat) (sp : List Int) : spl zs m (r + 1) sp = splTo zs m r sp m := rfl
theorem splTo_find {zs : List Int} {m r : Nat} {sp ys : List Int} {c : Nat} (h : splTo zs m r sp c = some ys) : ∃ d, splAt zs m r sp d = some ys := by
  unfold splTo at h
  obtain ⟨d, _, hd⟩ := List.exists_of_findSome?_eq_some h
  exact ⟨d, hd⟩
theorem spl_len (zs : List Int) (m : Nat) : ∀ (r : Nat) (sp ys : List Int), spl zs m r sp = some ys → ys.length = sp.length + r := by
  intro r
  induction r with
  | zero => intro sp ys h; simp only [spl, Option.some.injEq] at h; subst h; rfl
  | succ r ih =>
    intro sp ys h
    rw [spl_succ] at h
    obtain ⟨d, hd⟩ := splTo_find h
    unfold splAt at hd
    split at hd
    · have := ih _ _ hd
      rw [List.length_append, List.length_singleton] at this; omega
    · cases hd
/-- what a call hands back -/
def SplPost (B : Nat) (w : World) (o : Option (List Int)) (e : Ending) (w' : World) : Prop :=
  match o with
  | some ys => (∃ v, e = .returned (.tuple #[v, .bool true]) ∧ OwnI B w' v ys) ∧ Below w.heap.size w w'
  | none => e = .returned (.tuple #[.slice none 0 0, .bool false]) ∧ Below w.heap.size w w'
theorem ownI_nil_shape {B : Nat} {W : World} {a : Option Addr} {cap : Nat} {zs : List Int} (h : OwnI B W (.slice a zs.length cap) zs) (ha : a = none) : zs = [] ∧ cap = 0 := by
  obtain ⟨_, h2⟩ := h
  rcases h2 with ⟨e, h0⟩ | ⟨g, cp, cur, e, _⟩
  · simp at e
    exact ⟨e.2.1, e.2.2⟩
  · subst ha; simp at e

/-! ### the program -/
set_option maxRecDepth 100000 in
set_option maxHeartbeats 16000000 in
open Classical in
theorem extendSplit_c {zs : List Int} (ht : tasksOk zs = true) {m : Nat} (hm : m ≤ 4) : ∀ (r : Nat) (sp : List Int) (c0 c2 : Value) (B : Nat) (w : World), sp.length + r = zs.length → Ints w.heap.size w c0 zs → OwnI B w c2 sp → B ≤ w.heap.size →
    Calls Try.prog 83 #[.agg #[c0], .int .i64 (m : Int), c2] w (SplPost B w (spl zs m r sp)) := by
  have hz8 := (tasksOk_len ht).2
  have Ht := Lib.hid ht
  clear ht
  intro r
  induction r with
  | zero =>
    intro sp c0 c2 B w hlen hI hS hBw
    obtain ⟨a, cap, rfl⟩ := hI.shape
    obtain ⟨a2, cap2, rfl⟩ := hS.ints.shape
    have hB0 : Below w.heap.size w (w.alloc (.cells #[.slice a zs.length cap] 42)) := (Below.refl _ w).alloc (Nat.le_refl _) _
    have hli : (sp.length : Int) = (zs.length : Int) := by omega
    have HO := Lib.hid (hS.below hB0)
    clear hlen hS
    go_enter Try.func83, Try.ntmps83
    go_wp2
    go_ret2
    exact ⟨⟨_, rfl, HO.out⟩, hB0⟩
  | succ r ih =>
    intro sp c0 c2 B w hlen hI hS hBw
    obtain ⟨a, cap, rfl⟩ := hI.shape
    obtain ⟨a2, cap2, rfl⟩ := hS.ints.shape
    have hB0 : Below w.heap.size w (w.alloc (.cells #[.slice a zs.length cap] 42)) := (Below.refl _ w).alloc (Nat.le_refl _) _
    have bT0 : Boxed (w.alloc (.cells #[.slice a zs.length cap] 42)) w.heap.size 42 (.slice a zs.length cap) := Boxed.new _ _ _
    have hne : ((sp.length : Int) == (zs.length : Int)) = false := by rw [beq_eq_false_iff_ne]; omega
    have hsl : sp.length ≤ 7 := by omega
    have HI := Lib.hid hI
    have HS := Lib.hid hS
    have Hlen := Lib.hid hlen
    have Hih := Lib.hid ih
    have Hsp := Lib.hid (spl_succ zs m r sp)
    have Hnil := Lib.hid (fun h => ownI_nil_shape hS h)
    clear hI hS hlen ih
    go_enter Try.func83, Try.ntmps83
    go_wp2
    go_loopw [20] (fun q wr => ∃ c : Nat, c ≤ m ∧ q = .int .i64 c ∧ splTo zs m r sp c = none ∧ Boxed wr w.heap.size 42 (.slice a zs.length cap) ∧ Below w.heap.size w wr) (fun q _ => m - (intOf q).toNat)
    case atStart => exact ⟨0, Nat.zero_le _, rfl, splTo_zero _ _ _ _, bT0, hB0⟩
    case round =>
      obtain ⟨c, hc, rfl, hno, bT, hB⟩ := hrel
      have Hno := Lib.hid hno
      have hsw := hB.size
      clear bT0 hB0 hno
      by_cases hlt : c < m
      · have hci : (c : Int) < (m : Int) := by omega
        have hSr := HS.out.below hB
        have bTr := bT.lt
        obtain ⟨Wa, hWa⟩ : ∃ Wa, wr.alloc (.cells #[.int .i64 (c : Int)] 2) = Wa := ⟨_, rfl⟩
        obtain ⟨Wb, hWb⟩ : ∃ Wb, Wa.alloc (.cells #[.slice a2 sp.length cap2, .slice (some ⟨wr.heap.size, 0, none⟩) 1 1] 37) = Wb := ⟨_, rfl⟩
        have hba : Below wr.heap.size wr Wb := by rw [← hWb, ← hWa]; exact ((Below.refl _ wr).alloc (Nat.le_refl _) _).alloc (by simp) _
        have hsb : Wb.heap.size = wr.heap.size + 1 + 1 := by rw [← hWb, ← hWa]; simp
        have hcl : ∀ k, k < 2 → Wb.cell? ⟨wr.heap.size + 1, k, none⟩ = some (.slice (if k = 1 then some ⟨wr.heap.size, 0, none⟩ else a2) (if k = 1 then [(c : Int)] else sp).length (if k = 1 then 1 else cap2)) := by
          intro k hk
          have hsa : Wa.heap.size = wr.heap.size + 1 := by rw [← hWa]; simp
          have e : Wb.heap[wr.heap.size + 1]? = some (.cells #[.slice a2 sp.length cap2, .slice (some ⟨wr.heap.size, 0, none⟩) 1 1] 37) := by rw [← hWb, ← hsa]; exact World.alloc_heap_new _ _
          match k, hk with
          | 0, _ => simp [World.cell?, e]
          | 1, _ => simp [World.cell?, e]
        have hIk : ∀ k, k < 2 → Ints Wb.heap.size Wb (.slice (if k = 1 then some ⟨wr.heap.size, 0, none⟩ else a2) (if k = 1 then [(c : Int)] else sp).length (if k = 1 then 1 else cap2)) (if k = 1 then [(c : Int)] else sp) := by
          intro k hk
          match k, hk with
          | 0, _ => exact (hSr.below hba).ints
          | 1, _ =>
            have h1 := (ownI_one8 wr (c : Int)).ints
            rw [hWa] at h1
            have h2 : Below Wa.heap.size Wa Wb := by rw [← hWb]; exact (Below.refl _ _).alloc (Nat.le_refl _) _
            exact h1.later h2
        have HcL := Lib.hid hcl
        have HIk := Lib.hid hIk
        have HWa := Lib.hid hWa
        have HWb := Lib.hid hWb
        have hBb := hB.trans (hba.mono hsw)
        have bTb := boxed_later bT hba
        clear hcl hIk hWa hWb hba hSr
        go_wp2_with fail
        rw [HWa.out, HWb.out]
        refine (concatL_c 2 (fun k => if k = 1 then [(c : Int)] else sp) (fun k => if k = 1 then some ⟨wr.heap.size, 0, none⟩ else a2) (fun k => if k = 1 then 1 else cap2) Wb (wr.heap.size + 1) (by omega) HcL.out HIk.out ?q3 (by omega) ?q4 ?q5).mono ?_
        case q3 =>
          intro k hk hn
          match k, hk with
          | 0, _ => exact Hnil.out hn
          | 1, _ => cases hn
        case q4 => simp [catL]
        case q5 =>
          intro k hk
          match k, hk with
          | 0, _ => simp [catL]
          | 1, _ => simp [catL]; omega
          | 2, _ => simp [catL]; omega
        rintro e W5 ⟨v9, rfl, ho9, hb5⟩
        simp only [id]
        obtain ⟨s9, hs9⟩ : ∃ s9, sp ++ [(c : Int)] = s9 := ⟨_, rfl⟩
        have ho9 : OwnI Wb.heap.size W5 v9 s9 := by rw [← hs9]; simpa [catL] using ho9
        have Hs9 := Lib.hid hs9
        have hc9 : (c : Int) ∈ s9 := by rw [← hs9]; simp
        have hp9 : 0 < s9.length := by rw [← hs9]; simp
        have Hlr := Lib.hid (show s9.length + r = zs.length by rw [← hs9, List.length_append, List.length_singleton]; have := Hlen.out; omega)
        clear hs9
        have bT5 := boxed_later bTb hb5
        have hB5 := hBb.trans (hb5.mono hBb.size)
        have hw5 := hb5.size
        have k5 := bT5.cell
        have hl9 : s9.length ≤ zs.length := by have := Hlr.out; omega
        obtain ⟨g9, c9, rfl, hg9, _⟩ := ho9.shape hp9
        clear HcL HIk HWa HWb hb5 bTb hBb
        go_wp2_with fail
        refine (tasksOnChannel_c _ _ zs s9 (c : Int) W5 (HI.out.later hB5) ho9.ints hz8 hl9).mono ?_
        rintro e W6 ⟨v6, rfl, ho6, hb6⟩
        have bT6 := boxed_later bT5 hb6
        have hB6 := hB5.trans (hb6.mono hB5.size)
        have ho96 := ho9.below hb6
        have Hok := Lib.hid (partL_ok Ht.out (c : Int) hl9 hc9)
        have hs56 := hb6.size
        clear hb6 bT5 hB5 k5 ho9
        obtain ⟨a6, c6, rfl⟩ := ho6.ints.shape
        go_wp2_with fail
        refine (canBeServed_c _ _ W6 ho6.ints Hok.out).mono ?_
        rintro e W7 ⟨rfl, hb7⟩
        have bT7 := boxed_later bT6 hb7
        have hB7 := hB6.trans (hb7.mono hB6.size)
        have hw7 := hb7.size
        have ho97 := ho96.below hb7
        have k7 := bT7.cell
        clear hb7 bT6 hB6 ho96 ho6
        by_cases hcan : CanL (partL zs s9 (c : Int))
        · have Hat := Lib.hid (show splAt zs m r sp c = spl zs m r s9 by unfold splAt; rw [Hs9.out]; exact if_pos hcan)
          rw [decide_eq_true hcan]
          clear hcan
          go_wp2_with fail
          refine (Hih.out s9 _ _ Wb.heap.size W7 Hlr.out (HI.out.later hB7) ho97 (by omega)).mono ?_
          rintro e W8 hp
          cases hs : spl zs m r s9 with
          | some ys =>
            rw [hs] at hp
            obtain ⟨⟨v8, rfl, ho8⟩, hb8⟩ := hp
            have Hres := Lib.hid (show spl zs m (r + 1) sp = some ys by rw [Hsp.out]; exact splTo_stays (c := c + 1) (by rw [splTo_succ Hno.out, Hat.out, hs]) (by omega))
            have hB8 := hB7.trans (hb8.mono hB7.size)
            clear hs
            go_wp2
            go_ret2
            rw [Hres.out]
            exact ⟨⟨_, rfl, ho8.base (by omega)⟩, hB8⟩
          | none =>
            rw [hs] at hp
            obtain ⟨rfl, hb8⟩ := hp
            have Hnx := Lib.hid (show splTo zs m r sp (c + 1) = none by rw [splTo_succ Hno.out, Hat.out, hs])
            have hB8 := hB7.trans (hb8.mono hB7.size)
            have bT8 := boxed_later bT7 hb8
            clear hs hb8 bT7 k7 hB7
            go_wp2
            go_roundw
            case rel => exact ⟨c + 1, by omega, by simp, Hnx.out, bT8, hB8⟩
            case measure => simp [intOf]; omega
        · have Hnx := Lib.hid (show splTo zs m r sp (c + 1) = none by rw [splTo_succ Hno.out]; unfold splAt; rw [Hs9.out]; exact if_neg hcan)
          rw [decide_eq_false hcan]
          clear hcan
          go_wp2
          go_roundw
          case rel => exact ⟨c + 1, by omega, by simp, Hnx.out, bT7, hB7⟩
          case measure => simp [intOf]; omega
      · obtain rfl : c = m := by omega
        have Hres := Lib.hid (show spl zs c (r + 1) sp = none by rw [Hsp.out]; exact Hno.out)
        go_wp2
        go_ret2
        rw [Hres.out]
        exact ⟨rfl, hB⟩

/-! ### the model -/
theorem wpList_append_rows {ops : Array Oper} {rest : List Oper} {o : Oper} {a : Act} {Q : Exit → Act → World → Prop} {w : World} (hgd : o.guard = none) (s x : Operand) (ho : o.op = .call { callee := .builtin .append, args := #[s, x], argTypes := #[37, 37] })
    (B : Nat) (v : Value) (xs : List Int) (hs : a.eval s = v) (hown : OwnI B w v xs) (B' : Nat) (y : Value) (ys : List Int) (hx : a.eval x = y) (hy : OwnI B' w y ys) (hl : xs.length + ys.length ≤ 1048576) (hbase : B ≤ w.heap.size)
    (h : ∀ v' w', OwnI B w' v' (xs ++ ys) → w.grownBy w' v.ownBlock → wpList Try.prog ops Q rest (a.put o.dst v') w') : wpList Try.prog ops Q (o :: rest) a w :=
  wpList_plain hgd fun _ hK => wp_append_rows s x ho B v xs hs hown B' y ys hx hy hl hbase fun v' w' h1 h2 => hK _ _ (h v' w' h1 h2)
theorem l01OwnO_c (sv : Value) (zs : List Int) (B : Nat) (w : World) (hO : OwnI B w sv zs) (hl : zs.length ≤ 1048576) :
    Calls Try.prog 76 #[sv] w (GivesI w zs id) := by
  obtain ⟨a, cap, rfl⟩ := hO.ints.shape
  have hB0 : Below w.heap.size w (w.alloc (.cells #[] 2)) := (Below.refl _ w).alloc (Nat.le_refl _) _
  have hO2 := hO.below hB0
  clear hO
  go_enter Try.func76, Try.ntmps76
  go_wp2_with (at_builtin; refine wpList_append_rows rfl _ _ rfl w.heap.size _ [] rfl (ownI_empty w) _ _ zs rfl hO2 (by simp; omega) (by simp) ?_)
  intro v' w1 ho hgrow
  have hB : Below w.heap.size w w1 := hB0.grown hgrow (by simp) (fun j e => by simp [Value.ownBlock] at e; omega)
  clear hgrow
  go_wp2
  go_ret
  exact ⟨_, rfl, ho, hB⟩

set_option maxRecDepth 100000 in
set_option maxHeartbeats 16000000 in
open Classical in
theorem l08Split_c {zs : List Int} (ht : tasksOk zs = true) (h4 : cntL zs ≤ 4000) {m : Nat} (hm : m ≤ 4) : ∀ (r : Nat) (sp : List Int) (c0 c2 : Value) (B : Nat) (w : World), sp.length + r = zs.length → Ints w.heap.size w c0 zs → OwnI B w c2 sp → B ≤ w.heap.size →
    Calls Try.prog 82 #[.agg #[c0], .int .i64 (m : Int), c2] w (SplPost B w (spl zs m r sp)) := by
  obtain ⟨i0, hi, hz0, hz1, hz2⟩ := info_parts Try.infoI
  have hz8 := (tasksOk_len ht).2
  have Ht := Lib.hid ht
  clear ht
  intro r
  induction r with
  | zero =>
    intro sp c0 c2 B w hlen hI hS hBw
    obtain ⟨a, cap, rfl⟩ := hI.shape
    obtain ⟨a2, cap2, rfl⟩ := hS.ints.shape
    have hB0 : Below w.heap.size w (w.alloc (.cells #[.slice a zs.length cap] 42)) := (Below.refl _ w).alloc (Nat.le_refl _) _
    have hli : (sp.length : Int) = (zs.length : Int) := by omega
    have HO := Lib.hid (hS.below hB0)
    clear hlen hS
    go_enter Try.func82, Try.ntmps82
    go_wp2
    go_ret2
    exact ⟨⟨_, rfl, HO.out⟩, hB0⟩
  | succ r ih =>
    intro sp c0 c2 B w hlen hI hS hBw
    obtain ⟨a, cap, rfl⟩ := hI.shape
    obtain ⟨a2, cap2, rfl⟩ := hS.ints.shape
    have hB0 : Below w.heap.size w (w.alloc (.cells #[.slice a zs.length cap] 42)) := (Below.refl _ w).alloc (Nat.le_refl _) _
    have bT0 : Boxed (w.alloc (.cells #[.slice a zs.length cap] 42)) w.heap.size 42 (.slice a zs.length cap) := Boxed.new _ _ _
    have hne : ((sp.length : Int) == (zs.length : Int)) = false := by rw [beq_eq_false_iff_ne]; omega
    have hsl : sp.length ≤ 7 := by omega
    have HI := Lib.hid hI
    have HS := Lib.hid hS
    have Hlen := Lib.hid hlen
    have Hih := Lib.hid ih
    have Hsp := Lib.hid (spl_succ zs m r sp)
    clear hI hS hlen ih
    go_enter Try.func82, Try.ntmps82
    go_wp2
    go_loopw [8] (fun q wr => ∃ c : Nat, c ≤ m ∧ q = .int .i64 c ∧ splTo zs m r sp c = none ∧ Boxed wr w.heap.size 42 (.slice a zs.length cap) ∧ Below w.heap.size w wr) (fun q _ => m - (intOf q).toNat)
    case atStart => exact ⟨0, Nat.zero_le _, rfl, splTo_zero _ _ _ _, bT0, hB0⟩
    case round =>
      obtain ⟨c, hc, rfl, hno, bT, hB⟩ := hrel
      have Hno := Lib.hid hno
      have hsw := hB.size
      clear bT0 hB0 hno
      by_cases hlt : c < m
      · have hci : (c : Int) < (m : Int) := by omega
        have hSr := HS.out.below hB
        have Hbt := Lib.hid bT.lt
        go_wp2_with fail
        refine (l01OwnO_c _ sp B wr hSr (by omega)).mono ?_
        rintro e W4 ⟨v4, rfl, ho4, hb4⟩
        simp only [id]
        have bT4 := boxed_later bT hb4
        have hB4 := hB.trans (hb4.mono hsw)
        have hs4 := hB4.size
        have hw4 := hb4.size
        clear hb4 hSr bT
        go_wp2_with (at_builtin; refine wpList_append_own _ rfl _ _ 37 rfl wr.heap.size 2 i0 (.int .i64 0) 1 8 Try.underlying37 hi hz0 hz1 hz2 rfl (by decide) _ _ _ rfl (World.ownsRow.alloc ho4 _) ⟨W4.heap.size, 0, none⟩ 1 1 [.int .i64 (c : Int)] rfl rfl (Go.cell_one_new _ _ _) (by simp [Value.oneCell']) (by unfold maxLen; omega) (by omega) (by simp; omega) ?_)
        intro v9 W5 hown' hgrow _
        obtain ⟨s9, hs9⟩ : ∃ s9, sp ++ [(c : Int)] = s9 := ⟨_, rfl⟩
        have ho9 : OwnI wr.heap.size W5 v9 s9 := by rw [← hs9]; exact ownI_snoc hown'
        have hB5 : Below w.heap.size w W5 := (hB4.alloc hs4 _).grown hgrow (by simp; omega) (fun j e => by have := (ho4.blk j e).1; omega)
        have bT5 : Boxed W5 w.heap.size 42 (.slice a zs.length cap) := (bT4.alloc _).kept hgrow (fun e => by have h1 := (ho4.blk _ e.symm).1; have h2 := Hbt.out; omega)
        have hw5 : wr.heap.size ≤ W5.heap.size := by have := hgrow.size; simp only [World.size_alloc] at this; omega
        have Hs9 := Lib.hid hs9
        have hc9 : (c : Int) ∈ s9 := by rw [← hs9]; simp
        have hp9 : 0 < s9.length := by rw [← hs9]; simp
        have Hlr := Lib.hid (show s9.length + r = zs.length by rw [← hs9, List.length_append, List.length_singleton]; have := Hlen.out; omega)
        have hl9 : s9.length ≤ zs.length := by have := Hlr.out; omega
        obtain ⟨g9, c9, rfl, hg9, _⟩ := ho9.shape hp9
        have k5 := bT5.cell
        clear hs9 hown' hgrow ho4 bT4 hB4
        go_wp2_with fail
        refine (l08Alone_c _ _ zs s9 (c : Int) W5 (HI.out.later hB5) ho9.ints Ht.out h4 hl9 hc9).mono ?_
        rintro e W7 ⟨rfl, hb7⟩
        have bT7 := boxed_later bT5 hb7
        have hB7 := hB5.trans (hb7.mono hB5.size)
        have hw7 := hb7.size
        have hw57 := hw5
        have ho97 := ho9.below hb7
        have k7 := bT7.cell
        clear hb7 bT5 hB5 ho9 k5
        by_cases hcan : CanL (partL zs s9 (c : Int))
        · have Hat := Lib.hid (show splAt zs m r sp c = spl zs m r s9 by unfold splAt; rw [Hs9.out]; exact if_pos hcan)
          rw [decide_eq_true hcan]
          clear hcan
          go_wp2_with fail
          refine (Hih.out s9 _ _ wr.heap.size W7 Hlr.out (HI.out.later hB7) ho97 (by omega)).mono ?_
          rintro e W8 hp
          cases hs : spl zs m r s9 with
          | some ys =>
            rw [hs] at hp
            obtain ⟨⟨v8, rfl, ho8⟩, hb8⟩ := hp
            have Hres := Lib.hid (show spl zs m (r + 1) sp = some ys by rw [Hsp.out]; exact splTo_stays (c := c + 1) (by rw [splTo_succ Hno.out, Hat.out, hs]) (by omega))
            have hB8 := hB7.trans (hb8.mono hB7.size)
            clear hs
            go_wp2
            go_ret2
            rw [Hres.out]
            exact ⟨⟨_, rfl, ho8.base (by omega)⟩, hB8⟩
          | none =>
            rw [hs] at hp
            obtain ⟨rfl, hb8⟩ := hp
            have Hnx := Lib.hid (show splTo zs m r sp (c + 1) = none by rw [splTo_succ Hno.out, Hat.out, hs])
            have hB8 := hB7.trans (hb8.mono hB7.size)
            have bT8 := boxed_later bT7 hb8
            clear hs hb8 bT7 k7 hB7
            go_wp2
            go_roundw
            case rel => exact ⟨c + 1, by omega, by simp, Hnx.out, bT8, hB8⟩
            case measure => simp [intOf]; omega
        · have Hnx := Lib.hid (show splTo zs m r sp (c + 1) = none by rw [splTo_succ Hno.out]; unfold splAt; rw [Hs9.out]; exact if_neg hcan)
          rw [decide_eq_false hcan]
          clear hcan
          go_wp2
          go_roundw
          case rel => exact ⟨c + 1, by omega, by simp, Hnx.out, bT7, hB7⟩
          case measure => simp [intOf]; omega
      · obtain rfl : c = m := by omega
        have Hres := Lib.hid (show spl zs c (r + 1) sp = none by rw [Hsp.out]; exact Hno.out)
        go_wp2
        go_ret2
        rw [Hres.out]
        exact ⟨rfl, hB⟩

end Go.Proofs.Ytlgjnceedjbakaa
