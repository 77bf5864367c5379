/-
  Who is apart: both; AreApart of both.
  Conditions: lists of at most 1048576 elements.
-/
import Derived.Test.YtbhpflhopajbfaaClD
import Derived.Test.YtbhpflhopajbfaaShift
namespace Go.Proofs.Ytbhpflhopajbfaa
open Go.RowKit Go.Shelf
attribute [local go_sem] Oper.semAt_some

def apC (cs : List (Int × Int)) : Int := if clsOk cs then 0 else 1
def apV (cs : List (Int × Int)) : Bool := clsOk cs && apartB cs
theorem clss_of {cs : List (Int × Int)} (h : clsOk cs = true) : Clss cs := fun _ hk => clsOk_at h hk
theorem clss_bd {cs : List (Int × Int)} (h : Clss cs) {k : Nat} (hk : k < cs.length) : (-1000 ≤ rst cs k ∧ rst cs k ≤ 1000) ∧ (1 ≤ gp cs k ∧ gp cs k ≤ 1000) := by have := h k hk; omega

set_option maxRecDepth 100000 in
set_option maxHeartbeats 8000000 in
theorem l05Apart_c (sv : Value) (cs : List (Int × Int)) (w : World) (hI : Cls w.heap.size w sv cs) (hcl : Clss cs) (hm : cs.length ≤ 8) :
    Calls Try.prog 144 #[sv] w fun e w' => e = .returned (.bool (apartB cs)) ∧ Below w.heap.size w w' := by
  obtain ⟨a, cap, rfl⟩ := hI.shape
  have Hcl := Lib.hid hcl
  clear hcl
  go_enter Try.func144, Try.ntmps144
  go_wp2
  go_loopw [3] (fun i wr => ∃ k : Nat, k ≤ cs.length ∧ i = .int .i64 k ∧ (∀ j, j < k → ∀ m, m < j → meets cs j m = false) ∧ Below w.heap.size w wr) (fun i _ => cs.length - (intOf i).toNat)
  case atStart => exact ⟨0, Nat.zero_le _, rfl, by omega, Below.refl _ _⟩
  case round =>
    obtain ⟨k, hk, rfl, hall, hB⟩ := hrel
    have Hall := Lib.hid hall
    clear hall
    by_cases hlt : k < cs.length
    · have hlt' : (k : Int) < (cs.length : Int) := by omega
      go_wp2
      go_loopw [4] (fun i wr => ∃ m : Nat, m ≤ k ∧ i = .int .i64 m ∧ (∀ j, j < m → meets cs k j = false) ∧ Below w.heap.size w wr) (fun i _ => k - (intOf i).toNat)
      case atStart => exact ⟨0, Nat.zero_le _, rfl, by omega, hB⟩
      case round =>
        obtain ⟨m, hmk, rfl, hin, hB1⟩ := hrel
        have Hin := Lib.hid hin
        clear hin hB
        by_cases hltm : m < k
        · obtain ⟨b, off, rfl, hb, hc⟩ := (hI.below hB1).at_ hlt
          obtain ⟨x0, x1⟩ := hc k hlt
          obtain ⟨y0, y1⟩ := hc m (by omega)
          have hltm' : (m : Int) < (k : Int) := by omega
          have hltm2 : (m : Int) < (cs.length : Int) := by omega
          have hsz := hB1.size
          have p1 : b < wr.heap.size := by omega
          obtain ⟨q1, q2⟩ := clss_bd Hcl.out hlt
          obtain ⟨q3, q4⟩ := clss_bd Hcl.out (k := m) (by omega)
          have q5 : 0 ≤ gp cs m ∧ gp cs m ≤ 1000 := by omega
          have Q := Lib.hid (And.intro q1 (And.intro q3 (And.intro q2 q5)))
          clear hc hI q1 q2 q3 q4 q5
          cases he : meets cs k m
          · have He := Lib.hid he
            clear he
            go_wp2
            go_region_held3 (fun w' => w'.cell? ⟨b, off + k * 2, none⟩ = some (.int .i64 (rst cs k)) ∧ w'.cell? ⟨b, off + k * 2 + 1, none⟩ = some (.int .i64 (gp cs k)) ∧ w'.cell? ⟨b, off + m * 2, none⟩ = some (.int .i64 (rst cs m)) ∧ w'.cell? ⟨b, off + m * 2 + 1, none⟩ = some (.int .i64 (gp cs m)) ∧ Below wr.heap.size wr w')
              (first
                | exact ⟨x0, x1, y0, y1, (Below.refl _ _).drew⟩
                | (go_split_ands
                   refine ⟨?_, ?_, ?_, ?_, ?_⟩
                   · exact (hx.cell (p := ⟨b, off + k * 2, none⟩) (by show b < _; omega)).trans (by assumption)
                   · exact (hx.cell (p := ⟨b, off + k * 2 + 1, none⟩) (by show b < _; omega)).trans (by assumption)
                   · exact (hx.cell (p := ⟨b, off + m * 2, none⟩) (by show b < _; omega)).trans (by assumption)
                   · exact (hx.cell (p := ⟨b, off + m * 2 + 1, none⟩) (by show b < _; omega)).trans (by assumption)
                   · exact Below.trans (by assumption) (hx.mono (by omega))))
              (first | (go_at_call 177; go_split_ands; have hBW2 : Below wr.heap.size wr _ := (by assumption); have pW := hBW2.size; refine (l05Meet_d false _ _ _ _ _ Q.out.1 Q.out.2.1 Q.out.2.2.1 Q.out.2.2.2 He.out).mono ?_; rintro e W1 ⟨rfl, hx⟩))
            go_split_ands
            have hB3 := hB1.trans (Below.mono (by assumption) hsz)
            go_wp2
            go_roundw
            case rel => exact ⟨m + 1, by omega, by simp, fun j hj => by by_cases e : j = m; exact e ▸ He.out; exact Hin.out j (by omega), hB3⟩
            case measure => simp [intOf]; omega
          · have He := Lib.hid he
            clear he
            go_wp2
            go_region_held3 (fun w' => w'.cell? ⟨b, off + k * 2, none⟩ = some (.int .i64 (rst cs k)) ∧ w'.cell? ⟨b, off + k * 2 + 1, none⟩ = some (.int .i64 (gp cs k)) ∧ w'.cell? ⟨b, off + m * 2, none⟩ = some (.int .i64 (rst cs m)) ∧ w'.cell? ⟨b, off + m * 2 + 1, none⟩ = some (.int .i64 (gp cs m)) ∧ Below wr.heap.size wr w')
              (first
                | exact ⟨x0, x1, y0, y1, (Below.refl _ _).drew⟩
                | (go_split_ands
                   refine ⟨?_, ?_, ?_, ?_, ?_⟩
                   · exact (hx.cell (p := ⟨b, off + k * 2, none⟩) (by show b < _; omega)).trans (by assumption)
                   · exact (hx.cell (p := ⟨b, off + k * 2 + 1, none⟩) (by show b < _; omega)).trans (by assumption)
                   · exact (hx.cell (p := ⟨b, off + m * 2, none⟩) (by show b < _; omega)).trans (by assumption)
                   · exact (hx.cell (p := ⟨b, off + m * 2 + 1, none⟩) (by show b < _; omega)).trans (by assumption)
                   · exact Below.trans (by assumption) (hx.mono (by omega))))
              (first | (go_at_call 177; go_split_ands; have hBW2 : Below wr.heap.size wr _ := (by assumption); have pW := hBW2.size; refine (l05Meet_d true _ _ _ _ _ Q.out.1 Q.out.2.1 Q.out.2.2.1 Q.out.2.2.2 He.out).mono ?_; rintro e W1 ⟨rfl, hx⟩))
            go_split_ands
            have hB3 := hB1.trans (Below.mono (by assumption) hsz)
            go_wp2
            go_ret
            exact ⟨ret_bool (apart_no hlt hltm He.out).symm, hB3⟩
        · obtain rfl : m = k := by omega
          go_wp2
          go_roundw
          case rel => exact ⟨m + 1, by omega, by simp, fun j hj => by by_cases e : j = m; exact e ▸ Hin.out; exact Hall.out j (by omega), hB1⟩
          case measure => simp [intOf]; omega
    · obtain rfl : k = cs.length := by omega
      go_wp2
      go_ret
      exact ⟨ret_bool (apart_yes Hall.out).symm, hB⟩

/-! ### the program -/
theorem OwnC.capOk {B n : Nat} {W : World} {v : Value} {xs : List Int} (h : OwnC B W v n xs) : CapOk v n := by
  obtain ⟨_, h2⟩ := h
  rcases h2 with ⟨e, h0⟩ | ⟨g, cap, cur, e, _, _, hn, hm, _⟩
  · exact ⟨none, 0, by rw [e, h0], by omega, Nat.zero_le _⟩
  · exact ⟨_, cap, e, hn, hm⟩
theorem rst_take {cs : List (Int × Int)} {k m : Nat} (h : m < k) : rst (cs.take k) m = rst cs m ∧ gp (cs.take k) m = gp cs m := by
  unfold rst gp
  rw [List.getElem?_take_of_lt h]
  exact ⟨rfl, rfl⟩
theorem flat_take : ∀ (cs : List (Int × Int)) (k : Nat), flat (cs.take k) = (flat cs).take (k * 2)
  | [], k => by simp [flat]
  | c :: cs, 0 => by simp [flat]
  | c :: cs, k + 1 => by
    rw [show (k + 1) * 2 = k * 2 + 1 + 1 by omega]
    simp [flat, flat_take cs k]
theorem cls_take {n₀ k : Nat} {W : World} {a : Option Addr} {len cap : Nat} {cs : List (Int × Int)} (h : Cls n₀ W (.slice a len cap) cs) (hk : k ≤ cs.length) : Cls n₀ W (.slice a k cap) (cs.take k) := by
  have hl : (cs.take k).length = k := by simp; omega
  obtain ⟨a', c', e, _, h2⟩ := h
  cases e
  refine ⟨a, cap, by rw [hl], flat_length _, ?_⟩
  rw [hl]
  by_cases h0 : k = 0
  · exact .inl h0
  · rcases h2 with h2 | ⟨b, off, ha, hb, hc⟩
    · omega
    · refine .inr ⟨b, off, ha, hb, fun j hj => ?_⟩
      rw [hc j (by omega), flat_take]
      unfold nth
      rw [List.getElem?_take_of_lt hj]

end Go.Proofs.Ytbhpflhopajbfaa
