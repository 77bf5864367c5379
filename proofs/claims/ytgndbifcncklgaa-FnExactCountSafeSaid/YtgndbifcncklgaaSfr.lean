/-
  The program's first safe start: firstStart of a watcher.
  Conditions: a ground and tasks, as many as places, with at most 20000 states.
-/
import Derived.Test.YtgndbifcncklgaaSfq
namespace Go.Proofs.Ytgndbifcncklgaa
open Go.RowKit Go.Shelf
attribute [local go_sem] Oper.semAt_some

/-- what stands behind p places without a safe start -/
structure FS (w : World) (b bo mk m9 B : Nat) (zs : List Int) (r : Nat) (K0 : KnW) (p : Nat) (K : KnW) (Bc : Nat) (W : World) : Prop where
  wat : Wat W b zs.length r bo mk
  out : Outl W bo zs m9
  map : KMapW W zs mk Bc K
  good : KGoodW zs r K
  cnt : Bc + 2 * unkW zs K ≤ B + 2 * unkW zs K0
  res : Wbx W w.heap.size ([], 0)
  gr : w.grownBy W (some mk)
  no : ∀ q, q < p → ¬ SafeW zs r (zs, q)
  bl : b < w.heap.size
  bol : bo < w.heap.size
  mkl : mk < w.heap.size

/-- what firstStart answers -/
def StartPost (mk B : Nat) (zs : List Int) (r : Nat) (K0 : KnW) (w : World) (e : Ending) (w' : World) : Prop :=
  ∃ K Bc, KMapW w' zs mk Bc K ∧ KGoodW zs r K ∧ Bc + 2 * unkW zs K ≤ B + 2 * unkW zs K0 ∧ w.grownBy w' (some mk) ∧
    ((∃ p, p < zs.length ∧ SafeW zs r (zs, p) ∧ (∀ q, q < p → ¬ SafeW zs r (zs, q)) ∧ e = .returned (.tuple #[wV (zs, p), .bool true])) ∨
     ((∀ q, q < zs.length → ¬ SafeW zs r (zs, q)) ∧ e = .returned (.tuple #[wV ([], 0), .bool false])))

set_option maxRecDepth 100000 in
set_option maxHeartbeats 16000000 in
theorem firstStart_c (w : World) (b bo mk m9 B : Nat) (zs : List Int) (r : Nat) (K0 : KnW) (ht : tasksOk zs = true) (hn6 : zs.length ≤ 6) (hr : r < 32768) (hcap : B + 2 * unkW zs K0 < 1000000)
    (hW : Wat w b zs.length r bo mk) (hO : Outl w bo zs m9) (hM : KMapW w zs mk B K0) (hG : KGoodW zs r K0) :
    Calls Try.prog 104 #[.pointer (some ⟨b, 0, none⟩)] w (StartPost mk B zs r K0 w) := by
  have hl8 := tasksOk_len ht
  have hF0 : FS w b bo mk m9 B zs r K0 0 K0 B (w.alloc (.cells (wC ([], 0)) 66)) := by
    have hb : Below w.heap.size w (w.alloc (.cells (wC ([], 0)) 66)) := (Below.refl _ _).alloc (Nat.le_refl _) _
    exact ⟨hW.later hb, hO.later hb, hM.later hb, hG, Nat.le_refl _, Wbx.new w _, World.grownBy_alloc _ _ _, fun q h => by omega, hW.lt, hO.lt, hM.lt⟩
  obtain ⟨W1, hW1⟩ : ∃ W1, w.alloc (.cells #[.int .i64 0, .int .u8 0, .int .u8 0, .int .u8 0, .int .u8 0, .int .u8 0, .int .u8 0, .int .u8 0, .int .u8 0] 66) = W1 := ⟨_, rfl⟩
  have hF : FS w b bo mk m9 B zs r K0 0 K0 B W1 := by rw [← hW1]; exact hF0
  have c0 := hF.wat.c0
  have hp := pos_of ht
  clear hF0 hW hO hM hG
  go_enter Try.func104, Try.ntmps104
  go_wp2_with fail
  clear hW1 c0
  go_loopw [11] (fun pv wr => ∃ (p : Nat) (K : KnW) (Bc : Nat), pv = .int .i64 (p : Int) ∧ p ≤ zs.length ∧ FS w b bo mk m9 B zs r K0 p K Bc wr) (fun pv _ => zs.length - (intOf pv).toNat)
  case atStart => exact ⟨0, K0, B, rfl, Nat.zero_le _, hF⟩
  case round =>
    obtain ⟨p, K, Bc, rfl, hpl, hFr⟩ := hrel
    clear hF
    by_cases hlt : p < zs.length
    · have hki : (p : Int) < (zs.length : Int) := by omega
      have c2 := hFr.wat.c2
      have g1 := hFr.out.full (i := 0) (by omega)
      have g2 := hFr.out.full (i := 1) (by omega)
      have g3 := hFr.out.full (i := 2) (by omega)
      have g4 := hFr.out.full (i := 3) (by omega)
      have g5 := hFr.out.full (i := 4) (by omega)
      have g6 := hFr.out.full (i := 5) (by omega)
      have g7 := hFr.out.full (i := 6) (by omega)
      have g8 := hFr.out.full (i := 7) (by omega)
      have HF := Lib.hid hFr
      clear hFr
      have hpW : IsW zs (zs, p) := ⟨isSt_full hp, hlt, rfl⟩
      obtain ⟨W5, hW5⟩ : ∃ W5, wr.alloc (.cells #[.int .i64 (p : Int), .int .u8 (nth zs 0), .int .u8 (nth zs 1), .int .u8 (nth zs 2), .int .u8 (nth zs 3), .int .u8 (nth zs 4), .int .u8 (nth zs 5), .int .u8 (nth zs 6), .int .u8 (nth zs 7)] 66) = W5 := ⟨_, rfl⟩
      have hb5 : Below wr.heap.size wr W5 := by rw [← hW5]; exact (Below.refl _ _).alloc (Nat.le_refl _) _
      have hZ5 : Wbx W5 wr.heap.size (zs, p) := by rw [← hW5]; exact Wbx.new wr (zs, p)
      have z0 := hZ5.c0
      have z1 := hZ5.cs (i := 0) (by omega)
      have z2 := hZ5.cs (i := 1) (by omega)
      have z3 := hZ5.cs (i := 2) (by omega)
      have z4 := hZ5.cs (i := 3) (by omega)
      have z5 := hZ5.cs (i := 4) (by omega)
      have z6 := hZ5.cs (i := 5) (by omega)
      have z7 := hZ5.cs (i := 6) (by omega)
      have z8 := hZ5.cs (i := 7) (by omega)
      have HZ := Lib.hid hZ5
      clear hZ5
      go_wp2_with fail
      have hmr : w.heap.size ≤ wr.heap.size := HF.out.gr.size
      have hml := HF.out.mkl
      have hrl : w.heap.size < wr.heap.size := HF.out.res.lt
      refine (isSafe_c W5 (zs, p) b bo mk m9 Bc zs r K ht hn6 hr (by have := HF.out.cnt; omega) (HF.out.wat.later hb5) (HF.out.out.later hb5) (HF.out.map.later hb5) HF.out.good hpW).mono ?_
      rintro e w2 ⟨K2, Bc2, hm2, hg2, hc2, hgr2, hres⟩
      have HZ2 := HZ.out.kept hgr2 (by simp; omega)
      have HX := (HF.out.res.later hb5).kept hgr2 (by simp; omega)
      have hbne := (HF.out.map.later hb5).ne_cells (show W5.heap[b]? = _ from HF.out.wat.later hb5)
      have hbone := (HF.out.map.later hb5).ne_cells (show W5.heap[bo]? = _ from HF.out.out.later hb5)
      have hw2 := (HF.out.wat.later hb5).kept hgr2 (by simp; omega)
      have ho2 := (HF.out.out.later hb5).kept hgr2 (by simp; omega)
      have hgr5 : w.grownBy W5 (some mk) := HF.out.gr.andThen (below_grown hb5 none) (fun j e => by cases e)
      have hgr3 : w.grownBy w2 (some mk) := hgr5.trans hgr2
      have hc3 : Bc2 + 2 * unkW zs K2 ≤ B + 2 * unkW zs K0 := Nat.le_trans hc2 HF.out.cnt
      clear z0 z1 z2 z3 z4 z5 z6 z7 z8
      rcases hres with ⟨rfl, hs⟩ | ⟨rfl, hs⟩
      · have fin := Wbx.stored9 (zs, p) HX
        have rf0 := HX.frozen 0
        have rf1 := HX.frozen 1
        have rf2 := HX.frozen 2
        have rf3 := HX.frozen 3
        have rf4 := HX.frozen 4
        have rf5 := HX.frozen 5
        have rf6 := HX.frozen 6
        have rf7 := HX.frozen 7
        have rf8 := HX.frozen 8
        have rc0 := HX.c0
        have rc1 := HX.cs (i := 0) (by omega)
        have rc2 := HX.cs (i := 1) (by omega)
        have rc3 := HX.cs (i := 2) (by omega)
        have rc4 := HX.cs (i := 3) (by omega)
        have rc5 := HX.cs (i := 4) (by omega)
        have rc6 := HX.cs (i := 5) (by omega)
        have rc7 := HX.cs (i := 6) (by omega)
        have rc8 := HX.cs (i := 7) (by omega)
        have y0 := HZ2.c0
        have y1 := HZ2.cs (i := 0) (by omega)
        have y2 := HZ2.cs (i := 1) (by omega)
        have y3 := HZ2.cs (i := 2) (by omega)
        have y4 := HZ2.cs (i := 3) (by omega)
        have y5 := HZ2.cs (i := 4) (by omega)
        have y6 := HZ2.cs (i := 5) (by omega)
        have y7 := HZ2.cs (i := 6) (by omega)
        have y8 := HZ2.cs (i := 7) (by omega)
        have d0 := fin.c0
        have e0 := fin.cs (i := 0) (by omega)
        have e1 := fin.cs (i := 1) (by omega)
        have e2 := fin.cs (i := 2) (by omega)
        have e3 := fin.cs (i := 3) (by omega)
        have e4 := fin.cs (i := 4) (by omega)
        have e5 := fin.cs (i := 5) (by omega)
        have e6 := fin.cs (i := 6) (by omega)
        have e7 := fin.cs (i := 7) (by omega)
        clear hW5
        go_wp2_with fail
        show bodyPost _ _ _ .ret _ (store9 w2 w.heap.size (zs, p))
        refine bodyPost_ret (v := .tuple #[wV (zs, p), .bool true]) (by simp [results, Try.results104, go_sem, wV, wC, d0, e0, e1, e2, e3, e4, e5, e6, e7]) rfl ?_
        have hg9 := grownBy_set9 w2 w.heap.size (zs, p)
        exact ⟨K2, Bc2, hm2.kept hg9 (by simp; omega), hg2, hc3, hgr3.andThen hg9 (fun j e => .inl (by have : w.heap.size = j := (by simpa using e); omega)), .inl ⟨p, hlt, hs, HF.out.no, rfl⟩⟩
      · clear hW5
        go_wp2_with fail
        go_roundw
        case rel =>
          refine ⟨p + 1, K2, Bc2, by simp, by omega, ⟨hw2, ho2, hm2, hg2, hc3, HX, hgr3, fun q hq => ?_, HF.out.bl, HF.out.bol, HF.out.mkl⟩⟩
          by_cases e : q = p
          · rw [e]; exact hs
          · exact HF.out.no q (by omega)
        case measure => simp [intOf]; omega
    · have hki : ¬ (p : Int) < (zs.length : Int) := by omega
      have HX := hFr.res
      have fin := Wbx.stored9 ([], 0) HX
      have HF := Lib.hid hFr
      have rf0 := HX.frozen 0
      have rf1 := HX.frozen 1
      have rf2 := HX.frozen 2
      have rf3 := HX.frozen 3
      have rf4 := HX.frozen 4
      have rf5 := HX.frozen 5
      have rf6 := HX.frozen 6
      have rf7 := HX.frozen 7
      have rf8 := HX.frozen 8
      have rc0 := HX.c0
      have rc1 := HX.cs (i := 0) (by omega)
      have rc2 := HX.cs (i := 1) (by omega)
      have rc3 := HX.cs (i := 2) (by omega)
      have rc4 := HX.cs (i := 3) (by omega)
      have rc5 := HX.cs (i := 4) (by omega)
      have rc6 := HX.cs (i := 5) (by omega)
      have rc7 := HX.cs (i := 6) (by omega)
      have rc8 := HX.cs (i := 7) (by omega)
      clear hFr
      go_wp2_with fail
      show bodyPost _ _ _ .ret _ (store9 wr w.heap.size ([], 0))
      have d0 := fin.c0
      have e0 := fin.cs (i := 0) (by omega)
      have e1 := fin.cs (i := 1) (by omega)
      have e2 := fin.cs (i := 2) (by omega)
      have e3 := fin.cs (i := 3) (by omega)
      have e4 := fin.cs (i := 4) (by omega)
      have e5 := fin.cs (i := 5) (by omega)
      have e6 := fin.cs (i := 6) (by omega)
      have e7 := fin.cs (i := 7) (by omega)
      refine bodyPost_ret (v := .tuple #[wV ([], 0), .bool false]) (by simp [results, Try.results104, go_sem, wV, wC, d0, e0, e1, e2, e3, e4, e5, e6, e7]) rfl ?_
      have hg9 := grownBy_set9 wr w.heap.size ([], 0)
      have hml := HF.out.mkl
      exact ⟨K, Bc, HF.out.map.kept hg9 (by simp; omega), HF.out.good, HF.out.cnt, HF.out.gr.andThen hg9 (fun j e => .inl (by have : w.heap.size = j := (by simpa using e); omega)), .inr ⟨fun q hq => HF.out.no q (by omega), rfl⟩⟩

end Go.Proofs.Ytgndbifcncklgaa
