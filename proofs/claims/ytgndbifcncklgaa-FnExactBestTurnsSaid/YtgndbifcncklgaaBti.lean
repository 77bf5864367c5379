/-
  Best turns of the program: the machine of bestTurns.
  Conditions: 1 to 3 weights of at least 1, up to 8 slots.
-/
import Derived.ScopeJumps
import Derived.Test.YtgndbifcncklgaaBtm
namespace Go.Proofs.Ytgndbifcncklgaa
open Go.RowKit Go.Shelf
attribute [local go_sem] Oper.semAt_some

/-! ### jumps to several labels -/
section
open Go
/-- As Q; by a goto: J of the label. -/
def jumpB (J : Nat → Act → World → Prop) (Q : Exit → Act → World → Prop) : Exit → Act → World → Prop
  | .goto l, a, w => J l a w
  | e, a, w => Q e a w
variable {P : Program} {a : Act} {w : World} {Q : Exit → Act → World → Prop}
theorem wp_scope_jumpsB {c : Code} (J : Nat → Nat → Act → World → Prop)
    (first : c.wp P (jumpB (fun l a w => ∃ n, J l n a w) Q) a w)
    (pass : ∀ l n a w, J l n a w → ∃ rest, findLabel c l = some rest ∧ rest.wp P (jumpB (fun l' a' w' => ∃ n', n' < n ∧ J l' n' a' w') Q) a w) : (Code.scope c).wp P Q a w := by
  intro b k cs
  have key : ∀ n l a w, J l n a w → ∃ rest, findLabel c l = some rest ∧ ∃ e a' w', Q e a' w' ∧ Arrives P (lone (b.at a (.code rest :: .inScope c :: k)) cs w) b k cs e a' w' := by
    intro n
    induction n using Nat.strongRecOn with
    | _ n ih =>
      intro l a w hJ
      obtain ⟨rest, hf, hp⟩ := pass l n a w hJ
      refine ⟨rest, hf, ?_⟩
      obtain ⟨e, a₁, w₁, hq, harr⟩ := hp b (.inScope c :: k) cs
      cases e with
      | normal => exact ⟨.normal, a₁, w₁, hq, Steps.trans harr (.one step_inScope)⟩
      | exit id => exact ⟨.exit id, a₁, w₁, hq, fun k' hk => harr k' (by simp [exitTo, hk])⟩
      | goto l' =>
        obtain ⟨n', hlt, hJ'⟩ := hq
        obtain ⟨rest', hf', e₂, a₂, w₂, hq₂, harr₂⟩ := ih n' hlt l' a₁ w₁ hJ'
        have hg : gotoIn l' (.inScope c :: k) = some (.code rest' :: .inScope c :: k) := by simp [gotoIn, hf']
        exact ⟨e₂, a₂, w₂, hq₂, .of_steps (harr _ hg) harr₂⟩
      | ret => exact ⟨_, a₁, w₁, hq, harr⟩
      | panic ch => exact ⟨_, a₁, w₁, hq, harr⟩
      | outgrown => exact ⟨_, a₁, w₁, hq, harr⟩
  obtain ⟨e, a₁, w₁, hq, harr⟩ := first b (.inScope c :: k) cs
  cases e with
  | normal => exact ⟨.normal, a₁, w₁, hq, .head step_scope (Steps.trans harr (.one step_inScope))⟩
  | exit id => exact ⟨.exit id, a₁, w₁, hq, fun k' hk => .head step_scope (harr k' (by simp [exitTo, hk]))⟩
  | goto l' =>
    obtain ⟨n', hJ'⟩ := hq
    obtain ⟨rest', hf', e₂, a₂, w₂, hq₂, harr₂⟩ := key n' l' a₁ w₁ hJ'
    have hg : gotoIn l' (.inScope c :: k) = some (.code rest' :: .inScope c :: k) := by simp [gotoIn, hf']
    exact ⟨e₂, a₂, w₂, hq₂, .of_steps (.head step_scope (harr _ hg)) harr₂⟩
  | ret => exact ⟨_, a₁, w₁, hq, .of_steps (.one step_scope) harr⟩
  | panic ch => exact ⟨_, a₁, w₁, hq, .of_steps (.one step_scope) harr⟩
  | outgrown => exact ⟨_, a₁, w₁, hq, .of_steps (.one step_scope) harr⟩
end

/-! ### the machine -/
noncomputable def btBody : Code := match Try.f79.body with | some (.seq _ (.scope c)) => c | _ => .skip
noncomputable def btAt : Code := (findLabel btBody 0).getD .skip
theorem bt_find : findLabel btBody 0 = some btAt := rfl
noncomputable def btTail : Code := match btAt with | .seq .skip c => c | c => c
theorem bt_tail : btAt = .seq .skip btTail := rfl
/-- the digits' part -/
noncomputable def btDig : Code := match btTail with | .seq _ c => c | c => c
def bstL : Bst → List Int
  | none => []
  | some x => x.1
/-- what stands in the world: the tasks tv, the best turns u so far, the variable of the least mean at bL, the row of the turns gt -/
structure MB (w : World) (ws : List Int) (n : Nat) (acc : Bst) (tv u : Value) (gt bL : Nat) (W : World) : Prop where
  tasks : OwnI w.heap.size W tv (twL ws)
  best : OwnI w.heap.size W u (bstL acc)
  least : ∃ x y : Nat, Box2 W bL 76 (.int .i64 (x : Int)) (.int .i64 (y : Int)) ∧ ∀ z, acc = some z → x = lowN z.2 (n * wtTo (wQ ws) ws.length) ∧ y = lowD z.2 (n * wtTo (wQ ws) ws.length)
  below : Below w.heap.size w W
  bl : w.heap.size ≤ bL
  tg : tv.ownBlock ≠ some gt
  ug : u.ownBlock ≠ some gt
  lg : bL ≠ gt
theorem own_ne_frac {B b : Nat} {W : World} {v x y : Value} {zs : List Int} (h : OwnI B W v zs) (hb : Box2 W b 76 x y) : v.ownBlock ≠ some b := fun e => by
  obtain ⟨_, h2⟩ := h
  have hb' : W.heap[b]? = _ := hb
  rcases h2 with ⟨e2, _⟩ | ⟨g, cap, cur, e2, _, hh, _⟩
  · rw [e2] at e; simp [Value.ownBlock] at e
  · rw [e2] at e; simp [Value.ownBlock] at e; subst e; rw [hb'] at hh; simp at hh
theorem MB.kept {w W W' : World} {ws : List Int} {n : Nat} {acc : Bst} {tv u : Value} {gt bL : Nat} (h : MB w ws n acc tv u gt bL W) (hgt : w.heap.size ≤ gt) (hg : W.grownBy W' (some gt)) : MB w ws n acc tv u gt bL W' := by
  obtain ⟨x, y, h1, h2⟩ := h.least
  exact ⟨h.tasks.kept hg (.inr h.tg), h.best.kept hg (.inr h.ug), ⟨x, y, h1.kept hg (by simp; exact h.lg), h2⟩, h.below.grown hg h.below.size (fun j e => by cases e; exact hgt), h.bl, h.tg, h.ug, h.lg⟩
theorem MB.later {w W W' : World} {ws : List Int} {n : Nat} {acc : Bst} {tv u : Value} {gt bL : Nat} (h : MB w ws n acc tv u gt bL W) (hb : Below W.heap.size W W') : MB w ws n acc tv u gt bL W' := by
  obtain ⟨x, y, h1, h2⟩ := h.least
  exact ⟨h.tasks.below hb, h.best.below hb, ⟨x, y, h1.later hb, h2⟩, h.below.trans (hb.mono h.below.size), h.bl, h.tg, h.ug, h.lg⟩

def InvM (w : World) (a : Option Addr) (cap : Nat) (ws : List Int) (n r : Nat) (a' : Act) (W : World) : Prop :=
  ∃ (m : Nat) (tv u : Value) (gt bL : Nat) (u2 u3 u9 u10 u11 u12 u13 u14 u15 u16 u17 u18 u19 u20 u21 u22 u23 u24 u25 u26 u27 u28 u29 u30 u31 u32 u33 u34 u35 u36 u37 u38 u39 u40 u41 u42 u43 u44 u45 u46 u47 u48 u49 u50 u51 u52 u53 u54 u55 : Value), (MB w ws n (segB ws n 0 m) tv u gt bL W ∧ OwnI w.heap.size W (.slice (some ⟨gt, 0, none⟩) n n) (dig ws.length n m) ∧ m < ws.length ^ n ∧ r = ws.length ^ n - m) ∧ a' = { tmps := #[.slice a ws.length cap, .int .i64 (n : Int), u2, u3, .slice none 0 0, tv, .slice (some ⟨gt, 0, none⟩) n n, u, .pointer (some ⟨bL, 0, none⟩), u9, u10, u11, u12, u13, u14, u15, u16, u17, u18, u19, u20, u21, u22, u23, u24, u25, u26, u27, u28, u29, u30, u31, u32, u33, u34, u35, u36, u37, u38, u39, u40, u41, u42, u43, u44, u45, u46, u47, u48, u49, u50, u51, u52, u53, u54, u55], defers := [] }
theorem InvM.elim {w : World} {a : Option Addr} {cap : Nat} {ws : List Int} {n r : Nat} {a' : Act} {W : World} {p : Act → Prop} (hI : InvM w a cap ws n r a' W)
    (hp : ∀ (m : Nat) (tv u : Value) (gt bL : Nat) (u2 u3 u9 u10 u11 u12 u13 u14 u15 u16 u17 u18 u19 u20 u21 u22 u23 u24 u25 u26 u27 u28 u29 u30 u31 u32 u33 u34 u35 u36 u37 u38 u39 u40 u41 u42 u43 u44 u45 u46 u47 u48 u49 u50 u51 u52 u53 u54 u55 : Value), (MB w ws n (segB ws n 0 m) tv u gt bL W ∧ OwnI w.heap.size W (.slice (some ⟨gt, 0, none⟩) n n) (dig ws.length n m) ∧ m < ws.length ^ n ∧ r = ws.length ^ n - m) → p { tmps := #[.slice a ws.length cap, .int .i64 (n : Int), u2, u3, .slice none 0 0, tv, .slice (some ⟨gt, 0, none⟩) n n, u, .pointer (some ⟨bL, 0, none⟩), u9, u10, u11, u12, u13, u14, u15, u16, u17, u18, u19, u20, u21, u22, u23, u24, u25, u26, u27, u28, u29, u30, u31, u32, u33, u34, u35, u36, u37, u38, u39, u40, u41, u42, u43, u44, u45, u46, u47, u48, u49, u50, u51, u52, u53, u54, u55], defers := [] }) : p a' :=
  Exists.elim hI fun m hI => Exists.elim hI fun tv hI => Exists.elim hI fun u hI => Exists.elim hI fun gt hI => Exists.elim hI fun bL hI => Exists.elim hI fun u2 hI => Exists.elim hI fun u3 hI => Exists.elim hI fun u9 hI => Exists.elim hI fun u10 hI => Exists.elim hI fun u11 hI => Exists.elim hI fun u12 hI => Exists.elim hI fun u13 hI => Exists.elim hI fun u14 hI => Exists.elim hI fun u15 hI => Exists.elim hI fun u16 hI => Exists.elim hI fun u17 hI => Exists.elim hI fun u18 hI => Exists.elim hI fun u19 hI => Exists.elim hI fun u20 hI => Exists.elim hI fun u21 hI => Exists.elim hI fun u22 hI => Exists.elim hI fun u23 hI => Exists.elim hI fun u24 hI => Exists.elim hI fun u25 hI => Exists.elim hI fun u26 hI => Exists.elim hI fun u27 hI => Exists.elim hI fun u28 hI => Exists.elim hI fun u29 hI => Exists.elim hI fun u30 hI => Exists.elim hI fun u31 hI => Exists.elim hI fun u32 hI => Exists.elim hI fun u33 hI => Exists.elim hI fun u34 hI => Exists.elim hI fun u35 hI => Exists.elim hI fun u36 hI => Exists.elim hI fun u37 hI => Exists.elim hI fun u38 hI => Exists.elim hI fun u39 hI => Exists.elim hI fun u40 hI => Exists.elim hI fun u41 hI => Exists.elim hI fun u42 hI => Exists.elim hI fun u43 hI => Exists.elim hI fun u44 hI => Exists.elim hI fun u45 hI => Exists.elim hI fun u46 hI => Exists.elim hI fun u47 hI => Exists.elim hI fun u48 hI => Exists.elim hI fun u49 hI => Exists.elim hI fun u50 hI => Exists.elim hI fun u51 hI => Exists.elim hI fun u52 hI => Exists.elim hI fun u53 hI => Exists.elim hI fun u54 hI => Exists.elim hI fun u55 hI => by
    obtain ⟨hf, rfl⟩ := hI
    exact hp _ _ _ _ _ _ _ _ _ _ _ _ _ _ _ _ _ _ _ _ _ _ _ _ _ _ _ _ _ _ _ _ _ _ _ _ _ _ _ _ _ _ _ _ _ _ _ _ _ _ _ _ _ _ hf
theorem InvM.of {w : World} {a : Option Addr} {cap : Nat} {ws : List Int} {n r : Nat} {W : World} (m : Nat) (tv u : Value) (gt bL : Nat) {u2 u3 u9 u10 u11 u12 u13 u14 u15 u16 u17 u18 u19 u20 u21 u22 u23 u24 u25 u26 u27 u28 u29 u30 u31 u32 u33 u34 u35 u36 u37 u38 u39 u40 u41 u42 u43 u44 u45 u46 u47 u48 u49 u50 u51 u52 u53 u54 u55 : Value} (hf : MB w ws n (segB ws n 0 m) tv u gt bL W ∧ OwnI w.heap.size W (.slice (some ⟨gt, 0, none⟩) n n) (dig ws.length n m) ∧ m < ws.length ^ n ∧ r = ws.length ^ n - m) : InvM w a cap ws n r { tmps := #[.slice a ws.length cap, .int .i64 (n : Int), u2, u3, .slice none 0 0, tv, .slice (some ⟨gt, 0, none⟩) n n, u, .pointer (some ⟨bL, 0, none⟩), u9, u10, u11, u12, u13, u14, u15, u16, u17, u18, u19, u20, u21, u22, u23, u24, u25, u26, u27, u28, u29, u30, u31, u32, u33, u34, u35, u36, u37, u38, u39, u40, u41, u42, u43, u44, u45, u46, u47, u48, u49, u50, u51, u52, u53, u54, u55], defers := [] } W :=
  ⟨m, tv, u, gt, bL, u2, u3, u9, u10, u11, u12, u13, u14, u15, u16, u17, u18, u19, u20, u21, u22, u23, u24, u25, u26, u27, u28, u29, u30, u31, u32, u33, u34, u35, u36, u37, u38, u39, u40, u41, u42, u43, u44, u45, u46, u47, u48, u49, u50, u51, u52, u53, u54, u55, hf, rfl⟩

/-- .. behind the look -/
def InvD (w : World) (a : Option Addr) (cap : Nat) (ws : List Int) (n r : Nat) (a' : Act) (W : World) : Prop :=
  ∃ (m : Nat) (tv u : Value) (gt bL : Nat) (u2 u3 u9 u10 u11 u12 u13 u14 u15 u16 u17 u18 u19 u20 u21 u22 u23 u24 u25 u26 u27 u28 u29 u30 u31 u32 u33 u34 u35 u36 u37 u38 u39 u40 u41 u42 u43 u44 u45 u46 u47 u48 u49 u50 u51 u52 u53 u54 u55 : Value), (MB w ws n (segB ws n 0 (m + 1)) tv u gt bL W ∧ OwnI w.heap.size W (.slice (some ⟨gt, 0, none⟩) n n) (dig ws.length n m) ∧ m < ws.length ^ n ∧ r = ws.length ^ n - m) ∧ a' = { tmps := #[.slice a ws.length cap, .int .i64 (n : Int), u2, u3, .slice none 0 0, tv, .slice (some ⟨gt, 0, none⟩) n n, u, .pointer (some ⟨bL, 0, none⟩), u9, u10, u11, u12, u13, u14, u15, u16, u17, u18, u19, u20, u21, u22, u23, u24, u25, u26, u27, u28, u29, u30, u31, u32, u33, u34, u35, u36, u37, u38, u39, u40, u41, u42, u43, u44, u45, u46, u47, u48, u49, u50, u51, u52, u53, u54, u55], defers := [] }
theorem InvD.elim {w : World} {a : Option Addr} {cap : Nat} {ws : List Int} {n r : Nat} {a' : Act} {W : World} {p : Act → Prop} (hI : InvD w a cap ws n r a' W)
    (hp : ∀ (m : Nat) (tv u : Value) (gt bL : Nat) (u2 u3 u9 u10 u11 u12 u13 u14 u15 u16 u17 u18 u19 u20 u21 u22 u23 u24 u25 u26 u27 u28 u29 u30 u31 u32 u33 u34 u35 u36 u37 u38 u39 u40 u41 u42 u43 u44 u45 u46 u47 u48 u49 u50 u51 u52 u53 u54 u55 : Value), (MB w ws n (segB ws n 0 (m + 1)) tv u gt bL W ∧ OwnI w.heap.size W (.slice (some ⟨gt, 0, none⟩) n n) (dig ws.length n m) ∧ m < ws.length ^ n ∧ r = ws.length ^ n - m) → p { tmps := #[.slice a ws.length cap, .int .i64 (n : Int), u2, u3, .slice none 0 0, tv, .slice (some ⟨gt, 0, none⟩) n n, u, .pointer (some ⟨bL, 0, none⟩), u9, u10, u11, u12, u13, u14, u15, u16, u17, u18, u19, u20, u21, u22, u23, u24, u25, u26, u27, u28, u29, u30, u31, u32, u33, u34, u35, u36, u37, u38, u39, u40, u41, u42, u43, u44, u45, u46, u47, u48, u49, u50, u51, u52, u53, u54, u55], defers := [] }) : p a' :=
  Exists.elim hI fun m hI => Exists.elim hI fun tv hI => Exists.elim hI fun u hI => Exists.elim hI fun gt hI => Exists.elim hI fun bL hI => Exists.elim hI fun u2 hI => Exists.elim hI fun u3 hI => Exists.elim hI fun u9 hI => Exists.elim hI fun u10 hI => Exists.elim hI fun u11 hI => Exists.elim hI fun u12 hI => Exists.elim hI fun u13 hI => Exists.elim hI fun u14 hI => Exists.elim hI fun u15 hI => Exists.elim hI fun u16 hI => Exists.elim hI fun u17 hI => Exists.elim hI fun u18 hI => Exists.elim hI fun u19 hI => Exists.elim hI fun u20 hI => Exists.elim hI fun u21 hI => Exists.elim hI fun u22 hI => Exists.elim hI fun u23 hI => Exists.elim hI fun u24 hI => Exists.elim hI fun u25 hI => Exists.elim hI fun u26 hI => Exists.elim hI fun u27 hI => Exists.elim hI fun u28 hI => Exists.elim hI fun u29 hI => Exists.elim hI fun u30 hI => Exists.elim hI fun u31 hI => Exists.elim hI fun u32 hI => Exists.elim hI fun u33 hI => Exists.elim hI fun u34 hI => Exists.elim hI fun u35 hI => Exists.elim hI fun u36 hI => Exists.elim hI fun u37 hI => Exists.elim hI fun u38 hI => Exists.elim hI fun u39 hI => Exists.elim hI fun u40 hI => Exists.elim hI fun u41 hI => Exists.elim hI fun u42 hI => Exists.elim hI fun u43 hI => Exists.elim hI fun u44 hI => Exists.elim hI fun u45 hI => Exists.elim hI fun u46 hI => Exists.elim hI fun u47 hI => Exists.elim hI fun u48 hI => Exists.elim hI fun u49 hI => Exists.elim hI fun u50 hI => Exists.elim hI fun u51 hI => Exists.elim hI fun u52 hI => Exists.elim hI fun u53 hI => Exists.elim hI fun u54 hI => Exists.elim hI fun u55 hI => by
    obtain ⟨hf, rfl⟩ := hI
    exact hp _ _ _ _ _ _ _ _ _ _ _ _ _ _ _ _ _ _ _ _ _ _ _ _ _ _ _ _ _ _ _ _ _ _ _ _ _ _ _ _ _ _ _ _ _ _ _ _ _ _ _ _ _ _ hf
theorem InvD.of {w : World} {a : Option Addr} {cap : Nat} {ws : List Int} {n r : Nat} {W : World} (m : Nat) (tv u : Value) (gt bL : Nat) {u2 u3 u9 u10 u11 u12 u13 u14 u15 u16 u17 u18 u19 u20 u21 u22 u23 u24 u25 u26 u27 u28 u29 u30 u31 u32 u33 u34 u35 u36 u37 u38 u39 u40 u41 u42 u43 u44 u45 u46 u47 u48 u49 u50 u51 u52 u53 u54 u55 : Value} (hf : MB w ws n (segB ws n 0 (m + 1)) tv u gt bL W ∧ OwnI w.heap.size W (.slice (some ⟨gt, 0, none⟩) n n) (dig ws.length n m) ∧ m < ws.length ^ n ∧ r = ws.length ^ n - m) : InvD w a cap ws n r { tmps := #[.slice a ws.length cap, .int .i64 (n : Int), u2, u3, .slice none 0 0, tv, .slice (some ⟨gt, 0, none⟩) n n, u, .pointer (some ⟨bL, 0, none⟩), u9, u10, u11, u12, u13, u14, u15, u16, u17, u18, u19, u20, u21, u22, u23, u24, u25, u26, u27, u28, u29, u30, u31, u32, u33, u34, u35, u36, u37, u38, u39, u40, u41, u42, u43, u44, u45, u46, u47, u48, u49, u50, u51, u52, u53, u54, u55], defers := [] } W :=
  ⟨m, tv, u, gt, bL, u2, u3, u9, u10, u11, u12, u13, u14, u15, u16, u17, u18, u19, u20, u21, u22, u23, u24, u25, u26, u27, u28, u29, u30, u31, u32, u33, u34, u35, u36, u37, u38, u39, u40, u41, u42, u43, u44, u45, u46, u47, u48, u49, u50, u51, u52, u53, u54, u55, hf, rfl⟩

def JB (w : World) (a : Option Addr) (cap : Nat) (ws : List Int) (n : Nat) : Nat → Nat → Act → World → Prop
  | 0, r, a', W => InvM w a cap ws n r a' W
  | _, _, _, _ => False
/-- what is asked at the end: the function returns -/
def endB (R : Act → World → Prop) : Exit → Act → World → Prop
  | .ret, a, w => R a w
  | _, _, _ => False

set_option maxRecDepth 100000 in
set_option maxHeartbeats 16000000 in
theorem dig_c (w : World) (a : Option Addr) (cap : Nat) (ws : List Int) (n : Nat) (R : Act → World → Prop) (r : Nat) (a' : Act) (W : World) (hl : 1 ≤ ws.length ∧ ws.length ≤ 8) (hn : 1 ≤ n ∧ n ≤ 8) (hJ : InvD w a cap ws n r a' W)
    (hQ : ∀ (a' : Act) (W : World) (u : Value), a'.tmps.getD 4 undef = u → a'.defers = [] → OwnI w.heap.size W u (bstL (segB ws n 0 (ws.length ^ n))) → Below w.heap.size w W → R a' W) :
    btDig.wp Try.prog (jumpB (fun l' a' w' => ∃ n', n' < r ∧ JB w a cap ws n l' n' a' w') (endB R)) a' W := by
  unfold btDig btTail btAt btBody
  simp only [Try.f79, findLabel, Option.getD, if_true, beq_self_eq_true]
  apply InvD.elim hJ
  clear hJ a'
  intro m tv u gt bL
  intros
  rename_i hf
  obtain ⟨hM, hrow, hm, hr⟩ := hf
  have hgt := (hrow.blk gt rfl).1
  have HM := Lib.hid hM
  have Hr := Lib.hid hr
  have Hm := Lib.hid hm
  have HQ := Lib.hid hQ
  clear hM hr hm hQ
  obtain ⟨K, hK⟩ : ∃ K, ws.length = K := ⟨_, rfl⟩
  rw [hK] at hl hrow ⊢
  have HK := Lib.hid hK
  clear hK
  go_wp2
  go_loopw [10] (fun s wr => ∃ j x : Nat, j ≤ n ∧ s = .int .i64 ((n : Int) - 1 - j) ∧ OwnI w.heap.size wr (.slice (some ⟨gt, 0, none⟩) n n) (dig K (n - j) x ++ List.replicate j 0) ∧ m + 1 = (x + 1) * K ^ j ∧ x < K ^ (n - j) ∧ MB w ws n (segB ws n 0 (m + 1)) tv u gt bL wr) (fun s _ => (intOf s + 1).toNat)
  case atStart => exact ⟨0, m, Nat.zero_le _, by simp, by simpa using hrow, by simp, by rw [← HK.out]; exact Hm.out, HM.out⟩
  case round =>
    obtain ⟨j, x, hj, rfl, hok, hmx, hxl, hMB⟩ := hrel
    clear hrow
    have HMB := Lib.hid hMB
    have Hmx := Lib.hid hmx
    have Hxl := Lib.hid hxl
    clear hMB hmx hxl
    by_cases hjn : j < n
    · obtain ⟨q, hq⟩ : ∃ q, n - 1 - j = q := ⟨_, rfl⟩
      have hqi : (n : Int) - 1 - j = (q : Int) := by omega
      have hnj : n - j = q + 1 := by omega
      rw [hnj] at hok
      have hlen : (dig K (q + 1) x ++ List.replicate j 0).length = n := by rw [List.length_append, dig_len]; simp; omega
      have c0 := hok.cellAt (j := q) (by rw [hlen]; omega)
      rw [dig_last] at c0
      have f0 := hok.frozen q
      have hd : x % K < K := Nat.mod_lt _ (by omega)
      obtain ⟨d, hdq⟩ : ∃ d, x % K = d := ⟨_, rfl⟩
      rw [hdq] at c0 hd
      have Hd := Lib.hid hdq
      have hqn : (q : Int) < (n : Int) := by omega
      have hq0 : (0 : Int) ≤ (q : Int) := by omega
      rw [hqi]
      clear hdq hlen
      by_cases hup : d + 1 < K
      · have hui : (d : Int) + 1 < (K : Int) := by omega
        obtain ⟨r1, r2⟩ := hok.stored q ((d : Int) + 1)
        have hM2 := HMB.out.kept hgt r2
        have hup2 := dig_up (K := K) (q := q) (x := x) (j := j) (by rw [Hd.out]; exact hup)
        rw [Hd.out] at hup2
        rw [hup2] at r1
        have hlt2 := up_lt (K := K) (n := n) (j := j) (x := x) (by omega) (by omega) Hxl.out (by rw [Hd.out]; exact hup)
        have e1 : dig K (q + 1) (x + 1) ++ List.replicate j 0 = dig K n (m + 1) := by rw [Hmx.out, ← dig_mul (by omega) (q + 1) (x + 1) j, show q + 1 + j = n by omega]
        rw [e1] at r1
        rw [← Hmx.out] at hlt2
        have HF := Lib.hid (show MB w ws n (segB ws n 0 (m + 1)) tv u gt bL (wr.setCell ⟨gt, q, none⟩ (.int .i64 ((d : Int) + 1))) ∧ OwnI w.heap.size (wr.setCell ⟨gt, q, none⟩ (.int .i64 ((d : Int) + 1))) (.slice (some ⟨gt, 0, none⟩) n n) (dig ws.length n (m + 1)) ∧ m + 1 < ws.length ^ n ∧ ws.length ^ n - (m + 1) = ws.length ^ n - (m + 1) from ⟨hM2, by rw [HK.out]; exact r1, by rw [HK.out]; exact hlt2, rfl⟩)
        clear hM2 r1 r2 hup2 e1 hlt2 hok
        go_wp2
        refine wp_goto ?_
        have hk := HK.out
        subst hk
        refine ⟨ws.length ^ n - (m + 1), by have := Hr.out; have := Hm.out; omega, ?_⟩
        exact InvM.of (m + 1) tv u gt bL ⟨HF.out.1, HF.out.2.1, HF.out.2.2.1, rfl⟩
      · have hui : ¬ (d : Int) + 1 < (K : Int) := by omega
        obtain ⟨r1, r2⟩ := hok.stored q 0
        have hov := over_next (K := K) (x := x) (by rw [Hd.out]; omega)
        rw [dig_over] at r1
        have hM2 := HMB.out.kept hgt r2
        have hxk : x / K < K ^ q := by
          have h1 := Hxl.out
          rw [hnj, Nat.pow_succ] at h1
          exact (Nat.div_lt_iff_lt_mul (by omega)).2 h1
        have hm2 : m + 1 = (x / K + 1) * K ^ (j + 1) := by rw [Hmx.out, hov, Nat.pow_succ, Nat.mul_assoc, Nat.mul_comm K]
        have HF := Lib.hid (show OwnI w.heap.size (wr.setCell ⟨gt, q, none⟩ (.int .i64 0)) (.slice (some ⟨gt, 0, none⟩) n n) (dig K (n - (j + 1)) (x / K) ++ List.replicate (j + 1) 0) ∧ m + 1 = (x / K + 1) * K ^ (j + 1) ∧ x / K < K ^ (n - (j + 1)) ∧ MB w ws n (segB ws n 0 (m + 1)) tv u gt bL (wr.setCell ⟨gt, q, none⟩ (.int .i64 0)) from ⟨by rw [show n - (j + 1) = q by omega]; exact r1, hm2, by rw [show n - (j + 1) = q by omega]; exact hxk, hM2⟩)
        clear hM2 r1 r2 hok hov hxk hm2
        go_wp2
        go_roundw
        case rel => exact ⟨j + 1, x / K, by omega, by congr 1; omega, HF.out⟩
        case measure => first | (simp [intOf]; done) | (simp [intOf]; omega)
    · obtain rfl : j = n := by omega
      have hneg : ¬ (0 : Int) ≤ (j : Int) - 1 - j := by omega
      have hall : m + 1 = ws.length ^ j := by
        have h1 := Hxl.out
        have h2 := Hmx.out
        rw [Nat.sub_self, Nat.pow_zero] at h1
        obtain rfl : x = 0 := by omega
        rw [h2, HK.out]; simp
      have hMe := HMB.out
      rw [hall] at hMe
      have HE := Lib.hid hMe
      clear hall hMe hok
      go_wp2
      show R _ _
      exact HQ.out _ _ u rfl rfl HE.out.best HE.out.below

set_option maxRecDepth 100000 in
set_option maxHeartbeats 16000000 in
theorem look_c (w : World) (a : Option Addr) (cap : Nat) (ws : List Int) (n : Nat) (R : Act → World → Prop) (r : Nat) (a' : Act) (W : World) (hI : Ints w.heap.size w (.slice a ws.length cap) ws) (hW : Wgt ws 0) (hn : 1 ≤ n ∧ n ≤ 8) (hJ : InvM w a cap ws n r a' W)
    (hQ : ∀ (a' : Act) (W : World) (u : Value), a'.tmps.getD 4 undef = u → a'.defers = [] → OwnI w.heap.size W u (bstL (segB ws n 0 (ws.length ^ n))) → Below w.heap.size w W → R a' W) :
    btTail.wp Try.prog (jumpB (fun l' a' w' => ∃ n', n' < r ∧ JB w a cap ws n l' n' a' w') (endB R)) a' W := by
  have hl := hW.len
  have hdig := fun a1 W1 (h : InvD w a cap ws n r a1 W1) => dig_c w a cap ws n R r a1 W1 hl hn h hQ
  unfold btDig btTail btAt btBody at hdig
  unfold btTail btAt btBody
  simp only [Try.f79, findLabel, Option.getD, if_true, beq_self_eq_true] at hdig ⊢
  have Hdig := Lib.hid hdig
  clear hdig hQ
  apply InvM.elim hJ
  clear hJ a'
  intro m tv u gt bL
  intros
  rename_i hf
  obtain ⟨hM, hrow, hm, hr⟩ := hf
  have hgt := (hrow.blk gt rfl).1
  have HM := Lib.hid hM
  have Hr := Lib.hid hr
  have Hm := Lib.hid hm
  have Hrow := Lib.hid hrow
  have HW := Lib.hid hW
  have HBd := Lib.hid (wBd (ts := dig ws.length n m) (by rw [dig_len]; omega) hW)
  have hsz := hM.below.size
  obtain ⟨at_, ct_, hte⟩ := hM.tasks.ints.shape
  subst hte
  have Htl := Lib.hid (show (twL ws).length ≤ 8 by have := twTo_len ws ws.length; unfold twL; omega)
  have Hseg := Lib.hid (show segB ws n 0 (m + 1) = comb (segB ws n 0 m) (leafB ws (dig ws.length n m)) by simp only [segB, Nat.zero_add])
  have hrI : Ints W.heap.size W (.slice (some ⟨gt, 0, none⟩) n n) (dig ws.length n m) := hrow.ints
  clear hM hr hm hW hrow
  refine wp_seq_k fun Kq hKq => ?_
  have HKq := Lib.hid hKq
  clear hKq
  cases hh : hasAll (dig ws.length n m) (twL ws)
  · have Hh := Lib.hid hh
    have Hs2 := Lib.hid (show segB ws n 0 (m + 1) = segB ws n 0 m by rw [Hseg.out]; unfold leafB; rw [hh]; exact comb_none _)
    clear hh
    go_wp2_with fail
    refine (haveTurns_c _ _ (dig ws.length n m) (twL ws) _ hrI HM.out.tasks.ints (by rw [dig_len]; omega) (by have := Htl.out; omega)).mono ?_
    rintro e w1 ⟨he, hb⟩
    rw [Hh.out] at he
    subst he
    have HM1 := Lib.hid (HM.out.later hb)
    have Hrow1 := Lib.hid (Hrow.out.below hb)
    clear hb
    go_wp2_with fail
    exact HKq.out _ _ (Hdig.out _ _ (InvD.of m _ u gt bL ⟨by rw [Hs2.out]; exact HM1.out, Hrow1.out, Hm.out, Hr.out⟩))
  · have Hh := Lib.hid hh
    have hlf : leafB ws (dig ws.length n m) = some (dig ws.length n m, suB (wS (dig ws.length n m)) (wQ ws) ws.length) := by unfold leafB; rw [hh]; rfl
    have Hlf := Lib.hid hlf
    clear hh hlf
    go_wp2_with fail
    refine (haveTurns_c _ _ (dig ws.length n m) (twL ws) _ hrI HM.out.tasks.ints (by rw [dig_len]; omega) (by have := Htl.out; omega)).mono ?_
    rintro e w1 ⟨he, hb⟩
    rw [Hh.out] at he
    subst he
    have HM1 := Lib.hid (HM.out.later hb)
    have Hrow1 := Lib.hid (Hrow.out.below hb)
    have hrI1 := Hrow1.out.ints
    clear hb hrI
    go_wp2_with fail
    refine (meanByWeights_c _ _ (dig ws.length n m) ws _ hrI1 (hI.later HM1.out.below) (by rw [dig_len]; omega) HW.out).mono ?_
    rintro e w2 ⟨rfl, hb⟩
    have HM2 := Lib.hid (HM1.out.later hb)
    have Hrow2 := Lib.hid (Hrow1.out.below hb)
    clear hb hrI1
    have hdl : (dig ws.length n m).length = n := dig_len _ _ _
    rw [hdl]
    have hx := HBd.out.x ws.length (Nat.le_refl _)
    have htt := HBd.out.t ws.length (Nat.le_refl _)
    have htp := HBd.out.tpos
    obtain ⟨sN, hsN⟩ : ∃ sN, suB (wS (dig ws.length n m)) (wQ ws) ws.length = sN := ⟨_, rfl⟩
    obtain ⟨D, hD⟩ : ∃ D, n * wtTo (wQ ws) ws.length = D := ⟨_, rfl⟩
    rw [hsN] at hx ⊢
    rw [hD]
    have hDp : 0 < D := by rw [← hD]; exact Nat.mul_pos (by omega) htp
    have hDb : D ≤ 8 * 800 := by rw [← hD]; exact Nat.mul_le_mul hn.2 htt
    obtain ⟨p, hp⟩ : ∃ p, lowN sN D = p := ⟨_, rfl⟩
    obtain ⟨q, hq⟩ : ∃ q, lowD sN D = q := ⟨_, rfl⟩
    have hpb : p ≤ 11520000 := by rw [← hp]; exact Nat.le_trans (lowN_le _ _) hx
    have hqb : q ≤ 6400 := by rw [← hq]; exact Nat.le_trans (lowD_le _ _) hDb
    have Hp := Lib.hid (show lowN sN (n * wtTo (wQ ws) ws.length) = p by rw [hD]; exact hp)
    have Hq := Lib.hid (show lowD sN (n * wtTo (wQ ws) ws.length) = q by rw [hD]; exact hq)
    have HsN := Lib.hid hsN
    have HD := Lib.hid hD
    rw [hp, hq]
    have hlt1 : ∀ c, lowN sN D * lowD c D < lowN c D * lowD sN D ↔ sN < c := fun c => low_lt hDp
    rw [hp, hq] at hlt1
    have Hlt1 := Lib.hid hlt1
    clear hp hq hsN hD hlt1 hdl htt htp
    have hfw : Try.prog.follows Departure.mixedOrders = true := by kernel_rfl
    obtain ⟨W3, hW3⟩ : ∃ W3, w2.alloc (.cells #[.int .i64 (p : Int), .int .i64 (q : Int)] 76) = W3 := ⟨_, rfl⟩
    have bN : Box2 W3 w2.heap.size 76 (.int .i64 (p : Int)) (.int .i64 (q : Int)) := by rw [← hW3]; exact Box2.new _ _ _ _
    have hb3 : Below w2.heap.size w2 W3 := by rw [← hW3]; exact (Below.refl _ _).alloc (Nat.le_refl _) _
    have HM3 := Lib.hid (HM2.out.later hb3)
    have Hrow3 := Lib.hid (Hrow2.out.below hb3)
    have hNl := bN.lt
    have HW3 := Lib.hid hW3
    clear hW3 hb3
    have hbl2 : bL < w2.heap.size := by obtain ⟨x, y, h1, _⟩ := HM2.out.least; exact h1.lt
    cases hacc : segB ws n 0 m with
    | none =>
      have Hnew := Lib.hid (show segB ws n 0 (m + 1) = some (dig ws.length n m, sN) by rw [Hseg.out, hacc, Hlf.out, HsN.out]; rfl)
      obtain ⟨au, cu, hue⟩ := HM3.out.best.ints.shape
      rw [hacc] at hue
      simp only [bstL, List.length_nil] at hue
      subst hue
      clear hacc
      go_wp2_with fail
      rw [HW3.out]
      have hcl := Hrow3.out.ints
      have hbd : Below W3.heap.size W3 W3.drew := (Below.refl _ _).drew
      refine wp_region_held_drew (S := fun w' => Box2 w' w2.heap.size 76 (.int .i64 (p : Int)) (.int .i64 (q : Int))) hfw bN ?_
      intro hS0
      refine wpAnyH_take (i := 0) (v := ?vn10) rfl (by kernel_rfl) (by kernel_rfl) (by kernel_rfl) (fun _ _ _ h => h) (.inl ⟨by first | kernel_rfl | rfl, ?yn10⟩) hS0 ?_
      case yn10 =>
        intro w' hS
        (have k1 := hS.c0; have k2 := hS.c1; clear hS)
        go_simp
        try with_reducible rfl
      refine wpAnyH_take (i := 2) (v := ?vn12) rfl (by kernel_rfl) (by kernel_rfl) (by kernel_rfl) (fun _ _ _ h => h) (.inl ⟨by first | kernel_rfl | rfl, ?yn12⟩) hS0 ?_
      case yn12 =>
        intro w' hS
        (have k1 := hS.c0; have k2 := hS.c1; clear hS)
        go_simp
        try with_reducible rfl
      try simp only [Act.put, List.getElem_toArray, List.getElem_cons_zero, List.getElem_cons_succ, List.setIfInBounds_toArray, List.set_cons_zero, List.set_cons_succ]
      refine wpAnyH_ready (rs := [1]) (by kernel_rfl) (by simp) ?_
      refine AllReadyH.cons rfl (fun K' hK' => ?_) AllReadyH.nil
      rw [if_pos (by first | kernel_rfl | rfl)]
      go_simp
      refine (clone_c _ (dig ws.length n m) _ (hcl.later hbd) (by rw [dig_len]; omega) (by rw [dig_len]; omega)).mono ?_
      rintro e w4 ⟨v, rfl, ho4, hb4⟩
      have hb5 := hbd.trans (hb4.mono hbd.size)
      have hS5 := bN.later hb5
      refine hK'.out _ _ hS5 fun _ => ?_
      clear hK'
      simp only [id]
      refine wpAnyH_take (i := 3) (v := ?vn23) rfl (by kernel_rfl) (by kernel_rfl) (by kernel_rfl) (fun _ _ _ h => h) (.inl ⟨by first | kernel_rfl | rfl, ?yn23⟩) hS5 ?_
      case yn23 =>
        intro w' hS
        (clear hS)
        go_simp
        try with_reducible rfl
      try simp only [Act.put, List.getElem_toArray, List.getElem_cons_zero, List.getElem_cons_succ, List.setIfInBounds_toArray, List.set_cons_zero, List.set_cons_succ]
      have hv1 : ∀ k, v.ownBlock = some k → W3.heap.size ≤ k := fun k e => by have h1 := (ho4.blk k e).1; have h2 := hbd.size; omega
      obtain ⟨x0, y0, hL0, _⟩ := HM3.out.least
      have hL1 := hL0.later hb5
      have hLl := hL0.lt
      have l0 := hL1.c0
      have l1 := hL1.c1
      have f0 := hL1.frozen 0
      have f1 := hL1.frozen 1
      refine wpAnyH_ready (rs := [4]) (by kernel_rfl) (by simp) ?_
      refine AllReadyH.cons rfl (fun K' hK' => ?_) AllReadyH.nil
      rw [if_pos (by first | kernel_rfl | rfl)]
      go_simp
      have hgl := (Hrow3.out.blk gt rfl).2
      have hM4 := HM3.out.later hb5
      have hR4 := Hrow3.out.below hb5
      have g1 := grownBy_setC w4 bL 0 (.int .i64 (p : Int))
      have g2 := grownBy_setC (w4.setCell ⟨bL, 0, none⟩ (.int .i64 (p : Int))) bL 1 (.int .i64 (q : Int))
      have hNb : w2.heap.size ≠ bL := fun e => by have h1 := hbl2; omega
      have tb := own_ne_frac hM4.tasks hL1
      have hM5 : MB w ws n (segB ws n 0 (m + 1)) (.slice at_ (twL ws).length ct_) v gt bL ((w4.setCell ⟨bL, 0, none⟩ (.int .i64 (p : Int))).setCell ⟨bL, 1, none⟩ (.int .i64 (q : Int))) := by
        refine ⟨(hM4.tasks.kept g1 (.inr tb)).kept g2 (.inr tb), ?_, ⟨p, q, (hL1.set0 _).set1 _, fun z hz => ?_⟩, (hM4.below.setCell (p := ⟨bL, 0, none⟩) hM4.bl _).setCell (p := ⟨bL, 1, none⟩) hM4.bl _, hM4.bl, hM4.tg, fun e => ?_, hM4.lg⟩
        · rw [Hnew.out]
          have hvb : v.ownBlock ≠ some bL := fun e => by have := hv1 _ e; omega
          exact ((ho4.base (by have h1 := HM3.out.below.size; have h2 := hbd.size; omega)).kept g1 (.inr hvb)).kept g2 (.inr hvb)
        · rw [Hnew.out] at hz; cases hz; exact ⟨Hp.out.symm, Hq.out.symm⟩
        · have := hv1 _ e; omega
      have hR5 : OwnI w.heap.size ((w4.setCell ⟨bL, 0, none⟩ (.int .i64 (p : Int))).setCell ⟨bL, 1, none⟩ (.int .i64 (q : Int))) (.slice (some ⟨gt, 0, none⟩) n n) (dig ws.length n m) := (hR4.kept g1 (.inr (by simp [Value.ownBlock]; exact fun e => hM4.lg e.symm))).kept g2 (.inr (by simp [Value.ownBlock]; exact fun e => hM4.lg e.symm))
      refine hK'.out _ _ ((hS5.other (i := 0) hNb (.int .i64 (p : Int))).other (i := 1) hNb (.int .i64 (q : Int))) fun _ => ?_
      refine wpAnyH_done (by kernel_rfl) ?_ _
      have HE := Lib.hid (show MB w ws n (segB ws n 0 (m + 1)) (.slice at_ (twL ws).length ct_) v gt bL ((w4.setCell ⟨bL, 0, none⟩ (.int .i64 (p : Int))).setCell ⟨bL, 1, none⟩ (.int .i64 (q : Int))) ∧ OwnI w.heap.size ((w4.setCell ⟨bL, 0, none⟩ (.int .i64 (p : Int))).setCell ⟨bL, 1, none⟩ (.int .i64 (q : Int))) (.slice (some ⟨gt, 0, none⟩) n n) (dig ws.length n m) from ⟨hM5, hR5⟩)
      clear hM5 hR5 hM4 hR4 g1 g2 tb l0 l1 f0 f1 ho4 hb4 hb5 hS0 hS5
      go_wp2
      exact HKq.out _ _ (Hdig.out _ _ (InvD.of m _ v gt bL ⟨HE.out.1, HE.out.2, Hm.out, Hr.out⟩))
    | some z =>
      have hbz := segB_some hacc
      obtain ⟨m2, hm2, hz2, hhz⟩ := hbz
      simp only [Nat.zero_add] at hz2 hhz
      have Bz := wBd (ts := dig ws.length n m2) (by rw [dig_len]; omega) HW.out
      have hxz := Bz.x ws.length (Nat.le_refl _)
      have hz2a : z.1.length = n := by rw [hz2]; exact dig_len _ _ _
      have hz2b : z.2 ≤ 11520000 := by rw [hz2]; have h1 := hxz; simp only; omega
      obtain ⟨x, y, hL, hxy⟩ := HM2.out.least
      obtain ⟨hx1, hy1⟩ := hxy z hacc
      rw [HD.out] at hx1 hy1
      have hl1 := Hlt1.out z.2
      rw [← hx1, ← hy1] at hl1
      have Hl1 := Lib.hid hl1
      have hxb : x ≤ 11520000 := by rw [hx1]; exact Nat.le_trans (lowN_le _ _) hz2b
      have hyb : y ≤ 6400 := by rw [hy1]; exact Nat.le_trans (lowD_le _ _) hDb
      have hpy : p * y ≤ 11520000 * 6400 := Nat.mul_le_mul hpb hyb
      have hxq : x * q ≤ 11520000 * 6400 := Nat.mul_le_mul hxb hqb
      have hL0 := hL.c0
      have hL1 := hL.c1
      obtain ⟨au, cu, hue⟩ := HM3.out.best.ints.shape
      rw [hacc] at hue
      simp only [bstL] at hue
      rw [hz2a] at hue
      subst hue
      have hn0 : ((n : Int) == 0) = false := by simp; omega
      have HL := Lib.hid hL
      have Hacc := Lib.hid hacc
      clear hacc hx1 hy1 hl1 hxz Bz hz2 hhz hz2a hxy hL
      by_cases hcmp : p * y < x * q
      · have Hnew := Lib.hid (show segB ws n 0 (m + 1) = some (dig ws.length n m, sN) by rw [Hseg.out, Hacc.out, Hlf.out, HsN.out]; exact comb_lt (Hl1.out.1 hcmp))
        go_wp2_with fail
        refine (isLess_c p q x y _ true (by simp; omega) (by omega) (by omega)).mono ?_
        rintro e w6 ⟨rfl, hb6⟩
        rw [HW3.out] at hb6
        have HM6 := Lib.hid (HM3.out.later hb6)
        have Hrow6 := Lib.hid (Hrow3.out.below hb6)
        have bN6 := bN.later hb6
        clear hb6 hL0 hL1
        go_wp2_with fail
        have hcl := Hrow6.out.ints
        have hbd : Below w6.heap.size w6 w6.drew := (Below.refl _ _).drew
        refine wp_region_held_drew (S := fun w' => Box2 w' w2.heap.size 76 (.int .i64 (p : Int)) (.int .i64 (q : Int))) hfw bN6 ?_
        intro hS0
        refine wpAnyH_take (i := 0) (v := ?vs10) rfl (by kernel_rfl) (by kernel_rfl) (by kernel_rfl) (fun _ _ _ h => h) (.inl ⟨by first | kernel_rfl | rfl, ?ys10⟩) hS0 ?_
        case ys10 =>
          intro w' hS
          (have k1 := hS.c0; have k2 := hS.c1; clear hS)
          go_simp
          try with_reducible rfl
        refine wpAnyH_take (i := 2) (v := ?vs12) rfl (by kernel_rfl) (by kernel_rfl) (by kernel_rfl) (fun _ _ _ h => h) (.inl ⟨by first | kernel_rfl | rfl, ?ys12⟩) hS0 ?_
        case ys12 =>
          intro w' hS
          (have k1 := hS.c0; have k2 := hS.c1; clear hS)
          go_simp
          try with_reducible rfl
        try simp only [Act.put, List.getElem_toArray, List.getElem_cons_zero, List.getElem_cons_succ, List.setIfInBounds_toArray, List.set_cons_zero, List.set_cons_succ]
        refine wpAnyH_ready (rs := [1]) (by kernel_rfl) (by simp) ?_
        refine AllReadyH.cons rfl (fun K' hK' => ?_) AllReadyH.nil
        rw [if_pos (by first | kernel_rfl | rfl)]
        go_simp
        refine (clone_c _ (dig ws.length n m) _ (hcl.later hbd) (by rw [dig_len]; omega) (by rw [dig_len]; omega)).mono ?_
        rintro e w4 ⟨v, rfl, ho4, hb4⟩
        have hb5 := hbd.trans (hb4.mono hbd.size)
        have hS5 := bN6.later hb5
        refine hK'.out _ _ hS5 fun _ => ?_
        clear hK'
        simp only [id]
        refine wpAnyH_take (i := 3) (v := ?vs23) rfl (by kernel_rfl) (by kernel_rfl) (by kernel_rfl) (fun _ _ _ h => h) (.inl ⟨by first | kernel_rfl | rfl, ?ys23⟩) hS5 ?_
        case ys23 =>
          intro w' hS
          (clear hS)
          go_simp
          try with_reducible rfl
        try simp only [Act.put, List.getElem_toArray, List.getElem_cons_zero, List.getElem_cons_succ, List.setIfInBounds_toArray, List.set_cons_zero, List.set_cons_succ]
        have hv1 : ∀ k, v.ownBlock = some k → w6.heap.size ≤ k := fun k e => by have h1 := (ho4.blk k e).1; have h2 := hbd.size; omega
        obtain ⟨x0, y0, hL0, _⟩ := HM6.out.least
        have hL1 := hL0.later hb5
        have hLl := hL0.lt
        have l0 := hL1.c0
        have l1 := hL1.c1
        have f0 := hL1.frozen 0
        have f1 := hL1.frozen 1
        refine wpAnyH_ready (rs := [4]) (by kernel_rfl) (by simp) ?_
        refine AllReadyH.cons rfl (fun K' hK' => ?_) AllReadyH.nil
        rw [if_pos (by first | kernel_rfl | rfl)]
        go_simp
        have hgl := (Hrow6.out.blk gt rfl).2
        have hM4 := HM6.out.later hb5
        have hR4 := Hrow6.out.below hb5
        have g1 := grownBy_setC w4 bL 0 (.int .i64 (p : Int))
        have g2 := grownBy_setC (w4.setCell ⟨bL, 0, none⟩ (.int .i64 (p : Int))) bL 1 (.int .i64 (q : Int))
        have hNb : w2.heap.size ≠ bL := fun e => by have h1 := hbl2; omega
        have tb := own_ne_frac hM4.tasks hL1
        have hM5 : MB w ws n (segB ws n 0 (m + 1)) (.slice at_ (twL ws).length ct_) v gt bL ((w4.setCell ⟨bL, 0, none⟩ (.int .i64 (p : Int))).setCell ⟨bL, 1, none⟩ (.int .i64 (q : Int))) := by
          refine ⟨(hM4.tasks.kept g1 (.inr tb)).kept g2 (.inr tb), ?_, ⟨p, q, (hL1.set0 _).set1 _, fun z hz => ?_⟩, (hM4.below.setCell (p := ⟨bL, 0, none⟩) hM4.bl _).setCell (p := ⟨bL, 1, none⟩) hM4.bl _, hM4.bl, hM4.tg, fun e => ?_, hM4.lg⟩
          · rw [Hnew.out]
            have hvb : v.ownBlock ≠ some bL := fun e => by have := hv1 _ e; omega
            exact ((ho4.base (by have h1 := HM6.out.below.size; have h2 := hbd.size; omega)).kept g1 (.inr hvb)).kept g2 (.inr hvb)
          · rw [Hnew.out] at hz; cases hz; exact ⟨Hp.out.symm, Hq.out.symm⟩
          · have := hv1 _ e; omega
        have hR5 : OwnI w.heap.size ((w4.setCell ⟨bL, 0, none⟩ (.int .i64 (p : Int))).setCell ⟨bL, 1, none⟩ (.int .i64 (q : Int))) (.slice (some ⟨gt, 0, none⟩) n n) (dig ws.length n m) := (hR4.kept g1 (.inr (by simp [Value.ownBlock]; exact fun e => hM4.lg e.symm))).kept g2 (.inr (by simp [Value.ownBlock]; exact fun e => hM4.lg e.symm))
        refine hK'.out _ _ ((hS5.other (i := 0) hNb (.int .i64 (p : Int))).other (i := 1) hNb (.int .i64 (q : Int))) fun _ => ?_
        refine wpAnyH_done (by kernel_rfl) ?_ _
        have HE := Lib.hid (show MB w ws n (segB ws n 0 (m + 1)) (.slice at_ (twL ws).length ct_) v gt bL ((w4.setCell ⟨bL, 0, none⟩ (.int .i64 (p : Int))).setCell ⟨bL, 1, none⟩ (.int .i64 (q : Int))) ∧ OwnI w.heap.size ((w4.setCell ⟨bL, 0, none⟩ (.int .i64 (p : Int))).setCell ⟨bL, 1, none⟩ (.int .i64 (q : Int))) (.slice (some ⟨gt, 0, none⟩) n n) (dig ws.length n m) from ⟨hM5, hR5⟩)
        clear hM5 hR5 hM4 hR4 g1 g2 tb l0 l1 f0 f1 ho4 hb4 hb5 hS0 hS5
        go_wp2
        exact HKq.out _ _ (Hdig.out _ _ (InvD.of m _ v gt bL ⟨HE.out.1, HE.out.2, Hm.out, Hr.out⟩))
      · have Hnew := Lib.hid (show segB ws n 0 (m + 1) = segB ws n 0 m by rw [Hseg.out, Hacc.out, Hlf.out, HsN.out]; exact comb_ge (fun h => hcmp (Hl1.out.2 h)))
        go_wp2_with fail
        refine (isLess_c p q x y _ false (by simp; omega) (by omega) (by omega)).mono ?_
        rintro e w6 ⟨rfl, hb6⟩
        rw [HW3.out] at hb6
        have HM6 := Lib.hid (HM3.out.later hb6)
        have Hrow6 := Lib.hid (Hrow3.out.below hb6)
        have bN6 := bN.later hb6
        clear hb6 hL0 hL1
        go_wp2_with fail
        exact HKq.out _ _ (Hdig.out _ _ (InvD.of m _ (.slice au n cu) gt bL ⟨by rw [Hnew.out]; exact HM6.out, Hrow6.out, Hm.out, Hr.out⟩))

theorem wp_bt {Q : Exit → Act → World → Prop} {a : Act} {w : World} (h : btTail.wp Try.prog Q a w) : ∃ rest, findLabel btBody 0 = some rest ∧ rest.wp Try.prog Q a w := by
  refine ⟨_, bt_find, ?_⟩
  rw [bt_tail]
  exact wp_seq (wp_skip h)

set_option maxRecDepth 100000 in
set_option maxHeartbeats 16000000 in
theorem bestTurns_c (sv : Value) (ws : List Int) (n : Nat) (w : World) (hI : Ints w.heap.size w sv ws) (hW : Wgt ws 0) (hn : 1 ≤ n ∧ n ≤ 8) :
    Calls Try.prog 79 #[sv, .int .i64 n] w (GivesI w (bstL (segB ws n 0 (ws.length ^ n))) id) := by
  obtain ⟨a, cap, rfl⟩ := hI.shape
  obtain ⟨i0, hi, hz0, hz1, hz2⟩ := info_parts Try.infoI2
  obtain ⟨R, hR⟩ : ∃ R : Act → World → Prop, (fun a W => bodyPost Try.prog Try.f79 (GivesI w (bstL (segB ws n 0 (ws.length ^ n))) id) .ret a W) = R := ⟨_, rfl⟩
  have hQ : ∀ (a' : Act) (W : World) (u : Value), a'.tmps.getD 4 undef = u → a'.defers = [] → OwnI w.heap.size W u (bstL (segB ws n 0 (ws.length ^ n))) → Below w.heap.size w W → R a' W := by
    intro a' W u h4 hd ho hb
    rw [← hR]
    refine bodyPost_ret (results_tmp rfl _ _ _) hd ?_
    rw [h4]
    exact ⟨u, rfl, ho, hb⟩
  have hlook := fun r a1 W1 (h : InvM w a cap ws n r a1 W1) => look_c w a cap ws n R r a1 W1 hI hW hn h hQ
  have hpass : ∀ l r a1 W1, JB w a cap ws n l r a1 W1 → ∃ rest, findLabel btBody l = some rest ∧ rest.wp Try.prog (jumpB (fun l' a' w' => ∃ n', n' < r ∧ JB w a cap ws n l' n' a' w') (endB R)) a1 W1 := by
    intro l r a1 W1 h
    match l, h with
    | 0, h => exact wp_bt (hlook r a1 W1 h)
  have hl := hW.len
  have HW := Lib.hid hW
  have Hlook := Lib.hid hlook
  have Hpass := Lib.hid hpass
  have HR := Lib.hid hR
  clear hlook hpass hR hQ hW
  go_enter Try.func79, Try.ntmps79
  refine wp_seq_k fun Kq hKq => ?_
  have HKq := Lib.hid hKq
  clear hKq
  go_wp2_with fail
  refine HKq.out _ _ ?_
  show Code.wp Try.prog (.scope btBody) _ _ _
  refine wp_mono (Q := endB R) ?_ ?_
  · refine wp_scope_jumpsB (JB w a cap ws n) ?_ Hpass.out
    unfold btTail btAt at Hlook
    unfold btBody at Hlook ⊢
    simp only [Try.f79, findLabel, Option.getD, if_true, beq_self_eq_true] at Hlook ⊢
    clear Hpass HR HKq
    go_wp2_with fail
    refine (tasksWaitedFor_c _ ws _ hI hl.2 HW.out.el).mono ?_
    rintro e w1 ⟨tv, rfl, ho, hb⟩
    simp only [id]
    have hsw := hb.size
    have HO := Lib.hid ho
    have htlt : ∀ k, tv.ownBlock = some k → k < w1.heap.size := fun k e => (ho.blk k e).2
    have Htl := Lib.hid htlt
    clear ho htlt
    go_wp2_with (at_make; refine wpList_make_full _ rfl _ _ 24 rfl w.heap.size 2 i0 (.int .i64 0) 1 Try.underlying24 hi hz0 hz1 .i64 .i64 _ _ n rfl rfl rfl rfl ?c1 ?c2 ?c3 ?_)
    case c1 => rw [hz2]; omega
    case c2 => unfold maxLen; omega
    case c3 => exact hsw
    intro w2 hown hgrow
    have hrow := ownI_made hown
    have hB2 : Below w.heap.size w w2 := hb.grown hgrow hsw (by simp)
    have hO2 := HO.out.kept hgrow (by by_cases e : tv.ownBlock = none; exact .inl e; exact .inr e)
    obtain ⟨gt, hgt⟩ : ∃ gt, w1.heap.size = gt := ⟨_, rfl⟩
    rw [hgt] at hrow ⊢
    have htg : tv.ownBlock ≠ some gt := fun e => by have := Htl.out gt e; omega
    have hgl := (hrow.blk gt rfl).2
    obtain ⟨W3, hW3⟩ : ∃ W3, w2.alloc (.cells #[.int .i64 0, .int .i64 0] 76) = W3 := ⟨_, rfl⟩
    have bL : Box2 W3 w2.heap.size 76 (.int .i64 ((0 : Nat) : Int)) (.int .i64 ((0 : Nat) : Int)) := by rw [← hW3]; exact Box2.new _ _ _ _
    have hb3 : Below w2.heap.size w2 W3 := by rw [← hW3]; exact (Below.refl _ _).alloc (Nat.le_refl _) _
    have hM : MB w ws n (segB ws n 0 0) tv (.slice none 0 0) gt w2.heap.size W3 := ⟨hO2.below hb3, ownI_nil _ _, ⟨0, 0, bL, fun z hz => by cases hz⟩, hB2.trans (hb3.mono hB2.size), hB2.size, htg, by simp [Value.ownBlock], by omega⟩
    have hD0 : OwnI w.heap.size W3 (.slice (some ⟨gt, 0, none⟩) n n) (dig ws.length n 0) := by rw [dig_zero (by omega)]; exact hrow.below hb3
    have HF := Lib.hid (And.intro hM hD0)
    have hpos : 0 < ws.length ^ n := Nat.pow_pos (by omega)
    have Hpos := Lib.hid hpos
    have HW3 := Lib.hid hW3
    clear hM hD0 hown hgrow hrow hO2 hb hb3 bL hW3 hpos
    go_wp2_with fail
    rw [HW3.out]
    refine wp_label ?_
    rename_i hKend
    refine hKend _ _ ?_
    refine wp_mono (Hlook.out _ _ _ (InvM.of 0 tv (.slice none 0 0) gt w2.heap.size ⟨HF.out.1, HF.out.2, Hpos.out, rfl⟩)) ?_
    intro e a1 w1 h
    cases e with
    | goto l =>
      obtain ⟨n', h1, h2⟩ := h
      exact ⟨n', h2⟩
    | normal => exact h
    | exit id => exact h
    | ret => exact h
    | panic ch => exact h
    | outgrown => exact h
  · intro e a1 w1 h
    cases e with
    | ret =>
      have h2 : R a1 w1 := h
      rw [← HR.out] at h2
      exact h2
    | goto l => exact h.elim
    | normal => exact h.elim
    | exit id => exact h.elim
    | panic ch => exact h.elim
    | outgrown => exact h.elim

end Go.Proofs.Ytgndbifcncklgaa
