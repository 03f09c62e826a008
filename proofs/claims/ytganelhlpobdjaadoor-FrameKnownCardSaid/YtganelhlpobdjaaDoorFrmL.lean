/-
  A loop over an iterator that counts in a box of its own (its block is tb): the law, for an iterator whose items are known as a list; what a round keeps.
-/
import Derived.Test.YtganelhlpobdjaaDoorFrmM
import Derived.Test.YtganelhlpobdjaaDoorSpnW
import Derived.RangeFuncNested
import Derived.RangeFuncBound
import Derived.RangeFuncCalls
import Derived.RangeFuncLeaves
import Derived.Shelf.Abstract
import Derived.Shelf.RegionOpen
import Derived.OwnWalkIn
import Derived.TacticsInMore
import Derived.LoopNIn
import Derived.LoopIn
namespace Go.Proofs.YtganelhlpobdjaaDoor.Frm
open Go.RowKit
set_option linter.unusedVariables false
set_option linter.unusedSimpArgs false

/-- What stays if the iterator writes its own box. -/
def Turns {β : Type} (tb : Nat) (J : β → World → Prop) : Prop :=
  ∀ s W u, J s W → Boxed W tb 3 (.int .i64 u) → ∀ v, J s (W.setCell ⟨tb, 0, none⟩ (.int .i64 v))

/-- An iterator whose items are ys, one after the other, as long as it is told to go on. -/
def Hands {α : Type} (F : Fence) (n : Nat) (P : Program) (g : Nat) (lb : Array Value) (encs : α → Array Value) (Kp : World → World → Prop) (tb : Nat) (ys : List α) (w0 : World) : Prop :=
  ∀ (l : Nat) (J Jx : List α → World → Prop) (W : World), Below w0.heap.size w0 W → OwnFrom W.heap.size J → Turns tb J →
    (∀ pre x W1, J pre W1 → pre ++ [x] <+: ys → YieldAt F (n - 1) P l (encs x) W1 fun e W' =>
      (e = .returned (.bool true) ∧ J (pre ++ [x]) W' ∧ Kp W1 W') ∨ (e = .returned (.bool false) ∧ Jx (pre ++ [x]) W')) →
    J [] W → CallsIn F n P g (#[.func (.yield l) #[] #[]] ++ lb) W fun e W' => (∃ v, e = .returned v) ∧ (J ys W' ∨ ∃ pre, Jx pre W')

variable {F : Fence} {n : Nat} {P : Program}

theorem setCell_grown (W : World) (p : Addr) (v : Value) : W.grownBy (W.setCell p v) (some p.block) :=
  ⟨rfl, rfl, rfl, by simp [World.setCell], fun k _ hk => Below.heap_setCell _ _ _ k (fun e => hk (by rw [e]))⟩

theorem range_hands {α : Type} {g : Operand} {ps : Array Tmp} {assign body : Code} {Q : Exit → Act → World → Prop} {a : Act} {w : World}
    (hro : F.round = none) (h1 : 1 ≤ n) {gf : Nat} {lb : Array Value} (hg : a.eval g = .func (.func gf) #[] lb) (hFg : F.fn gf) (eg : ∀ args w, (callFunc gf args).run P w = .ok (.enter gf args) w)
    {encs : α → Array Value} {Kp : World → World → Prop} {tb : Nat} {ys : List α} {w0 : World} (hit : Hands F (n - 1) P gf lb encs Kp tb ys w0)
    (hKt : ∀ {A B C : World}, Kp A B → Kp B C → Kp A C) (hKb : ∀ (W : World) (l : Nat) (o o' : Obj), W.heap[l]? = some o → o.isCells = false → Kp W (W.putObj l o'))
    (hb0 : Below w0.heap.size w0 w) (hps : ∀ x, (encs x).size = ps.size)
    (I : List α → World → Prop) (Ix : Code → List α → World → Prop) (hI : OwnFrom w.heap.size I) (hIt : Turns tb I) (hIx : ∀ c, OwnFrom w.heap.size (Ix c)) (h0 : I [] w)
    (Ax : α → Act → World → Prop) (hAx : ∀ x a', OwnFrom w.heap.size (fun (_ : Unit) W => Ax x a' W))
    (hassign : ∀ (l : Nat) (pre : List α) (x : α) (W : World) (K : Act → World → Prop), I pre W → (∀ a' W', KeepsFrom w.heap.size W W' → Kp W W' → I pre W' → Ax x a' W' → K a' W') →
      assign.wpIn (F.inRound l) (n - 1 - 1) P (Exit.then K (fun _ _ _ => False)) { tmps := (ps.zip (encs x)).foldl (fun t (p, v) => t.setIfInBounds p v) a.tmps, defers := [] } W)
    (hbody : ∀ (l : Nat) (pre : List α) (x : α) (a' : Act) (W : World), I pre W → Ax x a' W → pre ++ [x] <+: ys → body.wpIn (F.inRound l) (n - 1 - 1) P (ownPostG w.heap.size Kp I Ix (pre ++ [x]) W) a' W)
    (hdone : ∀ (D : Nat) (W : World), w.heap.size ≤ D → I ys W → W.heap[D]? = some (.deferred (some [])) → Q .normal { a with defers := { target := .collected D, args := #[] } :: a.defers } W)
    (hstop : ∀ (D : Nat) (c : Code) (pre : List α) (W : World), w.heap.size ≤ D → Ix c pre W → W.heap[D]? = some (.deferred (some [])) → c.wpIn F n P Q { a with defers := { target := .collected D, args := #[] } :: a.defers } W) :
    (Code.rangeFunc g ps assign body).wpIn F n P Q a w := by
  refine wpIn_rangeFunc fun fn hfn => ?_
  rw [hro]
  obtain ⟨L, hL⟩ : ∃ L : LoopState → Option Code → Loop, L = fun st pe => { state := st, pending := pe, fn, tmps := a.tmps, params := ps, assign, body, defers := w.heap.size } := ⟨_, rfl⟩
  obtain ⟨X, hX⟩ : ∃ X, (w.alloc (.deferred (some []))).alloc (.loop (L .ready none)) = X := ⟨_, rfl⟩
  have xL : X.heap[w.heap.size + 1]? = some (.loop (L .ready none)) := by
    rw [← hX]; have := World.alloc_heap_new (w.alloc (.deferred (some []))) (.loop (L .ready none)); rwa [World.size_alloc] at this
  have xD : X.heap[w.heap.size]? = some (.deferred (some [])) := by rw [← hX]; exact (Below.heap_alloc _ _ _ (by simp)).trans (World.alloc_heap_new w _)
  have xI : I [] X := by rw [← hX]; exact hI.alloc _ (hI.alloc _ h0)
  have xB : Below w0.heap.size w0 X := by rw [← hX]; exact hb0.trans ((((Below.refl _ w).alloc (Nat.le_refl _) _).alloc (by simp) _).mono hb0.size)
  have xS : X.heap.size = w.heap.size + 2 := by rw [← hX]; simp
  refine ⟨w.heap.size + 1, [{ target := .collected w.heap.size, args := #[] }], X, { target := .fn (.func gf) lb, args := #[.func (.yield (w.heap.size + 1)) #[] #[]] }, X, gf,
    #[.func (.yield (w.heap.size + 1)) #[] #[]] ++ lb, X, ?_, ?_, ?_, ?_, fun _ => h1, ?_⟩
  · rw [← hX, hL]; exact run_enterLoop_outer _ _ _ _ _
  · simp only [resolve, hg]; simp [go_sem]
  · intro f' hf'; simp [Target.leads] at hf'; subst hf'; exact hFg
  · simp [invoke, go_sem, eg]
  · refine (hit (w.heap.size + 1)
      (fun pre W => I pre W ∧ W.heap[w.heap.size + 1]? = some (.loop (L .ready none)) ∧ W.heap[w.heap.size]? = some (.deferred (some [])))
      (fun pre W => ∃ c, Ix c pre W ∧ W.heap[w.heap.size + 1]? = some (.loop (L .done (some c))) ∧ W.heap[w.heap.size]? = some (.deferred (some [])))
      X xB ?own ?turns ?round ⟨xI, xL, xD⟩).mono ?behind
    case own =>
      intro s A B row hs hgr hrow
      have hrow' : ∀ r, row = some r → w.heap.size ≤ r ∧ ∃ o : Obj, A.heap[r]? = some o ∧ o.isCells = false := fun r e => by obtain ⟨h, k⟩ := hrow r e; exact ⟨by omega, k⟩
      have same : ∀ (k : Nat) (o : Obj), k < X.heap.size → A.heap[k]? = some o → B.heap[k]? = some o := fun k o hk ho =>
        (hgr.block k (Array.getElem?_eq_some_iff.1 ho).1 (fun e => by have := (hrow k e.symm).1; omega)).trans ho
      exact ⟨hI s A B row hs.1 hgr hrow', same _ _ (by omega) hs.2.1, same _ _ (by omega) hs.2.2⟩
    case turns =>
      rintro s W u ⟨hs, hl, hd⟩ hbx v
      have far : ∀ (k : Nat) (o : Obj), W.heap[k]? = some o → o.isCells = false → (W.setCell ⟨tb, 0, none⟩ (.int .i64 v)).heap[k]? = some o := fun k o ho hc => by
        refine (Below.heap_setCell _ _ _ k (fun e => ?_)).trans ho
        have e : k = tb := e
        subst e
        rw [show W.heap[k]? = _ from hbx] at ho
        cases ho; cases hc
      exact ⟨hIt s W u hs hbx v, far _ _ hl rfl, far _ _ hd rfl⟩
    case round =>
      rintro pre x W ⟨hi, hl, hd⟩ hpre
      have hy := run_yield (P := P) (args := encs x) hl (by rw [hL]; exact hps x)
      rw [hL] at hy
      refine ⟨fn, _, assign, body, hy, roundIn_of_wpIn hfn (hassign _ pre x W _ hi ?_)⟩
      clear hy
      intro a' V kf kp hi hax
      replace hl := kf.same _ _ (by omega) hl rfl
      replace hd := kf.same _ _ (Nat.le_refl _) hd rfl
      have hlt := (Array.getElem?_eq_some_iff.1 hl).1
      refine ⟨_, run_beginRound hl (by rw [hL]), ?_⟩
      obtain ⟨U, hU⟩ : ∃ U, V.putObj (w.heap.size + 1) (.loop { L .ready none with state := .busy }) = U := ⟨_, rfl⟩
      have uL : U.heap[w.heap.size + 1]? = some (.loop { L .ready none with state := .busy }) := by rw [← hU]; exact World.putObj_heap_same hlt
      have uD : U.heap[w.heap.size]? = some (.deferred (some [])) := by rw [← hU]; exact (World.putObj_heap_other (by omega)).trans hd
      have uK : Kp V U := by rw [← hU]; exact hKb _ _ _ _ hl rfl
      have uI : I pre U := by rw [← hU]; exact hI.putObj _ hi (by omega) hl rfl
      have uA : Ax x a' U := by rw [← hU]; exact (hAx x a').putObj (s := ()) _ hax (by omega) hl rfl
      rw [hU]
      refine wpIn_mono (hbody _ pre x a' _ uI uA hpre) ?_
      have fin : ∀ (j : Option Code) (Z : World), KeepsFrom w.heap.size U Z →
          (Instr.endRound (w.heap.size + 1) j).run P Z = .ok (.bool j.isNone) (Z.putObj (w.heap.size + 1) (.loop (L (if j.isNone then .ready else .done) j))) ∧
          Z.heap[w.heap.size + 1]? = some (.loop { L .ready none with state := .busy }) ∧
          (Z.putObj (w.heap.size + 1) (.loop (L (if j.isNone then .ready else .done) j))).heap[w.heap.size + 1]? = some (.loop (L (if j.isNone then .ready else .done) j)) ∧
          (Z.putObj (w.heap.size + 1) (.loop (L (if j.isNone then .ready else .done) j))).heap[w.heap.size]? = some (.deferred (some [])) := fun j Z hz => by
        have zl := hz.same _ _ (by omega) uL rfl
        have := run_endRound (P := P) j zl
        rw [hL] at this ⊢
        exact ⟨this, by rw [hL] at zl; exact zl, World.putObj_heap_same (Array.getElem?_eq_some_iff.1 zl).1, (World.putObj_heap_other (by omega)).trans (hz.same _ _ (Nat.le_refl _) uD rfl)⟩
      have leave : ∀ (c : Code) (Z : World), KeepsFrom w.heap.size U Z → Ix c (pre ++ [x]) Z → ∃ v W', (Instr.endRound (w.heap.size + 1) (some c)).run P Z = .ok v W' ∧
          ((v = .bool true ∧ (I (pre ++ [x]) W' ∧ W'.heap[w.heap.size + 1]? = some (.loop (L .ready none)) ∧ W'.heap[w.heap.size]? = some (.deferred (some []))) ∧ Kp W W') ∨
           (v = .bool false ∧ ∃ c, Ix c (pre ++ [x]) W' ∧ W'.heap[w.heap.size + 1]? = some (.loop (L .done (some c))) ∧ W'.heap[w.heap.size]? = some (.deferred (some [])))) := fun c Z hz hi => by
        obtain ⟨hr, zl, zl', zd⟩ := fin (some c) Z hz
        exact ⟨_, _, hr, .inr ⟨rfl, c, (hIx c).putObj _ hi (by omega) zl rfl, zl', zd⟩⟩
      rintro e a3 Z hp
      cases e with
      | normal =>
        obtain ⟨hz, kz, iz⟩ := hp
        obtain ⟨hr, zl, zl', zd⟩ := fin none Z hz
        exact ⟨_, _, hr, .inl ⟨rfl, ⟨hI.putObj _ iz (by omega) zl rfl, zl', zd⟩, hKt kp (hKt (hKt uK kz) (hKb _ _ _ _ zl rfl))⟩⟩
      | ret =>
        obtain ⟨hr, zl, zl', zd⟩ := fin (some .ret) Z hp.1
        exact ⟨_, _, hr, .inr ⟨rfl, .ret, (hIx _).putObj _ hp.2 (by omega) zl rfl, zl', zd⟩⟩
      | exit id =>
        obtain ⟨hr, zl, zl', zd⟩ := fin (some (.exit id)) Z hp.1
        exact ⟨_, _, hr, .inr ⟨rfl, .exit id, (hIx _).putObj _ hp.2 (by omega) zl rfl, zl', zd⟩⟩
      | goto t =>
        obtain ⟨hr, zl, zl', zd⟩ := fin (some (.goto t)) Z hp.1
        exact ⟨_, _, hr, .inr ⟨rfl, .goto t, (hIx _).putObj _ hp.2 (by omega) zl rfl, zl', zd⟩⟩
      | panic ch => exact hp.elim
      | outgrown => exact hp.elim
    case behind =>
      rintro e V ⟨⟨v, rfl⟩, ⟨hi, hl, hd⟩ | ⟨pre, c, hi, hl, hd⟩⟩
      · have hr := run_endLoop (P := P) hl (by rw [hL]; simp)
        rw [hL] at hr
        exact ⟨none, _, hr, hdone _ _ (Nat.le_refl _) (hI.putObj _ hi (by omega) hl rfl) ((World.putObj_heap_other (by omega)).trans hd)⟩
      · have hr := run_endLoop (P := P) hl (by rw [hL]; simp)
        rw [hL] at hr
        exact ⟨some c, _, hr, hstop _ c pre _ (Nat.le_refl _) ((hIx c).putObj _ hi (by omega) hl rfl) ((World.putObj_heap_other (by omega)).trans hd)⟩

/-! What a round keeps: cells that are no bytes, but for blocks from n₀ on below n₁. -/
def Kpt (n₀ n₁ : Nat) (W W' : World) : Prop := W.heap.size ≤ W'.heap.size ∧ ∀ k, ¬ (n₀ ≤ k ∧ k < n₁) → ∀ cs t fr, W.heap[k]? = some (.cells cs t fr) → t ≠ 5 → W'.heap[k]? = some (.cells cs t fr)
section
variable {n₀ n₁ : Nat} {A B C W : World}
theorem Kpt.refl (n₀ n₁ : Nat) (W : World) : Kpt n₀ n₁ W W := ⟨Nat.le_refl _, fun _ _ _ _ _ h _ => h⟩
theorem Kpt.trans (h : Kpt n₀ n₁ A B) (k : Kpt n₀ n₁ B C) : Kpt n₀ n₁ A C := ⟨Nat.le_trans h.1 k.1, fun i hi cs t fr hc ht => k.2 i hi cs t fr (h.2 i hi cs t fr hc ht) ht⟩
theorem Kpt.put {l : Nat} {o : Obj} (o' : Obj) (h : W.heap[l]? = some o) (hc : o.isCells = false) : Kpt n₀ n₁ W (W.putObj l o') :=
  ⟨by have := (grownBy_putObj' W l o').size; exact this, fun k _ cs t fr hk _ => by
    refine (World.putObj_heap_other (fun e => ?_)).trans hk
    subst e
    rw [h] at hk
    cases hk; cases hc⟩
theorem Kpt.of_below (h : Below A.heap.size A B) : Kpt n₀ n₁ A B := ⟨h.size, fun k _ cs t fr hk _ => (h.block k (Array.getElem?_eq_some_iff.1 hk).1).trans hk⟩
theorem Kpt.set {p : Addr} (v : Value) (hp : n₀ ≤ p.block ∧ p.block < n₁) : Kpt n₀ n₁ W (W.setCell p v) :=
  ⟨by simp [World.setCell], fun k hk cs t fr hc _ => (Below.heap_setCell _ _ _ k (fun e => hk (by rw [e]; exact hp))).trans hc⟩
theorem Kpt.blk {g : Nat} {t : TypeId} {cs : Array Value} (h : Kpt n₀ n₁ A B) (hb : Wd.Blk A g t cs) (hg : ¬ (n₀ ≤ g ∧ g < n₁)) (ht : t ≠ 5) : Wd.Blk B g t cs := h.2 g hg cs t _ hb ht
theorem Kpt.boxed {g : Nat} {t : TypeId} {v : Value} (h : Kpt n₀ n₁ A B) (hb : Boxed A g t v) (hg : ¬ (n₀ ≤ g ∧ g < n₁)) (ht : t ≠ 5) : Boxed B g t v := h.2 g hg _ t _ hb ht
end

end Go.Proofs.YtganelhlpobdjaaDoor.Frm
