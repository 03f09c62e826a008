/-
  Plain mathematics of ACKs: which may be. Nothing here speaks of a program. (Apart from bytes, for layers that read none.)
-/
import Derived.Test.YtilkgjpgoogiiaaGreatWrdabJ17a
import Derived.Test.YtilkgjpgoogiiaaGreatSpnabJ48a
import Derived.RangeFuncNested
import Derived.RangeFuncBound
import Derived.RangeFuncCalls
import Derived.RangeFuncLeaves
import Derived.Shelf.Abstract
import Derived.Shelf.RegionOpen
import Derived.OwnWalkIn
import Derived.TacticsInMore
import Derived.LoopNIn
import Derived.LoopIn
import Derived.Test.YtilkgjpgoogiiaaGreatSatabJ49a
import Derived.Test.YtilkgjpgoogiiaaGreatSpnabJ12a
import Derived.Deep.RegionHeld3
import Derived.Deep.DeepCutAuto
import Derived.LoopN
set_option maxRecDepth 100000
set_option maxHeartbeats 16000000
set_option linter.unusedVariables false
set_option linter.unusedSimpArgs false
namespace Go.Proofs.YtilkgjpgoogiiaaGreat.FrmM
open SpnM
structure Ack where
  delay : Int
  ranges : List R
  marked : Bool
  m0 : Int
  m1 : Int
  m2 : Int
theorem Ack.ext' {a b : Ack} (h1 : a.delay = b.delay) (h2 : a.ranges = b.ranges) (h3 : a.marked = b.marked) (h4 : a.m0 = b.m0) (h5 : a.m1 = b.m1) (h6 : a.m2 = b.m2) : a = b := by
  cases a; cases b; simp_all
def zero : Ack := ⟨0, [], false, 0, 0, 0⟩
def under (x : R) : Int := IntKind.i64.wrap (x.1 - 2)
def tops (top : Int) : List R → List (Int × R)
  | [] => []
  | x :: t => (top, x) :: tops (under x) t
def topAt (top : Int) (l : List R) : Int := match l.getLast? with | none => top | some x => under x
theorem topAt_nil (top : Int) : topAt top [] = top := rfl
theorem topAt_snoc (top : Int) (l : List R) (x : R) : topAt top (l ++ [x]) = under x := by simp [topAt]
theorem tops_append (l : List R) : ∀ (top : Int) (m : List R), tops top (l ++ m) = tops top l ++ tops (topAt top l) m := by
  induction l with
  | nil => intro top m; rfl
  | cons x t ih =>
    intro top m
    have e : topAt top (x :: t) = topAt (under x) t := by
      cases t with
      | nil => rfl
      | cons y u => simp [topAt, List.getLast?_cons_cons]; cases h : (y :: u).getLast? <;> simp_all
    simp [tops, ih, e]
theorem tops_snoc (l : List R) (top : Int) (x : R) : tops top (l ++ [x]) = tops top l ++ [(topAt top l, x)] := by rw [tops_append]; rfl
def fits (p : Int × R) : Prop := 0 ≤ p.2.1 ∧ p.2.1 ≤ p.2.2 ∧ p.2.2 ≤ p.1
instance (p : Int × R) : Decidable (fits p) := by unfold fits; infer_instance
def falls (top : Int) (l : List R) : Prop := ∀ p ∈ tops top l, fits p
instance (top : Int) (l : List R) : Decidable (falls top l) := by unfold falls; infer_instance
theorem falls_nil (top : Int) : falls top [] := by intro p h; cases h
theorem falls_cons (top : Int) (x : R) (t : List R) : falls top (x :: t) ↔ fits (top, x) ∧ falls (under x) t := by
  unfold falls; simp [tops]
theorem under_eq {top : Int} {x : R} (ht : top ≤ M) (h : fits (top, x)) : under x = x.1 - 2 := by
  obtain ⟨h1, h2, h3⟩ := h
  unfold M at ht
  simp only at h1 h2 h3
  unfold under
  rw [IntKind.wrap_i64]
  omega
def Marks (a : Ack) : Prop := num a.m0 ∧ num a.m1 ∧ num a.m2 ∧ (a.marked = false → a.m0 = 0 ∧ a.m1 = 0 ∧ a.m2 = 0)
instance (a : Ack) : Decidable (Marks a) := by unfold Marks; infer_instance
def Valid (a : Ack) : Prop := (1 ≤ a.ranges.length ∧ a.ranges.length ≤ 256 ∧ num a.delay) ∧ falls M a.ranges ∧ Marks a
instance (a : Ack) : Decidable (Valid a) := by unfold Valid; infer_instance
def check (a : Ack) : Int := if Valid a then 0 else 2
theorem check_ok {a : Ack} (h : Valid a) : check a = 0 := if_pos h
theorem check_not {a : Ack} (h : ¬ Valid a) : check a = 2 := if_neg h
theorem check_zero {a : Ack} (h : check a = 0) : Valid a := by
  unfold check at h; split at h
  · assumption
  · cases h
end Go.Proofs.YtilkgjpgoogiiaaGreat.FrmM
namespace Go.Proofs.YtilkgjpgoogiiaaGreat.Frm
open Go.RowKit
def Turns {β : Type} (tb : Nat) (J : β → World → Prop) : Prop :=
  ∀ s W u, J s W → Boxed W tb 3 (.int .i64 u) → ∀ v, J s (W.setCell ⟨tb, 0, none⟩ (.int .i64 v))
def Hands {α : Type} (F : Fence) (n : Nat) (P : Program) (g : Nat) (lb : Array Value) (encs : α → Array Value) (Kp : World → World → Prop) (tb : Nat) (ys : List α) (w0 : World) : Prop :=
  ∀ (l : Nat) (J Jx : List α → World → Prop) (W : World), Below w0.heap.size w0 W → OwnFrom W.heap.size J → Turns tb J →
    (∀ pre x W1, J pre W1 → pre ++ [x] <+: ys → YieldAt F (n - 1) P l (encs x) W1 fun e W' =>
      (e = .returned (.bool true) ∧ J (pre ++ [x]) W' ∧ Kp W1 W') ∨ (e = .returned (.bool false) ∧ Jx (pre ++ [x]) W')) →
    J [] W → CallsIn F n P g (#[.func (.yield l) #[] #[]] ++ lb) W fun e W' => (∃ v, e = .returned v) ∧ (J ys W' ∨ ∃ pre, Jx pre W')
variable {F : Fence} {n : Nat} {P : Program}
theorem setCell_grown (W : World) (p : Addr) (v : Value) : W.grownBy (W.setCell p v) (some p.block) :=
  ⟨rfl, rfl, rfl, by simp [World.setCell], fun k _ hk => Below.heap_setCell _ _ _ k (fun e => hk (by rw [e]))⟩
theorem range_hands {α : Type} {g : Operand} {ps : Array Tmp} {assign body : Code} {Q : Exit → Act → World → Prop} {a : Act} {w : World}
    (hro : F.round = none) (h1 : 1 ≤ n) {gf : Nat} {lb : Array Value} (hg : a.eval g = .func (.func gf) #[] lb) (hFg : F.fn gf) (eg : ∀ args w, (callFunc gf args).run P w = .ok (.enter gf args) w)
    {encs : α → Array Value} {Kp : World → World → Prop} {tb : Nat} {ys : List α} {w0 : World} (hit : Hands F (n - 1) P gf lb encs Kp tb ys w0)
    (hKt : ∀ {A B C : World}, Kp A B → Kp B C → Kp A C) (hKb : ∀ (W : World) (l : Nat) (o o' : Obj), W.heap[l]? = some o → o.isCells = false → Kp W (W.putObj l o'))
    (hb0 : Below w0.heap.size w0 w) (hps : ∀ x, (encs x).size = ps.size)
    (I : List α → World → Prop) (Ix : Code → List α → World → Prop) (hI : OwnFrom w.heap.size I) (hIt : Turns tb I) (hIx : ∀ c, OwnFrom w.heap.size (Ix c)) (h0 : I [] w)
    (Ax : α → Act → World → Prop) (hAx : ∀ x a', OwnFrom w.heap.size (fun (_ : Unit) W => Ax x a' W))
    (hassign : ∀ (l : Nat) (pre : List α) (x : α) (W : World) (K : Act → World → Prop), I pre W → (∀ a' W', KeepsFrom w.heap.size W W' → Kp W W' → I pre W' → Ax x a' W' → K a' W') →
      assign.wpIn (F.inRound l) (n - 1 - 1) P (Exit.then K (fun _ _ _ => False)) { tmps := (ps.zip (encs x)).foldl (fun t (p, v) => t.setIfInBounds p v) a.tmps, defers := [] } W)
    (hbody : ∀ (l : Nat) (pre : List α) (x : α) (a' : Act) (W : World), I pre W → Ax x a' W → pre ++ [x] <+: ys → body.wpIn (F.inRound l) (n - 1 - 1) P (ownPostG w.heap.size Kp I Ix (pre ++ [x]) W) a' W)
    (hdone : ∀ (D : Nat) (W : World), w.heap.size ≤ D → I ys W → W.heap[D]? = some (.deferred (some [])) → Q .normal { a with defers := { target := .collected D, args := #[] } :: a.defers } W)
    (hstop : ∀ (D : Nat) (c : Code) (pre : List α) (W : World), w.heap.size ≤ D → Ix c pre W → W.heap[D]? = some (.deferred (some [])) → c.wpIn F n P Q { a with defers := { target := .collected D, args := #[] } :: a.defers } W) :
    (Code.rangeFunc g ps assign body).wpIn F n P Q a w := by
  refine wpIn_rangeFunc fun fn hfn => ?_
  rw [hro]
  obtain ⟨L, hL⟩ : ∃ L : LoopState → Option Code → Loop, L = fun st pe => { state := st, pending := pe, fn, tmps := a.tmps, params := ps, assign, body, defers := w.heap.size } := ⟨_, rfl⟩
  obtain ⟨X, hX⟩ : ∃ X, (w.alloc (.deferred (some []))).alloc (.loop (L .ready none)) = X := ⟨_, rfl⟩
  have xL : X.heap[w.heap.size + 1]? = some (.loop (L .ready none)) := by
    rw [← hX]; have := World.alloc_heap_new (w.alloc (.deferred (some []))) (.loop (L .ready none)); rwa [World.size_alloc] at this
  have xD : X.heap[w.heap.size]? = some (.deferred (some [])) := by rw [← hX]; exact (Below.heap_alloc _ _ _ (by simp)).trans (World.alloc_heap_new w _)
  have xI : I [] X := by rw [← hX]; exact hI.alloc _ (hI.alloc _ h0)
  have xB : Below w0.heap.size w0 X := by rw [← hX]; exact hb0.trans ((((Below.refl _ w).alloc (Nat.le_refl _) _).alloc (by simp) _).mono hb0.size)
  have xS : X.heap.size = w.heap.size + 2 := by rw [← hX]; simp
  refine ⟨w.heap.size + 1, [{ target := .collected w.heap.size, args := #[] }], X, { target := .fn (.func gf) lb, args := #[.func (.yield (w.heap.size + 1)) #[] #[]] }, X, gf,
    #[.func (.yield (w.heap.size + 1)) #[] #[]] ++ lb, X, ?_, ?_, ?_, ?_, fun _ => h1, ?_⟩
  · rw [← hX, hL]; exact run_enterLoop_outer _ _ _ _ _
  · simp only [resolve, hg]; simp [go_sem]
  · intro f' hf'; simp [Target.leads] at hf'; subst hf'; exact hFg
  · simp [invoke, go_sem, eg]
  · refine (hit (w.heap.size + 1)
      (fun pre W => I pre W ∧ W.heap[w.heap.size + 1]? = some (.loop (L .ready none)) ∧ W.heap[w.heap.size]? = some (.deferred (some [])))
      (fun pre W => ∃ c, Ix c pre W ∧ W.heap[w.heap.size + 1]? = some (.loop (L .done (some c))) ∧ W.heap[w.heap.size]? = some (.deferred (some [])))
      X xB ?own ?turns ?round ⟨xI, xL, xD⟩).mono ?behind
    case own =>
      intro s A B row hs hgr hrow
      have hrow' : ∀ r, row = some r → w.heap.size ≤ r ∧ ∃ o : Obj, A.heap[r]? = some o ∧ o.isCells = false := fun r e => by obtain ⟨h, k⟩ := hrow r e; exact ⟨by omega, k⟩
      have same : ∀ (k : Nat) (o : Obj), k < X.heap.size → A.heap[k]? = some o → B.heap[k]? = some o := fun k o hk ho =>
        (hgr.block k (Array.getElem?_eq_some_iff.1 ho).1 (fun e => by have := (hrow k e.symm).1; omega)).trans ho
      exact ⟨hI s A B row hs.1 hgr hrow', same _ _ (by omega) hs.2.1, same _ _ (by omega) hs.2.2⟩
    case turns =>
      rintro s W u ⟨hs, hl, hd⟩ hbx v
      have far : ∀ (k : Nat) (o : Obj), W.heap[k]? = some o → o.isCells = false → (W.setCell ⟨tb, 0, none⟩ (.int .i64 v)).heap[k]? = some o := fun k o ho hc => by
        refine (Below.heap_setCell _ _ _ k (fun e => ?_)).trans ho
        have e : k = tb := e
        subst e
        rw [show W.heap[k]? = _ from hbx] at ho
        cases ho; cases hc
      exact ⟨hIt s W u hs hbx v, far _ _ hl rfl, far _ _ hd rfl⟩
    case round =>
      rintro pre x W ⟨hi, hl, hd⟩ hpre
      have hy := run_yield (P := P) (args := encs x) hl (by rw [hL]; exact hps x)
      rw [hL] at hy
      refine ⟨fn, _, assign, body, hy, roundIn_of_wpIn hfn (hassign _ pre x W _ hi ?_)⟩
      clear hy
      intro a' V kf kp hi hax
      replace hl := kf.same _ _ (by omega) hl rfl
      replace hd := kf.same _ _ (Nat.le_refl _) hd rfl
      have hlt := (Array.getElem?_eq_some_iff.1 hl).1
      refine ⟨_, run_beginRound hl (by rw [hL]), ?_⟩
      obtain ⟨U, hU⟩ : ∃ U, V.putObj (w.heap.size + 1) (.loop { L .ready none with state := .busy }) = U := ⟨_, rfl⟩
      have uL : U.heap[w.heap.size + 1]? = some (.loop { L .ready none with state := .busy }) := by rw [← hU]; exact World.putObj_heap_same hlt
      have uD : U.heap[w.heap.size]? = some (.deferred (some [])) := by rw [← hU]; exact (World.putObj_heap_other (by omega)).trans hd
      have uK : Kp V U := by rw [← hU]; exact hKb _ _ _ _ hl rfl
      have uI : I pre U := by rw [← hU]; exact hI.putObj _ hi (by omega) hl rfl
      have uA : Ax x a' U := by rw [← hU]; exact (hAx x a').putObj (s := ()) _ hax (by omega) hl rfl
      rw [hU]
      refine wpIn_mono (hbody _ pre x a' _ uI uA hpre) ?_
      have fin : ∀ (j : Option Code) (Z : World), KeepsFrom w.heap.size U Z →
          (Instr.endRound (w.heap.size + 1) j).run P Z = .ok (.bool j.isNone) (Z.putObj (w.heap.size + 1) (.loop (L (if j.isNone then .ready else .done) j))) ∧
          Z.heap[w.heap.size + 1]? = some (.loop { L .ready none with state := .busy }) ∧
          (Z.putObj (w.heap.size + 1) (.loop (L (if j.isNone then .ready else .done) j))).heap[w.heap.size + 1]? = some (.loop (L (if j.isNone then .ready else .done) j)) ∧
          (Z.putObj (w.heap.size + 1) (.loop (L (if j.isNone then .ready else .done) j))).heap[w.heap.size]? = some (.deferred (some [])) := fun j Z hz => by
        have zl := hz.same _ _ (by omega) uL rfl
        have := run_endRound (P := P) j zl
        rw [hL] at this ⊢
        exact ⟨this, by rw [hL] at zl; exact zl, World.putObj_heap_same (Array.getElem?_eq_some_iff.1 zl).1, (World.putObj_heap_other (by omega)).trans (hz.same _ _ (Nat.le_refl _) uD rfl)⟩
      have leave : ∀ (c : Code) (Z : World), KeepsFrom w.heap.size U Z → Ix c (pre ++ [x]) Z → ∃ v W', (Instr.endRound (w.heap.size + 1) (some c)).run P Z = .ok v W' ∧
          ((v = .bool true ∧ (I (pre ++ [x]) W' ∧ W'.heap[w.heap.size + 1]? = some (.loop (L .ready none)) ∧ W'.heap[w.heap.size]? = some (.deferred (some []))) ∧ Kp W W') ∨
           (v = .bool false ∧ ∃ c, Ix c (pre ++ [x]) W' ∧ W'.heap[w.heap.size + 1]? = some (.loop (L .done (some c))) ∧ W'.heap[w.heap.size]? = some (.deferred (some [])))) := fun c Z hz hi => by
        obtain ⟨hr, zl, zl', zd⟩ := fin (some c) Z hz
        exact ⟨_, _, hr, .inr ⟨rfl, c, (hIx c).putObj _ hi (by omega) zl rfl, zl', zd⟩⟩
      rintro e a3 Z hp
      cases e with
      | normal =>
        obtain ⟨hz, kz, iz⟩ := hp
        obtain ⟨hr, zl, zl', zd⟩ := fin none Z hz
        exact ⟨_, _, hr, .inl ⟨rfl, ⟨hI.putObj _ iz (by omega) zl rfl, zl', zd⟩, hKt kp (hKt (hKt uK kz) (hKb _ _ _ _ zl rfl))⟩⟩
      | ret =>
        obtain ⟨hr, zl, zl', zd⟩ := fin (some .ret) Z hp.1
        exact ⟨_, _, hr, .inr ⟨rfl, .ret, (hIx _).putObj _ hp.2 (by omega) zl rfl, zl', zd⟩⟩
      | exit id =>
        obtain ⟨hr, zl, zl', zd⟩ := fin (some (.exit id)) Z hp.1
        exact ⟨_, _, hr, .inr ⟨rfl, .exit id, (hIx _).putObj _ hp.2 (by omega) zl rfl, zl', zd⟩⟩
      | goto t =>
        obtain ⟨hr, zl, zl', zd⟩ := fin (some (.goto t)) Z hp.1
        exact ⟨_, _, hr, .inr ⟨rfl, .goto t, (hIx _).putObj _ hp.2 (by omega) zl rfl, zl', zd⟩⟩
      | panic ch => exact hp.elim
      | outgrown => exact hp.elim
    case behind =>
      rintro e V ⟨⟨v, rfl⟩, ⟨hi, hl, hd⟩ | ⟨pre, c, hi, hl, hd⟩⟩
      · have hr := run_endLoop (P := P) hl (by rw [hL]; simp)
        rw [hL] at hr
        exact ⟨none, _, hr, hdone _ _ (Nat.le_refl _) (hI.putObj _ hi (by omega) hl rfl) ((World.putObj_heap_other (by omega)).trans hd)⟩
      · have hr := run_endLoop (P := P) hl (by rw [hL]; simp)
        rw [hL] at hr
        exact ⟨some c, _, hr, hstop _ c pre _ (Nat.le_refl _) ((hIx c).putObj _ hi (by omega) hl rfl) ((World.putObj_heap_other (by omega)).trans hd)⟩
/-! What a round keeps: cells that are no bytes, but for blocks from n₀ on below n₁. -/
def Kpt (n₀ n₁ : Nat) (W W' : World) : Prop := W.heap.size ≤ W'.heap.size ∧ ∀ k, ¬ (n₀ ≤ k ∧ k < n₁) → ∀ cs t fr, W.heap[k]? = some (.cells cs t fr) → t ≠ 5 → W'.heap[k]? = some (.cells cs t fr)
section
variable {n₀ n₁ : Nat} {A B C W : World}
theorem Kpt.refl (n₀ n₁ : Nat) (W : World) : Kpt n₀ n₁ W W := ⟨Nat.le_refl _, fun _ _ _ _ _ h _ => h⟩
theorem Kpt.trans (h : Kpt n₀ n₁ A B) (k : Kpt n₀ n₁ B C) : Kpt n₀ n₁ A C := ⟨Nat.le_trans h.1 k.1, fun i hi cs t fr hc ht => k.2 i hi cs t fr (h.2 i hi cs t fr hc ht) ht⟩
theorem Kpt.put {l : Nat} {o : Obj} (o' : Obj) (h : W.heap[l]? = some o) (hc : o.isCells = false) : Kpt n₀ n₁ W (W.putObj l o') :=
  ⟨by have := (grownBy_putObj' W l o').size; exact this, fun k _ cs t fr hk _ => by
    refine (World.putObj_heap_other (fun e => ?_)).trans hk
    subst e
    rw [h] at hk
    cases hk; cases hc⟩
theorem Kpt.of_below (h : Below A.heap.size A B) : Kpt n₀ n₁ A B := ⟨h.size, fun k _ cs t fr hk _ => (h.block k (Array.getElem?_eq_some_iff.1 hk).1).trans hk⟩
theorem Kpt.set {p : Addr} (v : Value) (hp : n₀ ≤ p.block ∧ p.block < n₁) : Kpt n₀ n₁ W (W.setCell p v) :=
  ⟨by simp [World.setCell], fun k hk cs t fr hc _ => (Below.heap_setCell _ _ _ k (fun e => hk (by rw [e]; exact hp))).trans hc⟩
theorem Kpt.blk {g : Nat} {t : TypeId} {cs : Array Value} (h : Kpt n₀ n₁ A B) (hb : Wd.Blk A g t cs) (hg : ¬ (n₀ ≤ g ∧ g < n₁)) (ht : t ≠ 5) : Wd.Blk B g t cs := h.2 g hg cs t _ hb ht
theorem Kpt.boxed {g : Nat} {t : TypeId} {v : Value} (h : Kpt n₀ n₁ A B) (hb : Boxed A g t v) (hg : ¬ (n₀ ≤ g ∧ g < n₁)) (ht : t ≠ 5) : Boxed B g t v := h.2 g hg _ t _ hb ht
end
end Go.Proofs.YtilkgjpgoogiiaaGreat.Frm
namespace Go.Proofs.YtilkgjpgoogiiaaGreat.Frm
open Go.RowKit SpnM Spn FrmM Wd
attribute [local go_sem] Oper.semAt_some
structure Rgs (w : World) (A : Option Addr) (n c : Nat) (l : List R) : Prop where
  len : l.length = n
  cap : n ≤ c
  most : c ≤ maxLen
  lies : 0 < n → ∃ b o cs, A = some ⟨b, o, none⟩ ∧ Blk w b 101 cs ∧ ∀ k, k < n → cs[o + k * 2]? = some (.int .i64 (at_ l k).1) ∧ cs[o + k * 2 + 1]? = some (.int .i64 (at_ l k).2)
theorem Rgs.kpt {w w' : World} {A : Option Addr} {n c n₀ n₁ : Nat} {l : List R} (h : Rgs w A n c l) (k : Kpt n₀ n₁ w w') (hA : ∀ b, own A = some b → b < n₀) : Rgs w' A n c l :=
  ⟨h.len, h.cap, h.most, fun hn => by
    obtain ⟨b, o, cs, rfl, hb, hc⟩ := h.lies hn
    have := hA b rfl
    exact ⟨b, o, cs, rfl, k.blk hb (by omega) (by decide), hc⟩⟩
theorem Rgs.kept {w w' : World} {A : Option Addr} {n c : Nat} {l : List R} (h : Rgs w A n c l) (k : Kept w w') : Rgs w' A n c l :=
  ⟨h.len, h.cap, h.most, fun hn => by
    obtain ⟨b, o, cs, rfl, hb, hc⟩ := h.lies hn
    exact ⟨b, o, cs, rfl, hb.kept k, hc⟩⟩
theorem Rgs.set {w : World} {A : Option Addr} {n c tb : Nat} {l : List R} {u v : Int} (h : Rgs w A n c l) (hb : Boxed w tb 3 (.int .i64 u)) : Rgs (w.setCell ⟨tb, 0, none⟩ (.int .i64 v)) A n c l :=
  ⟨h.len, h.cap, h.most, fun hn => by
    obtain ⟨b, o, cs, rfl, hg, hc⟩ := h.lies hn
    refine ⟨b, o, cs, rfl, hg.far (p := ⟨tb, 0, none⟩) (fun e => ?_) _, hc⟩
    have e : b = tb := e
    subst e
    exact hg.ne_ hb (by decide) rfl⟩
theorem Rgs.of_row {w : World} {A : Option Addr} {n c : Nat} {l : List R} (h : Row w A n c l) : Rgs w A n c l :=
  ⟨h.len, h.cap.1, h.cap.2, fun hn => by
    rcases h.form with ⟨_, h0, _⟩ | ⟨g, cur, rfl, hb, _⟩
    · omega
    · refine ⟨g, 0, cur, rfl, hb, fun k hk => ⟨?_, ?_⟩⟩
      · rw [Nat.zero_add, ← hb.cell]; exact h.lo hk
      · rw [Nat.zero_add, ← hb.cell]; exact h.hi hk⟩
theorem Rgs.tail {w : World} {g n c : Nat} {l : List R} (h : Rgs w (some ⟨g, 0, none⟩) (n + 1) c l) : Rgs w (if c = 1 then some ⟨g, 0, none⟩ else some ⟨g, 2, none⟩) n (c - 1) l.tail :=
  ⟨by rw [List.length_tail, h.len]; rfl, by have := h.cap; omega, by have := h.most; omega, fun hn => by
    have hcap := h.cap
    obtain ⟨b, o, cs, e, hb, hc⟩ := h.lies (by omega)
    injection e with e
    injection e with e1 e2
    subst e1; subst e2
    rw [if_neg (by omega)]
    refine ⟨g, 2, cs, rfl, hb, fun k hk => ?_⟩
    have := hc (k + 1) (by omega)
    rw [show 0 + (k + 1) * 2 = 2 + k * 2 by omega] at this
    rw [show at_ l.tail k = at_ l (k + 1) by simp [at_, List.getD]]
    exact this⟩
def enct (p : Int × R) : Array Value := #[.int .i64 p.1, .agg #[.int .i64 p.2.1, .int .i64 p.2.2]]
theorem take_at {l : List R} {k : Nat} (h : k < l.length) : l.take (k + 1) = l.take k ++ [at_ l k] := by rw [at_of h, List.take_succ_eq_append_getElem h]
theorem tops_take {l : List R} {k : Nat} (h : k < l.length) (top : Int) : tops top (l.take (k + 1)) = tops top (l.take k) ++ [(topAt top (l.take k), at_ l k)] := by rw [take_at h, tops_snoc]
theorem tops_prefix {l : List R} {k : Nat} (h : k < l.length) (top : Int) : tops top (l.take k) ++ [(topAt top (l.take k), at_ l k)] <+: tops top l := by
  rw [← tops_take h]
  conv => rhs; rw [← List.take_append_drop (k + 1) l, tops_append]
  exact List.prefix_append _ _
theorem topAt_take {l : List R} {k : Nat} (h : k < l.length) (top : Int) : topAt top (l.take (k + 1)) = under (at_ l k) := by rw [take_at h, topAt_snoc]
theorem falling_in (n : Nat) (hn : 1 ≤ n) (ly rb tb n₀ n₁ m c : Nat) (top : Int) (A : Option Addr) (l : List R) (J Jx : List (Int × R) → World → Prop) (W : World)
    (hJ : OwnFrom W.heap.size J) (hJt : Turns tb J)
    (hY : ∀ pre x W1, J pre W1 → pre ++ [x] <+: tops top l → YieldAt Fence.wide (n - 1) Tryz.prog ly (enct x) W1 fun e W' =>
      (e = .returned (.bool true) ∧ J (pre ++ [x]) W' ∧ Kpt n₀ n₁ W1 W') ∨ (e = .returned (.bool false) ∧ Jx (pre ++ [x]) W'))
    (hr : W.cell? ⟨rb, 0, none⟩ = some (.slice A m c)) (ht : Boxed W tb 3 (.int .i64 top)) (hS : Rgs W A m c l) (hA : ∀ b, own A = some b → b < n₀) (htb : n₁ ≤ tb) (h01 : n₀ ≤ n₁) (h0 : J [] W) :
    CallsIn Fence.wide n Tryz.prog 122 #[.func (.yield ly) #[] #[], .pointer (some ⟨rb, 0, none⟩), .pointer (some ⟨tb, 0, none⟩)] W fun e W' => (∃ v, e = .returned v) ∧ (J (tops top l) W' ∨ ∃ pre, Jx pre W') := by
  have hl := hS.len
  have hcap := hS.cap
  have hmost := hS.most
  unfold maxLen at hmost
  have HS := Lib.hid hS
  have HA := Lib.hid hA
  have HY := Lib.hid hY
  have HT := Lib.hid ht
  have HL := Lib.hid hl
  have HJo := Lib.hid hJ
  have HJt := Lib.hid hJt
  have htl := ht.lt
  clear hS hA hY ht hl hJ hJt
  refine callsIn_of_wp Tryz.func122 rfl trivial ?_ rfl
  simp only [Tryz.ntmps122, List.size_toArray, List.length_cons, List.length_nil, Nat.reduceAdd, Nat.reduceSub, Array.replicate_succ, Array.replicate_zero, List.push_toArray, List.append_toArray, List.nil_append, List.cons_append]
  gi_wp2
  gi_loopw [8] (fun i wr => ∃ k : Nat, i = .int .i64 k ∧ k ≤ m ∧ Hid (Rgs wr A m c l) ∧ Hid (Boxed wr tb 3 (.int .i64 (topAt top (l.take k)))) ∧ Hid (J (tops top (l.take k)) wr) ∧ W.heap.size ≤ wr.heap.size) (fun i wr => m - (intOf i).toNat)
  case atStart => exact ⟨0, rfl, Nat.zero_le _, HS.out, by show Boxed _ _ _ _; exact HT.out, by show J _ _; exact h0, Nat.le_refl _⟩
  case round =>
    obtain ⟨k, rfl, hk, S1, T1, J1, hsz⟩ := hrel
    by_cases hlt : k < m
    · have hkl : k < l.length := by rw [HL.out]; exact hlt
      obtain ⟨b, o, cs, rfl, hb, hcs⟩ := S1.out.lies (by omega)
      obtain ⟨e1, e2⟩ := hcs k hlt
      have c1 := (hb.cell (o + k * 2)).trans e1
      have c2 := (hb.cell (o + k * 2 + 1)).trans e2
      have t1 := T1.out.cell
      have HX := Lib.hid (topAt_take hkl top)
      have HTk := Lib.hid (tops_take hkl top)
      have HP := Lib.hid (tops_prefix hkl top)
      clear hcs e1 e2
      generalize hxx : at_ l k = x at *
      generalize htt : topAt top (l.take k) = tk at *
      have J2 := (HJo.out).alloc (.cells #[.int .i64 x.1, .int .i64 x.2] 101) (s := tops top (l.take k)) J1.out
      obtain ⟨fn, tmps, assign, body, hy, hR⟩ := HY.out _ (tk, x) _ J2 HP.out
      have HR := Lib.hid hR
      have hBx : Blk (wr.alloc (.cells #[.int .i64 x.1, .int .i64 x.2] 101)) wr.heap.size 101 #[.int .i64 x.1, .int .i64 x.2] := Blk.new _ _ _
      have HB := Lib.hid hBx
      have t2 := (T1.out.alloc (.cells #[.int .i64 x.1, .int .i64 x.2] 101)).cell
      have HT2 := Lib.hid (T1.out.alloc (.cells #[.int .i64 x.1, .int .i64 x.2] 101))
      have HS2 := Lib.hid (S1.out.kept ((Kept.refl wr).alloc (.cells #[.int .i64 x.1, .int .i64 x.2] 101)))
      have hu : Hid (under x = IntKind.i64.wrap (x.1 - 2)) := Lib.hid rfl
      clear J2 hR hBx hb
      unfold enct at hy
      simp only at hy
      generalize hxa : x.1 = a at *
      generalize hxb : x.2 = b' at *
      clear hxa hxb
      gi_wp2
      refine HR.out.mono ?_
      rintro e W3 (⟨rfl, hJ3, hk3⟩ | ⟨rfl, hJx3⟩)
      · have S3 := Lib.hid (HS2.out.kpt hk3 HA.out)
        have B3 := Lib.hid (hk3.blk HB.out (by omega) (by decide))
        have T3 := Lib.hid (hk3.boxed HT2.out (by omega) (by decide))
        have b3 := B3.out.cell 0
        have f3 := T3.out.frozen
        have g3 := T3.out.cell
        have hz3 := hk3.1
        rw [World.size_alloc] at hz3
        have HJ := Lib.hid hJ3
        clear hJ3 hk3 c1 c2 t1 t2 hy
        gi_wp2
        go_roundw
        case rel =>
          refine ⟨k + 1, rfl, by omega, S3.out.set T3.out, ?_, ?_, by simp; omega⟩
          · show Boxed _ _ _ _; rw [HX.out, hu.out, IntWalk.i64_left]; exact T3.out.set _
          · show J _ _; rw [HTk.out]; exact HJt.out _ _ _ HJ.out T3.out _
        case measure => first | (simp [intOf]; done) | (simp [intOf]; omega)
      · have HJ := Lib.hid hJx3
        clear hJx3
        gi_wp2
        refine bodyPost_ret (results_none rfl _ _ _) rfl ?_
        exact ⟨⟨_, rfl⟩, .inr ⟨_, HJ.out⟩⟩
    · obtain rfl : k = m := by omega
      have hJ : Hid (J (tops top l) wr) := by show J _ _; have := J1.out; rwa [← HL.out, List.take_length] at this
      clear J1 T1 S1
      gi_wp2
      go_end0
      exact ⟨⟨_, rfl⟩, .inl hJ.out⟩
theorem falling_hands (n : Nat) (hn : 1 ≤ n) (rb tb n₀ n₁ m c : Nat) (top : Int) (A : Option Addr) (l : List R) (w : World)
    (hr : w.cell? ⟨rb, 0, none⟩ = some (.slice A m c)) (ht : Boxed w tb 3 (.int .i64 top)) (hS : Rgs w A m c l) (hA : ∀ b, own A = some b → b < n₀) (htb : n₁ ≤ tb) (h01 : n₀ ≤ n₁) :
    Hands Fence.wide n Tryz.prog 122 #[.pointer (some ⟨rb, 0, none⟩), .pointer (some ⟨tb, 0, none⟩)] enct (Kpt n₀ n₁) tb (tops top l) w := fun ly J Jx W hW hJ hJt hY h0 =>
  falling_in n hn ly rb tb n₀ n₁ m c top A l J Jx W hJ hJt hY ((Below.cell hW (p := ⟨rb, 0, none⟩) (World.block_lt_of_cell? _ _ hr)).trans hr) ((hW.block tb ht.lt).trans ht) (hS.kept hW) hA htb h01 h0
theorem falling_any (A : Option Addr) (m c : Nat) (top : Int) (w : World) : Calls Tryz.prog 92 #[.slice A m c, .int .i64 top] w fun e w' =>
    e = .returned (.func (.func 122) #[] #[.pointer (some ⟨w.heap.size, 0, none⟩), .pointer (some ⟨w.heap.size + 1, 0, none⟩)]) ∧ w' = (w.alloc (.cells #[.slice A m c] 33)).alloc (.cells #[.int .i64 top] 3) := by
  go_enter Tryz.func92, Tryz.ntmps92
  go_wp2
  go_ret
  exact ⟨rfl, rfl⟩
end Go.Proofs.YtilkgjpgoogiiaaGreat.Frm
namespace Go.Proofs.YtilkgjpgoogiiaaGreat.Frm
open Go.RowKit SpnM Spn FrmM Wd
attribute [local go_sem] Oper.semAt_some
theorem is_yes (n : Int) (w : World) (h : num n) : Calls Tryz.prog 91 #[.int .i64 n] w fun e w' => e = .returned (.bool true) ∧ w = w' := by
  have := Sat.is_any n w
  rwa [show Sat.isB n = true from decide_eq_true h] at this
theorem is_no (n : Int) (w : World) (h : ¬ num n) : Calls Tryz.prog 91 #[.int .i64 n] w fun e w' => e = .returned (.bool false) ∧ w = w' := by
  have := Sat.is_any n w
  rwa [show Sat.isB n = false from decide_eq_false h] at this
def ackV (A : Option Addr) (n c : Nat) (a : Ack) : Value := .agg #[.int .i64 a.delay, .slice A n c, .bool a.marked, .int .i64 a.m0, .int .i64 a.m1, .int .i64 a.m2]
def Two (W : World) (B : Nat) (x : R) : Prop := Blk W B 101 #[.int .i64 x.1, .int .i64 x.2]
theorem two_own (B : Nat) (x : R) : Go.Own (fun (_ : Unit) W => Two W B x) := fun s X Y row hs hg hr => by
  refine (hg.block B hs.lt (fun e => ?_)).trans hs
  obtain ⟨o, ho, hc⟩ := hr B e.symm
  rw [show X.heap[B]? = _ from hs] at ho
  cases ho; cases hc
theorem blk_own {β : Type} (g : Nat) (t : TypeId) (cs : Array Value) : Go.Own (fun (_ : β) W => Blk W g t cs) := fun s X Y row hs hg hr => by
  refine (hg.block g hs.lt (fun e => ?_)).trans hs
  obtain ⟨o, ho, hc⟩ := hr g e.symm
  rw [show X.heap[g]? = _ from hs] at ho
  cases ho; cases hc
theorem below_own (w : World) (B : Nat) (h : w.heap.size ≤ B) : OwnFrom B (fun (_ : Unit) W => Below w.heap.size w W) := fun _ X Y row hs hg hr =>
  hs.grown hg hs.size (fun k e => Nat.le_trans h (hr k e).1)
def AllFit (pre : List (Int × R)) : Prop := ∀ p ∈ pre, fits p
theorem allFit_nil : AllFit [] := fun _ h => by cases h
def mk3 (m0 m1 m2 : Int) (j : Nat) : Int := if j = 0 then m0 else if j = 1 then m1 else m2
def okm (k : Bool) (v : Int) : Prop := num v ∧ (k = false → v = 0)
theorem idx3_0 (m0 m1 m2 : Int) (w : World) : (Instr.index 34 (.agg #[.int .i64 m0, .int .i64 m1, .int .i64 m2]) (.int .i64 0)).run Tryz.prog w = .ok (.int .i64 m0) w := by kernel_rfl
theorem idx3_1 (m0 m1 m2 : Int) (w : World) : (Instr.index 34 (.agg #[.int .i64 m0, .int .i64 m1, .int .i64 m2]) (.int .i64 1)).run Tryz.prog w = .ok (.int .i64 m1) w := by kernel_rfl
theorem idx3_2 (m0 m1 m2 : Int) (w : World) : (Instr.index 34 (.agg #[.int .i64 m0, .int .i64 m1, .int .i64 m2]) (.int .i64 2)).run Tryz.prog w = .ok (.int .i64 m2) w := by kernel_rfl
theorem idx3 (m0 m1 m2 : Int) (j : Nat) (h : j < 3) (w : World) : (Instr.index 34 (.agg #[.int .i64 m0, .int .i64 m1, .int .i64 m2]) (.int .i64 (j : Int))).run Tryz.prog w = .ok (.int .i64 (mk3 m0 m1 m2 j)) w := by
  have : j = 0 ∨ j = 1 ∨ j = 2 := by omega
  rcases this with rfl | rfl | rfl
  · exact idx3_0 m0 m1 m2 w
  · exact idx3_1 m0 m1 m2 w
  · exact idx3_2 m0 m1 m2 w
theorem okm_all {d m0 m1 m2 : Int} {l : List R} {k : Bool} (h : ∀ j, j < 3 → okm k (mk3 m0 m1 m2 j)) : Marks ⟨d, l, k, m0, m1, m2⟩ := by
  have h0 := h 0 (by omega)
  have h1 := h 1 (by omega)
  have h2 := h 2 (by omega)
  simp only [mk3, okm] at h0 h1 h2
  simp at h0 h1 h2
  exact ⟨h0.1, h1.1, h2.1, fun e => ⟨h0.2 e, h1.2 e, h2.2 e⟩⟩
theorem okm_of {d m0 m1 m2 : Int} {l : List R} {k : Bool} (h : Marks ⟨d, l, k, m0, m1, m2⟩) {j : Nat} (hj : j < 3) : okm k (mk3 m0 m1 m2 j) := by
  obtain ⟨h0, h1, h2, h3⟩ := h
  have : j = 0 ∨ j = 1 ∨ j = 2 := by omega
  rcases this with rfl | rfl | rfl
  · exact ⟨h0, fun e => (h3 e).1⟩
  · exact ⟨h1, fun e => (h3 e).2.1⟩
  · exact ⟨h2, fun e => (h3 e).2.2⟩
def headOk (m : Nat) (d : Int) : Prop := 1 ≤ m ∧ m ≤ 256 ∧ num d
theorem check_falls (n : Nat) (hn : 3 ≤ n) (A : Option Addr) (m c : Nat) (l : List R) (d m0 m1 m2 : Int) (k : Bool) (w : World) (hS : Rgs w A m c l) (hA : ∀ b, own A = some b → b < w.heap.size) (hh : headOk m d) :
    CallsIn Fence.wide n Tryz.prog 53 #[.agg #[.int .i64 d, .slice A m c, .bool k, .int .i64 m0, .int .i64 m1, .int .i64 m2]] w fun e w' => e = .returned (.int .i64 (check ⟨d, l, k, m0, m1, m2⟩)) ∧ Below w.heap.size w w' := by
  have h1 : 1 ≤ n := by omega
  obtain ⟨g1, g2, g3⟩ := hh
  have hz : ((m : Int) == 0) = false := by simp; omega
  have HS := Lib.hid hS
  have HA := Lib.hid hA
  have HN := Lib.hid g3
  clear hS hA g3
  have hfn : Fence.wide.fn 92 := trivial
  have hfi : Fence.wide.fn 91 := trivial
  refine callsIn_of_wp_marks Tryz.func53 rfl trivial ?_ rfl
  simp only [Tryz.ntmps53, List.size_toArray, List.length_cons, List.length_nil, Nat.reduceAdd, Nat.reduceSub, Array.replicate_succ, Array.replicate_zero, List.push_toArray, List.append_toArray, List.nil_append, List.cons_append]
  gi_wp2_with (first
    | (gi_at_call 91; refine (callsIn_wide.2 (is_yes _ _ HN.out)).mono ?_; rintro e w' ⟨rfl, rfl⟩)
    | (gi_at_call 92; refine (callsIn_wide.2 (falling_any _ _ _ _ _)).mono ?_; rintro e w' ⟨rfl, rfl⟩))
  have hB0 : Below w.heap.size w ((((w.alloc (.cells #[.int .i64 d, .slice A m c, .bool k, .int .i64 m0, .int .i64 m1, .int .i64 m2] 36)).alloc (.cells #[.int .i64 0] 24)).alloc (.cells #[.slice A m c] 33)).alloc (.cells #[.int .i64 9007199254740991] 3)) :=
    ((((Below.refl _ w).alloc (Nat.le_refl _) _).alloc (by simp) _).alloc (by simp; omega) _).alloc (by simp; omega) _
  have b1 := Blk.new w 36 #[.int .i64 d, .slice A m c, .bool k, .int .i64 m0, .int .i64 m1, .int .i64 m2]
  obtain ⟨w1, hw1⟩ : ∃ w1, w.alloc (.cells #[.int .i64 d, .slice A m c, .bool k, .int .i64 m0, .int .i64 m1, .int .i64 m2] 36) = w1 := ⟨_, rfl⟩
  have s1 : w1.heap.size = w.heap.size + 1 := by rw [← hw1]; simp
  rw [hw1] at hB0 b1 ⊢
  have b2 := Blk.new w1 24 #[.int .i64 0]
  have b1' := b1.kept ((Kept.refl w1).alloc (.cells #[.int .i64 0] 24))
  obtain ⟨w2, hw2⟩ : ∃ w2, w1.alloc (.cells #[.int .i64 0] 24) = w2 := ⟨_, rfl⟩
  have s2 : w2.heap.size = w.heap.size + 2 := by rw [← hw2]; simp; omega
  rw [s1] at b2
  rw [hw2] at hB0 b2 b1' ⊢
  have b3 := cell_box w2 (.slice A m c) 33
  have b2' := b2.kept ((Kept.refl w2).alloc (.cells #[.slice A m c] 33))
  have b1'' := b1'.kept ((Kept.refl w2).alloc (.cells #[.slice A m c] 33))
  obtain ⟨w3, hw3⟩ : ∃ w3, w2.alloc (.cells #[.slice A m c] 33) = w3 := ⟨_, rfl⟩
  have s3 : w3.heap.size = w.heap.size + 3 := by rw [← hw3]; simp; omega
  rw [s2] at b3
  rw [hw3] at hB0 b3 b2' b1'' ⊢
  have kk := (Kept.refl w3).alloc (.cells #[.int .i64 9007199254740991] 3)
  have b4 := Boxed.new w3 3 (.int .i64 9007199254740991)
  have bE := b2'.kept kk
  have bA := b1''.kept kk
  have bR := kk.cell b3
  have s4 : (w3.alloc (.cells #[.int .i64 9007199254740991] 3)).heap.size = w.heap.size + 4 := by simp; omega
  rw [s3] at b4
  obtain ⟨W0, hW0⟩ : ∃ W0, w3.alloc (.cells #[.int .i64 9007199254740991] 3) = W0 := ⟨_, rfl⟩
  rw [hW0] at hB0 b4 bE bA bR s4 ⊢
  clear b1 b2 b3 b1' b2' b1'' kk hw1 hw2 hw3 hW0 s1 s2 s3 w1 w2 w3
  have HSeq := Lib.hid (falling_hands (n - 1) (by omega) (w.heap.size + 2) (w.heap.size + 3) w.heap.size (w.heap.size + 2) m c 9007199254740991 A l W0 bR b4 (HS.out.kept hB0) HA.out (by omega) (by omega))
  refine range_hands rfl h1 (gf := 122) (lb := #[.pointer (some ⟨w.heap.size + 2, 0, none⟩), .pointer (some ⟨w.heap.size + 3, 0, none⟩)]) rfl trivial (enters_of Tryz.func122 (by kernel_rfl) rfl)
    HSeq.out Kpt.trans (fun W l o o' h hc => Kpt.put o' h hc) (Below.refl _ _) (fun _ => rfl)
    (fun pre W => Blk W (w.heap.size + 1) 24 #[.int .i64 0] ∧ Blk W w.heap.size 36 #[.int .i64 d, .slice A m c, .bool k, .int .i64 m0, .int .i64 m1, .int .i64 m2] ∧ (Below w.heap.size w W ∧ w.heap.size + 4 ≤ W.heap.size) ∧ AllFit pre)
    (fun c pre W => c = .ret ∧ Blk W (w.heap.size + 1) 24 #[.int .i64 2] ∧ Below w.heap.size w W ∧ Hid (¬ falls M l))
    (fun s X Y row hs hg hr => ⟨blk_own _ _ _ s X Y row hs.1 hg (fun r e => (hr r e).2), blk_own _ _ _ s X Y row hs.2.1 hg (fun r e => (hr r e).2), ⟨below_own w W0.heap.size (by omega) () X Y row hs.2.2.1.1 hg hr, Nat.le_trans hs.2.2.1.2 hg.size⟩, hs.2.2.2⟩)
    (fun s W u hs hb v => ⟨hs.1.far (p := ⟨w.heap.size + 3, 0, none⟩) (by simp) _, hs.2.1.far (p := ⟨w.heap.size + 3, 0, none⟩) (by simp) _, ⟨hs.2.2.1.1.setCell (p := ⟨w.heap.size + 3, 0, none⟩) (by simp) _, by simpa using hs.2.2.1.2⟩, hs.2.2.2⟩)
    (fun c s X Y row hs hg hr => ⟨hs.1, blk_own _ _ _ s X Y row hs.2.1 hg (fun r e => (hr r e).2), below_own w W0.heap.size (by omega) () X Y row hs.2.2.1 hg hr, hs.2.2.2⟩)
    ⟨bE, bA, ⟨hB0, by omega⟩, allFit_nil⟩
    (fun x a' W => ∃ Bx, w.heap.size + 4 ≤ Bx ∧ Two W Bx x.2 ∧ a' = { tmps := #[.agg #[.int .i64 d, .slice A m c, .bool k, .int .i64 m0, .int .i64 m1, .int .i64 m2], .pointer (some ⟨w.heap.size, 0, none⟩), .pointer (some ⟨w.heap.size + 1, 0, none⟩), .int .i64 x.1, .pointer (some ⟨Bx, 0, none⟩), undef, undef, .pointer (some ⟨w.heap.size, 1, none⟩), .slice A m c, .int .i64 m, .bool false, .bool false, .pointer (some ⟨w.heap.size, 1, none⟩), .slice A m c, .int .i64 m, .bool (decide (256 < (m : Int))), .bool (decide (256 < (m : Int))), .bool (decide (256 < (m : Int))), .pointer (some ⟨w.heap.size, 0, none⟩), .int .i64 d, .bool true, .bool false, .bool (decide (256 < (m : Int))), .pointer (some ⟨w.heap.size, 1, none⟩), .slice A m c, .func (.func 122) #[] #[.pointer (some ⟨w.heap.size + 1 + 1, 0, none⟩), .pointer (some ⟨w.heap.size + 1 + 1 + 1, 0, none⟩)], .int .i64 x.1, .agg #[.int .i64 x.2.1, .int .i64 x.2.2], undef, undef, undef, undef, undef, undef, undef, undef, undef, undef, undef, undef, undef, undef, undef, undef, undef, undef, undef, undef, undef, undef, undef, undef, undef, undef, undef, undef, undef, undef, undef, undef, undef, undef], defers := [] })
    (fun x a' _ X Y row hs hg hr => by obtain ⟨Bx, g1, g2, g3⟩ := hs; exact ⟨Bx, g1, two_own Bx x.2 () X Y row g2 hg (fun r e => (hr r e).2), g3⟩)
    ?assign ?body ?done ?stop
  case assign =>
    rintro ly pre x W K ⟨hE, hA, ⟨hB1, hs1⟩, hp⟩ hK
    simp only [enct]
    gi_wp2
    have kk := (Kept.refl W).alloc (.cells #[.int .i64 x.2.1, .int .i64 x.2.2] 101)
    exact hK _ _ ((KeepsOthers.alloc _ _).from _) (Kpt.of_below kk) ⟨hE.kept kk, hA.kept kk, ⟨hB1.alloc hB1.size _, by simp; omega⟩, hp⟩ ⟨W.heap.size, by omega, Blk.new W _ _, rfl⟩
  case body =>
    rintro ly pre x a' W ⟨hE, hA, ⟨hB1, hs1⟩, hp⟩ ⟨Bx, hBx, bX, rfl⟩ hpre
    have hc := hE.cell 0
    have hfz := hE.frozen 0
    have hx0 : W.cell? ⟨Bx, 0, none⟩ = some (.int .i64 x.2.1) := bX.cell 0
    have hx1 : W.cell? ⟨Bx, 1, none⟩ = some (.int .i64 x.2.2) := bX.cell 1
    have hE2 := Lib.hid (hE.set_ 0 (.int .i64 2))
    have hB2 := Lib.hid (hB1.setCell (p := ⟨w.heap.size + 1, 0, none⟩) (by simp) (.int .i64 2))
    have hK2 := Lib.hid (Kpt.refl w.heap.size (w.heap.size + 2) W)
    have HI : Hid (Blk W (w.heap.size + 1) 24 #[.int .i64 0] ∧ Blk W w.heap.size 36 #[.int .i64 d, .slice A m c, .bool k, .int .i64 m0, .int .i64 m1, .int .i64 m2] ∧ (Below w.heap.size w W ∧ w.heap.size + 4 ≤ W.heap.size) ∧ AllFit pre) := Lib.hid ⟨hE, hA, ⟨hB1, hs1⟩, hp⟩
    have HF : Hid (fits x → AllFit (pre ++ [x])) := Lib.hid (fun q p hp' => by rcases List.mem_append.1 hp' with h | h; exact hp p h; rw [List.mem_singleton.1 h]; exact q)
    have HG : Hid (¬ fits x → ¬ falls M l) := Lib.hid (fun q hf => q (hf x (hpre.subset (by simp))))
    have HX : Hid (fits x ↔ 0 ≤ x.2.1 ∧ x.2.1 ≤ x.2.2 ∧ x.2.2 ≤ x.1) := Lib.hid Iff.rfl
    clear hE hA hB1 hp bX hpre
    generalize hxt : x.1 = tp at *
    generalize hxa : x.2.1 = lo at *
    generalize hxb : x.2.2 = hi at *
    clear hxt hxa hxb
    gi_wp2
    all_goals first
      | exact ⟨(KeepsOthers.setCell _ _ _).from _, rfl, hE2.out, hB2.out, Lib.hid (HG.out (fun q => by have := HX.out.1 q; omega))⟩
      | exact ⟨KeepsFrom.refl _ _, hK2.out, HI.out.1, HI.out.2.1, HI.out.2.2.1, HF.out (HX.out.2 (by omega))⟩
  case done =>
    rintro D W hD ⟨hE, hA, ⟨hB1, hs1⟩, hp⟩ hK
    have a2 := hA.cell 2
    have a3 := hA.cell 3
    have a4 := hA.cell 4
    have a5 := hA.cell 5
    have e0 := hE.cell 0
    have ef := hE.frozen 0
    have HK2 := Lib.hid ((KeepsOthers.setCell W ⟨w.heap.size + 1, 0, none⟩ (.int .i64 2)).same D _ hK rfl)
    have HK0 := Lib.hid ((KeepsOthers.setCell W ⟨w.heap.size + 1, 0, none⟩ (.int .i64 0)).same D _ hK rfl)
    have H2 := Lib.hid (hE.set_ 0 (.int .i64 2))
    have H0 := Lib.hid (hE.set_ 0 (.int .i64 0))
    have HB2 := Lib.hid (hB1.setCell (p := ⟨w.heap.size + 1, 0, none⟩) (by simp) (.int .i64 2))
    have HB0 := Lib.hid (hB1.setCell (p := ⟨w.heap.size + 1, 0, none⟩) (by simp) (.int .i64 0))
    have HC := Lib.hid (show (∀ j, j < 3 → okm k (mk3 m0 m1 m2 j)) → check ⟨d, l, k, m0, m1, m2⟩ = 0 from fun h => check_ok ⟨⟨by rw [HS.out.len]; exact g1, by rw [HS.out.len]; exact g2, HN.out⟩, hp, okm_all h⟩)
    have HD := Lib.hid (show ∀ j, j < 3 → ¬ okm k (mk3 m0 m1 m2 j) → check ⟨d, l, k, m0, m1, m2⟩ = 2 from fun j hj h => check_not (fun q => h (okm_of q.2.2 hj)))
    have hDD : w.heap.size ≤ D := by omega
    clear hE hA hB1 hp hK HSeq hB0 b4 bE bA bR HS HA HN
    gi_wp2
    gi_loopw [46] (fun i wr => ∃ j : Nat, i = .int .i64 j ∧ j ≤ 3 ∧ wr = W ∧ Hid (∀ i, i < j → okm k (mk3 m0 m1 m2 i))) (fun i wr => 3 - (intOf i).toNat)
    case atStart => exact ⟨0, rfl, by omega, rfl, fun i h => by omega⟩
    case round =>
      obtain ⟨j, rfl, hj, rfl, HO⟩ := hrel
      by_cases hlt : j < 3
      · have hidx := idx3 m0 m1 m2 j hlt
        have HDj := Lib.hid (HD.out j hlt)
        have HOj : Hid (okm k (mk3 m0 m1 m2 j) → ∀ i, i < j + 1 → okm k (mk3 m0 m1 m2 i)) := Lib.hid (fun q i hi => by rcases Nat.lt_succ_iff_lt_or_eq.1 hi with h | h; exact HO.out i h; rw [h]; exact q)
        have hlt' : (j : Int) < 3 := by omega
        clear HD
        generalize mk3 m0 m1 m2 j = v at *
        by_cases hv : num v
        · have HV := Lib.hid hv
          by_cases hz0 : v = 0
          · subst hz0
            clear hv
            gi_wp2_with (gi_at_call 91; refine (callsIn_wide.2 (is_yes _ _ HV.out)).mono ?_; rintro e w' ⟨rfl, rfl⟩)
            go_roundw
            case rel => exact ⟨j + 1, rfl, by omega, by first | rfl | trivial, HOj.out ⟨HV.out, fun _ => rfl⟩⟩
            case measure => first | (simp [intOf]; done) | (simp [intOf]; omega)
          · have hz1 : (v == 0) = false := by simp [hz0]
            have HZ := Lib.hid hz0
            clear hv hz0
            cases k with
            | true =>
              gi_wp2_with (gi_at_call 91; refine (callsIn_wide.2 (is_yes _ _ HV.out)).mono ?_; rintro e w' ⟨rfl, rfl⟩)
              go_roundw
              case rel => exact ⟨j + 1, rfl, by omega, by first | rfl | trivial, HOj.out ⟨HV.out, fun h => by cases h⟩⟩
              case measure => first | (simp [intOf]; done) | (simp [intOf]; omega)
            | false =>
              gi_wp2_with (gi_at_call 91; refine (callsIn_wide.2 (is_yes _ _ HV.out)).mono ?_; rintro e w' ⟨rfl, rfl⟩)
              have hc5 := cell_kept (H2.out.cell 0) (grownBy_putObj' _ D (.deferred none)) (fun r e => by cases e; exact ⟨_, HK2.out, rfl⟩)
              refine ⟨by simp, .inl ⟨_, _, rfl, run_takeDeferred HK2.out, ?_⟩⟩
              refine ⟨.int .i64 2, ?_, by rw [HDj.out (fun q => HZ.out (q.2 rfl))], HB2.out.trans (belowK_b (w := w) (Nat.le_refl _) _ D _ _ (by omega) HK2.out rfl rfl)⟩
              simp [results, Tryz.f53, go_sem, hc5]
        · have HV := Lib.hid hv
          clear hv
          gi_wp2_with (gi_at_call 91; refine (callsIn_wide.2 (is_no _ _ HV.out)).mono ?_; rintro e w' ⟨rfl, rfl⟩)
          have hc5 := cell_kept (H2.out.cell 0) (grownBy_putObj' _ D (.deferred none)) (fun r e => by cases e; exact ⟨_, HK2.out, rfl⟩)
          refine ⟨by simp, .inl ⟨_, _, rfl, run_takeDeferred HK2.out, ?_⟩⟩
          refine ⟨.int .i64 2, ?_, by rw [HDj.out (fun q => HV.out q.1)], HB2.out.trans (belowK_b (w := w) (Nat.le_refl _) _ D _ _ (by omega) HK2.out rfl rfl)⟩
          simp [results, Tryz.f53, go_sem, hc5]
      · obtain rfl : j = 3 := by omega
        gi_wp2
        have hc5 := cell_kept (H0.out.cell 0) (grownBy_putObj' _ D (.deferred none)) (fun r e => by cases e; exact ⟨_, HK0.out, rfl⟩)
        refine ⟨by simp, .inl ⟨_, _, rfl, run_takeDeferred HK0.out, ?_⟩⟩
        refine ⟨.int .i64 0, ?_, by rw [HC.out HO.out], HB0.out.trans (belowK_b (w := w) (Nat.le_refl _) _ D _ _ (by omega) HK0.out rfl rfl)⟩
        simp [results, Tryz.f53, go_sem, hc5]
  case stop =>
    rintro D c pre W hD ⟨rfl, hE, hB1, hp⟩ hK
    have HK := Lib.hid hK
    have hc5 := cell_kept (hE.cell 0) (grownBy_putObj' _ D (.deferred none)) (fun r e => by cases e; exact ⟨_, hK, rfl⟩)
    have HB1 := Lib.hid hB1
    have HC := Lib.hid (check_not (a := ⟨d, l, k, m0, m1, m2⟩) (fun h => hp.out h.2.1))
    clear hK hB1 hp
    gi_wp2
    refine ⟨by simp, .inl ⟨_, _, rfl, run_takeDeferred HK.out, ?_⟩⟩
    refine ⟨.int .i64 2, ?_, by rw [HC.out], HB1.out.trans (belowK_b (w := w) (Nat.le_refl _) W D _ _ (by omega) HK.out rfl rfl)⟩
    simp [results, Tryz.f53, go_sem, hc5]
theorem check_head (n : Nat) (hn : 3 ≤ n) (A : Option Addr) (m c : Nat) (d m0 m1 m2 : Int) (k : Bool) (w : World) (hm : m ≤ maxLen) (hh : ¬ headOk m d) :
    CallsIn Fence.wide n Tryz.prog 53 #[.agg #[.int .i64 d, .slice A m c, .bool k, .int .i64 m0, .int .i64 m1, .int .i64 m2]] w fun e w' => e = .returned (.int .i64 2) ∧ Below w.heap.size w w' := by
  unfold maxLen at hm
  have h1n : 1 ≤ n := by omega
  have hB : Hid (Below w.heap.size w ((w.alloc (.cells #[.int .i64 d, .slice A m c, .bool k, .int .i64 m0, .int .i64 m1, .int .i64 m2] 36)).alloc (.cells #[.int .i64 2] 24))) :=
    Lib.hid ((((Below.refl _ w).alloc (Nat.le_refl _) _).alloc (by simp) _))
  have hcell := cell_box2 w (.cells #[.int .i64 d, .slice A m c, .bool k, .int .i64 m0, .int .i64 m1, .int .i64 m2] 36) (.int .i64 2) 24
  have hfi : Fence.wide.fn 91 := trivial
  by_cases h0 : m = 0
  · subst h0
    clear hh hm
    refine callsIn_of_wp_marks Tryz.func53 rfl trivial ?_ rfl
    simp only [Tryz.ntmps53, List.size_toArray, List.length_cons, List.length_nil, Nat.reduceAdd, Nat.reduceSub, Array.replicate_succ, Array.replicate_zero, List.push_toArray, List.append_toArray, List.nil_append, List.cons_append]
    gi_wp2
    refine ⟨.int .i64 2, ?_, rfl, hB.out⟩
    simp [results, Tryz.f53, go_sem, hcell]
  · have hz : ((m : Int) == 0) = false := by simp; omega
    by_cases h1 : 256 < m
    · have h1' : decide ((256 : Int) < (m : Int)) = true := decide_eq_true (by omega)
      clear hh h0 h1
      refine callsIn_of_wp_marks Tryz.func53 rfl trivial ?_ rfl
      simp only [Tryz.ntmps53, List.size_toArray, List.length_cons, List.length_nil, Nat.reduceAdd, Nat.reduceSub, Array.replicate_succ, Array.replicate_zero, List.push_toArray, List.append_toArray, List.nil_append, List.cons_append]
      gi_wp2
      refine ⟨.int .i64 2, ?_, rfl, hB.out⟩
      simp [results, Tryz.f53, go_sem, hcell]
    · have HD := Lib.hid (show ¬ num d from fun h => hh ⟨by omega, by omega, h⟩)
      have h1' : (m : Int) ≤ 256 := by omega
      clear hh h0
      refine callsIn_of_wp_marks Tryz.func53 rfl trivial ?_ rfl
      simp only [Tryz.ntmps53, List.size_toArray, List.length_cons, List.length_nil, Nat.reduceAdd, Nat.reduceSub, Array.replicate_succ, Array.replicate_zero, List.push_toArray, List.append_toArray, List.nil_append, List.cons_append]
      gi_wp2_with (gi_at_call 91; refine (callsIn_wide.2 (is_no _ _ HD.out)).mono ?_; rintro e w' ⟨rfl, rfl⟩)
      refine ⟨.int .i64 2, ?_, rfl, hB.out⟩
      simp [results, Tryz.f53, go_sem, hcell]
theorem check_any (A : Option Addr) (m c : Nat) (a : Ack) (w : World) (hS : Rgs w A m c a.ranges) (hA : ∀ b, own A = some b → b < w.heap.size) :
    Calls Tryz.prog 53 #[ackV A m c a] w fun e w' => e = .returned (.int .i64 (check a)) ∧ Kept w w' := by
  by_cases hh : headOk m a.delay
  · exact callsIn_wide.1 (check_falls 3 (Nat.le_refl _) A m c a.ranges a.delay a.m0 a.m1 a.m2 a.marked w hS hA hh)
  · have hc : check a = 2 := check_not (fun h => hh ⟨by rw [← hS.len]; exact h.1.1, by rw [← hS.len]; exact h.1.2.1, h.1.2.2⟩)
    rw [hc]
    exact callsIn_wide.1 (check_head 3 (Nat.le_refl _) A m c a.delay a.m0 a.m1 a.m2 a.marked w (Nat.le_trans hS.cap hS.most) hh)
end Go.Proofs.YtilkgjpgoogiiaaGreat.Frm
namespace Go.Proofs.YtilkgjpgoogiiaaGreat.Frm
open Go.RowKit SpnM Spn FrmM
def ackA (A : Option Addr) (n c : Nat) (a : Ack) : Array Value := #[.int .i64 a.delay, .slice A n c, .bool a.marked, .int .i64 a.m0, .int .i64 a.m1, .int .i64 a.m2]
theorem two5 (w : World) (A B : Array Value) (a b : TypeId) : ∃ W, W = (w.alloc (.cells A a)).alloc (.cells B b) ∧ Wd.Blk W w.heap.size a A ∧ Wd.Blk W (w.heap.size + 1) b B ∧ Wd.Kept w W := by
  refine ⟨_, rfl, (Wd.Blk.new w a A).kept ((Wd.Kept.refl _).alloc _), ?_, ((Wd.Kept.refl w).alloc _).alloc _⟩
  have := Wd.Blk.new (w.alloc (.cells A a)) b B
  rw [World.size_alloc] at this
  exact this
end Go.Proofs.YtilkgjpgoogiiaaGreat.Frm
