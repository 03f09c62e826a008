/-
  The document's own Next: what it needs of its reader besides (num leaves other blocks alone; ranges behind an error; marks).
-/
import Derived.Test.YtganelhlpobdjaaDoorFrmG
import Derived.Test.YtganelhlpobdjaaDoorFrmQ
namespace Go.Proofs.YtganelhlpobdjaaDoor.Frm
open Go.RowKit SpnM Spn FrmM OctM Oct
set_option linter.unusedVariables false
set_option linter.unusedSimpArgs false

/-- Blocks other than two are as they were. -/
def Far2 (g b : Nat) (w w' : World) : Prop := w.heap.size ≤ w'.heap.size ∧ ∀ k, k < w.heap.size → k ≠ g → k ≠ b → w'.heap[k]? = w.heap[k]?
theorem Far2.refl (g b : Nat) (w : World) : Far2 g b w w := ⟨Nat.le_refl _, fun _ _ _ _ => rfl⟩
theorem Far2.set {g b : Nat} {w w' : World} (h : w.grownBy w' (some g)) (i : Nat) (v : Value) : Far2 g b w (w'.setCell ⟨b, i, none⟩ v) :=
  ⟨by simpa using h.size, fun k hk h1 h2 => by
    rw [Below.heap_setCell _ _ _ _ (fun e => h2 e)]
    exact h.block k hk (fun e => h1 (Option.some.inj e))⟩

set_option maxRecDepth 100000 in
set_option maxHeartbeats 1000000 in
theorem rsnum_ok2 {w W : World} {b g lo hi : Nat} {l : List Int} {mk : Bool} {rs : List R} (h : RS w W b g lo hi (l, 0) mk rs) :
    Calls Tryd.prog 47 #[.pointer (some ⟨b, 0, none⟩)] W fun e W' => e = .returned (.int .i64 (dnum l)) ∧ RS w W' b g lo hi (nx l, derr l) mk rs ∧ Far2 g b W W' := by
  obtain ⟨A, c, e, x, y⟩ := h
  obtain rfl := y rfl
  have X := Lib.hid x
  have d0 := x.blk.cell 0
  have d7 := x.blk.cell 7
  have hblt := x.lt
  have cn := Lib.hid (rnum_any g l 0 lo hi W x.rd)
  clear x y
  go_enter Tryd.func47, Tryd.ntmps47
  go_wp2_with fail
  refine cn.out.mono ?_
  rintro e W1 ⟨rfl, hr, hg⟩
  clear cn d0 d7 hblt
  have X1 := Lib.hid (X.out.inner hg hr)
  have HG := Lib.hid hg
  clear hr hg X
  have d0 := X1.out.blk.cell 0
  have d7 := X1.out.blk.cell 7
  have f7 := X1.out.blk.frozen 7
  have hblt := X1.out.lt
  obtain ⟨A2, n2, c2, _, _, p1, _⟩ := X1.out.rd.cells
  go_wp2_with fail
  go_ret
  exact ⟨rfl, ⟨A, c, _, X1.out.setE _, fun h => h⟩, Far2.set HG.out _ _⟩

/-- The next number, whatever happened before. -/
theorem rsnum_any {w W : World} {b g lo hi : Nat} {s : List Int × Int} {mk : Bool} {rs : List R} (h : RS w W b g lo hi s mk rs) :
    Calls Tryd.prog 47 #[.pointer (some ⟨b, 0, none⟩)] W fun e W' => e = .returned (.int .i64 (val1 s)) ∧ RS w W' b g lo hi (rstep s) mk rs ∧ Far2 g b W W' := by
  by_cases hs : s.2 = 0
  · obtain ⟨l, E⟩ := s
    simp only at hs
    subst hs
    exact rsnum_ok2 h
  · refine (rsnum_err h hs).mono ?_
    rintro e W' ⟨rfl, rfl⟩
    refine ⟨?_, ?_, Far2.refl _ _ _⟩
    · rw [show val1 s = 0 from rnum_err s.1 s.2 hs]
    · rw [show rstep s = s from Prod.ext (rrest_err s.1 s.2 hs) (rerr_err s.1 s.2 hs)]
      exact h

set_option maxRecDepth 100000 in
set_option maxHeartbeats 1000000 in
/-- Ranges behind an error: nothing happens. -/
theorem rsranges_err {w W : World} {b g lo hi : Nat} {s : List Int × Int} {mk : Bool} {rs : List R} (f k : Int) (h : RS w W b g lo hi s mk rs) (hs : s.2 ≠ 0) :
    Calls Tryd.prog 48 #[.pointer (some ⟨b, 0, none⟩), .int .i64 f, .int .i64 k] W fun e W' => e = .returned (.tuple #[]) ∧ W = W' := by
  have ca := Lib.hid (rsadd_err f h hs)
  obtain ⟨A, c, e, x, y⟩ := h
  have d7 := x.blk.cell 7
  have hz : (s.2 == 0) = false := by simp [hs]
  generalize s.2 = E at *
  clear x y hs
  by_cases hk : 0 < k
  · go_enter Tryd.func48, Tryd.ntmps48
    go_wp2_with fail
    refine ca.out.mono ?_
    rintro e W1 ⟨rfl, rfl⟩
    go_wp2_with fail
    refine wp_loop_rounds 1 ?_
    rw [rounds_succ]
    go_wp2_with fail
    refine bodyPost_end (results_none rfl _ _ _) rfl ⟨rfl, rfl⟩
  · go_enter Tryd.func48, Tryd.ntmps48
    go_wp2_with fail
    refine ca.out.mono ?_
    rintro e W1 ⟨rfl, rfl⟩
    go_wp2_with fail
    refine wp_loop_rounds 1 ?_
    rw [rounds_succ]
    go_wp2_with fail
    refine bodyPost_end (results_none rfl _ _ _) rfl ⟨rfl, rfl⟩

/-- The reader, and a block of three marks beside it. -/
structure NM (w W : World) (m b g lo hi : Nat) (s : List Int × Int) (mk : Bool) (rs : List R) (x0 x1 x2 : Int) : Prop where
  rs : RS w W b g lo hi s mk rs
  mb : Wd.Blk W m 23 #[.int .i64 x0, .int .i64 x1, .int .i64 x2]
  gt : b < m
section
variable {w W W' : World} {m b g lo hi : Nat} {s : List Int × Int} {mk : Bool} {rs : List R} {x0 x1 x2 : Int}
theorem RX.setM {l : List Int} {e E : Int} {A : Option Addr} {c : Nat} {cs : Array Value} (h : RX w W b g lo hi l e E mk rs A c) (hb : Wd.Blk W m 23 cs) (hm : b < m) (i : Nat) (v : Value) : RX w (W.setCell ⟨m, i, none⟩ v) b g lo hi l e E mk rs A c := by
  have hgl := h.glt
  have hlo := h.lo0
  have G := only_setRd W m i v
  refine ⟨h.blk.at_ (G.block b h.lt (fun e => by have := Option.some.inj e; omega)), rr_only h.rd G (fun i e => by have := Option.some.inj e; omega), h.row.kept G ?_, Wd.Kept.grown h.k G (fun i e => by have := Option.some.inj e; omega), h.lo0, h.hb⟩
  exact .inr fun e' => row_ne h.row hb (by decide) m e' rfl
theorem NM.rs' (h : NM w W m b g lo hi s mk rs x0 x1 x2) : RS w W b g lo hi s mk rs := h.rs
theorem NM.num (h : NM w W m b g lo hi s mk rs x0 x1 x2) : Calls Tryd.prog 47 #[.pointer (some ⟨b, 0, none⟩)] W fun e W' => e = .returned (.int .i64 (val1 s)) ∧ NM w W' m b g lo hi (rstep s) mk rs x0 x1 x2 := by
  refine (rsnum_any h.rs).mono ?_
  rintro e W' ⟨rfl, hr, hf⟩
  refine ⟨rfl, hr, ?_, h.gt⟩
  have hm := h.mb.lt
  obtain ⟨A, c, e, x, _⟩ := h.rs
  have := x.glt
  have := h.gt
  exact h.mb.at_ (hf.2 m hm (by omega) (by omega))
theorem NM.set0 (h : NM w W m b g lo hi s mk rs x0 x1 x2) (y : Int) : NM w (W.setCell ⟨m, 0, none⟩ (.int .i64 y)) m b g lo hi s mk rs y x1 x2 := by
  obtain ⟨A, c, e, x, hy⟩ := h.rs
  exact ⟨⟨A, c, e, x.setM h.mb h.gt 0 _, hy⟩, h.mb.set_ 0 _, h.gt⟩
theorem NM.set1 (h : NM w W m b g lo hi s mk rs x0 x1 x2) (y : Int) : NM w (W.setCell ⟨m, 1, none⟩ (.int .i64 y)) m b g lo hi s mk rs x0 y x2 := by
  obtain ⟨A, c, e, x, hy⟩ := h.rs
  exact ⟨⟨A, c, e, x.setM h.mb h.gt 1 _, hy⟩, h.mb.set_ 1 _, h.gt⟩
theorem NM.set2 (h : NM w W m b g lo hi s mk rs x0 x1 x2) (y : Int) : NM w (W.setCell ⟨m, 2, none⟩ (.int .i64 y)) m b g lo hi s mk rs x0 x1 y := by
  obtain ⟨A, c, e, x, hy⟩ := h.rs
  exact ⟨⟨A, c, e, x.setM h.mb h.gt 2 _, hy⟩, h.mb.set_ 2 _, h.gt⟩
theorem NM.k (h : NM w W m b g lo hi s mk rs x0 x1 x2) : Wd.Kept w W := by
  obtain ⟨A, c, e, x, hy⟩ := h.rs
  exact x.k
/-- What is to be known of it in a walk. -/
theorem NM.cells (h : NM w W m b g lo hi s mk rs x0 x1 x2) : ∃ A c, W.cell? ⟨b, 0, none⟩ = some (.pointer (some ⟨g, 0, none⟩)) ∧ W.cell? ⟨b, 1, none⟩ = some (.int .i64 0) ∧ W.cell? ⟨b, 2, none⟩ = some (.slice A rs.length c) ∧ W.cell? ⟨b, 3, none⟩ = some (.bool mk) ∧ W.cell? ⟨b, 4, none⟩ = some (.int .i64 0) ∧ W.cell? ⟨b, 5, none⟩ = some (.int .i64 0) ∧ W.cell? ⟨b, 6, none⟩ = some (.int .i64 0) ∧ W.cell? ⟨b, 7, none⟩ = some (.int .i64 s.2) ∧ b < W.heap.size ∧ W.ownsRow hi 36 2 (.slice A rs.length c) rs.length (flat rs) := by
  obtain ⟨A, c, e, x, hy⟩ := h.rs
  exact ⟨A, c, x.blk.cell 0, x.blk.cell 1, x.blk.cell 2, x.blk.cell 3, x.blk.cell 4, x.blk.cell 5, x.blk.cell 6, x.blk.cell 7, x.lt, x.row⟩
theorem NM.left2 (h : NM w W m b g lo hi s mk rs x0 x1 x2) {p : Nat} (hp : p < lo) {V : World} (k : Wd.Kept W V) (hg : V.grownBy W' (some p)) : Calls Tryd.prog 49 #[.pointer (some ⟨g, 0, none⟩)] W' fun e' w' => e' = .returned (.int .i64 s.1.length) ∧ W' = w' := by
  obtain ⟨A, c, e, x, hy⟩ := h.rs
  exact rleft_any g s.1 e lo hi W' (rr_only (x.rd.kept k) hg (fun i e => by have := Option.some.inj e; omega))
theorem NM.left (h : NM w W m b g lo hi s mk rs x0 x1 x2) (k : Wd.Kept W W') : Calls Tryd.prog 49 #[.pointer (some ⟨g, 0, none⟩)] W' fun e' w' => e' = .returned (.int .i64 s.1.length) ∧ W' = w' := by
  obtain ⟨A, c, e, x, hy⟩ := h.rs
  exact rleft_any g s.1 e lo hi W' (x.rd.kept k)
end

theorem grown_far {w w' : World} {p : Nat} (h : w.grownBy w' (some p)) (b o : Nat) (hb : b < w.heap.size) (hne : b ≠ p) : w'.cell? ⟨b, o, none⟩ = w.cell? ⟨b, o, none⟩ := by
  have e := h.block b hb (fun e => hne (Option.some.inj e))
  unfold World.cell?
  simp only [e]
/-- The document's Next behind its ranges: the marks, and what it returns. -/
def tailM (mk : Bool) (delay : Int) (s : List Int × Int) (rs : List R) : Ack × Int × List Int :=
  if mk then
    if (rstep (rstep (rstep s))).2 ≠ 0 then (zero, (rstep (rstep (rstep s))).2, [])
    else (⟨delay, rs, true, val1 s, val1 (rstep s), val1 (rstep (rstep s))⟩, 0, (rstep (rstep (rstep s))).1)
  else if s.2 ≠ 0 then (zero, s.2, []) else (⟨delay, rs, false, 0, 0, 0⟩, 0, s.1)
theorem rstep_err {s : List Int × Int} (h : s.2 ≠ 0) : rstep s = s := Prod.ext (rrest_err s.1 s.2 h) (rerr_err s.1 s.2 h)
theorem tailM_err {mk : Bool} {d : Int} {s : List Int × Int} {rs : List R} (h : s.2 ≠ 0) : tailM mk d s rs = (zero, s.2, []) := by
  unfold tailM
  rw [rstep_err h, rstep_err h, rstep_err h, if_pos h]
  cases mk
  · rw [if_neg (by simp), if_pos h]
  · rw [if_pos rfl]
theorem tailM_ok {mk : Bool} {d : Int} {l : List Int} {rs : List R} : tailM mk d (l, 0) rs = readM mk d rs l := by
  unfold tailM readM
  cases mk
  · rw [if_neg (by simp), if_neg (by simp), if_neg (by simp)]
  · rw [if_pos rfl, if_pos rfl]
end Go.Proofs.YtganelhlpobdjaaDoor.Frm
