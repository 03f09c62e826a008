/-
  Two rows of numbers that a call lays out by append, beside a row of boxes (XBox): for every layer whose seat holds []int.
-/
import Derived.Test.YtjpajmoceodadaaBox
import Derived.Laws.CopyOwn
import Derived.Laws.Externs
import Derived.Lib.AppendZeros
import Derived.Maps.AppendAt
import Derived.Deep.RegionLaw
namespace Go.Proofs.Ytjpajmoceodadaa.Ints
open Go.RowKit Wd Bxs
set_option linter.unusedVariables false
set_option linter.unusedSimpArgs false

theorem info_int : (Try.prog.info? 3).map (fun i => (i.zero, i.size, i.bytes)) = some (some (.int .i64 0), 1, 8) := by kernel_rfl
/-- A row of numbers of the call's own. -/
def IR (W : World) (base : Nat) (V : Value) (L : List Int) : Prop := W.ownsRow base 3 1 V L.length (L.map (Value.int .i64))
def nt (L : List Int) (k : Nat) : Int := L.getD k 0
theorem nt_left {L : List Int} {k : Nat} (h : k < L.length) (x : Int) : nt (L ++ [x]) k = nt L k := by simp [nt, List.getD, List.getElem?_append_left h]
theorem nt_last (L : List Int) (x : Int) : nt (L ++ [x]) L.length = x := by simp [nt, List.getD]
theorem IR.nil (W : World) (base : Nat) : IR W base (.slice none 0 0) [] := World.ownsRow_nil W base _ 1
theorem grown_of {a b : World} (h : Kept a b) (row : Option Nat) : a.grownBy b row := ⟨h.os, h.tape, h.output, h.size, fun k hk _ => h.block k hk⟩
theorem IR.kept {W W' : World} {base : Nat} {V : Value} {L : List Int} (h : IR W base V L) (k : Kept W W') : IR W' base V L := World.ownsRow.kept h (grown_of k none) (by cases hA : Value.ownBlock V <;> simp)
theorem IR.lt {W : World} {base : Nat} {V : Value} {L : List Int} (h : IR W base V L) : ∀ k, V.ownBlock = some k → base ≤ k ∧ k < W.heap.size := World.ownsRow.lt h
theorem IR.but {W W' : World} {base : Nat} {V : Value} {L : List Int} {F : Nat → Prop} (h : IR W base V L) (k : But F W W') (hF : ∀ i, V.ownBlock = some i → ¬ F i) : IR W' base V L := by
  cases hv : V.ownBlock with
  | none =>
    rcases h.2 with h0 | ⟨g, cap, cur, rfl, _⟩
    · exact ⟨h.1, .inl h0⟩
    · simp [Value.ownBlock] at hv
  | some i =>
    refine ⟨h.1, ?_⟩
    rcases h.2 with h0 | ⟨g, cap, cur, rfl, hb, hg, rest⟩
    · exact .inl h0
    · have e : g = i := by simpa [Value.ownBlock] using hv
      subst e
      exact .inr ⟨g, cap, cur, rfl, hb, (k.block g (Array.getElem?_eq_some_iff.1 hg).1 (hF g hv)).trans hg, rest⟩
theorem IR.form {W : World} {base : Nat} {V : Value} {L : List Int} (h : IR W base V L) (hl : 0 < L.length) : ∃ g cap, V = .slice (some ⟨g, 0, none⟩) L.length cap ∧ g < W.heap.size := by
  rcases h.2 with ⟨_, h0⟩ | ⟨g, cap, cur, rfl, _, hg, _⟩
  · omega
  · exact ⟨g, cap, rfl, (Array.getElem?_eq_some_iff.1 hg).1⟩
theorem IR.cell {W : World} {base g cap n : Nat} {L : List Int} (h : IR W base (.slice (some ⟨g, 0, none⟩) n cap) L) (hn : L.length = n) {j : Nat} (hj : j < n) : W.cell? ⟨g, j, none⟩ = some (.int .i64 (nt L j)) := by
  subst hn
  rw [World.ownsRow.cellAt h j (by omega)]
  simp [nt, List.getD, List.getElem?_eq_getElem hj]

/-- Two such rows beside a row of boxes, all apart from each other. -/
structure Tr (w : World) (L : List Ent) (V1 V2 : Value) (L1 L2 : List Int) (W : World) : Prop where
  bx : Bx w L W
  r1 : IR W w.heap.size V1 L1
  r2 : IR W w.heap.size V2 L2
  ap : ∀ i, V1.ownBlock = some i → V2.ownBlock = some i → False
  a1 : ∀ i, V1.ownBlock = some i → ∀ (k : Nat) (e : Ent), L[k]? = some e → e.1 ≠ i
  a2 : ∀ i, V2.ownBlock = some i → ∀ (k : Nat) (e : Ent), L[k]? = some e → e.1 ≠ i
section
variable {w W W' : World} {L : List Ent} {V1 V2 : Value} {L1 L2 : List Int}
theorem Tr.start (h : Bx w L W) : Tr w L (.slice none 0 0) (.slice none 0 0) [] [] W := ⟨h, IR.nil _ _, IR.nil _ _, (fun i e _ => by simp [Value.ownBlock] at e), (fun i e => by simp [Value.ownBlock] at e), (fun i e => by simp [Value.ownBlock] at e)⟩
theorem Tr.swap (h : Tr w L V1 V2 L1 L2 W) : Tr w L V2 V1 L2 L1 W := ⟨h.bx, h.r2, h.r1, fun i a b => h.ap i b a, h.a2, h.a1⟩
theorem Tr.on (h : Tr w L V1 V2 L1 L2 W) (k : Kept W W') : Tr w L V1 V2 L1 L2 W' := ⟨h.bx.on k, h.r1.kept k, h.r2.kept k, h.ap, h.a1, h.a2⟩
theorem Tr.new (h : Tr w L V1 V2 L1 L2 W) (t : TypeId) (cs : Array Value) : Tr w (L ++ [(W.heap.size, t, cs)]) V1 V2 L1 L2 (W.alloc (.cells cs t)) := by
  have key : ∀ i, i < W.heap.size → (∀ (k : Nat) (e : Ent), L[k]? = some e → e.1 ≠ i) → ∀ (k : Nat) (e : Ent), (L ++ [(W.heap.size, t, cs)])[k]? = some e → e.1 ≠ i := by
    intro i hi ha k e hk
    rcases Nat.lt_or_ge k L.length with h' | h'
    · rw [List.getElem?_append_left h'] at hk; exact ha k e hk
    · rw [List.getElem?_append_right h'] at hk
      rcases Nat.eq_zero_or_pos (k - L.length) with h0 | h0
      · rw [h0] at hk
        have := Option.some.inj hk
        subst this
        show W.heap.size ≠ i
        omega
      · rw [List.getElem?_eq_none (by simp; omega)] at hk; cases hk
  exact ⟨h.bx.new t cs, h.r1.kept ((Kept.refl _).alloc _), h.r2.kept ((Kept.refl _).alloc _), h.ap, fun i hi => key i (h.r1.lt i hi).2 (h.a1 i hi), fun i hi => key i (h.r2.lt i hi).2 (h.a2 i hi)⟩
/-- A box is filled anew. -/
theorem Tr.set_ (h : Tr w L V1 V2 L1 L2 W) (i : Nat) {b : Nat} {t : TypeId} {cs : Array Value} (hi : L[i]? = some (b, t, cs)) {cs' : Array Value} (hb : Blk W' b t cs') (hk : But (fun k => k = b) W W') : Tr w (L.set i (b, t, cs')) V1 V2 L1 L2 W' := by
  have num : ∀ j, (∀ (k : Nat) (e : Ent), L[k]? = some e → e.1 ≠ j) → ∀ (k : Nat) (e : Ent), (L.set i (b, t, cs'))[k]? = some e → e.1 ≠ j := by
    intro j ha k e hk
    by_cases e' : k = i
    · subst e'
      rw [List.getElem?_set_self (List.getElem?_eq_some_iff.1 hi).1] at hk
      have := Option.some.inj hk
      subst this
      exact ha k (b, t, cs) hi
    · rw [List.getElem?_set_ne (fun x => e' x.symm)] at hk
      exact ha k e hk
  exact ⟨h.bx.set_ i hi hb hk, h.r1.but hk (fun j hj e => h.a1 j hj i _ hi e.symm), h.r2.but hk (fun j hj e => h.a2 j hj i _ hi e.symm), h.ap, fun j hj => num j (h.a1 j hj), fun j hj => num j (h.a2 j hj)⟩
/-- Boxes at the end are left out. -/
theorem Tr.cut {L' : List Ent} (h : Tr w (L ++ L') V1 V2 L1 L2 W) : Tr w L V1 V2 L1 L2 W := by
  have key : ∀ (k : Nat) (e : Ent), L[k]? = some e → (L ++ L')[k]? = some e := fun k e hk => by
    rw [List.getElem?_append_left (List.getElem?_eq_some_iff.1 hk).1]; exact hk
  exact ⟨⟨h.bx.K, fun i e hi => h.bx.all i e (key i e hi), fun i j e f hi hj => h.bx.nd i j e f (key i e hi) (key j f hj)⟩, h.r1, h.r2, h.ap, fun i hi k e hk => h.a1 i hi k e (key k e hk), fun i hi k e hk => h.a2 i hi k e (key k e hk)⟩
theorem Bx.grown {row : Option Nat} (h : Bx w L W) (hg : W.grownBy W' row) (h0 : ∀ i, row = some i → w.heap.size ≤ i) (h1 : ∀ i, row = some i → ∀ (k : Nat) (e : Ent), L[k]? = some e → e.1 ≠ i) : Bx w L W' :=
  ⟨h.K.grown hg h0, fun i e hi => ⟨(hg.block e.1 (h.all i e hi).1.lt (fun x => h1 e.1 x.symm i e hi rfl)).trans (h.all i e hi).1, (h.all i e hi).2⟩, h.nd⟩
theorem IR.grown {base : Nat} {row : Option Nat} {V : Value} {X : List Int} (h : IR W base V X) (hg : W.grownBy W' row) (hne : ∀ i, V.ownBlock = some i → row = some i → False) : IR W' base V X :=
  World.ownsRow.kept h hg (by
    cases hv : V.ownBlock with
    | none => exact .inl rfl
    | some i => exact .inr (fun e => hne i hv e.symm))
/-- append(s, x) of one number that lies in a block. -/
theorem Tr.push (h : Tr w L V1 V2 L1 L2 W) {g : Nat} {k : Int} (hx : Blk W g 3 #[.int .i64 k]) (hl : L1.length ≤ 100000) (ty : TypeId) :
    ∃ V' W', (Builtin.append_ #[47, 47] ty #[V1, .slice (some ⟨g, 0, none⟩) 1 1]).run Try.prog W = .ok V' W' ∧ Tr w L V' V2 (L1 ++ [k]) L2 W' := by
  obtain ⟨i0, hi, hz0, hz1, hz2⟩ := info_parts info_int
  obtain ⟨V', W', hr, h2, h3, h4, h5⟩ := run_append_own_at (P := Try.prog) W w.heap.size 47 ty 3 i0 (.int .i64 0) 1 8 Try.underlying47 hi hz0 hz1 hz2 rfl (by decide)
    V1 L1.length (L1.map (Value.int .i64)) h.r1 ⟨g, 0, none⟩ 1 1 [.int .i64 k] rfl (fun j u hj => by
      match j, hj with
      | 0, hj => have := Option.some.inj hj; subst this; exact hx.cell 0
      | n + 1, hj => simp at hj) (ints_oneCell .i64 [k]) (by unfold maxLen; omega) (by omega) h.bx.K.size
  have hnew : ∀ i, V'.ownBlock = some i → V1.ownBlock = some i ∨ i = W.heap.size := fun i hv => by
    rcases h5 with h5 | h5
    · exact .inl (h5 ▸ hv)
    · rw [hv] at h5; exact .inr (Option.some.inj h5)
  refine ⟨V', W', hr, Bx.grown h.bx h3 (fun i hi => (h.r1.lt i hi).1) (fun i hi => h.a1 i hi), ?_, IR.grown h.r2 h3 (fun i hi hj => h.ap i hj hi), ?_, ?_, h.a2⟩
  · unfold IR
    rw [List.length_append, List.map_append]
    exact h2
  · intro i hv hv2
    rcases hnew i hv with h' | rfl
    · exact h.ap i h' hv2
    · exact Nat.lt_irrefl _ (h.r2.lt _ hv2).2
  · intro i hv k e hk
    rcases hnew i hv with h' | rfl
    · exact h.a1 i h' k e hk
    · exact Nat.ne_of_lt (h.bx.all k e hk).1.lt
/-- The same as a step of a region that draws its order: the first row, the second one. -/
theorem step_one {ops : Array Oper} {o : Oper} {a : Act} {K : Act → World → Prop} {Q : Exit → Act → World → Prop} {E : Prop} (hgd : o.guard = none) (s x : Operand)
    (ho : o.op = .call { callee := .builtin .append, args := #[s, x], argTypes := #[47, 47] }) (hs : a.eval s = V1) {g : Nat} {k : Int} (hx : a.eval x = .slice (some ⟨g, 0, none⟩) 1 1) (h : Tr w L V1 V2 L1 L2 W) (hb : Blk W g 3 #[.int .i64 k]) (hl : L1.length ≤ 100000)
    (hc : ∀ V' w', Hid (Tr w L V' V2 (L1 ++ [k]) L2 w') → K (a.put o.dst V') w') : if Region.wanted o (yielded ops a.tmps) = true then Oper.wp Try.prog o a W K Q else E := by
  have hwt : Region.wanted o (yielded ops a.tmps) = true := by simp [Region.wanted, hgd]
  rw [if_pos hwt]
  obtain ⟨V', w', hr, h1⟩ := h.push hb hl o.type
  exact Lib.wp_append_run _ s x _ _ ho _ _ hs hx _ _ hr (hc V' w' h1)
theorem step_two {ops : Array Oper} {o : Oper} {a : Act} {K : Act → World → Prop} {Q : Exit → Act → World → Prop} {E : Prop} (hgd : o.guard = none) (s x : Operand)
    (ho : o.op = .call { callee := .builtin .append, args := #[s, x], argTypes := #[47, 47] }) (hs : a.eval s = V2) {g : Nat} {k : Int} (hx : a.eval x = .slice (some ⟨g, 0, none⟩) 1 1) (h : Tr w L V1 V2 L1 L2 W) (hb : Blk W g 3 #[.int .i64 k]) (hl : L2.length ≤ 100000)
    (hc : ∀ V' w', Hid (Tr w L V1 V' L1 (L2 ++ [k]) w') → K (a.put o.dst V') w') : if Region.wanted o (yielded ops a.tmps) = true then Oper.wp Try.prog o a W K Q else E :=
  step_one hgd s x ho hs hx h.swap hb hl (fun V' w' h' => hc V' w' (Lib.hid h'.out.swap))
end
end Go.Proofs.Ytjpajmoceodadaa.Ints
