/-
  Contracts of frame's fall and readRanges: of all readers.
-/
import Derived.Test.YtganelhlpobdjaaDoorFrmE
import Derived.ScopeJumps
import Derived.WalkMore
namespace Go.Proofs.YtganelhlpobdjaaDoor.Frm
open Go.RowKit SpnM Spn FrmM OctM Oct
set_option linter.unusedVariables false
set_option linter.unusedSimpArgs false

theorem tab_grown {w w' : World} {g : Nat} (h : Tab w) (k : w.grownBy w' (some g)) (hg : 0 ≠ g) : Tab w' := by
  have hl := h.lt
  obtain ⟨t, fr, h⟩ := h
  exact ⟨t, fr, (k.block _ hl (fun e => hg (Option.some.inj e))).trans h⟩
/-- Of what was there nothing has turned but block g. -/
structure But1 (g : Nat) (w w' : World) : Prop where
  os : w'.os = w.os
  tape : w'.tape = w.tape
  output : w'.output = w.output
  size : w.heap.size ≤ w'.heap.size
  block : ∀ k, k < w.heap.size → k ≠ g → w'.heap[k]? = w.heap[k]?
theorem But1.refl (g : Nat) (w : World) : But1 g w w := ⟨rfl, rfl, rfl, Nat.le_refl _, fun _ _ _ => rfl⟩
theorem But1.of_grown {g : Nat} {w w' : World} (h : w.grownBy w' (some g)) : But1 g w w' := ⟨h.os, h.tape, h.output, h.size, fun k hk hne => h.block k hk (fun e => hne (Option.some.inj e))⟩
theorem But1.of_kept {g : Nat} {w w' : World} (h : Wd.Kept w w') : But1 g w w' := ⟨h.os, h.tape, h.output, h.size, fun k hk _ => h.block k hk⟩
theorem But1.trans {g : Nat} {a b c : World} (h : But1 g a b) (k : But1 g b c) : But1 g a c :=
  ⟨k.os.trans h.os, k.tape.trans h.tape, k.output.trans h.output, Nat.le_trans h.size k.size, fun i hi hne => (k.block i (Nat.lt_of_lt_of_le hi h.size) hne).trans (h.block i hi hne)⟩
/-- Beyond where one began more may turn. -/
theorem But1.more {g : Nat} {a b c : World} {row : Option Nat} (h : But1 g a b) (k : b.grownBy c row) (hr : ∀ i, row = some i → a.heap.size ≤ i) : But1 g a c :=
  ⟨k.os.trans h.os, k.tape.trans h.tape, k.output.trans h.output, Nat.le_trans h.size k.size, fun i hi hne => (k.block i (Nat.lt_of_lt_of_le hi h.size) (fun e => by have := hr i e.symm; omega)).trans (h.block i hi hne)⟩
theorem But1.below {g n : Nat} {a b : World} (h : But1 g a b) (hn : n ≤ g) (hn2 : n ≤ a.heap.size) : Below n a b :=
  ⟨h.os, h.tape, h.output, h.size, fun k hk => h.block k (by omega) (by omega)⟩
theorem tab_but {w w' : World} {g : Nat} (h : Tab w) (k : But1 g w w') (hg : 0 ≠ g) : Tab w' := by
  have hl := h.lt
  obtain ⟨t, fr, h⟩ := h
  exact ⟨t, fr, (k.block _ hl hg).trans h⟩

def fallE (l : List Int) (f : Int) : Int := if derr l ≠ 0 then derr l else if f < dnum l then 50 else 0
def fallV (l : List Int) (f : Int) : Int := if derr l ≠ 0 then 0 else if f < dnum l then 0 else f - dnum l
theorem dnum_bd {l : List Int} (hb : allByte l) : 0 ≤ dnum l ∧ dnum l ≤ 9007199254740991 := by
  by_cases h : derr l = 0
  · exact (rd_made hb h).1
  · unfold dnum; rw [if_neg h]; omega
theorem rd_bytes {w : World} {lo hi g : Nat} {l : List Int} {e : Int} (h : Rd w lo hi g l e) : allByte l := by
  obtain ⟨_, _, _, _, A, n, c, _, hB, _⟩ := h
  exact hB.byte

theorem num_zero (g : Nat) (l : List Int) (lo hi : Nat) (w : World) (hT : Tab w) (h : Rd w lo hi g l 0) :
    Calls Tryd.prog 57 #[.pointer (some ⟨g, 0, none⟩)] w fun e' w' => e' = .returned (.int .i64 (dnum l)) ∧ Rd w' lo hi g (nx l) (derr l) ∧ w.grownBy w' (some g) := num_any g l 0 lo hi w hT h

set_option maxRecDepth 100000 in
set_option maxHeartbeats 1000000 in
theorem fall_any (g : Nat) (l : List Int) (lo hi : Nat) (f : Int) (w : World) (hT : Tab w) (h : Rd w lo hi g l 0) (hg : 0 < lo) (h0 : -2 ≤ f) (h1 : f ≤ 9007199254740991) :
    Calls Tryd.prog 67 #[.pointer (some ⟨g, 0, none⟩), .int .i64 f] w fun e w' => e = .returned (.tuple #[.int .i64 (fallV l f), .int .i64 (fallE l f)]) ∧ Rd w' lo hi g (nx l) (derr l) ∧ w.grownBy w' (some g) := by
  have hd := dnum_bd (rd_bytes h)
  have hnum := num_zero g l lo hi w hT h
  have HN := Lib.hid hnum
  clear hnum hT h
  by_cases he : derr l = 0
  · have e1 : fallE l f = if f < dnum l then 50 else 0 := by unfold fallE; rw [if_neg (by simpa using he)]
    have e2 : fallV l f = if f < dnum l then 0 else f - dnum l := by unfold fallV; rw [if_neg (by simpa using he)]
    by_cases hf : f < dnum l
    · rw [if_pos hf] at e1 e2
      have E1 := Lib.hid e1
      have E2 := Lib.hid e2
      have HE := Lib.hid he
      clear e1 e2 he
      have hneg : f - dnum l < 0 := by omega
      go_enter Tryd.func67, Tryd.ntmps67
      go_wp2_with fail
      refine HN.out.mono ?_
      rintro e w1 ⟨rfl, hR, hgr⟩
      have HR := Lib.hid hR
      have HG := Lib.hid hgr
      have herr := Lib.hid (err_any g _ _ lo hi _ hR)
      clear hR hgr
      go_wp2_with fail
      refine herr.out.mono ?_
      rintro e w2 ⟨rfl, rfl⟩
      rw [HE.out]
      go_wp2_with fail
      go_ret2
      refine ⟨?_, ?_, HG.out⟩
      · rw [E1.out, E2.out]; rfl
      · have := HR.out; rw [HE.out] at this; first | exact this | (rw [HE.out]; exact this)
    · rw [if_neg hf] at e1 e2
      have E1 := Lib.hid e1
      have E2 := Lib.hid e2
      have HE := Lib.hid he
      clear e1 e2 he
      have hneg : 0 ≤ f - dnum l := by omega
      go_enter Tryd.func67, Tryd.ntmps67
      go_wp2_with fail
      refine HN.out.mono ?_
      rintro e w1 ⟨rfl, hR, hgr⟩
      have HR := Lib.hid hR
      have HG := Lib.hid hgr
      have herr := Lib.hid (err_any g _ _ lo hi _ hR)
      clear hR hgr
      go_wp2_with fail
      refine herr.out.mono ?_
      rintro e w2 ⟨rfl, rfl⟩
      rw [HE.out]
      go_wp2_with fail
      go_ret2
      refine ⟨?_, ?_, HG.out⟩
      · rw [E1.out, E2.out]; rfl
      · have := HR.out; rw [HE.out] at this; first | exact this | (rw [HE.out]; exact this)
  · have e1 : fallE l f = derr l := by unfold fallE; rw [if_pos he]
    have e2 : fallV l f = 0 := by unfold fallV; rw [if_pos he]
    have E1 := Lib.hid e1
    have E2 := Lib.hid e2
    have hz : (derr l == 0) = false := by simp [he]
    clear e1 e2 he
    go_enter Tryd.func67, Tryd.ntmps67
    go_wp2_with fail
    refine HN.out.mono ?_
    rintro e w1 ⟨rfl, hR, hgr⟩
    have HR := Lib.hid hR
    have HG := Lib.hid hgr
    have herr := Lib.hid (err_any g _ _ lo hi _ hR)
    clear hR hgr
    go_wp2_with fail
    refine herr.out.mono ?_
    rintro e w2 ⟨rfl, rfl⟩
    go_wp2_with fail
    go_ret2
    refine ⟨?_, HR.out, HG.out⟩
    rw [E1.out, E2.out]; rfl

/-- One more range behind a row of the call's own. -/
theorem wpList_row {W : World} {ops : Array Oper} {rest : List Oper} {o : Oper} {a : Act} {Q : Exit → Act → World → Prop} (hgd : o.guard = none) (s x : Operand)
    (ho : o.op = .call { callee := .builtin .append, args := #[s, x], argTypes := #[22, 22] }) {base : Nat} {v : Value} {L : List R} (r : R)
    (hs : a.eval s = v) (hrow : W.ownsRow base 36 2 v L.length (flat L)) (hb : base ≤ W.heap.size) (hlen : L.length ≤ 1000)
    (hx : a.eval x = .slice (some ⟨W.heap.size, 0, none⟩) 1 1)
    (h : ∀ v' w', w'.ownsRow base 36 2 v' (L.length + 1) (flat (L ++ [r])) → (W.alloc (.cells #[.int .i64 r.1, .int .i64 r.2] 36)).grownBy w' v.ownBlock → wpList Tryd.prog ops Q rest (a.put o.dst v') w') : wpList Tryd.prog ops Q (o :: rest) a (W.alloc (.cells #[.int .i64 r.1, .int .i64 r.2] 36)) := by
  obtain ⟨i0, hi, hz0, hz1, hz2⟩ := info_parts info_rng
  have hnew : ∀ j u, (flat [r])[j]? = some u → (W.alloc (.cells #[.int .i64 r.1, .int .i64 r.2] 36)).cell? ((⟨W.heap.size, 0, none⟩ : Addr).add j) = some u := fun j u hj => by
    rw [Addr.add_lit, Nat.zero_add, (Wd.Blk.new W 36 #[.int .i64 r.1, .int .i64 r.2]).cell j]; simpa [flat] using hj
  refine wpList_append_own_at _ hgd s x 22 ho base 36 i0 (.agg #[.int .i64 0, .int .i64 0]) 2 16 Tryd.underlying22 hi hz0 hz1 hz2 rfl (by decide)
    v L.length (flat L) hs (hrow.alloc _) ⟨W.heap.size, 0, none⟩ 1 1 (flat [r]) hx rfl hnew (flat_one _) (by unfold maxLen; omega) (by omega) (by simp; omega) ?_
  intro v' w' h2 h3 _ h5
  exact h v' w' (by rw [flat_append]; exact h2) h3

/-- What was read so far, ahead of what is read from here on. -/
def comb (L : List R) (r : List R × Int × List Int) : List R × Int × List Int := if r.2.1 ≠ 0 then ([], r.2.1, []) else (L ++ r.1, 0, r.2.2)
theorem comb_err {L : List R} {r : List R × Int × List Int} (h : r.2.1 ≠ 0) : comb L r = ([], r.2.1, []) := if_pos h
theorem comb_nil (r : List R × Int × List Int) (h : r.2.1 ≠ 0 → r = ([], r.2.1, [])) : comb [] r = r := by
  unfold comb
  by_cases h' : r.2.1 ≠ 0
  · rw [if_pos h']; exact (h h').symm
  · rw [if_neg h']
    obtain ⟨a, b, c⟩ := r
    simp only [ne_eq, Decidable.not_not] at h'
    subst h'
    rfl
theorem readR_err (k : Nat) (f : Int) (l : List Int) (h : (readR k f l).2.1 ≠ 0) : readR k f l = ([], (readR k f l).2.1, []) := by
  cases k with
  | zero => unfold readR at h ⊢; split <;> (try split) <;> simp_all
  | succ k =>
    unfold readR at h ⊢
    split
    · rfl
    · split
      · rfl
      · split
        · rfl
        · split
          · rfl
          · rename_i a b c d
            rw [if_neg a, if_neg b, if_neg c, if_neg d] at h
            simp only at h ⊢
            split
            · rfl
            · rename_i e
              rw [if_neg e] at h; exact absurd rfl h
/-- The first number says an error. -/
theorem comb_one {L : List R} {k : Nat} {f : Int} {l : List Int} (h : fallE l f ≠ 0) : comb L (readR k f l) = ([], fallE l f, []) := by
  have e : readR k f l = ([], fallE l f, []) := by
    unfold fallE at h ⊢
    by_cases h1 : derr l ≠ 0
    · rw [if_pos h1] at h ⊢
      cases k <;> (unfold readR; rw [if_pos h1])
    · rw [if_neg h1] at h ⊢
      by_cases h2 : f < dnum l
      · rw [if_pos h2]
        cases k <;> (unfold readR; rw [if_neg h1, if_pos h2])
      · rw [if_neg h2] at h; exact absurd rfl h
  rw [e]
  exact comb_err h
/-- The last range. -/
theorem comb_last {L : List R} {f : Int} {l : List Int} (h : fallE l f = 0) : comb L (readR 0 f l) = (L ++ [(fallV l f, f)], 0, nx l) := by
  unfold fallE at h
  unfold fallV
  by_cases h1 : derr l ≠ 0
  · rw [if_pos h1] at h; exact absurd h h1
  · rw [if_neg h1] at h ⊢
    by_cases h2 : f < dnum l
    · rw [if_pos h2] at h; cases h
    · rw [if_neg h2]
      unfold readR comb
      rw [if_neg h1, if_neg h2]
      simp
/-- The second number says an error. -/
theorem comb_two {L : List R} {k : Nat} {f : Int} {l : List Int} (h : fallE l f = 0) (h' : fallE (nx l) (fallV l f - 2) ≠ 0) : comb L (readR (k + 1) f l) = ([], fallE (nx l) (fallV l f - 2), []) := by
  unfold fallE at h
  unfold fallV at h' ⊢
  by_cases h1 : derr l ≠ 0
  · rw [if_pos h1] at h; exact absurd h h1
  · rw [if_neg h1] at h h' ⊢
    by_cases h2 : f < dnum l
    · rw [if_pos h2] at h; cases h
    · rw [if_neg h2] at h' ⊢
      unfold fallE at h' ⊢
      by_cases h3 : derr (nx l) ≠ 0
      · rw [if_pos h3]
        unfold readR comb
        rw [if_neg h1, if_neg h2, if_pos h3]
        exact if_pos h3
      · rw [if_neg h3] at h' ⊢
        by_cases h4 : f - dnum l - 2 < dnum (nx l)
        · rw [if_pos h4]
          unfold readR comb
          rw [if_neg h1, if_neg h2, if_neg h3, if_pos h4]
          rfl
        · rw [if_neg h4] at h'; exact absurd rfl h'
/-- A range more. -/
theorem comb_more {L : List R} {k : Nat} {f : Int} {l : List Int} (h : fallE l f = 0) (h' : fallE (nx l) (fallV l f - 2) = 0) :
    comb L (readR (k + 1) f l) = comb (L ++ [(fallV l f, f)]) (readR k (fallV (nx l) (fallV l f - 2)) (nx (nx l))) := by
  unfold fallE at h
  unfold fallV at h' ⊢
  by_cases h1 : derr l ≠ 0
  · rw [if_pos h1] at h; exact absurd h h1
  · rw [if_neg h1] at h
    rw [if_neg h1] at h' ⊢
    by_cases h2 : f < dnum l
    · rw [if_pos h2] at h; cases h
    · rw [if_neg h2] at h' ⊢
      unfold fallE at h'
      by_cases h3 : derr (nx l) ≠ 0
      · rw [if_pos h3] at h'; exact absurd h' h3
      · rw [if_neg h3] at h' ⊢
        by_cases h4 : f - dnum l - 2 < dnum (nx l)
        · rw [if_pos h4] at h'; cases h'
        · rw [if_neg h4]
          conv => lhs; unfold readR
          rw [if_neg h1, if_neg h2, if_neg h3, if_neg h4]
          unfold comb
          simp only
          by_cases h5 : (readR k (f - dnum l - 2 - dnum (nx l)) (nx (nx l))).2.1 ≠ 0
          · rw [if_pos h5, if_pos h5]; simp [h5]
          · rw [if_neg h5, if_neg h5]; simp

/-- What readRanges returns. -/
def Ranged (T : List R × Int × List Int) (lo hi g : Nat) (w : World) (e : Ending) (w' : World) : Prop :=
  ∃ v, e = .returned (.tuple #[v, .int .i64 T.2.1]) ∧ w'.ownsRow w.heap.size 36 2 v T.1.length (flat T.1) ∧ (T.2.1 = 0 → Rd w' lo hi g T.2.2 0) ∧ But1 g w w'

theorem ranged_err {w w' : World} {lo hi g : Nat} {x : Int} (hx : x ≠ 0) (h : But1 g w w') : Ranged ([], x, []) lo hi g w (.returned (.tuple #[.slice none 0 0, .int .i64 x])) w' :=
  ⟨_, rfl, World.ownsRow_nil _ _ _ _, fun h0 => absurd h0 hx, h⟩

/-- A slice's length. -/
def sliceLen (v : Value) : Nat := match v with | .slice _ n _ => n | _ => 0
theorem fall_bd {l : List Int} {f : Int} (hb : allByte l) (h : fallE l f = 0) : 0 ≤ fallV l f ∧ fallV l f ≤ f := by
  have hd := dnum_bd hb
  unfold fallE at h
  unfold fallV
  by_cases h1 : derr l ≠ 0
  · rw [if_pos h1] at h; exact absurd h h1
  · rw [if_neg h1] at h ⊢
    by_cases h2 : f < dnum l
    · rw [if_pos h2] at h; cases h
    · rw [if_neg h2]; omega
theorem fall_derr {l : List Int} {f : Int} (h : fallE l f = 0) : derr l = 0 := by
  unfold fallE at h
  by_cases h1 : derr l ≠ 0
  · rw [if_pos h1] at h; exact absurd h h1
  · simpa using h1

/-- What holds at each jump. -/
def AtAgain (g lo hi K : Nat) (T : List R × Int × List Int) (w : World) (a' : Act) (wr : World) : Prop :=
  ∃ (v : Value) (L : List R) (f : Int) (l : List Int) (k : Nat), wr.ownsRow w.heap.size 36 2 v L.length (flat L) ∧ Rd wr lo hi g l 0 ∧ But1 g w wr ∧ comb L (readR k f l) = T ∧ L.length + k = K ∧ sliceLen v = L.length ∧ (-2 ≤ f ∧ f ≤ 9007199254740991) ∧ ∃ (u9 u10 u11 u12 u13 u14 u15 u16 u17 u18 u19 u20 u21 u22 u23 u24 u25 u26 u27 u28 u29 u30 u31 u32 u33 u34 u35 u36 u37 u38 u39 u40 : Value),
    a' = { tmps := #[.pointer (some ⟨g, 0, none⟩), .int .i64 f, .int .i64 (K : Int), undef, undef, undef, .slice none 0 0, .int .i64 0, v, u9, u10, u11, u12, u13, u14, u15, u16, u17, u18, u19, u20, u21, u22, u23, u24, u25, u26, u27, u28, u29, u30, u31, u32, u33, u34, u35, u36, u37, u38, u39, u40], defers := [] }

set_option maxHeartbeats 4000000 in
set_option maxRecDepth 100000 in
theorem readRanges_any (g : Nat) (l0 : List Int) (lo hi K : Nat) (f0 : Int) (w : World) (hT0 : Tab w) (h0 : Rd w lo hi g l0 0) (hg : 0 < lo) (hf0 : 0 ≤ f0 ∧ f0 ≤ 9007199254740991) (hK : K ≤ 255) :
    Calls Tryd.prog 59 #[.pointer (some ⟨g, 0, none⟩), .int .i64 f0, .int .i64 (K : Int)] w (Ranged (readR K f0 l0) lo hi g w) := by
  have hgg : lo ≤ g ∧ g < hi ∧ hi ≤ w.heap.size := ⟨h0.1, h0.2.1, h0.2.2.1⟩
  have HT0 := Lib.hid hT0
  go_enter Tryd.func59, Tryd.ntmps59
  go_wp2
  refine wp_scope_jumps 0 (AtAgain g lo hi K (readR K f0 l0) w) (fun a' _ => 300 - sliceLen (a'.tmps.getD 8 undef)) rfl ?start ?jump
  case start =>
    obtain ⟨L, hL⟩ : ∃ L : List R, L = [] := ⟨_, rfl⟩
    have HR := Lib.hid h0
    have HB := Lib.hid (But1.refl g w)
    have hrow : Hid (w.ownsRow w.heap.size 36 2 (.slice none 0 0) L.length (flat L)) := Lib.hid (by rw [hL]; exact World.ownsRow_nil w _ _ 2)
    obtain ⟨k, hk⟩ : ∃ k, k = K := ⟨_, rfl⟩
    have HC : Hid (comb L (readR k f0 l0) = readR K f0 l0) := Lib.hid (by rw [hL, hk]; exact comb_nil _ (readR_err _ _ _))
    have hLK : L.length + k = K := by rw [hL, hk]; simp
    have hfr : -2 ≤ f0 ∧ f0 ≤ 9007199254740991 := ⟨by omega, by omega⟩
    clear hL h0 hT0 hf0 hk
    go_wp2
    go_step3
    have hsz : w.heap.size ≤ w.heap.size := HB.out.size
    have HTr := Lib.hid (tab_but HT0.out HB.out (by omega))
    have hfall := Lib.hid (fall_any g l0 lo hi f0 w HTr.out HR.out hg hfr.1 hfr.2)
    have hne : ∀ i, Value.ownBlock (.slice none 0 0) = some i → w.heap.size ≤ i := fun i e => (hrow.out.lt i e).1
    have HNE := Lib.hid hne
    by_cases e1 : fallE l0 f0 = 0
    · have hfb := fall_bd (rd_bytes HR.out) e1
      have hd1 := Lib.hid (fall_derr e1)
      have E1 := Lib.hid e1
      have HC0 := Lib.hid (fun (L : List R) => comb_last (L := L) (f := f0) (l := l0) e1)
      have HC2 := Lib.hid (fun (L : List R) (k : Nat) h => comb_two (L := L) (k := k) (f := f0) (l := l0) e1 h)
      have HC3 := Lib.hid (fun (L : List R) (k : Nat) h => comb_more (L := L) (k := k) (f := f0) (l := l0) e1 h)
      have hgen : Hid (∀ r : List R × Int × List Int, Hid (r = r)) := Lib.hid (fun r => Lib.hid rfl)
      clear e1 hne
      go_wp2_with fail
      refine hfall.out.mono ?_
      rintro e w1 ⟨rfl, hR1, hG1⟩
      rw [E1.out]
      rw [hd1.out] at hR1
      have R1 := Lib.hid hR1
      have B1 := Lib.hid (HB.out.trans (But1.of_grown hG1))
      have row1 := Lib.hid (hrow.out.kept hG1 (.inr (fun e => by have := HNE.out g e; omega)))
      have hs1 : w.heap.size ≤ w1.heap.size := hG1.size
      clear hR1 hG1 hfall
      generalize fallV l0 f0 = lov at *
      cases k with
      | zero =>
        have hlt : ((L.length : Nat) : Int) = (K : Int) := by omega
        go_wp2_with (at_builtin; (refine wpList_row rfl _ _ rfl (base := w.heap.size) (v := .slice none 0 0) (L := L) (lov, f0) rfl row1.out (by omega) (by omega) rfl ?_; intro v' w2 h2 g2; obtain ⟨gg, cap, rfl⟩ := ownsRow_succ h2; have H2 := Lib.hid h2; have G2 := Lib.hid g2; clear h2 g2))
        simp only [Exit.jump]
        go_ret2
        have R2 : Hid (Rd w2 lo hi g (nx l0) 0) := Lib.hid (R1.out.same (by have := G2.out.size; simp at this; omega) (fun i hi1 hi2 => (G2.out.block i (by simp; omega) (fun e => by have := HNE.out i e.symm; omega)).trans (Below.heap_alloc w1 _ i (by omega))))
        have B2 : Hid (But1 g w w2) := Lib.hid ((B1.out.trans (But1.of_kept ((Wd.Kept.refl w1).alloc _))).more G2.out (fun i e => HNE.out i e))
        unfold Ranged
        rw [← HC.out, HC0.out L]
        exact ⟨_, rfl, by rw [List.length_append]; exact H2.out, fun _ => R2.out, B2.out⟩
      | succ k' =>
        have hlt : ((L.length : Nat) : Int) + 1 ≤ (K : Int) := by omega
        go_wp2_with (at_builtin; (refine wpList_row rfl _ _ rfl (base := w.heap.size) (v := .slice none 0 0) (L := L) (lov, f0) rfl row1.out (by omega) (by omega) rfl ?_; intro v' w2 h2 g2; obtain ⟨gg, cap, rfl⟩ := ownsRow_succ h2; have H2 := Lib.hid h2; have G2 := Lib.hid g2; clear h2 g2))
        have R2 : Hid (Rd w2 lo hi g (nx l0) 0) := Lib.hid (R1.out.same (by have := G2.out.size; simp at this; omega) (fun i hi1 hi2 => (G2.out.block i (by simp; omega) (fun e => by have := HNE.out i e.symm; omega)).trans (Below.heap_alloc w1 _ i (by omega))))
        have B2 : Hid (But1 g w w2) := Lib.hid ((B1.out.trans (But1.of_kept ((Wd.Kept.refl w1).alloc _))).more G2.out (fun i e => HNE.out i e))
        have hgg2 : w.heap.size ≤ gg := (H2.out.lt gg rfl).1
        have hfall2 := Lib.hid (fall_any g (nx l0) lo hi (lov - 2) w2 (tab_but HT0.out B2.out (by omega)) R2.out hg (by omega) (by omega))
        by_cases e2 : fallE (nx l0) (lov - 2) = 0
        · have hfb2 := fall_bd (rd_bytes R2.out) e2
          have hd2 := fall_derr e2
          have E2 := Lib.hid e2
          clear e2 hlt
          refine hfall2.out.mono ?_
          rintro e w3 ⟨rfl, hR3, hG3⟩
          rw [E2.out]
          rw [hd2] at hR3
          have R3 := Lib.hid hR3
          have B3 := Lib.hid (B2.out.trans (But1.of_grown hG3))
          have row3 := Lib.hid (H2.out.kept hG3 (.inr (fun e => absurd (show gg = g by simpa [Value.ownBlock] using e) (by omega))))
          have HC4 : Hid (comb (L ++ [(lov, f0)]) (readR k' (fallV (nx l0) (lov - 2)) (nx (nx l0))) = readR K f0 l0) := Lib.hid (by rw [← HC3.out L k' E2.out]; exact HC.out)
          clear hR3 hG3 hd2 hfall2
          generalize fallV (nx l0) (lov - 2) = f2 at *
          go_wp2_with fail
          go_step3
          exact ⟨rfl, ⟨_, L ++ [(lov, f0)], f2, nx (nx l0), k', by rw [List.length_append]; exact row3.out, R3.out, B3.out, HC4.out, by rw [List.length_append, List.length_singleton]; omega, by rw [List.length_append, List.length_singleton]; rfl, by omega, _, _, _, _, _, _, _, _, _, _, _, _, _, _, _, _, _, _, _, _, _, _, _, _, _, _, _, _, _, _, _, _, rfl⟩⟩
        · have HC5 := Lib.hid (HC2.out L k' e2)
          have E2 := Lib.hid e2
          have hz : (fallE (nx l0) (lov - 2) == 0) = false := by simp [e2]
          clear e2 hlt
          refine hfall2.out.mono ?_
          rintro e w3 ⟨rfl, hR3, hG3⟩
          have B3 := Lib.hid (B2.out.trans (But1.of_grown hG3))
          clear hR3 hG3 hfall2
          generalize fallE (nx l0) (lov - 2) = ee at *
          go_wp2_with fail
          simp only [Exit.jump]
          go_ret2
          unfold Ranged
          rw [← HC.out, HC5.out]
          exact ranged_err E2.out B3.out
    · have HC1 := Lib.hid (comb_one (L := L) (k := k) e1)
      have E1 := Lib.hid e1
      have hz : (fallE l0 f0 == 0) = false := by simp [e1]
      clear e1
      go_wp2_with fail
      refine hfall.out.mono ?_
      rintro e w1 ⟨rfl, hR1, hG1⟩
      have B1 := Lib.hid (HB.out.trans (But1.of_grown hG1))
      clear hR1 hG1 hfall
      generalize fallE l0 f0 = ee at *
      go_wp2_with fail
      simp only [Exit.jump]
      go_ret2
      unfold Ranged
      rw [← HC.out, HC1.out]
      exact ranged_err E1.out B1.out
  case jump =>
    clear h0 hT0 hf0
    rintro a' wr ⟨v, L, f, l, k, hrow0, hR0, hB0, hC0, hLK, hL1, hfr, u9, u10, u11, u12, u13, u14, u15, u16, u17, u18, u19, u20, u21, u22, u23, u24, u25, u26, u27, u28, u29, u30, u31, u32, u33, u34, u35, u36, u37, u38, u39, u40, rfl⟩
    have HR := Lib.hid hR0
    have HB := Lib.hid hB0
    have HC := Lib.hid hC0
    have hrow := Lib.hid hrow0
    clear hrow0 hR0 hB0 hC0
    have hsz : w.heap.size ≤ wr.heap.size := HB.out.size
    have HTr := Lib.hid (tab_but HT0.out HB.out (by omega))
    have hfall := Lib.hid (fall_any g l lo hi f wr HTr.out HR.out hg hfr.1 hfr.2)
    have hne : ∀ i, Value.ownBlock (v) = some i → w.heap.size ≤ i := fun i e => (hrow.out.lt i e).1
    have HNE := Lib.hid hne
    by_cases e1 : fallE l f = 0
    · have hfb := fall_bd (rd_bytes HR.out) e1
      have hd1 := Lib.hid (fall_derr e1)
      have E1 := Lib.hid e1
      have HC0 := Lib.hid (fun (L : List R) => comb_last (L := L) (f := f) (l := l) e1)
      have HC2 := Lib.hid (fun (L : List R) (k : Nat) h => comb_two (L := L) (k := k) (f := f) (l := l) e1 h)
      have HC3 := Lib.hid (fun (L : List R) (k : Nat) h => comb_more (L := L) (k := k) (f := f) (l := l) e1 h)
      have hgen : Hid (∀ r : List R × Int × List Int, Hid (r = r)) := Lib.hid (fun r => Lib.hid rfl)
      clear e1 hne
      go_wp2_with fail
      refine hfall.out.mono ?_
      rintro e w1 ⟨rfl, hR1, hG1⟩
      rw [E1.out]
      rw [hd1.out] at hR1
      have R1 := Lib.hid hR1
      have B1 := Lib.hid (HB.out.trans (But1.of_grown hG1))
      have row1 := Lib.hid (hrow.out.kept hG1 (.inr (fun e => by have := HNE.out g e; omega)))
      have hs1 : wr.heap.size ≤ w1.heap.size := hG1.size
      clear hR1 hG1 hfall
      generalize fallV l f = lov at *
      cases k with
      | zero =>
        have hlt : ((L.length : Nat) : Int) = (K : Int) := by omega
        go_wp2_with (at_builtin; (refine wpList_row rfl _ _ rfl (base := w.heap.size) (v := v) (L := L) (lov, f) rfl row1.out (by omega) (by omega) rfl ?_; intro v' w2 h2 g2; obtain ⟨gg, cap, rfl⟩ := ownsRow_succ h2; have H2 := Lib.hid h2; have G2 := Lib.hid g2; clear h2 g2))
        simp only [Exit.jump]
        go_ret2
        have R2 : Hid (Rd w2 lo hi g (nx l) 0) := Lib.hid (R1.out.same (by have := G2.out.size; simp at this; omega) (fun i hi1 hi2 => (G2.out.block i (by simp; omega) (fun e => by have := HNE.out i e.symm; omega)).trans (Below.heap_alloc w1 _ i (by omega))))
        have B2 : Hid (But1 g w w2) := Lib.hid ((B1.out.trans (But1.of_kept ((Wd.Kept.refl w1).alloc _))).more G2.out (fun i e => HNE.out i e))
        unfold Ranged
        rw [← HC.out, HC0.out L]
        exact ⟨_, rfl, by rw [List.length_append]; exact H2.out, fun _ => R2.out, B2.out⟩
      | succ k' =>
        have hlt : ((L.length : Nat) : Int) + 1 ≤ (K : Int) := by omega
        go_wp2_with (at_builtin; (refine wpList_row rfl _ _ rfl (base := w.heap.size) (v := v) (L := L) (lov, f) rfl row1.out (by omega) (by omega) rfl ?_; intro v' w2 h2 g2; obtain ⟨gg, cap, rfl⟩ := ownsRow_succ h2; have H2 := Lib.hid h2; have G2 := Lib.hid g2; clear h2 g2))
        have R2 : Hid (Rd w2 lo hi g (nx l) 0) := Lib.hid (R1.out.same (by have := G2.out.size; simp at this; omega) (fun i hi1 hi2 => (G2.out.block i (by simp; omega) (fun e => by have := HNE.out i e.symm; omega)).trans (Below.heap_alloc w1 _ i (by omega))))
        have B2 : Hid (But1 g w w2) := Lib.hid ((B1.out.trans (But1.of_kept ((Wd.Kept.refl w1).alloc _))).more G2.out (fun i e => HNE.out i e))
        have hgg2 : w.heap.size ≤ gg := (H2.out.lt gg rfl).1
        have hfall2 := Lib.hid (fall_any g (nx l) lo hi (lov - 2) w2 (tab_but HT0.out B2.out (by omega)) R2.out hg (by omega) (by omega))
        by_cases e2 : fallE (nx l) (lov - 2) = 0
        · have hfb2 := fall_bd (rd_bytes R2.out) e2
          have hd2 := fall_derr e2
          have E2 := Lib.hid e2
          clear e2 hlt
          refine hfall2.out.mono ?_
          rintro e w3 ⟨rfl, hR3, hG3⟩
          rw [E2.out]
          rw [hd2] at hR3
          have R3 := Lib.hid hR3
          have B3 := Lib.hid (B2.out.trans (But1.of_grown hG3))
          have row3 := Lib.hid (H2.out.kept hG3 (.inr (fun e => absurd (show gg = g by simpa [Value.ownBlock] using e) (by omega))))
          have HC4 : Hid (comb (L ++ [(lov, f)]) (readR k' (fallV (nx l) (lov - 2)) (nx (nx l))) = readR K f0 l0) := Lib.hid (by rw [← HC3.out L k' E2.out]; exact HC.out)
          clear hR3 hG3 hd2 hfall2
          generalize fallV (nx l) (lov - 2) = f2 at *
          go_wp2_with fail
          go_step3
          refine ⟨rfl, ⟨_, L ++ [(lov, f)], f2, nx (nx l), k', by rw [List.length_append]; exact row3.out, R3.out, B3.out, HC4.out, by rw [List.length_append, List.length_singleton]; omega, by rw [List.length_append, List.length_singleton]; rfl, by omega, _, _, _, _, _, _, _, _, _, _, _, _, _, _, _, _, _, _, _, _, _, _, _, _, _, _, _, _, _, _, _, _, rfl⟩, ?_⟩
          have hL1 : sliceLen v = L.length := hL1
          show 300 - (L.length + 1) < 300 - sliceLen v
          omega
        · have HC5 := Lib.hid (HC2.out L k' e2)
          have E2 := Lib.hid e2
          have hz : (fallE (nx l) (lov - 2) == 0) = false := by simp [e2]
          clear e2 hlt
          refine hfall2.out.mono ?_
          rintro e w3 ⟨rfl, hR3, hG3⟩
          have B3 := Lib.hid (B2.out.trans (But1.of_grown hG3))
          clear hR3 hG3 hfall2
          generalize fallE (nx l) (lov - 2) = ee at *
          go_wp2_with fail
          simp only [Exit.jump]
          go_ret2
          unfold Ranged
          rw [← HC.out, HC5.out]
          exact ranged_err E2.out B3.out
    · have HC1 := Lib.hid (comb_one (L := L) (k := k) e1)
      have E1 := Lib.hid e1
      have hz : (fallE l f == 0) = false := by simp [e1]
      clear e1
      go_wp2_with fail
      refine hfall.out.mono ?_
      rintro e w1 ⟨rfl, hR1, hG1⟩
      have B1 := Lib.hid (HB.out.trans (But1.of_grown hG1))
      clear hR1 hG1 hfall
      generalize fallE l f = ee at *
      go_wp2_with fail
      simp only [Exit.jump]
      go_ret2
      unfold Ranged
      rw [← HC.out, HC1.out]
      exact ranged_err E1.out B1.out


end Go.Proofs.YtganelhlpobdjaaDoor.Frm
