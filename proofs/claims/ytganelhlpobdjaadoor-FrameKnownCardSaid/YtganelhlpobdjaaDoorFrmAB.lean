/-
  Contract of the document's own Bytes. (Printed by tools/frmbytesref.py.)
-/
import Derived.Test.YtganelhlpobdjaaDoorFrmU
import Derived.Test.YtganelhlpobdjaaDoorFrmB
import Derived.Test.YtganelhlpobdjaaDoorOctX
import Derived.Deep.RegionLaw
import Derived.Lib.AppendZeros
import Derived.Deep.DeepCutAuto
import Derived.Deep.RegionHeld3
namespace Go.Proofs.YtganelhlpobdjaaDoor.Frm
open Go.RowKit SpnM Spn FrmM OctM Oct
set_option linter.unusedVariables false
set_option linter.unusedSimpArgs false

theorem info_int' : (Tryd.prog.info? 3).map (fun i => (i.zero, i.size, i.bytes)) = some (some (.int .i64 0), 1, 8) := by kernel_rfl
/-- A row of numbers of the call's own. -/
def IR (W : World) (base : Nat) (V : Value) (L : List Int) : Prop := W.ownsRow base 3 1 V L.length (L.map (Value.int .i64))
theorem IR.kept {W W' : World} {base : Nat} {V : Value} {L : List Int} (h : IR W base V L) (k : Wd.Kept W W') : IR W' base V L := World.ownsRow.kept h (grown_of_kept k none) (by cases hA : Value.ownBlock V <;> simp)
theorem IR.lit (W : World) (base : Nat) (L : List Int) (hb : base ≤ W.heap.size) (hl : L.length ≤ 1000000) {cs : Array Value} (hc : cs = (L.map (Value.int .i64)).toArray) : IR (W.alloc (.cells cs 3)) base (.slice (some ⟨W.heap.size, 0, none⟩) L.length L.length) L := by
  subst hc
  have h := World.ownsRow_lit (base := base) (e := 3) (size := 1) W (L.map (Value.int .i64)).toArray L.length hb (by unfold maxLen; omega) (by simp)
  simpa [IR] using h
theorem ints64_one (l : List Int) : ∀ u ∈ l.map (Value.int .i64), u.oneCell' = true := ints_oneCell .i64 l
theorem news64 (W : World) (N : List Int) : ∀ j u, (N.map (Value.int .i64))[j]? = some u → (W.alloc (.cells (N.map (Value.int .i64)).toArray 3)).cell? ((⟨W.heap.size, 0, none⟩ : Addr).add j) = some u := fun j u hj => by
  rw [Addr.add_lit, Nat.zero_add, (Wd.Blk.new W 3 (N.map (Value.int .i64)).toArray).cell j]; simpa using hj
theorem run_ints {W : World} {base : Nat} {V : Value} {L N : List Int} (ty : TypeId) (hrow : IR W base V L) (hb : base ≤ W.heap.size) (hlen : L.length + N.length ≤ 1000000) {cs : Array Value} (hc : cs = (N.map (Value.int .i64)).toArray) :
    ∃ V' w', (Builtin.append_ #[49, 49] ty #[V, .slice (some ⟨W.heap.size, 0, none⟩) N.length N.length]).run Tryd.prog (W.alloc (.cells cs 3)) = .ok V' w' ∧ IR w' base V' (L ++ N) ∧ (W.alloc (.cells cs 3)).grownBy w' V.ownBlock := by
  subst hc
  obtain ⟨i0, hi, hz0, hz1, hz2⟩ := info_parts info_int'
  obtain ⟨V', w', hr, h2, h3, h4, h5⟩ := run_append_own_at (P := Tryd.prog) (W.alloc (.cells (N.map (Value.int .i64)).toArray 3)) base 49 ty 3 i0 (.int .i64 0) 1 8 Tryd.underlying49 hi hz0 hz1 hz2 rfl (by decide)
    V L.length (L.map (Value.int .i64)) (hrow.kept ((Wd.Kept.refl W).alloc _)) ⟨W.heap.size, 0, none⟩ N.length N.length (N.map (Value.int .i64)) (by simp) (news64 W N) (ints64_one N) (by unfold maxLen; omega) (by omega) (by simp; omega)
  refine ⟨V', w', hr, ?_, h3⟩
  unfold IR
  rw [List.length_append, List.map_append]
  exact h2
theorem step_ints {W : World} {ops : Array Oper} {o : Oper} {a : Act} {K : Act → World → Prop} {Q : Exit → Act → World → Prop} {E : Prop} (hgd : o.guard = none) (s x : Operand)
    (ho : o.op = .call { callee := .builtin .append, args := #[s, x], argTypes := #[49, 49] }) {base : Nat} {V : Value} {L N : List Int} (hs : a.eval s = V) (hrow : IR W base V L) (hb : base ≤ W.heap.size) (hlen : L.length + N.length ≤ 1000000) {cs : Array Value} (hc : cs = (N.map (Value.int .i64)).toArray)
    (hx : a.eval x = .slice (some ⟨W.heap.size, 0, none⟩) N.length N.length)
    (h : ∀ V' w', Hid (IR w' base V' (L ++ N)) → Hid ((W.alloc (.cells cs 3)).grownBy w' V.ownBlock) → K (a.put o.dst V') w') : if Region.wanted o (yielded ops a.tmps) = true then Oper.wp Tryd.prog o a (W.alloc (.cells cs 3)) K Q else E := by
  have hwt : Region.wanted o (yielded ops a.tmps) = true := by simp [Region.wanted, hgd]
  rw [if_pos hwt]
  obtain ⟨V', w', hr, h1, h2⟩ := run_ints o.type hrow hb hlen hc
  exact Lib.wp_append_run _ s x _ _ ho _ _ hs hx _ _ hr (h V' w' h1 h2)
theorem wpList_ints {W : World} {ops : Array Oper} {rest : List Oper} {o : Oper} {a : Act} {Q : Exit → Act → World → Prop} (hgd : o.guard = none) (s x : Operand)
    (ho : o.op = .call { callee := .builtin .append, args := #[s, x], argTypes := #[49, 49] }) {base : Nat} {V : Value} {L N : List Int} (hs : a.eval s = V) (hrow : IR W base V L) (hb : base ≤ W.heap.size) (hlen : L.length + N.length ≤ 1000000) {cs : Array Value} (hc : cs = (N.map (Value.int .i64)).toArray)
    (hx : a.eval x = .slice (some ⟨W.heap.size, 0, none⟩) N.length N.length)
    (h : ∀ V' w', Hid (IR w' base V' (L ++ N)) → Hid ((W.alloc (.cells cs 3)).grownBy w' V.ownBlock) → wpList Tryd.prog ops Q rest (a.put o.dst V') w') : wpList Tryd.prog ops Q (o :: rest) a (W.alloc (.cells cs 3)) := by
  obtain ⟨V', w', hr, h1, h2⟩ := run_ints o.type hrow hb hlen hc
  exact Lib.wpList_append_run _ hgd s x _ _ ho _ _ hs hx _ _ hr (h V' w' h1 h2)

theorem ownsRow_less {w : World} {b b' : Nat} {t : TypeId} {s n : Nat} {v : Value} {xs : List Value} (h : w.ownsRow b t s v n xs) (hb : b' ≤ b) : w.ownsRow b' t s v n xs := by
  refine ⟨h.1, ?_⟩
  rcases h.2 with h0 | ⟨g, cap, cur, e, hg, r⟩
  · exact .inl h0
  · exact .inr ⟨g, cap, cur, e, Nat.le_trans hb hg, r⟩
/-- An ACK in a box, and a row of numbers beside it. -/
structure BL (w W : World) (p : Nat) (A : Option Addr) (n c : Nat) (a : Ack) (V : Value) (L : List Int) : Prop where
  ck : Ck w W p A n c a
  row : IR W (p + 1) V L
  own : ∀ i, own A = some i → i ≤ p
theorem BL.on {w W W' : World} {p : Nat} {A : Option Addr} {n c : Nat} {a : Ack} {V : Value} {L : List Int} (h : BL w W p A n c a V L) (k : Wd.Kept W W') : BL w W' p A n c a V L := ⟨h.ck.on k, h.row.kept k, h.own⟩
theorem BL.grown {w W W' : World} {p : Nat} {A : Option Addr} {n c : Nat} {a : Ack} {V V' : Value} {L L' : List Int} (h : BL w W p A n c a V L) (hp : w.heap.size ≤ p) (hg : W.grownBy W' V.ownBlock) (hr : IR W' (p + 1) V' L') : BL w W' p A n c a V' L' := by
  have hlt := fun i e => (World.ownsRow.lt h.row i e).1
  refine ⟨⟨h.ck.pa.at_ (hg.block p h.ck.pa.lt (fun e => by have := hlt p e.symm; omega)), h.ck.ra.same_ (fun i e => hg.block i (h.ck.ra.lt i e) (fun e2 => by have := hlt i e2.symm; have := h.own i e; omega)), Wd.Kept.grown h.ck.k hg (fun i e => by have := hlt i e; omega)⟩, hr, h.own⟩

theorem tops_num : ∀ (n : Nat) (l : List R), l.length = n → falls M l → ∀ q ∈ tops M l, q.1 ≤ M := by
  intro n
  induction n with
  | zero => intro l h _ q hq; rw [List.eq_nil_of_length_eq_zero h] at hq; cases hq
  | succ n ih =>
    intro l h hf q hq
    have hne : l ≠ [] := by intro e; rw [e] at h; simp at h
    obtain ⟨l', x, rfl⟩ : ∃ l' x, l = l' ++ [x] := ⟨l.dropLast, l.getLast hne, (List.dropLast_concat_getLast hne).symm⟩
    obtain ⟨hf', hx⟩ := (falls_end l' M x).1 hf
    rw [tops_snoc] at hq
    rcases List.mem_append.1 hq with h' | h'
    · exact ih l' (by rw [List.length_append] at h; simp at h; omega) hf' q h'
    · rw [List.mem_singleton.1 h']; exact top_le _ l' rfl hf'
theorem steps_nums {l : List (Int × R)} (h : ∀ q ∈ l, fits q ∧ q.1 ≤ M) : ∀ x ∈ steps l, num x := by
  intro x hx
  unfold steps at hx
  obtain ⟨q, hq, hx⟩ := List.mem_flatMap.1 hx
  obtain ⟨⟨f1, f2, f3⟩, f4⟩ := h q hq
  simp only [M] at f4
  simp only [List.mem_cons, List.not_mem_nil, or_false] at hx
  unfold num M
  rcases hx with rfl | rfl <;> omega
/-- The numbers of a valid ACK. -/
theorem all_nums {a : Ack} (h : Valid a) : ∀ x ∈ kind a :: nums a, num x := by
  obtain ⟨⟨h1, h2, h3⟩, hf, hm⟩ := h
  obtain ⟨f, t, ht⟩ : ∃ f t, a.ranges = f :: t := by
    cases e : a.ranges with
    | nil => rw [e] at h1; simp at h1
    | cons f t => exact ⟨f, t, rfl⟩
  have htop := tops_num _ a.ranges rfl hf
  have hfirst : first a = f := by unfold first; rw [ht]; rfl
  have hoth : tops M a.ranges = (M, f) :: others a := by unfold others; rw [hfirst, ht]; rfl
  have hff : fits (M, f) := hf _ (by rw [hoth]; exact List.mem_cons_self ..)
  obtain ⟨g1, g2, g3⟩ := hff
  simp only [M] at g1 g2 g3
  intro x hx
  rcases List.mem_cons.1 hx with rfl | hx
  · unfold kind num M; split <;> omega
  · unfold nums at hx
    rcases List.mem_append.1 hx with hx | hx
    · rcases List.mem_append.1 hx with hx | hx
      · rw [hfirst] at hx
        simp only [List.mem_cons, List.not_mem_nil, or_false] at hx
        rcases hx with rfl | rfl | rfl | rfl
        · unfold num M; omega
        · exact h3
        · unfold num M; omega
        · unfold num M; omega
      · exact steps_nums (fun q hq => ⟨hf q (by rw [hoth]; exact List.mem_cons_of_mem _ hq), htop q (by rw [hoth]; exact List.mem_cons_of_mem _ hq)⟩) x hx
    · obtain ⟨m1, m2, m3, _⟩ := hm
      unfold marks at hx
      split at hx
      · simp only [List.mem_cons, List.not_mem_nil, or_false] at hx
        rcases hx with rfl | rfl | rfl
        · exact m1
        · exact m2
        · exact m3
      · cases hx
/-- What was laid out i ranges on. -/
def laid (a : Ack) (i : Nat) : List Int := [kind a, (first a).2, a.delay, (a.ranges.length : Int) - 1, (first a).2 - (first a).1] ++ steps (tops M (a.ranges.take i)).tail
theorem laid_all {a : Ack} (h : 1 ≤ a.ranges.length) : laid a a.ranges.length ++ marks a = kind a :: nums a := by
  obtain ⟨f, t, ht⟩ : ∃ f t, a.ranges = f :: t := by
    cases e : a.ranges with
    | nil => rw [e] at h; simp at h
    | cons f t => exact ⟨f, t, rfl⟩
  have hfirst : first a = f := by unfold first; rw [ht]; rfl
  unfold laid nums others
  rw [List.take_of_length_le (Nat.le_refl _), hfirst, ht]
  rfl
theorem laid_one {a : Ack} : laid a 1 = [kind a, (first a).2, a.delay, (a.ranges.length : Int) - 1, (first a).2 - (first a).1] := by
  unfold laid
  cases h : a.ranges with
  | nil => rfl
  | cons f t => rfl
theorem laid_next {a : Ack} {k : Nat} (h : k + 1 < a.ranges.length) : laid a (k + 1 + 1) = laid a (k + 1) ++ [under (at_ a.ranges k) - (at_ a.ranges (k + 1)).2, (at_ a.ranges (k + 1)).2 - (at_ a.ranges (k + 1)).1] := by
  unfold laid
  rw [tops_take h, topAt_take (by omega) M, List.tail_append_of_ne_nil (by
    intro e
    have := congrArg List.length e
    rw [tops_length, List.length_take, List.length_nil] at this
    omega), steps_append, ← List.append_assoc]
  rfl
/-- What is known of two neighbours. -/
theorem falls_two {a : Ack} (h : falls M a.ranges) {k : Nat} (hk : k + 1 < a.ranges.length) : under (at_ a.ranges k) = (at_ a.ranges k).1 - 2 ∧ 0 ≤ (at_ a.ranges (k + 1)).1 ∧ (at_ a.ranges (k + 1)).1 ≤ (at_ a.ranges (k + 1)).2 ∧ (at_ a.ranges (k + 1)).2 ≤ (at_ a.ranges k).1 - 2 ∧ (at_ a.ranges k).1 ≤ M := by
  have hp : ∀ i, falls M (a.ranges.take i) := fun i p hp => h p (by
    have e : a.ranges = a.ranges.take i ++ a.ranges.drop i := (List.take_append_drop i a.ranges).symm
    rw [e, tops_append]
    exact List.mem_append_left _ hp)
  obtain ⟨_, f1⟩ := (falls_more (l := a.ranges) (i := k + 1) hk).1 (hp (k + 1 + 1))
  obtain ⟨g0, g1⟩ := (falls_more (l := a.ranges) (i := k) (by omega)).1 (hp (k + 1))
  have ht := top_le _ _ rfl g0
  have hu : under (at_ a.ranges k) = (at_ a.ranges k).1 - 2 := under_eq ht g1
  rw [topAt_take (by omega) M, hu] at f1
  obtain ⟨a1, a2, a3⟩ := f1
  obtain ⟨b1, b2, b3⟩ := g1
  simp only at a1 a2 a3 b1 b2 b3
  exact ⟨hu, a1, a2, a3, by omega⟩
theorem first_at {a : Ack} : first a = at_ a.ranges 0 := by
  unfold first at_
  cases a.ranges <;> rfl
theorem first_bd {a : Ack} (h : Valid a) : 0 ≤ (first a).1 ∧ (first a).1 ≤ (first a).2 ∧ (first a).2 ≤ 9007199254740991 := by
  obtain ⟨⟨h1, _, _⟩, hf, _⟩ := h
  obtain ⟨f, t, ht⟩ : ∃ f t, a.ranges = f :: t := by
    cases e : a.ranges with
    | nil => rw [e] at h1; simp at h1
    | cons f t => exact ⟨f, t, rfl⟩
  have hfirst : first a = f := by unfold first; rw [ht]; rfl
  have hff : fits (M, f) := hf _ (by rw [ht]; exact List.mem_cons_self ..)
  rw [hfirst]
  exact hff
theorem put_more {l : List Int} {x : Int} (h : num x) : putOut l x (size x) = l ++ en x := by
  have hz := size_num h
  exact putOut_ok l x (size x) (by unfold putErr; rw [if_neg hz, if_pos ⟨size_four_of x hz, Int.le_refl _⟩])
theorem bytes_all {a : Ack} : encs (kind a :: nums a) = FrmM.bytes a := by
  unfold FrmM.bytes kind
  split <;> rfl

theorem IR.of_blk {W : World} {base g : Nat} {L : List Int} {cs : Array Value} (h : Wd.Blk W g 3 cs) (hc : cs = (L.map (Value.int .i64)).toArray) (hb : base ≤ g) (hl : L.length ≤ 1000000) : IR W base (.slice (some ⟨g, 0, none⟩) L.length L.length) L := by
  subst hc
  exact ⟨by simp, .inr ⟨g, L.length, _, rfl, hb, h, Nat.le_refl _, by unfold maxLen; omega, by simp, by rw [Nat.mul_one]; exact List.take_of_length_le (by simp)⟩⟩
theorem IR.form {W : World} {base : Nat} {V : Value} {L : List Int} (h : IR W base V L) (hl : 0 < L.length) : ∃ g cap, V = .slice (some ⟨g, 0, none⟩) L.length cap ∧ g < W.heap.size := by
  rcases h.2 with ⟨_, h0⟩ | ⟨g, cap, cur, rfl, _, hg, _⟩
  · omega
  · exact ⟨g, cap, rfl, (Array.getElem?_eq_some_iff.1 hg).1⟩
theorem IR.cell {W : World} {base g cap : Nat} {L : List Int} (h : IR W base (.slice (some ⟨g, 0, none⟩) L.length cap) L) {j : Nat} (hj : j < L.length) : W.cell? ⟨g, j, none⟩ = some (.int .i64 (nth L j)) := by
  rw [World.ownsRow.cellAt h j (by omega)]
  simp [nth, List.getD, List.getElem?_eq_getElem hj]
theorem ir_ne {W : World} {base b : Nat} {V : Value} {L : List Int} {t : TypeId} {cs : Array Value} (row : IR W base V L) (hb : Wd.Blk W b t cs) (ht : 3 ≠ t) : ∀ i, V.ownBlock = some i → i ≠ b := by
  intro i hi'
  rcases row.2 with ⟨rfl, _⟩ | ⟨g', cap, cur, rfl, _, hgb, _⟩
  · cases hi'
  · have e2 : g' = i := by simpa [Value.ownBlock] using hi'
    subst e2
    exact Wd.Blk.ne_ (show Wd.Blk W g' 3 cur from hgb) hb ht
theorem own_less {w : World} {b b' : Nat} {V : Value} {l : List Int} (h : Oct.Own w b V l) (hb : b' ≤ b) : Oct.Own w b' V l := ⟨ownsRow_less h.1 hb, h.2⟩

set_option maxRecDepth 100000 in
set_option maxHeartbeats 1000000 in
theorem rbytes_not (A : Option Addr) (n c : Nat) (a : Ack) (w : World) (hl : Row w A n c a.ranges) (hv : ¬ Valid a) :
    Calls Tryd.prog 14 #[ackV A n c a] w fun e w' => ∃ V, e = .returned (.tuple #[V, .int .i64 (check a)]) ∧ Oct.Own w' w.heap.size V (bytesOut a) ∧ Wd.Kept w w' := by
  rw [check_not hv, show bytesOut a = [] from if_neg hv]
  have pa := Wd.Blk.new w 25 (ackA A n c a)
  have kk := (Wd.Kept.refl w).alloc (.cells (ackA A n c a) 25)
  obtain ⟨W, hW⟩ : ∃ W, W = w.alloc (.cells (ackA A n c a) 25) := ⟨_, rfl⟩
  rw [← hW] at pa kk
  have hck := rcheck_any A n c a W (hl.kept kk)
  rw [check_not hv] at hck
  have KK := Lib.hid kk
  unfold ackV at hck ⊢
  unfold ackA at hW
  have HCK := Lib.hid hck
  have d0 : W.cell? ⟨w.heap.size, 0, none⟩ = some (.int .i64 a.delay) := pa.cell 0
  have d1 : W.cell? ⟨w.heap.size, 1, none⟩ = some (.slice A n c) := pa.cell 1
  have d2 : W.cell? ⟨w.heap.size, 2, none⟩ = some (.bool a.marked) := pa.cell 2
  have d3 : W.cell? ⟨w.heap.size, 3, none⟩ = some (.int .i64 a.m0) := pa.cell 3
  have d4 : W.cell? ⟨w.heap.size, 4, none⟩ = some (.int .i64 a.m1) := pa.cell 4
  have d5 : W.cell? ⟨w.heap.size, 5, none⟩ = some (.int .i64 a.m2) := pa.cell 5
  clear pa kk hl hv hck
  go_enter Tryd.func14, Tryd.ntmps14
  go_upto_region 1 with (fail)
  rw [← hW]
  clear hW
  go_wp2_with fail
  with_reducible refine HCK.out.mono ?_
  rintro e w1 ⟨rfl, k1⟩
  have K1 := Lib.hid (KK.out.trans k1)
  clear k1 HCK
  go_wp2_with fail
  go_ret2
  exact ⟨_, rfl, own_nil _ _, K1.out⟩

set_option maxRecDepth 100000 in
set_option maxHeartbeats 4000000 in
theorem rbytes_false (A : Option Addr) (n c : Nat) (a : Ack) (w : World) (hl : Row w A n c a.ranges) (hv : Valid a) (hmk : a.marked = false) :
    Calls Tryd.prog 14 #[ackV A n c a] w fun e w' => ∃ V, e = .returned (.tuple #[V, .int .i64 0]) ∧ Oct.Own w' w.heap.size V (FrmM.bytes a) ∧ Wd.Kept w w' := by
  have hln := Lib.hid hl.1
  have hA := Lib.hid (fun i e => Nat.le_of_lt (hl.lt i e))
  have hn1 : 1 ≤ n := by rw [← hl.1]; exact hv.1.1
  have hn2 : n ≤ 256 := by rw [← hl.1]; exact hv.1.2.1
  have HVA := Lib.hid hv
  have HK : Hid (kind a = 2) := Lib.hid (by unfold kind; rw [hmk]; rfl)
  have HMK := Lib.hid hmk
  have pa := Wd.Blk.new w 25 (ackA A n c a)
  have kk := (Wd.Kept.refl w).alloc (.cells (ackA A n c a) 25)
  have hsz : (w.alloc (.cells (ackA A n c a) 25)).heap.size = w.heap.size + 1 := by simp
  obtain ⟨W, hW⟩ : ∃ W, W = w.alloc (.cells (ackA A n c a) 25) := ⟨_, rfl⟩
  rw [← hW] at pa kk hsz
  have D : Hid (Ck w W w.heap.size A n c a) := Lib.hid ⟨pa, hl.kept kk, kk⟩
  have hck := rcheck_any A n c a W D.out.ra
  rw [check_ok hv] at hck
  unfold ackV at hck ⊢
  unfold ackA at hW
  have HCK := Lib.hid hck
  have SZ := Lib.hid hsz
  have d0 : W.cell? ⟨w.heap.size, 0, none⟩ = some (.int .i64 a.delay) := pa.cell 0
  have d1 : W.cell? ⟨w.heap.size, 1, none⟩ = some (.slice A n c) := pa.cell 1
  have d2 : W.cell? ⟨w.heap.size, 2, none⟩ = some (.bool a.marked) := pa.cell 2
  have d3 : W.cell? ⟨w.heap.size, 3, none⟩ = some (.int .i64 a.m0) := pa.cell 3
  have d4 : W.cell? ⟨w.heap.size, 4, none⟩ = some (.int .i64 a.m1) := pa.cell 4
  have d5 : W.cell? ⟨w.heap.size, 5, none⟩ = some (.int .i64 a.m2) := pa.cell 5
  have hfd := first_bd hv
  clear pa kk hl hv hck hmk hsz
  go_enter Tryd.func14, Tryd.ntmps14
  go_upto_region 1 with (fail)
  rw [← hW]
  clear hW
  go_wp2_with fail
  with_reducible refine HCK.out.mono ?_
  rintro e w1 ⟨rfl, k1⟩
  have D1 := Lib.hid (D.out.on k1)
  have SZ1 := Lib.hid (show w.heap.size + 1 ≤ w1.heap.size by have := k1.size; have := SZ.out; omega)
  clear k1 HCK D d0 d1 d2 d3 d4 d5
  obtain ⟨ga, rfl, gl⟩ := D1.out.ra.some_ (by omega)
  have e0 : w1.cell? ⟨ga, 0, none⟩ = some (.int .i64 (first a).1) := by rw [first_at]; have h := D1.out.ra.lo (k := 0) (by omega); simpa using h
  have e1 : w1.cell? ⟨ga, 1, none⟩ = some (.int .i64 (first a).2) := by rw [first_at]; have h := D1.out.ra.hi (k := 0) (by omega); simpa using h
  have d1 := D1.out.c1
  have z0 : (0 : Int) < (n : Int) := by omega
  have hL1 : Hid (laid a 1 = [kind a, (first a).2, a.delay, (n : Int) - 1, (first a).2 - (first a).1]) := Lib.hid (by rw [laid_one, hln.out])
  obtain ⟨f1, hf1⟩ : ∃ x, (first a).1 = x := ⟨_, rfl⟩
  obtain ⟨f2, hf2⟩ : ∃ x, (first a).2 = x := ⟨_, rfl⟩
  rw [hf1] at e0 hL1 hfd
  rw [hf2] at e1 hL1 hfd
  clear hf1 hf2
  have hpl := D1.out.pa.lt
  go_upto_region 5 with (fail)
  have BX := Lib.hid (Wd.Blk.new w1 36 #[.int .i64 f1, .int .i64 f2])
  have DF := Lib.hid (D1.out.on ((Wd.Kept.refl w1).alloc (.cells #[.int .i64 f1, .int .i64 f2] 36)))
  have SZF := Lib.hid (show w.heap.size + 1 ≤ (w1.alloc (.cells #[.int .i64 f1, .int .i64 f2] 36)).heap.size by have := SZ1.out; simp; omega)
  generalize w1.alloc (.cells #[.int .i64 f1, .int .i64 f2] 36) = wf at *
  generalize w1.heap.size = fb at *
  clear e0 e1 d1 gl hpl
  have x0 := BX.out.cell 0
  have x1 := BX.out.cell 1
  have d0 : wf.cell? ⟨w.heap.size, 0, none⟩ = some (.int .i64 a.delay) := DF.out.pa.cell 0
  have d1 := DF.out.c1
  have hbl := BX.out.lt
  have hpl := DF.out.pa.lt
  have hw1 : IntKind.i64.wrap ((n : Int) - 1) = (n : Int) - 1 := IntWalk.i64_in _ (by omega)
  have hw2 : IntKind.i64.wrap (f2 - f1) = f2 - f1 := IntWalk.i64_in _ (by omega)
  go_upto_region 6 with (fail)
  have BG := Lib.hid (Wd.Blk.new wf 3 #[.int .i64 2, .int .i64 f2, .int .i64 a.delay, .int .i64 ((n : Int) - 1), .int .i64 (f2 - f1)])
  have DG := Lib.hid (DF.out.on ((Wd.Kept.refl wf).alloc (.cells #[.int .i64 2, .int .i64 f2, .int .i64 a.delay, .int .i64 ((n : Int) - 1), .int .i64 (f2 - f1)] 3)))
  generalize wf.alloc (.cells #[.int .i64 2, .int .i64 f2, .int .i64 a.delay, .int .i64 ((n : Int) - 1), .int .i64 (f2 - f1)] 3) = wg at *
  generalize hgg : wf.heap.size = g at *
  clear x0 x1 d0 d1 hbl hpl hw1 hw2 BX DF hgg
  have d2 : wg.cell? ⟨w.heap.size, 2, none⟩ = some (.bool false) := by rw [← HMK.out]; exact DG.out.pa.cell 2
  have hpl := DG.out.pa.lt
  have B0 : Hid (BL w wg w.heap.size (some ⟨ga, 0, none⟩) n c a (.slice (some ⟨g, 0, none⟩) 5 5) (laid a 1)) :=
    Lib.hid ⟨DG.out, by rw [hL1.out, HK.out]; exact IR.of_blk (L := [2, f2, a.delay, (n : Int) - 1, f2 - f1]) BG.out rfl SZF.out (by simp), hA.out⟩
  go_upto_region 8 with (fail)
  generalize wg = w8 at *
  clear d2 hpl BG DG hL1 SZF D1 SZ1
  have HFL := Lib.hid (fun (k : Nat) hk => falls_two (a := a) HVA.out.2.1 (k := k) hk)
  generalize hVV : (Value.slice (some ⟨g, 0, none⟩) 5 5) = V0 at *
  clear hVV
  go_wp2_with fail
  go_loopw [6, 7] (fun s6 s7 wr => ∃ (i : Nat), 1 ≤ i ∧ i ≤ n ∧ s7 = .int .i64 i ∧ Hid (BL w wr w.heap.size (some ⟨ga, 0, none⟩) n c a s6 (laid a i))) (fun _ s7 _ => n - (intOf s7).toNat)
  case atStart => exact ⟨1, by omega, hn1, rfl, B0⟩
  case round =>
    obtain ⟨i, hi1, hi2, rfl, HB⟩ := hrel
    clear B0
    have d1 := HB.out.ck.c1
    by_cases hlt : i < n
    · obtain ⟨k, hk⟩ : ∃ k, i = k + 1 := ⟨i - 1, by omega⟩
      have z0 : (0 : Int) ≤ (i : Int) := by omega
      have z1 : (i : Int) < (n : Int) := by omega
      have z2 : IntKind.i64.wrap ((i : Int) + 1) = (i : Int) + 1 := IntWalk.i64_in _ (by omega)
      have e0 := HB.out.ck.ra.lo hlt
      have e1 := HB.out.ck.ra.hi hlt
      have gl : ga < wr.heap.size := by obtain ⟨x, h, hh⟩ := HB.out.ck.ra.some_ (by omega); injection h with h; injection h with h; rw [h]; exact hh
      have pl := HB.out.ck.pa.lt
      have ft := HFL.out k (by rw [hln.out]; omega)
      have hLX := laid_next (a := a) (k := k) (by rw [hln.out]; omega)
      rw [← hk] at ft hLX
      obtain ⟨lo, hh, hx⟩ : ∃ lo hh, at_ a.ranges i = (lo, hh) := ⟨_, _, rfl⟩
      rw [hx] at e0 e1 ft hLX
      have hkn : k < n := by omega
      have hk0 : (0 : Int) ≤ (k : Int) := by omega
      have hk1 : (k : Int) < (n : Int) := by omega
      have hwk : IntKind.i64.wrap ((i : Int) - 1) = (k : Int) := by rw [IntWalk.i64_in _ (by omega)]; omega
      obtain ⟨pv, hpv⟩ : ∃ pv, (at_ a.ranges k).1 = pv := ⟨_, rfl⟩
      rw [hpv] at ft
      rw [ft.1] at hLX
      simp only at e0 e1 ft
      obtain ⟨_, t1, t2, t3, t4⟩ := ft
      simp only [M] at t4
      have HLX : Hid (laid a (i + 1) = laid a i ++ [pv - hh - 2, hh - lo]) := Lib.hid (by rw [hLX, show pv - 2 - hh = pv - hh - 2 by omega])
      have w1_ : IntKind.i64.wrap (pv - hh) = pv - hh := IntWalk.i64_in _ (by omega)
      have w2_ : IntKind.i64.wrap (pv - hh - 2) = pv - hh - 2 := IntWalk.i64_in _ (by omega)
      have w3_ : IntKind.i64.wrap (hh - lo) = hh - lo := IntWalk.i64_in _ (by omega)
      have HPV := Lib.hid hpv
      clear hx hpv hLX hk
      go_upto_region 12 with (fail)
      have BX := Lib.hid (Wd.Blk.new wr 36 #[.int .i64 lo, .int .i64 hh])
      have DX := Lib.hid (HB.out.on ((Wd.Kept.refl wr).alloc (.cells #[.int .i64 lo, .int .i64 hh] 36)))
      have hws : w.heap.size + 1 ≤ (wr.alloc (.cells #[.int .i64 lo, .int .i64 hh] 36)).heap.size := by simp; omega
      generalize wr.alloc (.cells #[.int .i64 lo, .int .i64 hh] 36) = wx at *
      generalize wr.heap.size = xb at *
      have e2 : wx.cell? ⟨ga, k * 2, none⟩ = some (.int .i64 pv) := by have h := DX.out.ck.ra.lo hkn; rw [HPV.out] at h; exact h
      clear e0 e1 gl pl d1 HB t1 t2 t3 t4
      have x0 := BX.out.cell 0
      have x1 := BX.out.cell 1
      have d1 := DX.out.ck.c1
      have hll : Hid ((laid a i).length + 2 ≤ 1000000) := Lib.hid (by
        have h1 := DX.out.row.1
        unfold laid
        rw [List.length_append]
        have h2 := steps_length ((tops M (a.ranges.take i)).tail)
        rw [h2, List.length_tail, tops_length, List.length_take, hln.out]
        simp
        omega)
      have hrow : Hid (IR wx.drew (w.heap.size + 1) u6 (laid a i)) := Lib.hid (DX.out.on ((Wd.Kept.refl wx).drew)).row
      have HWS : Hid (w.heap.size + 1 ≤ wx.drew.heap.size) := Lib.hid hws
      have DA := Lib.hid ((DX.out.on ((Wd.Kept.refl wx).drew)).on ((Wd.Kept.refl wx.drew).alloc (.cells #[.int .i64 (pv - hh - 2), .int .i64 (hh - lo)] 3)))
      have BXA := Lib.hid ((BX.out.kept ((Wd.Kept.refl wx).drew)).kept ((Wd.Kept.refl wx.drew).alloc (.cells #[.int .i64 (pv - hh - 2), .int .i64 (hh - lo)] 3)))
      have D0 : Hid ((fun V => V.cell? ⟨w.heap.size, 1, none⟩ = some (.slice (some ⟨ga, 0, none⟩) n c) ∧ V.cell? ⟨ga, k * 2, none⟩ = some (.int .i64 pv) ∧ V.cell? ⟨xb, 0, none⟩ = some (.int .i64 lo) ∧ V.cell? ⟨xb, 1, none⟩ = some (.int .i64 hh)) wx.drew) := Lib.hid ⟨d1, e2, x0, x1⟩
      have D1 : Hid ((fun V => V.cell? ⟨w.heap.size, 1, none⟩ = some (.slice (some ⟨ga, 0, none⟩) n c) ∧ V.cell? ⟨ga, k * 2, none⟩ = some (.int .i64 pv) ∧ V.cell? ⟨xb, 0, none⟩ = some (.int .i64 lo) ∧ V.cell? ⟨xb, 1, none⟩ = some (.int .i64 hh)) ((wx.alloc (.cells #[.int .i64 (pv - hh - 2), .int .i64 (hh - lo)] 3)).drew)) := Lib.hid ⟨DA.out.ck.c1, by have h := DA.out.ck.ra.lo hkn; rw [HPV.out] at h; exact h, BXA.out.cell 0, BXA.out.cell 1⟩
      simp only at D0 D1
      have D2 := D0
      go_region_held3 (fun V => V.cell? ⟨w.heap.size, 1, none⟩ = some (.slice (some ⟨ga, 0, none⟩) n c) ∧ V.cell? ⟨ga, k * 2, none⟩ = some (.int .i64 pv) ∧ V.cell? ⟨xb, 0, none⟩ = some (.int .i64 lo) ∧ V.cell? ⟨xb, 1, none⟩ = some (.int .i64 hh))
        (first | with_reducible exact D0.out | with_reducible exact D1.out | exact D2.out)
        ((refine step_ints rfl (.tmp 50) (.tmp 67) rfl (N := [pv - hh - 2, hh - lo]) (by first | rfl | simp [Act.eval, Act.put]) hrow.out HWS.out hll.out rfl (by first | rfl | simp [Act.eval, Act.put]) ?_; intro V' w' h1 h2; have HB2 := Lib.hid (DA.out.grown (Nat.le_refl _) h2.out (by rw [← HLX.out] at h1; exact h1.out)); have BX2 := Lib.hid (BXA.out.at_ (h2.out.block _ BXA.out.lt (fun e => ir_ne DA.out.row BXA.out (by decide) _ e.symm rfl))); have D2 : Hid ((fun V => V.cell? ⟨w.heap.size, 1, none⟩ = some (.slice (some ⟨ga, 0, none⟩) n c) ∧ V.cell? ⟨ga, k * 2, none⟩ = some (.int .i64 pv) ∧ V.cell? ⟨xb, 0, none⟩ = some (.int .i64 lo) ∧ V.cell? ⟨xb, 1, none⟩ = some (.int .i64 hh)) w') := Lib.hid ⟨HB2.out.ck.c1, by have h := HB2.out.ck.ra.lo hkn; rw [HPV.out] at h; exact h, BX2.out.cell 0, BX2.out.cell 1⟩))
      all_goals
        go_wp2_with fail
        go_roundw
        case rel => exact ⟨i + 1, by omega, by omega, by go_num, HB2⟩
        case measure => simp [intOf]; omega
    · obtain rfl : i = n := by omega
      have hz1 : ¬ ((i : Int) < (i : Int)) := by omega
      have pl := HB.out.ck.pa.lt
      have d2 : wr.cell? ⟨w.heap.size, 2, none⟩ = some (.bool false) := by rw [← HMK.out]; exact HB.out.ck.pa.cell 2
      have HLL : Hid (laid a i ++ marks a = kind a :: nums a) := Lib.hid (by have h := laid_all (a := a) (by rw [hln.out]; omega); rw [hln.out] at h; exact h)
      have HNU := Lib.hid (all_nums HVA.out)
      have HBA := Lib.hid (bytes_all (a := a))
      have hNP : Hid (0 < (kind a :: nums a).length) := Lib.hid (Nat.succ_pos _)
      have hNL : Hid ((kind a :: nums a).length ≤ 600) := Lib.hid (by have := nums_length a (by rw [hln.out]; omega); rw [hln.out] at this; simp; omega)
      generalize hLL : kind a :: nums a = LL at HLL HNU HBA hNL hNP
      clear hLL
      have HB3 : Hid (BL w wr w.heap.size (some ⟨ga, 0, none⟩) i c a u6 LL) := Lib.hid (by rw [← HLL.out, marks_zero HMK.out, List.append_nil]; exact HB.out)
      go_upto_region 15 with (fail)
      generalize wr = w9 at *
      clear d1 d2 pl HB
      obtain ⟨gl, cl, rfl, glt⟩ := HB3.out.row.form hNP.out
      have HOB : Hid (Oct.Own w9 w.heap.size (.slice none 0 0) (encs (LL.take 0))) := Lib.hid (own_nil w9 _)
      clear hz1 glt
      go_wp2_with fail
      go_loopw [9, 10] (fun s9 s10 wr => ∃ j : Nat, j ≤ LL.length ∧ s10 = .int .i64 j ∧ Hid (BL w wr w.heap.size (some ⟨ga, 0, none⟩) i c a (.slice (some ⟨gl, 0, none⟩) LL.length cl) LL) ∧ Hid (Oct.Own wr w.heap.size s9 (encs (LL.take j)))) (fun _ s10 _ => LL.length - (intOf s10).toNat)
      case atStart => exact ⟨0, Nat.zero_le _, rfl, HB3, HOB⟩
      case round =>
        obtain ⟨j, hj, rfl, HB4, HO⟩ := hrel
        clear HB3 HOB
        have hNLo := hNL.out
        by_cases hlt : j < LL.length
        · have z0 : (0 : Int) ≤ (j : Int) := by omega
          have z1 : (j : Int) < (LL.length : Int) := by omega
          have z2 : IntKind.i64.wrap ((j : Int) + 1) = (j : Int) + 1 := IntWalk.i64_in _ (by omega)
          have cj := HB4.out.row.cell hlt
          obtain ⟨B, cB, hV, yb, _⟩ := HO.out.byt
          have hpc := rput_any B _ cB (nth LL j) (encs (LL.take j)) wr yb (by have h1 := encs_le (LL.take j); rw [List.length_take] at h1; omega)
          rw [put_more (HNU.out _ (nth_mem hlt)), show encs (LL.take j) ++ en (nth LL j) = encs (LL.take (j + 1)) by rw [take_nth hlt, encs_append]; simp [encs]] at hpc
          have HPC := Lib.hid hpc
          subst hV
          have hws : Hid (w.heap.size ≤ wr.heap.size) := Lib.hid HB4.out.ck.k.size
          clear hpc yb HO hNLo
          generalize (encs (LL.take j)).length = m at *
          generalize nth LL j = x at *
          go_wp2_with fail
          with_reducible refine HPC.out.mono ?_
          rintro e w' ⟨v, rfl, ho, hk⟩
          have HB5 := Lib.hid (HB4.out.on hk)
          have HO5 := Lib.hid (own_less ho hws.out)
          clear ho hk HPC cj
          go_wp2_with fail
          go_roundw
          case rel => exact ⟨j + 1, by omega, by go_num, HB5, HO5⟩
          case measure => simp [intOf]; omega
        · obtain rfl : j = LL.length := by omega
          have hz1 : ¬ ((LL.length : Int) < (LL.length : Int)) := by omega
          have HOE : Hid (Oct.Own wr w.heap.size u9 (FrmM.bytes a)) := Lib.hid (by have h := HO.out; rw [List.take_of_length_le (Nat.le_refl _), HBA.out] at h; exact h)
          go_wp2_with fail
          go_ret2
          exact ⟨_, rfl, HOE.out, HB4.out.ck.k⟩

set_option maxRecDepth 100000 in
set_option maxHeartbeats 4000000 in
theorem rbytes_true (A : Option Addr) (n c : Nat) (a : Ack) (w : World) (hl : Row w A n c a.ranges) (hv : Valid a) (hmk : a.marked = true) :
    Calls Tryd.prog 14 #[ackV A n c a] w fun e w' => ∃ V, e = .returned (.tuple #[V, .int .i64 0]) ∧ Oct.Own w' w.heap.size V (FrmM.bytes a) ∧ Wd.Kept w w' := by
  have hln := Lib.hid hl.1
  have hA := Lib.hid (fun i e => Nat.le_of_lt (hl.lt i e))
  have hn1 : 1 ≤ n := by rw [← hl.1]; exact hv.1.1
  have hn2 : n ≤ 256 := by rw [← hl.1]; exact hv.1.2.1
  have HVA := Lib.hid hv
  have HK : Hid (kind a = 3) := Lib.hid (by unfold kind; rw [hmk]; rfl)
  have HMK := Lib.hid hmk
  have pa := Wd.Blk.new w 25 (ackA A n c a)
  have kk := (Wd.Kept.refl w).alloc (.cells (ackA A n c a) 25)
  have hsz : (w.alloc (.cells (ackA A n c a) 25)).heap.size = w.heap.size + 1 := by simp
  obtain ⟨W, hW⟩ : ∃ W, W = w.alloc (.cells (ackA A n c a) 25) := ⟨_, rfl⟩
  rw [← hW] at pa kk hsz
  have D : Hid (Ck w W w.heap.size A n c a) := Lib.hid ⟨pa, hl.kept kk, kk⟩
  have hck := rcheck_any A n c a W D.out.ra
  rw [check_ok hv] at hck
  unfold ackV at hck ⊢
  unfold ackA at hW
  have HCK := Lib.hid hck
  have SZ := Lib.hid hsz
  have d0 : W.cell? ⟨w.heap.size, 0, none⟩ = some (.int .i64 a.delay) := pa.cell 0
  have d1 : W.cell? ⟨w.heap.size, 1, none⟩ = some (.slice A n c) := pa.cell 1
  have d2 : W.cell? ⟨w.heap.size, 2, none⟩ = some (.bool a.marked) := pa.cell 2
  have d3 : W.cell? ⟨w.heap.size, 3, none⟩ = some (.int .i64 a.m0) := pa.cell 3
  have d4 : W.cell? ⟨w.heap.size, 4, none⟩ = some (.int .i64 a.m1) := pa.cell 4
  have d5 : W.cell? ⟨w.heap.size, 5, none⟩ = some (.int .i64 a.m2) := pa.cell 5
  have hfd := first_bd hv
  clear pa kk hl hv hck hmk hsz
  go_enter Tryd.func14, Tryd.ntmps14
  go_upto_region 1 with (fail)
  rw [← hW]
  clear hW
  go_wp2_with fail
  with_reducible refine HCK.out.mono ?_
  rintro e w1 ⟨rfl, k1⟩
  have D1 := Lib.hid (D.out.on k1)
  have SZ1 := Lib.hid (show w.heap.size + 1 ≤ w1.heap.size by have := k1.size; have := SZ.out; omega)
  clear k1 HCK D d0 d1 d2 d3 d4 d5
  obtain ⟨ga, rfl, gl⟩ := D1.out.ra.some_ (by omega)
  have e0 : w1.cell? ⟨ga, 0, none⟩ = some (.int .i64 (first a).1) := by rw [first_at]; have h := D1.out.ra.lo (k := 0) (by omega); simpa using h
  have e1 : w1.cell? ⟨ga, 1, none⟩ = some (.int .i64 (first a).2) := by rw [first_at]; have h := D1.out.ra.hi (k := 0) (by omega); simpa using h
  have d1 := D1.out.c1
  have z0 : (0 : Int) < (n : Int) := by omega
  have hL1 : Hid (laid a 1 = [kind a, (first a).2, a.delay, (n : Int) - 1, (first a).2 - (first a).1]) := Lib.hid (by rw [laid_one, hln.out])
  obtain ⟨f1, hf1⟩ : ∃ x, (first a).1 = x := ⟨_, rfl⟩
  obtain ⟨f2, hf2⟩ : ∃ x, (first a).2 = x := ⟨_, rfl⟩
  rw [hf1] at e0 hL1 hfd
  rw [hf2] at e1 hL1 hfd
  clear hf1 hf2
  have hpl := D1.out.pa.lt
  go_upto_region 5 with (fail)
  have BX := Lib.hid (Wd.Blk.new w1 36 #[.int .i64 f1, .int .i64 f2])
  have DF := Lib.hid (D1.out.on ((Wd.Kept.refl w1).alloc (.cells #[.int .i64 f1, .int .i64 f2] 36)))
  have SZF := Lib.hid (show w.heap.size + 1 ≤ (w1.alloc (.cells #[.int .i64 f1, .int .i64 f2] 36)).heap.size by have := SZ1.out; simp; omega)
  generalize w1.alloc (.cells #[.int .i64 f1, .int .i64 f2] 36) = wf at *
  generalize w1.heap.size = fb at *
  clear e0 e1 d1 gl hpl
  have x0 := BX.out.cell 0
  have x1 := BX.out.cell 1
  have d0 : wf.cell? ⟨w.heap.size, 0, none⟩ = some (.int .i64 a.delay) := DF.out.pa.cell 0
  have d1 := DF.out.c1
  have hbl := BX.out.lt
  have hpl := DF.out.pa.lt
  have hw1 : IntKind.i64.wrap ((n : Int) - 1) = (n : Int) - 1 := IntWalk.i64_in _ (by omega)
  have hw2 : IntKind.i64.wrap (f2 - f1) = f2 - f1 := IntWalk.i64_in _ (by omega)
  go_upto_region 6 with (fail)
  have BG := Lib.hid (Wd.Blk.new wf 3 #[.int .i64 2, .int .i64 f2, .int .i64 a.delay, .int .i64 ((n : Int) - 1), .int .i64 (f2 - f1)])
  have DG := Lib.hid (DF.out.on ((Wd.Kept.refl wf).alloc (.cells #[.int .i64 2, .int .i64 f2, .int .i64 a.delay, .int .i64 ((n : Int) - 1), .int .i64 (f2 - f1)] 3)))
  generalize wf.alloc (.cells #[.int .i64 2, .int .i64 f2, .int .i64 a.delay, .int .i64 ((n : Int) - 1), .int .i64 (f2 - f1)] 3) = wg at *
  generalize hgg : wf.heap.size = g at *
  clear x0 x1 d0 d1 hbl hpl hw1 hw2 BX DF hgg
  have d2 : wg.cell? ⟨w.heap.size, 2, none⟩ = some (.bool true) := by rw [← HMK.out]; exact DG.out.pa.cell 2
  have hpl := DG.out.pa.lt
  have gz := BG.out.cell 0
  have gf := BG.out.frozen 0
  have gl := BG.out.lt
  have B0 : Hid (BL w (wg.setCell ⟨g, 0, none⟩ (.int .i64 3)) w.heap.size (some ⟨ga, 0, none⟩) n c a (.slice (some ⟨g, 0, none⟩) 5 5) (laid a 1)) :=
    Lib.hid ⟨⟨DG.out.pa.far (p := ⟨g, 0, none⟩) (by show w.heap.size ≠ g; have := SZF.out; omega) _, DG.out.ra.same_ (fun i e => by rw [Below.heap_setCell _ _ _ _ (fun e2 => by have h1 := hA.out i e; have h2 := SZF.out; have h3 : i = g := e2; omega)]), DG.out.k.setCell (p := ⟨g, 0, none⟩) (by show w.heap.size ≤ g; have := SZF.out; omega) _⟩,
      by rw [hL1.out, HK.out]; exact IR.of_blk (L := [3, f2, a.delay, (n : Int) - 1, f2 - f1]) (BG.out.set_ 0 _) rfl SZF.out (by simp), hA.out⟩
  go_upto_region 8 with (fail)
  generalize wg.setCell ⟨g, 0, none⟩ (.int .i64 3) = w8 at *
  clear gz gf gl
  clear d2 hpl BG DG hL1 SZF D1 SZ1
  have HFL := Lib.hid (fun (k : Nat) hk => falls_two (a := a) HVA.out.2.1 (k := k) hk)
  generalize hVV : (Value.slice (some ⟨g, 0, none⟩) 5 5) = V0 at *
  clear hVV
  go_wp2_with fail
  go_loopw [6, 7] (fun s6 s7 wr => ∃ (i : Nat), 1 ≤ i ∧ i ≤ n ∧ s7 = .int .i64 i ∧ Hid (BL w wr w.heap.size (some ⟨ga, 0, none⟩) n c a s6 (laid a i))) (fun _ s7 _ => n - (intOf s7).toNat)
  case atStart => exact ⟨1, by omega, hn1, rfl, B0⟩
  case round =>
    obtain ⟨i, hi1, hi2, rfl, HB⟩ := hrel
    clear B0
    have d1 := HB.out.ck.c1
    by_cases hlt : i < n
    · obtain ⟨k, hk⟩ : ∃ k, i = k + 1 := ⟨i - 1, by omega⟩
      have z0 : (0 : Int) ≤ (i : Int) := by omega
      have z1 : (i : Int) < (n : Int) := by omega
      have z2 : IntKind.i64.wrap ((i : Int) + 1) = (i : Int) + 1 := IntWalk.i64_in _ (by omega)
      have e0 := HB.out.ck.ra.lo hlt
      have e1 := HB.out.ck.ra.hi hlt
      have gl : ga < wr.heap.size := by obtain ⟨x, h, hh⟩ := HB.out.ck.ra.some_ (by omega); injection h with h; injection h with h; rw [h]; exact hh
      have pl := HB.out.ck.pa.lt
      have ft := HFL.out k (by rw [hln.out]; omega)
      have hLX := laid_next (a := a) (k := k) (by rw [hln.out]; omega)
      rw [← hk] at ft hLX
      obtain ⟨lo, hh, hx⟩ : ∃ lo hh, at_ a.ranges i = (lo, hh) := ⟨_, _, rfl⟩
      rw [hx] at e0 e1 ft hLX
      have hkn : k < n := by omega
      have hk0 : (0 : Int) ≤ (k : Int) := by omega
      have hk1 : (k : Int) < (n : Int) := by omega
      have hwk : IntKind.i64.wrap ((i : Int) - 1) = (k : Int) := by rw [IntWalk.i64_in _ (by omega)]; omega
      obtain ⟨pv, hpv⟩ : ∃ pv, (at_ a.ranges k).1 = pv := ⟨_, rfl⟩
      rw [hpv] at ft
      rw [ft.1] at hLX
      simp only at e0 e1 ft
      obtain ⟨_, t1, t2, t3, t4⟩ := ft
      simp only [M] at t4
      have HLX : Hid (laid a (i + 1) = laid a i ++ [pv - hh - 2, hh - lo]) := Lib.hid (by rw [hLX, show pv - 2 - hh = pv - hh - 2 by omega])
      have w1_ : IntKind.i64.wrap (pv - hh) = pv - hh := IntWalk.i64_in _ (by omega)
      have w2_ : IntKind.i64.wrap (pv - hh - 2) = pv - hh - 2 := IntWalk.i64_in _ (by omega)
      have w3_ : IntKind.i64.wrap (hh - lo) = hh - lo := IntWalk.i64_in _ (by omega)
      have HPV := Lib.hid hpv
      clear hx hpv hLX hk
      go_upto_region 12 with (fail)
      have BX := Lib.hid (Wd.Blk.new wr 36 #[.int .i64 lo, .int .i64 hh])
      have DX := Lib.hid (HB.out.on ((Wd.Kept.refl wr).alloc (.cells #[.int .i64 lo, .int .i64 hh] 36)))
      have hws : w.heap.size + 1 ≤ (wr.alloc (.cells #[.int .i64 lo, .int .i64 hh] 36)).heap.size := by simp; omega
      generalize wr.alloc (.cells #[.int .i64 lo, .int .i64 hh] 36) = wx at *
      generalize wr.heap.size = xb at *
      have e2 : wx.cell? ⟨ga, k * 2, none⟩ = some (.int .i64 pv) := by have h := DX.out.ck.ra.lo hkn; rw [HPV.out] at h; exact h
      clear e0 e1 gl pl d1 HB t1 t2 t3 t4
      have x0 := BX.out.cell 0
      have x1 := BX.out.cell 1
      have d1 := DX.out.ck.c1
      have hll : Hid ((laid a i).length + 2 ≤ 1000000) := Lib.hid (by
        have h1 := DX.out.row.1
        unfold laid
        rw [List.length_append]
        have h2 := steps_length ((tops M (a.ranges.take i)).tail)
        rw [h2, List.length_tail, tops_length, List.length_take, hln.out]
        simp
        omega)
      have hrow : Hid (IR wx.drew (w.heap.size + 1) u6 (laid a i)) := Lib.hid (DX.out.on ((Wd.Kept.refl wx).drew)).row
      have HWS : Hid (w.heap.size + 1 ≤ wx.drew.heap.size) := Lib.hid hws
      have DA := Lib.hid ((DX.out.on ((Wd.Kept.refl wx).drew)).on ((Wd.Kept.refl wx.drew).alloc (.cells #[.int .i64 (pv - hh - 2), .int .i64 (hh - lo)] 3)))
      have BXA := Lib.hid ((BX.out.kept ((Wd.Kept.refl wx).drew)).kept ((Wd.Kept.refl wx.drew).alloc (.cells #[.int .i64 (pv - hh - 2), .int .i64 (hh - lo)] 3)))
      have D0 : Hid ((fun V => V.cell? ⟨w.heap.size, 1, none⟩ = some (.slice (some ⟨ga, 0, none⟩) n c) ∧ V.cell? ⟨ga, k * 2, none⟩ = some (.int .i64 pv) ∧ V.cell? ⟨xb, 0, none⟩ = some (.int .i64 lo) ∧ V.cell? ⟨xb, 1, none⟩ = some (.int .i64 hh)) wx.drew) := Lib.hid ⟨d1, e2, x0, x1⟩
      have D1 : Hid ((fun V => V.cell? ⟨w.heap.size, 1, none⟩ = some (.slice (some ⟨ga, 0, none⟩) n c) ∧ V.cell? ⟨ga, k * 2, none⟩ = some (.int .i64 pv) ∧ V.cell? ⟨xb, 0, none⟩ = some (.int .i64 lo) ∧ V.cell? ⟨xb, 1, none⟩ = some (.int .i64 hh)) ((wx.alloc (.cells #[.int .i64 (pv - hh - 2), .int .i64 (hh - lo)] 3)).drew)) := Lib.hid ⟨DA.out.ck.c1, by have h := DA.out.ck.ra.lo hkn; rw [HPV.out] at h; exact h, BXA.out.cell 0, BXA.out.cell 1⟩
      simp only at D0 D1
      have D2 := D0
      go_region_held3 (fun V => V.cell? ⟨w.heap.size, 1, none⟩ = some (.slice (some ⟨ga, 0, none⟩) n c) ∧ V.cell? ⟨ga, k * 2, none⟩ = some (.int .i64 pv) ∧ V.cell? ⟨xb, 0, none⟩ = some (.int .i64 lo) ∧ V.cell? ⟨xb, 1, none⟩ = some (.int .i64 hh))
        (first | with_reducible exact D0.out | with_reducible exact D1.out | exact D2.out)
        ((refine step_ints rfl (.tmp 50) (.tmp 67) rfl (N := [pv - hh - 2, hh - lo]) (by first | rfl | simp [Act.eval, Act.put]) hrow.out HWS.out hll.out rfl (by first | rfl | simp [Act.eval, Act.put]) ?_; intro V' w' h1 h2; have HB2 := Lib.hid (DA.out.grown (Nat.le_refl _) h2.out (by rw [← HLX.out] at h1; exact h1.out)); have BX2 := Lib.hid (BXA.out.at_ (h2.out.block _ BXA.out.lt (fun e => ir_ne DA.out.row BXA.out (by decide) _ e.symm rfl))); have D2 : Hid ((fun V => V.cell? ⟨w.heap.size, 1, none⟩ = some (.slice (some ⟨ga, 0, none⟩) n c) ∧ V.cell? ⟨ga, k * 2, none⟩ = some (.int .i64 pv) ∧ V.cell? ⟨xb, 0, none⟩ = some (.int .i64 lo) ∧ V.cell? ⟨xb, 1, none⟩ = some (.int .i64 hh)) w') := Lib.hid ⟨HB2.out.ck.c1, by have h := HB2.out.ck.ra.lo hkn; rw [HPV.out] at h; exact h, BX2.out.cell 0, BX2.out.cell 1⟩))
      all_goals
        go_wp2_with fail
        go_roundw
        case rel => exact ⟨i + 1, by omega, by omega, by go_num, HB2⟩
        case measure => simp [intOf]; omega
    · obtain rfl : i = n := by omega
      have hz1 : ¬ ((i : Int) < (i : Int)) := by omega
      have pl := HB.out.ck.pa.lt
      have d2 : wr.cell? ⟨w.heap.size, 2, none⟩ = some (.bool true) := by rw [← HMK.out]; exact HB.out.ck.pa.cell 2
      have HLL : Hid (laid a i ++ marks a = kind a :: nums a) := Lib.hid (by have h := laid_all (a := a) (by rw [hln.out]; omega); rw [hln.out] at h; exact h)
      have HNU := Lib.hid (all_nums HVA.out)
      have HBA := Lib.hid (bytes_all (a := a))
      have hNP : Hid (0 < (kind a :: nums a).length) := Lib.hid (Nat.succ_pos _)
      have hNL : Hid ((kind a :: nums a).length ≤ 600) := Lib.hid (by have := nums_length a (by rw [hln.out]; omega); rw [hln.out] at this; simp; omega)
      generalize hLL : kind a :: nums a = LL at HLL HNU HBA hNL hNP
      clear hLL
      have d3 : wr.cell? ⟨w.heap.size, 3, none⟩ = some (.int .i64 a.m0) := HB.out.ck.pa.cell 3
      have d4 : wr.cell? ⟨w.heap.size, 4, none⟩ = some (.int .i64 a.m1) := HB.out.ck.pa.cell 4
      have d5 : wr.cell? ⟨w.heap.size, 5, none⟩ = some (.int .i64 a.m2) := HB.out.ck.pa.cell 5
      have hll : Hid ((laid a i).length + 3 ≤ 1000000) := Lib.hid (by
        have h1 := congrArg List.length HLL.out
        rw [List.length_append] at h1
        have := hNL.out
        omega)
      have hws : w.heap.size + 1 ≤ wr.heap.size := by omega
      go_upto_region 15 with (at_builtin; (refine wpList_ints rfl (.tmp 71) (.tmp 81) rfl (N := [a.m0, a.m1, a.m2]) (by simp [Act.eval, Act.put]) HB.out.row hws hll.out rfl (by simp [Act.eval, Act.put]) ?_; intro V9 w9 h1 h2))
      have HB3 : Hid (BL w w9 w.heap.size (some ⟨ga, 0, none⟩) i c a V9 LL) := Lib.hid ((HB.out.on ((Wd.Kept.refl wr).alloc (.cells #[.int .i64 a.m0, .int .i64 a.m1, .int .i64 a.m2] 3))).grown (Nat.le_refl _) h2.out (by rw [← HLL.out, marks_one HMK.out]; exact h1.out))
      clear h1 h2 d3 d4 d5 hll hws
      generalize V9 = u6 at *
      clear d1 d2 pl HB
      obtain ⟨gl, cl, rfl, glt⟩ := HB3.out.row.form hNP.out
      have HOB : Hid (Oct.Own w9 w.heap.size (.slice none 0 0) (encs (LL.take 0))) := Lib.hid (own_nil w9 _)
      clear hz1 glt
      go_wp2_with fail
      go_loopw [9, 10] (fun s9 s10 wr => ∃ j : Nat, j ≤ LL.length ∧ s10 = .int .i64 j ∧ Hid (BL w wr w.heap.size (some ⟨ga, 0, none⟩) i c a (.slice (some ⟨gl, 0, none⟩) LL.length cl) LL) ∧ Hid (Oct.Own wr w.heap.size s9 (encs (LL.take j)))) (fun _ s10 _ => LL.length - (intOf s10).toNat)
      case atStart => exact ⟨0, Nat.zero_le _, rfl, HB3, HOB⟩
      case round =>
        obtain ⟨j, hj, rfl, HB4, HO⟩ := hrel
        clear HB3 HOB
        have hNLo := hNL.out
        by_cases hlt : j < LL.length
        · have z0 : (0 : Int) ≤ (j : Int) := by omega
          have z1 : (j : Int) < (LL.length : Int) := by omega
          have z2 : IntKind.i64.wrap ((j : Int) + 1) = (j : Int) + 1 := IntWalk.i64_in _ (by omega)
          have cj := HB4.out.row.cell hlt
          obtain ⟨B, cB, hV, yb, _⟩ := HO.out.byt
          have hpc := rput_any B _ cB (nth LL j) (encs (LL.take j)) wr yb (by have h1 := encs_le (LL.take j); rw [List.length_take] at h1; omega)
          rw [put_more (HNU.out _ (nth_mem hlt)), show encs (LL.take j) ++ en (nth LL j) = encs (LL.take (j + 1)) by rw [take_nth hlt, encs_append]; simp [encs]] at hpc
          have HPC := Lib.hid hpc
          subst hV
          have hws : Hid (w.heap.size ≤ wr.heap.size) := Lib.hid HB4.out.ck.k.size
          clear hpc yb HO hNLo
          generalize (encs (LL.take j)).length = m at *
          generalize nth LL j = x at *
          go_wp2_with fail
          with_reducible refine HPC.out.mono ?_
          rintro e w' ⟨v, rfl, ho, hk⟩
          have HB5 := Lib.hid (HB4.out.on hk)
          have HO5 := Lib.hid (own_less ho hws.out)
          clear ho hk HPC cj
          go_wp2_with fail
          go_roundw
          case rel => exact ⟨j + 1, by omega, by go_num, HB5, HO5⟩
          case measure => simp [intOf]; omega
        · obtain rfl : j = LL.length := by omega
          have hz1 : ¬ ((LL.length : Int) < (LL.length : Int)) := by omega
          have HOE : Hid (Oct.Own wr w.heap.size u9 (FrmM.bytes a)) := Lib.hid (by have h := HO.out; rw [List.take_of_length_le (Nat.le_refl _), HBA.out] at h; exact h)
          go_wp2_with fail
          go_ret2
          exact ⟨_, rfl, HOE.out, HB4.out.ck.k⟩

theorem rbytes_any (A : Option Addr) (n c : Nat) (a : Ack) (w : World) (hl : Row w A n c a.ranges) :
    Calls Tryd.prog 14 #[ackV A n c a] w fun e w' => ∃ V, e = .returned (.tuple #[V, .int .i64 (check a)]) ∧ Oct.Own w' w.heap.size V (bytesOut a) ∧ Wd.Kept w w' := by
  by_cases hv : Valid a
  · rw [check_ok hv]
    have e : bytesOut a = FrmM.bytes a := if_pos hv
    rw [e]
    cases hm : a.marked with
    | false => exact rbytes_false A n c a w hl hv hm
    | true => exact rbytes_true A n c a w hl hv hm
  · exact rbytes_not A n c a w hl hv

end Go.Proofs.YtganelhlpobdjaaDoor.Frm
