/-
  Contracts of slices.AppendSeq and Collect over a set's iterator, of Ranges and Count.
-/
import Derived.Test.YtabchdolafplnaaSpnV
import Derived.Maps.AppendAt
namespace Go.Proofs.Ytabchdolafplnaa.Spn
open Go.RowKit SpnM Wd
attribute [local go_sem] Oper.semAt_some
set_option linter.unusedVariables false
set_option linter.unusedSimpArgs false

def encs (x : R) : Array Value := #[.agg #[.int .i64 x.1, .int .i64 x.2]]
theorem kp_below {n n₀ bs : Nat} {A B : World} (h : Below n A B) (h1 : bs < n) (h2 : n₀ ≤ n) : Kp n₀ bs A B := ⟨h.mono h2, h.block bs h1⟩

/-- The set's iterator, by its contract. -/
theorem falling_stops (n : Nat) (hn : 1 ≤ n) (bs n₀ p c room : Nat) (A : Option Addr) (l : List R) (w : World) (hb : bs < w.heap.size) (hbs : w.cell? ⟨bs, 0, none⟩ = some (.pointer (some ⟨p, 0, none⟩))) (hS : SetAt w p A c room l) (hf : ∀ k, Foot p A k → k < n₀) (hn₀ : n₀ ≤ w.heap.size) :
    SeqStopsK Fence.wide n Try.prog 62 #[.pointer (some ⟨bs, 0, none⟩)] encs (Kp n₀ bs) (fun ys => ys = l.reverse) (fun _ => True) l.length w := fun ly J Jx W hW hJ hJx hY h0 =>
  falling1_in n hn ly bs n₀ p c room A l J Jx (fun pre x W1 hj hl _ => hY pre x W1 hj hl) W ((hW.cell (p := ⟨bs, 0, none⟩) hb).trans hbs) (hS.below (fun k h => Nat.lt_of_lt_of_le (hf k h) hn₀) hW) hf h0

/-- A loop's own variable of two numbers. -/
def Two (W : World) (B : Nat) (x : R) : Prop := Blk W B 57 #[.int .i64 x.1, .int .i64 x.2]
theorem two_own (B : Nat) (x : R) : Go.Own (fun (_ : Unit) W => Two W B x) := fun s X Y row hs hg hr => by
  refine (hg.block B hs.lt (fun e => ?_)).trans hs
  obtain ⟨o, ho, hc⟩ := hr B e.symm
  rw [show X.heap[B]? = _ from hs] at ho
  cases ho; cases hc

set_option maxRecDepth 100000 in
set_option maxHeartbeats 4000000 in
theorem appendSeq_in (n : Nat) (hn : 3 ≤ n) (bs p c room : Nat) (A : Option Addr) (l : List R) (w : World) (hbs : w.cell? ⟨bs, 0, none⟩ = some (.pointer (some ⟨p, 0, none⟩))) (hS : SetAt w p A c room l) :
    CallsIn Fence.wide n Try.prog 61 #[.slice none 0 0, .func (.func 62) #[] #[.pointer (some ⟨bs, 0, none⟩)]] w
      fun e W' => ∃ v, e = .returned v ∧ W'.ownsRow w.heap.size 57 2 v l.reverse.length (flat l.reverse) ∧ Below w.heap.size w W' := by
  have h1 : 1 ≤ n := by omega
  have hb : bs < w.heap.size := World.block_lt_of_cell? _ _ hbs
  have hfoot := Lib.hid hS.foot
  have hfit := hS.fits
  have hroom := hS.room1
  obtain ⟨i0, hi, hz0, hz1, hz2⟩ := info_parts info_range
  have HS := Lib.hid hS
  have HBS := Lib.hid hbs
  clear hS hbs
  refine callsIn_of_wp_marks Try.func61 rfl trivial ?_ rfl
  simp only [Try.ntmps61, List.size_toArray, List.length_cons, List.length_nil, Nat.reduceAdd, Nat.reduceSub, Array.replicate_succ, Array.replicate_zero, List.push_toArray, List.append_toArray, List.nil_append, List.cons_append]
  gi_wp2
  have bO := Boxed.new w 40 (.slice none 0 0)
  have hB0 : Below w.heap.size w (w.alloc (.cells #[.slice none 0 0] 40)) := (Below.refl _ w).alloc (Nat.le_refl _) _
  have k0 : Kept w (w.alloc (.cells #[.slice none 0 0] 40)) := (Kept.refl w).alloc _
  have hsz : (w.alloc (.cells #[.slice none 0 0] 40)).heap.size = w.heap.size + 1 := by simp
  have HSeq := Lib.hid (falling_stops (n - 1) (by omega) bs w.heap.size p c room A l _ (by omega) (k0.cell HBS.out) (HS.out.kept k0) hfoot.out (by omega))
  obtain ⟨W0, hW0⟩ : ∃ W0, w.alloc (.cells #[.slice none 0 0] 40) = W0 := ⟨_, rfl⟩
  rw [hW0] at bO hB0 hsz HSeq ⊢
  clear hW0 k0
  refine wpIn_rangeFunc_ownH rfl h1 (gf := 62) (lb := #[.pointer (some ⟨bs, 0, none⟩)]) rfl trivial (enters_of Try.func62 (by kernel_rfl) rfl)
    HSeq.out kp_t (kp_b (by omega) (by omega)) (Below.refl _ _) (fun _ => rfl)
    (fun pre W => (∃ v, Boxed W w.heap.size 40 v ∧ W.ownsRow w.heap.size 57 2 v pre.length (flat pre) ∧ True) ∧ Below w.heap.size w W)
    (fun _ _ _ => False)
    (OwnFrom.and (Own.from (holdsRow_own w.heap.size w.heap.size 40 57 2 (fun pre => pre.length) (fun pre => flat pre) (fun _ _ => True)) _) (ownFrom_below (Nat.le_refl _) (by omega)))
    (fun _ _ _ _ _ hs _ _ => hs)
    ⟨⟨_, bO, World.ownsRow_nil _ _ _ _, trivial⟩, hB0⟩
    (fun x a' W => ∃ Bx, w.heap.size < Bx ∧ Two W Bx x ∧ a' = { tmps := #[.slice none 0 0, .func (.func 62) #[] #[.pointer (some ⟨bs, 0, none⟩)], .pointer (some ⟨w.heap.size, 0, none⟩), undef, .slice none 0 0, .pointer (some ⟨Bx, 0, none⟩), .func (.func 62) #[] #[.pointer (some ⟨bs, 0, none⟩)], .agg #[.int .i64 x.1, .int .i64 x.2], undef, undef, undef, undef, undef], defers := [] })
    (fun x a' _ X Y row hs hg hr => by obtain ⟨Bx, g1, g2, g3⟩ := hs; exact ⟨Bx, g1, two_own Bx x () X Y row g2 hg (fun r e => (hr r e).2), g3⟩)
    ?assign ?body ?done ?stop
  case assign =>
    rintro ly pre x W K ⟨⟨v, hv, hrow, _⟩, hB1⟩ hK
    simp only [encs]
    gi_wp2
    exact hK _ _ ((KeepsOthers.alloc _ _).from _) (kp_below ((Below.refl _ W).alloc hB1.size _) hb (Nat.le_refl _)) ⟨⟨v, hv.alloc _, hrow.alloc _, trivial⟩, hB1.alloc hB1.size _⟩ ⟨W.heap.size, hv.lt, Blk.new W _ _, rfl⟩
  case body =>
    rintro ly pre x a' W hl ⟨r, hr⟩ ⟨⟨v, hv, hrow, _⟩, hB1⟩ ⟨Bx, hBx, bX, rfl⟩ hlt
    have hc := hv.cell
    have hx0 : W.cell? ⟨Bx, 0, none⟩ = some (.int .i64 x.1) := bX.cell 0
    have hx1 : W.cell? ⟨Bx, 1, none⟩ = some (.int .i64 x.2) := bX.cell 1
    have hnew : Hid (∀ j u, (flat [x])[j]? = some u → (W.alloc (.cells #[.int .i64 x.1, .int .i64 x.2] 57)).cell? ((⟨W.heap.size, 0, none⟩ : Addr).add j) = some u) := fun j u hj => by
      rw [Addr.add_lit, Nat.zero_add, (Blk.new W 57 #[.int .i64 x.1, .int .i64 x.2]).cell j]; simpa [flat] using hj
    have HR := Lib.hid hrow
    have HB1 := Lib.hid hB1
    have hsW := hB1.size
    clear hrow hB1
    gi_wp2_with (gi_at_builtin; refine wpListIn_append_own _ rfl _ _ 40 rfl w.heap.size 57 i0 (.agg #[.int .i64 0, .int .i64 0]) 2 16 Try.underlying40 hi hz0 hz1 hz2 rfl (by decide) v pre.length (flat pre) rfl (HR.out.alloc _) ⟨W.heap.size, 0, none⟩ 1 1 (flat [x]) rfl rfl hnew.out (flat_one _) (by unfold maxLen; omega) (by omega) (by simp; omega) ?_; intro v' w1 hown' hgrow _; obtain ⟨g', cap', rfl⟩ := ownsRow_succ hown'; obtain ⟨hv1, hv2, hr2, hk2, hb2⟩ := hv.appended (by decide) HR.out hsW (Nat.le_refl _) hown' hgrow; have hc1 := hv1.cell; have hf1 := hv1.frozen; have HR2 := Lib.hid hr2; have HK2 := Lib.hid hk2; have HB2 := Lib.hid hb2; clear hr2 hk2 hb2 hown' hgrow)
    exact ⟨HK2.out.from _, kp_below HB2.out hb (Nat.le_refl _), ⟨_, hv2, by rw [List.length_append, flat_append]; exact HR2.out, trivial⟩, HB1.out.trans HB2.out⟩
  case done =>
    rintro D ys W hD rfl ⟨⟨v, hv, hrow, _⟩, hB1⟩ hK
    have hc := hv.cell
    have HR := Lib.hid hrow
    have HB1 := Lib.hid hB1
    have HK := Lib.hid hK
    clear hrow hB1 hK
    gi_wp2
    refine ⟨by simp, .inl ⟨_, _, rfl, run_takeDeferred HK.out, ?_⟩⟩
    exact ⟨_, results_tmp rfl _ _ _, v, rfl, ownsRow_putObj HR.out _ HK.out rfl, HB1.out.trans (belowK_b (w := w) (Nat.le_refl _) W D _ _ (by omega) HK.out rfl rfl)⟩
  case stop =>
    rintro D c pre W _ _ h _
    exact h.elim

/-- A range of numbers: what Count's rounds know of what they are handed. -/
abbrev Nums := { x : R // 0 ≤ x.1 ∧ x.1 ≤ x.2 ∧ x.2 ≤ M }
def encn (x : Nums) : Array Value := #[.agg #[.int .i64 x.1.1, .int .i64 x.1.2]]
theorem falling_stops2 (n : Nat) (hn : 1 ≤ n) (bs n₀ p c room : Nat) (A : Option Addr) (l : List R) (w : World) (hb : bs < w.heap.size) (hbs : w.cell? ⟨bs, 0, none⟩ = some (.pointer (some ⟨p, 0, none⟩))) (hS : SetAt w p A c room l) (hf : ∀ k, Foot p A k → k < n₀) (hn₀ : n₀ ≤ w.heap.size) :
    SeqStopsK Fence.wide n Try.prog 62 #[.pointer (some ⟨bs, 0, none⟩)] encn (Kp n₀ bs) (fun ys => ys.map (·.1) = l.reverse) (fun _ => True) l.length w := fun ly J Jx W hW hJ hJx hY h0 => by
  refine (falling1_in n hn ly bs n₀ p c room A l (fun ys W => ∃ zs : List Nums, zs.map (·.1) = ys ∧ J zs W) (fun ys W => ∃ zs : List Nums, zs.map (·.1) = ys ∧ Jx zs W) (fun pre x W1 hj hl hx => ?_) W ((hW.cell (p := ⟨bs, 0, none⟩) hb).trans hbs) (hS.below (fun k h => Nat.lt_of_lt_of_le (hf k h) hn₀) hW) hf ⟨[], rfl, h0⟩).mono ?_
  · obtain ⟨zs, hz, hj'⟩ := hj
    have hxb := hS.good.1 x hx
    obtain ⟨fn, tmps, assign, body, hy, hR⟩ := hY zs ⟨x, hxb⟩ W1 hj' (by rw [← hz, List.length_map] at hl; exact hl)
    refine ⟨fn, tmps, assign, body, hy, hR.mono (fun e w' hr => ?_)⟩
    rcases hr with ⟨h1, h2, h3⟩ | ⟨h1, h2⟩
    · exact .inl ⟨h1, ⟨_, by rw [List.map_append, hz]; rfl, h2⟩, h3⟩
    · exact .inr ⟨h1, _, by rw [List.map_append, hz]; rfl, h2⟩
  · rintro e W' ⟨hv, ⟨ys, hys, zs, hz, hj⟩ | ⟨pre, _, zs, hz, hj⟩⟩
    · exact ⟨hv, .inl ⟨zs, hz.trans hys, hj⟩⟩
    · exact ⟨hv, .inr ⟨zs, trivial, hj⟩⟩

/-- What Count's rounds have counted. -/
def cntN (pre : List Nums) : Int := (pre.map (fun x => x.1.2 - x.1.1 + 1)).sum
theorem cntN_snoc (pre : List Nums) (x : Nums) : cntN (pre ++ [x]) = cntN pre + (x.1.2 - x.1.1 + 1) := by simp [cntN]
theorem cntN_bd (pre : List Nums) : 0 ≤ cntN pre ∧ cntN pre ≤ pre.length * 9007199254740992 := by
  induction pre with
  | nil => simp [cntN]
  | cons x t ih =>
    have hx := x.2
    unfold M at hx
    have e : cntN (x :: t) = (x.1.2 - x.1.1 + 1) + cntN t := by simp [cntN]
    rw [e, List.length_cons]
    omega
theorem cntN_eq {pre : List Nums} {l : List R} (h : pre.map (·.1) = l.reverse) : cntN pre = cnt l := by
  have : (pre.map (·.1)).map (fun r => r.2 - r.1 + 1) = l.reverse.map (fun r => r.2 - r.1 + 1) := by rw [h]
  unfold cntN cnt
  rw [List.map_map] at this
  rw [show (fun x : Nums => x.1.2 - x.1.1 + 1) = (fun r : R => r.2 - r.1 + 1) ∘ (·.1) from rfl, this, List.map_reverse, List.sum_reverse]

theorem falling_any (p : Nat) (w : World) : Calls Try.prog 47 #[.pointer (some ⟨p, 0, none⟩)] w fun e w' => e = .returned (.func (.func 62) #[] #[.pointer (some ⟨w.heap.size, 0, none⟩)]) ∧ w' = w.alloc (.cells #[.pointer (some ⟨p, 0, none⟩)] 23) := by
  go_enter Try.func47, Try.ntmps47
  go_wp2
  go_ret
  exact ⟨rfl, rfl⟩

set_option maxRecDepth 100000 in
set_option maxHeartbeats 1000000 in
theorem collect_any (bs p c room : Nat) (A : Option Addr) (l : List R) (w : World) (hbs : w.cell? ⟨bs, 0, none⟩ = some (.pointer (some ⟨p, 0, none⟩))) (hS : SetAt w p A c room l) :
    Calls Try.prog 46 #[.func (.func 62) #[] #[.pointer (some ⟨bs, 0, none⟩)]] w
      fun e W' => ∃ v, e = .returned v ∧ W'.ownsRow w.heap.size 57 2 v l.reverse.length (flat l.reverse) ∧ Below w.heap.size w W' := by
  have hc := Lib.hid (callsIn_wide.1 (appendSeq_in 3 (Nat.le_refl _) bs p c room A l w hbs hS))
  clear hbs hS
  go_enter Try.func46, Try.ntmps46
  go_wp2_with (go_at_call 61; refine hc.out.mono ?_; rintro e w' ⟨v, rfl, h1, h2⟩; have H1 := Lib.hid h1; have H2 := Lib.hid h2; clear h1 h2)
  go_ret
  exact ⟨v, rfl, H1.out, H2.out⟩

set_option maxRecDepth 100000 in
set_option maxHeartbeats 1000000 in
theorem ranges_any (p c room : Nat) (A : Option Addr) (l : List R) (w : World) (hS : SetAt w p A c room l) :
    Calls Try.prog 21 #[.pointer (some ⟨p, 0, none⟩)] w (Gives l.reverse w) := by
  have hfall := falling_any p w
  have k0 : Kept w (w.alloc (.cells #[.pointer (some ⟨p, 0, none⟩)] 23)) := (Kept.refl w).alloc _
  have hc := Lib.hid (collect_any w.heap.size p c room A l _ (cell_box w (.pointer (some ⟨p, 0, none⟩)) 23) (hS.kept k0))
  have K0 := Lib.hid k0
  clear hS k0
  go_enter Try.func21, Try.ntmps21
  go_wp2_with (first
    | (go_at_call 47; refine hfall.mono ?_; rintro e w' ⟨rfl, rfl⟩)
    | (go_at_call 46; refine hc.out.mono ?_; rintro e w' ⟨v, rfl, h1, h2⟩; have H1 := Lib.hid h1; have H2 := Lib.hid h2; clear h1 h2))
  go_ret
  obtain ⟨A', c', rfl, hrow, hfr⟩ := Row.of_own H1.out rfl
  exact ⟨A', c', rfl, hrow, K0.out.trans H2.out, fun k e => Nat.le_trans K0.out.size (hfr k e)⟩

end Go.Proofs.Ytabchdolafplnaa.Spn
