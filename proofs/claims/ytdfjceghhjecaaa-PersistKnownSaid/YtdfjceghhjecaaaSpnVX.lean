/-
  The iterator of a set: its ranges, the greatest one first.
-/
import Derived.Test.YtdfjceghhjecaaaSpnW
import Derived.RangeFuncNested
import Derived.RangeFuncBound
import Derived.RangeFuncCalls
import Derived.RangeFuncLeaves
import Derived.Shelf.Abstract
import Derived.Shelf.RegionOpen
import Derived.OwnWalkIn
import Derived.TacticsInMore
import Derived.LoopNIn
import Derived.LoopIn
import Derived.Maps.AppendAt
namespace Go.Proofs.Ytdfjceghhjecaaa.Spn
open Go.RowKit SpnM Wd
attribute [local go_sem] Oper.semAt_some
set_option linter.unusedVariables false
set_option linter.unusedSimpArgs false

/-- What a round keeps: what lay below n₀, and the iterator's own box. -/
def Kp (n₀ bs : Nat) (A B : World) : Prop := Below n₀ A B ∧ B.heap[bs]? = A.heap[bs]?
set_option maxRecDepth 100000 in
theorem kp_refl (n₀ bs : Nat) (A : World) : Kp n₀ bs A A := ⟨Below.refl _ _, rfl⟩
set_option maxRecDepth 100000 in
theorem kp_t {n₀ bs : Nat} {A B C : World} (h : Kp n₀ bs A B) (k : Kp n₀ bs B C) : Kp n₀ bs A C := ⟨h.1.trans k.1, k.2.trans h.2⟩
set_option maxRecDepth 100000 in
theorem kp_b {n₀ bs : Nat} {w : World} (hn : n₀ ≤ w.heap.size) (hb : bs < w.heap.size) (W : World) (l : Nat) (o o' : Obj) (hl : w.heap.size ≤ l) (h : W.heap[l]? = some o) (h1 : o.isCells = false) (h2 : o.isWalk = false) : Kp n₀ bs W (W.putObj l o') :=
  ⟨belowK_b hn W l o o' hl h h1 h2, World.putObj_heap_other (by omega)⟩
set_option maxRecDepth 100000 in
theorem SetAt.below {n₀ p c room : Nat} {A : Option Addr} {l : List R} {w w' : World} (h : SetAt w p A c room l) (hf : ∀ k, Foot p A k → k < n₀) (k : Below n₀ w w') : SetAt w' p A c room l :=
  ⟨h.blk.at_ (k.block p (hf p (.inl rfl))), h.row.same_ fun i e => k.block i (hf i (.inr e)), h.good, h.room1, h.fits⟩
set_option maxRecDepth 100000 in
theorem rev_drop {l : List R} {k : Nat} (h : k < l.length) : (l.drop (k + 1)).reverse ++ [at_ l k] = (l.drop k).reverse := by
  rw [at_of h, List.drop_eq_getElem_cons h, List.reverse_cons]

set_option maxRecDepth 100000 in
set_option maxHeartbeats 2000000 in
theorem falling1_in (n : Nat) (hn : 1 ≤ n) (ly bs n₀ p c room : Nat) (A : Option Addr) (l : List R) (J Jx : List R → World → Prop)
    (hY : ∀ pre x W, J pre W → pre.length < l.length → x ∈ l → YieldAt Fence.wide (n - 1) Try.prog ly #[.agg #[.int .i64 x.1, .int .i64 x.2]] W fun e W' =>
      (e = .returned (.bool true) ∧ J (pre ++ [x]) W' ∧ Kp n₀ bs W W') ∨ (e = .returned (.bool false) ∧ Jx (pre ++ [x]) W'))
    (W : World) (hbs : W.cell? ⟨bs, 0, none⟩ = some (.pointer (some ⟨p, 0, none⟩))) (hS : SetAt W p A c room l) (hf : ∀ k, Foot p A k → k < n₀) (h0 : J [] W) :
    CallsIn Fence.wide n Try.prog 67 #[.func (.yield ly) #[] #[], .pointer (some ⟨bs, 0, none⟩)] W fun e W' => (∃ v, e = .returned v) ∧
      ((∃ ys, ys = l.reverse ∧ J ys W') ∨ (∃ pre, True ∧ Jx pre W')) := by
  have hl := len_set p c room A l W hS
  have hfit := hS.fits
  have hroom := hS.room1
  have HS := Lib.hid hS
  have HF := Lib.hid hf
  have HY := Lib.hid hY
  clear hS hf hY
  have hfn : Fence.wide.fn 42 := trivial
  refine callsIn_of_wp Try.func67 rfl trivial ?_ rfl
  simp only [Try.ntmps67, List.size_toArray, List.length_cons, List.length_nil, Nat.reduceAdd, Nat.reduceSub, Array.replicate_succ, Array.replicate_zero, List.push_toArray, List.append_toArray, List.nil_append, List.cons_append]
  gi_wp2_with (gi_at_call 42; refine (callsIn_wide.2 hl).mono ?_; rintro e w' ⟨rfl, rfl⟩)
  gi_loopw [3] (fun i wr => ∃ z : Int, i = .int .i64 z ∧ -1 ≤ z ∧ z < l.length ∧ Hid (SetAt wr p A c room l) ∧ Hid (wr.cell? ⟨bs, 0, none⟩ = some (.pointer (some ⟨p, 0, none⟩))) ∧ Hid (J (l.drop (z + 1).toNat).reverse wr)) (fun i wr => (intOf i + 1).toNat)
  case atStart => exact ⟨_, rfl, by omega, by omega, HS.out, hbs, by show J _ _; rw [show (((l.length : Nat) : Int) - 1 + 1).toNat = l.length by omega, List.drop_length]; exact h0⟩
  case round =>
    obtain ⟨z, rfl, hz1, hz2, S1, hb1, J1⟩ := hrel
    by_cases hz : 0 ≤ z
    · obtain ⟨k, rfl⟩ : ∃ k : Nat, z = (k : Int) := ⟨z.toNat, by omega⟩
      have hk : k < l.length := by omega
      obtain ⟨g, rfl, hg⟩ := S1.out.row.some_ (by omega)
      have c1 := S1.out.row.lo hk
      have c2 := S1.out.row.hi hk
      have d1 := S1.out.list_
      have hb := hb1.out
      have hcap := S1.out.row.cap
      unfold maxLen at hcap
      have hJ := J1.out
      rw [show ((k : Int) + 1).toNat = k + 1 by omega] at hJ
      obtain ⟨fn, tmps, assign, body, hy, hR⟩ := HY.out (l.drop (k + 1)).reverse (at_ l k) wr hJ (by simp; omega) (at_mem hk)
      have HR := Lib.hid hR
      have hrd := Lib.hid (rev_drop hk)
      clear hJ hR
      generalize at_ l k = x at *
      generalize hxa : x.1 = a at *
      generalize hxb : x.2 = b at *
      have hab : Hid (x.1 = a ∧ x.2 = b) := ⟨hxa, hxb⟩
      clear hxa hxb
      gi_wp2
      refine HR.out.mono ?_
      rintro e W3 (⟨rfl, hJ3, hk3⟩ | ⟨rfl, hJx3⟩)
      · have S3 := Lib.hid (S1.out.below HF.out hk3.1)
        have b3 : W3.cell? ⟨bs, 0, none⟩ = some (.pointer (some ⟨p, 0, none⟩)) := (World.cell?_of_block (a := ⟨bs, 0, none⟩) hk3.2).trans hb
        have HJ := Lib.hid hJ3
        have hw1 : IntKind.i64.wrap ((k : Int) - 1) = (k : Int) - 1 := IntWalk.i64_in _ (by omega)
        clear hJ3 hk3 hb c1 c2 d1
        gi_wp2
        go_roundw
        case rel => exact ⟨_, rfl, by omega, by omega, S3.out, b3, by show J _ _; rw [show ((k : Int) - 1 + 1).toNat = k by omega, ← hrd.out]; exact HJ.out⟩
        case measure => first | (simp [intOf]; done) | (simp [intOf]; omega)
      · have HJ := Lib.hid hJx3
        clear hJx3
        gi_wp2
        refine bodyPost_ret (results_none rfl _ _ _) rfl ?_
        exact ⟨⟨_, rfl⟩, .inr ⟨_, trivial, HJ.out⟩⟩
    · obtain rfl : z = -1 := by omega
      have hJ : Hid (J l.reverse wr) := by show J _ _; have := J1.out; simpa using this
      clear J1
      gi_wp2
      go_end0
      exact ⟨⟨_, rfl⟩, .inl (by first | exact hJ.out | exact ⟨_, rfl, hJ.out⟩)⟩

end Go.Proofs.Ytdfjceghhjecaaa.Spn

/-
  Contracts of slices.AppendSeq and Collect over a set's iterator, of Ranges and Count.
-/
namespace Go.Proofs.Ytdfjceghhjecaaa.Spn
open Go.RowKit SpnM Wd
attribute [local go_sem] Oper.semAt_some
set_option linter.unusedVariables false
set_option linter.unusedSimpArgs false

def encs (x : R) : Array Value := #[.agg #[.int .i64 x.1, .int .i64 x.2]]
set_option maxRecDepth 100000 in
theorem kp_below {n n₀ bs : Nat} {A B : World} (h : Below n A B) (h1 : bs < n) (h2 : n₀ ≤ n) : Kp n₀ bs A B := ⟨h.mono h2, h.block bs h1⟩

set_option maxRecDepth 100000 in
/-- The set's iterator, by its contract. -/
theorem falling_stops (n : Nat) (hn : 1 ≤ n) (bs n₀ p c room : Nat) (A : Option Addr) (l : List R) (w : World) (hb : bs < w.heap.size) (hbs : w.cell? ⟨bs, 0, none⟩ = some (.pointer (some ⟨p, 0, none⟩))) (hS : SetAt w p A c room l) (hf : ∀ k, Foot p A k → k < n₀) (hn₀ : n₀ ≤ w.heap.size) :
    SeqStopsK Fence.wide n Try.prog 67 #[.pointer (some ⟨bs, 0, none⟩)] encs (Kp n₀ bs) (fun ys => ys = l.reverse) (fun _ => True) l.length w := fun ly J Jx W hW hJ hJx hY h0 =>
  falling1_in n hn ly bs n₀ p c room A l J Jx (fun pre x W1 hj hl _ => hY pre x W1 hj hl) W ((hW.cell (p := ⟨bs, 0, none⟩) hb).trans hbs) (hS.below (fun k h => Nat.lt_of_lt_of_le (hf k h) hn₀) hW) hf h0

/-- A loop's own variable of two numbers. -/
def Two (W : World) (B : Nat) (x : R) : Prop := Blk W B 49 #[.int .i64 x.1, .int .i64 x.2]
set_option maxRecDepth 100000 in
theorem two_own (B : Nat) (x : R) : Go.Own (fun (_ : Unit) W => Two W B x) := fun s X Y row hs hg hr => by
  refine (hg.block B hs.lt (fun e => ?_)).trans hs
  obtain ⟨o, ho, hc⟩ := hr B e.symm
  rw [show X.heap[B]? = _ from hs] at ho
  cases ho; cases hc

set_option maxRecDepth 100000 in
set_option maxHeartbeats 4000000 in
theorem appendSeq_in (n : Nat) (hn : 3 ≤ n) (bs p c room : Nat) (A : Option Addr) (l : List R) (w : World) (hbs : w.cell? ⟨bs, 0, none⟩ = some (.pointer (some ⟨p, 0, none⟩))) (hS : SetAt w p A c room l) :
    CallsIn Fence.wide n Try.prog 66 #[.slice none 0 0, .func (.func 67) #[] #[.pointer (some ⟨bs, 0, none⟩)]] w
      fun e W' => ∃ v, e = .returned v ∧ W'.ownsRow w.heap.size 49 2 v l.reverse.length (flat l.reverse) ∧ Below w.heap.size w W' := by
  have h1 : 1 ≤ n := by omega
  have hb : bs < w.heap.size := World.block_lt_of_cell? _ _ hbs
  have hfoot := Lib.hid hS.foot
  have hfit := hS.fits
  have hroom := hS.room1
  obtain ⟨i0, hi, hz0, hz1, hz2⟩ := info_parts info_range
  have HS := Lib.hid hS
  have HBS := Lib.hid hbs
  clear hS hbs
  refine callsIn_of_wp_marks Try.func66 rfl trivial ?_ rfl
  simp only [Try.ntmps66, List.size_toArray, List.length_cons, List.length_nil, Nat.reduceAdd, Nat.reduceSub, Array.replicate_succ, Array.replicate_zero, List.push_toArray, List.append_toArray, List.nil_append, List.cons_append]
  gi_wp2
  have bO := Boxed.new w 50 (.slice none 0 0)
  have hB0 : Below w.heap.size w (w.alloc (.cells #[.slice none 0 0] 50)) := (Below.refl _ w).alloc (Nat.le_refl _) _
  have k0 : Kept w (w.alloc (.cells #[.slice none 0 0] 50)) := (Kept.refl w).alloc _
  have hsz : (w.alloc (.cells #[.slice none 0 0] 50)).heap.size = w.heap.size + 1 := by simp
  have HSeq := Lib.hid (falling_stops (n - 1) (by omega) bs w.heap.size p c room A l _ (by omega) (k0.cell HBS.out) (HS.out.kept k0) hfoot.out (by omega))
  obtain ⟨W0, hW0⟩ : ∃ W0, w.alloc (.cells #[.slice none 0 0] 50) = W0 := ⟨_, rfl⟩
  rw [hW0] at bO hB0 hsz HSeq ⊢
  clear hW0 k0
  refine wpIn_rangeFunc_ownH rfl h1 (gf := 67) (lb := #[.pointer (some ⟨bs, 0, none⟩)]) rfl trivial (enters_of Try.func67 (by kernel_rfl) rfl)
    HSeq.out kp_t (kp_b (by omega) (by omega)) (Below.refl _ _) (fun _ => rfl)
    (fun pre W => (∃ v, Boxed W w.heap.size 50 v ∧ W.ownsRow w.heap.size 49 2 v pre.length (flat pre) ∧ True) ∧ Below w.heap.size w W)
    (fun _ _ _ => False)
    (OwnFrom.and (Own.from (holdsRow_own w.heap.size w.heap.size 50 49 2 (fun pre => pre.length) (fun pre => flat pre) (fun _ _ => True)) _) (ownFrom_below (Nat.le_refl _) (by omega)))
    (fun _ _ _ _ _ hs _ _ => hs)
    ⟨⟨_, bO, World.ownsRow_nil _ _ _ _, trivial⟩, hB0⟩
    (fun x a' W => ∃ Bx, w.heap.size < Bx ∧ Two W Bx x ∧ a' = { tmps := #[.slice none 0 0, .func (.func 67) #[] #[.pointer (some ⟨bs, 0, none⟩)], .pointer (some ⟨w.heap.size, 0, none⟩), undef, .slice none 0 0, .pointer (some ⟨Bx, 0, none⟩), .func (.func 67) #[] #[.pointer (some ⟨bs, 0, none⟩)], .agg #[.int .i64 x.1, .int .i64 x.2], undef, undef, undef, undef, undef], defers := [] })
    (fun x a' _ X Y row hs hg hr => by obtain ⟨Bx, g1, g2, g3⟩ := hs; exact ⟨Bx, g1, two_own Bx x () X Y row g2 hg (fun r e => (hr r e).2), g3⟩)
    ?assign ?body ?done ?stop
  case assign =>
    rintro ly pre x W K ⟨⟨v, hv, hrow, _⟩, hB1⟩ hK
    simp only [encs]
    gi_wp2
    exact hK _ _ ((KeepsOthers.alloc _ _).from _) (kp_below ((Below.refl _ W).alloc hB1.size _) hb (Nat.le_refl _)) ⟨⟨v, hv.alloc _, hrow.alloc _, trivial⟩, hB1.alloc hB1.size _⟩ ⟨W.heap.size, hv.lt, Blk.new W _ _, rfl⟩
  case body =>
    rintro ly pre x a' W hl ⟨r, hr⟩ ⟨⟨v, hv, hrow, _⟩, hB1⟩ ⟨Bx, hBx, bX, rfl⟩ hlt
    have hc := hv.cell
    have hx0 : W.cell? ⟨Bx, 0, none⟩ = some (.int .i64 x.1) := bX.cell 0
    have hx1 : W.cell? ⟨Bx, 1, none⟩ = some (.int .i64 x.2) := bX.cell 1
    have hnew : Hid (∀ j u, (flat [x])[j]? = some u → (W.alloc (.cells #[.int .i64 x.1, .int .i64 x.2] 49)).cell? ((⟨W.heap.size, 0, none⟩ : Addr).add j) = some u) := fun j u hj => by
      rw [Addr.add_lit, Nat.zero_add, (Blk.new W 49 #[.int .i64 x.1, .int .i64 x.2]).cell j]; simpa [flat] using hj
    have HR := Lib.hid hrow
    have HB1 := Lib.hid hB1
    have hsW := hB1.size
    clear hrow hB1
    gi_wp2_with (gi_at_builtin; refine wpListIn_append_own _ rfl _ _ 50 rfl w.heap.size 49 i0 (.agg #[.int .i64 0, .int .i64 0]) 2 16 Try.underlying50 hi hz0 hz1 hz2 rfl (by decide) v pre.length (flat pre) rfl (HR.out.alloc _) ⟨W.heap.size, 0, none⟩ 1 1 (flat [x]) rfl rfl hnew.out (flat_one _) (by unfold maxLen; omega) (by omega) (by simp; omega) ?_; intro v' w1 hown' hgrow _; obtain ⟨g', cap', rfl⟩ := ownsRow_succ hown'; obtain ⟨hv1, hv2, hr2, hk2, hb2⟩ := hv.appended (by decide) HR.out hsW (Nat.le_refl _) hown' hgrow; have hc1 := hv1.cell; have hf1 := hv1.frozen; have HR2 := Lib.hid hr2; have HK2 := Lib.hid hk2; have HB2 := Lib.hid hb2; clear hr2 hk2 hb2 hown' hgrow)
    exact ⟨HK2.out.from _, kp_below HB2.out hb (Nat.le_refl _), ⟨_, hv2, by rw [List.length_append, flat_append]; exact HR2.out, trivial⟩, HB1.out.trans HB2.out⟩
  case done =>
    rintro D ys W hD rfl ⟨⟨v, hv, hrow, _⟩, hB1⟩ hK
    have hc := hv.cell
    have HR := Lib.hid hrow
    have HB1 := Lib.hid hB1
    have HK := Lib.hid hK
    clear hrow hB1 hK
    gi_wp2
    refine ⟨by simp, .inl ⟨_, _, rfl, run_takeDeferred HK.out, ?_⟩⟩
    exact ⟨_, results_tmp rfl _ _ _, v, rfl, ownsRow_putObj HR.out _ HK.out rfl, HB1.out.trans (belowK_b (w := w) (Nat.le_refl _) W D _ _ (by omega) HK.out rfl rfl)⟩
  case stop =>
    rintro D c pre W _ _ h _
    exact h.elim

/-- A range of numbers: what Count's rounds know of what they are handed. -/
abbrev Nums := { x : R // 0 ≤ x.1 ∧ x.1 ≤ x.2 ∧ x.2 ≤ M }
def encn (x : Nums) : Array Value := #[.agg #[.int .i64 x.1.1, .int .i64 x.1.2]]
set_option maxRecDepth 100000 in
theorem falling_stops2 (n : Nat) (hn : 1 ≤ n) (bs n₀ p c room : Nat) (A : Option Addr) (l : List R) (w : World) (hb : bs < w.heap.size) (hbs : w.cell? ⟨bs, 0, none⟩ = some (.pointer (some ⟨p, 0, none⟩))) (hS : SetAt w p A c room l) (hf : ∀ k, Foot p A k → k < n₀) (hn₀ : n₀ ≤ w.heap.size) :
    SeqStopsK Fence.wide n Try.prog 67 #[.pointer (some ⟨bs, 0, none⟩)] encn (Kp n₀ bs) (fun ys => ys.map (·.1) = l.reverse) (fun _ => True) l.length w := fun ly J Jx W hW hJ hJx hY h0 => by
  refine (falling1_in n hn ly bs n₀ p c room A l (fun ys W => ∃ zs : List Nums, zs.map (·.1) = ys ∧ J zs W) (fun ys W => ∃ zs : List Nums, zs.map (·.1) = ys ∧ Jx zs W) (fun pre x W1 hj hl hx => ?_) W ((hW.cell (p := ⟨bs, 0, none⟩) hb).trans hbs) (hS.below (fun k h => Nat.lt_of_lt_of_le (hf k h) hn₀) hW) hf ⟨[], rfl, h0⟩).mono ?_
  · obtain ⟨zs, hz, hj'⟩ := hj
    have hxb := hS.good.1 x hx
    obtain ⟨fn, tmps, assign, body, hy, hR⟩ := hY zs ⟨x, hxb⟩ W1 hj' (by rw [← hz, List.length_map] at hl; exact hl)
    refine ⟨fn, tmps, assign, body, hy, hR.mono (fun e w' hr => ?_)⟩
    rcases hr with ⟨h1, h2, h3⟩ | ⟨h1, h2⟩
    · exact .inl ⟨h1, ⟨_, by rw [List.map_append, hz]; rfl, h2⟩, h3⟩
    · exact .inr ⟨h1, _, by rw [List.map_append, hz]; rfl, h2⟩
  · rintro e W' ⟨hv, ⟨ys, hys, zs, hz, hj⟩ | ⟨pre, _, zs, hz, hj⟩⟩
    · exact ⟨hv, .inl ⟨zs, hz.trans hys, hj⟩⟩
    · exact ⟨hv, .inr ⟨zs, trivial, hj⟩⟩

/-- What Count's rounds have counted. -/
def cntN (pre : List Nums) : Int := (pre.map (fun x => x.1.2 - x.1.1 + 1)).sum
set_option maxRecDepth 100000 in
theorem cntN_snoc (pre : List Nums) (x : Nums) : cntN (pre ++ [x]) = cntN pre + (x.1.2 - x.1.1 + 1) := by simp [cntN]
set_option maxRecDepth 100000 in
theorem cntN_bd (pre : List Nums) : 0 ≤ cntN pre ∧ cntN pre ≤ pre.length * 9007199254740992 := by
  induction pre with
  | nil => simp [cntN]
  | cons x t ih =>
    have hx := x.2
    unfold M at hx
    have e : cntN (x :: t) = (x.1.2 - x.1.1 + 1) + cntN t := by simp [cntN]
    rw [e, List.length_cons]
    omega
set_option maxRecDepth 100000 in
theorem cntN_eq {pre : List Nums} {l : List R} (h : pre.map (·.1) = l.reverse) : cntN pre = cnt l := by
  have : (pre.map (·.1)).map (fun r => r.2 - r.1 + 1) = l.reverse.map (fun r => r.2 - r.1 + 1) := by rw [h]
  unfold cntN cnt
  rw [List.map_map] at this
  rw [show (fun x : Nums => x.1.2 - x.1.1 + 1) = (fun r : R => r.2 - r.1 + 1) ∘ (·.1) from rfl, this, List.map_reverse, List.sum_reverse]

set_option maxRecDepth 100000 in
theorem falling_any (p : Nat) (w : World) : Calls Try.prog 48 #[.pointer (some ⟨p, 0, none⟩)] w fun e w' => e = .returned (.func (.func 67) #[] #[.pointer (some ⟨w.heap.size, 0, none⟩)]) ∧ w' = w.alloc (.cells #[.pointer (some ⟨p, 0, none⟩)] 27) := by
  go_enter Try.func48, Try.ntmps48
  go_wp2
  go_ret
  exact ⟨rfl, rfl⟩

set_option maxRecDepth 100000 in
set_option maxHeartbeats 1000000 in
theorem collect_any (bs p c room : Nat) (A : Option Addr) (l : List R) (w : World) (hbs : w.cell? ⟨bs, 0, none⟩ = some (.pointer (some ⟨p, 0, none⟩))) (hS : SetAt w p A c room l) :
    Calls Try.prog 47 #[.func (.func 67) #[] #[.pointer (some ⟨bs, 0, none⟩)]] w
      fun e W' => ∃ v, e = .returned v ∧ W'.ownsRow w.heap.size 49 2 v l.reverse.length (flat l.reverse) ∧ Below w.heap.size w W' := by
  have hc := Lib.hid (callsIn_wide.1 (appendSeq_in 3 (Nat.le_refl _) bs p c room A l w hbs hS))
  clear hbs hS
  go_enter Try.func47, Try.ntmps47
  go_wp2_with (go_at_call 66; refine hc.out.mono ?_; rintro e w' ⟨v, rfl, h1, h2⟩; have H1 := Lib.hid h1; have H2 := Lib.hid h2; clear h1 h2)
  go_ret
  exact ⟨v, rfl, H1.out, H2.out⟩

set_option maxRecDepth 100000 in
set_option maxHeartbeats 1000000 in
theorem ranges_any (p c room : Nat) (A : Option Addr) (l : List R) (w : World) (hS : SetAt w p A c room l) :
    Calls Try.prog 28 #[.pointer (some ⟨p, 0, none⟩)] w (Gives l.reverse w) := by
  have hfall := falling_any p w
  have k0 : Kept w (w.alloc (.cells #[.pointer (some ⟨p, 0, none⟩)] 27)) := (Kept.refl w).alloc _
  have hc := Lib.hid (collect_any w.heap.size p c room A l _ (cell_box w (.pointer (some ⟨p, 0, none⟩)) 27) (hS.kept k0))
  have K0 := Lib.hid k0
  clear hS k0
  go_enter Try.func28, Try.ntmps28
  go_wp2_with (first
    | (go_at_call 48; refine hfall.mono ?_; rintro e w' ⟨rfl, rfl⟩)
    | (go_at_call 47; refine hc.out.mono ?_; rintro e w' ⟨v, rfl, h1, h2⟩; have H1 := Lib.hid h1; have H2 := Lib.hid h2; clear h1 h2))
  go_ret
  obtain ⟨A', c', rfl, hrow, hfr⟩ := Row.of_own H1.out rfl
  exact ⟨A', c', rfl, hrow, K0.out.trans H2.out, fun k e => Nat.le_trans K0.out.size (hfr k e)⟩

end Go.Proofs.Ytdfjceghhjecaaa.Spn
