/-
  The iterator of a set: its ranges, the greatest one first.
-/
import Derived.Test.YtilkgjpgoogiiaaGreatSpnabJ48a
import Derived.RangeFuncNested
import Derived.RangeFuncBound
import Derived.RangeFuncCalls
import Derived.RangeFuncLeaves
import Derived.Shelf.Abstract
import Derived.Shelf.RegionOpen
import Derived.OwnWalkIn
import Derived.TacticsInMore
import Derived.LoopNIn
import Derived.LoopIn
import Derived.Maps.AppendAt
import Derived.Test.YtilkgjpgoogiiaaGreatSpnabJ21a
set_option maxRecDepth 100000
set_option maxHeartbeats 16000000
set_option linter.unusedVariables false
set_option linter.unusedSimpArgs false
namespace Go.Proofs.YtilkgjpgoogiiaaGreat.Spn
open Go.RowKit SpnM Wd
attribute [local go_sem] Oper.semAt_some
def Kp (n₀ bs : Nat) (A B : World) : Prop := Below n₀ A B ∧ B.heap[bs]? = A.heap[bs]?
theorem kp_refl (n₀ bs : Nat) (A : World) : Kp n₀ bs A A := ⟨Below.refl _ _, rfl⟩
theorem kp_t {n₀ bs : Nat} {A B C : World} (h : Kp n₀ bs A B) (k : Kp n₀ bs B C) : Kp n₀ bs A C := ⟨h.1.trans k.1, k.2.trans h.2⟩
theorem kp_b {n₀ bs : Nat} {w : World} (hn : n₀ ≤ w.heap.size) (hb : bs < w.heap.size) (W : World) (l : Nat) (o o' : Obj) (hl : w.heap.size ≤ l) (h : W.heap[l]? = some o) (h1 : o.isCells = false) (h2 : o.isWalk = false) : Kp n₀ bs W (W.putObj l o') :=
  ⟨belowK_b hn W l o o' hl h h1 h2, World.putObj_heap_other (by omega)⟩
theorem SetAt.below {n₀ p c room : Nat} {A : Option Addr} {l : List R} {w w' : World} (h : SetAt w p A c room l) (hf : ∀ k, Foot p A k → k < n₀) (k : Below n₀ w w') : SetAt w' p A c room l :=
  ⟨h.blk.at_ (k.block p (hf p (.inl rfl))), h.row.same_ fun i e => k.block i (hf i (.inr e)), h.good, h.room1, h.fits⟩
theorem rev_drop {l : List R} {k : Nat} (h : k < l.length) : (l.drop (k + 1)).reverse ++ [at_ l k] = (l.drop k).reverse := by
  rw [at_of h, List.drop_eq_getElem_cons h, List.reverse_cons]
theorem falling1_in (n : Nat) (hn : 1 ≤ n) (ly bs n₀ p c room : Nat) (A : Option Addr) (l : List R) (J Jx : List R → World → Prop)
    (hY : ∀ pre x W, J pre W → pre.length < l.length → x ∈ l → YieldAt Fence.wide (n - 1) Tryz.prog ly #[.agg #[.int .i64 x.1, .int .i64 x.2]] W fun e W' =>
      (e = .returned (.bool true) ∧ J (pre ++ [x]) W' ∧ Kp n₀ bs W W') ∨ (e = .returned (.bool false) ∧ Jx (pre ++ [x]) W'))
    (W : World) (hbs : W.cell? ⟨bs, 0, none⟩ = some (.pointer (some ⟨p, 0, none⟩))) (hS : SetAt W p A c room l) (hf : ∀ k, Foot p A k → k < n₀) (h0 : J [] W) :
    CallsIn Fence.wide n Tryz.prog 203 #[.func (.yield ly) #[] #[], .pointer (some ⟨bs, 0, none⟩)] W fun e W' => (∃ v, e = .returned v) ∧
      ((∃ ys, ys = l.reverse ∧ J ys W') ∨ (∃ pre, True ∧ Jx pre W')) := by
  have hl := len_set p c room A l W hS
  have hfit := hS.fits
  have hroom := hS.room1
  have HS := Lib.hid hS
  have HF := Lib.hid hf
  have HY := Lib.hid hY
  clear hS hf hY
  have hfn : Fence.wide.fn 170 := trivial
  refine callsIn_of_wp Tryz.func203 rfl trivial ?_ rfl
  simp only [Tryz.ntmps203, List.size_toArray, List.length_cons, List.length_nil, Nat.reduceAdd, Nat.reduceSub, Array.replicate_succ, Array.replicate_zero, List.push_toArray, List.append_toArray, List.nil_append, List.cons_append]
  gi_wp2_with (gi_at_call 170; refine (callsIn_wide.2 hl).mono ?_; rintro e w' ⟨rfl, rfl⟩)
  gi_loopw [3] (fun i wr => ∃ z : Int, i = .int .i64 z ∧ -1 ≤ z ∧ z < l.length ∧ Hid (SetAt wr p A c room l) ∧ Hid (wr.cell? ⟨bs, 0, none⟩ = some (.pointer (some ⟨p, 0, none⟩))) ∧ Hid (J (l.drop (z + 1).toNat).reverse wr)) (fun i wr => (intOf i + 1).toNat)
  case atStart => exact ⟨_, rfl, by omega, by omega, HS.out, hbs, by show J _ _; rw [show (((l.length : Nat) : Int) - 1 + 1).toNat = l.length by omega, List.drop_length]; exact h0⟩
  case round =>
    obtain ⟨z, rfl, hz1, hz2, S1, hb1, J1⟩ := hrel
    by_cases hz : 0 ≤ z
    · obtain ⟨k, rfl⟩ : ∃ k : Nat, z = (k : Int) := ⟨z.toNat, by omega⟩
      have hk : k < l.length := by omega
      obtain ⟨g, rfl, hg⟩ := S1.out.row.some_ (by omega)
      have c1 := S1.out.row.lo hk
      have c2 := S1.out.row.hi hk
      have d1 := S1.out.list_
      have hb := hb1.out
      have hcap := S1.out.row.cap
      unfold maxLen at hcap
      have hJ := J1.out
      rw [show ((k : Int) + 1).toNat = k + 1 by omega] at hJ
      obtain ⟨fn, tmps, assign, body, hy, hR⟩ := HY.out (l.drop (k + 1)).reverse (at_ l k) wr hJ (by simp; omega) (at_mem hk)
      have HR := Lib.hid hR
      have hrd := Lib.hid (rev_drop hk)
      clear hJ hR
      generalize at_ l k = x at *
      generalize hxa : x.1 = a at *
      generalize hxb : x.2 = b at *
      have hab : Hid (x.1 = a ∧ x.2 = b) := ⟨hxa, hxb⟩
      clear hxa hxb
      gi_wp2
      refine HR.out.mono ?_
      rintro e W3 (⟨rfl, hJ3, hk3⟩ | ⟨rfl, hJx3⟩)
      · have S3 := Lib.hid (S1.out.below HF.out hk3.1)
        have b3 : W3.cell? ⟨bs, 0, none⟩ = some (.pointer (some ⟨p, 0, none⟩)) := (World.cell?_of_block (a := ⟨bs, 0, none⟩) hk3.2).trans hb
        have HJ := Lib.hid hJ3
        have hw1 : IntKind.i64.wrap ((k : Int) - 1) = (k : Int) - 1 := IntWalk.i64_in _ (by omega)
        clear hJ3 hk3 hb c1 c2 d1
        gi_wp2
        go_roundw
        case rel => exact ⟨_, rfl, by omega, by omega, S3.out, b3, by show J _ _; rw [show ((k : Int) - 1 + 1).toNat = k by omega, ← hrd.out]; exact HJ.out⟩
        case measure => first | (simp [intOf]; done) | (simp [intOf]; omega)
      · have HJ := Lib.hid hJx3
        clear hJx3
        gi_wp2
        refine bodyPost_ret (results_none rfl _ _ _) rfl ?_
        exact ⟨⟨_, rfl⟩, .inr ⟨_, trivial, HJ.out⟩⟩
    · obtain rfl : z = -1 := by omega
      have hJ : Hid (J l.reverse wr) := by show J _ _; have := J1.out; simpa using this
      clear J1
      gi_wp2
      go_end0
      exact ⟨⟨_, rfl⟩, .inl (by first | exact hJ.out | exact ⟨_, rfl, hJ.out⟩)⟩
end Go.Proofs.YtilkgjpgoogiiaaGreat.Spn
/-
  Contracts of slices.AppendSeq and Collect over a set's iterator, of Ranges and Count.
-/
namespace Go.Proofs.YtilkgjpgoogiiaaGreat.Spn
open Go.RowKit SpnM Wd
attribute [local go_sem] Oper.semAt_some
def encs (x : R) : Array Value := #[.agg #[.int .i64 x.1, .int .i64 x.2]]
theorem kp_below {n n₀ bs : Nat} {A B : World} (h : Below n A B) (h1 : bs < n) (h2 : n₀ ≤ n) : Kp n₀ bs A B := ⟨h.mono h2, h.block bs h1⟩
theorem falling_stops (n : Nat) (hn : 1 ≤ n) (bs n₀ p c room : Nat) (A : Option Addr) (l : List R) (w : World) (hb : bs < w.heap.size) (hbs : w.cell? ⟨bs, 0, none⟩ = some (.pointer (some ⟨p, 0, none⟩))) (hS : SetAt w p A c room l) (hf : ∀ k, Foot p A k → k < n₀) (hn₀ : n₀ ≤ w.heap.size) :
    SeqStopsK Fence.wide n Tryz.prog 203 #[.pointer (some ⟨bs, 0, none⟩)] encs (Kp n₀ bs) (fun ys => ys = l.reverse) (fun _ => True) l.length w := fun ly J Jx W hW hJ hJx hY h0 =>
  falling1_in n hn ly bs n₀ p c room A l J Jx (fun pre x W1 hj hl _ => hY pre x W1 hj hl) W ((hW.cell (p := ⟨bs, 0, none⟩) hb).trans hbs) (hS.below (fun k h => Nat.lt_of_lt_of_le (hf k h) hn₀) hW) hf h0
def Two (W : World) (B : Nat) (x : R) : Prop := Blk W B 101 #[.int .i64 x.1, .int .i64 x.2]
theorem two_own (B : Nat) (x : R) : Go.Own (fun (_ : Unit) W => Two W B x) := fun s X Y row hs hg hr => by
  refine (hg.block B hs.lt (fun e => ?_)).trans hs
  obtain ⟨o, ho, hc⟩ := hr B e.symm
  rw [show X.heap[B]? = _ from hs] at ho
  cases ho; cases hc
theorem appendSeq_in (n : Nat) (hn : 3 ≤ n) (bs p c room : Nat) (A : Option Addr) (l : List R) (w : World) (hbs : w.cell? ⟨bs, 0, none⟩ = some (.pointer (some ⟨p, 0, none⟩))) (hS : SetAt w p A c room l) :
    CallsIn Fence.wide n Tryz.prog 202 #[.slice none 0 0, .func (.func 203) #[] #[.pointer (some ⟨bs, 0, none⟩)]] w
      fun e W' => ∃ v, e = .returned v ∧ W'.ownsRow w.heap.size 101 2 v l.reverse.length (flat l.reverse) ∧ Below w.heap.size w W' := by
  have h1 : 1 ≤ n := by omega
  have hb : bs < w.heap.size := World.block_lt_of_cell? _ _ hbs
  have hfoot := Lib.hid hS.foot
  have hfit := hS.fits
  have hroom := hS.room1
  obtain ⟨i0, hi, hz0, hz1, hz2⟩ := info_parts info_range
  have HS := Lib.hid hS
  have HBS := Lib.hid hbs
  clear hS hbs
  refine callsIn_of_wp_marks Tryz.func202 rfl trivial ?_ rfl
  simp only [Tryz.ntmps202, List.size_toArray, List.length_cons, List.length_nil, Nat.reduceAdd, Nat.reduceSub, Array.replicate_succ, Array.replicate_zero, List.push_toArray, List.append_toArray, List.nil_append, List.cons_append]
  gi_wp2
  have bO := Boxed.new w 33 (.slice none 0 0)
  have hB0 : Below w.heap.size w (w.alloc (.cells #[.slice none 0 0] 33)) := (Below.refl _ w).alloc (Nat.le_refl _) _
  have k0 : Kept w (w.alloc (.cells #[.slice none 0 0] 33)) := (Kept.refl w).alloc _
  have hsz : (w.alloc (.cells #[.slice none 0 0] 33)).heap.size = w.heap.size + 1 := by simp
  have HSeq := Lib.hid (falling_stops (n - 1) (by omega) bs w.heap.size p c room A l _ (by omega) (k0.cell HBS.out) (HS.out.kept k0) hfoot.out (by omega))
  obtain ⟨W0, hW0⟩ : ∃ W0, w.alloc (.cells #[.slice none 0 0] 33) = W0 := ⟨_, rfl⟩
  rw [hW0] at bO hB0 hsz HSeq ⊢
  clear hW0 k0
  refine wpIn_rangeFunc_ownH rfl h1 (gf := 203) (lb := #[.pointer (some ⟨bs, 0, none⟩)]) rfl trivial (enters_of Tryz.func203 (by kernel_rfl) rfl)
    HSeq.out kp_t (kp_b (by omega) (by omega)) (Below.refl _ _) (fun _ => rfl)
    (fun pre W => (∃ v, Boxed W w.heap.size 33 v ∧ W.ownsRow w.heap.size 101 2 v pre.length (flat pre) ∧ True) ∧ Below w.heap.size w W)
    (fun _ _ _ => False)
    (OwnFrom.and (Own.from (holdsRow_own w.heap.size w.heap.size 33 101 2 (fun pre => pre.length) (fun pre => flat pre) (fun _ _ => True)) _) (ownFrom_below (Nat.le_refl _) (by omega)))
    (fun _ _ _ _ _ hs _ _ => hs)
    ⟨⟨_, bO, World.ownsRow_nil _ _ _ _, trivial⟩, hB0⟩
    (fun x a' W => ∃ Bx, w.heap.size < Bx ∧ Two W Bx x ∧ a' = { tmps := #[.slice none 0 0, .func (.func 203) #[] #[.pointer (some ⟨bs, 0, none⟩)], .pointer (some ⟨w.heap.size, 0, none⟩), undef, .slice none 0 0, .pointer (some ⟨Bx, 0, none⟩), .func (.func 203) #[] #[.pointer (some ⟨bs, 0, none⟩)], .agg #[.int .i64 x.1, .int .i64 x.2], undef, undef, undef, undef, undef], defers := [] })
    (fun x a' _ X Y row hs hg hr => by obtain ⟨Bx, g1, g2, g3⟩ := hs; exact ⟨Bx, g1, two_own Bx x () X Y row g2 hg (fun r e => (hr r e).2), g3⟩)
    ?assign ?body ?done ?stop
  case assign =>
    rintro ly pre x W K ⟨⟨v, hv, hrow, _⟩, hB1⟩ hK
    simp only [encs]
    gi_wp2
    exact hK _ _ ((KeepsOthers.alloc _ _).from _) (kp_below ((Below.refl _ W).alloc hB1.size _) hb (Nat.le_refl _)) ⟨⟨v, hv.alloc _, hrow.alloc _, trivial⟩, hB1.alloc hB1.size _⟩ ⟨W.heap.size, hv.lt, Blk.new W _ _, rfl⟩
  case body =>
    rintro ly pre x a' W hl ⟨r, hr⟩ ⟨⟨v, hv, hrow, _⟩, hB1⟩ ⟨Bx, hBx, bX, rfl⟩ hlt
    have hc := hv.cell
    have hx0 : W.cell? ⟨Bx, 0, none⟩ = some (.int .i64 x.1) := bX.cell 0
    have hx1 : W.cell? ⟨Bx, 1, none⟩ = some (.int .i64 x.2) := bX.cell 1
    have hnew : Hid (∀ j u, (flat [x])[j]? = some u → (W.alloc (.cells #[.int .i64 x.1, .int .i64 x.2] 101)).cell? ((⟨W.heap.size, 0, none⟩ : Addr).add j) = some u) := fun j u hj => by
      rw [Addr.add_lit, Nat.zero_add, (Blk.new W 101 #[.int .i64 x.1, .int .i64 x.2]).cell j]; simpa [flat] using hj
    have HR := Lib.hid hrow
    have HB1 := Lib.hid hB1
    have hsW := hB1.size
    clear hrow hB1
    gi_wp2_with (gi_at_builtin; refine wpListIn_append_own _ rfl _ _ 33 rfl w.heap.size 101 i0 (.agg #[.int .i64 0, .int .i64 0]) 2 16 Tryz.underlying33 hi hz0 hz1 hz2 rfl (by decide) v pre.length (flat pre) rfl (HR.out.alloc _) ⟨W.heap.size, 0, none⟩ 1 1 (flat [x]) rfl rfl hnew.out (flat_one _) (by unfold maxLen; omega) (by omega) (by simp; omega) ?_; intro v' w1 hown' hgrow _; obtain ⟨g', cap', rfl⟩ := ownsRow_succ hown'; obtain ⟨hv1, hv2, hr2, hk2, hb2⟩ := hv.appended (by decide) HR.out hsW (Nat.le_refl _) hown' hgrow; have hc1 := hv1.cell; have hf1 := hv1.frozen; have HR2 := Lib.hid hr2; have HK2 := Lib.hid hk2; have HB2 := Lib.hid hb2; clear hr2 hk2 hb2 hown' hgrow)
    exact ⟨HK2.out.from _, kp_below HB2.out hb (Nat.le_refl _), ⟨_, hv2, by rw [List.length_append, flat_append]; exact HR2.out, trivial⟩, HB1.out.trans HB2.out⟩
  case done =>
    rintro D ys W hD rfl ⟨⟨v, hv, hrow, _⟩, hB1⟩ hK
    have hc := hv.cell
    have HR := Lib.hid hrow
    have HB1 := Lib.hid hB1
    have HK := Lib.hid hK
    clear hrow hB1 hK
    gi_wp2
    refine ⟨by simp, .inl ⟨_, _, rfl, run_takeDeferred HK.out, ?_⟩⟩
    exact ⟨_, results_tmp rfl _ _ _, v, rfl, ownsRow_putObj HR.out _ HK.out rfl, HB1.out.trans (belowK_b (w := w) (Nat.le_refl _) W D _ _ (by omega) HK.out rfl rfl)⟩
  case stop =>
    rintro D c pre W _ _ h _
    exact h.elim
theorem falling_any (p : Nat) (w : World) : Calls Tryz.prog 192 #[.pointer (some ⟨p, 0, none⟩)] w fun e w' => e = .returned (.func (.func 203) #[] #[.pointer (some ⟨w.heap.size, 0, none⟩)]) ∧ w' = w.alloc (.cells #[.pointer (some ⟨p, 0, none⟩)] 76) := by
  go_enter Tryz.func192, Tryz.ntmps192
  go_wp2
  go_ret
  exact ⟨rfl, rfl⟩
theorem collect_any (bs p c room : Nat) (A : Option Addr) (l : List R) (w : World) (hbs : w.cell? ⟨bs, 0, none⟩ = some (.pointer (some ⟨p, 0, none⟩))) (hS : SetAt w p A c room l) :
    Calls Tryz.prog 191 #[.func (.func 203) #[] #[.pointer (some ⟨bs, 0, none⟩)]] w
      fun e W' => ∃ v, e = .returned v ∧ W'.ownsRow w.heap.size 101 2 v l.reverse.length (flat l.reverse) ∧ Below w.heap.size w W' := by
  have hc := Lib.hid (callsIn_wide.1 (appendSeq_in 3 (Nat.le_refl _) bs p c room A l w hbs hS))
  clear hbs hS
  go_enter Tryz.func191, Tryz.ntmps191
  go_wp2_with (go_at_call 202; refine hc.out.mono ?_; rintro e w' ⟨v, rfl, h1, h2⟩; have H1 := Lib.hid h1; have H2 := Lib.hid h2; clear h1 h2)
  go_ret
  exact ⟨v, rfl, H1.out, H2.out⟩
theorem ranges_any (p c room : Nat) (A : Option Addr) (l : List R) (w : World) (hS : SetAt w p A c room l) :
    Calls Tryz.prog 163 #[.pointer (some ⟨p, 0, none⟩)] w (Gives l.reverse w) := by
  have hfall := falling_any p w
  have k0 : Kept w (w.alloc (.cells #[.pointer (some ⟨p, 0, none⟩)] 76)) := (Kept.refl w).alloc _
  have hc := Lib.hid (collect_any w.heap.size p c room A l _ (cell_box w (.pointer (some ⟨p, 0, none⟩)) 76) (hS.kept k0))
  have K0 := Lib.hid k0
  clear hS k0
  go_enter Tryz.func163, Tryz.ntmps163
  go_wp2_with (first
    | (go_at_call 192; refine hfall.mono ?_; rintro e w' ⟨rfl, rfl⟩)
    | (go_at_call 191; refine hc.out.mono ?_; rintro e w' ⟨v, rfl, h1, h2⟩; have H1 := Lib.hid h1; have H2 := Lib.hid h2; clear h1 h2))
  go_ret
  obtain ⟨A', c', rfl, hrow, hfr⟩ := Row.of_own H1.out rfl
  exact ⟨A', c', rfl, hrow, K0.out.trans H2.out, fun k e => Nat.le_trans K0.out.size (hfr k e)⟩
end Go.Proofs.YtilkgjpgoogiiaaGreat.Spn
namespace Go.Proofs.YtilkgjpgoogiiaaGreat.Spn
open Go.RowKit SpnM Wd
attribute [local go_sem] Oper.semAt_some
def Abs (w : World) (P : Option Addr) : Prop := ∀ W, Kept w W → Calls Tryz.prog 123 #[.pointer P] W fun e w' => e = .returned (.bool true) ∧ W = w'
theorem abs_nil (w : World) : Abs w none := fun W _ => absent_nil W
theorem abs_zero {w : World} {p : Nat} (h : w.cell? ⟨p, 0, none⟩ = some (.int .i64 0)) : Abs w (some ⟨p, 0, none⟩) := fun W k => absent_zero p W (k.cell h)
theorem Abs.kept {w w' : World} {P : Option Addr} (h : Abs w P) (k : Kept w w') : Abs w' P := fun W k' => h W (k.trans k')
section
variable {w : World} {P : Option Addr}
theorem copy0 (h : Abs w P) : Calls Tryz.prog 112 #[.pointer P] w fun e w' => e = .returned (.pointer none) ∧ Kept w w' := by
  have hk : Kept w _ := Kept.refl w
  have ha := Lib.hid (h _ hk)
  have HK := Lib.hid hk
  clear h hk
  go_enter Tryz.func112, Tryz.ntmps112
  go_wp2_with fail
  refine ha.out.mono ?_
  rintro e w' ⟨rfl, rfl⟩
  go_wp2_with fail
  go_ret
  exact ⟨rfl, HK.out⟩
theorem len0 (h : Abs w P) : Calls Tryz.prog 170 #[.pointer P] w fun e w' => e = .returned (.int .i64 0) ∧ w = w' := by
  have ha := Lib.hid (h w (Kept.refl w))
  clear h
  go_enter Tryz.func170, Tryz.ntmps170
  go_wp2_with fail
  refine ha.out.mono ?_
  rintro e w' ⟨rfl, rfl⟩
  go_wp2_with fail
  go_ret
  exact ⟨rfl, rfl⟩
theorem falling0_in (n : Nat) (hn : 1 ≤ n) (ly bs : Nat) (W : World) (hbs : W.cell? ⟨bs, 0, none⟩ = some (.pointer P)) (hA : Abs W P) :
    CallsIn Fence.wide n Tryz.prog 203 #[.func (.yield ly) #[] #[], .pointer (some ⟨bs, 0, none⟩)] W fun e W' => (∃ v, e = .returned v) ∧ W = W' := by
  have hl := len0 hA
  clear hA
  have hfn : Fence.wide.fn 170 := trivial
  refine callsIn_of_wp Tryz.func203 rfl trivial ?_ rfl
  simp only [Tryz.ntmps203, List.size_toArray, List.length_cons, List.length_nil, Nat.reduceAdd, Nat.reduceSub, Array.replicate_succ, Array.replicate_zero, List.push_toArray, List.append_toArray, List.nil_append, List.cons_append]
  gi_wp2_with (gi_at_call 170; refine (callsIn_wide.2 hl).mono ?_; rintro e w' ⟨rfl, rfl⟩)
  gi_loopw [3] (fun i wr => i = .int .i64 (-1) ∧ wr = W) (fun i wr => 0)
  case atStart => exact ⟨rfl, rfl⟩
  case round =>
    obtain ⟨rfl, rfl⟩ := hrel
    gi_wp2
    go_end0
    exact ⟨⟨_, rfl⟩, rfl⟩
theorem falling_stops0 {α : Type} (en : α → Array Value) (n : Nat) (hn : 1 ≤ n) (bs n₀ : Nat) (w : World) (hb : bs < w.heap.size) (hbs : w.cell? ⟨bs, 0, none⟩ = some (.pointer P)) (hA : Abs w P) :
    SeqStopsK Fence.wide n Tryz.prog 203 #[.pointer (some ⟨bs, 0, none⟩)] en (Kp n₀ bs) (fun ys => ys = []) (fun _ => True) 0 w := fun ly J Jx W hW hJ hJx hY h0 =>
  (falling0_in n hn ly bs W ((hW.cell (p := ⟨bs, 0, none⟩) hb).trans hbs) (hA.kept hW)).mono fun e W' h => by
    obtain ⟨h1, rfl⟩ := h
    exact ⟨h1, .inl ⟨[], rfl, h0⟩⟩
theorem falling_any0 (w : World) : Calls Tryz.prog 192 #[.pointer P] w fun e w' => e = .returned (.func (.func 203) #[] #[.pointer (some ⟨w.heap.size, 0, none⟩)]) ∧ w' = w.alloc (.cells #[.pointer P] 76) := by
  go_enter Tryz.func192, Tryz.ntmps192
  go_wp2
  go_ret
  exact ⟨rfl, rfl⟩
theorem appendSeq0_in (n : Nat) (hn : 3 ≤ n) (bs : Nat) (w : World) (hbs : w.cell? ⟨bs, 0, none⟩ = some (.pointer P)) (hS : Abs w P) :
    CallsIn Fence.wide n Tryz.prog 202 #[.slice none 0 0, .func (.func 203) #[] #[.pointer (some ⟨bs, 0, none⟩)]] w
      fun e W' => ∃ v, e = .returned v ∧ W'.ownsRow w.heap.size 101 2 v 0 (flat []) ∧ Below w.heap.size w W' := by
  have h1 : 1 ≤ n := by omega
  have hb : bs < w.heap.size := World.block_lt_of_cell? _ _ hbs
  obtain ⟨i0, hi, hz0, hz1, hz2⟩ := info_parts info_range
  have HS := Lib.hid hS
  have HBS := Lib.hid hbs
  clear hS hbs
  refine callsIn_of_wp_marks Tryz.func202 rfl trivial ?_ rfl
  simp only [Tryz.ntmps202, List.size_toArray, List.length_cons, List.length_nil, Nat.reduceAdd, Nat.reduceSub, Array.replicate_succ, Array.replicate_zero, List.push_toArray, List.append_toArray, List.nil_append, List.cons_append]
  gi_wp2
  have bO := Boxed.new w 33 (.slice none 0 0)
  have hB0 : Below w.heap.size w (w.alloc (.cells #[.slice none 0 0] 33)) := (Below.refl _ w).alloc (Nat.le_refl _) _
  have k0 : Kept w (w.alloc (.cells #[.slice none 0 0] 33)) := (Kept.refl w).alloc _
  have hsz : (w.alloc (.cells #[.slice none 0 0] 33)).heap.size = w.heap.size + 1 := by simp
  have HSeq := Lib.hid (falling_stops0 encs (n - 1) (by omega) bs w.heap.size _ (by omega) (k0.cell HBS.out) (HS.out.kept k0))
  obtain ⟨W0, hW0⟩ : ∃ W0, w.alloc (.cells #[.slice none 0 0] 33) = W0 := ⟨_, rfl⟩
  rw [hW0] at bO hB0 hsz HSeq ⊢
  clear hW0 k0
  refine wpIn_rangeFunc_ownH rfl h1 (gf := 203) (lb := #[.pointer (some ⟨bs, 0, none⟩)]) rfl trivial (enters_of Tryz.func203 (by kernel_rfl) rfl)
    HSeq.out kp_t (kp_b (by omega) (by omega)) (Below.refl _ _) (fun _ => rfl)
    (fun pre W => (∃ v, Boxed W w.heap.size 33 v ∧ W.ownsRow w.heap.size 101 2 v pre.length (flat pre) ∧ True) ∧ Below w.heap.size w W)
    (fun _ _ _ => False)
    (OwnFrom.and (Own.from (holdsRow_own w.heap.size w.heap.size 33 101 2 (fun pre => pre.length) (fun pre => flat pre) (fun _ _ => True)) _) (ownFrom_below (Nat.le_refl _) (by omega)))
    (fun _ _ _ _ _ hs _ _ => hs)
    ⟨⟨_, bO, World.ownsRow_nil _ _ _ _, trivial⟩, hB0⟩
    (fun x a' W => ∃ Bx, w.heap.size < Bx ∧ Two W Bx x ∧ a' = { tmps := #[.slice none 0 0, .func (.func 203) #[] #[.pointer (some ⟨bs, 0, none⟩)], .pointer (some ⟨w.heap.size, 0, none⟩), undef, .slice none 0 0, .pointer (some ⟨Bx, 0, none⟩), .func (.func 203) #[] #[.pointer (some ⟨bs, 0, none⟩)], .agg #[.int .i64 x.1, .int .i64 x.2], undef, undef, undef, undef, undef], defers := [] })
    (fun x a' _ X Y row hs hg hr => by obtain ⟨Bx, g1, g2, g3⟩ := hs; exact ⟨Bx, g1, two_own Bx x () X Y row g2 hg (fun r e => (hr r e).2), g3⟩)
    ?assign ?body ?done ?stop
  case assign =>
    rintro ly pre x W K ⟨⟨v, hv, hrow, _⟩, hB1⟩ hK
    simp only [encs]
    gi_wp2
    exact hK _ _ ((KeepsOthers.alloc _ _).from _) (kp_below ((Below.refl _ W).alloc hB1.size _) hb (Nat.le_refl _)) ⟨⟨v, hv.alloc _, hrow.alloc _, trivial⟩, hB1.alloc hB1.size _⟩ ⟨W.heap.size, hv.lt, Blk.new W _ _, rfl⟩
  case body =>
    rintro ly pre x a' W hl ⟨r, hr⟩ ⟨⟨v, hv, hrow, _⟩, hB1⟩ ⟨Bx, hBx, bX, rfl⟩ hlt
    first | exact absurd hlt (by omega) | (have h2 := congrArg List.length hr; simp at h2) | omega
  case done =>
    rintro D ys W hD rfl ⟨⟨v, hv, hrow, _⟩, hB1⟩ hK
    have hc := hv.cell
    have HR := Lib.hid hrow
    have HB1 := Lib.hid hB1
    have HK := Lib.hid hK
    clear hrow hB1 hK
    gi_wp2
    refine ⟨by simp, .inl ⟨_, _, rfl, run_takeDeferred HK.out, ?_⟩⟩
    exact ⟨_, results_tmp rfl _ _ _, v, rfl, ownsRow_putObj HR.out _ HK.out rfl, HB1.out.trans (belowK_b (w := w) (Nat.le_refl _) W D _ _ (by omega) HK.out rfl rfl)⟩
  case stop =>
    rintro D c pre W _ _ h _
    exact h.elim
theorem collect0 (bs : Nat) (w : World) (hbs : w.cell? ⟨bs, 0, none⟩ = some (.pointer P)) (hS : Abs w P) :
    Calls Tryz.prog 191 #[.func (.func 203) #[] #[.pointer (some ⟨bs, 0, none⟩)]] w
      fun e W' => ∃ v, e = .returned v ∧ W'.ownsRow w.heap.size 101 2 v 0 (flat []) ∧ Below w.heap.size w W' := by
  have hc := Lib.hid (callsIn_wide.1 (appendSeq0_in 3 (Nat.le_refl _) bs w hbs hS))
  clear hbs hS
  go_enter Tryz.func191, Tryz.ntmps191
  go_wp2_with (go_at_call 202; refine hc.out.mono ?_; rintro e w' ⟨v, rfl, h1, h2⟩; have H1 := Lib.hid h1; have H2 := Lib.hid h2; clear h1 h2)
  go_ret
  exact ⟨v, rfl, H1.out, H2.out⟩
theorem ranges0 (w : World) (hS : Abs w P) :
    Calls Tryz.prog 163 #[.pointer P] w (Gives [] w) := by
  have hfall := falling_any0 (P := P) w
  have k0 : Kept w (w.alloc (.cells #[.pointer P] 76)) := (Kept.refl w).alloc _
  have hc := Lib.hid (collect0 w.heap.size _ (cell_box w (.pointer P) 76) (hS.kept k0))
  have K0 := Lib.hid k0
  clear hS k0
  go_enter Tryz.func163, Tryz.ntmps163
  go_wp2_with (first
    | (go_at_call 192; refine hfall.mono ?_; rintro e w' ⟨rfl, rfl⟩)
    | (go_at_call 191; refine hc.out.mono ?_; rintro e w' ⟨v, rfl, h1, h2⟩; have H1 := Lib.hid h1; have H2 := Lib.hid h2; clear h1 h2))
  go_ret
  obtain ⟨A', c', rfl, hrow, hfr⟩ := Row.of_own H1.out rfl
  exact ⟨A', c', rfl, hrow, K0.out.trans H2.out, fun k e => Nat.le_trans K0.out.size (hfr k e)⟩
end
end Go.Proofs.YtilkgjpgoogiiaaGreat.Spn
namespace Go.Proofs.YtilkgjpgoogiiaaGreat.Spn
open Go.RowKit SpnM Wd
def Mine (w W : World) (p : Nat) (A : Option Addr) (c room : Nat) (l : List R) : Prop := SetAt W p A c room l ∧ Kept w W ∧ ∀ i, Foot p A i → w.heap.size ≤ i
def Turns (w : World) (p room : Nat) (l' : List R) (n : Int) (e : Ending) (W' : World) : Prop := e = .returned (.int .i64 n) ∧ ∃ A' c', Mine w W' p A' c' room l'
theorem Mine.kept {w W W' : World} {p c room : Nat} {A : Option Addr} {l : List R} (h : Mine w W p A c room l) (k : Kept W W') : Mine w W' p A c room l := ⟨h.1.kept k, h.2.1.trans k, h.2.2⟩
section
variable {w W : World} {p c room : Nat} {A : Option Addr} {l : List R}
end
end Go.Proofs.YtilkgjpgoogiiaaGreat.Spn
