/-
  The iterator of a set: its ranges, the greatest one first.
-/
import Derived.Test.YtabchdolafplnaaSpnW
import Derived.RangeFuncNested
import Derived.RangeFuncBound
import Derived.RangeFuncCalls
import Derived.RangeFuncLeaves
import Derived.Shelf.Abstract
import Derived.Shelf.RegionOpen
import Derived.OwnWalkIn
import Derived.TacticsInMore
import Derived.LoopNIn
import Derived.LoopIn
namespace Go.Proofs.Ytabchdolafplnaa.Spn
open Go.RowKit SpnM Wd
attribute [local go_sem] Oper.semAt_some
set_option linter.unusedVariables false
set_option linter.unusedSimpArgs false

/-- What a round keeps: what lay below n₀, and the iterator's own box. -/
def Kp (n₀ bs : Nat) (A B : World) : Prop := Below n₀ A B ∧ B.heap[bs]? = A.heap[bs]?
theorem kp_refl (n₀ bs : Nat) (A : World) : Kp n₀ bs A A := ⟨Below.refl _ _, rfl⟩
theorem kp_t {n₀ bs : Nat} {A B C : World} (h : Kp n₀ bs A B) (k : Kp n₀ bs B C) : Kp n₀ bs A C := ⟨h.1.trans k.1, k.2.trans h.2⟩
theorem kp_b {n₀ bs : Nat} {w : World} (hn : n₀ ≤ w.heap.size) (hb : bs < w.heap.size) (W : World) (l : Nat) (o o' : Obj) (hl : w.heap.size ≤ l) (h : W.heap[l]? = some o) (h1 : o.isCells = false) (h2 : o.isWalk = false) : Kp n₀ bs W (W.putObj l o') :=
  ⟨belowK_b hn W l o o' hl h h1 h2, World.putObj_heap_other (by omega)⟩
theorem SetAt.below {n₀ p c room : Nat} {A : Option Addr} {l : List R} {w w' : World} (h : SetAt w p A c room l) (hf : ∀ k, Foot p A k → k < n₀) (k : Below n₀ w w') : SetAt w' p A c room l :=
  ⟨h.blk.at_ (k.block p (hf p (.inl rfl))), h.row.same_ fun i e => k.block i (hf i (.inr e)), h.good, h.room1, h.fits⟩
theorem rev_drop {l : List R} {k : Nat} (h : k < l.length) : (l.drop (k + 1)).reverse ++ [at_ l k] = (l.drop k).reverse := by
  rw [at_of h, List.drop_eq_getElem_cons h, List.reverse_cons]

set_option maxRecDepth 100000 in
set_option maxHeartbeats 2000000 in
theorem falling1_in (n : Nat) (hn : 1 ≤ n) (ly bs n₀ p c room : Nat) (A : Option Addr) (l : List R) (J Jx : List R → World → Prop)
    (hY : ∀ pre x W, J pre W → pre.length < l.length → x ∈ l → YieldAt Fence.wide (n - 1) Try.prog ly #[.agg #[.int .i64 x.1, .int .i64 x.2]] W fun e W' =>
      (e = .returned (.bool true) ∧ J (pre ++ [x]) W' ∧ Kp n₀ bs W W') ∨ (e = .returned (.bool false) ∧ Jx (pre ++ [x]) W'))
    (W : World) (hbs : W.cell? ⟨bs, 0, none⟩ = some (.pointer (some ⟨p, 0, none⟩))) (hS : SetAt W p A c room l) (hf : ∀ k, Foot p A k → k < n₀) (h0 : J [] W) :
    CallsIn Fence.wide n Try.prog 62 #[.func (.yield ly) #[] #[], .pointer (some ⟨bs, 0, none⟩)] W fun e W' => (∃ v, e = .returned v) ∧
      ((∃ ys, ys = l.reverse ∧ J ys W') ∨ (∃ pre, True ∧ Jx pre W')) := by
  have hl := len_set p c room A l W hS
  have hfit := hS.fits
  have hroom := hS.room1
  have HS := Lib.hid hS
  have HF := Lib.hid hf
  have HY := Lib.hid hY
  clear hS hf hY
  have hfn : Fence.wide.fn 29 := trivial
  refine callsIn_of_wp Try.func62 rfl trivial ?_ rfl
  simp only [Try.ntmps62, List.size_toArray, List.length_cons, List.length_nil, Nat.reduceAdd, Nat.reduceSub, Array.replicate_succ, Array.replicate_zero, List.push_toArray, List.append_toArray, List.nil_append, List.cons_append]
  gi_wp2_with (gi_at_call 29; refine (callsIn_wide.2 hl).mono ?_; rintro e w' ⟨rfl, rfl⟩)
  gi_loopw [3] (fun i wr => ∃ z : Int, i = .int .i64 z ∧ -1 ≤ z ∧ z < l.length ∧ Hid (SetAt wr p A c room l) ∧ Hid (wr.cell? ⟨bs, 0, none⟩ = some (.pointer (some ⟨p, 0, none⟩))) ∧ Hid (J (l.drop (z + 1).toNat).reverse wr)) (fun i wr => (intOf i + 1).toNat)
  case atStart => exact ⟨_, rfl, by omega, by omega, HS.out, hbs, by show J _ _; rw [show (((l.length : Nat) : Int) - 1 + 1).toNat = l.length by omega, List.drop_length]; exact h0⟩
  case round =>
    obtain ⟨z, rfl, hz1, hz2, S1, hb1, J1⟩ := hrel
    by_cases hz : 0 ≤ z
    · obtain ⟨k, rfl⟩ : ∃ k : Nat, z = (k : Int) := ⟨z.toNat, by omega⟩
      have hk : k < l.length := by omega
      obtain ⟨g, rfl, hg⟩ := S1.out.row.some_ (by omega)
      have c1 := S1.out.row.lo hk
      have c2 := S1.out.row.hi hk
      have d1 := S1.out.list_
      have hb := hb1.out
      have hcap := S1.out.row.cap
      unfold maxLen at hcap
      have hJ := J1.out
      rw [show ((k : Int) + 1).toNat = k + 1 by omega] at hJ
      obtain ⟨fn, tmps, assign, body, hy, hR⟩ := HY.out (l.drop (k + 1)).reverse (at_ l k) wr hJ (by simp; omega) (at_mem hk)
      have HR := Lib.hid hR
      have hrd := Lib.hid (rev_drop hk)
      clear hJ hR
      generalize at_ l k = x at *
      generalize hxa : x.1 = a at *
      generalize hxb : x.2 = b at *
      have hab : Hid (x.1 = a ∧ x.2 = b) := ⟨hxa, hxb⟩
      clear hxa hxb
      gi_wp2
      refine HR.out.mono ?_
      rintro e W3 (⟨rfl, hJ3, hk3⟩ | ⟨rfl, hJx3⟩)
      · have S3 := Lib.hid (S1.out.below HF.out hk3.1)
        have b3 : W3.cell? ⟨bs, 0, none⟩ = some (.pointer (some ⟨p, 0, none⟩)) := (World.cell?_of_block (a := ⟨bs, 0, none⟩) hk3.2).trans hb
        have HJ := Lib.hid hJ3
        have hw1 : IntKind.i64.wrap ((k : Int) - 1) = (k : Int) - 1 := IntWalk.i64_in _ (by omega)
        clear hJ3 hk3 hb c1 c2 d1
        gi_wp2
        go_roundw
        case rel => exact ⟨_, rfl, by omega, by omega, S3.out, b3, by show J _ _; rw [show ((k : Int) - 1 + 1).toNat = k by omega, ← hrd.out]; exact HJ.out⟩
        case measure => first | (simp [intOf]; done) | (simp [intOf]; omega)
      · have HJ := Lib.hid hJx3
        clear hJx3
        gi_wp2
        refine bodyPost_ret (results_none rfl _ _ _) rfl ?_
        exact ⟨⟨_, rfl⟩, .inr ⟨_, trivial, HJ.out⟩⟩
    · obtain rfl : z = -1 := by omega
      have hJ : Hid (J l.reverse wr) := by show J _ _; have := J1.out; simpa using this
      clear J1
      gi_wp2
      go_end0
      exact ⟨⟨_, rfl⟩, .inl (by first | exact hJ.out | exact ⟨_, rfl, hJ.out⟩)⟩

end Go.Proofs.Ytabchdolafplnaa.Spn
