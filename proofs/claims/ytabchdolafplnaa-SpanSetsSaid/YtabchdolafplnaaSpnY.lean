/-
  Contract of Count.
-/
import Derived.Test.YtabchdolafplnaaSpnX
namespace Go.Proofs.Ytabchdolafplnaa.Spn
open Go.RowKit SpnM Wd
attribute [local go_sem] Oper.semAt_some
set_option linter.unusedVariables false
set_option linter.unusedSimpArgs false

set_option maxRecDepth 100000 in
set_option maxHeartbeats 4000000 in
theorem count_in (n : Nat) (hn : 3 ≤ n) (p c room : Nat) (A : Option Addr) (l : List R) (w : World) (hS : SetAt w p A c room l) :
    CallsIn Fence.wide n Try.prog 27 #[.pointer (some ⟨p, 0, none⟩)] w fun e W' => e = .returned (.int .i64 (cnt l)) ∧ Below w.heap.size w W' := by
  have h1 : 1 ≤ n := by omega
  have hfoot := Lib.hid hS.foot
  have hfit := hS.fits
  have hroom := hS.room1
  have HS := Lib.hid hS
  clear hS
  have hfn : Fence.wide.fn 47 := trivial
  have hfall := falling_any p (w.alloc (.cells #[.int .i64 0] 3))
  refine callsIn_of_wp_marks Try.func27 rfl trivial ?_ rfl
  simp only [Try.ntmps27, List.size_toArray, List.length_cons, List.length_nil, Nat.reduceAdd, Nat.reduceSub, Array.replicate_succ, Array.replicate_zero, List.push_toArray, List.append_toArray, List.nil_append, List.cons_append]
  gi_wp2_with (gi_at_call 47; refine (callsIn_wide.2 hfall).mono ?_; rintro e w' ⟨rfl, rfl⟩)
  have bC := (Boxed.new w 3 (.int .i64 0)).alloc (.cells #[.pointer (some ⟨p, 0, none⟩)] 23)
  have hB0 : Below w.heap.size w ((w.alloc (.cells #[.int .i64 0] 3)).alloc (.cells #[.pointer (some ⟨p, 0, none⟩)] 23)) := ((Below.refl _ w).alloc (Nat.le_refl _) _).alloc (by simp) _
  have k0 : Kept w ((w.alloc (.cells #[.int .i64 0] 3)).alloc (.cells #[.pointer (some ⟨p, 0, none⟩)] 23)) := hB0
  have hsz : ((w.alloc (.cells #[.int .i64 0] 3)).alloc (.cells #[.pointer (some ⟨p, 0, none⟩)] 23)).heap.size = w.heap.size + 2 := by simp
  have HSeq := Lib.hid (falling_stops2 (n - 1) (by omega) (w.heap.size + 1) w.heap.size p c room A l _ (by omega) (cell_box2 w _ (.pointer (some ⟨p, 0, none⟩)) 23) (HS.out.kept k0) hfoot.out (by omega))
  obtain ⟨W0, hW0⟩ : ∃ W0, (w.alloc (.cells #[.int .i64 0] 3)).alloc (.cells #[.pointer (some ⟨p, 0, none⟩)] 23) = W0 := ⟨_, rfl⟩
  rw [hW0] at bC hB0 hsz HSeq ⊢
  clear hW0 k0 hfall
  refine wpIn_rangeFunc_ownH rfl h1 (gf := 62) (lb := #[.pointer (some ⟨w.heap.size + 1, 0, none⟩)]) rfl trivial (enters_of Try.func62 (by kernel_rfl) rfl)
    HSeq.out kp_t (kp_b (by omega) (by omega)) (Below.refl _ _) (fun _ => rfl)
    (fun pre W => Boxed W w.heap.size 3 (.int .i64 (cntN pre)) ∧ (Below w.heap.size w W ∧ w.heap.size + 2 ≤ W.heap.size))
    (fun _ _ _ => False)
    (OwnFrom.and (Own.from (boxed_own _ _ _) _) (OwnFrom.and (ownFrom_below (Nat.le_refl _) (by omega)) (fun _ X Y row hs hg hr => Nat.le_trans hs hg.size)))
    (fun _ _ _ _ _ hs _ _ => hs)
    ⟨bC, hB0, by omega⟩
    (fun x a' W => ∃ Bx, w.heap.size + 1 < Bx ∧ Two W Bx x.1 ∧ a' = { tmps := #[.pointer (some ⟨p, 0, none⟩), undef, .int .i64 0, .pointer (some ⟨w.heap.size, 0, none⟩), .pointer (some ⟨Bx, 0, none⟩), .pointer (some ⟨p, 0, none⟩), .func (.func 62) #[] #[.pointer (some ⟨w.heap.size + 1, 0, none⟩)], .agg #[.int .i64 x.1.1, .int .i64 x.1.2], undef, undef, undef, undef, undef, undef, undef, undef, undef], defers := [] })
    (fun x a' _ X Y row hs hg hr => by obtain ⟨Bx, g1, g2, g3⟩ := hs; exact ⟨Bx, g1, two_own Bx x.1 () X Y row g2 hg (fun r e => (hr r e).2), g3⟩)
    ?assign ?body ?done ?stop
  case assign =>
    rintro ly pre x W K ⟨hv, hB1, hs1⟩ hK
    simp only [encn]
    gi_wp2
    exact hK _ _ ((KeepsOthers.alloc _ _).from _) ⟨(Below.refl _ W).alloc hB1.size _, Below.heap_alloc _ _ _ (by omega)⟩ ⟨hv.alloc _, hB1.alloc hB1.size _, by simp; omega⟩ ⟨W.heap.size, by omega, Blk.new W _ _, rfl⟩
  case body =>
    rintro ly pre x a' W hl ⟨r, hr⟩ ⟨hv, hB1, hs1⟩ ⟨Bx, hBx, bX, rfl⟩ hlt
    have hc := hv.cell
    have hfz := hv.frozen
    have hx0 : W.cell? ⟨Bx, 0, none⟩ = some (.int .i64 x.1.1) := bX.cell 0
    have hx1 : W.cell? ⟨Bx, 1, none⟩ = some (.int .i64 x.1.2) := bX.cell 1
    have hxb := x.2
    unfold M at hxb
    have hcb := cntN_bd pre
    have HSn := Lib.hid (cntN_snoc pre x)
    have HV := Lib.hid hv
    have HB1 := Lib.hid hB1
    clear hv hB1 bX
    generalize cntN pre = t at *
    generalize x.1.1 = a at *
    generalize x.1.2 = b at *
    gi_wp2
    exact ⟨(KeepsOthers.setCell _ _ _).from _, ⟨(Below.refl _ W).setCell (p := ⟨w.heap.size, 0, none⟩) (Nat.le_refl _) _, Below.heap_setCell _ _ _ _ (by simp)⟩, by rw [HSn.out]; exact HV.out.set _, HB1.out.setCell (p := ⟨w.heap.size, 0, none⟩) (Nat.le_refl _) _, by simp; omega⟩
  case done =>
    rintro D ys W hD hys ⟨hv, hB1, hs1⟩ hK
    have hc := hv.cell
    have HE := Lib.hid (cntN_eq hys)
    have HB1 := Lib.hid hB1
    have HK := Lib.hid hK
    clear hys hB1 hK
    gi_wp2
    refine ⟨by simp, .inl ⟨_, _, rfl, run_takeDeferred HK.out, ?_⟩⟩
    exact ⟨_, results_tmp (t := 2) rfl _ _ _, ret_int HE.out, HB1.out.trans (belowK_b (w := w) (Nat.le_refl _) W D _ _ (by omega) HK.out rfl rfl)⟩
  case stop =>
    rintro D c pre W _ _ h _
    exact h.elim

theorem count_any (p c room : Nat) (A : Option Addr) (l : List R) (w : World) (hS : SetAt w p A c room l) :
    Calls Try.prog 27 #[.pointer (some ⟨p, 0, none⟩)] w (GInt (cnt l) w) := callsIn_wide.1 (count_in 3 (Nat.le_refl _) p c room A l w hS)

end Go.Proofs.Ytabchdolafplnaa.Spn
