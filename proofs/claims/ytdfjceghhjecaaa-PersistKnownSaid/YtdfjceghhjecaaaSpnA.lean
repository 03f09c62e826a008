/-
  Contracts of a set that is none: nil, or a zero one.
-/
import Derived.Test.YtdfjceghhjecaaaSpnVX
import Derived.Test.YtdfjceghhjecaaaSpnFG
namespace Go.Proofs.Ytdfjceghhjecaaa.Spn
open Go.RowKit SpnM Wd
attribute [local go_sem] Oper.semAt_some
set_option linter.unusedVariables false
set_option linter.unusedSimpArgs false

/-- There is no set there. -/
def Abs (w : World) (P : Option Addr) : Prop := ∀ W, Kept w W → Calls Try.prog 35 #[.pointer P] W fun e w' => e = .returned (.bool true) ∧ W = w'
set_option maxRecDepth 100000 in
theorem abs_nil (w : World) : Abs w none := fun W _ => absent_nil W
set_option maxRecDepth 100000 in
theorem abs_zero {w : World} {p : Nat} (h : w.cell? ⟨p, 0, none⟩ = some (.int .i64 0)) : Abs w (some ⟨p, 0, none⟩) := fun W k => absent_zero p W (k.cell h)
set_option maxRecDepth 100000 in
theorem Abs.kept {w w' : World} {P : Option Addr} (h : Abs w P) (k : Kept w w') : Abs w' P := fun W k' => h W (k.trans k')

section
variable {w : World} {P : Option Addr}
set_option maxRecDepth 100000 in
theorem add0 (h : Abs w P) (lo : Int) (hi : Int) : Calls Try.prog 21 #[.pointer P, .int .i64 lo, .int .i64 hi] w fun e w' => e = .returned (.int .i64 1) ∧ Kept w w' := by
  have hk : Kept w _ := ((Kept.refl w).alloc (.cells #[.int .i64 lo] 3)).alloc (.cells #[.int .i64 hi] 3)
  have ha := Lib.hid (h _ hk)
  have HK := Lib.hid hk
  clear h hk
  go_enter Try.func21, Try.ntmps21
  go_wp2_with fail
  refine ha.out.mono ?_
  rintro e w' ⟨rfl, rfl⟩
  go_wp2_with fail
  go_ret
  exact ⟨rfl, HK.out⟩
set_option maxRecDepth 100000 in
theorem len0 (h : Abs w P) : Calls Try.prog 42 #[.pointer P] w fun e w' => e = .returned (.int .i64 0) ∧ w = w' := by
  have ha := Lib.hid (h w (Kept.refl w))
  clear h
  go_enter Try.func42, Try.ntmps42
  go_wp2_with fail
  refine ha.out.mono ?_
  rintro e w' ⟨rfl, rfl⟩
  go_wp2_with fail
  go_ret
  exact ⟨rfl, rfl⟩
set_option maxRecDepth 100000 in
theorem first0 (h : Abs w P) (g x : Nat) : Calls Try.prog 37 #[.pointer P, .func (.func g) #[] #[.pointer (some ⟨x, 0, none⟩)]] w (GInt 0 w) := by
  obtain ⟨W, hW⟩ : ∃ W, (w.alloc (.cells #[.pointer P] 27)).alloc (.cells #[.func (.func g) #[] #[.pointer (some ⟨x, 0, none⟩)]] 75) = W := ⟨_, rfl⟩
  have hk : Kept w W := by rw [← hW]; exact ((Kept.refl w).alloc _).alloc _
  have c1 : W.cell? ⟨w.heap.size, 0, none⟩ = some (.pointer P) := by rw [← hW]; exact ((Kept.refl _).alloc _).cell (cell_box w _ _)
  have hl := len0 (h.kept hk)
  have hs := search_any 61 #[.pointer (some ⟨w.heap.size + 1, 0, none⟩), .pointer (some ⟨w.heap.size, 0, none⟩)] 0 0 (fun _ => false) W
    (enters_of Try.func61 (by kernel_rfl) rfl) (by omega)
    (fun W' hk' i hi => absurd hi (by omega)) (Nat.le_refl _) (fun i hi => absurd hi (by omega)) (fun i _ hi => absurd hi (by omega))
  have HW := Lib.hid hW
  have HK := Lib.hid hk
  clear hW hk h
  go_enter Try.func37, Try.ntmps37
  go_wp2_with fail
  rw [HW.out]
  go_wp2_with fail
  refine hl.mono ?_
  rintro e w' ⟨rfl, rfl⟩
  go_wp2_with fail
  refine hs.mono ?_
  rintro e w' ⟨rfl, hk'⟩
  go_wp2_with fail
  go_ret
  exact ⟨rfl, HK.out.trans hk'⟩
set_option maxRecDepth 100000 in
set_option maxHeartbeats 1000000 in
theorem around0 (h : Abs w P) (n : Int) : Calls Try.prog 22 #[.pointer P, .int .i64 n] w (fun e w' => e = .returned (.tuple #[.agg #[.int .i64 0, .int .i64 0], .bool false]) ∧ Kept w w') := by
  obtain ⟨W, hW⟩ : ∃ W, (w.alloc (.cells #[.int .i64 n] 3)).alloc (.cells #[.int .i64 0, .int .i64 0] 49) = W := ⟨_, rfl⟩
  have hk : Kept w W := by rw [← hW]; exact ((Kept.refl w).alloc _).alloc _
  have bR : Blk W (w.heap.size + 1) 49 #[.int .i64 0, .int .i64 0] := by rw [← hW]; have := Blk.new (w.alloc (.cells #[.int .i64 n] 3)) 49 #[.int .i64 0, .int .i64 0]; rwa [World.size_alloc] at this
  have hc := first0 (h.kept hk) 41 w.heap.size
  have HA := Lib.hid (h.kept hk)
  have HW := Lib.hid hW
  have HK : Hid (Kept w W) := hk
  have HB : Hid (Blk W (w.heap.size + 1) 49 #[.int .i64 0, .int .i64 0]) := bR
  clear hW h hk bR
  go_enter Try.func22, Try.ntmps22
  go_wp2_with fail
  rw [HW.out]
  refine hc.mono ?_
  rintro e w1 ⟨rfl, hk1⟩
  clear hc
  have HL := Lib.hid (fun q => len0 ((HA.out.kept hk1).kept ((Kept.refl w1).drewN q)))
  have dB := HB.out.kept hk1
  have e0 : w1.cell? ⟨w.heap.size + 1, 0, none⟩ = some (.int .i64 0) := dB.cell 0
  have e1 : w1.cell? ⟨w.heap.size + 1, 1, none⟩ = some (.int .i64 0) := dB.cell 1
  have f0 := dB.frozen 0
  have f1 := dB.frozen 1
  have hbl := dB.lt
  have HK1 : Hid (Kept w w1) := HK.out.trans hk1
  clear HW HK HB hk1 dB
  go_wp2_with fail
  go_quiet ((go_at_call 42; exact quiet_same (HL.out _)))
  go_wp2
  exact bodyPost_ret (v := .tuple #[.agg #[.int .i64 0, .int .i64 0], .bool false]) (by simp [results, Try.results22, go_sem, e0, e1]) rfl
    ⟨rfl, ((HK1.out.drewN nq).setCell (p := ⟨w.heap.size + 1, 0, none⟩) (by simp) _).setCell (p := ⟨w.heap.size + 1, 1, none⟩) (by simp) _⟩
set_option maxRecDepth 100000 in
theorem has0 (h : Abs w P) (n : Int) : Calls Try.prog 12 #[.pointer P, .int .i64 n] w (fun e w' => e = .returned (.bool false) ∧ Kept w w') := by
  have ha := Lib.hid (around0 h n)
  clear h
  go_enter Try.func12, Try.ntmps12
  go_wp2_with fail
  refine ha.out.mono ?_
  rintro e w' ⟨rfl, hk⟩
  go_wp2_with fail
  go_ret
  exact ⟨rfl, hk.alloc _⟩

set_option maxRecDepth 100000 in
set_option maxHeartbeats 2000000 in
theorem falling0_in (n : Nat) (hn : 1 ≤ n) (ly bs : Nat) (W : World) (hbs : W.cell? ⟨bs, 0, none⟩ = some (.pointer P)) (hA : Abs W P) :
    CallsIn Fence.wide n Try.prog 67 #[.func (.yield ly) #[] #[], .pointer (some ⟨bs, 0, none⟩)] W fun e W' => (∃ v, e = .returned v) ∧ W = W' := by
  have hl := len0 hA
  clear hA
  have hfn : Fence.wide.fn 42 := trivial
  refine callsIn_of_wp Try.func67 rfl trivial ?_ rfl
  simp only [Try.ntmps67, List.size_toArray, List.length_cons, List.length_nil, Nat.reduceAdd, Nat.reduceSub, Array.replicate_succ, Array.replicate_zero, List.push_toArray, List.append_toArray, List.nil_append, List.cons_append]
  gi_wp2_with (gi_at_call 42; refine (callsIn_wide.2 hl).mono ?_; rintro e w' ⟨rfl, rfl⟩)
  gi_loopw [3] (fun i wr => i = .int .i64 (-1) ∧ wr = W) (fun i wr => 0)
  case atStart => exact ⟨rfl, rfl⟩
  case round =>
    obtain ⟨rfl, rfl⟩ := hrel
    gi_wp2
    go_end0
    exact ⟨⟨_, rfl⟩, rfl⟩
set_option maxRecDepth 100000 in
theorem falling_stops0 {α : Type} (en : α → Array Value) (n : Nat) (hn : 1 ≤ n) (bs n₀ : Nat) (w : World) (hb : bs < w.heap.size) (hbs : w.cell? ⟨bs, 0, none⟩ = some (.pointer P)) (hA : Abs w P) :
    SeqStopsK Fence.wide n Try.prog 67 #[.pointer (some ⟨bs, 0, none⟩)] en (Kp n₀ bs) (fun ys => ys = []) (fun _ => True) 0 w := fun ly J Jx W hW hJ hJx hY h0 =>
  (falling0_in n hn ly bs W ((hW.cell (p := ⟨bs, 0, none⟩) hb).trans hbs) (hA.kept hW)).mono fun e W' h => by
    obtain ⟨h1, rfl⟩ := h
    exact ⟨h1, .inl ⟨[], rfl, h0⟩⟩
set_option maxRecDepth 100000 in
theorem falling_any0 (w : World) : Calls Try.prog 48 #[.pointer P] w fun e w' => e = .returned (.func (.func 67) #[] #[.pointer (some ⟨w.heap.size, 0, none⟩)]) ∧ w' = w.alloc (.cells #[.pointer P] 27) := by
  go_enter Try.func48, Try.ntmps48
  go_wp2
  go_ret
  exact ⟨rfl, rfl⟩
set_option maxRecDepth 100000 in
set_option maxHeartbeats 4000000 in
theorem appendSeq0_in (n : Nat) (hn : 3 ≤ n) (bs : Nat) (w : World) (hbs : w.cell? ⟨bs, 0, none⟩ = some (.pointer P)) (hS : Abs w P) :
    CallsIn Fence.wide n Try.prog 66 #[.slice none 0 0, .func (.func 67) #[] #[.pointer (some ⟨bs, 0, none⟩)]] w
      fun e W' => ∃ v, e = .returned v ∧ W'.ownsRow w.heap.size 49 2 v 0 (flat []) ∧ Below w.heap.size w W' := by
  have h1 : 1 ≤ n := by omega
  have hb : bs < w.heap.size := World.block_lt_of_cell? _ _ hbs
  obtain ⟨i0, hi, hz0, hz1, hz2⟩ := info_parts info_range
  have HS := Lib.hid hS
  have HBS := Lib.hid hbs
  clear hS hbs
  refine callsIn_of_wp_marks Try.func66 rfl trivial ?_ rfl
  simp only [Try.ntmps66, List.size_toArray, List.length_cons, List.length_nil, Nat.reduceAdd, Nat.reduceSub, Array.replicate_succ, Array.replicate_zero, List.push_toArray, List.append_toArray, List.nil_append, List.cons_append]
  gi_wp2
  have bO := Boxed.new w 50 (.slice none 0 0)
  have hB0 : Below w.heap.size w (w.alloc (.cells #[.slice none 0 0] 50)) := (Below.refl _ w).alloc (Nat.le_refl _) _
  have k0 : Kept w (w.alloc (.cells #[.slice none 0 0] 50)) := (Kept.refl w).alloc _
  have hsz : (w.alloc (.cells #[.slice none 0 0] 50)).heap.size = w.heap.size + 1 := by simp
  have HSeq := Lib.hid (falling_stops0 encs (n - 1) (by omega) bs w.heap.size _ (by omega) (k0.cell HBS.out) (HS.out.kept k0))
  obtain ⟨W0, hW0⟩ : ∃ W0, w.alloc (.cells #[.slice none 0 0] 50) = W0 := ⟨_, rfl⟩
  rw [hW0] at bO hB0 hsz HSeq ⊢
  clear hW0 k0
  refine wpIn_rangeFunc_ownH rfl h1 (gf := 67) (lb := #[.pointer (some ⟨bs, 0, none⟩)]) rfl trivial (enters_of Try.func67 (by kernel_rfl) rfl)
    HSeq.out kp_t (kp_b (by omega) (by omega)) (Below.refl _ _) (fun _ => rfl)
    (fun pre W => (∃ v, Boxed W w.heap.size 50 v ∧ W.ownsRow w.heap.size 49 2 v pre.length (flat pre) ∧ True) ∧ Below w.heap.size w W)
    (fun _ _ _ => False)
    (OwnFrom.and (Own.from (holdsRow_own w.heap.size w.heap.size 50 49 2 (fun pre => pre.length) (fun pre => flat pre) (fun _ _ => True)) _) (ownFrom_below (Nat.le_refl _) (by omega)))
    (fun _ _ _ _ _ hs _ _ => hs)
    ⟨⟨_, bO, World.ownsRow_nil _ _ _ _, trivial⟩, hB0⟩
    (fun x a' W => ∃ Bx, w.heap.size < Bx ∧ Two W Bx x ∧ a' = { tmps := #[.slice none 0 0, .func (.func 67) #[] #[.pointer (some ⟨bs, 0, none⟩)], .pointer (some ⟨w.heap.size, 0, none⟩), undef, .slice none 0 0, .pointer (some ⟨Bx, 0, none⟩), .func (.func 67) #[] #[.pointer (some ⟨bs, 0, none⟩)], .agg #[.int .i64 x.1, .int .i64 x.2], undef, undef, undef, undef, undef], defers := [] })
    (fun x a' _ X Y row hs hg hr => by obtain ⟨Bx, g1, g2, g3⟩ := hs; exact ⟨Bx, g1, two_own Bx x () X Y row g2 hg (fun r e => (hr r e).2), g3⟩)
    ?assign ?body ?done ?stop
  case assign =>
    rintro ly pre x W K ⟨⟨v, hv, hrow, _⟩, hB1⟩ hK
    simp only [encs]
    gi_wp2
    exact hK _ _ ((KeepsOthers.alloc _ _).from _) (kp_below ((Below.refl _ W).alloc hB1.size _) hb (Nat.le_refl _)) ⟨⟨v, hv.alloc _, hrow.alloc _, trivial⟩, hB1.alloc hB1.size _⟩ ⟨W.heap.size, hv.lt, Blk.new W _ _, rfl⟩
  case body =>
    rintro ly pre x a' W hl ⟨r, hr⟩ ⟨⟨v, hv, hrow, _⟩, hB1⟩ ⟨Bx, hBx, bX, rfl⟩ hlt
    first | exact absurd hlt (by omega) | (have h2 := congrArg List.length hr; simp at h2) | omega
  case done =>
    rintro D ys W hD rfl ⟨⟨v, hv, hrow, _⟩, hB1⟩ hK
    have hc := hv.cell
    have HR := Lib.hid hrow
    have HB1 := Lib.hid hB1
    have HK := Lib.hid hK
    clear hrow hB1 hK
    gi_wp2
    refine ⟨by simp, .inl ⟨_, _, rfl, run_takeDeferred HK.out, ?_⟩⟩
    exact ⟨_, results_tmp rfl _ _ _, v, rfl, ownsRow_putObj HR.out _ HK.out rfl, HB1.out.trans (belowK_b (w := w) (Nat.le_refl _) W D _ _ (by omega) HK.out rfl rfl)⟩
  case stop =>
    rintro D c pre W _ _ h _
    exact h.elim

set_option maxRecDepth 100000 in
set_option maxHeartbeats 1000000 in
theorem collect0 (bs : Nat) (w : World) (hbs : w.cell? ⟨bs, 0, none⟩ = some (.pointer P)) (hS : Abs w P) :
    Calls Try.prog 47 #[.func (.func 67) #[] #[.pointer (some ⟨bs, 0, none⟩)]] w
      fun e W' => ∃ v, e = .returned v ∧ W'.ownsRow w.heap.size 49 2 v 0 (flat []) ∧ Below w.heap.size w W' := by
  have hc := Lib.hid (callsIn_wide.1 (appendSeq0_in 3 (Nat.le_refl _) bs w hbs hS))
  clear hbs hS
  go_enter Try.func47, Try.ntmps47
  go_wp2_with (go_at_call 66; refine hc.out.mono ?_; rintro e w' ⟨v, rfl, h1, h2⟩; have H1 := Lib.hid h1; have H2 := Lib.hid h2; clear h1 h2)
  go_ret
  exact ⟨v, rfl, H1.out, H2.out⟩

set_option maxRecDepth 100000 in
set_option maxHeartbeats 1000000 in
theorem ranges0 (w : World) (hS : Abs w P) :
    Calls Try.prog 28 #[.pointer P] w (Gives [] w) := by
  have hfall := falling_any0 (P := P) w
  have k0 : Kept w (w.alloc (.cells #[.pointer P] 27)) := (Kept.refl w).alloc _
  have hc := Lib.hid (collect0 w.heap.size _ (cell_box w (.pointer P) 27) (hS.kept k0))
  have K0 := Lib.hid k0
  clear hS k0
  go_enter Try.func28, Try.ntmps28
  go_wp2_with (first
    | (go_at_call 48; refine hfall.mono ?_; rintro e w' ⟨rfl, rfl⟩)
    | (go_at_call 47; refine hc.out.mono ?_; rintro e w' ⟨v, rfl, h1, h2⟩; have H1 := Lib.hid h1; have H2 := Lib.hid h2; clear h1 h2))
  go_ret
  obtain ⟨A', c', rfl, hrow, hfr⟩ := Row.of_own H1.out rfl
  exact ⟨A', c', rfl, hrow, K0.out.trans H2.out, fun k e => Nat.le_trans K0.out.size (hfr k e)⟩

end
end Go.Proofs.Ytdfjceghhjecaaa.Spn
