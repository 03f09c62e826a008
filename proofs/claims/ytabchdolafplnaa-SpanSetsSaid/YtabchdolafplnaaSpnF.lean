/-
  Contracts of sort.Search and of first, whatever closure they are given; of the closures of Add, Cut and around.
-/
import Derived.Test.YtabchdolafplnaaSpnW
import Derived.Shelf.Abstract
import Derived.Deep.LoopGhost
namespace Go.Proofs.Ytabchdolafplnaa.Spn
open Go.RowKit SpnM Wd
set_option linter.unusedVariables false
set_option linter.unusedSimpArgs false

set_option maxHeartbeats 1000000 in
set_option maxRecDepth 100000 in
/-- sort.Search, where the closure says false below k, and true from k on: it is k. -/
theorem search_any (g : Nat) (cb : Array Value) (n k : Nat) (p : Nat → Bool) (w : World) (eg : ∀ args w, (callFunc g args).run Try.prog w = .ok (.enter g args) w) (hsz : n < 4611686018427387904)
    (hf : ∀ W, Kept w W → ∀ i : Nat, i < n → Calls Try.prog g (#[.int .i64 i] ++ cb) W (GBool (p i) W)) (hk : k ≤ n) (h1 : ∀ i, i < k → p i = false) (h2 : ∀ i, k ≤ i → i < n → p i = true) :
    Calls Try.prog 55 #[.int .i64 n, .func (.func g) #[] cb] w (GInt (k : Nat) w) := by
  have HF := Lib.hid hf
  have H1 := Lib.hid h1
  have H2 := Lib.hid h2
  clear hf h1 h2
  go_enter Try.func55, Try.ntmps55
  go_wp2
  go_loopg [5, 6] n (fun kx s5 s6 wr => ∃ lo hi : Nat, s5 = .int .i64 lo ∧ s6 = .int .i64 hi ∧ lo ≤ k ∧ k ≤ hi ∧ hi ≤ n ∧ hi - lo ≤ kx ∧ Kept w wr)
  case atStart => exact ⟨0, n, rfl, rfl, Nat.zero_le _, hk, Nat.le_refl _, by omega, Kept.refl w⟩
  case round =>
    obtain ⟨lo, hi, rfl, rfl, hlk, hkh, hin, hg, hkw⟩ := hrel
    by_cases hlt : lo < hi
    · have hc := HF.out _ hkw ((lo + hi) / 2) (by omega)
      rw [show (((lo + hi) / 2 : Nat) : Int) = ((lo : Int) + (hi : Int)) / 2 by omega] at hc
      by_cases hp : (lo + hi) / 2 < k
      · rw [H1.out _ hp] at hc
        go_wp2_with (go_at_fn g; refine hc.mono ?_; rintro e w' ⟨rfl, hkw'⟩)
        go_roundg (hi - ((lo + hi) / 2 + 1))
        case measure => omega
        case rel => exact ⟨(lo + hi) / 2 + 1, hi, by rw [show ((lo : Int) + (hi : Int)) / 2 + 1 = (((lo + hi) / 2 + 1 : Nat) : Int) by omega], rfl, by omega, hkh, hin, Nat.le_refl _, hkw.trans hkw'⟩
      · rw [H2.out _ (by omega) (by omega)] at hc
        go_wp2_with (go_at_fn g; refine hc.mono ?_; rintro e w' ⟨rfl, hkw'⟩)
        go_roundg ((lo + hi) / 2 - lo)
        case measure => omega
        case rel => exact ⟨lo, (lo + hi) / 2, rfl, by rw [show ((lo : Int) + (hi : Int)) / 2 = (((lo + hi) / 2 : Nat) : Int) by omega], hlk, by omega, by omega, Nat.le_refl _, hkw.trans hkw'⟩
    · obtain rfl : hi = lo := by omega
      obtain rfl : k = hi := by omega
      go_wp2
      go_ret
      exact ⟨rfl, hkw⟩

/-- A closure that captures one box tells of ranges what P says, in each world where what there was is kept. -/
def Tells (g x : Nat) (P : R → Bool) (w : World) : Prop := ∀ W, Kept w W → ∀ r : R, Calls Try.prog g #[.agg #[.int .i64 r.1, .int .i64 r.2], .pointer (some ⟨x, 0, none⟩)] W (GBool (P r) W)

set_option maxHeartbeats 400000 in
theorem tells_add1 (x : Nat) (lo : Int) (w : World) (h : num lo) (hx : w.cell? ⟨x, 0, none⟩ = some (.int .i64 lo)) : Tells 36 x (fun r => decide (lo - 1 ≤ r.2)) w := by
  rintro W hk ⟨a, b⟩
  have hc := hk.cell hx
  have hxl : x < W.heap.size := World.block_lt_of_cell? _ _ hc
  obtain ⟨h0, h1⟩ := h
  unfold M at h1
  clear hx hk
  go_enter Try.func36, Try.ntmps36
  go_wp2
  go_ret
  exact ⟨rfl, (Kept.refl _).alloc _⟩
set_option maxHeartbeats 400000 in
theorem tells_add2 (x : Nat) (hi : Int) (w : World) (h : num hi) (hx : w.cell? ⟨x, 0, none⟩ = some (.int .i64 hi)) : Tells 37 x (fun r => decide (hi + 1 < r.1)) w := by
  rintro W hk ⟨a, b⟩
  have hc := hk.cell hx
  have hxl : x < W.heap.size := World.block_lt_of_cell? _ _ hc
  obtain ⟨h0, h1⟩ := h
  unfold M at h1
  clear hx hk
  go_enter Try.func37, Try.ntmps37
  go_wp2
  go_ret
  exact ⟨rfl, (Kept.refl _).alloc _⟩
set_option maxHeartbeats 400000 in
theorem tells_cut (x : Nat) (b : Int) (w : World) (hx : w.cell? ⟨x, 0, none⟩ = some (.int .i64 b)) : Tells 41 x (fun r => decide (b ≤ r.2)) w := by
  rintro W hk ⟨a, d⟩
  have hc := hk.cell hx
  have hxl : x < W.heap.size := World.block_lt_of_cell? _ _ hc
  clear hx hk
  go_enter Try.func41, Try.ntmps41
  go_wp2
  go_ret
  exact ⟨rfl, (Kept.refl _).alloc _⟩
set_option maxHeartbeats 400000 in
theorem tells_around (x : Nat) (b : Int) (w : World) (hx : w.cell? ⟨x, 0, none⟩ = some (.int .i64 b)) : Tells 63 x (fun r => decide (b ≤ r.2)) w := by
  rintro W hk ⟨a, d⟩
  have hc := hk.cell hx
  have hxl : x < W.heap.size := World.block_lt_of_cell? _ _ hc
  clear hx hk
  go_enter Try.func63, Try.ntmps63
  go_wp2
  go_ret
  exact ⟨rfl, (Kept.refl _).alloc _⟩

end Go.Proofs.Ytabchdolafplnaa.Spn
