/-
  Contracts of sort.Search and of first, whatever closure they are given; of the closures of Add, Cut and around.
-/
import Derived.Test.YtdfjceghhjecaaaSpnW
import Derived.Shelf.Abstract
import Derived.Deep.LoopGhost
import Derived.Deep.Cut
import Derived.Deep.CutRange
namespace Go.Proofs.Ytdfjceghhjecaaa.Spn
open Go.RowKit SpnM Wd
set_option linter.unusedVariables false
set_option linter.unusedSimpArgs false

set_option maxHeartbeats 1000000 in
set_option maxRecDepth 100000 in
/-- sort.Search, where the closure says false below k, and true from k on: it is k. -/
theorem search_any (g : Nat) (cb : Array Value) (n k : Nat) (p : Nat → Bool) (w : World) (eg : ∀ args w, (callFunc g args).run Try.prog w = .ok (.enter g args) w) (hsz : n < 4611686018427387904)
    (hf : ∀ W, Kept w W → ∀ i : Nat, i < n → Calls Try.prog g (#[.int .i64 i] ++ cb) W (GBool (p i) W)) (hk : k ≤ n) (h1 : ∀ i, i < k → p i = false) (h2 : ∀ i, k ≤ i → i < n → p i = true) :
    Calls Try.prog 60 #[.int .i64 n, .func (.func g) #[] cb] w (GInt (k : Nat) w) := by
  have HF := Lib.hid hf
  have H1 := Lib.hid h1
  have H2 := Lib.hid h2
  clear hf h1 h2
  go_enter Try.func60, Try.ntmps60
  go_wp2
  go_loopg [5, 6] n (fun kx s5 s6 wr => ∃ lo hi : Nat, s5 = .int .i64 lo ∧ s6 = .int .i64 hi ∧ lo ≤ k ∧ k ≤ hi ∧ hi ≤ n ∧ hi - lo ≤ kx ∧ Kept w wr)
  case atStart => exact ⟨0, n, rfl, rfl, Nat.zero_le _, hk, Nat.le_refl _, by omega, Kept.refl w⟩
  case round =>
    obtain ⟨lo, hi, rfl, rfl, hlk, hkh, hin, hg, hkw⟩ := hrel
    by_cases hlt : lo < hi
    · have hc := HF.out _ hkw ((lo + hi) / 2) (by omega)
      rw [show (((lo + hi) / 2 : Nat) : Int) = ((lo : Int) + (hi : Int)) / 2 by omega] at hc
      by_cases hp : (lo + hi) / 2 < k
      · rw [H1.out _ hp] at hc
        go_wp2_with (go_at_fn g; refine hc.mono ?_; rintro e w' ⟨rfl, hkw'⟩)
        go_roundg (hi - ((lo + hi) / 2 + 1))
        case measure => omega
        case rel => exact ⟨(lo + hi) / 2 + 1, hi, by rw [show ((lo : Int) + (hi : Int)) / 2 + 1 = (((lo + hi) / 2 + 1 : Nat) : Int) by omega], rfl, by omega, hkh, hin, Nat.le_refl _, hkw.trans hkw'⟩
      · rw [H2.out _ (by omega) (by omega)] at hc
        go_wp2_with (go_at_fn g; refine hc.mono ?_; rintro e w' ⟨rfl, hkw'⟩)
        go_roundg ((lo + hi) / 2 - lo)
        case measure => omega
        case rel => exact ⟨lo, (lo + hi) / 2, rfl, by rw [show ((lo : Int) + (hi : Int)) / 2 = (((lo + hi) / 2 : Nat) : Int) by omega], hlk, by omega, by omega, Nat.le_refl _, hkw.trans hkw'⟩
    · obtain rfl : hi = lo := by omega
      obtain rfl : k = hi := by omega
      go_wp2
      go_ret
      exact ⟨rfl, hkw⟩

/-- A closure that captures one box tells of ranges what P says, in each world where what there was is kept. -/
def Tells (g x : Nat) (P : R → Bool) (w : World) : Prop := ∀ W, Kept w W → ∀ r : R, Calls Try.prog g #[.agg #[.int .i64 r.1, .int .i64 r.2], .pointer (some ⟨x, 0, none⟩)] W (GBool (P r) W)

set_option maxRecDepth 100000 in
set_option maxHeartbeats 400000 in
theorem tells_add1 (x : Nat) (lo : Int) (w : World) (h : num lo) (hx : w.cell? ⟨x, 0, none⟩ = some (.int .i64 lo)) : Tells 38 x (fun r => decide (lo - 1 ≤ r.2)) w := by
  rintro W hk ⟨a, b⟩
  have hc := hk.cell hx
  have hxl : x < W.heap.size := World.block_lt_of_cell? _ _ hc
  obtain ⟨h0, h1⟩ := h
  unfold M at h1
  clear hx hk
  go_enter Try.func38, Try.ntmps38
  go_wp2
  go_ret
  exact ⟨rfl, (Kept.refl _).alloc _⟩
set_option maxRecDepth 100000 in
set_option maxHeartbeats 400000 in
theorem tells_add2 (x : Nat) (hi : Int) (w : World) (h : num hi) (hx : w.cell? ⟨x, 0, none⟩ = some (.int .i64 hi)) : Tells 39 x (fun r => decide (hi + 1 < r.1)) w := by
  rintro W hk ⟨a, b⟩
  have hc := hk.cell hx
  have hxl : x < W.heap.size := World.block_lt_of_cell? _ _ hc
  obtain ⟨h0, h1⟩ := h
  unfold M at h1
  clear hx hk
  go_enter Try.func39, Try.ntmps39
  go_wp2
  go_ret
  exact ⟨rfl, (Kept.refl _).alloc _⟩
set_option maxRecDepth 100000 in
set_option maxHeartbeats 400000 in
theorem tells_around (x : Nat) (b : Int) (w : World) (hx : w.cell? ⟨x, 0, none⟩ = some (.int .i64 b)) : Tells 41 x (fun r => decide (b ≤ r.2)) w := by
  rintro W hk ⟨a, d⟩
  have hc := hk.cell hx
  have hxl : x < W.heap.size := World.block_lt_of_cell? _ _ hc
  clear hx hk
  go_enter Try.func41, Try.ntmps41
  go_wp2
  go_ret
  exact ⟨rfl, (Kept.refl _).alloc _⟩

end Go.Proofs.Ytdfjceghhjecaaa.Spn

/-
  Contracts of first and of the small functions that look at a set: around, Has, Next, Min, Max.
-/
namespace Go.Proofs.Ytdfjceghhjecaaa.Spn
open Go.RowKit SpnM Wd
set_option linter.unusedVariables false
set_option linter.unusedSimpArgs false

set_option maxRecDepth 100000 in
theorem tells_enter {g : Nat} {args : Array Value} {w : World} {Q : Ending → World → Prop} (h : Calls Try.prog g args w Q) : Calls Try.prog g args w Q := h

set_option maxHeartbeats 1000000 in
set_option maxRecDepth 100000 in
/-- first's own closure at a place: what the closure that was handed in says of the range there. -/
theorem first1_any (g x bf bs p c room i : Nat) (P : R → Bool) (A : Option Addr) (l : List R) (w : World) (eg : ∀ args w, (callFunc g args).run Try.prog w = .ok (.enter g args) w)
    (hf : w.cell? ⟨bf, 0, none⟩ = some (.func (.func g) #[] #[.pointer (some ⟨x, 0, none⟩)])) (hs : w.cell? ⟨bs, 0, none⟩ = some (.pointer (some ⟨p, 0, none⟩)))
    (h : SetAt w p A c room l) (hi : i < l.length) (ht : Tells g x P w) :
    Calls Try.prog 61 #[.int .i64 i, .pointer (some ⟨bf, 0, none⟩), .pointer (some ⟨bs, 0, none⟩)] w (GBool (P (at_ l i)) w) := by
  obtain ⟨gb, rfl, hgb⟩ := h.row.some_ (by omega)
  have h0 := h.list_
  have h1 := h.row.lo hi
  have h2 := h.row.hi hi
  have hlen := Lib.hid h.row.len
  have hcap := h.row.cap
  unfold maxLen at hcap
  have ht' := Lib.hid (ht w.drew ((Kept.refl w).drew) (at_ l i))
  obtain ⟨hi1, hi2⟩ : (0 : Int) ≤ (i : Int) ∧ (i : Int) < ((l.length : Nat) : Int) := ⟨by omega, by omega⟩
  clear h ht
  generalize at_ l i = r at *
  obtain ⟨a, b⟩ := r
  generalize l.length = n at *
  go_enter Try.func61, Try.ntmps61
  go_wp2
  go_region_held3 (fun w' => w'.cell? ⟨bf, 0, none⟩ = some (.func (.func g) #[] #[.pointer (some ⟨x, 0, none⟩)]) ∧ w'.cell? ⟨bs, 0, none⟩ = some (.pointer (some ⟨p, 0, none⟩)) ∧ w'.cell? ⟨p, 1, none⟩ = some (.slice (some ⟨gb, 0, none⟩) n c) ∧ w'.cell? ⟨gb, i * 2, none⟩ = some (.int .i64 a) ∧ w'.cell? ⟨gb, i * 2 + 1, none⟩ = some (.int .i64 b))
    (first | exact ⟨hf, hs, h0, h1, h2⟩ | exact ⟨hk.cell hf, hk.cell hs, hk.cell h0, hk.cell h1, hk.cell h2⟩)
    ((go_at_fn g; refine ht'.out.mono ?_; rintro e w' ⟨rfl, hk⟩))
  go_wp2
  go_ret
  exact ⟨rfl, ((Kept.refl w).drew).trans hk⟩

set_option maxHeartbeats 1000000 in
set_option maxRecDepth 100000 in
/-- first: the first place at which the closure says yes. -/
theorem first_any (g x p c room : Nat) (P : R → Bool) (A : Option Addr) (l : List R) (w : World) (eg : ∀ args w, (callFunc g args).run Try.prog w = .ok (.enter g args) w)
    (h : SetAt w p A c room l) (ht : Tells g x P w) (hm : ∀ i, l.findIdx P ≤ i → i < l.length → P (at_ l i) = true) :
    Calls Try.prog 37 #[.pointer (some ⟨p, 0, none⟩), .func (.func g) #[] #[.pointer (some ⟨x, 0, none⟩)]] w (GInt (l.findIdx P : Nat) w) := by
  have hplt := h.lt
  obtain ⟨W, hW⟩ : ∃ W, (w.alloc (.cells #[.pointer (some ⟨p, 0, none⟩)] 27)).alloc (.cells #[.func (.func g) #[] #[.pointer (some ⟨x, 0, none⟩)]] 75) = W := ⟨_, rfl⟩
  have hk : Kept w W := by rw [← hW]; exact ((Kept.refl w).alloc _).alloc _
  have c1 : W.cell? ⟨w.heap.size, 0, none⟩ = some (.pointer (some ⟨p, 0, none⟩)) := by rw [← hW]; exact ((Kept.refl _).alloc _).cell (cell_box w _ _)
  have c2 : W.cell? ⟨w.heap.size + 1, 0, none⟩ = some (.func (.func g) #[] #[.pointer (some ⟨x, 0, none⟩)]) := by rw [← hW]; exact cell_box2 w _ _ _
  have hl := len_set p c room A l W (h.kept hk)
  have hlen : l.length < 4611686018427387904 := by have := h.fits; have := h.room1; omega
  have hs := search_any 61 #[.pointer (some ⟨w.heap.size + 1, 0, none⟩), .pointer (some ⟨w.heap.size, 0, none⟩)] l.length (l.findIdx P) (fun i => P (at_ l i)) W
    (enters_of Try.func61 (by kernel_rfl) rfl) hlen
    (fun W' hk' i hi => first1_any g x _ _ p c room i P A l W' eg (hk'.cell c2) (hk'.cell c1) ((h.kept hk).kept hk') hi (fun W2 hk2 r => ht W2 ((hk.trans hk').trans hk2) r)) (find_le _ _) (fun i hi => find_lt hi) hm
  have HW := Lib.hid hW
  have HK := Lib.hid hk
  clear hW hk h ht hm c2
  generalize l.findIdx P = k at *
  generalize l.length = n at *
  go_enter Try.func37, Try.ntmps37
  go_wp2_with fail
  rw [HW.out]
  go_wp2_with fail
  refine hl.mono ?_
  rintro e w' ⟨rfl, rfl⟩
  go_wp2_with fail
  refine hs.mono ?_
  rintro e w' ⟨rfl, hk'⟩
  go_wp2_with fail
  go_ret
  exact ⟨rfl, HK.out.trans hk'⟩

/-- What around hands back. -/
def Around (l : List R) (n : Int) (w : World) (e : Ending) (w' : World) : Prop := e = .returned (.tuple #[.agg #[.int .i64 (rng l n).1, .int .i64 (rng l n).2], .bool (has l n)]) ∧ Kept w w'
set_option maxRecDepth 100000 in
theorem around_yes {l : List R} {n a b : Int} {w w' : World} (h : has l n = true) (hr : rng l n = (a, b)) (hk : Kept w w') : Around l n w (.returned (.tuple #[.agg #[.int .i64 a, .int .i64 b], .bool true])) w' := ⟨by rw [h, hr], hk⟩
set_option maxRecDepth 100000 in
theorem around_no {l : List R} {n : Int} {w w' : World} (h : has l n = false) (hk : Kept w w') : Around l n w (.returned (.tuple #[.agg #[.int .i64 0, .int .i64 0], .bool false])) w' := ⟨by unfold rng; rw [h]; rfl, hk⟩

set_option maxHeartbeats 2000000 in
set_option maxRecDepth 100000 in
theorem around_any (p c room : Nat) (A : Option Addr) (l : List R) (n : Int) (w : World) (h : SetAt w p A c room l) :
    Calls Try.prog 22 #[.pointer (some ⟨p, 0, none⟩), .int .i64 n] w (Around l n w) := by
  obtain ⟨W, hW⟩ : ∃ W, (w.alloc (.cells #[.int .i64 n] 3)).alloc (.cells #[.int .i64 0, .int .i64 0] 49) = W := ⟨_, rfl⟩
  have hk : Kept w W := by rw [← hW]; exact ((Kept.refl w).alloc _).alloc _
  have c1 : W.cell? ⟨w.heap.size, 0, none⟩ = some (.int .i64 n) := by rw [← hW]; exact ((Kept.refl _).alloc _).cell (cell_box w _ _)
  have bR : Blk W (w.heap.size + 1) 49 #[.int .i64 0, .int .i64 0] := by rw [← hW]; have := Blk.new (w.alloc (.cells #[.int .i64 n] 3)) 49 #[.int .i64 0, .int .i64 0]; rwa [World.size_alloc] at this
  have hplt := h.lt
  have hc := first_any 41 w.heap.size p c room (fun r => decide (n ≤ r.2)) A l W (enters_of Try.func41 (by kernel_rfl) rfl) (h.kept hk) (tells_around w.heap.size n W c1)
    (fun i h1 h2 => by have := keep_ge h.good h1 h2; exact decide_eq_true this)
  have HW := Lib.hid hW
  have hcell : ∀ W', Kept W W' → ∃ w1, w1 = W' := fun W' _ => ⟨W', rfl⟩
  have hat := has_at h.good n
  have hkl := keep_le l n
  have hyes : has l n = true → rng l n = at_ l (keep_ l n) := fun h1 => (rng_of h.good h1).2.1
  have H : Hid (SetAt W p A c room l) := h.kept hk
  have HK : Hid (Kept w W) := hk
  have HB : Hid (Blk W (w.heap.size + 1) 49 #[.int .i64 0, .int .i64 0]) := bR
  have HC : Hid (W.cell? ⟨w.heap.size, 0, none⟩ = some (.int .i64 n)) := c1
  have hfit := h.fits
  have hroom := h.room1
  clear hW h hk bR c1 hcell
  change Calls _ _ _ W (GInt (keep_ l n : Nat) W) at hc
  have HY := Lib.hid hyes
  have HA := Lib.hid hat
  clear hyes hat
  go_enter Try.func22, Try.ntmps22
  go_wp2_with fail
  rw [HW.out]
  refine hc.mono ?_
  rintro e w1 ⟨rfl, hk1⟩
  clear hc
  have HS : Hid (SetAt w1 p A c room l) := H.out.kept hk1
  have HL := Lib.hid (fun q => len_set p c room A l (w1.drewN q) (HS.out.kept ((Kept.refl w1).drewN q)))
  have d1 := HS.out.list_
  have d2 := hk1.cell HC.out
  have dB := HB.out.kept hk1
  have e0 : w1.cell? ⟨w.heap.size + 1, 0, none⟩ = some (.int .i64 0) := dB.cell 0
  have e1 : w1.cell? ⟨w.heap.size + 1, 1, none⟩ = some (.int .i64 0) := dB.cell 1
  have f0 := dB.frozen 0
  have f1 := dB.frozen 1
  have hbl := dB.lt
  have HK1 : Hid (Kept w w1) := HK.out.trans hk1
  have HBl : Hid (w.heap.size < w1.heap.size) := by show _ < _; omega
  clear HW H HK HB HC hk1 dB
  by_cases hlt : keep_ l n < l.length
  · obtain ⟨gb, rfl, hgb⟩ := HS.out.row.some_ (by omega)
    have g0 := HS.out.row.lo hlt
    have g1 := HS.out.row.hi hlt
    have hcap := HS.out.row.cap
    unfold maxLen at hcap
    have hq : ((keep_ l n : Nat) : Int) < ((l.length : Nat) : Int) := by omega
    have hq0 : (0 : Int) ≤ ((keep_ l n : Nat) : Int) := by omega
    have hne : (((keep_ l n : Nat) : Int) == ((l.length : Nat) : Int)) = false := by simp only [beq_eq_false_iff_ne]; omega
    by_cases hle : (at_ l (keep_ l n)).1 ≤ n
    · have hb := HA.out.2 ⟨hlt, hle⟩
      have hr := HY.out hb
      have hgt : decide (n < (at_ l (keep_ l n)).1) = false := by simp; omega
      have HB := Lib.hid hb
      clear hb HA HY HS
      generalize at_ l (keep_ l n) = r at *
      have HR : Hid (rng l n = (r.1, r.2)) := hr
      clear hr
      generalize r.1 = a at *
      generalize r.2 = b at *
      generalize keep_ l n = k at *
      generalize l.length = m at *
      go_wp2_with fail
      go_quiet ((go_at_call 42; exact quiet_same (HL.out _)))
      go_wp2
      exact bodyPost_ret (v := .tuple #[.agg #[.int .i64 a, .int .i64 b], .bool true]) (by simp [results, Try.results22, go_sem, e0, e1]) rfl
        (around_yes HB.out HR.out (((HK1.out.drewN nq).setCell (p := ⟨w.heap.size + 1, 0, none⟩) (by simp) _).setCell (p := ⟨w.heap.size + 1, 1, none⟩) (by simp) _))
    · have hb : has l n = false := by cases h : has l n with
        | false => rfl
        | true => exact absurd (HA.out.1 h).2 hle
      have hgt : decide (n < (at_ l (keep_ l n)).1) = true := by simp; omega
      have HB := Lib.hid hb
      clear hb HA HY HS hle
      generalize at_ l (keep_ l n) = r at *
      generalize r.1 = a at *
      generalize r.2 = b at *
      generalize keep_ l n = k at *
      generalize l.length = m at *
      go_wp2_with fail
      go_quiet ((go_at_call 42; exact quiet_same (HL.out _)))
      go_wp2
      exact bodyPost_ret (v := .tuple #[.agg #[.int .i64 0, .int .i64 0], .bool false]) (by simp [results, Try.results22, go_sem, e0, e1]) rfl
        (around_no HB.out (((HK1.out.drewN nq).setCell (p := ⟨w.heap.size + 1, 0, none⟩) (by simp) _).setCell (p := ⟨w.heap.size + 1, 1, none⟩) (by simp) _))
  · have hb : has l n = false := by cases h : has l n with
      | false => rfl
      | true => exact absurd (HA.out.1 h).1 hlt
    obtain hkm : keep_ l n = l.length := by omega
    have HB := Lib.hid hb
    clear hb HA HY HS hlt hkl
    rw [hkm]
    clear hkm
    generalize l.length = m at *
    go_wp2_with fail
    go_quiet ((go_at_call 42; exact quiet_same (HL.out _)))
    go_wp2
    exact bodyPost_ret (v := .tuple #[.agg #[.int .i64 0, .int .i64 0], .bool false]) (by simp [results, Try.results22, go_sem, e0, e1]) rfl
      (around_no HB.out (((HK1.out.drewN nq).setCell (p := ⟨w.heap.size + 1, 0, none⟩) (by simp) _).setCell (p := ⟨w.heap.size + 1, 1, none⟩) (by simp) _))

end Go.Proofs.Ytdfjceghhjecaaa.Spn

/-
  Contracts of Has, Next, Min, Max.
-/
namespace Go.Proofs.Ytdfjceghhjecaaa.Spn
open Go.RowKit SpnM Wd
set_option linter.unusedVariables false
set_option linter.unusedSimpArgs false

set_option maxHeartbeats 1000000 in
set_option maxRecDepth 100000 in
theorem has_any (p c room : Nat) (A : Option Addr) (l : List R) (n : Int) (w : World) (h : SetAt w p A c room l) :
    Calls Try.prog 12 #[.pointer (some ⟨p, 0, none⟩), .int .i64 n] w (GBool (has l n) w) := by
  have hc : Calls Try.prog 22 #[.pointer (some ⟨p, 0, none⟩), .int .i64 n] w fun e w' => e = .returned (.tuple #[.agg #[.int .i64 (rng l n).1, .int .i64 (rng l n).2], .bool (has l n)]) ∧ Kept w w' := around_any p c room A l n w h
  clear h
  generalize (rng l n).1 = a at *
  generalize (rng l n).2 = b at *
  generalize has l n = t at *
  go_enter Try.func12, Try.ntmps12
  go_wp2_with (go_at_call 22; refine hc.mono ?_; rintro e w' ⟨rfl, hk⟩)
  go_ret
  exact ⟨rfl, hk.alloc _⟩

set_option maxRecDepth 100000 in
theorem mn_nil : mn [] = -1 := rfl
set_option maxRecDepth 100000 in
theorem mn_at {l : List R} (h : 0 < l.length) : mn l = (at_ l 0).1 := by cases l with
  | nil => simp at h
  | cons r t => rfl
set_option maxRecDepth 100000 in
theorem mx_at {l : List R} (h : 0 < l.length) : mx l = (at_ l (l.length - 1)).2 := by
  unfold mx; rw [List.getLast?_eq_getElem?, at_some (by omega)]
end Go.Proofs.Ytdfjceghhjecaaa.Spn
