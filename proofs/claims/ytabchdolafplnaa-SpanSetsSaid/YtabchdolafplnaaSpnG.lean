/-
  Contracts of first and of the small functions that look at a set: around, Has, Next, Min, Max.
-/
import Derived.Test.YtabchdolafplnaaSpnF
import Derived.Deep.Cut
import Derived.Deep.CutRange
namespace Go.Proofs.Ytabchdolafplnaa.Spn
open Go.RowKit SpnM Wd
set_option linter.unusedVariables false
set_option linter.unusedSimpArgs false

theorem tells_enter {g : Nat} {args : Array Value} {w : World} {Q : Ending → World → Prop} (h : Calls Try.prog g args w Q) : Calls Try.prog g args w Q := h

set_option maxHeartbeats 1000000 in
set_option maxRecDepth 100000 in
/-- first's own closure at a place: what the closure that was handed in says of the range there. -/
theorem first1_any (g x bf bs p c room i : Nat) (P : R → Bool) (A : Option Addr) (l : List R) (w : World) (eg : ∀ args w, (callFunc g args).run Try.prog w = .ok (.enter g args) w)
    (hf : w.cell? ⟨bf, 0, none⟩ = some (.func (.func g) #[] #[.pointer (some ⟨x, 0, none⟩)])) (hs : w.cell? ⟨bs, 0, none⟩ = some (.pointer (some ⟨p, 0, none⟩)))
    (h : SetAt w p A c room l) (hi : i < l.length) (ht : Tells g x P w) :
    Calls Try.prog 56 #[.int .i64 i, .pointer (some ⟨bf, 0, none⟩), .pointer (some ⟨bs, 0, none⟩)] w (GBool (P (at_ l i)) w) := by
  obtain ⟨gb, rfl, hgb⟩ := h.row.some_ (by omega)
  have h0 := h.list_
  have h1 := h.row.lo hi
  have h2 := h.row.hi hi
  have hlen := Lib.hid h.row.len
  have hcap := h.row.cap
  unfold maxLen at hcap
  have ht' := Lib.hid (ht w.drew ((Kept.refl w).drew) (at_ l i))
  obtain ⟨hi1, hi2⟩ : (0 : Int) ≤ (i : Int) ∧ (i : Int) < ((l.length : Nat) : Int) := ⟨by omega, by omega⟩
  clear h ht
  generalize at_ l i = r at *
  obtain ⟨a, b⟩ := r
  generalize l.length = n at *
  go_enter Try.func56, Try.ntmps56
  go_wp2
  go_region_held3 (fun w' => w'.cell? ⟨bf, 0, none⟩ = some (.func (.func g) #[] #[.pointer (some ⟨x, 0, none⟩)]) ∧ w'.cell? ⟨bs, 0, none⟩ = some (.pointer (some ⟨p, 0, none⟩)) ∧ w'.cell? ⟨p, 1, none⟩ = some (.slice (some ⟨gb, 0, none⟩) n c) ∧ w'.cell? ⟨gb, i * 2, none⟩ = some (.int .i64 a) ∧ w'.cell? ⟨gb, i * 2 + 1, none⟩ = some (.int .i64 b))
    (first | exact ⟨hf, hs, h0, h1, h2⟩ | exact ⟨hk.cell hf, hk.cell hs, hk.cell h0, hk.cell h1, hk.cell h2⟩)
    ((go_at_fn g; refine ht'.out.mono ?_; rintro e w' ⟨rfl, hk⟩))
  go_wp2
  go_ret
  exact ⟨rfl, ((Kept.refl w).drew).trans hk⟩

set_option maxHeartbeats 1000000 in
set_option maxRecDepth 100000 in
/-- first: the first place at which the closure says yes. -/
theorem first_any (g x p c room : Nat) (P : R → Bool) (A : Option Addr) (l : List R) (w : World) (eg : ∀ args w, (callFunc g args).run Try.prog w = .ok (.enter g args) w)
    (h : SetAt w p A c room l) (ht : Tells g x P w) (hm : ∀ i, l.findIdx P ≤ i → i < l.length → P (at_ l i) = true) :
    Calls Try.prog 35 #[.pointer (some ⟨p, 0, none⟩), .func (.func g) #[] #[.pointer (some ⟨x, 0, none⟩)]] w (GInt (l.findIdx P : Nat) w) := by
  have hplt := h.lt
  obtain ⟨W, hW⟩ : ∃ W, (w.alloc (.cells #[.pointer (some ⟨p, 0, none⟩)] 23)).alloc (.cells #[.func (.func g) #[] #[.pointer (some ⟨x, 0, none⟩)]] 67) = W := ⟨_, rfl⟩
  have hk : Kept w W := by rw [← hW]; exact ((Kept.refl w).alloc _).alloc _
  have c1 : W.cell? ⟨w.heap.size, 0, none⟩ = some (.pointer (some ⟨p, 0, none⟩)) := by rw [← hW]; exact ((Kept.refl _).alloc _).cell (cell_box w _ _)
  have c2 : W.cell? ⟨w.heap.size + 1, 0, none⟩ = some (.func (.func g) #[] #[.pointer (some ⟨x, 0, none⟩)]) := by rw [← hW]; exact cell_box2 w _ _ _
  have hl := len_set p c room A l W (h.kept hk)
  have hlen : l.length < 4611686018427387904 := by have := h.fits; have := h.room1; omega
  have hs := search_any 56 #[.pointer (some ⟨w.heap.size + 1, 0, none⟩), .pointer (some ⟨w.heap.size, 0, none⟩)] l.length (l.findIdx P) (fun i => P (at_ l i)) W
    (enters_of Try.func56 (by kernel_rfl) rfl) hlen
    (fun W' hk' i hi => first1_any g x _ _ p c room i P A l W' eg (hk'.cell c2) (hk'.cell c1) ((h.kept hk).kept hk') hi (fun W2 hk2 r => ht W2 ((hk.trans hk').trans hk2) r)) (find_le _ _) (fun i hi => find_lt hi) hm
  have HW := Lib.hid hW
  have HK := Lib.hid hk
  clear hW hk h ht hm c2
  generalize l.findIdx P = k at *
  generalize l.length = n at *
  go_enter Try.func35, Try.ntmps35
  go_wp2_with fail
  rw [HW.out]
  go_wp2_with fail
  refine hl.mono ?_
  rintro e w' ⟨rfl, rfl⟩
  go_wp2_with fail
  refine hs.mono ?_
  rintro e w' ⟨rfl, hk'⟩
  go_wp2_with fail
  go_ret
  exact ⟨rfl, HK.out.trans hk'⟩

/-- What around hands back. -/
def Around (l : List R) (n : Int) (w : World) (e : Ending) (w' : World) : Prop := e = .returned (.tuple #[.agg #[.int .i64 (rng l n).1, .int .i64 (rng l n).2], .bool (has l n)]) ∧ Kept w w'
theorem around_yes {l : List R} {n a b : Int} {w w' : World} (h : has l n = true) (hr : rng l n = (a, b)) (hk : Kept w w') : Around l n w (.returned (.tuple #[.agg #[.int .i64 a, .int .i64 b], .bool true])) w' := ⟨by rw [h, hr], hk⟩
theorem around_no {l : List R} {n : Int} {w w' : World} (h : has l n = false) (hk : Kept w w') : Around l n w (.returned (.tuple #[.agg #[.int .i64 0, .int .i64 0], .bool false])) w' := ⟨by unfold rng; rw [h]; rfl, hk⟩

set_option maxHeartbeats 2000000 in
set_option maxRecDepth 100000 in
theorem around_any (p c room : Nat) (A : Option Addr) (l : List R) (n : Int) (w : World) (h : SetAt w p A c room l) :
    Calls Try.prog 54 #[.pointer (some ⟨p, 0, none⟩), .int .i64 n] w (Around l n w) := by
  obtain ⟨W, hW⟩ : ∃ W, (w.alloc (.cells #[.int .i64 n] 3)).alloc (.cells #[.int .i64 0, .int .i64 0] 57) = W := ⟨_, rfl⟩
  have hk : Kept w W := by rw [← hW]; exact ((Kept.refl w).alloc _).alloc _
  have c1 : W.cell? ⟨w.heap.size, 0, none⟩ = some (.int .i64 n) := by rw [← hW]; exact ((Kept.refl _).alloc _).cell (cell_box w _ _)
  have bR : Blk W (w.heap.size + 1) 57 #[.int .i64 0, .int .i64 0] := by rw [← hW]; have := Blk.new (w.alloc (.cells #[.int .i64 n] 3)) 57 #[.int .i64 0, .int .i64 0]; rwa [World.size_alloc] at this
  have hplt := h.lt
  have hc := first_any 63 w.heap.size p c room (fun r => decide (n ≤ r.2)) A l W (enters_of Try.func63 (by kernel_rfl) rfl) (h.kept hk) (tells_around w.heap.size n W c1)
    (fun i h1 h2 => by have := keep_ge h.good h1 h2; exact decide_eq_true this)
  have HW := Lib.hid hW
  have hcell : ∀ W', Kept W W' → ∃ w1, w1 = W' := fun W' _ => ⟨W', rfl⟩
  have hat := has_at h.good n
  have hkl := keep_le l n
  have hyes : has l n = true → rng l n = at_ l (keep_ l n) := fun h1 => (rng_of h.good h1).2.1
  have H : Hid (SetAt W p A c room l) := h.kept hk
  have HK : Hid (Kept w W) := hk
  have HB : Hid (Blk W (w.heap.size + 1) 57 #[.int .i64 0, .int .i64 0]) := bR
  have HC : Hid (W.cell? ⟨w.heap.size, 0, none⟩ = some (.int .i64 n)) := c1
  have hfit := h.fits
  have hroom := h.room1
  clear hW h hk bR c1 hcell
  change Calls _ _ _ W (GInt (keep_ l n : Nat) W) at hc
  have HY := Lib.hid hyes
  have HA := Lib.hid hat
  clear hyes hat
  go_enter Try.func54, Try.ntmps54
  go_wp2_with fail
  rw [HW.out]
  refine hc.mono ?_
  rintro e w1 ⟨rfl, hk1⟩
  clear hc
  have HS : Hid (SetAt w1 p A c room l) := H.out.kept hk1
  have HL := Lib.hid (fun q => len_set p c room A l (w1.drewN q) (HS.out.kept ((Kept.refl w1).drewN q)))
  have d1 := HS.out.list_
  have d2 := hk1.cell HC.out
  have dB := HB.out.kept hk1
  have e0 : w1.cell? ⟨w.heap.size + 1, 0, none⟩ = some (.int .i64 0) := dB.cell 0
  have e1 : w1.cell? ⟨w.heap.size + 1, 1, none⟩ = some (.int .i64 0) := dB.cell 1
  have f0 := dB.frozen 0
  have f1 := dB.frozen 1
  have hbl := dB.lt
  have HK1 : Hid (Kept w w1) := HK.out.trans hk1
  have HBl : Hid (w.heap.size < w1.heap.size) := by show _ < _; omega
  clear HW H HK HB HC hk1 dB
  by_cases hlt : keep_ l n < l.length
  · obtain ⟨gb, rfl, hgb⟩ := HS.out.row.some_ (by omega)
    have g0 := HS.out.row.lo hlt
    have g1 := HS.out.row.hi hlt
    have hcap := HS.out.row.cap
    unfold maxLen at hcap
    have hq : ((keep_ l n : Nat) : Int) < ((l.length : Nat) : Int) := by omega
    have hq0 : (0 : Int) ≤ ((keep_ l n : Nat) : Int) := by omega
    have hne : (((keep_ l n : Nat) : Int) == ((l.length : Nat) : Int)) = false := by simp only [beq_eq_false_iff_ne]; omega
    by_cases hle : (at_ l (keep_ l n)).1 ≤ n
    · have hb := HA.out.2 ⟨hlt, hle⟩
      have hr := HY.out hb
      have hgt : decide (n < (at_ l (keep_ l n)).1) = false := by simp; omega
      have HB := Lib.hid hb
      clear hb HA HY HS
      generalize at_ l (keep_ l n) = r at *
      have HR : Hid (rng l n = (r.1, r.2)) := hr
      clear hr
      generalize r.1 = a at *
      generalize r.2 = b at *
      generalize keep_ l n = k at *
      generalize l.length = m at *
      go_wp2_with fail
      go_quiet ((go_at_call 29; exact quiet_same (HL.out _)))
      go_wp2
      exact bodyPost_ret (v := .tuple #[.agg #[.int .i64 a, .int .i64 b], .bool true]) (by simp [results, Try.results54, go_sem, e0, e1]) rfl
        (around_yes HB.out HR.out (((HK1.out.drewN nq).setCell (p := ⟨w.heap.size + 1, 0, none⟩) (by simp) _).setCell (p := ⟨w.heap.size + 1, 1, none⟩) (by simp) _))
    · have hb : has l n = false := by cases h : has l n with
        | false => rfl
        | true => exact absurd (HA.out.1 h).2 hle
      have hgt : decide (n < (at_ l (keep_ l n)).1) = true := by simp; omega
      have HB := Lib.hid hb
      clear hb HA HY HS hle
      generalize at_ l (keep_ l n) = r at *
      generalize r.1 = a at *
      generalize r.2 = b at *
      generalize keep_ l n = k at *
      generalize l.length = m at *
      go_wp2_with fail
      go_quiet ((go_at_call 29; exact quiet_same (HL.out _)))
      go_wp2
      exact bodyPost_ret (v := .tuple #[.agg #[.int .i64 0, .int .i64 0], .bool false]) (by simp [results, Try.results54, go_sem, e0, e1]) rfl
        (around_no HB.out (((HK1.out.drewN nq).setCell (p := ⟨w.heap.size + 1, 0, none⟩) (by simp) _).setCell (p := ⟨w.heap.size + 1, 1, none⟩) (by simp) _))
  · have hb : has l n = false := by cases h : has l n with
      | false => rfl
      | true => exact absurd (HA.out.1 h).1 hlt
    obtain hkm : keep_ l n = l.length := by omega
    have HB := Lib.hid hb
    clear hb HA HY HS hlt hkl
    rw [hkm]
    clear hkm
    generalize l.length = m at *
    go_wp2_with fail
    go_quiet ((go_at_call 29; exact quiet_same (HL.out _)))
    go_wp2
    exact bodyPost_ret (v := .tuple #[.agg #[.int .i64 0, .int .i64 0], .bool false]) (by simp [results, Try.results54, go_sem, e0, e1]) rfl
      (around_no HB.out (((HK1.out.drewN nq).setCell (p := ⟨w.heap.size + 1, 0, none⟩) (by simp) _).setCell (p := ⟨w.heap.size + 1, 1, none⟩) (by simp) _))

end Go.Proofs.Ytabchdolafplnaa.Spn
