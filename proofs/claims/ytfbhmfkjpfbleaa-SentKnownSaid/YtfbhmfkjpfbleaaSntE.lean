/-
  Contract of each, whatever it tells.
-/
import Derived.Test.YtfbhmfkjpfbleaaSntW
namespace Go.Proofs.Ytfbhmfkjpfbleaa.Snt
open Go.RowKit SntM Cd Wd
set_option linter.unusedVariables false
set_option linter.unusedSimpArgs false

theorem Quiet.kept {v : Value} {w w' : World} {e : Ending} (h : Quiet v w e w') : e = .returned v ∧ Kept w w' := by
  obtain ⟨a, m, rfl⟩ := h
  exact ⟨a, (Kept.refl w).drewN m⟩
/-- What each reads of a log: where the ring lies, and the packet at a place. -/
structure Seen (w : World) (p g c room start i : Nat) (q : Pk) : Prop where
  ring_ : w.cell? ⟨p, 0, none⟩ = some (.slice (some ⟨g, 0, none⟩) room c)
  start_ : w.cell? ⟨p, 1, none⟩ = some (.int .i64 start)
  n_ : w.cell? ⟨g, (start + i) % room * 6, none⟩ = some (.int .i64 q.n)
  t_ : w.cell? ⟨g, (start + i) % room * 6 + 1, none⟩ = some (.int .i64 q.t)
  s_ : w.cell? ⟨g, (start + i) % room * 6 + 2, none⟩ = some (.int .i64 q.s)
  e_ : w.cell? ⟨g, (start + i) % room * 6 + 3, none⟩ = some (.bool q.e)
  f_ : w.cell? ⟨g, (start + i) % room * 6 + 4, none⟩ = some (.bool q.f)
  c_ : w.cell? ⟨g, (start + i) % room * 6 + 5, none⟩ = some (.bool q.c)

set_option maxHeartbeats 1000000 in
set_option maxRecDepth 100000 in
/-- each: J holds ahead of each place; what is told turns J of a place into J of the next one. -/
theorem each_any (p g c room start a b : Nat) (k : Nat) (pre post : Array Value) (es : List Pk) (J : Nat → World → Prop) (w : World) (eg : ∀ args w, (callFunc k args).run Try.prog w = .ok (.enter k args) w)
    (hr : 1 ≤ room ∧ room ≤ 256) (hc : room ≤ c) (hs : start < room) (hb : b ≤ room) (ha : a ≤ b)
    (hk : ∀ i W W', J i W → Kept W W' → J i W') (h0 : J a w)
    (hseen : ∀ i W, a ≤ i → i < b → J i W → Seen W p g c room start i (at_ es i))
    (hgap : ∀ i W, a ≤ i → i < b → J i W → real (at_ es i) = false → J (i + 1) W)
    (hone : ∀ i W, a ≤ i → i < b → J i W → real (at_ es i) = true → Calls Try.prog k (pre ++ #[pkV (at_ es i)] ++ post) W (Unit_ (J (i + 1)))) :
    Calls Try.prog 37 #[.pointer (some ⟨p, 0, none⟩), .int .i64 a, .int .i64 b, .func (.func k) pre post] w (Unit_ (J b)) := by
  have HK := Lib.hid hk
  have HS := Lib.hid hseen
  have HG := Lib.hid hgap
  have HO := Lib.hid hone
  have H0 := Lib.hid h0
  clear hk hseen hgap hone h0
  go_enter Try.func37, Try.ntmps37
  go_wp2_with fail
  go_loopw [8] (fun s8 wr => ∃ i : Nat, a ≤ i ∧ i ≤ b ∧ s8 = .int .i64 i ∧ Hid (J i wr)) (fun s8 _ => b - (intOf s8).toNat)
  case atStart => exact ⟨a, Nat.le_refl _, ha, rfl, H0.out⟩
  case round =>
    obtain ⟨i, hai, hib, rfl, hJ⟩ := hrel
    by_cases hlt : i < b
    · have hsn := HS.out i wr hai hlt hJ.out
      have hat := Lib.hid ((at_any p g c room start i wr hsn.ring_ hsn.start_ hr hc hs (by omega)).mono fun _ _ h => h.kept)
      have hiz : (i : Int) < (b : Int) := by omega
      have hw1 : IntKind.i64.wrap ((i : Int) + 1) = (i : Int) + 1 := IntWalk.i64_in _ (by omega)
      have hn := hsn.n_
      have ht := hsn.t_
      have hs' := hsn.s_
      have he := hsn.e_
      have hf := hsn.f_
      have hc' := hsn.c_
      have hG := Lib.hid (HG.out i)
      have hO := Lib.hid (HO.out i)
      clear hsn
      generalize (start + i) % room = q at *
      have hgl : g < wr.heap.size := World.block_lt_of_cell? _ _ hn
      generalize at_ es i = x at *
      have hx : Hid (pkV x = .agg #[.int .i64 x.n, .int .i64 x.t, .int .i64 x.s, .bool x.e, .bool x.f, .bool x.c]) := Lib.hid rfl
      have hig := Lib.hid (fun W => isGap_any x W)
      unfold pkV at hig
      cases hrl : real x with
      | false =>
        rw [hrl] at hig
        go_wp2_with fail
        refine hat.out.mono ?_
        rintro e w1 ⟨rfl, hk1⟩
        have hn1 := hk1.cell hn
        have ht1 := hk1.cell ht
        have hs1 := hk1.cell hs'
        have he1 := hk1.cell he
        have hf1 := hk1.cell hf
        have hc1 := hk1.cell hc'
        have hgl1 : g < w1.heap.size := Nat.lt_of_lt_of_le hgl hk1.size
        have HK1 := Lib.hid hk1
        clear hn ht hs' he hf hc' hk1
        go_wp2_with fail
        refine (hig.out _).mono ?_
        rintro e w2 ⟨rfl, hk2⟩
        go_wp2_with fail
        go_roundw
        case rel => exact ⟨i + 1, by omega, by omega, by go_num, hG.out _ hai hlt (HK.out i _ _ hJ.out ((HK1.out.alloc _).trans hk2)) hrl⟩
        case measure => simp [intOf]; omega
      | true =>
        rw [hrl] at hig
        go_wp2_with fail
        refine hat.out.mono ?_
        rintro e w1 ⟨rfl, hk1⟩
        have hn1 := hk1.cell hn
        have ht1 := hk1.cell ht
        have hs1 := hk1.cell hs'
        have he1 := hk1.cell he
        have hf1 := hk1.cell hf
        have hc1 := hk1.cell hc'
        have hgl1 : g < w1.heap.size := Nat.lt_of_lt_of_le hgl hk1.size
        have HK1 := Lib.hid hk1
        clear hn ht hs' he hf hc' hk1
        go_wp2_with fail
        refine (hig.out _).mono ?_
        rintro e w2 ⟨rfl, hk2⟩
        have hB := (Blk.new w1 31 #[.int .i64 x.n, .int .i64 x.t, .int .i64 x.s, .bool x.e, .bool x.f, .bool x.c]).kept hk2
        have b0 := hB.cell 0
        have b1 := hB.cell 1
        have b2 := hB.cell 2
        have b3 := hB.cell 3
        have b4 := hB.cell 4
        have b5 := hB.cell 5
        have hO2 := Lib.hid (hO.out w2 hai hlt (HK.out i _ _ hJ.out ((HK1.out.alloc _).trans hk2)) hrl)
        clear hB hn1 ht1 hs1 he1 hf1 hc1
        go_wp2_with fail
        refine hO2.out.mono ?_
        rintro e w3 ⟨rfl, hJ3⟩
        have HJ3 := Lib.hid hJ3
        clear hJ3
        go_wp2_with fail
        go_roundw
        case rel => exact ⟨i + 1, by omega, by omega, by go_num, HJ3.out⟩
        case measure => simp [intOf]; omega
    · obtain rfl : i = b := by omega
      go_wp2
      go_end0
      exact ⟨rfl, hJ.out⟩

end Go.Proofs.Ytfbhmfkjpfbleaa.Snt
