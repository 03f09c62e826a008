/-
  Contracts of Between and All.
-/
import Derived.Test.YtfbhmfkjpfbleaaSntD
namespace Go.Proofs.Ytfbhmfkjpfbleaa.Snt
open Go.RowKit SntM Cd Wd
set_option linter.unusedVariables false
set_option linter.unusedSimpArgs false

abbrev PLay (w : World) (b : Nat) (W : World) (v : Value) (L : List Pk) : Prop := Lay pkC 31 w b W v L
/-- A box that holds packets laid out so far. -/
def Gath (w : World) (b bx : Nat) (L : List Pk) (W : World) : Prop := ∃ v, Blk W bx 42 #[v] ∧ PLay w b W v L
theorem Gath.kept {w W W' : World} {b bx : Nat} {L : List Pk} (h : Gath w b bx L W) (k : Kept W W') : Gath w b bx L W' := by
  obtain ⟨v, h1, h2⟩ := h
  exact ⟨v, h1.kept k, h2.more k⟩
theorem lay_far {w W : World} {b bx : Nat} {v x u : Value} {L : List Pk} (h : PLay w b W v L) (hb : Blk W bx 42 #[x]) (hw : w.heap.size ≤ bx) : PLay w b (W.setCell ⟨bx, 0, none⟩ u) v L := by
  obtain ⟨A, c, rfl, hr, hf, hk⟩ := h
  refine ⟨A, c, rfl, hr.same_ fun i e => Below.heap_setCell _ _ _ _ ?_, hf, hk.setCell (p := ⟨bx, 0, none⟩) hw _⟩
  rcases hr.form with ⟨e1, _⟩ | ⟨g, cur, e1, hg, _⟩
  · rw [e1] at e; cases e
  · rw [e1] at e
    injection e with e
    subst e
    exact hg.ne_ hb (by decide)

theorem lay_box {w W W1 w' : World} {b bx : Nat} {v : Value} {L : List Pk} {cs : Array Value} (h : PLay w b W v L) (hB : Blk W bx 42 cs) (hk : Kept W W1) (hg : W1.grownBy w' v.ownBlock) : Blk w' bx 42 cs := by
  obtain ⟨A, c, rfl, hr, hf, _⟩ := h
  rw [own_block] at hg
  refine (hB.kept hk).at_ (hg.block bx (hB.kept hk).lt ?_)
  intro e
  rcases hr.form with ⟨e1, _⟩ | ⟨g, cur, e1, hgb, _⟩
  · rw [e1] at e; cases e
  · rw [e1] at e
    injection e with e
    subst e
    exact (hgb.ne_ hB (by decide)) rfl
set_option maxHeartbeats 2000000 in
set_option maxRecDepth 100000 in
theorem gather_any (w W : World) (b bx : Nat) (L : List Pk) (q : Pk) (h : Gath w b bx L W) (hw : w.heap.size ≤ b) (hb : b ≤ bx) (hL : L.length ≤ 1000) :
    Calls Try.prog 53 #[pkV q, .pointer (some ⟨bx, 0, none⟩)] W (Unit_ (Gath w b bx (L ++ [q]))) := by
  obtain ⟨v, h1, h2⟩ := h
  have hk := (Kept.refl W).alloc (.cells #[.int .i64 q.n, .int .i64 q.t, .int .i64 q.s, .bool q.e, .bool q.f, .bool q.c] 31)
  have hB := h1.kept hk
  have hLay := h2.more hk
  have c0 := hB.cell 0
  have f0 := hB.frozen 0
  have hl := h1.lt
  have hbW : b ≤ (W.alloc (.cells #[.int .i64 q.n, .int .i64 q.t, .int .i64 q.s, .bool q.e, .bool q.f, .bool q.c] 31)).heap.size := by have := hB.lt; omega
  have HLay := Lib.hid hLay
  have HB := Lib.hid hB
  clear h1 h2 hk hB hLay
  go_enter Try.func53, Try.ntmps53
  go_upto_region 1 with (fail)
  change Code.wp _ _ _ _ (W.alloc (.cells #[.int .i64 q.n, .int .i64 q.t, .int .i64 q.s, .bool q.e, .bool q.f, .bool q.c] 31))
  have hR := Blk.new W 31 #[.int .i64 q.n, .int .i64 q.t, .int .i64 q.s, .bool q.e, .bool q.f, .bool q.c]
  have r0 := hR.cell 0
  have r1 := hR.cell 1
  have r2 := hR.cell 2
  have r3 := hR.cell 3
  have r4 := hR.cell 4
  have r5 := hR.cell 5
  clear hR
  have hsz : Hid ((W.alloc (.cells #[.int .i64 q.n, .int .i64 q.t, .int .i64 q.s, .bool q.e, .bool q.f, .bool q.c] 31)).heap.size = W.heap.size + 1) := World.size_alloc _ _
  generalize W.alloc (.cells #[.int .i64 q.n, .int .i64 q.t, .int .i64 q.s, .bool q.e, .bool q.f, .bool q.c] 31) = W1 at *
  go_wp2_with (at_builtin; refine wpList_lay pkE (w := w) (W := W1) rfl (.tmp 3) (.tmp 5) rfl (b := b) (L := L) q rfl HLay.out rfl hw hbW (by omega) rfl ?_; intro v' w1 HV hsm; have hB1 := lay_box HLay.out HB.out ((Kept.refl W1).alloc _) hsm.out; have HL2 := Lib.hid HV.out; obtain ⟨A', c', rfl, _, _, _⟩ := HV.out; have z0 := hB1.cell 0; have z1 := hB1.frozen 0; have z2 := hB1.lt; have HB1 := Lib.hid hB1; clear hB1 hsm)
  go_end0
  have e := HL2.out
  simp only [List.length_append, List.length_singleton] at e
  exact ⟨rfl, _, HB1.out.set_ 0 _, lay_far e HB1.out (by omega)⟩

theorem gath_kept {w W : World} {b bx : Nat} {L : List Pk} (h : Gath w b bx L W) : Kept w W := by
  obtain ⟨v, _, A, c, _, _, _, hk⟩ := h
  exact hk

set_option maxRecDepth 100000 in
/-- each, where there is no place to look at. -/
theorem each_none (p a b : Nat) (f : Value) (w : World) (hab : b ≤ a) :
    Calls Try.prog 37 #[.pointer (some ⟨p, 0, none⟩), .int .i64 a, .int .i64 b, f] w (Unit_ fun w' => w' = w) := by
  have hz : ¬ ((a : Int) < (b : Int)) := by omega
  go_enter Try.func37, Try.ntmps37
  go_wp2_with fail
  go_loopw [8] (fun s8 wr => s8 = .int .i64 a ∧ wr = w) (fun s8 _ => b - (intOf s8).toNat)
  case atStart => exact ⟨rfl, rfl⟩
  case round =>
    obtain ⟨rfl, rfl⟩ := hrel
    go_wp2_with fail
    go_end0
    exact ⟨rfl, rfl⟩

/-- Packets laid out in a row of the call's own. -/
def GRow (w : World) (L : List Pk) (e : Ending) (w' : World) : Prop := ∃ v, e = .returned v ∧ PLay w w.heap.size w' v L

set_option maxHeartbeats 2000000 in
set_option maxRecDepth 100000 in
/-- each, where it gathers. -/
theorem each_gather {w W : World} {p g c room start bx : Nat} {last : Int} {es X : List Pk} (h : LogAt w p g c room last es start X) (hG : Gath w w.heap.size bx [] W) (hbx : w.heap.size ≤ bx) (a b : Nat) (hb : b ≤ es.length) :
    Calls Try.prog 37 #[.pointer (some ⟨p, 0, none⟩), .int .i64 a, .int .i64 b, .func (.func 53) #[] #[.pointer (some ⟨bx, 0, none⟩)]] W (Unit_ (Gath w w.heap.size bx (reals (slice es a b)))) := by
  rcases Nat.lt_or_ge b a with hab | hab
  · refine (each_none p a b _ W (by omega)).mono ?_
    rintro e w' ⟨rfl, rfl⟩
    have e0 : slice es a b = [] := by unfold slice; rw [List.drop_eq_nil_iff, List.length_take]; omega
    rw [e0]
    exact ⟨rfl, hG⟩
  · have hlr := h.len
    have hroom := h.ok.room1
    exact each_any p g c room start a b 53 #[] #[.pointer (some ⟨bx, 0, none⟩)] es (fun i W => Gath w w.heap.size bx (reals (slice es a i)) W) W (enters_of Try.func53 (by kernel_rfl) rfl) hroom h.cap.1 h.st (by omega) hab
      (fun i W W' hJ hk => hJ.kept hk) (by rw [slice_self]; exact hG)
      (fun i W h1 h2 hJ => (h.kept (gath_kept hJ)).seen (by omega))
      (fun i W h1 h2 hJ hr => by rw [sums_gap h1 (by omega) hr]; exact hJ)
      (fun i W h1 h2 hJ hr => by
        have h3 := reals_len (slice es a i)
        have h4 := slice_len es a i
        rw [slice_succ h1 (by omega), reals_append, reals_one_yes hr]
        exact gather_any w W w.heap.size bx _ (at_ es i) hJ (Nat.le_refl _) hbx (by omega))

set_option maxHeartbeats 2000000 in
set_option maxRecDepth 100000 in
theorem between_at {w : World} {p g c room start : Nat} {last : Int} {es X : List Pk} (h : LogAt w p g c room last es start X) (lo hi : Int) :
    Calls Try.prog 22 #[.pointer (some ⟨p, 0, none⟩), .int .i64 lo, .int .i64 hi] w (GRow w (betw (reals es) lo hi)) := by
  obtain ⟨W, hW⟩ : ∃ W, (w.alloc (.cells #[.int .i64 lo] 3)).alloc (.cells #[.int .i64 hi] 3) = W := ⟨_, rfl⟩
  have hk : Kept w W := by rw [← hW]; exact ((Kept.refl w).alloc _).alloc _
  have c1 : W.cell? ⟨w.heap.size, 0, none⟩ = some (.int .i64 lo) := by rw [← hW]; exact ((Kept.refl _).alloc _).cell (cell_box w _ _)
  have c2 : W.cell? ⟨w.heap.size + 1, 0, none⟩ = some (.int .i64 hi) := by rw [← hW]; exact cell_box2 w _ _ _
  have ha := (h.kept hk).absent_
  have hr := h.ok.rise
  have hplt := h.plt
  have hf1 : Calls _ _ _ _ (GInt (place es lo : Nat) W) := first_any 51 w.heap.size p g c room start (fun m => decide (lo ≤ m)) last es X W (enters_of Try.func51 (by kernel_rfl) rfl) (h.kept hk) (tells_lo _ lo W c1)
    (fun i h1 h2 => decide_eq_true (place_ge hr h1 h2))
  have hf2 := Lib.hid (fun W' (hk' : Kept W W') => (show Calls _ _ _ W' (GInt (upto es hi : Nat) W') from first_any 52 (w.heap.size + 1) p g c room start (fun m => decide (hi < m)) last es X W' (enters_of Try.func52 (by kernel_rfl) rfl) ((h.kept hk).kept hk') (tells_hi _ hi W' (hk'.cell c2))
    (fun i h1 h2 => decide_eq_true (by have := place_ge hr (n := hi + 1) (by rw [← upto_eq]; exact h1) h2; omega))))
  have hbt := Lib.hid (betw_slice hr lo hi)
  have hub : upto es hi ≤ es.length := by rw [upto_eq]; exact place_le _ _
  have HW := Lib.hid hW
  have HK := Lib.hid hk
  have H := Lib.hid h
  clear hW hk h c1 c2
  generalize betw (reals es) lo hi = R at *
  generalize place es lo = a at *
  generalize upto es hi = b at *
  go_enter Try.func22, Try.ntmps22
  go_wp2_with fail
  rw [HW.out]
  refine ha.mono ?_
  rintro e w' ⟨rfl, rfl⟩
  go_wp2_with fail
  refine hf1.mono ?_
  rintro e w1 ⟨rfl, hk1⟩
  have hf2' := hf2.out _ hk1
  clear hf1 hf2
  go_wp2_with fail
  refine hf2'.mono ?_
  rintro e w2 ⟨rfl, hk2⟩
  have HK2 := Lib.hid ((HK.out.trans hk1).trans hk2)
  clear hf2' hk1 hk2 HW HK ha
  go_upto_region 6 with (fail)
  have hB := Blk.new w2 42 #[.slice none 0 0]
  have hK3 := HK2.out.alloc (.cells #[.slice none 0 0] 42)
  generalize hw3 : w2.alloc (.cells #[.slice none 0 0] 42) = w3 at *
  have hsz := HK2.out.size
  have hea := each_gather H.out (W := w3) (bx := w2.heap.size) ⟨_, hB, Lay.nil w _ hK3⟩ hsz a b hub
  rw [hbt.out] at hea
  clear hw3 hB hK3
  go_wp2_with fail
  refine hea.mono ?_
  rintro e w4 ⟨rfl, v, hbv, hlv⟩
  have z0 := hbv.cell 0
  have zl := hbv.lt
  have HLv := Lib.hid hlv
  clear hbv hlv hea
  go_wp2_with fail
  go_ret
  exact ⟨_, rfl, HLv.out⟩

set_option maxRecDepth 100000 in
theorem all_at {w : World} {p g c room start : Nat} {last : Int} {es X : List Pk} (h : LogAt w p g c room last es start X) :
    Calls Try.prog 29 #[.pointer (some ⟨p, 0, none⟩)] w (GRow w (reals es)) := by
  have hb := between_at h 0 9007199254740991
  rw [show betw (reals es) 0 9007199254740991 = reals es from betw_all h.ok.reals_] at hb
  clear h
  go_enter Try.func29, Try.ntmps29
  go_wp2_with fail
  refine hb.mono ?_
  rintro e w' ⟨v, rfl, hl⟩
  have HL := Lib.hid hl
  clear hl
  go_wp2_with fail
  go_ret
  exact ⟨v, rfl, HL.out⟩

end Go.Proofs.Ytfbhmfkjpfbleaa.Snt
