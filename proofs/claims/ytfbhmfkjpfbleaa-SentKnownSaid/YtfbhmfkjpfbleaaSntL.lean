/-
  A log in memory; contracts of sort.Search, first and its closures, find.
-/
import Derived.Test.YtfbhmfkjpfbleaaSntE
import Derived.Shelf.Abstract
import Derived.Deep.LoopGhost
namespace Go.Proofs.Ytfbhmfkjpfbleaa.Snt
open Go.RowKit SntM Cd Wd
set_option linter.unusedVariables false
set_option linter.unusedSimpArgs false

/-- A log at p: its ring in block g, whose places hold X; es are the used places from start on. -/
structure LogAt (w : World) (p g c room : Nat) (last : Int) (es : List Pk) (start : Nat) (X : List Pk) : Prop where
  blk : LogB w p g c room start es.length last ((reals es).length : Nat) (fly (reals es)) (eli (reals es))
  row : PRow w (some ⟨g, 0, none⟩) room c X
  ring : Ring room start X es
  st : start < room
  ok : Ok room last es
namespace LogAt
variable {w w' : World} {p g c room start : Nat} {last : Int} {es X : List Pk}
theorem kept (h : LogAt w p g c room last es start X) (k : Kept w w') : LogAt w' p g c room last es start X := ⟨h.blk.kept k, h.row.kept k, h.ring, h.st, h.ok⟩
theorem but {F : Nat → Prop} (h : LogAt w p g c room last es start X) (k : But F w w') (h1 : ¬ F p) (h2 : ¬ F g) : LogAt w' p g c room last es start X :=
  ⟨h.blk.but k h1, h.row.but k (fun i e => by injection e with e; exact e ▸ h2), h.ring, h.st, h.ok⟩
theorem plt (h : LogAt w p g c room last es start X) : p < w.heap.size := h.blk.lt
theorem glt (h : LogAt w p g c room last es start X) : g < w.heap.size := h.row.lt g rfl
theorem ne (h : LogAt w p g c room last es start X) : p ≠ g := by
  rcases h.row.form with ⟨e, _⟩ | ⟨g', cur, e, hb, _⟩
  · cases e
  · obtain rfl : g = g' := by injection e with e; injection e
    exact h.blk.ne_ hb (by decide)
theorem cap (h : LogAt w p g c room last es start X) : room ≤ c ∧ c ≤ maxLen := h.row.cap
theorem ring_ (h : LogAt w p g c room last es start X) : w.cell? ⟨p, 0, none⟩ = some (.slice (some ⟨g, 0, none⟩) room c) := h.blk.cell 0
theorem start_ (h : LogAt w p g c room last es start X) : w.cell? ⟨p, 1, none⟩ = some (.int .i64 start) := h.blk.cell 1
theorem used_ (h : LogAt w p g c room last es start X) : w.cell? ⟨p, 2, none⟩ = some (.int .i64 es.length) := h.blk.cell 2
theorem last_ (h : LogAt w p g c room last es start X) : w.cell? ⟨p, 3, none⟩ = some (.int .i64 last) := h.blk.cell 3
theorem pk_ (h : LogAt w p g c room last es start X) : w.cell? ⟨p, 4, none⟩ = some (.int .i64 (reals es).length) := h.blk.cell 4
theorem fl_ (h : LogAt w p g c room last es start X) : w.cell? ⟨p, 5, none⟩ = some (.int .i64 (fly (reals es))) := h.blk.cell 5
theorem el_ (h : LogAt w p g c room last es start X) : w.cell? ⟨p, 6, none⟩ = some (.int .i64 (eli (reals es))) := h.blk.cell 6
theorem len (h : LogAt w p g c room last es start X) : es.length ≤ room := h.ok.len
theorem seen (h : LogAt w p g c room last es start X) {i : Nat} (hi : i < es.length) : Seen w p g c room start i (at_ es i) := by
  have hl := h.len
  have h1 := prow_cells h.row (k := (start + i) % room) (wrap_lt h.st)
  rw [h.ring i hi] at h1
  exact ⟨h.ring_, h.start_, h1.1, h1.2.1, h1.2.2.1, h1.2.2.2.1, h1.2.2.2.2.1, h1.2.2.2.2.2⟩
theorem absent_ (h : LogAt w p g c room last es start X) : Calls Try.prog 33 #[.pointer (some ⟨p, 0, none⟩)] w fun e w' => e = .returned (.bool false) ∧ w = w' := absent_some p g c room w h.ring_ h.ok.room1
theorem at__ (h : LogAt w p g c room last es start X) {i : Nat} (hi : i < room) : Calls Try.prog 36 #[.pointer (some ⟨p, 0, none⟩), .int .i64 i] w (Quiet (.pointer (some ⟨g, ((start + i) % room) * 6, none⟩)) w) := at_any p g c room start i w h.ring_ h.start_ h.ok.room1 h.cap.1 h.st hi
theorem atq (h : LogAt w p g c room last es start X) {i : Nat} (hi : i < room) (n : Nat) : Calls Try.prog 36 #[.pointer (some ⟨p, 0, none⟩), .int .i64 i] (w.drewN n) fun e w'' => e = .returned (.pointer (some ⟨g, ((start + i) % room) * 6, none⟩)) ∧ ∃ m, w'' = w.drewN m :=
  ((h.kept ((Kept.refl w).drewN n)).at__ hi).mono fun _ _ ⟨a, m, b⟩ => ⟨a, n + m, by rw [b, World.drewN_drewN]⟩
end LogAt

set_option maxHeartbeats 1000000 in
set_option maxRecDepth 100000 in
/-- sort.Search, where the closure says false below k, and true from k on: it is k. -/
theorem search_any (g : Nat) (cb : Array Value) (n k : Nat) (p : Nat → Bool) (w : World) (eg : ∀ args w, (callFunc g args).run Try.prog w = .ok (.enter g args) w) (hsz : n < 4611686018427387904)
    (hf : ∀ W, Kept w W → ∀ i : Nat, i < n → Calls Try.prog g (#[.int .i64 i] ++ cb) W (GBool (p i) W)) (hk : k ≤ n) (h1 : ∀ i, i < k → p i = false) (h2 : ∀ i, k ≤ i → i < n → p i = true) :
    Calls Try.prog 59 #[.int .i64 n, .func (.func g) #[] cb] w (GInt (k : Nat) w) := by
  have HF := Lib.hid hf
  have H1 := Lib.hid h1
  have H2 := Lib.hid h2
  clear hf h1 h2
  go_enter Try.func59, Try.ntmps59
  go_wp2
  go_loopg [5, 6] n (fun kx s5 s6 wr => ∃ lo hi : Nat, s5 = .int .i64 lo ∧ s6 = .int .i64 hi ∧ lo ≤ k ∧ k ≤ hi ∧ hi ≤ n ∧ hi - lo ≤ kx ∧ Kept w wr)
  case atStart => exact ⟨0, n, rfl, rfl, Nat.zero_le _, hk, Nat.le_refl _, by omega, Kept.refl w⟩
  case round =>
    obtain ⟨lo, hi, rfl, rfl, hlk, hkh, hin, hg, hkw⟩ := hrel
    by_cases hlt : lo < hi
    · have hc := HF.out _ hkw ((lo + hi) / 2) (by omega)
      rw [show (((lo + hi) / 2 : Nat) : Int) = ((lo : Int) + (hi : Int)) / 2 by omega] at hc
      by_cases hp : (lo + hi) / 2 < k
      · rw [H1.out _ hp] at hc
        go_wp2_with (go_at_fn g; refine hc.mono ?_; rintro e w' ⟨rfl, hkw'⟩)
        go_roundg (hi - ((lo + hi) / 2 + 1))
        case measure => omega
        case rel => exact ⟨(lo + hi) / 2 + 1, hi, by rw [show ((lo : Int) + (hi : Int)) / 2 + 1 = (((lo + hi) / 2 + 1 : Nat) : Int) by omega], rfl, by omega, hkh, hin, Nat.le_refl _, hkw.trans hkw'⟩
      · rw [H2.out _ (by omega) (by omega)] at hc
        go_wp2_with (go_at_fn g; refine hc.mono ?_; rintro e w' ⟨rfl, hkw'⟩)
        go_roundg ((lo + hi) / 2 - lo)
        case measure => omega
        case rel => exact ⟨lo, (lo + hi) / 2, rfl, by rw [show ((lo : Int) + (hi : Int)) / 2 = (((lo + hi) / 2 : Nat) : Int) by omega], hlk, by omega, by omega, Nat.le_refl _, hkw.trans hkw'⟩
    · obtain rfl : hi = lo := by omega
      obtain rfl : k = hi := by omega
      go_wp2
      go_ret
      exact ⟨rfl, hkw⟩

/-- A closure that captures one box tells of numbers what P says, in each world where what there was is kept. -/
def Tells (g x : Nat) (P : Int → Bool) (w : World) : Prop := ∀ W, Kept w W → ∀ n : Int, Calls Try.prog g #[.int .i64 n, .pointer (some ⟨x, 0, none⟩)] W (GBool (P n) W)

theorem tells_lo (x : Nat) (b : Int) (w : World) (hx : w.cell? ⟨x, 0, none⟩ = some (.int .i64 b)) : Tells 51 x (fun n => decide (b ≤ n)) w := by
  rintro W hk n
  have hc := hk.cell hx
  have hxl : x < W.heap.size := World.block_lt_of_cell? _ _ hc
  clear hx hk
  go_enter Try.func51, Try.ntmps51
  go_wp2
  go_ret
  exact ⟨rfl, Kept.refl _⟩
theorem tells_hi (x : Nat) (b : Int) (w : World) (hx : w.cell? ⟨x, 0, none⟩ = some (.int .i64 b)) : Tells 52 x (fun n => decide (b < n)) w := by
  rintro W hk n
  have hc := hk.cell hx
  have hxl : x < W.heap.size := World.block_lt_of_cell? _ _ hc
  clear hx hk
  go_enter Try.func52, Try.ntmps52
  go_wp2
  go_ret
  exact ⟨rfl, Kept.refl _⟩
theorem tells_find (x : Nat) (b : Int) (w : World) (hx : w.cell? ⟨x, 0, none⟩ = some (.int .i64 b)) : Tells 58 x (fun n => decide (b ≤ n)) w := by
  rintro W hk n
  have hc := hk.cell hx
  have hxl : x < W.heap.size := World.block_lt_of_cell? _ _ hc
  clear hx hk
  go_enter Try.func58, Try.ntmps58
  go_wp2
  go_ret
  exact ⟨rfl, Kept.refl _⟩

set_option maxHeartbeats 1000000 in
set_option maxRecDepth 100000 in
/-- first's own closure at a place: what the closure that was handed in says of the number there. -/
theorem first1_any (k x bf bs p g c room start i : Nat) (P : Int → Bool) (last : Int) (es X : List Pk) (w : World) (eg : ∀ args w, (callFunc k args).run Try.prog w = .ok (.enter k args) w)
    (hf : w.cell? ⟨bf, 0, none⟩ = some (.func (.func k) #[] #[.pointer (some ⟨x, 0, none⟩)])) (hs : w.cell? ⟨bs, 0, none⟩ = some (.pointer (some ⟨p, 0, none⟩)))
    (h : LogAt w p g c room last es start X) (hi : i < es.length) (ht : Tells k x P w) :
    Calls Try.prog 60 #[.int .i64 i, .pointer (some ⟨bf, 0, none⟩), .pointer (some ⟨bs, 0, none⟩)] w (GBool (P (at_ es i).n) w) := by
  have hsn := (h.seen hi).n_
  have hlen := h.len
  have ha := Lib.hid (fun W hk => ((h.kept (w' := W) hk).at__ (i := i) (by omega)).mono fun _ _ h => Quiet.kept h)
  have ht' := Lib.hid (fun W hk => ht W hk (at_ es i).n)
  have hbf : bf < w.heap.size := World.block_lt_of_cell? _ _ hf
  have hbs : bs < w.heap.size := World.block_lt_of_cell? _ _ hs
  clear h ht
  generalize (at_ es i).n = m at *
  generalize (start + i) % room * 6 = q at *
  go_enter Try.func60, Try.ntmps60
  go_wp2
  go_region_held3 (fun w' => w'.cell? ⟨bf, 0, none⟩ = some (.func (.func k) #[] #[.pointer (some ⟨x, 0, none⟩)]) ∧ w'.cell? ⟨bs, 0, none⟩ = some (.pointer (some ⟨p, 0, none⟩)) ∧ w'.cell? ⟨g, q, none⟩ = some (.int .i64 m))
    (first | exact ⟨hf, hs, hsn⟩ | exact ⟨hk1.cell hf, hk1.cell hs, hk1.cell hsn⟩ | exact ⟨hk2.cell (hk1.cell hf), hk2.cell (hk1.cell hs), hk2.cell (hk1.cell hsn)⟩)
    ((first
      | (go_at_call 36; refine (ha.out _ ((Kept.refl w).drew)).mono ?_; rintro e w1 ⟨rfl, hk1⟩)
      | (go_at_fn k; refine (ht'.out _ (((Kept.refl w).drew).trans hk1)).mono ?_; rintro e w2 ⟨rfl, hk2⟩)))
  all_goals
    go_wp2
    go_ret
    exact ⟨rfl, (((Kept.refl w).drew).trans hk1).trans hk2⟩

set_option maxHeartbeats 1000000 in
set_option maxRecDepth 100000 in
/-- first: the first place at whose number the closure says yes. -/
theorem first_any (k x p g c room start : Nat) (P : Int → Bool) (last : Int) (es X : List Pk) (w : World) (eg : ∀ args w, (callFunc k args).run Try.prog w = .ok (.enter k args) w)
    (h : LogAt w p g c room last es start X) (ht : Tells k x P w) (hm : ∀ i, es.findIdx (fun q => P q.n) ≤ i → i < es.length → P (at_ es i).n = true) :
    Calls Try.prog 50 #[.pointer (some ⟨p, 0, none⟩), .func (.func k) #[] #[.pointer (some ⟨x, 0, none⟩)]] w (GInt (es.findIdx (fun q => P q.n) : Nat) w) := by
  have hplt := h.plt
  obtain ⟨W, hW⟩ : ∃ W, (w.alloc (.cells #[.pointer (some ⟨p, 0, none⟩)] 23)).alloc (.cells #[.func (.func k) #[] #[.pointer (some ⟨x, 0, none⟩)]] 74) = W := ⟨_, rfl⟩
  have hk : Kept w W := by rw [← hW]; exact ((Kept.refl w).alloc _).alloc _
  have c1 : W.cell? ⟨w.heap.size, 0, none⟩ = some (.pointer (some ⟨p, 0, none⟩)) := by rw [← hW]; exact ((Kept.refl _).alloc _).cell (cell_box w _ _)
  have c2 : W.cell? ⟨w.heap.size + 1, 0, none⟩ = some (.func (.func k) #[] #[.pointer (some ⟨x, 0, none⟩)]) := by rw [← hW]; exact cell_box2 w _ _ _
  have hlen : es.length < 4611686018427387904 := by have := h.len; have := h.ok.room1; omega
  have hu := h.used_
  have hs := search_any 60 #[.pointer (some ⟨w.heap.size + 1, 0, none⟩), .pointer (some ⟨w.heap.size, 0, none⟩)] es.length (es.findIdx (fun q => P q.n)) (fun i => P (at_ es i).n) W
    (enters_of Try.func60 (by kernel_rfl) rfl) hlen
    (fun W' hk' i hi => first1_any k x _ _ p g c room start i P last es X W' eg (hk'.cell c2) (hk'.cell c1) ((h.kept hk).kept hk') hi (fun W2 hk2 r => ht W2 ((hk.trans hk').trans hk2) r)) List.findIdx_le_length
    (fun i hi => by
      have h1 := List.not_of_lt_findIdx hi
      have h2 : i < es.length := Nat.lt_of_lt_of_le hi List.findIdx_le_length
      rw [at_of h2]; simpa using h1) hm
  have HW := Lib.hid hW
  have HK := Lib.hid hk
  clear hW hk h ht hm c2
  generalize es.findIdx (fun q => P q.n) = n at *
  generalize es.length = m at *
  go_enter Try.func50, Try.ntmps50
  go_wp2_with fail
  rw [HW.out]
  refine hs.mono ?_
  rintro e w' ⟨rfl, hk'⟩
  go_wp2_with fail
  go_ret
  exact ⟨rfl, HK.out.trans hk'⟩

/-- What find answers. -/
def findI (es : List Pk) (n : Int) : Int := if foundB es n = true then (place es n : Nat) else -1
theorem findI_eq (es : List Pk) (n : Int) : findI es n = if foundB es n = true then ((place es n : Nat) : Int) else -1 := rfl

set_option maxHeartbeats 2000000 in
set_option maxRecDepth 100000 in
/-- find: the place of the packet with a number, or -1. -/
theorem find_any (p g c room start : Nat) (last : Int) (es X : List Pk) (n : Int) (w : World) (h : LogAt w p g c room last es start X) :
    Calls Try.prog 41 #[.pointer (some ⟨p, 0, none⟩), .int .i64 n] w (GInt (findI es n) w) := by
  have hfi := Lib.hid (findI_eq es n)
  generalize findI es n = F at *
  have hplt := h.plt
  obtain ⟨W, hW⟩ : ∃ W, w.alloc (.cells #[.int .i64 n] 3) = W := ⟨_, rfl⟩
  have hk : Kept w W := by rw [← hW]; exact (Kept.refl w).alloc _
  have c1 : W.cell? ⟨w.heap.size, 0, none⟩ = some (.int .i64 n) := by rw [← hW]; exact cell_box w _ _
  have hxl : w.heap.size < W.heap.size := World.block_lt_of_cell? _ _ c1
  have ha := (h.kept hk).absent_
  have hf : Calls _ _ _ _ (GInt (place es n : Nat) W) := first_any 58 w.heap.size p g c room start (fun m => decide (n ≤ m)) last es X W (enters_of Try.func58 (by kernel_rfl) rfl) (h.kept hk) (tells_find _ n W c1)
    (fun i h1 h2 => decide_eq_true (place_ge h.ok.rise h1 h2))
  have hle := place_le es n
  have hroom := h.ok.room1
  have hlr := h.len
  have HW := Lib.hid hW
  have HK := Lib.hid hk
  have H := Lib.hid (h.kept hk)
  clear hW hk h
  go_enter Try.func41, Try.ntmps41
  go_wp2_with fail
  rw [HW.out]
  refine ha.mono ?_
  rintro e w' ⟨rfl, rfl⟩
  go_wp2_with fail
  refine hf.mono ?_
  rintro e w1 ⟨rfl, hk1⟩
  have HL := Lib.hid (H.out.kept hk1)
  have HK1 : Hid (Kept w w1) := HK.out.trans hk1
  have hx1 := hk1.cell c1
  have hxl1 : w.heap.size < w1.heap.size := Nat.lt_of_lt_of_le hxl hk1.size
  have hu := HL.out.used_
  have hpl1 := HL.out.plt
  clear ha hf HW HK H hk1 c1 hxl
  by_cases hlt : place es n < es.length
  · have hsn := HL.out.seen hlt
    have hat := Lib.hid (fun W hk => ((HL.out.kept (w' := W) hk).at__ (i := place es n) (by omega)).mono fun _ _ h => Quiet.kept h)
    have e1 := Lib.hid (show foundB es n = (decide ((at_ es (place es n)).n = n) && real (at_ es (place es n))) by unfold foundB; simp [hlt])
    have e0 : (((place es n : Nat) : Int) == ((es.length : Nat) : Int)) = false := by simp only [beq_eq_false_iff_ne]; omega
    have hatq := Lib.hid (fun k => HL.out.atq (i := place es n) (by omega) k)
    have hkA := (Kept.refl w1).drew
    have hig := Lib.hid (fun W => isGap_any (at_ es (place es n)) W)
    unfold pkV at hig
    have hgl : g < w1.heap.size := HL.out.glt
    obtain ⟨_, _, h0, ht, hs, he, hf, hc⟩ := hsn
    clear HL
    generalize at_ es (place es n) = x at *
    generalize (start + place es n) % room * 6 = q at *
    by_cases hn : x.n = n
    · have e2 : Hid ((n != n) = false) := by show _ = _; simp
      have e3 : Hid (F = if real x = true then ((place es n : Nat) : Int) else -1) := by show _ = _; rw [hfi.out, e1.out]; simp [hn]
      clear e1 hfi
      rw [hn] at h0 hig
      cases hr : real x with
      | true =>
        rw [hr] at hig e3
        have e4 : Hid (F = ((place es n : Nat) : Int)) := by show _ = _; rw [e3.out]; rfl
        clear e3
        generalize place es n = a at *
        generalize es.length = m at *
        go_wp2_with fail
        go_region_held3 (fun w' => Kept w1 w' ∧ w'.cell? ⟨w.heap.size, 0, none⟩ = some (.int .i64 n) ∧ w'.cell? ⟨p, 2, none⟩ = some (.int .i64 m) ∧ w'.cell? ⟨g, q, none⟩ = some (.int .i64 n) ∧ w'.cell? ⟨g, q + 1, none⟩ = some (.int .i64 x.t) ∧ w'.cell? ⟨g, q + 2, none⟩ = some (.int .i64 x.s) ∧ w'.cell? ⟨g, q + 3, none⟩ = some (.bool x.e) ∧ w'.cell? ⟨g, q + 4, none⟩ = some (.bool x.f) ∧ w'.cell? ⟨g, q + 5, none⟩ = some (.bool x.c))
          (exact ⟨hkA, hkA.cell hx1, hkA.cell hu, hkA.cell h0, hkA.cell ht, hkA.cell hs, hkA.cell he, hkA.cell hf, hkA.cell hc⟩)
          ((first
            | (go_at_call 36; refine (hat.out _ hkA).mono ?_; rintro e w2 ⟨rfl, hk2⟩; replace hkA := hkA.trans hk2)
            | (go_at_call 56; refine (hig.out _).mono ?_; rintro e w2 ⟨rfl, hk2⟩; replace hkA := hkA.trans hk2)))
        all_goals
          go_wp2_with fail
          go_ret
          exact ⟨ret_int e4.out.symm, HK1.out.trans hkA⟩
      | false =>
        rw [hr] at hig e3
        have e4 : Hid (F = -1) := by show _ = _; rw [e3.out]; rfl
        clear e3
        generalize place es n = a at *
        generalize es.length = m at *
        go_wp2_with fail
        go_region_held3 (fun w' => Kept w1 w' ∧ w'.cell? ⟨w.heap.size, 0, none⟩ = some (.int .i64 n) ∧ w'.cell? ⟨p, 2, none⟩ = some (.int .i64 m) ∧ w'.cell? ⟨g, q, none⟩ = some (.int .i64 n) ∧ w'.cell? ⟨g, q + 1, none⟩ = some (.int .i64 x.t) ∧ w'.cell? ⟨g, q + 2, none⟩ = some (.int .i64 x.s) ∧ w'.cell? ⟨g, q + 3, none⟩ = some (.bool x.e) ∧ w'.cell? ⟨g, q + 4, none⟩ = some (.bool x.f) ∧ w'.cell? ⟨g, q + 5, none⟩ = some (.bool x.c))
          (exact ⟨hkA, hkA.cell hx1, hkA.cell hu, hkA.cell h0, hkA.cell ht, hkA.cell hs, hkA.cell he, hkA.cell hf, hkA.cell hc⟩)
          ((first
            | (go_at_call 36; refine (hat.out _ hkA).mono ?_; rintro e w2 ⟨rfl, hk2⟩; replace hkA := hkA.trans hk2)
            | (go_at_call 56; refine (hig.out _).mono ?_; rintro e w2 ⟨rfl, hk2⟩; replace hkA := hkA.trans hk2)))
        all_goals
          go_wp2_with fail
          go_ret
          exact ⟨ret_int e4.out.symm, HK1.out.trans hkA⟩
    · have e2 : (x.n != n) = true := by simp [hn]
      have e2' : (x.n == n) = false := by simp [hn]
      have e4 : Hid (F = -1) := by show _ = _; rw [hfi.out, e1.out]; simp [hn]
      clear e1 hfi
      generalize place es n = a at *
      generalize es.length = m at *
      go_wp2_with fail
      go_quiet ((go_at_call 36; exact hatq.out _))
      go_wp2
      go_ret
      exact ⟨ret_int e4.out.symm, HK1.out.trans ((Kept.refl _).drewN _)⟩
  · have e4 : Hid (F = -1) := by show _ = _; rw [hfi.out]; unfold foundB; simp [hlt]
    have e0 : place es n = es.length := by omega
    clear HL hfi
    generalize place es n = a at *
    generalize es.length = m at *
    subst e0
    go_wp2_with fail
    go_quiet (fail)
    go_wp2
    go_ret
    exact ⟨ret_int e4.out.symm, HK1.out.trans ((Kept.refl _).drewN _)⟩

end Go.Proofs.Ytfbhmfkjpfbleaa.Snt
