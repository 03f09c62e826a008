/-
  The law PersistKnown: lists and times that may not be; both ends.
-/
import Derived.Test.YtdfjceghhjecaaaLPerTells
import Derived.Deep.Cut
import Derived.Deep.CutRange
import Derived.Deep.RegionHeld3
namespace Go.Proofs.Ytdfjceghhjecaaa.Law
open Go.RowKit SntM Cd Wd PerM Per
open LosM hiding isT
open SpnM (R Rises has addTo addErr)
open Spn (Row)
open Snt (pkC pkV pkA PRow GBool)
open Los (Src)
open RttM (Rt chk)
open Rtt (rtV rtA Gives)
set_option linter.unusedVariables false
set_option linter.unusedSimpArgs false

/-- A block that holds just these numbers. -/
def Nm (V : World) (Y : Nat) (t : TypeId) (L : List Int) : Prop := Blk V Y t (L.map (Value.int .i64)).toArray
def nt (L : List Int) (k : Nat) : Int := L.getD k 0
theorem Nm.cell {V : World} {Y : Nat} {t : TypeId} {L : List Int} (h : Nm V Y t L) {k : Nat} (hk : k < L.length) : V.cell? ⟨Y, k, none⟩ = some (.int .i64 (nt L k)) := by
  rw [Blk.cell h k]; simp [nt, List.getD, hk]
theorem Nm.kept {V V' : World} {Y : Nat} {t : TypeId} {L : List Int} (h : Nm V Y t L) (k : Kept V V') : Nm V' Y t L := Blk.kept h k
theorem Nm.far {V : World} {Y Z : Nat} {t : TypeId} {L : List Int} (h : Nm V Y t L) (hne : Y ≠ Z) (k : Nat) (v : Value) : Nm (V.setCell ⟨Z, k, none⟩ v) Y t L := Blk.far h (p := ⟨Z, k, none⟩) hne v
theorem prow_blk {V : World} {G : Nat} {l : List Pk} (h : PRow V (some ⟨G, 0, none⟩) 4 4 l) : Blk V G 31 (flat pkC l).toArray := by
  rcases h.form with ⟨e, _⟩ | ⟨g, cur, e, hb, h1, h2, h3, h4⟩
  · cases e
  · obtain rfl : G = g := by injection e with e; injection e
    have e2 : cur.toList.take (4 * pkC.size) = cur.toList := List.take_of_length_le (by rw [Array.length_toList, h3]; exact Nat.le_refl _)
    rw [e2] at h4
    rw [← h4]
    simpa using hb
theorem blk_src {V : World} {G : Nat} {l : List Pk} (h : Blk V G 31 (flat pkC l).toArray) (h4 : l.length = 4) : Src V (some ⟨G, 0, none⟩) 4 4 l :=
  Src.of_row (Rw.mk' h4 h (Nat.le_refl _) (by unfold maxLen; omega) (by simp [flat_length, h4]) (by simp only []; exact List.take_of_length_le (by rw [flat_length, h4]; omega)))

/-- What lies there: the ends; a measure in its box. -/
structure Kn (w V : World) (E : Nat) (le : List Int) : Prop where
  e : Nm V E 3 le
  k : Kept w V
  lo : w.heap.size ≤ E
  ll : le.length = 8
theorem Kn.on {w V V' : World} {E : Nat} {le : List Int} (h : Kn w V E le) (k : Kept V V') : Kn w V' E le := ⟨h.e.kept k, h.k.trans k, h.lo, h.ll⟩
structure Kr (w V : World) (E q : Nat) (le : List Int) (f : Int) : Prop where
  a : Kn w V E le
  b : Blk V q 42 (rtA ⟨9, 9, 10, 0, f⟩)
  lo : w.heap.size ≤ q
theorem Kr.on {w V V' : World} {E q : Nat} {le : List Int} {f : Int} (h : Kr w V E q le f) (k : Kept V V') : Kr w V' E q le f := ⟨h.a.on k, h.b.kept k, h.lo⟩
/-- The same, and two lists of four packets. -/
structure Kt (w V : World) (E q G H : Nat) (le : List Int) (f : Int) (l m : List Pk) : Prop where
  a : Kr w V E q le f
  g : Blk V G 31 (flat pkC l).toArray
  h : Blk V H 31 (flat pkC m).toArray
  l4 : l.length = 4
  m4 : m.length = 4
theorem Kt.on {w V V' : World} {E q G H : Nat} {le : List Int} {f : Int} {l m : List Pk} (h : Kt w V E q G H le f l m) (k : Kept V V') : Kt w V' E q G H le f l m := ⟨h.a.on k, h.g.kept k, h.h.kept k, h.l4, h.m4⟩
theorem Kt.cells {w V : World} {E q G H : Nat} {le : List Int} {f : Int} {l m : List Pk} (h : Kt w V E q G H le f l m) {k : Nat} (hk : k < 8) :
    V.cell? ⟨q, 0, none⟩ = some (.int .i64 9) ∧ V.cell? ⟨q, 1, none⟩ = some (.int .i64 9) ∧ V.cell? ⟨q, 2, none⟩ = some (.int .i64 10) ∧ V.cell? ⟨q, 3, none⟩ = some (.int .i64 0) ∧ V.cell? ⟨q, 4, none⟩ = some (.int .i64 f) ∧ V.cell? ⟨E, k, none⟩ = some (.int .i64 (nt le k)) :=
  ⟨h.a.b.cell 0, h.a.b.cell 1, h.a.b.cell 2, h.a.b.cell 3, h.a.b.cell 4, h.a.a.e.cell (by rw [h.a.a.ll]; exact hk)⟩
/-- A store into a block that lies apart. -/
theorem Kr.set {w V : World} {E q G : Nat} {le : List Int} {f : Int} (h : Kr w V E q le f) (h1 : E ≠ G) (h2 : q ≠ G) (h3 : w.heap.size ≤ G) (k : Nat) (v : Value) : Kr w (V.setCell ⟨G, k, none⟩ v) E q le f :=
  ⟨⟨h.a.e.far h1 k v, h.a.k.setCell (p := ⟨G, k, none⟩) h3 v, h.a.lo, h.a.ll⟩, h.b.far (p := ⟨G, k, none⟩) h2 v, h.lo⟩
theorem blk_put {V : World} {G : Nat} {l l' : List Pk} (h : Blk V G 31 (flat pkC l).toArray) (k : Nat) (v : Value) (hl : (flat pkC l).toArray.setIfInBounds k v = (flat pkC l').toArray) : Blk (V.setCell ⟨G, k, none⟩ v) G 31 (flat pkC l').toArray := by
  rw [← hl]; exact h.set_ k v
def endsL : List Int := [-9223372036854775808, -1, 0, 1, 10, 9007199254740991, 9007199254740992, 9223372036854775807]
def fourT (t : Int) : List Pk := [mk 1 10, mk 3 50, mk 5 60, mk 8 t]
def fourN (x : Int) : List Pk := [mk 1 10, mk 3 50, mk 5 60, mk x 200]
def fourY (x y : Int) : List Pk := [mk 1 y, mk 3 50, mk 5 60, mk x 200]
theorem rrow2 (W : World) (a b : Int) : Row (W.alloc (.cells #[.int .i64 a, .int .i64 b] 49)) (some ⟨W.heap.size, 0, none⟩) 1 1 [(a, b)] := rrow_lit W [(a, b)] (by simp)
theorem keptL (W : World) (a b : Int) : Kept W (W.alloc (.cells #[.int .i64 a, .int .i64 b] 49)) := (Kept.refl W).alloc _
theorem tl_is {G : Nat} {l : List Pk} {B : Option Addr} {n2 c2 : Nat} {rs : List R} (f : Int) {W : World} (h : Src W (some ⟨G, 0, none⟩) 4 4 l) (hr : Row W B n2 c2 rs) :
    Calls Try.prog 19 #[.slice (some ⟨G, 0, none⟩) 4 4, .slice B n2 c2, .agg #[.int .i64 9, .int .i64 9, .int .i64 10, .int .i64 0, .int .i64 f]] W (GBool true W) := persistTells_any _ 4 4 l B n2 c2 rs ⟨9, 9, 10, 0, f⟩ W h hr (by omega)
theorem four_lit (W : World) (a b : Int) : Calls Try.prog 18 #[] (W.alloc (.cells #[.int .i64 a, .int .i64 b] 49)) fun e w' => ∃ g, e = .returned (.slice (some ⟨g, 0, none⟩) 4 4) ∧ Row w' (some ⟨W.heap.size, 0, none⟩) 1 1 [(a, b)] ∧ PRow w' (some ⟨g, 0, none⟩) 4 4 fourL ∧ Kept W w' :=
  (four_any _).mono fun e w' ⟨g, h1, h2, h3, h4⟩ => ⟨g, h1, (rrow2 W a b).kept h3, h2, (keptL W a b).trans h3⟩

/-! Behind the loops: a new measure has no first time. -/
def newM : Rt := ⟨0, 0, 333000000, 166500000, -1⟩
def pairL : List Pk := [mk 3 9, mk 4 20]
def farL : List Pk := [mk 1 8, mk 2 1125899906842624]
theorem kx1 : decide (perOf (has (adds [(3, 4)])) pairL 5 = some (11, 3, 4)) = true := by decide +kernel
theorem kx2 : decide (perOf (has (adds [(0, 9)])) pairL 5 = some (11, 3, 4)) = true := by decide +kernel
theorem kx3 : (perOf (has []) [] 0).isNone = true := by decide +kernel
theorem kx4 : (perOf (has []) [mk 5 9] 0).isNone = true := by decide +kernel
theorem kx5 : isT (has []) farL newM 0 = false := by decide +kernel
structure Ce (w V : World) (q : Nat) : Prop where
  b : Blk V q 42 (rtA newM)
  k : Kept w V
theorem Ce.on {w V V' : World} {q : Nat} (h : Ce w V q) (k : Kept V V') : Ce w V' q := ⟨h.b.kept k, h.k.trans k⟩
theorem Ce.cells {w V : World} {q : Nat} (h : Ce w V q) : V.cell? ⟨q, 0, none⟩ = some (.int .i64 0) ∧ V.cell? ⟨q, 1, none⟩ = some (.int .i64 0) ∧ V.cell? ⟨q, 2, none⟩ = some (.int .i64 333000000) ∧ V.cell? ⟨q, 3, none⟩ = some (.int .i64 166500000) ∧ V.cell? ⟨q, 4, none⟩ = some (.int .i64 (-1)) :=
  ⟨h.b.cell 0, h.b.cell 1, h.b.cell 2, h.b.cell 3, h.b.cell 4⟩
theorem at_lit (n t : Int) (W : World) : Calls Try.prog 16 #[.int .i64 n, .int .i64 t] W fun e w' => e = .returned (.agg #[.int .i64 n, .int .i64 t, .int .i64 100, .bool true, .bool true, .bool false]) ∧ Kept W w' := at_any n t W
theorem none_nil (W : World) : Calls Try.prog 13 #[.slice none 0 0, .pointer none, .int .i64 0] W (GBool true W) := by
  have := none_any (P := none) (L := []) 0 W (Src.nil W) (ASet.nil W); rw [kx3] at this; exact this
theorem none_one (W : World) : Calls Try.prog 13 #[.slice (some ⟨W.heap.size, 0, none⟩) 1 1, .pointer none, .int .i64 0] (W.alloc (.cells #[.int .i64 5, .int .i64 9, .int .i64 100, .bool true, .bool true, .bool false] 31)) fun e w' => e = .returned (.bool true) ∧ Kept W w' := by
  have := none_any (P := none) (L := []) 0 _ (Src.of_row (prow_lit W [mk 5 9] (by simp))) (ASet.nil _)
  rw [kx4] at this
  exact this.mono fun e w' ⟨h1, h2⟩ => ⟨h1, ((Kept.refl W).alloc _).trans h2⟩
theorem is_far (W : World) : Calls Try.prog 17 #[.slice (some ⟨W.heap.size, 0, none⟩) 2 2, .pointer none, .agg #[.int .i64 0, .int .i64 0, .int .i64 333000000, .int .i64 166500000, .int .i64 (-1)], .int .i64 0] (W.alloc (.cells #[.int .i64 1, .int .i64 8, .int .i64 100, .bool true, .bool true, .bool false, .int .i64 2, .int .i64 1125899906842624, .int .i64 100, .bool true, .bool true, .bool false] 31)) fun e w' => e = .returned (.bool false) ∧ Kept W w' := by
  have := isT_any (P := none) (L := []) newM 0 _ (Src.of_row (prow_lit W farL (by decide))) (ASet.nil _)
  rw [kx5] at this
  exact this.mono fun e w' ⟨h1, h2⟩ => ⟨h1, ((Kept.refl W).alloc _).trans h2⟩

set_option maxRecDepth 100000 in
set_option maxHeartbeats 8000000 in
theorem persistKnown_any (w : World) : Calls Try.prog 7 #[] w (GBool true w) := by
  go_enter Try.func7, Try.ntmps7
  go_wp2_with fail
  obtain ⟨W, hW, HE, KW⟩ : ∃ W, W = w.alloc (.cells (endsL.map (Value.int .i64)).toArray 3) ∧ Nm W w.heap.size 3 endsL ∧ Kept w W := ⟨_, rfl, Blk.new _ _ _, (Kept.refl w).alloc _⟩
  change Code.wp _ _ _ _ (w.alloc (.cells (endsL.map (Value.int .i64)).toArray 3))
  rw [← hW]
  have P0 : Hid (Kn w W w.heap.size endsL) := Lib.hid ⟨HE, KW, Nat.le_refl _, rfl⟩
  clear hW HE KW
  obtain ⟨E, hE⟩ : ∃ E, w.heap.size = E := ⟨_, rfl⟩
  rw [hE] at P0 ⊢
  clear hE
  generalize endsL = le at *
  go_loopw [2] (fun s2 wr => ∃ i : Nat, i ≤ 8 ∧ s2 = .int .i64 i ∧ Hid (Kn w wr E le)) (fun s2 _ => 8 - (intOf s2).toNat)
  case atStart => exact ⟨0, Nat.zero_le _, rfl, P0⟩
  case round =>
    obtain ⟨i, hi, rfl, HB⟩ := hrel
    clear P0
    by_cases hlt : i < 8
    · have hi0 : (0 : Int) ≤ (i : Int) := by omega
      have hi1 : (i : Int) < 8 := by omega
      have hwi : IntKind.i64.wrap ((i : Int) + 1) = (i : Int) + 1 := IntWalk.i64_in _ (by omega)
      have ei := HB.out.e.cell (k := i) (by rw [HB.out.ll]; exact hlt)
      obtain ⟨f, hf⟩ : ∃ f, nt le i = f := ⟨_, rfl⟩
      rw [hf] at ei
      have HF := Lib.hid hf
      clear hf
      go_upto_region 6 with (fail)
      have BX := Blk.new wr 42 (rtA ⟨9, 9, 10, 0, f⟩)
      have ka := (Kept.refl wr).alloc (.cells (rtA ⟨9, 9, 10, 0, f⟩) 42)
      have HR := Lib.hid (show Kr w _ E wr.heap.size le f from ⟨HB.out.on ka, BX, HB.out.k.size⟩)
      change Code.wp _ _ _ _ (wr.alloc (.cells (rtA ⟨9, 9, 10, 0, f⟩) 42))
      obtain ⟨q, hq⟩ : ∃ q, wr.heap.size = q := ⟨_, rfl⟩
      rw [hq] at HR ⊢
      obtain ⟨w1, hw⟩ : ∃ W, wr.alloc (.cells (rtA ⟨9, 9, 10, 0, f⟩) 42) = W := ⟨_, rfl⟩
      rw [hw] at HR ⊢
      clear hw hq BX ka ei HB
      go_wp2_with fail
      go_loopw [4] (fun s4 wr => ∃ k : Nat, k ≤ 8 ∧ s4 = .int .i64 k ∧ Hid (Kr w wr E q le f)) (fun s4 _ => 8 - (intOf s4).toNat)
      case atStart => exact ⟨0, Nat.zero_le _, rfl, HR⟩
      case round =>
        obtain ⟨k, hk, rfl, HC⟩ := hrel
        clear HR
        by_cases hlt2 : k < 8
        · have hk0 : (0 : Int) ≤ (k : Int) := by omega
          have hk1 : (k : Int) < 8 := by omega
          have hwk : IntKind.i64.wrap ((k : Int) + 1) = (k : Int) + 1 := IntWalk.i64_in _ (by omega)
          go_wp2_with fail
          refine (four_any _).mono ?_
          rintro e w2 ⟨G, rfl, r2, k2, hG⟩
          have HA := Lib.hid (HC.out.on k2)
          have BG := Lib.hid (prow_blk r2)
          have hEG : E ≠ G := Nat.ne_of_lt (Nat.lt_of_lt_of_le (Blk.lt HC.out.a.e) hG)
          have hqG : q ≠ G := Nat.ne_of_lt (Nat.lt_of_lt_of_le HC.out.b.lt hG)
          have hwG : w.heap.size ≤ G := Nat.le_trans HC.out.a.k.size hG
          clear r2 k2 hG
          obtain ⟨x, hx⟩ : ∃ x, nt le k = x := ⟨_, rfl⟩
          have HX := Lib.hid hx
          have ek := HA.out.a.e.cell (k := k) (by rw [HA.out.a.ll]; exact hlt2)
          rw [hx] at ek
          clear hx
          have c19 : w2.cell? ⟨G, 19, none⟩ = some (.int .i64 200) := BG.out.cell 19
          have f19 := BG.out.frozen 19
          have A2 := Lib.hid (HA.out.set hEG hqG hwG 19 (.int .i64 x))
          have B2 := Lib.hid (blk_put BG.out 19 (.int .i64 x) (l' := fourT x) rfl)
          go_upto_region 11 with (fail)
          generalize w2.setCell ⟨G, 19, none⟩ (.int .i64 x) = w3 at *
          clear ek c19 f19 HA BG
          go_wp2_with fail
          refine (four_any _).mono ?_
          rintro e w4 ⟨H, rfl, r4, k4, hH⟩
          have A4 := Lib.hid (A2.out.on k4)
          have B4 := Lib.hid (B2.out.kept k4)
          have C4 := Lib.hid (prow_blk r4)
          have hEH : E ≠ H := Nat.ne_of_lt (Nat.lt_of_lt_of_le (Blk.lt A2.out.a.e) hH)
          have hqH : q ≠ H := Nat.ne_of_lt (Nat.lt_of_lt_of_le A2.out.b.lt hH)
          have hGH : G ≠ H := Nat.ne_of_lt (Nat.lt_of_lt_of_le B2.out.lt hH)
          have hwH : w.heap.size ≤ H := Nat.le_trans A2.out.a.k.size hH
          clear r4 k4 hH A2 B2
          have ek := A4.out.a.e.cell (k := k) (by rw [A4.out.a.ll]; exact hlt2)
          have ei := A4.out.a.e.cell (k := i) (by rw [A4.out.a.ll]; exact hlt)
          rw [HX.out] at ek
          rw [HF.out] at ei
          obtain ⟨y, hy⟩ : ∃ y, max 0 (min 9007199254740991 f) = y := ⟨_, rfl⟩
          have c18 : w4.cell? ⟨H, 18, none⟩ = some (.int .i64 8) := C4.out.cell 18
          have f18 := C4.out.frozen 18
          have c1 : w4.cell? ⟨H, 1, none⟩ = some (.int .i64 10) := C4.out.cell 1
          have f1 := C4.out.frozen 1
          have A5 := Lib.hid ((A4.out.set hEH hqH hwH 18 (.int .i64 x)).set hEH hqH hwH 1 (.int .i64 y))
          have B5 := Lib.hid ((B4.out.far (p := ⟨H, 18, none⟩) hGH (.int .i64 x)).far (p := ⟨H, 1, none⟩) hGH (.int .i64 y))
          have C5 := Lib.hid (blk_put (blk_put C4.out 18 (.int .i64 x) (l' := fourN x) rfl) 1 (.int .i64 y) (l' := fourY x y) rfl)
          have hHE : H ≠ E := hEH.symm
          go_upto_region 14 with (fail)
          change Code.wp _ _ _ _ ((w4.setCell ⟨H, 18, none⟩ (.int .i64 x)).setCell ⟨H, 1, none⟩ (.int .i64 y))
          generalize (w4.setCell ⟨H, 18, none⟩ (.int .i64 x)).setCell ⟨H, 1, none⟩ (.int .i64 y) = w6 at *
          have D0 := Lib.hid (show Kt w w6 E q G H le f (fourT x) (fourY x y) from ⟨A5.out, B5.out, C5.out, rfl, rfl⟩)
          clear ek ei c18 f18 c1 f1 A4 B4 C4 A5 B5 C5 hy
          have D := Lib.hid (D0.out.on (Kept.refl w6).drew)
          have DL := Lib.hid (D0.out.on ((keptL w6 2 2).drew))
          have RL := Lib.hid ((rrow2 w6 2 2).kept (Kept.refl _).drew)
          have cq : Hid (∀ V, Kt w V E q G H le f (fourT x) (fourY x y) → V.cell? ⟨q, 0, none⟩ = some (.int .i64 9) ∧ V.cell? ⟨q, 1, none⟩ = some (.int .i64 9) ∧ V.cell? ⟨q, 2, none⟩ = some (.int .i64 10) ∧ V.cell? ⟨q, 3, none⟩ = some (.int .i64 0) ∧ V.cell? ⟨q, 4, none⟩ = some (.int .i64 f) ∧ V.cell? ⟨E, k, none⟩ = some (.int .i64 x)) := Lib.hid fun V h => by
            have := h.cells hlt2; rw [HX.out] at this; exact this
          go_region_held3 (fun V => V.cell? ⟨q, 0, none⟩ = some (.int .i64 9) ∧ V.cell? ⟨q, 1, none⟩ = some (.int .i64 9) ∧ V.cell? ⟨q, 2, none⟩ = some (.int .i64 10) ∧ V.cell? ⟨q, 3, none⟩ = some (.int .i64 0) ∧ V.cell? ⟨q, 4, none⟩ = some (.int .i64 f) ∧ V.cell? ⟨E, k, none⟩ = some (.int .i64 x))
            (first | with_reducible exact cq.out _ D.out | with_reducible exact cq.out _ DL.out | with_reducible exact cq.out _ (D.out.on (keptL _ _ _)))
            (first
              | (go_at_call 19; (with_reducible refine (tl_is f (blk_src DL.out.g DL.out.l4) RL.out).mono ?_); rintro e w' ⟨rfl, hk⟩; have D := Lib.hid (DL.out.on hk); clear hk)
              | (go_at_call 19; (with_reducible refine (tl_is f (blk_src (D.out.on (keptL _ 2 2)).g D.out.l4) (rrow2 _ 2 2)).mono ?_); rintro e w' ⟨rfl, hk⟩; have D := Lib.hid (D.out.on ((keptL _ 2 2).trans hk)); clear hk)
              | (go_at_call 19; (with_reducible refine (tl_is f (blk_src D.out.h D.out.m4) (Spn.Row.nil _)).mono ?_); rintro e w' ⟨rfl, hk⟩; have D := Lib.hid (D.out.on hk); clear hk)
              | (go_at_call 18; (with_reducible refine (four_lit _ x x).mono ?_); rintro e w' ⟨G3, rfl, hz, hr, hk⟩; have D := Lib.hid (D.out.on hk); have Z := Lib.hid hz; have R3 := Lib.hid (Src.of_row hr); clear hk hz hr)
              | (go_at_call 18; (with_reducible refine (four_any _).mono ?_); rintro e w' ⟨G3, rfl, hr, hk, hg⟩; have D := Lib.hid (D.out.on hk); have R3 := Lib.hid (Src.of_row hr); clear hk hr hg)
              | (go_at_call 19; (with_reducible refine (tl_is f R3.out Z.out).mono ?_); rintro e w' ⟨rfl, hk⟩; have D := Lib.hid (D.out.on hk); clear hk)
              | (go_at_call 19; (with_reducible refine (tl_is f (R3.out.kept (keptL _ x x)) (rrow2 _ x x)).mono ?_); rintro e w' ⟨rfl, hk⟩; have D := Lib.hid (D.out.on ((keptL _ x x).trans hk)); clear hk))
          all_goals
            go_wp2_with fail
            go_roundw
            case rel => exact ⟨k + 1, by omega, by go_num, Lib.hid D.out.a⟩
            case measure => simp [intOf]; omega
        · obtain rfl : k = 8 := by omega
          have HN := Lib.hid HC.out.a
          clear HC
          go_wp2_with fail
          go_roundw
          case rel => exact ⟨i + 1, by omega, by go_num, HN⟩
          case measure => simp [intOf]; omega
    · obtain rfl : i = 8 := by omega
      have K := Lib.hid HB.out.k
      clear HB
      go_upto_region 17 with (fail)
      have D := Lib.hid (show Ce w _ wr.heap.size from ⟨Blk.new wr 42 (rtA newM), K.out.alloc (.cells (rtA newM) 42)⟩)
      change Code.wp _ _ _ _ (wr.alloc (.cells (rtA newM) 42))
      obtain ⟨q, hq⟩ : ∃ q, wr.heap.size = q := ⟨_, rfl⟩
      rw [hq] at D ⊢
      generalize wr.alloc (.cells (rtA newM) 42) = w1 at *
      clear hq K
      go_wp2_with fail
      refine (at_lit _ _ _).mono ?_
      rintro e w2 ⟨rfl, hk⟩
      have D := Lib.hid (D.out.on hk)
      clear hk
      go_wp2_with fail
      refine (at_lit _ _ _).mono ?_
      rintro e w3 ⟨rfl, hk⟩
      have D := Lib.hid (D.out.on hk)
      clear hk
      go_upto_region 18 with (fail)
      have R := Lib.hid (Src.of_row (prow_lit w3 pairL (by decide)))
      have D := Lib.hid (D.out.on ((Kept.refl w3).alloc (.cells (flat pkC pairL).toArray 31)))
      change Code.wp _ _ _ _ (w3.alloc (.cells (flat pkC pairL).toArray 31))
      obtain ⟨g, hg⟩ : ∃ g, w3.heap.size = g := ⟨_, rfl⟩
      rw [hg] at R ⊢
      have R : Hid (Src (w3.alloc (.cells (flat pkC pairL).toArray 31)) (some ⟨g, 0, none⟩) 2 2 pairL) := R
      generalize w3.alloc (.cells (flat pkC pairL).toArray 31) = w4 at *
      clear hg
      go_wp2_with fail
      have rl := rrow_lit w4 [(3, 4)] (by decide)
      have ka := (Kept.refl w4).alloc (.cells (Spn.flat [(3, 4)]).toArray 49)
      refine (set_any _ _ _ _ _ rl).mono ?_
      rintro e w6 ⟨p, A, c, rfl, hm⟩
      have hk := ka.trans hm.2.1
      have R := Lib.hid (R.out.kept hk)
      have D := Lib.hid (D.out.on hk)
      have S := Lib.hid (mine_aset hm)
      clear rl ka hk hm
      have C := Lib.hid (is_any 5 11 3 4 w6 R.out S.out)
      rw [kx1] at C
      go_wp2_with fail
      refine C.out.mono ?_
      rintro e w7 ⟨rfl, hk⟩
      have R := Lib.hid (R.out.kept hk)
      have D := Lib.hid (D.out.on hk)
      clear hk S C
      go_wp2_with fail
      have rl := rrow_lit w7 [(0, 9)] (by decide)
      have ka := (Kept.refl w7).alloc (.cells (Spn.flat [(0, 9)]).toArray 49)
      refine (set_any _ _ _ _ _ rl).mono ?_
      rintro e w8 ⟨p2, A2, c2, rfl, hm⟩
      have hk := ka.trans hm.2.1
      have R := Lib.hid (R.out.kept hk)
      have D := Lib.hid (D.out.on hk)
      have S := Lib.hid (mine_aset hm)
      clear rl ka hk hm
      have C := Lib.hid (is_any 5 11 3 4 w8 R.out S.out)
      rw [kx2] at C
      go_wp2_with fail
      refine C.out.mono ?_
      rintro e w9 ⟨rfl, hk⟩
      have D := Lib.hid (D.out.on hk)
      clear hk S C R
      go_upto_region 19 with (fail)
      have D := Lib.hid (D.out.on (Kept.refl _).drew)
      go_region_held3 (fun V => V.cell? ⟨q, 0, none⟩ = some (.int .i64 0) ∧ V.cell? ⟨q, 1, none⟩ = some (.int .i64 0) ∧ V.cell? ⟨q, 2, none⟩ = some (.int .i64 333000000) ∧ V.cell? ⟨q, 3, none⟩ = some (.int .i64 166500000) ∧ V.cell? ⟨q, 4, none⟩ = some (.int .i64 (-1)))
        (first | with_reducible exact D.out.cells | with_reducible exact (D.out.on ((Kept.refl _).alloc _)).cells)
        (first
          | (go_at_call 8; (refine (works_any _).mono ?_); rintro e w' ⟨rfl, hk⟩; have D := Lib.hid (D.out.on hk); clear hk)
          | (go_at_call 13; (with_reducible refine (none_nil _).mono ?_); rintro e w' ⟨rfl, hk⟩; have D := Lib.hid (D.out.on hk); clear hk)
          | (go_at_call 13; (with_reducible refine (none_one _).mono ?_); rintro e w' ⟨rfl, hk⟩; have D := Lib.hid (D.out.on hk); clear hk)
          | (go_at_call 16; (refine (at_lit _ _ _).mono ?_); rintro e w' ⟨rfl, hk⟩; have D := Lib.hid (D.out.on hk); clear hk)
          | (go_at_call 17; (with_reducible refine (is_far _).mono ?_); rintro e w' ⟨rfl, hk⟩; have D := Lib.hid (D.out.on hk); clear hk))
      all_goals
        go_wp2_with fail
        go_ret
        exact ⟨rfl, D.out.k⟩

end Go.Proofs.Ytdfjceghhjecaaa.Law
