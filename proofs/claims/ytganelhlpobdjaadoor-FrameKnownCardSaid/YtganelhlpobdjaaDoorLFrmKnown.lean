/-
  The law FrameKnown: each first byte; both ends of all numbers; as many ranges as there may be, and one more.
-/
import Derived.Test.YtganelhlpobdjaaDoorLFrmReads
import Derived.Test.YtganelhlpobdjaaDoorLFrmTells
import Derived.Test.YtganelhlpobdjaaDoorLFrmWaits
import Derived.Test.YtganelhlpobdjaaDoorFrmZ
import Derived.Deep.Cut
import Derived.Deep.CutRange
import Derived.Deep.RegionHeld3
import Derived.BigRegion
namespace Go.Proofs.YtganelhlpobdjaaDoor.Law
open Go.RowKit SpnM Spn FrmM OctM Oct Frm
set_option linter.unusedVariables false
set_option linter.unusedSimpArgs false

theorem reads_lit (W : World) (l : List Int) (hT : Tab W) (hl : l.length ≤ 1000) (hb : allByte l) : Calls Tryd.prog 4 #[.slice (some ⟨W.heap.size, 0, none⟩) l.length l.length] (W.alloc (.cells (l.map (Value.int .u8)).toArray 5)) fun e w' => e = .returned (.bool true) ∧ Wd.Kept W w' :=
  (frameReads_any _ _ _ l _ (hT.kept ((Wd.Kept.refl W).alloc _)) (byt_lit W l hl hb)).mono fun e w' ⟨x, k⟩ => ⟨x, ((Wd.Kept.refl W).alloc _).trans k⟩
theorem all_byte7 {a b c d e f g : Int} (h : (0 ≤ a ∧ a < 256) ∧ (0 ≤ b ∧ b < 256) ∧ (0 ≤ c ∧ c < 256) ∧ (0 ≤ d ∧ d < 256) ∧ (0 ≤ e ∧ e < 256) ∧ (0 ≤ f ∧ f < 256) ∧ (0 ≤ g ∧ g < 256)) : allByte [a, b, c, d, e, f, g] := by
  intro x hx
  simp only [List.mem_cons, List.not_mem_nil, or_false] at hx
  omega
theorem all_byte10 {a b c d e f g i j k : Int} (h : (0 ≤ a ∧ a < 256) ∧ (0 ≤ b ∧ b < 256) ∧ (0 ≤ c ∧ c < 256) ∧ (0 ≤ d ∧ d < 256) ∧ (0 ≤ e ∧ e < 256) ∧ (0 ≤ f ∧ f < 256) ∧ (0 ≤ g ∧ g < 256) ∧ (0 ≤ i ∧ i < 256) ∧ (0 ≤ j ∧ j < 256) ∧ (0 ≤ k ∧ k < 256)) : allByte [a, b, c, d, e, f, g, i, j, k] := by
  intro x hx
  simp only [List.mem_cons, List.not_mem_nil, or_false] at hx
  omega
theorem reads7 (W : World) (a b c d e f g : Int) (hT : Tab W) (h : (0 ≤ a ∧ a < 256) ∧ (0 ≤ b ∧ b < 256) ∧ (0 ≤ c ∧ c < 256) ∧ (0 ≤ d ∧ d < 256) ∧ (0 ≤ e ∧ e < 256) ∧ (0 ≤ f ∧ f < 256) ∧ (0 ≤ g ∧ g < 256)) :
    Calls Tryd.prog 4 #[.slice (some ⟨W.heap.size, 0, none⟩) 7 7] (W.alloc (.cells #[.int .u8 a, .int .u8 b, .int .u8 c, .int .u8 d, .int .u8 e, .int .u8 f, .int .u8 g] 5)) fun e w' => e = .returned (.bool true) ∧ Wd.Kept W w' :=
  reads_lit W [a, b, c, d, e, f, g] hT (by simp) (all_byte7 h)
theorem reads10 (W : World) (a b c d e f g i j k : Int) (hT : Tab W) (h : (0 ≤ a ∧ a < 256) ∧ (0 ≤ b ∧ b < 256) ∧ (0 ≤ c ∧ c < 256) ∧ (0 ≤ d ∧ d < 256) ∧ (0 ≤ e ∧ e < 256) ∧ (0 ≤ f ∧ f < 256) ∧ (0 ≤ g ∧ g < 256) ∧ (0 ≤ i ∧ i < 256) ∧ (0 ≤ j ∧ j < 256) ∧ (0 ≤ k ∧ k < 256)) :
    Calls Tryd.prog 4 #[.slice (some ⟨W.heap.size, 0, none⟩) 10 10] (W.alloc (.cells #[.int .u8 a, .int .u8 b, .int .u8 c, .int .u8 d, .int .u8 e, .int .u8 f, .int .u8 g, .int .u8 i, .int .u8 j, .int .u8 k] 5)) fun e w' => e = .returned (.bool true) ∧ Wd.Kept W w' :=
  reads_lit W [a, b, c, d, e, f, g, i, j, k] hT (by simp) (all_byte10 h)

/-- A block that holds just these numbers. -/
def Nm (V : World) (Y : Nat) (t : TypeId) (L : List Int) : Prop := Wd.Blk V Y t (L.map (Value.int .i64)).toArray
def nt (L : List Int) (k : Nat) : Int := L.getD k 0
theorem Nm.cell {V : World} {Y : Nat} {t : TypeId} {L : List Int} (h : Nm V Y t L) {k : Nat} (hk : k < L.length) : V.cell? ⟨Y, k, none⟩ = some (.int .i64 (nt L k)) := by
  rw [Wd.Blk.cell h k]; simp [nt, List.getD, hk]
/-- What lies there: the ends. -/
structure Kn (w V : World) (E : Nat) (le : List Int) : Prop where
  e : Nm V E 3 le
  k : Wd.Kept w V
  ll : le.length = 12
theorem Kn.on {w V V' : World} {E : Nat} {le : List Int} (h : Kn w V E le) (k : Wd.Kept V V') : Kn w V' E le := ⟨Wd.Blk.kept h.e k, h.k.trans k, h.ll⟩
theorem Kn.ends {w V : World} {E : Nat} {le : List Int} (h : Kn w V E le) {i k : Nat} (hi : i < 12) (hk : k < 12) : V.cell? ⟨E, i, none⟩ = some (.int .i64 (nt le i)) ∧ V.cell? ⟨E, k, none⟩ = some (.int .i64 (nt le k)) :=
  ⟨h.e.cell (by rw [h.ll]; omega), h.e.cell (by rw [h.ll]; omega)⟩
/-- An ACK in a box, whose ranges were just laid. -/
structure Bk (W : World) (Y R n : Nat) (a : Ack) : Prop where
  blk : Wd.Blk W Y 25 #[.int .i64 a.delay, .slice (some ⟨R, 0, none⟩) n n, .bool a.marked, .int .i64 a.m0, .int .i64 a.m1, .int .i64 a.m2]
  row : Row W (some ⟨R, 0, none⟩) n n a.ranges
theorem Bk.on {W W' : World} {Y R n : Nat} {a : Ack} (h : Bk W Y R n a) (k : Wd.Kept W W') : Bk W' Y R n a := ⟨h.blk.kept k, h.row.kept k⟩
theorem Bk.newA (W : World) (n : Nat) (a : Ack) (h : a.ranges.length = n) (hn : n ≤ 1000) : Bk ((W.alloc (.cells (flat a.ranges).toArray 36)).alloc (.cells #[.int .i64 a.delay, .slice (some ⟨W.heap.size, 0, none⟩) n n, .bool a.marked, .int .i64 a.m0, .int .i64 a.m1, .int .i64 a.m2] 25)) (W.heap.size + 1) W.heap.size n a := by
  subst h
  refine ⟨?_, (Frm.row_lit W a.ranges hn).kept ((Wd.Kept.refl _).alloc _)⟩
  have := Wd.Blk.new (W.alloc (.cells (flat a.ranges).toArray 36)) 25 #[.int .i64 a.delay, .slice (some ⟨W.heap.size, 0, none⟩) a.ranges.length a.ranges.length, .bool a.marked, .int .i64 a.m0, .int .i64 a.m1, .int .i64 a.m2]
  rwa [World.size_alloc] at this
theorem Bk.newB (W : World) (n : Nat) (a : Ack) (h : a.ranges.length = n) (hn : n ≤ 1000) : Bk ((W.alloc (.cells #[.int .i64 a.delay, .slice (some ⟨W.heap.size + 1, 0, none⟩) n n, .bool a.marked, .int .i64 a.m0, .int .i64 a.m1, .int .i64 a.m2] 25)).alloc (.cells (flat a.ranges).toArray 36)) W.heap.size (W.heap.size + 1) n a := by
  subst h
  refine ⟨(Wd.Blk.new W _ _).kept ((Wd.Kept.refl _).alloc _), ?_⟩
  have := Frm.row_lit (W.alloc (.cells #[.int .i64 a.delay, .slice (some ⟨W.heap.size + 1, 0, none⟩) a.ranges.length a.ranges.length, .bool a.marked, .int .i64 a.m0, .int .i64 a.m1, .int .i64 a.m2] 25)) a.ranges hn
  rwa [World.size_alloc] at this
theorem Bk.cells {W : World} {Y R n : Nat} {a : Ack} (h : Bk W Y R n a) : W.cell? ⟨Y, 0, none⟩ = some (.int .i64 a.delay) ∧ W.cell? ⟨Y, 1, none⟩ = some (.slice (some ⟨R, 0, none⟩) n n) ∧ W.cell? ⟨Y, 2, none⟩ = some (.bool a.marked) ∧ W.cell? ⟨Y, 3, none⟩ = some (.int .i64 a.m0) ∧ W.cell? ⟨Y, 4, none⟩ = some (.int .i64 a.m1) ∧ W.cell? ⟨Y, 5, none⟩ = some (.int .i64 a.m2) :=
  ⟨h.blk.cell 0, h.blk.cell 1, h.blk.cell 2, h.blk.cell 3, h.blk.cell 4, h.blk.cell 5⟩
/-- All that is held in the second loop. -/
structure Q3 (w V : World) (E : Nat) (le : List Int) (Y R Y2 R2 : Nat) (a b : Ack) : Prop where
  n : Kn w V E le
  a : Bk V Y R 2 a
  b : Bk V Y2 R2 1 b
theorem Q3.on {w V V' : World} {E : Nat} {le : List Int} {Y R Y2 R2 : Nat} {a b : Ack} (h : Q3 w V E le Y R Y2 R2 a b) (k : Wd.Kept V V') : Q3 w V' E le Y R Y2 R2 a b := ⟨h.n.on k, h.a.on k, h.b.on k⟩
theorem tells_is (V : World) (R R2 n n2 : Nat) (a b : Ack) (x : Int) (hT : Tab V) (ha : Row V (some ⟨R, 0, none⟩) n n a.ranges) (hb : Row V (some ⟨R2, 0, none⟩) n2 n2 b.ranges) (hn : n ≤ 1000) (hn2 : n2 ≤ 1000) :
    Calls Tryd.prog 3 #[.agg #[.int .i64 a.delay, .slice (some ⟨R, 0, none⟩) n n, .bool a.marked, .int .i64 a.m0, .int .i64 a.m1, .int .i64 a.m2], .agg #[.int .i64 b.delay, .slice (some ⟨R2, 0, none⟩) n2 n2, .bool b.marked, .int .i64 b.m0, .int .i64 b.m1, .int .i64 b.m2], .int .i64 x] V fun r w' => r = .returned (.bool true) ∧ Wd.Kept V w' :=
  frameTells_any (some ⟨R, 0, none⟩) (some ⟨R2, 0, none⟩) n n n2 n2 a b x V hT (Src.of_row ha) (by omega) (Src.of_row hb) (by omega)

/-- As many ranges as there may be, and one more. -/
def rgs (j : Nat) : List R := (List.range j).map (fun i : Nat => ((1000 - 2 * (i : Int), 1000 - 2 * (i : Int)) : R))
theorem rgs_len (j : Nat) : (rgs j).length = j := by unfold rgs; simp
theorem rgs_succ (j : Nat) : rgs (j + 1) = rgs j ++ [(1000 - 2 * (j : Int), 1000 - 2 * (j : Int))] := by unfold rgs; rw [List.range_succ, List.map_append]; rfl
def allA (j : Nat) : Ack := ⟨0, rgs j, false, 0, 0, 0⟩
/-- The ACK, as far as it is made. -/
structure Al (w W : World) (q : Nat) (j : Nat) : Prop where
  ack : ∃ v, Wd.Blk W q 25 #[.int .i64 0, v, .bool false, .int .i64 0, .int .i64 0, .int .i64 0] ∧ W.ownsRow w.heap.size 36 2 v (rgs j).length (flat (rgs j))
  k : Wd.Kept w W
  lo : w.heap.size ≤ q
theorem check_257 : check (allA 257) = 2 := check_not (fun h => by have := h.1.2.1; unfold allA at this; rw [rgs_len] at this; omega)

theorem check_256 : check (allA 256) = 0 := by decide +kernel
theorem bytes_256 : (bytesOut (allA 256)).length = 517 := by decide +kernel
theorem rgs_less : (rgs 257).take 256 = rgs 256 := by unfold rgs; rw [← List.map_take, List.take_range]; rfl
def longL : List Int := [2, 128, 0, 0, 5, 64, 0, 192, 0, 0, 0, 0, 0, 0, 0, 64, 1]
def bigL : List Int := [2, 192, 32, 0, 0, 0, 0, 0, 0, 0, 0, 0]
def ackL : Ack := ⟨0, [(4, 5)], false, 0, 0, 0⟩
theorem next_long : nextP longL = (ackL, 17, 0) := by rfl
theorem next_big : nextP bigL = (zero, 0, 9) := by rfl
theorem next_most : nextP [2, 9, 0, 65, 0] = (zero, 0, 5) := by rfl
theorem row_far {W : World} {A : Option Addr} {n c q : Nat} {l : List R} {cs : Array Value} (h : Row W A n c l) (hb : Wd.Blk W q 25 cs) (k : Nat) (u : Value) : Row (W.setCell ⟨q, k, none⟩ u) A n c l :=
  h.same_ (fun i e => Below.heap_setCell _ _ _ _ (fun e2 => by
    rcases h.form with ⟨e1, _⟩ | ⟨g, cur, e1, hg, _⟩
    · rw [e1] at e; cases e
    · rw [e1] at e
      have e3 : g = i := Option.some.inj e
      exact Wd.Blk.ne_ hg hb (by decide) (e3.trans e2)))
/-- What is held at the end: the ACK of 256 ranges, its bytes, the ACK that was read. -/
structure Fi (w W : World) (q : Nat) (A : Option Addr) (c : Nat) (X : Option Addr) (cx : Nat) (xs : List Int) : Prop where
  blk : Wd.Blk W q 25 #[.int .i64 0, .slice A 256 c, .bool false, .int .i64 0, .int .i64 0, .int .i64 0]
  row : Row W A 256 c (rgs 256)
  x : Byt W X 517 cx xs
  k : Wd.Kept w W
theorem Fi.on {w W W' : World} {q : Nat} {A : Option Addr} {c : Nat} {X : Option Addr} {cx : Nat} {xs : List Int} (h : Fi w W q A c X cx xs) (k : Wd.Kept W W') : Fi w W' q A c X cx xs := ⟨h.blk.kept k, h.row.kept k, h.x.kept k, h.k.trans k⟩
/-- And the ACK that was read, in its box, and bytes that tell too much. -/
structure Fz (w W : World) (q : Nat) (A : Option Addr) (c : Nat) (X : Option Addr) (cx : Nat) (xs : List Int) (pq g3 c3 bg : Nat) : Prop where
  fi : Fi w W q A c X cx xs
  px : Wd.Blk W pq 25 #[.int .i64 0, .slice (some ⟨g3, 0, none⟩) 1 c3, .bool false, .int .i64 0, .int .i64 0, .int .i64 0]
  r3 : Row W (some ⟨g3, 0, none⟩) 1 c3 [(4, 5)]
  bb : Byt W (some ⟨bg, 0, none⟩) 12 12 bigL
theorem Fz.on {w W W' : World} {q : Nat} {A : Option Addr} {c : Nat} {X : Option Addr} {cx : Nat} {xs : List Int} {pq g3 c3 bg : Nat} (h : Fz w W q A c X cx xs pq g3 c3 bg) (k : Wd.Kept W W') : Fz w W' q A c X cx xs pq g3 c3 bg := ⟨h.fi.on k, h.px.kept k, h.r3.kept k, h.bb.kept k⟩
def endsL : List Int := [-9223372036854775808, -1, 0, 1, 2, 20, 21, 255, 256, 9007199254740991, 9007199254740992, 9223372036854775807]

set_option maxRecDepth 100000 in
set_option maxHeartbeats 8000000 in
theorem frameKnown_any (w : World) (hT : Tab w) : Calls Tryd.prog 11 #[] w fun r w' => r = .returned (.bool true) ∧ Wd.Kept w w' := by
  have HT := Lib.hid hT
  clear hT
  go_enter Tryd.func11, Tryd.ntmps11
  go_wp2_with fail
  go_loopw [1] (fun s1 wr => ∃ i : Nat, i ≤ 256 ∧ s1 = .int .i64 i ∧ Hid (Wd.Kept w wr)) (fun s1 _ => 256 - (intOf s1).toNat)
  case atStart => exact ⟨0, Nat.zero_le _, rfl, Lib.hid (Wd.Kept.refl w)⟩
  case round =>
    obtain ⟨i, hi, rfl, hk⟩ := hrel
    by_cases hlt : i < 256
    · have hi1 : (i : Int) < 256 := by omega
      have hi0 : (0 : Int) ≤ (i : Int) := by omega
      have hwi : IntKind.i64.wrap ((i : Int) + 1) = (i : Int) + 1 := IntWalk.i64_in _ (by omega)
      have hu : IntKind.u8.wrap (i : Int) = (i : Int) := IntWalk.u8_in _ (by omega)
      obtain ⟨m, hm⟩ : ∃ m : Int, (i : Int) % 4 = m := ⟨_, rfl⟩
      have hm0 : 0 ≤ m ∧ m < 4 := by omega
      have ht : (i : Int).tmod 4 = m := by rw [Int.tmod_eq_emod_of_nonneg hi0]; exact hm
      have hm1 : IntKind.i64.wrap m = m := IntWalk.i64_in _ (by omega)
      have hm2 : IntKind.u8.wrap m = m := IntWalk.u8_in _ (by omega)
      have C1 := Lib.hid (fun W (k : Wd.Kept w W) => reads7 W i 9 0 1 2 3 2 (HT.out.kept k) (by omega))
      have C2 := Lib.hid (fun W (k : Wd.Kept w W) => reads7 W 2 i 0 1 2 3 2 (HT.out.kept k) (by omega))
      have C3 := Lib.hid (fun W (k : Wd.Kept w W) => reads7 W 2 9 0 1 i 3 2 (HT.out.kept k) (by omega))
      have C4 := Lib.hid (fun W (k : Wd.Kept w W) => reads7 W 2 9 0 1 2 i 2 (HT.out.kept k) (by omega))
      have C5 := Lib.hid (fun W (k : Wd.Kept w W) => reads10 W 3 9 0 m 2 3 i 4 5 6 (HT.out.kept k) (by omega))
      go_wp2_with fail
      with_reducible refine (C1.out _ hk.out).mono ?_
      rintro e w1 ⟨rfl, k1⟩
      have hk := Lib.hid (hk.out.trans k1)
      clear k1
      go_wp2_with fail
      with_reducible refine (C2.out _ hk.out).mono ?_
      rintro e w2 ⟨rfl, k1⟩
      have hk := Lib.hid (hk.out.trans k1)
      clear k1
      go_wp2_with fail
      with_reducible refine (C3.out _ hk.out).mono ?_
      rintro e w3 ⟨rfl, k1⟩
      have hk := Lib.hid (hk.out.trans k1)
      clear k1
      go_wp2_with fail
      with_reducible refine (C4.out _ hk.out).mono ?_
      rintro e w4 ⟨rfl, k1⟩
      have hk := Lib.hid (hk.out.trans k1)
      clear k1
      go_wp2_with fail
      with_reducible refine (C5.out _ hk.out).mono ?_
      rintro e w5 ⟨rfl, k1⟩
      have hk := Lib.hid (hk.out.trans k1)
      clear k1
      go_wp2_with fail
      go_roundw
      case rel => exact ⟨i + 1, by omega, by go_num, hk⟩
      case measure => simp [intOf]; omega
    · obtain rfl : i = 256 := by omega
      have hz : ¬ ((256 : Int) < 256) := by omega
      go_wp2_with fail
      have P0 : Hid (Kn w (wr.alloc (.cells (endsL.map (Value.int .i64)).toArray 3)) wr.heap.size endsL) := Lib.hid ⟨Wd.Blk.new _ _ _, hk.out.alloc _, rfl⟩
      change Code.wp _ _ _ _ (wr.alloc (.cells (endsL.map (Value.int .i64)).toArray 3))
      generalize wr.alloc (.cells (endsL.map (Value.int .i64)).toArray 3) = W at *
      generalize wr.heap.size = E at *
      generalize endsL = le at *
      clear hk
      go_loopw [3] (fun s3 wr => ∃ i : Nat, i ≤ 12 ∧ s3 = .int .i64 i ∧ Hid (Kn w wr E le)) (fun s3 _ => 12 - (intOf s3).toNat)
      case atStart => exact ⟨0, Nat.zero_le _, rfl, P0⟩
      case round =>
        obtain ⟨i, hi, rfl, HB⟩ := hrel
        clear P0
        by_cases hlt : i < 12
        · have hi0 : (0 : Int) ≤ (i : Int) := by omega
          have hi1 : (i : Int) < 12 := by omega
          have hwi : IntKind.i64.wrap ((i : Int) + 1) = (i : Int) + 1 := IntWalk.i64_in _ (by omega)
          go_wp2_with fail
          go_loopw [4] (fun s4 wr => ∃ k : Nat, k ≤ 12 ∧ s4 = .int .i64 k ∧ Hid (Kn w wr E le)) (fun s4 _ => 12 - (intOf s4).toNat)
          case atStart => exact ⟨0, Nat.zero_le _, rfl, HB⟩
          case round =>
            obtain ⟨k, hk, rfl, HC⟩ := hrel
            clear HB
            by_cases hlt2 : k < 12
            · have hk0 : (0 : Int) ≤ (k : Int) := by omega
              have hk1 : (k : Int) < 12 := by omega
              have hwk : IntKind.i64.wrap ((k : Int) + 1) = (k : Int) + 1 := IntWalk.i64_in _ (by omega)
              obtain ⟨a, ha⟩ : ∃ a : Ack, (⟨5, [(10, nt le i), (nt le k, 8)], false, 0, 0, 0⟩ : Ack) = a := ⟨_, rfl⟩
              have HA := Lib.hid ha
              clear ha
              have D0 := HC
              have D := Lib.hid (HC.out.on (Wd.Kept.refl wr).drew)
              go_upto_region 13 with (fail)
              go_cut [5] (fun s5 wx => ∃ Y R, s5 = .pointer (some ⟨Y, 0, none⟩) ∧ Hid (Bk wx Y R 2 a) ∧ Hid (Kn w wx E le))
              case first =>
                go_region_held3 (fun V => V.cell? ⟨E, i, none⟩ = some (.int .i64 (nt le i)) ∧ V.cell? ⟨E, k, none⟩ = some (.int .i64 (nt le k)))
                  (first
                    | with_reducible exact D.out.ends hlt hlt2
                    | with_reducible exact (D.out.on ((Wd.Kept.refl _).alloc _)).ends hlt hlt2
                    | with_reducible exact (D.out.on (((Wd.Kept.refl _).alloc _).alloc _)).ends hlt hlt2
                    | with_reducible exact (D0.out.on (((Wd.Kept.refl _).alloc _).drew)).ends hlt hlt2
                    | with_reducible exact (D0.out.on ((((Wd.Kept.refl _).alloc _).alloc _).drew)).ends hlt hlt2)
                  (fail)
                all_goals
                  go_wp2_with fail
                  go_meet
                  rw [← HA.out]
                  first
                    | with_reducible exact ⟨_, _, rfl, Lib.hid ((Bk.newA wr 2 ⟨5, [(10, nt le i), (nt le k, 8)], false, 0, 0, 0⟩ rfl (by decide)).on (Wd.Kept.refl _).drew), Lib.hid (D0.out.on ((((Wd.Kept.refl _).alloc _).alloc _).drew))⟩
                    | exact ⟨_, _, rfl, Lib.hid ((Bk.newB wr 2 ⟨5, [(10, nt le i), (nt le k, 8)], false, 0, 0, 0⟩ rfl (by decide)).on (Wd.Kept.refl _).drew), Lib.hid (D0.out.on ((((Wd.Kept.refl _).alloc _).alloc _).drew))⟩
              case rest =>
                obtain ⟨Y, R, rfl, BA, HC⟩ := hcut
                clear D D0
                obtain ⟨E2, hE2⟩ : ∃ E2, ((i : Int).tmod 2 == 0) = E2 := ⟨_, rfl⟩
                have hw2 : IntKind.i64.wrap ((i : Int).tmod 2) = (i : Int).tmod 2 := IntWalk.i64_in _ (by
                  have h1 := Int.tmod_lt_of_pos (i : Int) (show (0 : Int) < 2 by omega)
                  have h2 := Int.tmod_nonneg (2 : Int) hi0
                  omega)
                have hw3 : ((i : Int) % 2 == 0) = E2 := by rw [← Int.tmod_eq_emod_of_nonneg hi0]; exact hE2
                obtain ⟨b, hb⟩ : ∃ b : Ack, (⟨nt le i, [(nt le k, 9007199254740991)], E2, nt le k, 0, nt le i⟩ : Ack) = b := ⟨_, rfl⟩
                have HB := Lib.hid hb
                clear hb
                have D0 := HC
                have D := Lib.hid (HC.out.on (Wd.Kept.refl wc).drew)
                go_upto_region 14 with (fail)
                go_cut [6] (fun s6 wx => ∃ Y2 R2, s6 = .pointer (some ⟨Y2, 0, none⟩) ∧ Hid (Q3 w wx E le Y R Y2 R2 a b))
                case first =>
                  go_region_held3 (fun V => V.cell? ⟨E, i, none⟩ = some (.int .i64 (nt le i)) ∧ V.cell? ⟨E, k, none⟩ = some (.int .i64 (nt le k)))
                    (first
                      | with_reducible exact D.out.ends hlt hlt2
                      | with_reducible exact (D.out.on ((Wd.Kept.refl _).alloc _)).ends hlt hlt2
                      | with_reducible exact (D.out.on (((Wd.Kept.refl _).alloc _).alloc _)).ends hlt hlt2
                      | with_reducible exact (D0.out.on (((Wd.Kept.refl _).alloc _).drew)).ends hlt hlt2
                      | with_reducible exact (D0.out.on ((((Wd.Kept.refl _).alloc _).alloc _).drew)).ends hlt hlt2)
                    (fail)
                  all_goals
                    go_wp2_with fail
                    go_meet
                    rw [← HB.out]
                    first
                      | with_reducible exact ⟨_, _, rfl, Lib.hid ⟨D0.out.on ((((Wd.Kept.refl _).alloc _).alloc _).drew), BA.out.on ((((Wd.Kept.refl _).alloc _).alloc _).drew), (Bk.newA wc 1 ⟨nt le i, [(nt le k, 9007199254740991)], E2, nt le k, 0, nt le i⟩ rfl (by decide)).on (Wd.Kept.refl _).drew⟩⟩
                      | exact ⟨_, _, rfl, Lib.hid ⟨D0.out.on ((((Wd.Kept.refl _).alloc _).alloc _).drew), BA.out.on ((((Wd.Kept.refl _).alloc _).alloc _).drew), (Bk.newB wc 1 ⟨nt le i, [(nt le k, 9007199254740991)], E2, nt le k, 0, nt le i⟩ rfl (by decide)).on (Wd.Kept.refl _).drew⟩⟩
                case rest =>
                  obtain ⟨Y2, R2, rfl, Q⟩ := hcut
                  clear D D0 BA HC hE2 hw2 hw3 HA HB
                  have D := Lib.hid (Q.out.on (Wd.Kept.refl wc).drew)
                  have hS := Lib.hid (fun V (h : Q3 w V E le Y R Y2 R2 a b) => (⟨(h.n.ends hlt hlt2).1, (h.n.ends hlt hlt2).2, h.a.cells.1, h.a.cells.2.1, h.a.cells.2.2.1, h.a.cells.2.2.2.1, h.a.cells.2.2.2.2.1, h.a.cells.2.2.2.2.2, h.b.cells⟩ : V.cell? ⟨E, i, none⟩ = some (.int .i64 (nt le i)) ∧ V.cell? ⟨E, k, none⟩ = some (.int .i64 (nt le k)) ∧ V.cell? ⟨Y, 0, none⟩ = some (.int .i64 a.delay) ∧ V.cell? ⟨Y, 1, none⟩ = some (.slice (some ⟨R, 0, none⟩) 2 2) ∧ V.cell? ⟨Y, 2, none⟩ = some (.bool a.marked) ∧ V.cell? ⟨Y, 3, none⟩ = some (.int .i64 a.m0) ∧ V.cell? ⟨Y, 4, none⟩ = some (.int .i64 a.m1) ∧ V.cell? ⟨Y, 5, none⟩ = some (.int .i64 a.m2) ∧ V.cell? ⟨Y2, 0, none⟩ = some (.int .i64 b.delay) ∧ V.cell? ⟨Y2, 1, none⟩ = some (.slice (some ⟨R2, 0, none⟩) 1 1) ∧ V.cell? ⟨Y2, 2, none⟩ = some (.bool b.marked) ∧ V.cell? ⟨Y2, 3, none⟩ = some (.int .i64 b.m0) ∧ V.cell? ⟨Y2, 4, none⟩ = some (.int .i64 b.m1) ∧ V.cell? ⟨Y2, 5, none⟩ = some (.int .i64 b.m2)))
                  have cT := Lib.hid (fun V (h : Q3 w V E le Y R Y2 R2 a b) (x : Int) => tells_is V R R2 2 1 a b x (HT.out.kept h.n.k) h.a.row h.b.row (by decide) (by decide))
                  have cU := Lib.hid (fun V (h : Q3 w V E le Y R Y2 R2 a b) (x : Int) => tells_is V R2 R 1 2 b a x (HT.out.kept h.n.k) h.b.row h.a.row (by decide) (by decide))
                  have cV := Lib.hid (fun V (h : Q3 w V E le Y R Y2 R2 a b) (d e : Int) => frameWaits_any d e V (HT.out.kept h.n.k))
                  go_upto_region 15 with (fail)
                  go_cut [134] (fun t wx => t = .bool false ∧ Hid (Kn w wx E le))
                  case first =>
                    go_region_held3 (fun V => V.cell? ⟨E, i, none⟩ = some (.int .i64 (nt le i)) ∧ V.cell? ⟨E, k, none⟩ = some (.int .i64 (nt le k)) ∧ V.cell? ⟨Y, 0, none⟩ = some (.int .i64 a.delay) ∧ V.cell? ⟨Y, 1, none⟩ = some (.slice (some ⟨R, 0, none⟩) 2 2) ∧ V.cell? ⟨Y, 2, none⟩ = some (.bool a.marked) ∧ V.cell? ⟨Y, 3, none⟩ = some (.int .i64 a.m0) ∧ V.cell? ⟨Y, 4, none⟩ = some (.int .i64 a.m1) ∧ V.cell? ⟨Y, 5, none⟩ = some (.int .i64 a.m2) ∧ V.cell? ⟨Y2, 0, none⟩ = some (.int .i64 b.delay) ∧ V.cell? ⟨Y2, 1, none⟩ = some (.slice (some ⟨R2, 0, none⟩) 1 1) ∧ V.cell? ⟨Y2, 2, none⟩ = some (.bool b.marked) ∧ V.cell? ⟨Y2, 3, none⟩ = some (.int .i64 b.m0) ∧ V.cell? ⟨Y2, 4, none⟩ = some (.int .i64 b.m1) ∧ V.cell? ⟨Y2, 5, none⟩ = some (.int .i64 b.m2))
                      (exact hS.out _ D.out)
                      (first
                        | (go_at_call 3; (with_reducible refine (cT.out _ D.out _).mono ?_); rintro e w' ⟨rfl, hk⟩; have D := Lib.hid (D.out.on hk); clear hk)
                        | (go_at_call 3; (with_reducible refine (cU.out _ D.out _).mono ?_); rintro e w' ⟨rfl, hk⟩; have D := Lib.hid (D.out.on hk); clear hk)
                        | (go_at_call 5; (with_reducible refine (cV.out _ D.out _ _).mono ?_); rintro e w' ⟨rfl, hk⟩; have D := Lib.hid (D.out.on hk); clear hk))
                    all_goals
                      go_wp2_with fail
                      go_meet
                      exact ⟨rfl, Lib.hid D.out.n⟩
                  case rest =>
                    obtain ⟨rfl, HC⟩ := hcut
                    clear D hS cT cU cV
                    go_wp2_with fail
                    go_roundw
                    case rel => exact ⟨k + 1, by omega, by go_num, HC⟩
                    case measure => simp [intOf]; omega
            · obtain rfl : k = 12 := by omega
              have hz2 : ¬ ((12 : Int) < 12) := by omega
              go_wp2_with fail
              go_roundw
              case rel => exact ⟨i + 1, by omega, by go_num, HC⟩
              case measure => simp [intOf]; omega
        · obtain rfl : i = 12 := by omega
          have hz3 : ¬ ((12 : Int) < 12) := by omega
          go_wp2_with fail
          have A0 : Hid (Al w (wr.alloc (.cells #[.int .i64 0, .slice none 0 0, .bool false, .int .i64 0, .int .i64 0, .int .i64 0] 25)) wr.heap.size 0) := Lib.hid ⟨⟨.slice none 0 0, Wd.Blk.new _ _ _, World.ownsRow_nil _ _ _ _⟩, HB.out.k.alloc _, HB.out.k.size⟩
          change Code.wp _ _ _ _ (wr.alloc (.cells #[.int .i64 0, .slice none 0 0, .bool false, .int .i64 0, .int .i64 0, .int .i64 0] 25))
          generalize wr.alloc (.cells #[.int .i64 0, .slice none 0 0, .bool false, .int .i64 0, .int .i64 0, .int .i64 0] 25) = W0 at *
          generalize wr.heap.size = q at *
          clear HB
          go_loopw [8] (fun s8 wr => ∃ j : Nat, j ≤ 257 ∧ s8 = .int .i64 j ∧ Hid (Al w wr q j)) (fun s8 _ => 257 - (intOf s8).toNat)
          case atStart => exact ⟨0, Nat.zero_le _, rfl, A0⟩
          case round =>
            obtain ⟨j, hj, rfl, HA⟩ := hrel
            clear A0
            obtain ⟨v, hb, ho⟩ := HA.out.ack
            by_cases hlt : j < 257
            · have hj1 : (j : Int) < 257 := by omega
              have hwj : IntKind.i64.wrap ((j : Int) + 1) = (j : Int) + 1 := IntWalk.i64_in _ (by omega)
              have hw1 : IntKind.i64.wrap (2 * (j : Int)) = 2 * (j : Int) := IntWalk.i64_in _ (by omega)
              have hw2 : IntKind.i64.wrap (1000 - 2 * (j : Int)) = 1000 - 2 * (j : Int) := IntWalk.i64_in _ (by omega)
              have HS := Lib.hid (rgs_succ j)
              have HL := Lib.hid (rgs_len j)
              have hll : Hid ((rgs j).length ≤ 1000) := Lib.hid (by rw [rgs_len]; omega)
              have hsz : w.heap.size ≤ wr.heap.size := HA.out.k.size
              have PB := Lib.hid hb
              have OW := Lib.hid ho
              have a1 := PB.out.cell 1
              have af := PB.out.frozen 1
              have al := PB.out.lt
              have hkx := Lib.hid ((Wd.Kept.refl wr).alloc (.cells #[.int .i64 (1000 - 2 * (j : Int)), .int .i64 (1000 - 2 * (j : Int))] 36))
              clear hb ho
              go_wp2_with (at_builtin; (refine wpList_row rfl (.tmp 140) (.tmp 148) rfl (base := w.heap.size) (v := v) (L := rgs j) (1000 - 2 * (j : Int), 1000 - 2 * (j : Int)) rfl OW.out hsz hll.out rfl ?_; intro v' V2 h2 g2; obtain ⟨gg, cap, rfl⟩ := ownsRow_succ h2; have H2 := Lib.hid h2; have hne := @own_ne _ _ _ _ _ OW.out; have A7 := Lib.hid (blk_grown (PB.out.kept hkx.out) g2 (hne PB.out (by decide))); have K7 := Lib.hid (Wd.Kept.grown (HA.out.k.trans hkx.out) g2 (fun i e => (OW.out.lt i e).1)); have a71 := A7.out.cell 1; have a7f := A7.out.frozen 1; have a7l := A7.out.lt; clear h2 g2 hne a1 af al))
              have P8 := Lib.hid (A7.out.set_ 1 (.slice (some ⟨gg, 0, none⟩) ((rgs j).length + 1) cap))
              have H8 := Lib.hid (own_cell H2.out A7.out (by decide) 1 (.slice (some ⟨gg, 0, none⟩) ((rgs j).length + 1) cap))
              have K8 := Lib.hid (K7.out.setCell (p := ⟨q, 1, none⟩) HA.out.lo (.slice (some ⟨gg, 0, none⟩) ((rgs j).length + 1) cap))
              go_wp2_with fail
              go_roundw
              case rel => exact ⟨j + 1, by omega, by go_num, Lib.hid ⟨⟨_, P8.out, by rw [HS.out, List.length_append]; exact H8.out⟩, K8.out, HA.out.lo⟩⟩
              case measure => simp [intOf]; omega
            · obtain rfl : j = 257 := by omega
              have hz4 : ¬ ((257 : Int) < 257) := by omega
              rw [rgs_len] at ho
              obtain ⟨A', c', rfl, hr, hf⟩ := Row.of_own ho (rgs_len 257)
              have hcap := hr.cap.1
              have PB := Lib.hid hb
              have R0 := Lib.hid hr
              have hck := Lib.hid (check_any A' 257 c' (allA 257) wr (Rgs.of_row hr) hr.lt)
              unfold ackV at hck
              rw [check_257] at hck
              have K0 := Lib.hid HA.out.k
              have LO := Lib.hid HA.out.lo
              have p0 := PB.out.cell 0
              have p1 := PB.out.cell 1
              have p2 := PB.out.cell 2
              have p3 := PB.out.cell 3
              have p4 := PB.out.cell 4
              have p5 := PB.out.cell 5
              clear hb ho hr hf HA
              go_wp2_with fail
              refine hck.out.mono ?_
              rintro e w1 ⟨rfl, k1⟩
              have PB := Lib.hid (PB.out.kept k1)
              have R0 := Lib.hid (R0.out.kept k1)
              have K0 := Lib.hid (K0.out.trans k1)
              clear k1 hck p0 p1 p2 p3 p4 p5
              have p1 := PB.out.cell 1
              have f1 := PB.out.frozen 1
              have pl := PB.out.lt
              have hsl : ∀ W, (Instr.slice 22 (.slice A' 257 c') none (some (.int .i64 256)) none).run Tryd.prog W = .ok (.slice A' 256 c') W := fun W => run_uptoR A' 257 c' 256 (by omega) W
              have P2 := Lib.hid (PB.out.set_ 1 (.slice A' 256 c'))
              have Q2 := Lib.hid (row_less (row_far R0.out PB.out 1 (.slice A' 256 c')) (show 256 ≤ 257 by omega))
              rw [rgs_less] at Q2
              have K2 := Lib.hid (K0.out.setCell (p := ⟨q, 1, none⟩) LO.out (.slice A' 256 c'))
              go_upto_region 24 with (fail)
              change Code.wp _ _ _ _ (w1.setCell ⟨q, 1, none⟩ (.slice A' 256 c'))
              generalize w1.setCell ⟨q, 1, none⟩ (.slice A' 256 c') = w2 at *
              have P2 : Hid (Wd.Blk w2 q 25 #[.int .i64 0, .slice A' 256 c', .bool false, .int .i64 0, .int .i64 0, .int .i64 0]) := P2
              clear p1 f1 pl hsl PB R0 K0
              have p0 := P2.out.cell 0
              have p1 := P2.out.cell 1
              have p2 := P2.out.cell 2
              have p3 := P2.out.cell 3
              have p4 := P2.out.cell 4
              have p5 := P2.out.cell 5
              have hby := Lib.hid (bytes_any A' 256 c' (allA 256) w2 (Rgs.of_row Q2.out) Q2.out.lt (HT.out.kept K2.out))
              unfold ackV at hby
              rw [check_256] at hby
              go_wp2_with fail
              refine hby.out.mono ?_
              rintro e w3 ⟨vx, rfl, ox, kx⟩
              obtain ⟨X, cx, rfl, yx, -⟩ := ox.byt
              rw [bytes_256] at yx ⊢
              have FI : Hid (Fi w w3 q A' c' X cx (bytesOut (allA 256))) := Lib.hid ⟨P2.out.kept kx, Q2.out.kept kx, yx, K2.out.trans kx⟩
              clear p0 p1 p2 p3 p4 p5 hby ox yx kx P2 Q2 K2
              generalize bytesOut (allA 256) = xs at *
              have BL : Byt (w3.alloc (.cells #[.int .u8 2, .int .u8 128, .int .u8 0, .int .u8 0, .int .u8 5, .int .u8 64, .int .u8 0, .int .u8 192, .int .u8 0, .int .u8 0, .int .u8 0, .int .u8 0, .int .u8 0, .int .u8 0, .int .u8 0, .int .u8 64, .int .u8 1] 5)) (some ⟨w3.heap.size, 0, none⟩) 17 17 longL := byt_lit w3 longL (by decide) (all8_of (by decide))
              have kl : Wd.Kept w3 (w3.alloc (.cells #[.int .u8 2, .int .u8 128, .int .u8 0, .int .u8 0, .int .u8 5, .int .u8 64, .int .u8 0, .int .u8 192, .int .u8 0, .int .u8 0, .int .u8 0, .int .u8 0, .int .u8 0, .int .u8 0, .int .u8 0, .int .u8 64, .int .u8 1] 5)) := (Wd.Kept.refl w3).alloc _
              have FI := Lib.hid (FI.out.on kl)
              have hnx := Lib.hid (next_any _ 17 17 longL _ (HT.out.kept FI.out.k) BL (by decide))
              unfold NextR at hnx
              rw [next_long] at hnx
              clear BL kl
              go_wp2_with fail
              generalize w3.alloc (.cells #[.int .u8 2, .int .u8 128, .int .u8 0, .int .u8 0, .int .u8 5, .int .u8 64, .int .u8 0, .int .u8 192, .int .u8 0, .int .u8 0, .int .u8 0, .int .u8 0, .int .u8 0, .int .u8 0, .int .u8 0, .int .u8 64, .int .u8 1] 5) = w4 at *
              refine hnx.out.mono ?_
              rintro e w5 ⟨V, rfl, ⟨A3, c3, rfl, row3⟩, k5⟩
              have FI := Lib.hid (FI.out.on k5)
              clear hnx k5
              obtain ⟨C1', d1', e1, rw3, -⟩ := Row.of_own row3 rfl
              injection e1 with e1 e2 e3
              subst e1; subst e3
              have R3 : Row w5 A3 1 c3 [(4, 5)] := rw3
              obtain ⟨g3, rfl⟩ : ∃ g, A3 = some ⟨g, 0, none⟩ := by
                rcases R3.form with ⟨_, h0, _⟩ | ⟨g, cur, e, _⟩
                · omega
                · exact ⟨g, e⟩
              have hcx : Hid (ackV (some ⟨g3, 0, none⟩) ackL.ranges.length c3 ackL = .agg #[.int .i64 0, .slice (some ⟨g3, 0, none⟩) 1 c3, .bool false, .int .i64 0, .int .i64 0, .int .i64 0]) := Lib.hid rfl
              rw [hcx.out]
              have kx := (Wd.Kept.refl w5).alloc (.cells #[.int .i64 0, .slice (some ⟨g3, 0, none⟩) 1 c3, .bool false, .int .i64 0, .int .i64 0, .int .i64 0] 25)
              have px := Wd.Blk.new w5 25 #[.int .i64 0, .slice (some ⟨g3, 0, none⟩) 1 c3, .bool false, .int .i64 0, .int .i64 0, .int .i64 0]
              have sx : (w5.alloc (.cells #[.int .i64 0, .slice (some ⟨g3, 0, none⟩) 1 c3, .bool false, .int .i64 0, .int .i64 0, .int .i64 0] 25)).heap.size = w5.heap.size + 1 := by simp
              have bb : Byt ((w5.alloc (.cells #[.int .i64 0, .slice (some ⟨g3, 0, none⟩) 1 c3, .bool false, .int .i64 0, .int .i64 0, .int .i64 0] 25)).alloc (.cells #[.int .u8 2, .int .u8 192, .int .u8 32, .int .u8 0, .int .u8 0, .int .u8 0, .int .u8 0, .int .u8 0, .int .u8 0, .int .u8 0, .int .u8 0, .int .u8 0] 5)) (some ⟨w5.heap.size + 1, 0, none⟩) 12 12 bigL := by
                have := byt_lit (w5.alloc (.cells #[.int .i64 0, .slice (some ⟨g3, 0, none⟩) 1 c3, .bool false, .int .i64 0, .int .i64 0, .int .i64 0] 25)) bigL (by decide) (all8_of (by decide))
                rw [sx] at this
                exact this
              have ky := (Wd.Kept.refl (w5.alloc (.cells #[.int .i64 0, .slice (some ⟨g3, 0, none⟩) 1 c3, .bool false, .int .i64 0, .int .i64 0, .int .i64 0] 25))).alloc (.cells #[.int .u8 2, .int .u8 192, .int .u8 32, .int .u8 0, .int .u8 0, .int .u8 0, .int .u8 0, .int .u8 0, .int .u8 0, .int .u8 0, .int .u8 0, .int .u8 0] 5)
              have Z := Lib.hid (Fz.mk ((FI.out.on kx).on ky) (px.kept ky) ((R3.kept kx).kept ky) bb)
              clear kx px sx bb ky R3 rw3 row3 FI hcx
              go_wp2_with fail
              generalize (w5.alloc (.cells #[.int .i64 0, .slice (some ⟨g3, 0, none⟩) 1 c3, .bool false, .int .i64 0, .int .i64 0, .int .i64 0] 25)).alloc (.cells #[.int .u8 2, .int .u8 192, .int .u8 32, .int .u8 0, .int .u8 0, .int .u8 0, .int .u8 0, .int .u8 0, .int .u8 0, .int .u8 0, .int .u8 0, .int .u8 0] 5) = w6 at *
              generalize w5.heap.size + 1 = bg at *
              generalize w5.heap.size = pq at *
              refine (works_any _ (HT.out.kept Z.out.fi.k)).mono ?_
              rintro e w7 ⟨rfl, k7⟩
              have Z := Lib.hid (Z.out.on k7)
              clear k7
              have p0 := Z.out.fi.blk.cell 0
              have p1 := Z.out.fi.blk.cell 1
              have p2 := Z.out.fi.blk.cell 2
              have p3 := Z.out.fi.blk.cell 3
              have p4 := Z.out.fi.blk.cell 4
              have p5 := Z.out.fi.blk.cell 5
              have hck := Lib.hid (check_any A' 256 c' (allA 256) w7 (Rgs.of_row Z.out.fi.row) Z.out.fi.row.lt)
              unfold ackV at hck
              rw [check_256] at hck
              go_wp2_with fail
              refine hck.out.mono ?_
              rintro e w8 ⟨rfl, k8⟩
              have Z := Lib.hid (Z.out.on k8)
              clear k8 hck p0 p1 p2 p3 p4 p5
              go_wp2_with fail
              refine (frameReads_any X 517 cx xs w8 (HT.out.kept Z.out.fi.k) Z.out.fi.x).mono ?_
              rintro e w9 ⟨rfl, k9⟩
              have Z := Lib.hid (Z.out.on k9)
              clear k9
              have q1 := Z.out.px.cell 1
              have l0 : w9.cell? ⟨g3, 0, none⟩ = some (.int .i64 4) := Z.out.r3.lo (k := 0) (by decide)
              have l1 : w9.cell? ⟨g3, 1, none⟩ = some (.int .i64 5) := Z.out.r3.hi (k := 0) (by decide)
              have heq : ∀ W, (binOp .eql 36 (.agg #[.int .i64 4, .int .i64 5]) (.agg #[.int .i64 4, .int .i64 5])).run Tryd.prog W = .ok (.bool true) W := fun W => eql_range 4 5 4 5 W
              go_wp2_with fail
              refine (fails_any 9 _ 12 12 bigL w9 (HT.out.kept Z.out.fi.k) Z.out.bb (by decide) next_big).mono ?_
              rintro e w10 ⟨rfl, k10⟩
              have Z := Lib.hid (Z.out.on k10)
              clear k10 q1 l0 l1 heq
              have b5 : Byt (w10.alloc (.cells #[.int .u8 2, .int .u8 9, .int .u8 0, .int .u8 65, .int .u8 0] 5)) (some ⟨w10.heap.size, 0, none⟩) 5 5 [2, 9, 0, 65, 0] := byt_lit w10 [2, 9, 0, 65, 0] (by decide) (all8_of (by decide))
              have k5 : Wd.Kept w10 (w10.alloc (.cells #[.int .u8 2, .int .u8 9, .int .u8 0, .int .u8 65, .int .u8 0] 5)) := (Wd.Kept.refl w10).alloc _
              have hf5 := Lib.hid (fails_any 5 _ 5 5 [2, 9, 0, 65, 0] _ (HT.out.kept (Z.out.fi.k.trans k5)) b5 (by decide) next_most)
              have K5 := Lib.hid (Z.out.fi.k.trans k5)
              clear b5 k5 Z
              go_wp2_with fail
              refine hf5.out.mono ?_
              rintro e w11 ⟨rfl, k11⟩
              have K5 := Lib.hid (K5.out.trans k11)
              clear k11 hf5
              have hcz := Lib.hid (check_any none 0 0 zero w11 (Rgs.of_row (Row.nil w11)) (fun b e => by cases e))
              unfold ackV at hcz
              rw [show check zero = 2 by decide] at hcz
              go_wp2_with fail
              refine hcz.out.mono ?_
              rintro e w12 ⟨rfl, k12⟩
              go_wp2_with fail
              go_ret
              exact ⟨rfl, K5.out.trans k12⟩
end Go.Proofs.YtganelhlpobdjaaDoor.Law
