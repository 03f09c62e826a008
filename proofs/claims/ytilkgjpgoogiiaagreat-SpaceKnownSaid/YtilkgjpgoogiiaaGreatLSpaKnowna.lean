/-
  The law SpaceKnown: both ends; more skipped numbers than can be known; spaces that are none.
-/
import Derived.Test.YtilkgjpgoogiiaaGreatLSpaPlaysb
import Derived.Test.YtilkgjpgoogiiaaGreatSpaIb
import Derived.Test.YtilkgjpgoogiiaaGreatSpaYa
import Derived.Test.YtilkgjpgoogiiaaGreatInva
import Derived.Deep.RegionHeld3
import Derived.Deep.DeepCutAuto
import Derived.Deep.Cut
namespace Go.Proofs.YtilkgjpgoogiiaaGreat.Spa
open Go.RowKit Wd Bxs Obs Ths SpaM
open SntM (Pk putErr putL putTop dropL getP getB fly eli)
open Snt (pkC pkV pkA)
open SpnM (R addErr addTo cutErr cutTo has add)
open FrmM (Ack check)
open Num (Dv dvL DvS Dos)
open RttM (Rt)
open Rtt (rtV rtA)
set_option linter.unusedVariables false
set_option linter.unusedSimpArgs false

abbrev endsA : Array Value := #[.int .i64 (-9223372036854775808), .int .i64 (-1), .int .i64 0, .int .i64 1, .int .i64 2, .int .i64 255, .int .i64 256, .int .i64 257, .int .i64 9007199254740991, .int .i64 9007199254740992, .int .i64 9223372036854775807]
def en (i : Nat) : Int := ([(-9223372036854775808), (-1), 0, 1, 2, 255, 256, 257, 9007199254740991, 9007199254740992, 9223372036854775807] : List Int).getD i 0
theorem ends_at {W : World} {e : Nat} (h : Blk W e 3 endsA) (i : Nat) (hi : i < 11) : W.cell? ⟨e, i, none⟩ = some (.int .i64 (en i)) := by
  rw [h.cell i]
  match i, hi with
  | 0, _ => rfl
  | 1, _ => rfl
  | 2, _ => rfl
  | 3, _ => rfl
  | 4, _ => rfl
  | 5, _ => rfl
  | 6, _ => rfl
  | 7, _ => rfl
  | 8, _ => rfl
  | 9, _ => rfl
  | 10, _ => rfl
  | m + 11, h => exact absurd h (by omega)
abbrev zk : Ack := ⟨0, [], false, 0, 0, 0⟩
abbrev zr : Rt := ⟨0, 0, 0, 0, 0⟩
abbrev zp : Pk := ⟨0, 0, 0, false, false, false⟩
abbrev rk (x y : Int) : Ack := ⟨0, [(x, y)], false, 0, 0, 0⟩
abbrev big : Int := 9007199254740991
abbrev nine (x y : Int) (A1 A2 A3 : Option Addr) (c1 c2 c3 : Nat) : List Dv := [⟨0, 0, ⟨x, y, 9, true, true, false⟩, none, 0, 0, zk, zr⟩, ⟨3, 0, mkp 3 3, A1, 1, c1, rk x y, zr⟩, ⟨0, 0, mkp big 9, none, 0, 0, zk, zr⟩, ⟨5, y, zp, none, 0, 0, zk, std⟩, ⟨3, 0, zp, A2, 1, c2, rk big big, zr⟩, ⟨6, 0, zp, none, 0, 0, zk, zr⟩, ⟨5, 50, zp, none, 0, 0, zk, ⟨0, 0, x, 0, y⟩⟩, ⟨7, 0, zp, none, 0, 0, zk, zr⟩, ⟨4, 0, zp, A3, 1, c3, rk x x, zr⟩]
theorem dvs_at : ∀ (Ds : List Dv) (k j : Nat) (d0 : Dv), k < Ds.length → j < 19 → (Ds.flatMap dvL)[k * 19 + j]? = (dvL (Ds.getD k d0))[j]?
  | [], k, j, d0, hk, _ => absurd hk (Nat.not_lt_zero _)
  | d :: Ds, 0, j, d0, _, hj => by
    rw [List.flatMap_cons, Nat.zero_mul, Nat.zero_add, List.getElem?_append_left (by exact hj)]
    rfl
  | d :: Ds, k + 1, j, d0, hk, hj => by
    rw [List.flatMap_cons, List.getElem?_append_right (by show 19 ≤ _; omega), show (k + 1) * 19 + j - (dvL d).length = k * 19 + j by show (k + 1) * 19 + j - 19 = _; omega]
    exact dvs_at Ds k j d0 (by simpa using hk) hj
theorem nine_dos {V W : World} {g : Nat} {x y : Int} {A1 A2 A3 : Option Addr} {c1 c2 c3 : Nat} (hb : Blk V g 40 ((nine x y A1 A2 A3 c1 c2 c3).flatMap dvL).toArray) (h1 : Frm.Src V A1 1 c1 [(x, y)]) (h2 : Frm.Src V A2 1 c2 [(big, big)]) (h3 : Frm.Src V A3 1 c3 [(x, x)]) (k : Kept V W) :
    Dos W (some ⟨g, 0, none⟩) 9 9 (fun i => (nine x y A1 A2 A3 c1 c2 c3).getD i ⟨0, 0, zp, none, 0, 0, zk, zr⟩) := by
  refine ⟨Nat.le_refl _, by unfold maxLen; omega, fun _ => ⟨g, 0, rfl, (hb.kept k).lt, fun i hi => ⟨fun j hj => ?_, ?_⟩⟩⟩
  · rw [show 0 + i * 19 + j = i * 19 + j by omega, (hb.kept k).cell, ← dvs_at (nine x y A1 A2 A3 c1 c2 c3) i j _ hi hj]
    simp only [List.getElem?_toArray]
  · have hz : Frm.Src W none 0 0 [] := ⟨rfl, Nat.le_refl _, .inl ⟨rfl, rfl, rfl⟩⟩
    match i, hi with
    | 0, _ => exact ⟨hz, by show 0 * 16 ≤ 140737488355328; omega⟩
    | 1, _ => exact ⟨h1.kept k, by show 1 * 16 ≤ 140737488355328; omega⟩
    | 2, _ => exact ⟨hz, by show 0 * 16 ≤ 140737488355328; omega⟩
    | 3, _ => exact ⟨hz, by show 0 * 16 ≤ 140737488355328; omega⟩
    | 4, _ => exact ⟨h2.kept k, by show 1 * 16 ≤ 140737488355328; omega⟩
    | 5, _ => exact ⟨hz, by show 0 * 16 ≤ 140737488355328; omega⟩
    | 6, _ => exact ⟨hz, by show 0 * 16 ≤ 140737488355328; omega⟩
    | 7, _ => exact ⟨hz, by show 0 * 16 ≤ 140737488355328; omega⟩
    | 8, _ => exact ⟨h3.kept k, by show 1 * 16 ≤ 140737488355328; omega⟩
theorem row_lit {X U : World} {x y : Int} (k : Kept (X.alloc (.cells #[.int .i64 x, .int .i64 y] 67)) U) : Cd.Rw rgC 67 U (some ⟨X.heap.size, 0, none⟩) [(x, y)].length 1 [(x, y)] :=
  Cd.Rw.mk' rfl ((Blk.new X 67 #[.int .i64 x, .int .i64 y]).kept k) (Nat.le_refl _) (by unfold maxLen; omega) (by first | rfl | simp) (by first | rfl | simp)
inductive Fk where
  | val (v : Value)
  | row (a b : Int)
  | ack (a b : Int) (f : Option Addr → Nat → Value)
  | nine (x y : Int)
def Nine (x y : Int) (v : Value) (W : World) : Prop := ∃ (g : Nat) (A1 A2 A3 : Option Addr) (c1 c2 c3 : Nat), v = .slice (some ⟨g, 0, none⟩) 9 9 ∧ Blk W g 40 ((nine x y A1 A2 A3 c1 c2 c3).flatMap dvL).toArray ∧ Frm.Src W A1 1 c1 [(x, y)] ∧ Frm.Src W A2 1 c2 [(big, big)] ∧ Frm.Src W A3 1 c3 [(x, x)]
def Fk.holds : Fk → Value → World → Prop
  | .val u, v, W => v = u
  | .row a b, v, W => ∃ g : Nat, v = .slice (some ⟨g, 0, none⟩) 1 1 ∧ Blk W g 67 #[.int .i64 a, .int .i64 b]
  | .ack a b f, v, W => ∃ (A : Option Addr) (c : Nat), v = f A c ∧ Frm.Src W A 1 c [(a, b)]
  | .nine x y, v, W => Nine x y v W
theorem Fk.kept (f : Fk) (v : Value) {w w' : World} (h : f.holds v w) (k : Kept w w') : f.holds v w' := by
  cases f with
  | val u => exact h
  | row a b => obtain ⟨g, e, hb⟩ := h; exact ⟨g, e, hb.kept k⟩
  | ack a b f => obtain ⟨A, c, e, hs⟩ := h; exact ⟨A, c, e, hs.kept k⟩
  | nine x y => obtain ⟨g, A1, A2, A3, c1, c2, c3, e, hb, h1, h2, h3⟩ := h; exact ⟨g, A1, A2, A3, c1, c2, c3, e, hb.kept k, h1.kept k, h2.kept k, h3.kept k⟩
def tbl (x y : Int) (i k eb : Nat) : Nat → Fk
  | 0 => .val (.agg #[.int .i64 x, .int .i64 y, .int .i64 9, .bool true, .bool true, .bool false])
  | 1 => .val (.agg (dvL ⟨0, 0, ⟨x, y, 9, true, true, false⟩, none, 0, 0, zk, zr⟩).toArray)
  | 2 => .val (pkV (mkp 3 3))
  | 3 => .val (.slice (some ⟨eb, 0, none⟩) 11 11)
  | 4 => .val (.int .i64 (i : Int))
  | 5 => .val (.pointer (some ⟨eb, i, none⟩))
  | 6 => .val (.int .i64 x)
  | 7 => .val (.slice (some ⟨eb, 0, none⟩) 11 11)
  | 8 => .val (.int .i64 (k : Int))
  | 9 => .val (.pointer (some ⟨eb, k, none⟩))
  | 10 => .val (.int .i64 y)
  | 11 => .val (.agg #[.int .i64 x, .int .i64 y])
  | 12 => .row x y
  | 13 => .ack x y (fun A c => .agg #[.int .i64 0, .slice A 1 c, .bool false, .int .i64 0, .int .i64 0, .int .i64 0])
  | 14 => .ack x y (fun A c => .agg (dvL ⟨3, 0, mkp 3 3, A, 1, c, rk x y, zr⟩).toArray)
  | 15 => .val (pkV (mkp big 9))
  | 16 => .val (.agg (dvL ⟨0, 0, mkp big 9, none, 0, 0, zk, zr⟩).toArray)
  | 17 => .val (.slice (some ⟨eb, 0, none⟩) 11 11)
  | 18 => .val (.int .i64 (k : Int))
  | 19 => .val (.pointer (some ⟨eb, k, none⟩))
  | 20 => .val (.int .i64 y)
  | 21 => .val (rtV std)
  | 22 => .val (.agg (dvL ⟨5, y, zp, none, 0, 0, zk, std⟩).toArray)
  | 23 => .val (.agg #[.int .i64 big, .int .i64 big])
  | 24 => .row big big
  | 25 => .ack big big (fun A c => .agg #[.int .i64 0, .slice A 1 c, .bool false, .int .i64 0, .int .i64 0, .int .i64 0])
  | 26 => .ack big big (fun A c => .agg (dvL ⟨3, 0, zp, A, 1, c, rk big big, zr⟩).toArray)
  | 27 => .val (.agg (dvL ⟨6, 0, zp, none, 0, 0, zk, zr⟩).toArray)
  | 28 => .val (.slice (some ⟨eb, 0, none⟩) 11 11)
  | 29 => .val (.int .i64 (i : Int))
  | 30 => .val (.pointer (some ⟨eb, i, none⟩))
  | 31 => .val (.int .i64 x)
  | 32 => .val (.slice (some ⟨eb, 0, none⟩) 11 11)
  | 33 => .val (.int .i64 (k : Int))
  | 34 => .val (.pointer (some ⟨eb, k, none⟩))
  | 35 => .val (.int .i64 y)
  | 36 => .val (rtV ⟨0, 0, x, 0, y⟩)
  | 37 => .val (.agg (dvL ⟨5, 50, zp, none, 0, 0, zk, ⟨0, 0, x, 0, y⟩⟩).toArray)
  | 38 => .val (.agg (dvL ⟨7, 0, zp, none, 0, 0, zk, zr⟩).toArray)
  | 39 => .val (.slice (some ⟨eb, 0, none⟩) 11 11)
  | 40 => .val (.int .i64 (i : Int))
  | 41 => .val (.pointer (some ⟨eb, i, none⟩))
  | 42 => .val (.int .i64 x)
  | 43 => .val (.slice (some ⟨eb, 0, none⟩) 11 11)
  | 44 => .val (.int .i64 (i : Int))
  | 45 => .val (.pointer (some ⟨eb, i, none⟩))
  | 46 => .val (.int .i64 x)
  | 47 => .val (.agg #[.int .i64 x, .int .i64 x])
  | 48 => .row x x
  | 49 => .ack x x (fun A c => .agg #[.int .i64 0, .slice A 1 c, .bool false, .int .i64 0, .int .i64 0, .int .i64 0])
  | 50 => .ack x x (fun A c => .agg (dvL ⟨4, 0, zp, A, 1, c, rk x x, zr⟩).toArray)
  | 51 => .nine x y
  | 52 => .nine x y
  | _ => .val undef
theorem row_of {w : World} {g : Nat} {a b : Int} (h : Blk w g 67 #[.int .i64 a, .int .i64 b]) : Cd.Rw rgC 67 w (some ⟨g, 0, none⟩) [(a, b)].length 1 [(a, b)] :=
  Cd.Rw.mk' rfl h (Nat.le_refl _) (by unfold maxLen; omega) (by first | rfl | simp) (by first | rfl | simp)
theorem ack_of {w : World} {g : Nat} {a b : Int} (h : Blk w g 67 #[.int .i64 a, .int .i64 b]) : Calls Tryz.prog 36 #[.slice (some ⟨g, 0, none⟩) 1 1] w (fun e W => ∃ v, e = .returned v ∧ Kept w W ∧ (Fk.ack a b (fun A c => .agg #[.int .i64 0, .slice A 1 c, .bool false, .int .i64 0, .int .i64 0, .int .i64 0])).holds v W) :=
  (ack_thin (row_of h) (by show 1 ≤ 1000; omega)).mono fun e W ⟨A1, c1, he, hs⟩ => ⟨_, he, hs.K, A1, c1, rfl, Frm.Src.of_row (rng_row hs 0 rfl)⟩
abbrev rk3 : Ack := ⟨0, [(510, 510), (500, 500), (0, 0)], false, 0, 0, 0⟩
theorem x_ackE : ackE (exN 256) rk3 = 0 := by decide +kernel
theorem x_ackL : (ackL (exN 256) rk3).map Pk.n = [0, 500, 510] := by decide +kernel
theorem x_len : (ackL (exN 256) rk3).length ≤ 1000 := by decide +kernel
theorem x_full : sentE (SpaM.ack (exN 256) rk3) (mkp 512 9) = 5 := by decide +kernel
theorem x_next : sentE (SpaM.ack (exN 256) rk3) (mkp 511 9) = 0 := by decide +kernel
theorem x_ok : OkS (SpaM.ack (exN 256) rk3) := ack_ok (exN_ok 256 (Nat.le_refl _)) _
section
variable {w V : World} {M : List Ob}
theorem ack3 {A : Option Addr} {c : Nat} (h : Sx w (p2O A 3 c [(510, 510), (500, 500), (0, 0)] :: M) V) : Calls Tryz.prog 36 #[.slice A 3 c] V (fun e W => ∃ A1 c1, e = .returned (.agg #[.int .i64 0, .slice A1 3 c1, .bool false, .int .i64 0, .int .i64 0, .int .i64 0]) ∧ Sx w (rngO A1 3 c1 [(510, 510), (500, 500), (0, 0)] :: M) W) := by
  refine (ack_sx (l := [(510, 510), (500, 500), (0, 0)]) h (by simp)).mono ?_
  rintro e W ⟨A1, c1, rfl, hb⟩
  exact ⟨A1, c1, rfl, hb.sel 2 [0] [1] (by decide)⟩
theorem row3 (h : Sx w M V) : Sx w (p2O (some ⟨V.heap.size, 0, none⟩) 3 3 [(510, 510), (500, 500), (0, 0)] :: M) (V.alloc (.cells #[.int .i64 510, .int .i64 510, .int .i64 500, .int .i64 500, .int .i64 0, .int .i64 0] 67)) := box_row [(510, 510), (500, 500), (0, 0)] rfl rfl (by decide) (h.new 67 #[.int .i64 510, .int .i64 510, .int .i64 500, .int .i64 500, .int .i64 0, .int .i64 0])
theorem ackB {s c1 : Nat} {A1 : Option Addr} (h : Sx w (rngO A1 3 c1 [(510, 510), (500, 500), (0, 0)] :: progO s (exN 256) :: M) V) : Calls Tryz.prog 17 #[ptr s, .agg #[.int .i64 0, .slice A1 3 c1, .bool false, .int .i64 0, .int .i64 0, .int .i64 0]] V (fun e W => ∃ A2 n2 c2, e = .returned (.tuple #[.slice A2 n2 c2, .int .i64 0]) ∧ n2 = (ackL (exN 256) rk3).length ∧ Sx w (pkO A2 n2 c2 (ackL (exN 256) rk3) :: progO s (SpaM.ack (exN 256) rk3) :: M) W) := by
  have k := prog_ack rk3 (exN_ok 256 (Nat.le_refl _)) h.swap
  rw [x_ackE] at k
  refine k.mono ?_
  rintro e W ⟨A2, n2, c2, rfl, hn, hb⟩
  exact ⟨A2, n2, c2, rfl, hn, hb.sel 3 [0, 1] [2] (by decide)⟩
end
set_option maxRecDepth 100000 in
set_option maxHeartbeats 16000000 in
theorem spaceKnown_any (w : World) : Calls Tryz.prog 9 #[] w fun e w' => e = .returned (.bool true) ∧ Kept w w' := by
  have D : Hid (Sx w [box w.heap.size 3 endsA] (w.alloc (.cells endsA 3))) := Lib.hid ((Sx.nil w).new 3 endsA)
  go_enter Tryz.func9, Tryz.ntmps9
  go_wp2_with fail
  generalize w.alloc (.cells endsA 3) = w1 at *
  generalize w.heap.size = eb at *
  have D : Hid (Sx w [box eb 3 endsA] w1) := D
  have HE : Hid (∀ V, Sx w [box eb 3 endsA] V → ∀ i, i < 11 → V.cell? ⟨eb, i, none⟩ = some (.int .i64 (en i))) := Lib.hid (fun V h i hi => ends_at (h.box_ 0 rfl) i hi)
  go_loopw [2] (fun s2 wr => ∃ i : Nat, i ≤ 11 ∧ s2 = .int .i64 i ∧ Hid (Sx w [box eb 3 endsA] wr)) (fun s2 _ => 11 - (intOf s2).toNat)
  case atStart => exact ⟨0, Nat.zero_le _, rfl, D⟩
  case round =>
    clear D
    obtain ⟨i, hi, rfl, D⟩ := hrel
    by_cases hlt : i < 11
    · have hi0 : (0 : Int) ≤ (i : Int) := by omega
      have hi1 : (i : Int) < 11 := by omega
      have hwi : IntKind.i64.wrap ((i : Int) + 1) = (i : Int) + 1 := IntWalk.i64_in _ (by omega)
      go_wp2_with fail
      go_loopw [3] (fun s3 wr => ∃ k : Nat, k ≤ 11 ∧ s3 = .int .i64 k ∧ Hid (Sx w [box eb 3 endsA] wr)) (fun s3 _ => 11 - (intOf s3).toNat)
      case atStart => exact ⟨0, Nat.zero_le _, rfl, D⟩
      case round =>
        clear D
        obtain ⟨k, hk, rfl, D⟩ := hrel
        by_cases hlk : k < 11
        · have hk0 : (0 : Int) ≤ (k : Int) := by omega
          have hk1' : (k : Int) < 11 := by omega
          have hwk : IntKind.i64.wrap ((k : Int) + 1) = (k : Int) + 1 := IntWalk.i64_in _ (by omega)
          have HX : Hid (∀ V, Sx w [box eb 3 endsA] V → V.cell? ⟨eb, i, none⟩ = some (.int .i64 (en i))) := Lib.hid (fun V h => HE.out V h i hlt)
          have HY : Hid (∀ V, Sx w [box eb 3 endsA] V → V.cell? ⟨eb, k, none⟩ = some (.int .i64 (en k))) := Lib.hid (fun V h => HE.out V h k hlk)
          generalize en i = x at *
          generalize en k = y at *
          have HC : Hid (∀ U, Kept wr U → U.cell? ⟨eb, i, none⟩ = some (.int .i64 x) ∧ U.cell? ⟨eb, k, none⟩ = some (.int .i64 y)) := Lib.hid (fun U h => ⟨HX.out _ (D.out.on h), HY.out _ (D.out.on h)⟩)
          have D8 : Hid (Sx w (box wr.heap.size 32 #[.int .i64 x, .int .i64 y, .int .i64 9, .bool true, .bool true, .bool false] :: [box eb 3 endsA]) (wr.alloc (.cells #[.int .i64 x, .int .i64 y, .int .i64 9, .bool true, .bool true, .bool false] 32)).drew) := Lib.hid ((D.out.new 32 #[.int .i64 x, .int .i64 y, .int .i64 9, .bool true, .bool true, .bool false]).on (Kept.refl _).drew)
          go_upto_region 8 with (fail)
          go_region_held3 (fun U => U.cell? ⟨eb, i, none⟩ = some (.int .i64 x) ∧ U.cell? ⟨eb, k, none⟩ = some (.int .i64 y))
            (with_reducible refine HC.out _ ?_; repeat' (first | with_reducible exact Kept.refl _ | with_reducible refine Kept.drew ?_ | with_reducible refine Kept.alloc ?_ _ | with_reducible refine Kept.setCell ?_ (Nat.le_refl _) _))
            (fail)
          generalize (wr.alloc (.cells #[.int .i64 x, .int .i64 y, .int .i64 9, .bool true, .bool true, .bool false] 32)).drew = V0 at *
          have D : Hid (Sx w (box wr.heap.size 32 #[.int .i64 x, .int .i64 y, .int .i64 9, .bool true, .bool true, .bool false] :: [box eb 3 endsA]) V0) := D8
          generalize wr.heap.size = pb at *
          have HC : Hid (∀ U, Kept V0 U → U.cell? ⟨eb, i, none⟩ = some (.int .i64 x) ∧ U.cell? ⟨eb, k, none⟩ = some (.int .i64 y) ∧ U.cell? ⟨pb, 0, none⟩ = some (.int .i64 x) ∧ U.cell? ⟨pb, 1, none⟩ = some (.int .i64 y) ∧ U.cell? ⟨pb, 2, none⟩ = some (.int .i64 9) ∧ U.cell? ⟨pb, 3, none⟩ = some (.bool true) ∧ U.cell? ⟨pb, 4, none⟩ = some (.bool true) ∧ U.cell? ⟨pb, 5, none⟩ = some (.bool false)) := Lib.hid (fun U h => by
            have D9 := D.out.on h
            exact ⟨HX.out _ D9.tail, HY.out _ D9.tail, (D9.box_ 0 rfl).cell 0, (D9.box_ 0 rfl).cell 1, (D9.box_ 0 rfl).cell 2, (D9.box_ 0 rfl).cell 3, (D9.box_ 0 rfl).cell 4, (D9.box_ 0 rfl).cell 5⟩)
          clear D8
          go_upto_region 9 with (fail)
          go_cut [5] (fun s5 wx => ∃ v : Value, s5 = v ∧ Hid (Nine x y v wx) ∧ Hid (Kept V0 wx))
          case first =>
            rename_i JJ KK hJJ hKK
            refine Inv.wp_region_up (fun n => (tbl x y i k eb n).holds) (fun t => (decide (40 ≤ t) && decide (t ≤ 91)) || t == 5) (by kernel_rfl) (by kernel_rfl) (by kernel_rfl) (fun n v w w' h k => Fk.kept _ v h k) ?st ?hd
            case st =>
              intro n o ho a w hkw hfr hdep
              match n, ho with
              | 0, ho =>
                obtain rfl := Option.some.inj ho; simp only [List.getElem_toArray, List.getElem_cons_zero, List.getElem_cons_succ]; have e4 := hfr 4 rfl; have e4 : a.eval (.tmp 4) = ptr pb := e4; obtain ⟨z0, z1, z2, z3, z4, z5, z6, z7⟩ := HC.out w hkw; exact Inv.step_val (v := .agg #[.int .i64 x, .int .i64 y, .int .i64 9, .bool true, .bool true, .bool false]) (by simp only [execOp, resolve, List.map_toArray, List.map_cons, List.map_nil, e4]; go_simp) (Kept.refl _) rfl
              | 1, ho =>
                obtain rfl := Option.some.inj ho; simp only [List.getElem_toArray, List.getElem_cons_zero, List.getElem_cons_succ]; have e40 : a.eval (.tmp 40) = .agg #[.int .i64 x, .int .i64 y, .int .i64 9, .bool true, .bool true, .bool false] := hdep ⟨0, .data⟩ (by simp) rfl _ rfl 40 rfl; exact Inv.step_val (v := .agg (dvL ⟨0, 0, ⟨x, y, 9, true, true, false⟩, none, 0, 0, zk, zr⟩).toArray) (by simp only [execOp, resolve, List.map_toArray, List.map_cons, List.map_nil, e40]; kernel_rfl) (Kept.refl _) rfl
              | 2, ho =>
                obtain rfl := Option.some.inj ho; simp only [List.getElem_toArray, List.getElem_cons_zero, List.getElem_cons_succ]; exact Inv.step_call (by simp only [execOp, resolve, List.map_toArray, List.map_cons, List.map_nil]; kernel_rfl) ((packet_any 3 3 w).mono fun e W ⟨he, hk⟩ => ⟨_, he, hk, rfl⟩)
              | 3, ho =>
                obtain rfl := Option.some.inj ho; simp only [List.getElem_toArray, List.getElem_cons_zero, List.getElem_cons_succ]; have e1 := hfr 1 rfl; have e1 : a.eval (.tmp 1) = .slice (some ⟨eb, 0, none⟩) 11 11 := e1; exact Inv.step_val (v := .slice (some ⟨eb, 0, none⟩) 11 11) (by simp only [execOp, resolve, List.map_toArray, List.map_cons, List.map_nil, e1]; kernel_rfl) (Kept.refl _) rfl
              | 4, ho =>
                obtain rfl := Option.some.inj ho; simp only [List.getElem_toArray, List.getElem_cons_zero, List.getElem_cons_succ]; have e2 := hfr 2 rfl; have e2 : a.eval (.tmp 2) = .int .i64 (i : Int) := e2; exact Inv.step_val (v := .int .i64 (i : Int)) (by simp only [execOp, resolve, List.map_toArray, List.map_cons, List.map_nil, e2]; kernel_rfl) (Kept.refl _) rfl
              | 5, ho =>
                obtain rfl := Option.some.inj ho; simp only [List.getElem_toArray, List.getElem_cons_zero, List.getElem_cons_succ]; have e43 : a.eval (.tmp 43) = .slice (some ⟨eb, 0, none⟩) 11 11 := hdep ⟨3, .data⟩ (by simp) rfl _ rfl 43 rfl; have e44 : a.eval (.tmp 44) = .int .i64 (i : Int) := hdep ⟨4, .data⟩ (by simp) rfl _ rfl 44 rfl; exact Inv.step_val (v := .pointer (some ⟨eb, i, none⟩)) (by simp only [execOp, resolve, List.map_toArray, List.map_cons, List.map_nil, e43, e44]; go_simp) (Kept.refl _) rfl
              | 6, ho =>
                obtain rfl := Option.some.inj ho; simp only [List.getElem_toArray, List.getElem_cons_zero, List.getElem_cons_succ]; have e45 : a.eval (.tmp 45) = .pointer (some ⟨eb, i, none⟩) := hdep ⟨5, .data⟩ (by simp) rfl _ rfl 45 rfl; obtain ⟨z0, z1, z2, z3, z4, z5, z6, z7⟩ := HC.out w hkw; exact Inv.step_val (v := .int .i64 x) (by simp only [execOp, resolve, List.map_toArray, List.map_cons, List.map_nil, e45]; go_simp) (Kept.refl _) rfl
              | 7, ho =>
                obtain rfl := Option.some.inj ho; simp only [List.getElem_toArray, List.getElem_cons_zero, List.getElem_cons_succ]; have e1 := hfr 1 rfl; have e1 : a.eval (.tmp 1) = .slice (some ⟨eb, 0, none⟩) 11 11 := e1; exact Inv.step_val (v := .slice (some ⟨eb, 0, none⟩) 11 11) (by simp only [execOp, resolve, List.map_toArray, List.map_cons, List.map_nil, e1]; kernel_rfl) (Kept.refl _) rfl
              | 8, ho =>
                obtain rfl := Option.some.inj ho; simp only [List.getElem_toArray, List.getElem_cons_zero, List.getElem_cons_succ]; have e3 := hfr 3 rfl; have e3 : a.eval (.tmp 3) = .int .i64 (k : Int) := e3; exact Inv.step_val (v := .int .i64 (k : Int)) (by simp only [execOp, resolve, List.map_toArray, List.map_cons, List.map_nil, e3]; kernel_rfl) (Kept.refl _) rfl
              | 9, ho =>
                obtain rfl := Option.some.inj ho; simp only [List.getElem_toArray, List.getElem_cons_zero, List.getElem_cons_succ]; have e47 : a.eval (.tmp 47) = .slice (some ⟨eb, 0, none⟩) 11 11 := hdep ⟨7, .data⟩ (by simp) rfl _ rfl 47 rfl; have e48 : a.eval (.tmp 48) = .int .i64 (k : Int) := hdep ⟨8, .data⟩ (by simp) rfl _ rfl 48 rfl; exact Inv.step_val (v := .pointer (some ⟨eb, k, none⟩)) (by simp only [execOp, resolve, List.map_toArray, List.map_cons, List.map_nil, e47, e48]; go_simp) (Kept.refl _) rfl
              | 10, ho =>
                obtain rfl := Option.some.inj ho; simp only [List.getElem_toArray, List.getElem_cons_zero, List.getElem_cons_succ]; have e49 : a.eval (.tmp 49) = .pointer (some ⟨eb, k, none⟩) := hdep ⟨9, .data⟩ (by simp) rfl _ rfl 49 rfl; obtain ⟨z0, z1, z2, z3, z4, z5, z6, z7⟩ := HC.out w hkw; exact Inv.step_val (v := .int .i64 y) (by simp only [execOp, resolve, List.map_toArray, List.map_cons, List.map_nil, e49]; go_simp) (Kept.refl _) rfl
              | 11, ho =>
                obtain rfl := Option.some.inj ho; simp only [List.getElem_toArray, List.getElem_cons_zero, List.getElem_cons_succ]; have e46 : a.eval (.tmp 46) = .int .i64 x := hdep ⟨6, .data⟩ (by simp) rfl _ rfl 46 rfl; have e50 : a.eval (.tmp 50) = .int .i64 y := hdep ⟨10, .data⟩ (by simp) rfl _ rfl 50 rfl; exact Inv.step_val (v := .agg #[.int .i64 x, .int .i64 y]) (by simp only [execOp, resolve, List.map_toArray, List.map_cons, List.map_nil, e46, e50]; kernel_rfl) (Kept.refl _) rfl
              | 12, ho =>
                obtain rfl := Option.some.inj ho; simp only [List.getElem_toArray, List.getElem_cons_zero, List.getElem_cons_succ]; have e51 : a.eval (.tmp 51) = .agg #[.int .i64 x, .int .i64 y] := hdep ⟨11, .data⟩ (by simp) rfl _ rfl 51 rfl; exact Inv.step_val (v := .slice (some ⟨w.heap.size, 0, none⟩) 1 1) (w' := w.alloc (.cells #[.int .i64 x, .int .i64 y] 67)) (by simp only [execOp, resolve, List.map_toArray, List.map_cons, List.map_nil, e51]; kernel_rfl) ((Kept.refl _).alloc _) ⟨w.heap.size, rfl, Blk.new _ _ _⟩
              | 13, ho =>
                obtain rfl := Option.some.inj ho; simp only [List.getElem_toArray, List.getElem_cons_zero, List.getElem_cons_succ]; obtain ⟨g52, e52, b52⟩ := hdep ⟨12, .data⟩ (by simp) rfl _ rfl 52 rfl; exact Inv.step_call (by simp only [execOp, resolve, List.map_toArray, List.map_cons, List.map_nil, e52]; kernel_rfl) (ack_of b52)
              | 14, ho =>
                obtain rfl := Option.some.inj ho; simp only [List.getElem_toArray, List.getElem_cons_zero, List.getElem_cons_succ]; have e42 : a.eval (.tmp 42) = pkV (mkp 3 3) := hdep ⟨2, .data⟩ (by simp) rfl _ rfl 42 rfl; obtain ⟨A53, c53, e53, s53⟩ := hdep ⟨13, .data⟩ (by simp) rfl _ rfl 53 rfl; exact Inv.step_val (v := (fun (A : Option Addr) (c : Nat) => (.agg (dvL ⟨3, 0, mkp 3 3, A, 1, c, rk x y, zr⟩).toArray : Value)) A53 c53) (by simp only [execOp, resolve, List.map_toArray, List.map_cons, List.map_nil, e42, e53]; kernel_rfl) (Kept.refl _) ⟨A53, c53, rfl, s53⟩
              | 15, ho =>
                obtain rfl := Option.some.inj ho; simp only [List.getElem_toArray, List.getElem_cons_zero, List.getElem_cons_succ]; exact Inv.step_call (by simp only [execOp, resolve, List.map_toArray, List.map_cons, List.map_nil]; kernel_rfl) ((packet_any big 9 w).mono fun e W ⟨he, hk⟩ => ⟨_, he, hk, rfl⟩)
              | 16, ho =>
                obtain rfl := Option.some.inj ho; simp only [List.getElem_toArray, List.getElem_cons_zero, List.getElem_cons_succ]; have e55 : a.eval (.tmp 55) = pkV (mkp big 9) := hdep ⟨15, .data⟩ (by simp) rfl _ rfl 55 rfl; exact Inv.step_val (v := .agg (dvL ⟨0, 0, mkp big 9, none, 0, 0, zk, zr⟩).toArray) (by simp only [execOp, resolve, List.map_toArray, List.map_cons, List.map_nil, e55]; kernel_rfl) (Kept.refl _) rfl
              | 17, ho =>
                obtain rfl := Option.some.inj ho; simp only [List.getElem_toArray, List.getElem_cons_zero, List.getElem_cons_succ]; have e1 := hfr 1 rfl; have e1 : a.eval (.tmp 1) = .slice (some ⟨eb, 0, none⟩) 11 11 := e1; exact Inv.step_val (v := .slice (some ⟨eb, 0, none⟩) 11 11) (by simp only [execOp, resolve, List.map_toArray, List.map_cons, List.map_nil, e1]; kernel_rfl) (Kept.refl _) rfl
              | 18, ho =>
                obtain rfl := Option.some.inj ho; simp only [List.getElem_toArray, List.getElem_cons_zero, List.getElem_cons_succ]; have e3 := hfr 3 rfl; have e3 : a.eval (.tmp 3) = .int .i64 (k : Int) := e3; exact Inv.step_val (v := .int .i64 (k : Int)) (by simp only [execOp, resolve, List.map_toArray, List.map_cons, List.map_nil, e3]; kernel_rfl) (Kept.refl _) rfl
              | 19, ho =>
                obtain rfl := Option.some.inj ho; simp only [List.getElem_toArray, List.getElem_cons_zero, List.getElem_cons_succ]; have e57 : a.eval (.tmp 57) = .slice (some ⟨eb, 0, none⟩) 11 11 := hdep ⟨17, .data⟩ (by simp) rfl _ rfl 57 rfl; have e58 : a.eval (.tmp 58) = .int .i64 (k : Int) := hdep ⟨18, .data⟩ (by simp) rfl _ rfl 58 rfl; exact Inv.step_val (v := .pointer (some ⟨eb, k, none⟩)) (by simp only [execOp, resolve, List.map_toArray, List.map_cons, List.map_nil, e57, e58]; go_simp) (Kept.refl _) rfl
              | 20, ho =>
                obtain rfl := Option.some.inj ho; simp only [List.getElem_toArray, List.getElem_cons_zero, List.getElem_cons_succ]; have e59 : a.eval (.tmp 59) = .pointer (some ⟨eb, k, none⟩) := hdep ⟨19, .data⟩ (by simp) rfl _ rfl 59 rfl; obtain ⟨z0, z1, z2, z3, z4, z5, z6, z7⟩ := HC.out w hkw; exact Inv.step_val (v := .int .i64 y) (by simp only [execOp, resolve, List.map_toArray, List.map_cons, List.map_nil, e59]; go_simp) (Kept.refl _) rfl
              | 21, ho =>
                obtain rfl := Option.some.inj ho; simp only [List.getElem_toArray, List.getElem_cons_zero, List.getElem_cons_succ]; exact Inv.step_call (by simp only [execOp, resolve, List.map_toArray, List.map_cons, List.map_nil]; kernel_rfl) ((steady_any w).mono fun e W ⟨he, hk⟩ => ⟨_, he, hk, rfl⟩)
              | 22, ho =>
                obtain rfl := Option.some.inj ho; simp only [List.getElem_toArray, List.getElem_cons_zero, List.getElem_cons_succ]; have e60 : a.eval (.tmp 60) = .int .i64 y := hdep ⟨20, .data⟩ (by simp) rfl _ rfl 60 rfl; have e61 : a.eval (.tmp 61) = rtV std := hdep ⟨21, .data⟩ (by simp) rfl _ rfl 61 rfl; exact Inv.step_val (v := .agg (dvL ⟨5, y, zp, none, 0, 0, zk, std⟩).toArray) (by simp only [execOp, resolve, List.map_toArray, List.map_cons, List.map_nil, e60, e61]; kernel_rfl) (Kept.refl _) rfl
              | 23, ho =>
                obtain rfl := Option.some.inj ho; simp only [List.getElem_toArray, List.getElem_cons_zero, List.getElem_cons_succ]; exact Inv.step_val (v := .agg #[.int .i64 big, .int .i64 big]) (by simp only [execOp, resolve, List.map_toArray, List.map_cons, List.map_nil]; kernel_rfl) (Kept.refl _) rfl
              | 24, ho =>
                obtain rfl := Option.some.inj ho; simp only [List.getElem_toArray, List.getElem_cons_zero, List.getElem_cons_succ]; have e63 : a.eval (.tmp 63) = .agg #[.int .i64 big, .int .i64 big] := hdep ⟨23, .data⟩ (by simp) rfl _ rfl 63 rfl; exact Inv.step_val (v := .slice (some ⟨w.heap.size, 0, none⟩) 1 1) (w' := w.alloc (.cells #[.int .i64 big, .int .i64 big] 67)) (by simp only [execOp, resolve, List.map_toArray, List.map_cons, List.map_nil, e63]; kernel_rfl) ((Kept.refl _).alloc _) ⟨w.heap.size, rfl, Blk.new _ _ _⟩
              | 25, ho =>
                obtain rfl := Option.some.inj ho; simp only [List.getElem_toArray, List.getElem_cons_zero, List.getElem_cons_succ]; obtain ⟨g64, e64, b64⟩ := hdep ⟨24, .data⟩ (by simp) rfl _ rfl 64 rfl; exact Inv.step_call (by simp only [execOp, resolve, List.map_toArray, List.map_cons, List.map_nil, e64]; kernel_rfl) (ack_of b64)
              | 26, ho =>
                obtain rfl := Option.some.inj ho; simp only [List.getElem_toArray, List.getElem_cons_zero, List.getElem_cons_succ]; obtain ⟨A65, c65, e65, s65⟩ := hdep ⟨25, .data⟩ (by simp) rfl _ rfl 65 rfl; exact Inv.step_val (v := (fun (A : Option Addr) (c : Nat) => (.agg (dvL ⟨3, 0, zp, A, 1, c, rk big big, zr⟩).toArray : Value)) A65 c65) (by simp only [execOp, resolve, List.map_toArray, List.map_cons, List.map_nil, e65]; kernel_rfl) (Kept.refl _) ⟨A65, c65, rfl, s65⟩
              | 27, ho =>
                obtain rfl := Option.some.inj ho; simp only [List.getElem_toArray, List.getElem_cons_zero, List.getElem_cons_succ]; exact Inv.step_val (v := .agg (dvL ⟨6, 0, zp, none, 0, 0, zk, zr⟩).toArray) (by simp only [execOp, resolve, List.map_toArray, List.map_cons, List.map_nil]; kernel_rfl) (Kept.refl _) rfl
              | 28, ho =>
                obtain rfl := Option.some.inj ho; simp only [List.getElem_toArray, List.getElem_cons_zero, List.getElem_cons_succ]; have e1 := hfr 1 rfl; have e1 : a.eval (.tmp 1) = .slice (some ⟨eb, 0, none⟩) 11 11 := e1; exact Inv.step_val (v := .slice (some ⟨eb, 0, none⟩) 11 11) (by simp only [execOp, resolve, List.map_toArray, List.map_cons, List.map_nil, e1]; kernel_rfl) (Kept.refl _) rfl
              | 29, ho =>
                obtain rfl := Option.some.inj ho; simp only [List.getElem_toArray, List.getElem_cons_zero, List.getElem_cons_succ]; have e2 := hfr 2 rfl; have e2 : a.eval (.tmp 2) = .int .i64 (i : Int) := e2; exact Inv.step_val (v := .int .i64 (i : Int)) (by simp only [execOp, resolve, List.map_toArray, List.map_cons, List.map_nil, e2]; kernel_rfl) (Kept.refl _) rfl
              | 30, ho =>
                obtain rfl := Option.some.inj ho; simp only [List.getElem_toArray, List.getElem_cons_zero, List.getElem_cons_succ]; have e68 : a.eval (.tmp 68) = .slice (some ⟨eb, 0, none⟩) 11 11 := hdep ⟨28, .data⟩ (by simp) rfl _ rfl 68 rfl; have e69 : a.eval (.tmp 69) = .int .i64 (i : Int) := hdep ⟨29, .data⟩ (by simp) rfl _ rfl 69 rfl; exact Inv.step_val (v := .pointer (some ⟨eb, i, none⟩)) (by simp only [execOp, resolve, List.map_toArray, List.map_cons, List.map_nil, e68, e69]; go_simp) (Kept.refl _) rfl
              | 31, ho =>
                obtain rfl := Option.some.inj ho; simp only [List.getElem_toArray, List.getElem_cons_zero, List.getElem_cons_succ]; have e70 : a.eval (.tmp 70) = .pointer (some ⟨eb, i, none⟩) := hdep ⟨30, .data⟩ (by simp) rfl _ rfl 70 rfl; obtain ⟨z0, z1, z2, z3, z4, z5, z6, z7⟩ := HC.out w hkw; exact Inv.step_val (v := .int .i64 x) (by simp only [execOp, resolve, List.map_toArray, List.map_cons, List.map_nil, e70]; go_simp) (Kept.refl _) rfl
              | 32, ho =>
                obtain rfl := Option.some.inj ho; simp only [List.getElem_toArray, List.getElem_cons_zero, List.getElem_cons_succ]; have e1 := hfr 1 rfl; have e1 : a.eval (.tmp 1) = .slice (some ⟨eb, 0, none⟩) 11 11 := e1; exact Inv.step_val (v := .slice (some ⟨eb, 0, none⟩) 11 11) (by simp only [execOp, resolve, List.map_toArray, List.map_cons, List.map_nil, e1]; kernel_rfl) (Kept.refl _) rfl
              | 33, ho =>
                obtain rfl := Option.some.inj ho; simp only [List.getElem_toArray, List.getElem_cons_zero, List.getElem_cons_succ]; have e3 := hfr 3 rfl; have e3 : a.eval (.tmp 3) = .int .i64 (k : Int) := e3; exact Inv.step_val (v := .int .i64 (k : Int)) (by simp only [execOp, resolve, List.map_toArray, List.map_cons, List.map_nil, e3]; kernel_rfl) (Kept.refl _) rfl
              | 34, ho =>
                obtain rfl := Option.some.inj ho; simp only [List.getElem_toArray, List.getElem_cons_zero, List.getElem_cons_succ]; have e72 : a.eval (.tmp 72) = .slice (some ⟨eb, 0, none⟩) 11 11 := hdep ⟨32, .data⟩ (by simp) rfl _ rfl 72 rfl; have e73 : a.eval (.tmp 73) = .int .i64 (k : Int) := hdep ⟨33, .data⟩ (by simp) rfl _ rfl 73 rfl; exact Inv.step_val (v := .pointer (some ⟨eb, k, none⟩)) (by simp only [execOp, resolve, List.map_toArray, List.map_cons, List.map_nil, e72, e73]; go_simp) (Kept.refl _) rfl
              | 35, ho =>
                obtain rfl := Option.some.inj ho; simp only [List.getElem_toArray, List.getElem_cons_zero, List.getElem_cons_succ]; have e74 : a.eval (.tmp 74) = .pointer (some ⟨eb, k, none⟩) := hdep ⟨34, .data⟩ (by simp) rfl _ rfl 74 rfl; obtain ⟨z0, z1, z2, z3, z4, z5, z6, z7⟩ := HC.out w hkw; exact Inv.step_val (v := .int .i64 y) (by simp only [execOp, resolve, List.map_toArray, List.map_cons, List.map_nil, e74]; go_simp) (Kept.refl _) rfl
              | 36, ho =>
                obtain rfl := Option.some.inj ho; simp only [List.getElem_toArray, List.getElem_cons_zero, List.getElem_cons_succ]; have e71 : a.eval (.tmp 71) = .int .i64 x := hdep ⟨31, .data⟩ (by simp) rfl _ rfl 71 rfl; have e75 : a.eval (.tmp 75) = .int .i64 y := hdep ⟨35, .data⟩ (by simp) rfl _ rfl 75 rfl; exact Inv.step_val (v := rtV ⟨0, 0, x, 0, y⟩) (by simp only [execOp, resolve, List.map_toArray, List.map_cons, List.map_nil, e71, e75]; kernel_rfl) (Kept.refl _) rfl
              | 37, ho =>
                obtain rfl := Option.some.inj ho; simp only [List.getElem_toArray, List.getElem_cons_zero, List.getElem_cons_succ]; have e76 : a.eval (.tmp 76) = rtV ⟨0, 0, x, 0, y⟩ := hdep ⟨36, .data⟩ (by simp) rfl _ rfl 76 rfl; exact Inv.step_val (v := .agg (dvL ⟨5, 50, zp, none, 0, 0, zk, ⟨0, 0, x, 0, y⟩⟩).toArray) (by simp only [execOp, resolve, List.map_toArray, List.map_cons, List.map_nil, e76]; kernel_rfl) (Kept.refl _) rfl
              | 38, ho =>
                obtain rfl := Option.some.inj ho; simp only [List.getElem_toArray, List.getElem_cons_zero, List.getElem_cons_succ]; exact Inv.step_val (v := .agg (dvL ⟨7, 0, zp, none, 0, 0, zk, zr⟩).toArray) (by simp only [execOp, resolve, List.map_toArray, List.map_cons, List.map_nil]; kernel_rfl) (Kept.refl _) rfl
              | 39, ho =>
                obtain rfl := Option.some.inj ho; simp only [List.getElem_toArray, List.getElem_cons_zero, List.getElem_cons_succ]; have e1 := hfr 1 rfl; have e1 : a.eval (.tmp 1) = .slice (some ⟨eb, 0, none⟩) 11 11 := e1; exact Inv.step_val (v := .slice (some ⟨eb, 0, none⟩) 11 11) (by simp only [execOp, resolve, List.map_toArray, List.map_cons, List.map_nil, e1]; kernel_rfl) (Kept.refl _) rfl
              | 40, ho =>
                obtain rfl := Option.some.inj ho; simp only [List.getElem_toArray, List.getElem_cons_zero, List.getElem_cons_succ]; have e2 := hfr 2 rfl; have e2 : a.eval (.tmp 2) = .int .i64 (i : Int) := e2; exact Inv.step_val (v := .int .i64 (i : Int)) (by simp only [execOp, resolve, List.map_toArray, List.map_cons, List.map_nil, e2]; kernel_rfl) (Kept.refl _) rfl
              | 41, ho =>
                obtain rfl := Option.some.inj ho; simp only [List.getElem_toArray, List.getElem_cons_zero, List.getElem_cons_succ]; have e79 : a.eval (.tmp 79) = .slice (some ⟨eb, 0, none⟩) 11 11 := hdep ⟨39, .data⟩ (by simp) rfl _ rfl 79 rfl; have e80 : a.eval (.tmp 80) = .int .i64 (i : Int) := hdep ⟨40, .data⟩ (by simp) rfl _ rfl 80 rfl; exact Inv.step_val (v := .pointer (some ⟨eb, i, none⟩)) (by simp only [execOp, resolve, List.map_toArray, List.map_cons, List.map_nil, e79, e80]; go_simp) (Kept.refl _) rfl
              | 42, ho =>
                obtain rfl := Option.some.inj ho; simp only [List.getElem_toArray, List.getElem_cons_zero, List.getElem_cons_succ]; have e81 : a.eval (.tmp 81) = .pointer (some ⟨eb, i, none⟩) := hdep ⟨41, .data⟩ (by simp) rfl _ rfl 81 rfl; obtain ⟨z0, z1, z2, z3, z4, z5, z6, z7⟩ := HC.out w hkw; exact Inv.step_val (v := .int .i64 x) (by simp only [execOp, resolve, List.map_toArray, List.map_cons, List.map_nil, e81]; go_simp) (Kept.refl _) rfl
              | 43, ho =>
                obtain rfl := Option.some.inj ho; simp only [List.getElem_toArray, List.getElem_cons_zero, List.getElem_cons_succ]; have e1 := hfr 1 rfl; have e1 : a.eval (.tmp 1) = .slice (some ⟨eb, 0, none⟩) 11 11 := e1; exact Inv.step_val (v := .slice (some ⟨eb, 0, none⟩) 11 11) (by simp only [execOp, resolve, List.map_toArray, List.map_cons, List.map_nil, e1]; kernel_rfl) (Kept.refl _) rfl
              | 44, ho =>
                obtain rfl := Option.some.inj ho; simp only [List.getElem_toArray, List.getElem_cons_zero, List.getElem_cons_succ]; have e2 := hfr 2 rfl; have e2 : a.eval (.tmp 2) = .int .i64 (i : Int) := e2; exact Inv.step_val (v := .int .i64 (i : Int)) (by simp only [execOp, resolve, List.map_toArray, List.map_cons, List.map_nil, e2]; kernel_rfl) (Kept.refl _) rfl
              | 45, ho =>
                obtain rfl := Option.some.inj ho; simp only [List.getElem_toArray, List.getElem_cons_zero, List.getElem_cons_succ]; have e83 : a.eval (.tmp 83) = .slice (some ⟨eb, 0, none⟩) 11 11 := hdep ⟨43, .data⟩ (by simp) rfl _ rfl 83 rfl; have e84 : a.eval (.tmp 84) = .int .i64 (i : Int) := hdep ⟨44, .data⟩ (by simp) rfl _ rfl 84 rfl; exact Inv.step_val (v := .pointer (some ⟨eb, i, none⟩)) (by simp only [execOp, resolve, List.map_toArray, List.map_cons, List.map_nil, e83, e84]; go_simp) (Kept.refl _) rfl
              | 46, ho =>
                obtain rfl := Option.some.inj ho; simp only [List.getElem_toArray, List.getElem_cons_zero, List.getElem_cons_succ]; have e85 : a.eval (.tmp 85) = .pointer (some ⟨eb, i, none⟩) := hdep ⟨45, .data⟩ (by simp) rfl _ rfl 85 rfl; obtain ⟨z0, z1, z2, z3, z4, z5, z6, z7⟩ := HC.out w hkw; exact Inv.step_val (v := .int .i64 x) (by simp only [execOp, resolve, List.map_toArray, List.map_cons, List.map_nil, e85]; go_simp) (Kept.refl _) rfl
              | 47, ho =>
                obtain rfl := Option.some.inj ho; simp only [List.getElem_toArray, List.getElem_cons_zero, List.getElem_cons_succ]; have e82 : a.eval (.tmp 82) = .int .i64 x := hdep ⟨42, .data⟩ (by simp) rfl _ rfl 82 rfl; have e86 : a.eval (.tmp 86) = .int .i64 x := hdep ⟨46, .data⟩ (by simp) rfl _ rfl 86 rfl; exact Inv.step_val (v := .agg #[.int .i64 x, .int .i64 x]) (by simp only [execOp, resolve, List.map_toArray, List.map_cons, List.map_nil, e82, e86]; kernel_rfl) (Kept.refl _) rfl
              | 48, ho =>
                obtain rfl := Option.some.inj ho; simp only [List.getElem_toArray, List.getElem_cons_zero, List.getElem_cons_succ]; have e87 : a.eval (.tmp 87) = .agg #[.int .i64 x, .int .i64 x] := hdep ⟨47, .data⟩ (by simp) rfl _ rfl 87 rfl; exact Inv.step_val (v := .slice (some ⟨w.heap.size, 0, none⟩) 1 1) (w' := w.alloc (.cells #[.int .i64 x, .int .i64 x] 67)) (by simp only [execOp, resolve, List.map_toArray, List.map_cons, List.map_nil, e87]; kernel_rfl) ((Kept.refl _).alloc _) ⟨w.heap.size, rfl, Blk.new _ _ _⟩
              | 49, ho =>
                obtain rfl := Option.some.inj ho; simp only [List.getElem_toArray, List.getElem_cons_zero, List.getElem_cons_succ]; obtain ⟨g88, e88, b88⟩ := hdep ⟨48, .data⟩ (by simp) rfl _ rfl 88 rfl; exact Inv.step_call (by simp only [execOp, resolve, List.map_toArray, List.map_cons, List.map_nil, e88]; kernel_rfl) (ack_of b88)
              | 50, ho =>
                obtain rfl := Option.some.inj ho; simp only [List.getElem_toArray, List.getElem_cons_zero, List.getElem_cons_succ]; obtain ⟨A89, c89, e89, s89⟩ := hdep ⟨49, .data⟩ (by simp) rfl _ rfl 89 rfl; exact Inv.step_val (v := (fun (A : Option Addr) (c : Nat) => (.agg (dvL ⟨4, 0, zp, A, 1, c, rk x x, zr⟩).toArray : Value)) A89 c89) (by simp only [execOp, resolve, List.map_toArray, List.map_cons, List.map_nil, e89]; kernel_rfl) (Kept.refl _) ⟨A89, c89, rfl, s89⟩
              | 51, ho =>
                obtain rfl := Option.some.inj ho; simp only [List.getElem_toArray, List.getElem_cons_zero, List.getElem_cons_succ]; have e41 : a.eval (.tmp 41) = .agg (dvL ⟨0, 0, ⟨x, y, 9, true, true, false⟩, none, 0, 0, zk, zr⟩).toArray := hdep ⟨1, .data⟩ (by simp) rfl _ rfl 41 rfl; obtain ⟨A54, c54, e54, s54⟩ := hdep ⟨14, .data⟩ (by simp) rfl _ rfl 54 rfl; have e56 : a.eval (.tmp 56) = .agg (dvL ⟨0, 0, mkp big 9, none, 0, 0, zk, zr⟩).toArray := hdep ⟨16, .data⟩ (by simp) rfl _ rfl 56 rfl; have e62 : a.eval (.tmp 62) = .agg (dvL ⟨5, y, zp, none, 0, 0, zk, std⟩).toArray := hdep ⟨22, .data⟩ (by simp) rfl _ rfl 62 rfl; obtain ⟨A66, c66, e66, s66⟩ := hdep ⟨26, .data⟩ (by simp) rfl _ rfl 66 rfl; have e67 : a.eval (.tmp 67) = .agg (dvL ⟨6, 0, zp, none, 0, 0, zk, zr⟩).toArray := hdep ⟨27, .data⟩ (by simp) rfl _ rfl 67 rfl; have e77 : a.eval (.tmp 77) = .agg (dvL ⟨5, 50, zp, none, 0, 0, zk, ⟨0, 0, x, 0, y⟩⟩).toArray := hdep ⟨37, .data⟩ (by simp) rfl _ rfl 77 rfl; have e78 : a.eval (.tmp 78) = .agg (dvL ⟨7, 0, zp, none, 0, 0, zk, zr⟩).toArray := hdep ⟨38, .data⟩ (by simp) rfl _ rfl 78 rfl; obtain ⟨A90, c90, e90, s90⟩ := hdep ⟨50, .data⟩ (by simp) rfl _ rfl 90 rfl; exact Inv.step_val (v := .slice (some ⟨w.heap.size, 0, none⟩) 9 9) (w' := w.alloc (.cells ((nine x y A54 A66 A90 c54 c66 c90).flatMap dvL).toArray 40)) (by simp only [execOp, resolve, List.map_toArray, List.map_cons, List.map_nil, e41, e54, e56, e62, e66, e67, e77, e78, e90]; kernel_rfl) ((Kept.refl _).alloc _) ⟨w.heap.size, A54, A66, A90, c54, c66, c90, rfl, Blk.new _ _ _, s54.kept ((Kept.refl _).alloc _), s66.kept ((Kept.refl _).alloc _), s90.kept ((Kept.refl _).alloc _)⟩
              | 52, ho =>
                obtain rfl := Option.some.inj ho; simp only [List.getElem_toArray, List.getElem_cons_zero, List.getElem_cons_succ]; obtain ⟨g, A1, A2, A3, c1, c2, c3, e91, hb, s1, s2, s3⟩ := hdep ⟨51, .data⟩ (by simp) rfl _ rfl 91 rfl; exact Inv.step_val (v := .slice (some ⟨g, 0, none⟩) 9 9) (by simp only [execOp, resolve, List.map_toArray, List.map_cons, List.map_nil, e91]; kernel_rfl) (Kept.refl _) ⟨g, A1, A2, A3, c1, c2, c3, rfl, hb, s1, s2, s3⟩
              | n + 53, ho => exact absurd (Array.getElem?_eq_some_iff.1 ho).1 (by simp)
            case hd =>
              intro a w hkw hall hfr hsz hdf
              have h5 := hall 52 _ rfl 5 rfl
              refine hKK a w (Met.intro (hJJ a w ?_))
              refine ⟨a.eval (.tmp 5), a.eval (.tmp 25), a.eval (.tmp 26), a.eval (.tmp 27), a.eval (.tmp 28), a.eval (.tmp 29), a.eval (.tmp 30), a.eval (.tmp 31), a.eval (.tmp 32), a.eval (.tmp 33), a.eval (.tmp 34), a.eval (.tmp 35), a.eval (.tmp 36), a.eval (.tmp 37), a.eval (.tmp 38), a.eval (.tmp 39), a.eval (.tmp 40), a.eval (.tmp 41), a.eval (.tmp 42), a.eval (.tmp 43), a.eval (.tmp 44), a.eval (.tmp 45), a.eval (.tmp 46), a.eval (.tmp 47), a.eval (.tmp 48), a.eval (.tmp 49), a.eval (.tmp 50), a.eval (.tmp 51), a.eval (.tmp 52), a.eval (.tmp 53), a.eval (.tmp 54), a.eval (.tmp 55), a.eval (.tmp 56), a.eval (.tmp 57), a.eval (.tmp 58), a.eval (.tmp 59), a.eval (.tmp 60), a.eval (.tmp 61), a.eval (.tmp 62), a.eval (.tmp 63), a.eval (.tmp 64), a.eval (.tmp 65), a.eval (.tmp 66), a.eval (.tmp 67), a.eval (.tmp 68), a.eval (.tmp 69), a.eval (.tmp 70), a.eval (.tmp 71), a.eval (.tmp 72), a.eval (.tmp 73), a.eval (.tmp 74), a.eval (.tmp 75), a.eval (.tmp 76), a.eval (.tmp 77), a.eval (.tmp 78), a.eval (.tmp 79), a.eval (.tmp 80), a.eval (.tmp 81), a.eval (.tmp 82), a.eval (.tmp 83), a.eval (.tmp 84), a.eval (.tmp 85), a.eval (.tmp 86), a.eval (.tmp 87), a.eval (.tmp 88), a.eval (.tmp 89), a.eval (.tmp 90), a.eval (.tmp 91), a.eval (.tmp 92), a.eval (.tmp 93), a.eval (.tmp 94), a.eval (.tmp 95), a.eval (.tmp 96), a.eval (.tmp 97), a.eval (.tmp 98), a.eval (.tmp 99), a.eval (.tmp 100), a.eval (.tmp 101), a.eval (.tmp 102), a.eval (.tmp 103), ⟨_, rfl, Lib.hid h5, Lib.hid hkw⟩, ?_⟩
              exact (Inv.act_lit (D := fun t => (decide (25 ≤ t) && decide (t ≤ 103)) || t == 5) hsz (fun t ht => hfr t (by simp at ht ⊢; omega)) hdf).trans (by kernel_rfl)
          case rest =>
          obtain ⟨v, rfl, HN, HK⟩ := hcut
          obtain ⟨g, A1, A2, A3, c1, c2, c3, rfl, hb, s1, s2, s3⟩ := HN.out
          have P0 : Hid (∀ U, Kept wc U → Dos U (some ⟨g, 0, none⟩) 9 9 (fun i => (nine x y A1 A2 A3 c1 c2 c3).getD i ⟨0, 0, zp, none, 0, 0, zk, zr⟩)) := Lib.hid (fun U h => nine_dos hb s1 s2 s3 h)
          have y1 := (HC.out wc HK.out).2.1
          clear hb s1 s2 s3 HN HX HY
          go_wp2_with fail
          refine (spacePlays_any progS y _ 9 9 _ _ (P0.out _ (Kept.refl _))).mono ?_
          rintro e u1 ⟨rfl, hk1⟩
          go_wp2_with fail
          refine (spacePlays_any progS 3 _ 9 9 _ _ (P0.out _ hk1)).mono ?_
          rintro e u2 ⟨rfl, hk2⟩
          have D := Lib.hid (D.out.tail.on ((HK.out.trans hk1).trans hk2))
          clear P0 HC HK hk1 hk2 y1
          go_wp2_with fail
          go_roundw
          case rel => exact ⟨k + 1, by omega, by go_num, D⟩
          case measure => simp [intOf]; omega
        · have hk1' : ¬ (k : Int) < 11 := by omega
          go_wp2_with fail
          go_roundw
          case rel => exact ⟨i + 1, by omega, by go_num, D⟩
          case measure => simp [intOf]; omega
    · have hi1 : ¬ (i : Int) < 11 := by omega
      have D : Hid (Sx w [] wr) := Lib.hid D.out.tail
      have k0 := Lib.hid (progS.new D.out 256 (by decide) (by decide))
      rw [show ((256 : Nat) : Int) = 256 from rfl] at k0
      clear HE
      go_wp2_with fail
      refine k0.out.mono ?_
      rintro e v1 ⟨s, rfl, hb⟩
      have D : Hid (Sx w [progO s (exN 0)] v1) := Lib.hid hb
      clear hb k0
      go_wp2_with fail
      go_loopw [8] (fun s8 wr => ∃ m : Nat, m ≤ 256 ∧ s8 = .int .i64 m ∧ Hid (Sx w [progO s (exN m)] wr)) (fun s8 _ => 256 - (intOf s8).toNat)
      case atStart => exact ⟨0, Nat.zero_le _, rfl, D⟩
      case round =>
        clear D
        obtain ⟨m, hm, rfl, D⟩ := hrel
        by_cases hlm : m < 256
        · have hm1 : (m : Int) < 256 := by omega
          have hwm : IntKind.i64.wrap ((m : Int) + 1) = (m : Int) + 1 := IntWalk.i64_in _ (by omega)
          have hw2 : IntKind.i64.wrap (2 * (m : Int)) = 2 * (m : Int) := IntWalk.i64_in _ (by omega)
          go_wp2_with fail
          refine (packet_any (2 * (m : Int)) (m : Int) _).mono ?_
          rintro e u1 ⟨rfl, hk⟩
          have D := Lib.hid (D.out.on hk)
          clear hk
          have kt := (progS.sent s (exN m) (mkp (2 * (m : Int)) (m : Int)) (exN_ok m (by omega))).at_ D.out 0 rfl
          rw [exN_sentE hlm, exN_sent hlm] at kt
          go_wp2_with fail
          refine kt.mono ?_
          clear kt
          rintro e u2 ⟨rfl, hb⟩
          have D : Hid (Sx w [progO s (exN (m + 1))] u2) := Lib.hid hb
          clear hb
          go_wp2_with fail
          go_roundw
          case rel => exact ⟨m + 1, by omega, by go_num, D⟩
          case measure => simp [intOf]; omega
        · have hm1 : ¬ (m : Int) < 256 := by omega
          obtain rfl : m = 256 := by omega
          go_wp2_with fail
          refine (ack3 (row3 D.out)).mono ?_
          rintro e u1 ⟨B1, d1, rfl, hb⟩
          have D : Hid (Sx w [rngO B1 3 d1 [(510, 510), (500, 500), (0, 0)], progO s (exN 256)] u1) := Lib.hid hb
          clear hb
          go_wp2_with fail
          refine (ackB D.out).mono ?_
          rintro e u2 ⟨AL, nL, cL, rfl, rfl, hb⟩
          have D : Hid (Sx w [pkO AL (ackL (exN 256) rk3).length cL (ackL (exN 256) rk3), progO s (SpaM.ack (exN 256) rk3)] u2) := Lib.hid hb
          clear hb
          go_wp2_with fail
          refine (numbers_sx x_ackL D.out x_len).mono ?_
          rintro e u3 ⟨E1, h1, rfl, hb⟩
          have D : Hid (Sx w [inO E1 3 h1 [0, 500, 510], pkO AL (ackL (exN 256) rk3).length cL (ackL (exN 256) rk3), progO s (SpaM.ack (exN 256) rk3)] u3) := Lib.hid hb
          clear hb
          have ke := Lib.hid (fun (V : World) (F : Option Addr) (h : Sx w [inO F 3 3 [0, 500, 510], inO E1 3 h1 [0, 500, 510], pkO AL (ackL (exN 256) rk3).length cL (ackL (exN 256) rk3), progO s (SpaM.ack (exN 256) rk3)] V) => eq_sx (l := [0, 500, 510]) 1 0 h rfl rfl (by decide))
          go_wp2_with fail
          refine (ke.out _ _ (rowI [0, 500, 510] #[.int .i64 0, .int .i64 500, .int .i64 510] 3 rfl rfl (by decide) D.out)).mono ?_
          rintro e u4 ⟨rfl, hb⟩
          have D : Hid (Sx w [progO s (SpaM.ack (exN 256) rk3)] u4) := Lib.hid (hb.sel 4 [3] [0, 1, 2] (by decide))
          clear hb ke
          go_wp2_with fail
          refine (packet_any 512 9 _).mono ?_
          rintro e u5 ⟨rfl, hk⟩
          have D := Lib.hid (D.out.on hk)
          clear hk
          have kt := (progS.sent s (SpaM.ack (exN 256) rk3) (mkp 512 9) x_ok).at_ D.out 0 rfl
          rw [sent_no (by rw [x_full]; decide)] at kt
          rw [x_full] at kt
          go_wp2_with fail
          refine kt.mono ?_
          clear kt
          rintro e u6 ⟨rfl, hb⟩
          have D : Hid (Sx w [progO s (SpaM.ack (exN 256) rk3)] u6) := Lib.hid hb
          clear hb
          go_wp2_with fail
          refine (packet_any 512 9 _).mono ?_
          rintro e u7 ⟨rfl, hk⟩
          have D := Lib.hid (D.out.on hk)
          clear hk
          have kt := (progS.may s (SpaM.ack (exN 256) rk3) (mkp 512 9) x_ok).at_ D.out 0 rfl
          rw [x_full] at kt
          go_wp2_with fail
          refine kt.mono ?_
          clear kt
          rintro e u8 ⟨rfl, hb⟩
          have D : Hid (Sx w [progO s (SpaM.ack (exN 256) rk3)] u8) := Lib.hid hb
          clear hb
          go_wp2_with fail
          refine (packet_any 511 9 _).mono ?_
          rintro e u9 ⟨rfl, hk⟩
          have D := Lib.hid (D.out.on hk)
          clear hk
          have kt := (progS.sent s (SpaM.ack (exN 256) rk3) (mkp 511 9) x_ok).at_ D.out 0 rfl
          rw [x_next] at kt
          go_wp2_with fail
          refine kt.mono ?_
          clear kt
          rintro e u10 ⟨rfl, hb⟩
          have D := Lib.hid hb
          clear hb
          have K : Hid (Kept w _) := Lib.hid D.out.K
          clear D
          go_wp2_with fail
          refine wp_loop_rounds 3 ?_
          have N := Lib.hid (none_nil u10)
          rw [rounds_succ]
          go_wp2_with fail
          refine (ack_of (a := 0) (b := 0) (Blk.new _ _ _)).mono ?_
          rintro e z101 ⟨_, rfl, hk, A9, c9, rfl, _⟩
          have N := Lib.hid (N.out.on (((Kept.refl _).alloc _).trans hk))
          have K := Lib.hid ((K.out.alloc _).trans hk)
          clear hk
          go_wp2_with fail
          refine (ack_none N.out A9 1 c9 ⟨0, [(0, 0)], false, 0, 0, 0⟩).mono ?_
          rintro e z102 ⟨rfl, hk⟩
          have N := Lib.hid (N.out.on hk)
          have K := Lib.hid (K.out.trans hk)
          clear hk
          go_wp2_with fail
          refine (steady_any _).mono ?_
          rintro e z103 ⟨rfl, hk⟩
          have N := Lib.hid (N.out.on hk)
          have K := Lib.hid (K.out.trans hk)
          clear hk
          go_wp2_with fail
          refine (lose_none N.out 0 std).mono ?_
          rintro e z104 ⟨rfl, hk⟩
          have N := Lib.hid (N.out.on hk)
          have K := Lib.hid (K.out.trans hk)
          clear hk
          go_wp2_with fail
          refine (disc_none N.out).mono ?_
          rintro e z105 ⟨rfl, hk⟩
          have N := Lib.hid (N.out.on hk)
          have K := Lib.hid (K.out.trans hk)
          clear hk
          go_wp2_with fail
          refine (packet_any 0 0 _).mono ?_
          rintro e z106 ⟨rfl, hk⟩
          have N := Lib.hid (N.out.on hk)
          have K := Lib.hid (K.out.trans hk)
          clear hk
          go_wp2_with fail
          refine (sent_none N.out (mkp 0 0)).mono ?_
          rintro e z107 ⟨rfl, hk⟩
          have N := Lib.hid (N.out.on hk)
          have K := Lib.hid (K.out.trans hk)
          clear hk
          go_wp2_with fail
          refine (packet_any 0 0 _).mono ?_
          rintro e z108 ⟨rfl, hk⟩
          have N := Lib.hid (N.out.on hk)
          have K := Lib.hid (K.out.trans hk)
          clear hk
          go_wp2_with fail
          refine (may_none N.out (mkp 0 0)).mono ?_
          rintro e z109 ⟨rfl, hk⟩
          have N := Lib.hid (N.out.on hk)
          have K := Lib.hid (K.out.trans hk)
          clear hk
          go_wp2_with fail
          refine (all_none N.out).mono ?_
          rintro e z110 ⟨rfl, hk⟩
          have N := Lib.hid (N.out.on hk)
          have K := Lib.hid (K.out.trans hk)
          clear hk
          go_wp2_with fail
          refine (steady_any _).mono ?_
          rintro e z111 ⟨rfl, hk⟩
          have N := Lib.hid (N.out.on hk)
          have K := Lib.hid (K.out.trans hk)
          clear hk
          go_wp2_with fail
          refine (persists_none N.out std 0).mono ?_
          rintro e z112 ⟨rfl, hk⟩
          have N := Lib.hid (N.out.on hk)
          have K := Lib.hid (K.out.trans hk)
          clear hk
          go_wp2_with fail
          refine (last_none N.out).mono ?_
          rintro e z113 ⟨rfl, hk⟩
          have N := Lib.hid (N.out.on hk)
          have K := Lib.hid (K.out.trans hk)
          clear hk
          go_wp2_with fail
          refine (great_none N.out).mono ?_
          rintro e z114 ⟨rfl, hk⟩
          have N := Lib.hid (N.out.on hk)
          have K := Lib.hid (K.out.trans hk)
          clear hk
          go_wp2_with fail
          refine (loss_none N.out).mono ?_
          rintro e z115 ⟨rfl, hk⟩
          have N := Lib.hid (N.out.on hk)
          have K := Lib.hid (K.out.trans hk)
          clear hk
          go_wp2_with fail
          refine (time_none N.out).mono ?_
          rintro e z116 ⟨rfl, hk⟩
          have N := Lib.hid (N.out.on hk)
          have K := Lib.hid (K.out.trans hk)
          clear hk
          go_wp2_with fail
          refine (flight_none N.out).mono ?_
          rintro e z117 ⟨rfl, hk⟩
          have N := Lib.hid (N.out.on hk)
          have K := Lib.hid (K.out.trans hk)
          clear hk
          go_wp2_with fail
          refine (eliciting_none N.out).mono ?_
          rintro e z118 ⟨rfl, hk⟩
          have N := Lib.hid (N.out.on hk)
          have K := Lib.hid (K.out.trans hk)
          clear hk
          go_wp2_with fail
          refine (copy_none N.out).mono ?_
          rintro e z119 ⟨rfl, hk⟩
          have N := Lib.hid (N.out.on hk)
          have K := Lib.hid (K.out.trans hk)
          clear hk
          go_wp2_with fail
          have N := Lib.hid (none_zero (Blk.new z119 80 #[.pointer none, .pointer none, .pointer none, .int .i64 0, .int .i64 0, .int .i64 0]))
          have K := Lib.hid (K.out.alloc (.cells #[.pointer none, .pointer none, .pointer none, .int .i64 0, .int .i64 0, .int .i64 0] 80))
          generalize z119.alloc (.cells #[.pointer none, .pointer none, .pointer none, .int .i64 0, .int .i64 0, .int .i64 0] 80) = y1 at *
          generalize z119.heap.size = zb at *
          rw [rounds_succ]
          go_wp2_with fail
          refine (ack_of (a := 0) (b := 0) (Blk.new _ _ _)).mono ?_
          rintro e z201 ⟨_, rfl, hk, A9, c9, rfl, _⟩
          have N := Lib.hid (N.out.on (((Kept.refl _).alloc _).trans hk))
          have K := Lib.hid ((K.out.alloc _).trans hk)
          clear hk
          go_wp2_with fail
          refine (ack_none N.out A9 1 c9 ⟨0, [(0, 0)], false, 0, 0, 0⟩).mono ?_
          rintro e z202 ⟨rfl, hk⟩
          have N := Lib.hid (N.out.on hk)
          have K := Lib.hid (K.out.trans hk)
          clear hk
          go_wp2_with fail
          refine (steady_any _).mono ?_
          rintro e z203 ⟨rfl, hk⟩
          have N := Lib.hid (N.out.on hk)
          have K := Lib.hid (K.out.trans hk)
          clear hk
          go_wp2_with fail
          refine (lose_none N.out 0 std).mono ?_
          rintro e z204 ⟨rfl, hk⟩
          have N := Lib.hid (N.out.on hk)
          have K := Lib.hid (K.out.trans hk)
          clear hk
          go_wp2_with fail
          refine (disc_none N.out).mono ?_
          rintro e z205 ⟨rfl, hk⟩
          have N := Lib.hid (N.out.on hk)
          have K := Lib.hid (K.out.trans hk)
          clear hk
          go_wp2_with fail
          refine (packet_any 0 0 _).mono ?_
          rintro e z206 ⟨rfl, hk⟩
          have N := Lib.hid (N.out.on hk)
          have K := Lib.hid (K.out.trans hk)
          clear hk
          go_wp2_with fail
          refine (sent_none N.out (mkp 0 0)).mono ?_
          rintro e z207 ⟨rfl, hk⟩
          have N := Lib.hid (N.out.on hk)
          have K := Lib.hid (K.out.trans hk)
          clear hk
          go_wp2_with fail
          refine (packet_any 0 0 _).mono ?_
          rintro e z208 ⟨rfl, hk⟩
          have N := Lib.hid (N.out.on hk)
          have K := Lib.hid (K.out.trans hk)
          clear hk
          go_wp2_with fail
          refine (may_none N.out (mkp 0 0)).mono ?_
          rintro e z209 ⟨rfl, hk⟩
          have N := Lib.hid (N.out.on hk)
          have K := Lib.hid (K.out.trans hk)
          clear hk
          go_wp2_with fail
          refine (all_none N.out).mono ?_
          rintro e z210 ⟨rfl, hk⟩
          have N := Lib.hid (N.out.on hk)
          have K := Lib.hid (K.out.trans hk)
          clear hk
          go_wp2_with fail
          refine (steady_any _).mono ?_
          rintro e z211 ⟨rfl, hk⟩
          have N := Lib.hid (N.out.on hk)
          have K := Lib.hid (K.out.trans hk)
          clear hk
          go_wp2_with fail
          refine (persists_none N.out std 0).mono ?_
          rintro e z212 ⟨rfl, hk⟩
          have N := Lib.hid (N.out.on hk)
          have K := Lib.hid (K.out.trans hk)
          clear hk
          go_wp2_with fail
          refine (last_none N.out).mono ?_
          rintro e z213 ⟨rfl, hk⟩
          have N := Lib.hid (N.out.on hk)
          have K := Lib.hid (K.out.trans hk)
          clear hk
          go_wp2_with fail
          refine (great_none N.out).mono ?_
          rintro e z214 ⟨rfl, hk⟩
          have N := Lib.hid (N.out.on hk)
          have K := Lib.hid (K.out.trans hk)
          clear hk
          go_wp2_with fail
          refine (loss_none N.out).mono ?_
          rintro e z215 ⟨rfl, hk⟩
          have N := Lib.hid (N.out.on hk)
          have K := Lib.hid (K.out.trans hk)
          clear hk
          go_wp2_with fail
          refine (time_none N.out).mono ?_
          rintro e z216 ⟨rfl, hk⟩
          have N := Lib.hid (N.out.on hk)
          have K := Lib.hid (K.out.trans hk)
          clear hk
          go_wp2_with fail
          refine (flight_none N.out).mono ?_
          rintro e z217 ⟨rfl, hk⟩
          have N := Lib.hid (N.out.on hk)
          have K := Lib.hid (K.out.trans hk)
          clear hk
          go_wp2_with fail
          refine (eliciting_none N.out).mono ?_
          rintro e z218 ⟨rfl, hk⟩
          have N := Lib.hid (N.out.on hk)
          have K := Lib.hid (K.out.trans hk)
          clear hk
          go_wp2_with fail
          refine (copy_none N.out).mono ?_
          rintro e z219 ⟨rfl, hk⟩
          have N := Lib.hid (N.out.on hk)
          have K := Lib.hid (K.out.trans hk)
          clear hk
          go_wp2_with fail
          have K := Lib.hid (K.out.alloc (.cells #[.pointer none, .pointer none, .pointer none, .int .i64 0, .int .i64 0, .int .i64 0] 80))
          generalize z219.alloc (.cells #[.pointer none, .pointer none, .pointer none, .int .i64 0, .int .i64 0, .int .i64 0] 80) = y2 at *
          generalize z219.heap.size = zb2 at *
          rw [rounds_succ]
          go_wp2_with fail
          refine (works_any progS _).mono ?_
          rintro e u50 ⟨rfl, hk⟩
          have K := Lib.hid (K.out.trans hk)
          go_wp2_with fail
          go_ret
          exact ⟨rfl, K.out⟩
end Go.Proofs.YtilkgjpgoogiiaaGreat.Spa
