/-
  Contracts of the law's is, none, set.
-/
import Derived.Test.YtdfjceghhjecaaaPerL
namespace Go.Proofs.Ytdfjceghhjecaaa.Per
open Go.RowKit SntM Cd Wd LosM PerM
open SpnM (R Rises has addTo addErr)
open Spn (Row SetAt Abs Mine Turns)
open Snt (pkC pkV pkA PRow GBool)
open Los (Src)
set_option linter.unusedVariables false
set_option linter.unusedSimpArgs false

theorem size_int (w : World) : (sizeOf 3).run Try.prog w = .ok 1 w := by simp [go_sem, Try.sizeOf3]
set_option maxRecDepth 100000 in
theorem eql3 (x y z a b c : Int) (w : World) : (binOp .eql 35 (.agg #[.int .i64 x, .int .i64 y, .int .i64 z]) (.agg #[.int .i64 a, .int .i64 b, .int .i64 c])).run Try.prog w = .ok (.bool (decide (x = a ∧ y = b ∧ z = c))) w := by
  have := Arr.run_eql_ints (P := Try.prog) (t := 35) (e := 3) (n := 3) (k := .i64) (by kernel_rfl) (by kernel_rfl) size_int [x, y, z] [a, b, c] rfl rfl w
  refine this.trans ?_
  congr 2
  rw [Bool.eq_iff_iff]
  simp

theorem isSome_is (a b c x y z : Int) : decide ((some (x, y, z) : St) = some (a, b, c)) = decide (x = a ∧ y = b ∧ z = c) := by
  rw [Bool.eq_iff_iff]; simp
set_option maxRecDepth 100000 in
set_option maxHeartbeats 1000000 in
theorem is_any {A : Option Addr} {m c : Nat} {l : List Pk} {P : Option Addr} {L : List R} (first a b d : Int) (w : World) (h : Src w A m c l) (hS : ASet w P L) :
    Calls Try.prog 14 #[.slice A m c, .pointer P, .int .i64 first, .agg #[.int .i64 a, .int .i64 b, .int .i64 d]] w (GBool (decide (perOf (has L) l first = some (a, b, d))) w) := by
  have B0 := Blk.new w 35 #[.int .i64 a, .int .i64 b, .int .i64 d]
  have k0 := (Kept.refl w).alloc (.cells #[.int .i64 a, .int .i64 b, .int .i64 d] 35)
  obtain ⟨s, hs⟩ : ∃ s, perOf (has L) l first = s := ⟨_, rfl⟩
  have H1 := Lib.hid (period_is hs (h.kept k0) (hS.kept k0))
  have K0 := Lib.hid k0
  have B := Lib.hid B0
  rw [hs]
  clear k0 B0 h hS hs
  go_enter Try.func14, Try.ntmps14
  go_wp2_with fail
  refine H1.out.mono ?_
  rintro e w1 ⟨rfl, k1⟩
  have B1 := B.out.kept k1
  have b0 : w1.cell? ⟨w.heap.size, 0, none⟩ = some (.int .i64 a) := B1.cell 0
  have b1 : w1.cell? ⟨w.heap.size, 1, none⟩ = some (.int .i64 b) := B1.cell 1
  have b2 : w1.cell? ⟨w.heap.size, 2, none⟩ = some (.int .i64 d) := B1.cell 2
  have K1 := Lib.hid (K0.out.trans k1)
  clear B1 k1
  cases s with
  | none =>
    simp only [p1, p2, p3, Option.isSome]
    go_wp2_with fail
    go_ret
    exact ⟨rfl, K1.out⟩
  | some p =>
    obtain ⟨x, y, z⟩ := p
    have hq := fun w => eql3 x y z a b d w
    have hr := Lib.hid (isSome_is a b d x y z)
    obtain ⟨v, hv⟩ : ∃ v, decide (x = a ∧ y = b ∧ z = d) = v := ⟨_, rfl⟩
    rw [hv] at hq hr
    clear hv
    simp only [p1, p2, p3, Option.isSome]
    go_wp2_with fail
    go_ret
    exact ⟨ret_bool hr.out.symm, K1.out⟩
set_option maxRecDepth 100000 in
set_option maxHeartbeats 1000000 in
theorem none_any {A : Option Addr} {m c : Nat} {l : List Pk} {P : Option Addr} {L : List R} (first : Int) (w : World) (h : Src w A m c l) (hS : ASet w P L) :
    Calls Try.prog 13 #[.slice A m c, .pointer P, .int .i64 first] w (GBool (perOf (has L) l first).isNone w) := by
  obtain ⟨s, hs⟩ : ∃ s, perOf (has L) l first = s := ⟨_, rfl⟩
  have H1 := Lib.hid (period_is hs h hS)
  rw [hs]
  clear h hS hs
  go_enter Try.func13, Try.ntmps13
  go_wp2_with fail
  refine H1.out.mono ?_
  rintro e w1 ⟨rfl, k1⟩
  have K1 := Lib.hid k1
  clear k1
  cases s with
  | none =>
    simp only [p1, p2, p3, Option.isSome]
    go_wp2_with fail
    go_ret
    exact ⟨rfl, K1.out⟩
  | some p =>
    simp only [Option.isSome]
    go_wp2_with fail
    go_ret
    exact ⟨rfl, K1.out⟩

/-- What a set holds, to which some ranges were added. -/
def adds (rs : List R) : List R := rs.foldl (fun l r => addTo (256 : Nat) l r.1 r.2) []
theorem adds_snoc (rs : List R) (r : R) : adds (rs ++ [r]) = addTo (256 : Nat) (adds rs) r.1 r.2 := by unfold adds; rw [List.foldl_append]; rfl
/-- A new set that a call hands back. -/
def NewSet (w : World) (L : List R) (e : Ending) (w' : World) : Prop := ∃ p A c, e = .returned (.pointer (some ⟨p, 0, none⟩)) ∧ Mine w w' p A c 256 L
theorem mine_aset {w W : World} {p c : Nat} {A : Option Addr} {L : List R} (h : Mine w W p A c 256 L) : ASet W (some ⟨p, 0, none⟩) L := .inr ⟨p, A, c, 256, rfl, h.1⟩
theorem new_mine {room : Nat} {w : World} {p : Nat} {w' : World} (h1 : SetAt w' p none 0 room []) (h2 : w.heap.size ≤ p) (h3 : Kept w w') : Mine w w' p none 0 room [] :=
  ⟨h1, h3, fun i f => by rcases f with rfl | e; exact h2; cases e⟩
theorem rtake_succ {l : List R} {k : Nat} (h : k < l.length) : l.take (k + 1) = l.take k ++ [SpnM.at_ l k] := by
  rw [SpnM.at_of h, List.take_add_one, List.getElem?_eq_getElem h]; rfl

set_option maxRecDepth 100000 in
set_option maxHeartbeats 2000000 in
theorem set_any (A : Option Addr) (n c : Nat) (rs : List R) (w : World) (h : Row w A n c rs) :
    Calls Try.prog 20 #[.slice A n c] w (NewSet w (adds rs)) := by
  have H := Lib.hid h
  have HL := Lib.hid h.len
  have hcap := h.cap
  unfold maxLen at hcap
  clear h
  go_enter Try.func20, Try.ntmps20
  go_wp2_with fail
  refine (Spn.new_good 256 w (by omega) (by omega)).mono ?_
  rintro e w1 ⟨p, rfl, hs1, hp, k1⟩
  have M1 := Lib.hid (new_mine hs1 hp k1)
  clear hs1 k1
  go_wp2_with fail
  go_loopw [5] (fun s5 wr => ∃ (i : Nat) (A' : Option Addr) (c' : Nat), i ≤ n ∧ s5 = .int .i64 i ∧ Hid (Mine w wr p A' c' 256 (adds (rs.take i)))) (fun s5 _ => n - (intOf s5).toNat)
  case atStart => exact ⟨0, none, 0, Nat.zero_le _, rfl, M1⟩
  case round =>
    obtain ⟨i, A', c', hi, rfl, hm⟩ := hrel
    by_cases hlt : i < n
    · have R := H.out.kept hm.out.2.1
      obtain ⟨g, rfl, hg⟩ := R.some_ (by omega)
      have c1 := R.lo hlt
      have c2 := R.hi hlt
      have hi0 : (0 : Int) ≤ (i : Int) := by omega
      have hi1 : (i : Int) < (n : Int) := by omega
      have hw1 : IntKind.i64.wrap ((i : Int) + 1) = (i : Int) + 1 := IntWalk.i64_in _ (by omega)
      clear R
      have HT := Lib.hid (rtake_succ (l := rs) (k := i) (by rw [HL.out]; exact hlt))
      obtain ⟨x, hx⟩ : ∃ x, SpnM.at_ rs i = x := ⟨_, rfl⟩
      rw [hx] at c1 c2 HT
      clear hx
      have HA := Lib.hid (adds_snoc (rs.take i) x)
      have HC := Lib.hid (fun (W : World) (h : Mine w W p A' c' 256 (adds (rs.take i))) => Spn.add_mine (adds (rs.take i)) _ x.1 x.2 _ rfl rfl h)
      generalize hxa : x.1 = a at *
      generalize hxb : x.2 = b at *
      clear hxa hxb
      go_wp2_with fail
      go_region_with ((go_at_call 21; refine (HC.out _ (hm.out.kept (by first | exact (Kept.refl _).drew | exact Kept.refl _))).mono ?_; rintro e w2 ⟨rfl, A2, c2', hm2⟩; have M2 := Lib.hid hm2; clear hm2))
      all_goals
        go_wp2_with fail
        go_roundw
        case rel => exact ⟨i + 1, A2, c2', by omega, by go_num, by rw [HT.out, HA.out]; exact M2⟩
        case measure => simp [intOf]; omega
    · obtain rfl : i = n := by omega
      rw [← HL.out, List.take_length] at hm
      go_wp2_with fail
      go_ret
      exact ⟨p, A', c', rfl, hm.out⟩

end Go.Proofs.Ytdfjceghhjecaaa.Per
