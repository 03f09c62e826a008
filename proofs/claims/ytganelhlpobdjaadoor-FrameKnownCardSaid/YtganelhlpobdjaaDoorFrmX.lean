/-
  What the laws of layer 5 call beside: literals, one, fails; the chapter's own numbers.
-/
import Derived.Test.YtganelhlpobdjaaDoorFrmS
namespace Go.Proofs.YtganelhlpobdjaaDoor.Frm
open Go.RowKit SpnM Spn FrmM OctM Oct
set_option linter.unusedVariables false
set_option linter.unusedSimpArgs false

theorem byt_lit (w : World) (l : List Int) (hl : l.length ≤ 1000) (hb : allByte l) : Byt (w.alloc (.cells (l.map (Value.int .u8)).toArray 5)) (some ⟨w.heap.size, 0, none⟩) l.length l.length l :=
  ⟨rfl, Nat.le_refl _, by unfold maxLen; omega, hb, (fun h => by cases h), fun hn => ⟨w.heap.size, 0, rfl, by simp, fun k hk => by
    rw [Nat.zero_add, (Wd.Blk.new w 5 _).cell k]
    simp [nth, List.getD, hk]⟩⟩
theorem row_lit (w : World) (l : List R) (hl : l.length ≤ 1000) : Row (w.alloc (.cells (flat l).toArray 36)) (some ⟨w.heap.size, 0, none⟩) l.length l.length l :=
  Row.mk' rfl (Wd.Blk.new w _ _) (Nat.le_refl _) (by unfold maxLen; omega) (by simp [flat_length]) (by simp [← flat_length])
def all8 (l : List Int) : Bool := l.all (fun x => decide (0 ≤ x) && decide (x < 256))
theorem all8_of {l : List Int} (h : all8 l = true) : allByte l := fun x hx => by
  have := List.all_eq_true.1 h x hx
  simp at this; exact this

def oneA (l : List R) : Ack := ⟨0, l, false, 0, 0, 0⟩
set_option maxRecDepth 100000 in
theorem one_any (A : Option Addr) (n c : Nat) (w : World) : Calls Tryd.prog 42 #[.slice A n c] w fun e w' => e = .returned (.agg #[.int .i64 0, .slice A n c, .bool false, .int .i64 0, .int .i64 0, .int .i64 0]) ∧ Wd.Kept w w' := by
  have k0 := (Wd.Kept.refl w).alloc (.cells #[.int .i64 0, .slice A n c, .bool false, .int .i64 0, .int .i64 0, .int .i64 0] 25)
  have b0 := Wd.Blk.new w 25 #[.int .i64 0, .slice A n c, .bool false, .int .i64 0, .int .i64 0, .int .i64 0]
  have r0 := b0.cell 0
  have r1 := b0.cell 1
  have r2 := b0.cell 2
  have r3 := b0.cell 3
  have r4 := b0.cell 4
  have r5 := b0.cell 5
  go_enter Tryd.func42, Tryd.ntmps42
  go_wp2_with fail
  refine bodyPost_ret (v := .agg #[.int .i64 0, .slice A n c, .bool false, .int .i64 0, .int .i64 0, .int .i64 0]) ?_ rfl ⟨rfl, k0⟩
  simp [results, Tryd.f42, go_sem, r0, r1, r2, r3, r4, r5]

set_option maxRecDepth 100000 in
theorem fails_any (x : Int) (A : Option Addr) (n c : Nat) (l : List Int) (w : World) (hT : Tab w) (hb : Byt w A n c l) (hbig : n ≤ 140737488355328) (hx : nextP l = (zero, 0, x)) :
    Calls Tryd.prog 33 #[.int .i64 x, .slice A n c] w fun e w' => e = .returned (.bool true) ∧ Wd.Kept w w' := by
  have hn := Lib.hid (next_any A n c l w hT hb hbig)
  have HX := Lib.hid hx
  clear hT hb hx
  go_enter Tryd.func33, Tryd.ntmps33
  go_wp2_with fail
  refine hn.out.mono ?_
  rintro e w1 ⟨V, rfl, ⟨A1, c1, rfl, row1⟩, k1⟩
  rw [HX.out]
  unfold ackV
  have K1 := Lib.hid k1
  clear row1 k1 hn
  go_wp2_with fail
  go_ret
  exact ⟨rfl, K1.out.alloc _⟩

/-! The chapter's own numbers. -/
def one5 : Ack := ⟨0, [(5, 5)], false, 0, 0, 0⟩
def two2 : Ack := ⟨100, [(70, 80), (60, 60)], true, 1, 0, 2⟩
theorem check_one5 : check one5 = 0 := by decide
theorem check_two2 : check two2 = 0 := by decide
theorem bytes_one5 : bytesOut one5 = [2, 5, 0, 0, 0] := by decide
theorem bytes_two2 : bytesOut two2 = [3, 64, 80, 64, 100, 1, 10, 8, 0, 1, 0, 2] := by decide
theorem next_lit1 : nextP [2, 5, 0, 0, 6] = (zero, 0, 50) := by rfl
theorem next_lit2 : nextP [2, 5, 0, 1, 5, 0, 0] = (zero, 0, 50) := by rfl
theorem next_lit3 : nextP [2, 5, 0, 1, 0, 4, 0] = (zero, 0, 50) := by rfl
theorem next_lit4 : nextP [4] = (zero, 0, 50) := by rfl
theorem next_lit5 : nextP [] = (zero, 0, 3) := by rfl
theorem next_lit6 : nextP [2, 5, 0, 0, 0, 0] = (one5, 5, 0) := by rfl
theorem parse_lit6 : parseP [2, 5, 0, 0, 0, 0] = (zero, 4) := by rfl
theorem parse_lit2 : parseP [3, 64, 80, 64, 100, 1, 10, 8, 0, 1, 0, 2] = (two2, 0) := by rfl
theorem wait_lit1 : waitV 7 3 = 56000 ∧ waitE 7 3 = 0 := by decide
theorem wait_lit2 : waitV 9007199254740991 20 = 9007199254740991 ∧ waitE 9007199254740991 20 = 0 := by decide
theorem wait_lit3 : waitE 1 21 = 9 := by decide

end Go.Proofs.YtganelhlpobdjaaDoor.Frm
