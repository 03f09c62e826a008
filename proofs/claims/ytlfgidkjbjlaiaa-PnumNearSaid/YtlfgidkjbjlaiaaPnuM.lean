/-
  Plain mathematics of packet numbers that are cut to their last bytes. Nothing here speaks of a program.
-/
import Derived.Test.YtlfgidkjbjlaiaaOctM
namespace Go.Proofs.Ytlfgidkjbjlaiaa.PnuM
open OctM

/-- A number. -/
def isn (n : Int) : Prop := 0 ≤ n ∧ n ≤ 9007199254740991
instance (n : Int) : Decidable (isn n) := by unfold isn; infer_instance
/-- May a length be asked? -/
def asks (full acked : Int) : Prop := isn full ∧ -1 ≤ acked ∧ acked < full
instance (a b : Int) : Decidable (asks a b) := by unfold asks; infer_instance
/-- How many bytes a distance needs; 0: more than four. -/
def need (d : Int) : Int := if d ≤ 128 then 1 else if d ≤ 32768 then 2 else if d ≤ 8388608 then 3 else if d ≤ 2147483648 then 4 else 0
def lenN (full acked : Int) : Int := if asks full acked then need (full - acked) else 0
def lenE (full acked : Int) : Int := if asks full acked then (if full - acked ≤ 2147483648 then 0 else 5) else 9
/-- One to four. -/
def len4 (n : Int) : Prop := 1 ≤ n ∧ n ≤ 4
instance (n : Int) : Decidable (len4 n) := by unfold len4; infer_instance
def cutE (full n : Int) : Int := if isn full then (if len4 n then 0 else 2) else 9
def cutL (full n : Int) : List Int := if isn full ∧ len4 n then be full n.toNat else []
/-- A greatest number. -/
def isg (n : Int) : Prop := -1 ≤ n ∧ n ≤ 9007199254740991
instance (n : Int) : Decidable (isg n) := by unfold isg; infer_instance
/-- The number nearest to 'next' of all that leave v when divided by s. -/
def low (next v s : Int) : Int := if next ≤ next - next % s + v then next - next % s + v - s else next - next % s + v
def near (next v s : Int) : Int := if 9007199254740991 < low next v s + s then low next v s else if low next v s < 0 ∨ low next v s + s - next ≤ next - low next v s then low next v s + s else low next v s
def wholeE (g : Int) (k : Nat) : Int := if isg g then (if 1 ≤ k ∧ k ≤ 4 then 0 else 2) else 9
def wholeN (g : Int) (l : List Int) : Int := if isg g ∧ 1 ≤ l.length ∧ l.length ≤ 4 then near (g + 1) (val 0 l) (256 ^ l.length) else 0

theorem be1 (x : Int) : be x 1 = [x % 256] := by simp [be, dig, List.range, List.range.loop]
theorem be2 (x : Int) : be x 2 = [x / 256 % 256, x % 256] := by simp [be, dig, List.range, List.range.loop]
theorem be3 (x : Int) : be x 3 = [x / 256 / 256 % 256, x / 256 % 256, x % 256] := by simp [be, dig, List.range, List.range.loop] <;> omega
theorem be4 (x : Int) : be x 4 = [x / 256 / 256 / 256 % 256, x / 256 / 256 % 256, x / 256 % 256, x % 256] := by simp [be, dig, List.range, List.range.loop] <;> omega
theorem val_be1 (x : Int) : val 0 (be x 1) = x % 256 := by rw [be1]; simp [val]
theorem val_be2 (x : Int) : val 0 (be x 2) = x % 65536 := by rw [be2]; simp [val]; omega
theorem val_be3 (x : Int) : val 0 (be x 3) = x % 16777216 := by rw [be3]; simp [val]; omega
theorem val_be4 (x : Int) : val 0 (be x 4) = x % 4294967296 := by rw [be4]; simp [val]; omega

/-- The step of so many bytes. -/
def stp (k : Nat) : Int := 256 ^ k
theorem stp1 : stp 1 = 256 := rfl
theorem stp2 : stp 2 = 65536 := rfl
theorem stp3 : stp 3 = 16777216 := rfl
theorem stp4 : stp 4 = 4294967296 := rfl
theorem val_be (x : Int) (k : Nat) (h1 : 1 ≤ k) (h4 : k ≤ 4) : val 0 (be x k) = x % stp k := by
  have h : k = 1 ∨ k = 2 ∨ k = 3 ∨ k = 4 := by omega
  rcases h with rfl | rfl | rfl | rfl
  · exact val_be1 x
  · exact val_be2 x
  · exact val_be3 x
  · exact val_be4 x
theorem val_bd (l : List Int) (hb : allByte l) (h1 : 1 ≤ l.length) (h4 : l.length ≤ 4) : 0 ≤ val 0 l ∧ val 0 l < stp l.length := by
  match l, hb, h1, h4 with
  | [a], hb, _, _ =>
    have ha := hb a (by simp)
    simp [val, stp]; omega
  | [a, b], hb, _, _ =>
    have ha := hb a (by simp)
    have hb' := hb b (by simp)
    simp [val, stp]; omega
  | [a, b, c], hb, _, _ =>
    have ha := hb a (by simp)
    have hb' := hb b (by simp)
    have hc := hb c (by simp)
    simp [val, stp]; omega
  | [a, b, c, d], hb, _, _ =>
    have ha := hb a (by simp)
    have hb' := hb b (by simp)
    have hc := hb c (by simp)
    have hd := hb d (by simp)
    simp [val, stp]; omega
/-- The bytes of a number that ends with bytes are these bytes. -/
theorem be_val (l : List Int) (hb : allByte l) (h1 : 1 ≤ l.length) (h4 : l.length ≤ 4) (x : Int) (hx : x % stp l.length = val 0 l) : be x l.length = l := by
  match l, hb, h1, h4 with
  | [a], hb, _, _ =>
    have ha := hb a (by simp)
    simp [val, stp] at hx
    show be x 1 = _
    rw [be1]; simp; omega
  | [a, b], hb, _, _ =>
    have ha := hb a (by simp)
    have hb' := hb b (by simp)
    simp [val, stp] at hx
    show be x 2 = _
    rw [be2]; simp; omega
  | [a, b, c], hb, _, _ =>
    have ha := hb a (by simp)
    have hb' := hb b (by simp)
    have hc := hb c (by simp)
    simp [val, stp] at hx
    show be x 3 = _
    rw [be3]; simp; omega
  | [a, b, c, d], hb, _, _ =>
    have ha := hb a (by simp)
    have hb' := hb b (by simp)
    have hc := hb c (by simp)
    have hd := hb d (by simp)
    simp [val, stp] at hx
    show be x 4 = _
    rw [be4]; simp; omega

theorem need_bd (d : Int) : 0 ≤ need d ∧ need d ≤ 4 := by
  unfold need
  split
  · omega
  · split
    · omega
    · split
      · omega
      · split <;> omega

theorem four_steps (k : Nat) (h1 : 1 ≤ k) (h4 : k ≤ 4) : (k = 1 ∧ stp k = 256) ∨ (k = 2 ∧ stp k = 65536) ∨ (k = 3 ∧ stp k = 16777216) ∨ (k = 4 ∧ stp k = 4294967296) := by
  have h : k = 1 ∨ k = 2 ∨ k = 3 ∨ k = 4 := by omega
  rcases h with rfl | rfl | rfl | rfl <;> simp [stp]

/-- What is nearest is a number, has the rest, and is near. -/
theorem near_facts (next v s : Int) (hs : s = 256 ∨ s = 65536 ∨ s = 16777216 ∨ s = 4294967296) (h0 : 0 ≤ next) (h1 : next ≤ 9007199254740992) (hv0 : 0 ≤ v) (hv1 : v < s) :
    isn (near next v s) ∧ near next v s % s = v ∧ (near next v s + s ≤ 9007199254740991 → next - near next v s < near next v s + s - next) ∧ (0 ≤ near next v s - s → near next v s - next ≤ next - (near next v s - s)) := by
  unfold isn near low
  rcases hs with rfl | rfl | rfl | rfl
  all_goals
    refine ⟨?_, ?_, ?_, ?_⟩
    all_goals
      repeat' split
      all_goals omega

/-- Of numbers with a rest the nearest is unique. -/
theorem near_uniq (next v s x : Int) (hs : s = 256 ∨ s = 65536 ∨ s = 16777216 ∨ s = 4294967296) (h0 : 0 ≤ next) (h1 : next ≤ 9007199254740992) (hv0 : 0 ≤ v) (hv1 : v < s)
    (hx : isn x) (hr : x % s = v) (ha : x + s ≤ 9007199254740991 → next - x < x + s - next) (hb : 0 ≤ x - s → x - next ≤ next - (x - s)) : near next v s = x := by
  unfold isn at hx
  unfold near low
  rcases hs with rfl | rfl | rfl | rfl
  all_goals
    repeat' split
    all_goals omega

end Go.Proofs.Ytlfgidkjbjlaiaa.PnuM
