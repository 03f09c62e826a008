/-
  Contracts of octet's PutIn and Put: what each returns of every bytes and numbers; the result lies in memory of its own.
-/
import Derived.Test.YteleagklgnedaaaDoorOctE
import Derived.Laws.CopyOwn
import Derived.Laws.MakeOwn
namespace Go.Proofs.YteleagklgnedaaaDoor.Oct
open Go.RowKit OctM
set_option linter.unusedSimpArgs false
set_option linter.unusedVariables false

def putErr (n s : Int) : Int := if size n = 0 then 9 else if four s ∧ size n ≤ s then 0 else 2
def putOut (l : List Int) (n s : Int) : List Int := if putErr n s = 0 then l ++ enc n s.toNat else []
/-- Bytes in memory of their own, and an error. -/
def Put2 (l : List Int) (err : Int) (w : World) (e : Ending) (w' : World) : Prop := ∃ v, e = .returned (.tuple #[v, .int .i64 err]) ∧ Own w' w.heap.size v l ∧ Kept w w'

set_option maxRecDepth 100000 in
theorem putErr_range (n s : Int) (h : size n = 0) : putErr n s = 9 := by unfold putErr; rw [if_pos h]
set_option maxRecDepth 100000 in
theorem putErr_arg (n s : Int) (h : size n ≠ 0) (h1 : ¬ (four s ∧ size n ≤ s)) : putErr n s = 2 := by unfold putErr; rw [if_neg h, if_neg h1]
set_option maxRecDepth 100000 in
theorem putErr_ok (n s : Int) (h : size n ≠ 0) (h1 : four s ∧ size n ≤ s) : putErr n s = 0 := by unfold putErr; rw [if_neg h, if_pos h1]
set_option maxRecDepth 100000 in
theorem putOut_ok (l : List Int) (n s : Int) (h : putErr n s = 0) : putOut l n s = l ++ enc n s.toNat := by unfold putOut; rw [if_pos h]
set_option maxRecDepth 100000 in
theorem putOut_not (l : List Int) (n s : Int) (h : putErr n s ≠ 0) : putOut l n s = [] := by unfold putOut; rw [if_neg h]

set_option maxRecDepth 100000 in
set_option maxHeartbeats 400000 in
theorem putIn_range (A : Option Addr) (n c : Nat) (x s : Int) (w : World) (hT : Tab w) (h : size x = 0) : Calls Tryd.prog 63 #[.slice A n c, .int .i64 x, .int .i64 s] w (Put2 [] 9 w) := by
  have h0 : (size x == 0) = true := by simp [h]
  go_enter Tryd.func63, Tryd.ntmps63
  go_wp2_with (go_at_call 64; ((with_reducible refine (size_any _ _ hT).mono ?_); rintro e w' ⟨rfl, rfl⟩))
  go_ret2
  exact ⟨_, rfl, own_nil _ _, Kept.refl _⟩

set_option maxRecDepth 100000 in
set_option maxHeartbeats 400000 in
theorem putIn_arg (A : Option Addr) (n c : Nat) (x s : Int) (w : World) (hT : Tab w) (h : size x ≠ 0) (h1 : ¬ (four s ∧ size x ≤ s)) : Calls Tryd.prog 63 #[.slice A n c, .int .i64 x, .int .i64 s] w (Put2 [] 2 w) := by
  have h0 : (size x == 0) = false := by simp [h]
  by_cases h2 : four s
  · have h3 : s < size x := by
      rcases Int.lt_or_le s (size x) with h3 | h3
      · exact h3
      · exact absurd ⟨h2, h3⟩ h1
    have h4 := (place_bd s h2).1
    clear h1 h2 h
    go_enter Tryd.func63, Tryd.ntmps63
    go_wp2_with (first | (go_at_call 64; ((with_reducible refine (size_any _ _ hT).mono ?_); rintro e w' ⟨rfl, rfl⟩)) | (go_at_call 69; ((with_reducible refine (placeOf_any _ _ hT).mono ?_); rintro e w' ⟨rfl, rfl⟩)))
    go_ret2
    exact ⟨_, rfl, own_nil _ _, Kept.refl _⟩
  · have h4 : place s < 0 := by
      unfold four at h2; unfold place; rw [if_neg (by omega), if_neg (by omega), if_neg (by omega), if_neg (by omega)]; decide
    clear h1 h2 h
    go_enter Tryd.func63, Tryd.ntmps63
    go_wp2_with (first | (go_at_call 64; ((with_reducible refine (size_any _ _ hT).mono ?_); rintro e w' ⟨rfl, rfl⟩)) | (go_at_call 69; ((with_reducible refine (placeOf_any _ _ hT).mono ?_); rintro e w' ⟨rfl, rfl⟩)))
    go_ret2
    exact ⟨_, rfl, own_nil _ _, Kept.refl _⟩

/-- So many zero bytes. -/
def zeros (k : Nat) : Array Value := (List.replicate k (Value.int .u8 0)).toArray
set_option maxRecDepth 100000 in
theorem zeros_toList (k : Nat) : (zeros k).toList = List.replicate k (Value.int .u8 0) := rfl

set_option maxRecDepth 100000 in
/-- The two highest bits of a byte. -/
theorem or_mark (t p : Int) (h0 : 0 ≤ t) (h1 : t < 64) (h2 : 0 ≤ p) (h3 : p ≤ 3) : bits .or .u8 t (p * 64) = t + 64 * p := by
  show IntKind.u8.wrap (((BitVec.ofInt 8 t ||| BitVec.ofInt 8 (p * 64)).toNat : Nat) : Int) = _
  have e1 : (BitVec.ofInt 8 t).toNat = t.toNat := by rw [BitVec.toNat_ofInt]; omega
  have e2 : (BitVec.ofInt 8 (p * 64)).toNat = 2 ^ 6 * p.toNat := by rw [BitVec.toNat_ofInt]; omega
  have e3 : 2 ^ 6 * p.toNat + t.toNat = 2 ^ 6 * p.toNat ||| t.toNat := Nat.two_pow_add_eq_or_of_lt (by omega) _
  rw [BitVec.toNat_or, e1, e2, Nat.or_comm, ← e3]
  show ((2 ^ 6 * p.toNat + t.toNat : Nat) : Int) % 256 = _
  omega

set_option maxRecDepth 100000 in
theorem make_eq (n S : Nat) (hn : n ≤ 140737488355328) (hS : S ≤ 8) (W : World) : (Instr.makeSlice 27 (.int .i64 (n : Int)) (.int .i64 ((n : Int) + S))).run Tryd.prog W = .ok (.slice (some ⟨W.heap.size, 0, none⟩) n (n + S)) (W.alloc (.cells (zeros (n + S)) 5)) := by
  obtain ⟨i0, hi, hz0, hz1, hz2⟩ := info_parts info_u8
  have hr := run_make (P := Tryd.prog) W 27 5 i0 (.int .u8 0) Tryd.underlying27 hi hz0 .i64 .i64 (n : Int) ((n : Int) + S) (by omega) (by omega) (by rw [hz2]; omega) (by omega)
  rw [hr]
  have e : ((n : Int) + S).toNat = n + S := by omega
  rw [e, hz1]
  simp only [Int.toNat_natCast, Nat.mul_one]
  congr 3
  unfold zeros
  rw [← toList_madeCells_one]
  rfl

set_option maxRecDepth 100000 in
/-- What a copy to the front of zero bytes leaves is owned. -/
theorem own_copied {w2 : World} {g n S : Nat} {l : List Int} (hl : l.length = n) (hn : n ≤ 140737488355328) (hS : S ≤ 8)
    (h : w2.heap[g]? = some (.cells (splice (zeros (n + S)).toList 0 (l.map (Value.int .u8))).toArray 5 (0, 0))) :
    w2.ownsRow g 5 1 (.slice (some ⟨g, 0, none⟩) n (n + S)) n (l.map (Value.int .u8)) := by
  refine ⟨by simp [hl], .inr ⟨g, n + S, _, rfl, Nat.le_refl _, h, by omega, by unfold maxLen; omega, ?_, ?_⟩⟩
  · simp [splice, zeros, hl]
  · simp [splice, hl]

/-- What holds at the head of each round: j bytes are written. -/
def PutRel (g n S : Nat) (x : Int) (l : List Int) (w : World) (v i : Value) (wr : World) : Prop :=
  ∃ j : Nat, j ≤ S ∧ v = .slice (some ⟨g, 0, none⟩) (n + j) (n + S) ∧ i = .int .i64 (8 * ((S : Int) - 1 - j)) ∧ wr.ownsRow g 5 1 v (n + j) ((l ++ (List.range j).map (dig x S)).map (Value.int .u8)) ∧ Below g w wr

set_option maxRecDepth 100000 in
set_option maxHeartbeats 1000000 in
theorem putIn_ok (A : Option Addr) (n c S : Nat) (x : Int) (l : List Int) (w : World) (hT : Tab w) (hb : Byt w A n c l) (hn : n ≤ 140737488355328) (h : size x ≠ 0) (h2 : four S) (h3 : size x ≤ S) :
    Calls Tryd.prog 63 #[.slice A n c, .int .i64 x, .int .i64 S] w (Put2 (l ++ enc x S) 0 w) := by
  have h0 : (size x == 0) = false := by simp [h]
  obtain ⟨h4, h5⟩ := place_bd S h2
  have hS1 : 1 ≤ S := by unfold four at h2; omega
  have hS8 : S ≤ 8 := by unfold four at h2; omega
  have hmk := make_eq n S hn hS8
  obtain ⟨hx0, hx1, hx2⟩ := size_le x S h2 h h3
  have HX := Lib.hid hx2
  have HL := Lib.hid hb.len
  clear h hx2
  obtain ⟨i0, hi, hz0, hz1, hz2⟩ := info_parts info_u8
  have HI := Lib.hid hi
  have HZ := Lib.hid hz1
  clear hi hz0 hz1 hz2
  have hcopy : ∀ j v, (l.map (Value.int .u8))[j]? = some v → (w.alloc (.cells (zeros (n + S)) 5)).cell? ((A.getD default).add j) = some v := by
    intro j u hu
    rw [List.getElem?_map, Option.map_eq_some_iff] at hu
    obtain ⟨y, hy, rfl⟩ := hu
    have hj := (List.getElem?_eq_some_iff.1 hy).1
    have hjn : j < n := by rw [← hb.len]; exact hj
    obtain ⟨b, o', rfl, _, hc⟩ := (hb.kept ((Kept.refl w).alloc (.cells (zeros (n + S)) 5))).lies (by omega)
    have h1 := hc j hjn
    have h2 : nth l j = y := by simp [nth, List.getD, hy]
    rw [h2] at h1
    rw [← h1]
    simp only [Option.getD_some]
    unfold Addr.add; split <;> simp_all
  have hA : 0 < n → ∃ ad, A = some ad := fun h => by obtain ⟨b, o, h, _⟩ := hb.lies h; exact ⟨_, h⟩
  have HC := Lib.hid hcopy
  have HA := Lib.hid hA
  clear hcopy hA
  go_enter Tryd.func63, Tryd.ntmps63
  go_wp2_with (first | (go_at_call 64; ((with_reducible refine (size_any _ _ hT).mono ?_); rintro e w' ⟨rfl, rfl⟩)) | (go_at_call 69; ((with_reducible refine (placeOf_any _ _ hT).mono ?_); rintro e w' ⟨rfl, rfl⟩)) | (with_reducible refine wpList_copy_splice rfl (.tmp 32) (.tmp 33) 27 27 rfl 5 Tryd.underlying27 (by rw [HI.out]; simp [HZ.out]) (some ⟨w.heap.size, 0, none⟩) A n (n + S) n c rfl rfl w.heap.size 0 (zeros (n + S)).toList 5 ?k1 (l.map (Value.int .u8)) ?k2 ?k3 ?k4 (ints_one l) w.heap.size w ?k5 (Nat.le_refl _) ?_))
  case k1 => rw [Array.toArray_toList]; exact heap_alloc_new w _
  case k2 => simp [HL.out]
  case k3 =>
    intro hpos
    obtain ⟨ad, rfl⟩ := HA.out (by simpa [HL.out] using hpos)
    refine ⟨ad, rfl, ?_⟩
    first | exact HC.out | exact fun j y hy => HC.out j _ (by simp [hy])
  case k4 => simp [HL.out, zeros]
  case k5 => exact (Below.refl _ _).alloc (Nat.le_refl _) _
  intro w2 hg2 hb2
  have hown := own_copied (S := S) HL.out hn hS8 hg2.out
  clear HC HA hg2 hmk
  go_wp2
  go_loopw [10, 11] (PutRel w.heap.size n S x l w) (fun _ i _ => (intOf i + 8).toNat)
  case atStart => exact ⟨0, Nat.zero_le _, rfl, by simp, by simpa using hown, hb2⟩
  case round =>
    obtain ⟨j, hj, rfl, rfl, hown', hbel⟩ := hrel
    by_cases hlt : j < S
    · go_wp2_with (at_builtin; refine wpList_append_fits _ rfl (.tmp 42) (.tmp 47) 27 rfl w.heap.size 5 i0 1 Tryd.underlying27 HI.out HZ.out w.heap.size (n + j) (n + S) _ rfl (hown'.alloc _) ⟨wr.heap.size, 0, none⟩ 1 1 [.int .u8 (x / 2 ^ (8 * (S - 1 - j)) % 256)] rfl rfl (cell_one_new _ _ _) (by simp [Value.oneCell']) (by omega) ?_; intro w3 hown3 hgrow3)
      go_roundw
      case rel =>
        refine ⟨j + 1, hlt, rfl, by congr 1; omega, ?_, ((hbel.alloc (by have := hbel.size; omega) _).grown hgrow3 (by have := hbel.size; simp; omega) (fun k hk => by have : w.heap.size = k := Option.some.inj hk; omega))⟩
        have e : x / 2 ^ (8 * (S - 1 - j)) % 256 = dig x S j := by unfold dig; rw [Int.pow_mul]; rfl
        rw [e] at hown3
        have e2 : ((l ++ (List.range (j + 1)).map (dig x S)).map (Value.int .u8)) = ((l ++ (List.range j).map (dig x S)).map (Value.int .u8)) ++ [.int .u8 (dig x S j)] := by simp [List.range_succ]
        rw [e2]; exact hown3
      case measure => simp [intOf]; omega
    · have hjS : j = S := by omega
      subst hjS
      have hcell := hown'.cellAt n (by omega)
      have hfroz := hown'.frozenAt n
      have hval : ((l ++ (List.range j).map (dig x j)).map (Value.int .u8))[n]? = some (.int .u8 (dig x j 0)) := by
        rw [List.getElem?_map, List.getElem?_append_right (by rw [HL.out]; exact Nat.le_refl _), HL.out, Nat.sub_self, List.getElem?_map, List.getElem?_range (by omega)]; rfl
      rw [hval] at hcell
      clear hval
      go_wp2
      go_ret2
      have ht := top_bd x (j - 1) hx0 (by simpa using HX.out)
      have hd0 : dig x j 0 = x / 256 ^ (j - 1) := by unfold dig; rw [Nat.sub_zero]; omega
      rw [or_mark (dig x j 0) (place j) (by omega) (by omega) h4 h5]
      refine ⟨_, rfl, ⟨?_, ?_⟩, hbel.setCell (Nat.le_refl _) _⟩
      · have hst := hown'.stored n (.int .u8 (dig x j 0 + 64 * place j))
        have e1 : (l ++ enc x j).length = n + j := by rw [List.length_append, enc_length, HL.out]
        have e2 : (l ++ enc x j).map (Value.int .u8) = ((l ++ (List.range j).map (dig x j)).map (Value.int .u8)).set n (.int .u8 (dig x j 0 + 64 * place j)) := by
          rw [← List.map_set, List.set_append_right _ _ (by rw [HL.out]; exact Nat.le_refl _), HL.out, Nat.sub_self]; rfl
        rw [e1, e2]; exact hst.1
      · intro y hy
        rcases List.mem_append.1 hy with hy | hy
        · exact hb.byte y hy
        · exact enc_bytes x j h2 hx0 (by simpa using HX.out) y (by simpa using hy)

set_option maxRecDepth 100000 in
theorem putIn_any (A : Option Addr) (n c : Nat) (x s : Int) (l : List Int) (w : World) (hT : Tab w) (hb : Byt w A n c l) (hn : n ≤ 140737488355328) :
    Calls Tryd.prog 63 #[.slice A n c, .int .i64 x, .int .i64 s] w (Put2 (putOut l x s) (putErr x s) w) := by
  by_cases h : size x = 0
  · rw [putOut_not l x s (by rw [putErr_range x s h]; decide), putErr_range x s h]
    exact putIn_range A n c x s w hT h
  · by_cases h1 : four s ∧ size x ≤ s
    · rw [putOut_ok l x s (putErr_ok x s h h1), putErr_ok x s h h1]
      obtain ⟨S, rfl⟩ := Int.eq_ofNat_of_zero_le (show 0 ≤ s by have := h1.1; unfold four at this; omega)
      exact putIn_ok A n c S x l w hT hb hn h h1.1 h1.2
    · rw [putOut_not l x s (by rw [putErr_arg x s h h1]; decide), putErr_arg x s h h1]
      exact putIn_arg A n c x s w hT h h1

set_option maxRecDepth 100000 in
set_option maxHeartbeats 400000 in
theorem put_any (A : Option Addr) (n c : Nat) (x : Int) (l : List Int) (w : World) (hT : Tab w) (hb : Byt w A n c l) (hn : n ≤ 140737488355328) :
    Calls Tryd.prog 51 #[.slice A n c, .int .i64 x] w (Put2 (putOut l x (size x)) (putErr x (size x)) w) := by
  go_enter Tryd.func51, Tryd.ntmps51
  go_wp2_with (first | (go_at_call 64; ((with_reducible refine (size_any _ _ hT).mono ?_); rintro e w' ⟨rfl, rfl⟩)) | (go_at_call 63; ((with_reducible refine (putIn_any _ _ _ _ _ l _ hT hb hn).mono ?_); rintro e w' ⟨v, rfl, ho, hk⟩)))
  go_ret2
  exact ⟨v, rfl, ho, hk⟩

end Go.Proofs.YteleagklgnedaaaDoor.Oct
