/-
  The program's handshake as a thing among things: what its calls make of all of them; New, Copy, Live; the law's EqInts.
-/
import Derived.Test.YtcjfaegmbbpcaaaHanY
namespace Go.Proofs.Ytcjfaegmbbpcaaa.Han
open Go.RowKit HanM Wd Bxs Obs Ths
set_option linter.unusedVariables false
set_option linter.unusedSimpArgs false

def handO (g : Nat) (h : Hd) : Ob := box g 53 (haA h)
/-- A number that a call looks up. -/
abbrev pi_ (n : Int) : Value := .int .i64 n
theorem turns_sx {w V : World} {L : List Ob} {f : FuncId} {args : Array Value} {v : Value} {g : Nat} {h h' : Hd} (D : Sx w L V) (i : Nat) (hi : L[i]? = some (handO g h)) (c : Blk V g 53 (haA h) → Calls Try.prog f args V (Turns v g 53 (haA h') V)) : Calls Try.prog f args V (Gets v w (L.set i (handO g h'))) :=
  (c (D.box_ i hi)).mono fun e W ⟨he, hb, hk⟩ => ⟨he, D.set_ i hi hb hk⟩
theorem gives_sx {w V : World} {L : List Ob} {f : FuncId} {args : Array Value} {v : Value} {g : Nat} {h : Hd} (D : Sx w L V) (i : Nat) (hi : L[i]? = some (handO g h)) (c : Blk V g 53 (haA h) → Calls Try.prog f args V (Gives v V)) : Calls Try.prog f args V (Gets v w L) :=
  (c (D.box_ i hi)).mono fun e W ⟨he, hk⟩ => ⟨he, D.on hk⟩
theorem same_sx {w V : World} {L : List Ob} {f : FuncId} {args : Array Value} {v : Value} {g : Nat} {h : Hd} (D : Sx w L V) (i : Nat) (hi : L[i]? = some (handO g h)) (c : Blk V g 53 (haA h) → Calls Try.prog f args V (Same v V)) : Calls Try.prog f args V (Gets v w L) :=
  (c (D.box_ i hi)).mono fun e W ⟨he, hk⟩ => ⟨he, hk ▸ D⟩
section
variable {w V : World} {L : List Ob} {g : Nat} {h : Hd}
theorem keys_sx (D : Sx w L V) (i : Nat) (hi : L[i]? = some (handO g h)) (o : Good h) (n : Int) : Calls Try.prog 16 #[ptr g, .int .i64 n] V (Gets (.int .i64 (keysE h n)) w (L.set i (handO g (keys h n)))) := turns_sx D i hi fun hb => keys_any hb o n
theorem disc_sx (D : Sx w L V) (i : Nat) (hi : L[i]? = some (handO g h)) (o : Good h) (n : Int) : Calls Try.prog 29 #[ptr g, .int .i64 n] V (Gets (.int .i64 (discE h n)) w (L.set i (handO g (disc h n)))) := turns_sx D i hi fun hb => disc_any hb o n
theorem vali_sx (D : Sx w L V) (i : Nat) (hi : L[i]? = some (handO g h)) (o : Good h) : Calls Try.prog 30 #[ptr g] V (Gets (.int .i64 0) w (L.set i (handO g (vali h)))) := turns_sx D i hi fun hb => vali_any hb o
theorem conf_sx (D : Sx w L V) (i : Nat) (hi : L[i]? = some (handO g h)) (o : Good h) : Calls Try.prog 17 #[ptr g] V (Gets (.int .i64 (confE h)) w (L.set i (handO g (conf h)))) := turns_sx D i hi fun hb => conf_any hb o
theorem ans_sx (D : Sx w L V) (i : Nat) (hi : L[i]? = some (handO g h)) (o : Good h) (n : Int) : Calls Try.prog 31 #[ptr g, .int .i64 n] V (Gets (.int .i64 (ansE h n)) w (L.set i (handO g (ans h n)))) := turns_sx D i hi fun hb => ans_any hb o n
theorem lives_sx (D : Sx w L V) (i : Nat) (hi : L[i]? = some (handO g h)) (o : Good h) (n : Int) : Calls Try.prog 22 #[ptr g, .int .i64 n] V (Gets (.bool (lives h n)) w L) := gives_sx D i hi fun hb => lives_any hb o n
theorem has_sx (D : Sx w L V) (i : Nat) (hi : L[i]? = some (handO g h)) (o : Good h) (n : Int) : Calls Try.prog 21 #[ptr g, .int .i64 n] V (Gets (.bool (h.k.at n)) w L) := same_sx D i hi fun hb => has_any hb o n
theorem valid_sx (D : Sx w L V) (i : Nat) (hi : L[i]? = some (handO g h)) : Calls Try.prog 23 #[ptr g] V (Gets (.bool h.v) w L) := same_sx D i hi fun hb => validB_any hb
theorem confirmed_sx (D : Sx w L V) (i : Nat) (hi : L[i]? = some (handO g h)) : Calls Try.prog 24 #[ptr g] V (Gets (.bool h.c) w L) := same_sx D i hi fun hb => confirmedB_any hb
theorem sure_sx (D : Sx w L V) (i : Nat) (hi : L[i]? = some (handO g h)) : Calls Try.prog 25 #[ptr g] V (Gets (.bool (sure h)) w L) := same_sx D i hi fun hb => sureB_any hb
end
set_option maxRecDepth 100000 in
set_option maxHeartbeats 2000000 in
theorem new_sx {w V : World} {L : List Ob} (D : Sx w L V) (s : Bool) : Calls Try.prog 10 #[.bool s] V (fun e W => ∃ q, e = .returned (ptr q) ∧ Sx w (handO q (new s) :: L) W) := by
  have D2 := Lib.hid (D.new 53 (haA (new s)))
  clear D
  cases s
  · go_enter Try.func10, Try.ntmps10
    go_wp2_with fail
    go_ret
    exact ⟨_, rfl, D2.out⟩
  · go_enter Try.func10, Try.ntmps10
    go_wp2_with fail
    go_ret
    exact ⟨_, rfl, D2.out⟩
set_option maxRecDepth 100000 in
set_option maxHeartbeats 2000000 in
theorem copy_any {g : Nat} {h : Hd} {w : World} (hb : Blk w g 53 (haA h)) (o : Good h) : Calls Try.prog 14 #[ptr g] w fun e w' => e = .returned (ptr w.heap.size) ∧ w' = w.alloc (.cells (haA h) 53) := by
  have ka := absent_some hb o.nz
  have Bb := hb
  have cb0 := Bb.cell 0
  have cb1 := Bb.cell 1
  have cb2 := Bb.cell 2
  have cb3 := Bb.cell 3
  have cb4 := Bb.cell 4
  have cb5 := Bb.cell 5
  have tb := Bb.lt
  clear Bb
  clear hb
  go_enter Try.func14, Try.ntmps14
  go_wp2_with fail
  refine ka.mono ?_
  rintro e w' ⟨rfl, rfl⟩
  go_wp2_with fail
  go_ret
  exact ⟨rfl, rfl⟩
theorem copy_sx {w V : World} {L : List Ob} {g : Nat} {h : Hd} (D : Sx w L V) (i : Nat) (hi : L[i]? = some (handO g h)) (o : Good h) : Calls Try.prog 14 #[ptr g] V (fun e W => ∃ q, e = .returned (ptr q) ∧ Sx w (handO q h :: L) W) :=
  (copy_any (D.box_ i hi) o).mono fun e W ⟨he, hw⟩ => ⟨_, he, hw ▸ D.new 53 (haA h)⟩
/-- The active spaces, as far as a loop has come. -/
def liveTo (h : Hd) : Nat → List Int
  | 0 => []
  | n + 1 => if lives h (n : Int) = true then liveTo h n ++ [(n : Int)] else liveTo h n
theorem liveTo_3 (h : Hd) : liveTo h 3 = live h := by
  rw [live_is]
  unfold liveTo liveTo liveTo liveTo
  rw [show ((0 : Nat) : Int) = 0 from rfl, show ((1 : Nat) : Int) = 1 from rfl, show ((2 : Nat) : Int) = 2 from rfl]
  cases lives h 0 <;> cases lives h 1 <;> cases lives h 2 <;> rfl
theorem liveTo_len (h : Hd) (n : Nat) : (liveTo h n).length ≤ n := by
  induction n with
  | zero => exact Nat.le_refl _
  | succ n ih =>
    unfold liveTo
    split
    · rw [List.length_append]; simp only [List.length_cons, List.length_nil]; omega
    · omega
theorem live_len (h : Hd) : (live h).length ≤ 3 := by rw [← liveTo_3]; exact liveTo_len h 3
set_option maxRecDepth 100000 in
set_option maxHeartbeats 2000000 in
theorem live_sx {w V : World} {L : List Ob} {g : Nat} {h : Hd} (D : Sx w L V) (j : Nat) (hj : L[j]? = some (handO g h)) (o : Good h) : Calls Try.prog 28 #[ptr g] V (fun e W => ∃ A c, e = .returned (.slice A (live h).length c) ∧ Sx w (inO A (live h).length c (live h) :: L) W) := by
  have kl := Lib.hid (fun (A : Option Addr) (c : Nat) (l : List Int) (U : World) (hU : Sx w (inO A l.length c l :: L) U) (n : Int) => lives_sx hU (j + 1) hj o n)
  have D : Hid (Sx w (inO none 0 0 [] :: L) V) := Lib.hid (row_nil D)
  have H3 := Lib.hid (liveTo_3 h)
  clear hj o
  go_enter Try.func28, Try.ntmps28
  go_wp2_with fail
  go_loopw [3, 5] (fun s3 s5 wr => ∃ (k : Nat) (A1 : Option Addr) (c1 : Nat) (Li : List Int), k ≤ 3 ∧ s3 = .slice A1 Li.length c1 ∧ s5 = .int .i64 k ∧ Hid (Li = liveTo h k) ∧ Hid (Sx w (inO A1 Li.length c1 Li :: L) wr)) (fun _ s5 _ => 3 - (intOf s5).toNat)
  case atStart => exact ⟨0, none, 0, [], Nat.zero_le _, rfl, rfl, Lib.hid rfl, D⟩
  case round =>
    obtain ⟨k, A1, c1, Li, hk, rfl, rfl, HI, HD⟩ := hrel
    clear D
    have D := HD
    clear HD
    by_cases hlt : k < 3
    · have hi1 : (k : Int) < 3 := by omega
      have hwi : IntKind.i64.wrap ((k : Int) + 1) = (k : Int) + 1 := IntWalk.i64_in _ (by omega)
      have hm : Li.length ≤ 3 := by rw [HI.out]; have := liveTo_len h k; omega
      have kt := kl.out _ _ _ _ D.out (k : Int)
      have HI2 : Hid (liveTo h (k + 1) = if lives h (k : Int) = true then Li ++ [(k : Int)] else Li) := Lib.hid (by rw [HI.out]; rfl)
      cases hy : lives h (k : Int)
      · rw [hy] at kt HI2
        clear hy
        go_wp2_with fail
        refine kt.mono ?_
        rintro e w1 ⟨rfl, hb⟩
        have D := Lib.hid hb
        clear hb kt
        go_wp2_with fail
        go_roundw
        case rel => exact ⟨k + 1, A1, c1, Li, by omega, rfl, by go_num, Lib.hid HI2.out.symm, D⟩
        case measure => simp [intOf]; omega
      · rw [hy] at kt HI2
        clear hy
        go_wp2_with fail
        refine kt.mono ?_
        rintro e w1 ⟨rfl, hb⟩
        have D := Lib.hid hb
        clear hb kt
        go_wp2_with (at_builtin; refine wpList_sxE inE rfl (.tmp 11) (.tmp 13) rfl (k : Int) rfl D.out rfl (by omega) rfl ?_; intro A3 d3 w4 HD3; have D3 := HD3)
        go_roundw
        case rel => exact ⟨k + 1, A3, d3, Li ++ [(k : Int)], by omega, by rw [List.length_append]; rfl, by go_num, Lib.hid HI2.out.symm, D3⟩
        case measure => simp [intOf]; omega
    · have hi1 : ¬ (k : Int) < 3 := by omega
      obtain rfl : k = 3 := by omega
      obtain rfl : Li = live h := by rw [HI.out]; exact H3.out
      clear HI H3 kl
      go_wp2_with fail
      go_ret
      exact ⟨A1, c1, rfl, D.out⟩
set_option maxRecDepth 100000 in
set_option maxHeartbeats 2000000 in
theorem eq_sx {w V : World} {L : List Ob} (i j : Nat) {A B : Option Addr} {c d : Nat} {l : List Int} (h : Sx w L V) (hi : L[i]? = some (inO A l.length c l)) (hj : L[j]? = some (inO B l.length d l)) (hl : l.length ≤ 1000) : Calls Try.prog 27 #[.slice A l.length c, .slice B l.length d] V (Gets (.bool true) w L) := by
  have D : Hid (Sx w L V) := Lib.hid h
  have HR : Hid (Cd.Rw inC 3 V A l.length c l) := Lib.hid (row_at h i hi)
  have HQ : Hid (Cd.Rw inC 3 V B l.length d l) := Lib.hid (row_at h j hj)
  clear h hi hj
  go_enter Try.func27, Try.ntmps27
  go_wp2_with fail
  go_loopw [5] (fun s5 wr => ∃ k : Nat, k ≤ l.length ∧ s5 = .int .i64 k ∧ Hid (Kept V wr)) (fun s5 _ => l.length - (intOf s5).toNat)
  case atStart => exact ⟨0, Nat.zero_le _, rfl, Lib.hid (Kept.refl _)⟩
  case round =>
    obtain ⟨k, hk, rfl, hK⟩ := hrel
    by_cases hlt : k < l.length
    · have hi0 : (0 : Int) ≤ (k : Int) := by omega
      have hi1 : (k : Int) < (l.length : Int) := by omega
      have hwi : IntKind.i64.wrap ((k : Int) + 1) = (k : Int) + 1 := IntWalk.i64_in _ (by omega)
      obtain ⟨g, rfl, hg⟩ := HR.out.some_ (by omega)
      obtain ⟨g2, rfl, hg2⟩ := HQ.out.some_ (by omega)
      have y0 := in_cell (HR.out.kept hK.out) hlt
      have y1 := in_cell (HQ.out.kept hK.out) hlt
      generalize Cd.at_ l k = y at *
      go_wp2_with fail
      go_quiet (fail)
      clear y0 y1
      go_wp2_with fail
      go_roundw
      case rel => exact ⟨k + 1, by omega, by go_num, Lib.hid (hK.out.drewN nq)⟩
      case measure => simp [intOf]; omega
    · have hi1 : ¬ (k : Int) < (l.length : Int) := by omega
      go_wp2_with fail
      go_ret
      exact ⟨rfl, D.out.on hK.out⟩
end Go.Proofs.Ytcjfaegmbbpcaaa.Han
