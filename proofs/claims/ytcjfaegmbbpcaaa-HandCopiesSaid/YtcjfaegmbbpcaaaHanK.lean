/-
  The laws' call, played, begins, and the chapter's examples (works).
-/
import Derived.Test.YtcjfaegmbbpcaaaHanL
import Derived.Test.YtcjfaegmbbpcaaaNum
namespace Go.Proofs.Ytcjfaegmbbpcaaa.Han
open Go.RowKit HanM Wd Bxs Obs Ths
set_option linter.unusedVariables false
set_option linter.unusedSimpArgs false

set_option maxRecDepth 100000 in
set_option maxHeartbeats 2000000 in
theorem call_sx {w V : World} {L : List Ob} {g : Nat} {h : Hd} (D : Sx w L V) (i : Nat) (hi : L[i]? = some (handO g h)) (o : Good h) (k s : Int) : Calls Try.prog 20 #[ptr g, .agg #[.int .i64 k, .int .i64 s]] V (Gets (.int .i64 (callE h (k % 6) (s % 3))) w (L.set i (handO g (call h (k % 6) (s % 3))))) := by
  have kb1 := Lib.hid (fun W => bring_any s 3 W (by decide) (by decide))
  have kb2 := Lib.hid (fun W => bring_any k 6 W (by decide) (by decide))
  have hK : 0 ≤ k % 6 ∧ k % 6 < 6 := ⟨Int.emod_nonneg _ (by decide), Int.emod_lt_of_pos _ (by decide)⟩
  generalize k % 6 = K at *
  generalize s % 3 = S at *
  have D : Hid (Sx w (box V.heap.size 30 #[.int .i64 k, .int .i64 s] :: L) (V.alloc (.cells #[.int .i64 k, .int .i64 s] 30))) := Lib.hid (D.new 30 #[.int .i64 k, .int .i64 s])
  have B := D.out.box_ 0 rfl
  have c0 := B.cell 0
  have c1 := B.cell 1
  clear B
  rcases (by omega : K = 0 ∨ K = 1 ∨ K = 2 ∨ K = 3 ∨ K = 4 ∨ K = 5) with rfl | rfl | rfl | rfl | rfl | rfl
  · go_enter Try.func20, Try.ntmps20
    go_wp2_with fail
    refine (kb1.out _).mono ?_
    rintro e w' ⟨rfl, rfl⟩
    go_wp2_with fail
    refine (kb2.out _).mono ?_
    rintro e w' ⟨rfl, rfl⟩
    have kt := keys_sx D.out (i + 1) hi o S
    go_wp2_with fail
    refine kt.mono ?_
    rintro e w1 ⟨rfl, hb⟩
    go_wp2_with fail
    go_ret
    exact ⟨rfl, hb.tail⟩
  · go_enter Try.func20, Try.ntmps20
    go_wp2_with fail
    refine (kb1.out _).mono ?_
    rintro e w' ⟨rfl, rfl⟩
    go_wp2_with fail
    refine (kb2.out _).mono ?_
    rintro e w' ⟨rfl, rfl⟩
    have kt := keys_sx D.out (i + 1) hi o S
    go_wp2_with fail
    refine kt.mono ?_
    rintro e w1 ⟨rfl, hb⟩
    go_wp2_with fail
    go_ret
    exact ⟨rfl, hb.tail⟩
  · go_enter Try.func20, Try.ntmps20
    go_wp2_with fail
    refine (kb1.out _).mono ?_
    rintro e w' ⟨rfl, rfl⟩
    go_wp2_with fail
    refine (kb2.out _).mono ?_
    rintro e w' ⟨rfl, rfl⟩
    have kt := disc_sx D.out (i + 1) hi o S
    go_wp2_with fail
    refine kt.mono ?_
    rintro e w1 ⟨rfl, hb⟩
    go_wp2_with fail
    go_ret
    exact ⟨rfl, hb.tail⟩
  · go_enter Try.func20, Try.ntmps20
    go_wp2_with fail
    refine (kb1.out _).mono ?_
    rintro e w' ⟨rfl, rfl⟩
    go_wp2_with fail
    refine (kb2.out _).mono ?_
    rintro e w' ⟨rfl, rfl⟩
    have kt := vali_sx D.out (i + 1) hi o
    go_wp2_with fail
    refine kt.mono ?_
    rintro e w1 ⟨rfl, hb⟩
    go_wp2_with fail
    go_ret
    exact ⟨rfl, hb.tail⟩
  · go_enter Try.func20, Try.ntmps20
    go_wp2_with fail
    refine (kb1.out _).mono ?_
    rintro e w' ⟨rfl, rfl⟩
    go_wp2_with fail
    refine (kb2.out _).mono ?_
    rintro e w' ⟨rfl, rfl⟩
    have kt := conf_sx D.out (i + 1) hi o
    go_wp2_with fail
    refine kt.mono ?_
    rintro e w1 ⟨rfl, hb⟩
    go_wp2_with fail
    go_ret
    exact ⟨rfl, hb.tail⟩
  · go_enter Try.func20, Try.ntmps20
    go_wp2_with fail
    refine (kb1.out _).mono ?_
    rintro e w' ⟨rfl, rfl⟩
    go_wp2_with fail
    refine (kb2.out _).mono ?_
    rintro e w' ⟨rfl, rfl⟩
    have kt := ans_sx D.out (i + 1) hi o S
    go_wp2_with fail
    refine kt.mono ?_
    rintro e w1 ⟨rfl, hb⟩
    go_wp2_with fail
    go_ret
    exact ⟨rfl, hb.tail⟩
/-- The calls of an argument. -/
def cl (f : Nat → Nat → Int) (j : Nat) : Int × Int := (f j 0 % 6, f j 1 % 3)
theorem cl_sp (f : Nat → Nat → Int) (j : Nat) : sp (cl f j).2 := ⟨Int.emod_nonneg _ (by decide), Int.emod_lt_of_pos _ (by decide)⟩
theorem cl_kd (f : Nat → Nat → Int) (j : Nat) : 0 ≤ (cl f j).1 ∧ (cl f j).1 < 6 := ⟨Int.emod_nonneg _ (by decide), Int.emod_lt_of_pos _ (by decide)⟩
theorem pl_good (s : Bool) (f : Nat → Int × Int) (n : Nat) : Good (pl s f n) := by
  induction n with
  | zero => exact new_good s
  | succ n ih => exact call_good ih _ _
theorem cell_do {w : World} {b o n : Nat} {f : Nat → Nat → Int} (hc : ∀ k, k < n → ∀ j, j < 2 → w.cell? ⟨b, o + k * 2 + j, none⟩ = some (.int .i64 (f k j))) {k : Nat} (hk : k < n) : w.cell? ⟨b, o + k * 2, none⟩ = some (.int .i64 (f k 0)) ∧ w.cell? ⟨b, o + k * 2 + 1, none⟩ = some (.int .i64 (f k 1)) := ⟨hc k hk 0 (by decide), hc k hk 1 (by decide)⟩
set_option maxRecDepth 100000 in
set_option maxHeartbeats 2000000 in
theorem played_any (s : Bool) (A : Option Addr) (n c : Nat) (f : Nat → Nat → Int) (w : World) (h : Num.Grid 2 w A n c f) : Calls Try.prog 26 #[.bool s, .slice A n c] w (fun e W => ∃ q, e = .returned (ptr q) ∧ Sx w [handO q (pl s (cl f) (min n 60))] W) := by
  have GK := Lib.hid h
  have hn : n ≤ maxLen := Nat.le_trans h.cap h.most
  unfold maxLen at hn
  clear h
  have k0 := Lib.hid (new_sx (Sx.nil w) s)
  go_enter Try.func26, Try.ntmps26
  go_wp2_with fail
  refine k0.out.mono ?_
  rintro e v1 ⟨q, rfl, hb⟩
  have D : Hid (Sx w [handO q (pl s (cl f) 0)] v1) := Lib.hid hb
  clear hb k0
  go_wp2_with fail
  go_loopw [6] (fun s6 wr => ∃ i : Nat, i ≤ n ∧ i ≤ 60 ∧ s6 = .int .i64 i ∧ Hid (Sx w [handO q (pl s (cl f) i)] wr)) (fun s6 _ => 60 - (intOf s6).toNat)
  case atStart => exact ⟨0, Nat.zero_le _, Nat.zero_le _, rfl, D⟩
  case round =>
    obtain ⟨i, hin, hi6, rfl, HD⟩ := hrel
    clear D
    have D := HD
    clear HD
    by_cases hlt : i < n
    · by_cases h60 : i < 60
      · have hi0 : (0 : Int) ≤ (i : Int) := by omega
        have hi1 : (i : Int) < (n : Int) := by omega
        have hi2 : (i : Int) < 60 := by omega
        have hwi : IntKind.i64.wrap ((i : Int) + 1) = (i : Int) + 1 := IntWalk.i64_in _ (by omega)
        obtain ⟨b, o, rfl, hb, hc⟩ := GK.out.lies (by omega)
        have y0 := D.out.K.cell (cell_do hc hlt).1
        have y1 := D.out.K.cell (cell_do hc hlt).2
        clear hc hb
        have kt : Calls Try.prog 20 #[ptr q, .agg #[.int .i64 (f i 0), .int .i64 (f i 1)]] wr (Gets (.int .i64 (callE (pl s (cl f) i) (f i 0 % 6) (f i 1 % 3))) w [handO q (pl s (cl f) (i + 1))]) := call_sx D.out 0 rfl (pl_good s (cl f) i) (f i 0) (f i 1)
        generalize callE (pl s (cl f) i) (f i 0 % 6) (f i 1 % 3) = E at *
        go_wp2_with fail
        refine kt.mono ?_
        rintro e w1 ⟨rfl, hb⟩
        have D := Lib.hid hb
        clear hb kt y0 y1
        go_wp2_with fail
        go_roundw
        case rel => exact ⟨i + 1, by omega, by omega, by go_num, D⟩
        case measure => simp [intOf]; omega
      · have hi1 : (i : Int) < (n : Int) := by omega
        have hi2 : ¬ (i : Int) < 60 := by omega
        go_wp2_with fail
        go_ret
        exact ⟨q, rfl, by rw [show min n 60 = i by omega]; exact D.out⟩
    · have hi1 : ¬ (i : Int) < (n : Int) := by omega
      go_wp2_with fail
      go_ret
      exact ⟨q, rfl, by rw [show min n 60 = i by omega]; exact D.out⟩
set_option maxRecDepth 100000 in
set_option maxHeartbeats 2000000 in
theorem begins_sx {w V : World} {g : Nat} (s : Bool) (D : Sx w [handO g (new s)] V) : Calls Try.prog 44 #[ptr g, .bool s] V (Gets (.bool true) w [handO g (new s)]) := by
  have D := Lib.hid D
  cases s
  · go_enter Try.func44, Try.ntmps44
    go_wp2_with fail
    have kt := live_sx D.out 0 rfl (new_good _)
    rw [show live (new false) = [0] from by decide] at kt
    refine kt.mono ?_
    clear kt
    rintro e v1 ⟨A1, c1, rfl, hb⟩
    have D : Hid (Sx w (inO A1 1 c1 [0] :: [handO g (new false)]) v1) := Lib.hid hb
    clear hb
    have ke := Lib.hid (fun (V : World) (F : Option Addr) (h : Sx w (inO F 1 1 [0] :: inO A1 1 c1 [0] :: [handO g (new false)]) V) => eq_sx (l := [0]) 1 0 h rfl rfl (by decide))
    go_wp2_with fail
    refine (ke.out _ _ (rowI [0] #[.int .i64 0] 1 rfl rfl (by decide) D.out)).mono ?_
    clear ke
    rintro e v2 ⟨rfl, hb⟩
    have D : Hid (Sx w [handO g (new false)] v2) := Lib.hid hb.tail.tail
    clear hb
    go_wp2_with fail
    have kt := valid_sx D.out 0 rfl
    rw [show (new false).v = true from rfl] at kt
    refine kt.mono ?_
    clear kt
    rintro e v3 ⟨rfl, hb⟩
    have D : Hid (Sx w [handO g (new false)] v3) := Lib.hid hb
    clear hb
    go_wp2_with fail
    have kt := sure_sx D.out 0 rfl
    rw [show sure (new false) = false from rfl] at kt
    refine kt.mono ?_
    clear kt
    rintro e v4 ⟨rfl, hb⟩
    have D : Hid (Sx w [handO g (new false)] v4) := Lib.hid hb
    clear hb
    go_wp2_with fail
    have kt := confirmed_sx D.out 0 rfl
    rw [show (new false).c = false from rfl] at kt
    refine kt.mono ?_
    clear kt
    rintro e v5 ⟨rfl, hb⟩
    have D : Hid (Sx w [handO g (new false)] v5) := Lib.hid hb
    clear hb
    go_wp2_with fail
    go_ret
    exact ⟨rfl, D.out⟩
  · go_enter Try.func44, Try.ntmps44
    go_wp2_with fail
    have kt := live_sx D.out 0 rfl (new_good _)
    rw [show live (new true) = [0] from by decide] at kt
    refine kt.mono ?_
    clear kt
    rintro e v6 ⟨A1, c1, rfl, hb⟩
    have D : Hid (Sx w (inO A1 1 c1 [0] :: [handO g (new true)]) v6) := Lib.hid hb
    clear hb
    have ke := Lib.hid (fun (V : World) (F : Option Addr) (h : Sx w (inO F 1 1 [0] :: inO A1 1 c1 [0] :: [handO g (new true)]) V) => eq_sx (l := [0]) 1 0 h rfl rfl (by decide))
    go_wp2_with fail
    refine (ke.out _ _ (rowI [0] #[.int .i64 0] 1 rfl rfl (by decide) D.out)).mono ?_
    clear ke
    rintro e v7 ⟨rfl, hb⟩
    have D : Hid (Sx w [handO g (new true)] v7) := Lib.hid hb.tail.tail
    clear hb
    go_wp2_with fail
    have kt := valid_sx D.out 0 rfl
    rw [show (new true).v = false from rfl] at kt
    refine kt.mono ?_
    clear kt
    rintro e v8 ⟨rfl, hb⟩
    have D : Hid (Sx w [handO g (new true)] v8) := Lib.hid hb
    clear hb
    go_wp2_with fail
    have kt := sure_sx D.out 0 rfl
    rw [show sure (new true) = true from rfl] at kt
    refine kt.mono ?_
    clear kt
    rintro e v9 ⟨rfl, hb⟩
    have D : Hid (Sx w [handO g (new true)] v9) := Lib.hid hb
    clear hb
    go_wp2_with fail
    have kt := confirmed_sx D.out 0 rfl
    rw [show (new true).c = false from rfl] at kt
    refine kt.mono ?_
    clear kt
    rintro e v10 ⟨rfl, hb⟩
    have D : Hid (Sx w [handO g (new true)] v10) := Lib.hid hb
    clear hb
    go_wp2_with fail
    go_ret
    exact ⟨rfl, D.out⟩
def x1 (s : Bool) : Hd := keys (new s) 1
def x2 (s : Bool) : Hd := keys (x1 s) 2
def x3 (s : Bool) : Hd := disc (x2 s) 0
def x4 (s : Bool) : Hd := ans (x3 s) 1
def x5 (s : Bool) : Hd := conf (x4 s)
theorem g1 (s : Bool) : Good (x1 s) := keys_good (new_good s) 1
theorem g2 (s : Bool) : Good (x2 s) := keys_good (g1 s) 2
theorem g3 (s : Bool) : Good (x3 s) := disc_good (g2 s) 0
theorem g4 (s : Bool) : Good (x4 s) := ans_good (g3 s) 1
theorem g5 (s : Bool) : Good (x5 s) := conf_good (g4 s)
theorem e1 (s : Bool) : keysE (new s) 1 = 0 := by cases s <;> decide
theorem e2 (s : Bool) : keysE (x1 s) 2 = 0 := by cases s <;> decide
theorem e3 (s : Bool) : discE (x2 s) 0 = 0 := by cases s <;> decide
theorem e4 (s : Bool) : discE (x3 s) 0 = 160 := by cases s <;> decide
theorem q4 (s : Bool) : disc (x3 s) 0 = x3 s := by cases s <;> decide
theorem e5 (s : Bool) : keysE (x3 s) 0 = 160 := by cases s <;> decide
theorem q5 (s : Bool) : keys (x3 s) 0 = x3 s := by cases s <;> decide
theorem e6 (s : Bool) : discE (x3 s) 2 = 2 := by cases s <;> decide
theorem q6 (s : Bool) : disc (x3 s) 2 = x3 s := by cases s <;> decide
theorem e7 (s : Bool) : live (x3 s) = [1, 2] := by cases s <;> decide
theorem e8 (s : Bool) : ansE (x3 s) 0 = 160 := by cases s <;> decide
theorem q8 (s : Bool) : ans (x3 s) 0 = x3 s := by cases s <;> decide
theorem e9 (s : Bool) : ansE (x3 s) 1 = 0 := by cases s <;> decide
theorem ea (s : Bool) : sure (x4 s) = true := by cases s <;> decide
theorem eb (s : Bool) : confE (x4 s) = 0 := by cases s <;> decide
theorem ec (s : Bool) : (x5 s).v = true := by cases s <;> decide
theorem ed (s : Bool) : (x5 s).c = true := by cases s <;> decide
set_option maxRecDepth 100000 in
set_option maxHeartbeats 2000000 in
theorem works_any (w : World) : Calls Try.prog 19 #[] w (Gives (.bool true) w) := by
  have D : Hid (Kept w w) := Lib.hid (Kept.refl w)
  go_enter Try.func19, Try.ntmps19
  go_wp2_with fail
  go_loopw [1] (fun s1 wr => ∃ i : Nat, i ≤ 2 ∧ s1 = .int .i64 i ∧ Hid (Kept w wr)) (fun s1 _ => 2 - (intOf s1).toNat)
  case atStart => exact ⟨0, by omega, rfl, D⟩
  case round =>
    obtain ⟨i, hi, rfl, HK⟩ := hrel
    clear D
    rcases (by omega : i = 0 ∨ i = 1 ∨ i = 2) with rfl | rfl | rfl
    · have D : Hid (Sx w [] wr) := Lib.hid (Sx.start HK.out)
      clear HK
      go_wp2_with fail
      refine (new_sx D.out true).mono ?_
      rintro e v11 ⟨g, rfl, hb⟩
      have D : Hid (Sx w [handO g (new true)] v11) := Lib.hid hb
      clear hb
      go_wp2_with fail
      have kt := begins_sx true D.out
      refine kt.mono ?_
      clear kt
      rintro e v12 ⟨rfl, hb⟩
      have D : Hid (Sx w [handO g (new true)] v12) := Lib.hid hb
      clear hb
      go_wp2_with fail
      have kt := keys_sx D.out 0 rfl (new_good _) 1
      rw [e1] at kt
      refine kt.mono ?_
      clear kt
      rintro e v13 ⟨rfl, hb⟩
      have D : Hid (Sx w [handO g (x1 true)] v13) := Lib.hid hb
      clear hb
      go_wp2_with fail
      have kt := keys_sx D.out 0 rfl (g1 _) 2
      rw [e2] at kt
      refine kt.mono ?_
      clear kt
      rintro e v14 ⟨rfl, hb⟩
      have D : Hid (Sx w [handO g (x2 true)] v14) := Lib.hid hb
      clear hb
      go_wp2_with fail
      have kt := disc_sx D.out 0 rfl (g2 _) 0
      rw [e3] at kt
      refine kt.mono ?_
      clear kt
      rintro e v15 ⟨rfl, hb⟩
      have D : Hid (Sx w [handO g (x3 true)] v15) := Lib.hid hb
      clear hb
      go_wp2_with fail
      have kt := disc_sx D.out 0 rfl (g3 _) 0
      rw [e4, q4] at kt
      refine kt.mono ?_
      clear kt
      rintro e v16 ⟨rfl, hb⟩
      have D : Hid (Sx w [handO g (x3 true)] v16) := Lib.hid hb
      clear hb
      go_wp2_with fail
      have kt := keys_sx D.out 0 rfl (g3 _) 0
      rw [e5, q5] at kt
      refine kt.mono ?_
      clear kt
      rintro e v17 ⟨rfl, hb⟩
      have D : Hid (Sx w [handO g (x3 true)] v17) := Lib.hid hb
      clear hb
      go_wp2_with fail
      have kt := disc_sx D.out 0 rfl (g3 _) 2
      rw [e6, q6] at kt
      refine kt.mono ?_
      clear kt
      rintro e v18 ⟨rfl, hb⟩
      have D : Hid (Sx w [handO g (x3 true)] v18) := Lib.hid hb
      clear hb
      go_wp2_with fail
      have kt := live_sx D.out 0 rfl (g3 _)
      rw [e7] at kt
      refine kt.mono ?_
      clear kt
      rintro e v19 ⟨A1, c1, rfl, hb⟩
      have D : Hid (Sx w (inO A1 2 c1 [1, 2] :: [handO g (x3 true)]) v19) := Lib.hid hb
      clear hb
      have ke := Lib.hid (fun (V : World) (F : Option Addr) (h : Sx w (inO F 2 2 [1, 2] :: inO A1 2 c1 [1, 2] :: [handO g (x3 true)]) V) => eq_sx (l := [1, 2]) 1 0 h rfl rfl (by decide))
      go_wp2_with fail
      refine (ke.out _ _ (rowI [1, 2] #[.int .i64 1, .int .i64 2] 2 rfl rfl (by decide) D.out)).mono ?_
      clear ke
      rintro e v20 ⟨rfl, hb⟩
      have D : Hid (Sx w [handO g (x3 true)] v20) := Lib.hid hb.tail.tail
      clear hb
      go_wp2_with fail
      have kt := ans_sx D.out 0 rfl (g3 _) 0
      rw [e8, q8] at kt
      refine kt.mono ?_
      clear kt
      rintro e v21 ⟨rfl, hb⟩
      have D : Hid (Sx w [handO g (x3 true)] v21) := Lib.hid hb
      clear hb
      go_wp2_with fail
      have kt := ans_sx D.out 0 rfl (g3 _) 1
      rw [e9] at kt
      refine kt.mono ?_
      clear kt
      rintro e v22 ⟨rfl, hb⟩
      have D : Hid (Sx w [handO g (x4 true)] v22) := Lib.hid hb
      clear hb
      go_wp2_with fail
      have kt := sure_sx D.out 0 rfl
      rw [ea] at kt
      refine kt.mono ?_
      clear kt
      rintro e v23 ⟨rfl, hb⟩
      have D : Hid (Sx w [handO g (x4 true)] v23) := Lib.hid hb
      clear hb
      go_wp2_with fail
      have kt := conf_sx D.out 0 rfl (g4 _)
      rw [eb] at kt
      refine kt.mono ?_
      clear kt
      rintro e v24 ⟨rfl, hb⟩
      have D : Hid (Sx w [handO g (x5 true)] v24) := Lib.hid hb
      clear hb
      go_wp2_with fail
      have kt := valid_sx D.out 0 rfl
      rw [ec] at kt
      refine kt.mono ?_
      clear kt
      rintro e v25 ⟨rfl, hb⟩
      have D : Hid (Sx w [handO g (x5 true)] v25) := Lib.hid hb
      clear hb
      go_wp2_with fail
      have kt := confirmed_sx D.out 0 rfl
      rw [ed] at kt
      refine kt.mono ?_
      clear kt
      rintro e v26 ⟨rfl, hb⟩
      have D : Hid (Sx w [handO g (x5 true)] v26) := Lib.hid hb
      clear hb
      have K := Lib.hid D.out.K
      go_wp2_with fail
      go_roundw
      case rel => exact ⟨1, by omega, by go_num, K⟩
      case measure => simp [intOf]
    · have D : Hid (Sx w [] wr) := Lib.hid (Sx.start HK.out)
      clear HK
      go_wp2_with fail
      refine (new_sx D.out false).mono ?_
      rintro e v27 ⟨g, rfl, hb⟩
      have D : Hid (Sx w [handO g (new false)] v27) := Lib.hid hb
      clear hb
      go_wp2_with fail
      have kt := begins_sx false D.out
      refine kt.mono ?_
      clear kt
      rintro e v28 ⟨rfl, hb⟩
      have D : Hid (Sx w [handO g (new false)] v28) := Lib.hid hb
      clear hb
      go_wp2_with fail
      have kt := keys_sx D.out 0 rfl (new_good _) 1
      rw [e1] at kt
      refine kt.mono ?_
      clear kt
      rintro e v29 ⟨rfl, hb⟩
      have D : Hid (Sx w [handO g (x1 false)] v29) := Lib.hid hb
      clear hb
      go_wp2_with fail
      have kt := keys_sx D.out 0 rfl (g1 _) 2
      rw [e2] at kt
      refine kt.mono ?_
      clear kt
      rintro e v30 ⟨rfl, hb⟩
      have D : Hid (Sx w [handO g (x2 false)] v30) := Lib.hid hb
      clear hb
      go_wp2_with fail
      have kt := disc_sx D.out 0 rfl (g2 _) 0
      rw [e3] at kt
      refine kt.mono ?_
      clear kt
      rintro e v31 ⟨rfl, hb⟩
      have D : Hid (Sx w [handO g (x3 false)] v31) := Lib.hid hb
      clear hb
      go_wp2_with fail
      have kt := disc_sx D.out 0 rfl (g3 _) 0
      rw [e4, q4] at kt
      refine kt.mono ?_
      clear kt
      rintro e v32 ⟨rfl, hb⟩
      have D : Hid (Sx w [handO g (x3 false)] v32) := Lib.hid hb
      clear hb
      go_wp2_with fail
      have kt := keys_sx D.out 0 rfl (g3 _) 0
      rw [e5, q5] at kt
      refine kt.mono ?_
      clear kt
      rintro e v33 ⟨rfl, hb⟩
      have D : Hid (Sx w [handO g (x3 false)] v33) := Lib.hid hb
      clear hb
      go_wp2_with fail
      have kt := disc_sx D.out 0 rfl (g3 _) 2
      rw [e6, q6] at kt
      refine kt.mono ?_
      clear kt
      rintro e v34 ⟨rfl, hb⟩
      have D : Hid (Sx w [handO g (x3 false)] v34) := Lib.hid hb
      clear hb
      go_wp2_with fail
      have kt := live_sx D.out 0 rfl (g3 _)
      rw [e7] at kt
      refine kt.mono ?_
      clear kt
      rintro e v35 ⟨A1, c1, rfl, hb⟩
      have D : Hid (Sx w (inO A1 2 c1 [1, 2] :: [handO g (x3 false)]) v35) := Lib.hid hb
      clear hb
      have ke := Lib.hid (fun (V : World) (F : Option Addr) (h : Sx w (inO F 2 2 [1, 2] :: inO A1 2 c1 [1, 2] :: [handO g (x3 false)]) V) => eq_sx (l := [1, 2]) 1 0 h rfl rfl (by decide))
      go_wp2_with fail
      refine (ke.out _ _ (rowI [1, 2] #[.int .i64 1, .int .i64 2] 2 rfl rfl (by decide) D.out)).mono ?_
      clear ke
      rintro e v36 ⟨rfl, hb⟩
      have D : Hid (Sx w [handO g (x3 false)] v36) := Lib.hid hb.tail.tail
      clear hb
      go_wp2_with fail
      have kt := ans_sx D.out 0 rfl (g3 _) 0
      rw [e8, q8] at kt
      refine kt.mono ?_
      clear kt
      rintro e v37 ⟨rfl, hb⟩
      have D : Hid (Sx w [handO g (x3 false)] v37) := Lib.hid hb
      clear hb
      go_wp2_with fail
      have kt := ans_sx D.out 0 rfl (g3 _) 1
      rw [e9] at kt
      refine kt.mono ?_
      clear kt
      rintro e v38 ⟨rfl, hb⟩
      have D : Hid (Sx w [handO g (x4 false)] v38) := Lib.hid hb
      clear hb
      go_wp2_with fail
      have kt := sure_sx D.out 0 rfl
      rw [ea] at kt
      refine kt.mono ?_
      clear kt
      rintro e v39 ⟨rfl, hb⟩
      have D : Hid (Sx w [handO g (x4 false)] v39) := Lib.hid hb
      clear hb
      go_wp2_with fail
      have kt := conf_sx D.out 0 rfl (g4 _)
      rw [eb] at kt
      refine kt.mono ?_
      clear kt
      rintro e v40 ⟨rfl, hb⟩
      have D : Hid (Sx w [handO g (x5 false)] v40) := Lib.hid hb
      clear hb
      go_wp2_with fail
      have kt := valid_sx D.out 0 rfl
      rw [ec] at kt
      refine kt.mono ?_
      clear kt
      rintro e v41 ⟨rfl, hb⟩
      have D : Hid (Sx w [handO g (x5 false)] v41) := Lib.hid hb
      clear hb
      go_wp2_with fail
      have kt := confirmed_sx D.out 0 rfl
      rw [ed] at kt
      refine kt.mono ?_
      clear kt
      rintro e v42 ⟨rfl, hb⟩
      have D : Hid (Sx w [handO g (x5 false)] v42) := Lib.hid hb
      clear hb
      have K := Lib.hid D.out.K
      go_wp2_with fail
      go_roundw
      case rel => exact ⟨2, by omega, by go_num, K⟩
      case measure => simp [intOf]
    · go_wp2_with fail
      go_ret
      exact ⟨rfl, HK.out⟩
end Go.Proofs.Ytcjfaegmbbpcaaa.Han
