/-
  Contract of frame's Check: of all ACKs.
-/
import Derived.Test.YtganelhlpobdjaaDoorFrmW
import Derived.Test.YtganelhlpobdjaaDoorSatX
namespace Go.Proofs.YtganelhlpobdjaaDoor.Frm
open Go.RowKit SpnM Spn FrmM Wd
attribute [local go_sem] Oper.semAt_some
set_option linter.unusedVariables false
set_option linter.unusedSimpArgs false

theorem is_yes (n : Int) (w : World) (h : num n) : Calls Tryd.prog 38 #[.int .i64 n] w fun e w' => e = .returned (.bool true) ∧ w = w' := by
  have := Sat.is_any n w
  rwa [show Sat.isB n = true from decide_eq_true h] at this
theorem is_no (n : Int) (w : World) (h : ¬ num n) : Calls Tryd.prog 38 #[.int .i64 n] w fun e w' => e = .returned (.bool false) ∧ w = w' := by
  have := Sat.is_any n w
  rwa [show Sat.isB n = false from decide_eq_false h] at this

/-- An ACK, as a value and as cells. -/
def ackV (A : Option Addr) (n c : Nat) (a : Ack) : Value := .agg #[.int .i64 a.delay, .slice A n c, .bool a.marked, .int .i64 a.m0, .int .i64 a.m1, .int .i64 a.m2]
/-- A loop's own variable of two numbers. -/
def Two (W : World) (B : Nat) (x : R) : Prop := Blk W B 36 #[.int .i64 x.1, .int .i64 x.2]
theorem two_own (B : Nat) (x : R) : Go.Own (fun (_ : Unit) W => Two W B x) := fun s X Y row hs hg hr => by
  refine (hg.block B hs.lt (fun e => ?_)).trans hs
  obtain ⟨o, ho, hc⟩ := hr B e.symm
  rw [show X.heap[B]? = _ from hs] at ho
  cases ho; cases hc

theorem blk_own {β : Type} (g : Nat) (t : TypeId) (cs : Array Value) : Go.Own (fun (_ : β) W => Blk W g t cs) := fun s X Y row hs hg hr => by
  refine (hg.block g hs.lt (fun e => ?_)).trans hs
  obtain ⟨o, ho, hc⟩ := hr g e.symm
  rw [show X.heap[g]? = _ from hs] at ho
  cases ho; cases hc

theorem below_own (w : World) (B : Nat) (h : w.heap.size ≤ B) : OwnFrom B (fun (_ : Unit) W => Below w.heap.size w W) := fun _ X Y row hs hg hr =>
  hs.grown hg hs.size (fun k e => Nat.le_trans h (hr k e).1)
def AllFit (pre : List (Int × R)) : Prop := ∀ p ∈ pre, fits p
theorem allFit_nil : AllFit [] := fun _ h => by cases h
/-- The three marks. -/
def mk3 (m0 m1 m2 : Int) (j : Nat) : Int := if j = 0 then m0 else if j = 1 then m1 else m2
def okm (k : Bool) (v : Int) : Prop := num v ∧ (k = false → v = 0)
theorem idx3_0 (m0 m1 m2 : Int) (w : World) : (Instr.index 23 (.agg #[.int .i64 m0, .int .i64 m1, .int .i64 m2]) (.int .i64 0)).run Tryd.prog w = .ok (.int .i64 m0) w := by kernel_rfl
theorem idx3_1 (m0 m1 m2 : Int) (w : World) : (Instr.index 23 (.agg #[.int .i64 m0, .int .i64 m1, .int .i64 m2]) (.int .i64 1)).run Tryd.prog w = .ok (.int .i64 m1) w := by kernel_rfl
theorem idx3_2 (m0 m1 m2 : Int) (w : World) : (Instr.index 23 (.agg #[.int .i64 m0, .int .i64 m1, .int .i64 m2]) (.int .i64 2)).run Tryd.prog w = .ok (.int .i64 m2) w := by kernel_rfl
theorem idx3 (m0 m1 m2 : Int) (j : Nat) (h : j < 3) (w : World) : (Instr.index 23 (.agg #[.int .i64 m0, .int .i64 m1, .int .i64 m2]) (.int .i64 (j : Int))).run Tryd.prog w = .ok (.int .i64 (mk3 m0 m1 m2 j)) w := by
  have : j = 0 ∨ j = 1 ∨ j = 2 := by omega
  rcases this with rfl | rfl | rfl
  · exact idx3_0 m0 m1 m2 w
  · exact idx3_1 m0 m1 m2 w
  · exact idx3_2 m0 m1 m2 w
theorem okm_all {d m0 m1 m2 : Int} {l : List R} {k : Bool} (h : ∀ j, j < 3 → okm k (mk3 m0 m1 m2 j)) : Marks ⟨d, l, k, m0, m1, m2⟩ := by
  have h0 := h 0 (by omega)
  have h1 := h 1 (by omega)
  have h2 := h 2 (by omega)
  simp only [mk3, okm] at h0 h1 h2
  simp at h0 h1 h2
  exact ⟨h0.1, h1.1, h2.1, fun e => ⟨h0.2 e, h1.2 e, h2.2 e⟩⟩
theorem okm_of {d m0 m1 m2 : Int} {l : List R} {k : Bool} (h : Marks ⟨d, l, k, m0, m1, m2⟩) {j : Nat} (hj : j < 3) : okm k (mk3 m0 m1 m2 j) := by
  obtain ⟨h0, h1, h2, h3⟩ := h
  have : j = 0 ∨ j = 1 ∨ j = 2 := by omega
  rcases this with rfl | rfl | rfl
  · exact ⟨h0, fun e => (h3 e).1⟩
  · exact ⟨h1, fun e => (h3 e).2.1⟩
  · exact ⟨h2, fun e => (h3 e).2.2⟩

/-- What the head of Check asks. -/
def headOk (m : Nat) (d : Int) : Prop := 1 ≤ m ∧ m ≤ 256 ∧ num d

set_option maxRecDepth 100000 in
set_option maxHeartbeats 4000000 in
theorem check_falls (n : Nat) (hn : 3 ≤ n) (A : Option Addr) (m c : Nat) (l : List R) (d m0 m1 m2 : Int) (k : Bool) (w : World) (hS : Rgs w A m c l) (hA : ∀ b, own A = some b → b < w.heap.size) (hh : headOk m d) :
    CallsIn Fence.wide n Tryd.prog 15 #[.agg #[.int .i64 d, .slice A m c, .bool k, .int .i64 m0, .int .i64 m1, .int .i64 m2]] w fun e w' => e = .returned (.int .i64 (check ⟨d, l, k, m0, m1, m2⟩)) ∧ Below w.heap.size w w' := by
  have h1 : 1 ≤ n := by omega
  obtain ⟨g1, g2, g3⟩ := hh
  have hz : ((m : Int) == 0) = false := by simp; omega
  have HS := Lib.hid hS
  have HA := Lib.hid hA
  have HN := Lib.hid g3
  clear hS hA g3
  have hfn : Fence.wide.fn 36 := trivial
  have hfi : Fence.wide.fn 38 := trivial
  refine callsIn_of_wp_marks Tryd.func15 rfl trivial ?_ rfl
  simp only [Tryd.ntmps15, List.size_toArray, List.length_cons, List.length_nil, Nat.reduceAdd, Nat.reduceSub, Array.replicate_succ, Array.replicate_zero, List.push_toArray, List.append_toArray, List.nil_append, List.cons_append]
  gi_wp2_with (first
    | (gi_at_call 38; refine (callsIn_wide.2 (is_yes _ _ HN.out)).mono ?_; rintro e w' ⟨rfl, rfl⟩)
    | (gi_at_call 36; refine (callsIn_wide.2 (falling_any _ _ _ _ _)).mono ?_; rintro e w' ⟨rfl, rfl⟩))
  have hB0 : Below w.heap.size w ((((w.alloc (.cells #[.int .i64 d, .slice A m c, .bool k, .int .i64 m0, .int .i64 m1, .int .i64 m2] 25)).alloc (.cells #[.int .i64 0] 28)).alloc (.cells #[.slice A m c] 22)).alloc (.cells #[.int .i64 9007199254740991] 3)) :=
    ((((Below.refl _ w).alloc (Nat.le_refl _) _).alloc (by simp) _).alloc (by simp; omega) _).alloc (by simp; omega) _
  have b1 := Blk.new w 25 #[.int .i64 d, .slice A m c, .bool k, .int .i64 m0, .int .i64 m1, .int .i64 m2]
  obtain ⟨w1, hw1⟩ : ∃ w1, w.alloc (.cells #[.int .i64 d, .slice A m c, .bool k, .int .i64 m0, .int .i64 m1, .int .i64 m2] 25) = w1 := ⟨_, rfl⟩
  have s1 : w1.heap.size = w.heap.size + 1 := by rw [← hw1]; simp
  rw [hw1] at hB0 b1 ⊢
  have b2 := Blk.new w1 28 #[.int .i64 0]
  have b1' := b1.kept ((Kept.refl w1).alloc (.cells #[.int .i64 0] 28))
  obtain ⟨w2, hw2⟩ : ∃ w2, w1.alloc (.cells #[.int .i64 0] 28) = w2 := ⟨_, rfl⟩
  have s2 : w2.heap.size = w.heap.size + 2 := by rw [← hw2]; simp; omega
  rw [s1] at b2
  rw [hw2] at hB0 b2 b1' ⊢
  have b3 := cell_box w2 (.slice A m c) 22
  have b2' := b2.kept ((Kept.refl w2).alloc (.cells #[.slice A m c] 22))
  have b1'' := b1'.kept ((Kept.refl w2).alloc (.cells #[.slice A m c] 22))
  obtain ⟨w3, hw3⟩ : ∃ w3, w2.alloc (.cells #[.slice A m c] 22) = w3 := ⟨_, rfl⟩
  have s3 : w3.heap.size = w.heap.size + 3 := by rw [← hw3]; simp; omega
  rw [s2] at b3
  rw [hw3] at hB0 b3 b2' b1'' ⊢
  have kk := (Kept.refl w3).alloc (.cells #[.int .i64 9007199254740991] 3)
  have b4 := Boxed.new w3 3 (.int .i64 9007199254740991)
  have bE := b2'.kept kk
  have bA := b1''.kept kk
  have bR := kk.cell b3
  have s4 : (w3.alloc (.cells #[.int .i64 9007199254740991] 3)).heap.size = w.heap.size + 4 := by simp; omega
  rw [s3] at b4
  obtain ⟨W0, hW0⟩ : ∃ W0, w3.alloc (.cells #[.int .i64 9007199254740991] 3) = W0 := ⟨_, rfl⟩
  rw [hW0] at hB0 b4 bE bA bR s4 ⊢
  clear b1 b2 b3 b1' b2' b1'' kk hw1 hw2 hw3 hW0 s1 s2 s3 w1 w2 w3
  have HSeq := Lib.hid (falling_hands (n - 1) (by omega) (w.heap.size + 2) (w.heap.size + 3) w.heap.size (w.heap.size + 2) m c 9007199254740991 A l W0 bR b4 (HS.out.kept hB0) HA.out (by omega) (by omega))
  refine range_hands rfl h1 (gf := 52) (lb := #[.pointer (some ⟨w.heap.size + 2, 0, none⟩), .pointer (some ⟨w.heap.size + 3, 0, none⟩)]) rfl trivial (enters_of Tryd.func52 (by kernel_rfl) rfl)
    HSeq.out Kpt.trans (fun W l o o' h hc => Kpt.put o' h hc) (Below.refl _ _) (fun _ => rfl)
    (fun pre W => Blk W (w.heap.size + 1) 28 #[.int .i64 0] ∧ Blk W w.heap.size 25 #[.int .i64 d, .slice A m c, .bool k, .int .i64 m0, .int .i64 m1, .int .i64 m2] ∧ (Below w.heap.size w W ∧ w.heap.size + 4 ≤ W.heap.size) ∧ AllFit pre)
    (fun c pre W => c = .ret ∧ Blk W (w.heap.size + 1) 28 #[.int .i64 2] ∧ Below w.heap.size w W ∧ Hid (¬ falls M l))
    (fun s X Y row hs hg hr => ⟨blk_own _ _ _ s X Y row hs.1 hg (fun r e => (hr r e).2), blk_own _ _ _ s X Y row hs.2.1 hg (fun r e => (hr r e).2), ⟨below_own w W0.heap.size (by omega) () X Y row hs.2.2.1.1 hg hr, Nat.le_trans hs.2.2.1.2 hg.size⟩, hs.2.2.2⟩)
    (fun s W u hs hb v => ⟨hs.1.far (p := ⟨w.heap.size + 3, 0, none⟩) (by simp) _, hs.2.1.far (p := ⟨w.heap.size + 3, 0, none⟩) (by simp) _, ⟨hs.2.2.1.1.setCell (p := ⟨w.heap.size + 3, 0, none⟩) (by simp) _, by simpa using hs.2.2.1.2⟩, hs.2.2.2⟩)
    (fun c s X Y row hs hg hr => ⟨hs.1, blk_own _ _ _ s X Y row hs.2.1 hg (fun r e => (hr r e).2), below_own w W0.heap.size (by omega) () X Y row hs.2.2.1 hg hr, hs.2.2.2⟩)
    ⟨bE, bA, ⟨hB0, by omega⟩, allFit_nil⟩
    (fun x a' W => ∃ Bx, w.heap.size + 4 ≤ Bx ∧ Two W Bx x.2 ∧ a' = { tmps := #[.agg #[.int .i64 d, .slice A m c, .bool k, .int .i64 m0, .int .i64 m1, .int .i64 m2], .pointer (some ⟨w.heap.size, 0, none⟩), .pointer (some ⟨w.heap.size + 1, 0, none⟩), .int .i64 x.1, .pointer (some ⟨Bx, 0, none⟩), undef, undef, .pointer (some ⟨w.heap.size, 1, none⟩), .slice A m c, .int .i64 m, .bool false, .bool false, .pointer (some ⟨w.heap.size, 1, none⟩), .slice A m c, .int .i64 m, .bool (decide (256 < (m : Int))), .bool (decide (256 < (m : Int))), .bool (decide (256 < (m : Int))), .pointer (some ⟨w.heap.size, 0, none⟩), .int .i64 d, .bool true, .bool false, .bool (decide (256 < (m : Int))), .pointer (some ⟨w.heap.size, 1, none⟩), .slice A m c, .func (.func 52) #[] #[.pointer (some ⟨w.heap.size + 1 + 1, 0, none⟩), .pointer (some ⟨w.heap.size + 1 + 1 + 1, 0, none⟩)], .int .i64 x.1, .agg #[.int .i64 x.2.1, .int .i64 x.2.2], undef, undef, undef, undef, undef, undef, undef, undef, undef, undef, undef, undef, undef, undef, undef, undef, undef, undef, undef, undef, undef, undef, undef, undef, undef, undef, undef, undef, undef, undef, undef, undef, undef, undef], defers := [] })
    (fun x a' _ X Y row hs hg hr => by obtain ⟨Bx, g1, g2, g3⟩ := hs; exact ⟨Bx, g1, two_own Bx x.2 () X Y row g2 hg (fun r e => (hr r e).2), g3⟩)
    ?assign ?body ?done ?stop
  case assign =>
    rintro ly pre x W K ⟨hE, hA, ⟨hB1, hs1⟩, hp⟩ hK
    simp only [enct]
    gi_wp2
    have kk := (Kept.refl W).alloc (.cells #[.int .i64 x.2.1, .int .i64 x.2.2] 36)
    exact hK _ _ ((KeepsOthers.alloc _ _).from _) (Kpt.of_below kk) ⟨hE.kept kk, hA.kept kk, ⟨hB1.alloc hB1.size _, by simp; omega⟩, hp⟩ ⟨W.heap.size, by omega, Blk.new W _ _, rfl⟩
  case body =>
    rintro ly pre x a' W ⟨hE, hA, ⟨hB1, hs1⟩, hp⟩ ⟨Bx, hBx, bX, rfl⟩ hpre
    have hc := hE.cell 0
    have hfz := hE.frozen 0
    have hx0 : W.cell? ⟨Bx, 0, none⟩ = some (.int .i64 x.2.1) := bX.cell 0
    have hx1 : W.cell? ⟨Bx, 1, none⟩ = some (.int .i64 x.2.2) := bX.cell 1
    have hE2 := Lib.hid (hE.set_ 0 (.int .i64 2))
    have hB2 := Lib.hid (hB1.setCell (p := ⟨w.heap.size + 1, 0, none⟩) (by simp) (.int .i64 2))
    have hK2 := Lib.hid (Kpt.refl w.heap.size (w.heap.size + 2) W)
    have HI : Hid (Blk W (w.heap.size + 1) 28 #[.int .i64 0] ∧ Blk W w.heap.size 25 #[.int .i64 d, .slice A m c, .bool k, .int .i64 m0, .int .i64 m1, .int .i64 m2] ∧ (Below w.heap.size w W ∧ w.heap.size + 4 ≤ W.heap.size) ∧ AllFit pre) := Lib.hid ⟨hE, hA, ⟨hB1, hs1⟩, hp⟩
    have HF : Hid (fits x → AllFit (pre ++ [x])) := Lib.hid (fun q p hp' => by rcases List.mem_append.1 hp' with h | h; exact hp p h; rw [List.mem_singleton.1 h]; exact q)
    have HG : Hid (¬ fits x → ¬ falls M l) := Lib.hid (fun q hf => q (hf x (hpre.subset (by simp))))
    have HX : Hid (fits x ↔ 0 ≤ x.2.1 ∧ x.2.1 ≤ x.2.2 ∧ x.2.2 ≤ x.1) := Lib.hid Iff.rfl
    clear hE hA hB1 hp bX hpre
    generalize hxt : x.1 = tp at *
    generalize hxa : x.2.1 = lo at *
    generalize hxb : x.2.2 = hi at *
    clear hxt hxa hxb
    gi_wp2
    all_goals first
      | exact ⟨(KeepsOthers.setCell _ _ _).from _, rfl, hE2.out, hB2.out, Lib.hid (HG.out (fun q => by have := HX.out.1 q; omega))⟩
      | exact ⟨KeepsFrom.refl _ _, hK2.out, HI.out.1, HI.out.2.1, HI.out.2.2.1, HF.out (HX.out.2 (by omega))⟩
  case done =>
    rintro D W hD ⟨hE, hA, ⟨hB1, hs1⟩, hp⟩ hK
    have a2 := hA.cell 2
    have a3 := hA.cell 3
    have a4 := hA.cell 4
    have a5 := hA.cell 5
    have e0 := hE.cell 0
    have ef := hE.frozen 0
    have HK2 := Lib.hid ((KeepsOthers.setCell W ⟨w.heap.size + 1, 0, none⟩ (.int .i64 2)).same D _ hK rfl)
    have HK0 := Lib.hid ((KeepsOthers.setCell W ⟨w.heap.size + 1, 0, none⟩ (.int .i64 0)).same D _ hK rfl)
    have H2 := Lib.hid (hE.set_ 0 (.int .i64 2))
    have H0 := Lib.hid (hE.set_ 0 (.int .i64 0))
    have HB2 := Lib.hid (hB1.setCell (p := ⟨w.heap.size + 1, 0, none⟩) (by simp) (.int .i64 2))
    have HB0 := Lib.hid (hB1.setCell (p := ⟨w.heap.size + 1, 0, none⟩) (by simp) (.int .i64 0))
    have HC := Lib.hid (show (∀ j, j < 3 → okm k (mk3 m0 m1 m2 j)) → check ⟨d, l, k, m0, m1, m2⟩ = 0 from fun h => check_ok ⟨⟨by rw [HS.out.len]; exact g1, by rw [HS.out.len]; exact g2, HN.out⟩, hp, okm_all h⟩)
    have HD := Lib.hid (show ∀ j, j < 3 → ¬ okm k (mk3 m0 m1 m2 j) → check ⟨d, l, k, m0, m1, m2⟩ = 2 from fun j hj h => check_not (fun q => h (okm_of q.2.2 hj)))
    have hDD : w.heap.size ≤ D := by omega
    clear hE hA hB1 hp hK HSeq hB0 b4 bE bA bR HS HA HN
    gi_wp2
    gi_loopw [46] (fun i wr => ∃ j : Nat, i = .int .i64 j ∧ j ≤ 3 ∧ wr = W ∧ Hid (∀ i, i < j → okm k (mk3 m0 m1 m2 i))) (fun i wr => 3 - (intOf i).toNat)
    case atStart => exact ⟨0, rfl, by omega, rfl, fun i h => by omega⟩
    case round =>
      obtain ⟨j, rfl, hj, rfl, HO⟩ := hrel
      by_cases hlt : j < 3
      · have hidx := idx3 m0 m1 m2 j hlt
        have HDj := Lib.hid (HD.out j hlt)
        have HOj : Hid (okm k (mk3 m0 m1 m2 j) → ∀ i, i < j + 1 → okm k (mk3 m0 m1 m2 i)) := Lib.hid (fun q i hi => by rcases Nat.lt_succ_iff_lt_or_eq.1 hi with h | h; exact HO.out i h; rw [h]; exact q)
        have hlt' : (j : Int) < 3 := by omega
        clear HD
        generalize mk3 m0 m1 m2 j = v at *
        by_cases hv : num v
        · have HV := Lib.hid hv
          by_cases hz0 : v = 0
          · subst hz0
            clear hv
            gi_wp2_with (gi_at_call 38; refine (callsIn_wide.2 (is_yes _ _ HV.out)).mono ?_; rintro e w' ⟨rfl, rfl⟩)
            go_roundw
            case rel => exact ⟨j + 1, rfl, by omega, by first | rfl | trivial, HOj.out ⟨HV.out, fun _ => rfl⟩⟩
            case measure => first | (simp [intOf]; done) | (simp [intOf]; omega)
          · have hz1 : (v == 0) = false := by simp [hz0]
            have HZ := Lib.hid hz0
            clear hv hz0
            cases k with
            | true =>
              gi_wp2_with (gi_at_call 38; refine (callsIn_wide.2 (is_yes _ _ HV.out)).mono ?_; rintro e w' ⟨rfl, rfl⟩)
              go_roundw
              case rel => exact ⟨j + 1, rfl, by omega, by first | rfl | trivial, HOj.out ⟨HV.out, fun h => by cases h⟩⟩
              case measure => first | (simp [intOf]; done) | (simp [intOf]; omega)
            | false =>
              gi_wp2_with (gi_at_call 38; refine (callsIn_wide.2 (is_yes _ _ HV.out)).mono ?_; rintro e w' ⟨rfl, rfl⟩)
              have hc5 := cell_kept (H2.out.cell 0) (grownBy_putObj' _ D (.deferred none)) (fun r e => by cases e; exact ⟨_, HK2.out, rfl⟩)
              refine ⟨by simp, .inl ⟨_, _, rfl, run_takeDeferred HK2.out, ?_⟩⟩
              refine ⟨.int .i64 2, ?_, by rw [HDj.out (fun q => HZ.out (q.2 rfl))], HB2.out.trans (belowK_b (w := w) (Nat.le_refl _) _ D _ _ (by omega) HK2.out rfl rfl)⟩
              simp [results, Tryd.f15, go_sem, hc5]
        · have HV := Lib.hid hv
          clear hv
          gi_wp2_with (gi_at_call 38; refine (callsIn_wide.2 (is_no _ _ HV.out)).mono ?_; rintro e w' ⟨rfl, rfl⟩)
          have hc5 := cell_kept (H2.out.cell 0) (grownBy_putObj' _ D (.deferred none)) (fun r e => by cases e; exact ⟨_, HK2.out, rfl⟩)
          refine ⟨by simp, .inl ⟨_, _, rfl, run_takeDeferred HK2.out, ?_⟩⟩
          refine ⟨.int .i64 2, ?_, by rw [HDj.out (fun q => HV.out q.1)], HB2.out.trans (belowK_b (w := w) (Nat.le_refl _) _ D _ _ (by omega) HK2.out rfl rfl)⟩
          simp [results, Tryd.f15, go_sem, hc5]
      · obtain rfl : j = 3 := by omega
        gi_wp2
        have hc5 := cell_kept (H0.out.cell 0) (grownBy_putObj' _ D (.deferred none)) (fun r e => by cases e; exact ⟨_, HK0.out, rfl⟩)
        refine ⟨by simp, .inl ⟨_, _, rfl, run_takeDeferred HK0.out, ?_⟩⟩
        refine ⟨.int .i64 0, ?_, by rw [HC.out HO.out], HB0.out.trans (belowK_b (w := w) (Nat.le_refl _) _ D _ _ (by omega) HK0.out rfl rfl)⟩
        simp [results, Tryd.f15, go_sem, hc5]
  case stop =>
    rintro D c pre W hD ⟨rfl, hE, hB1, hp⟩ hK
    have HK := Lib.hid hK
    have hc5 := cell_kept (hE.cell 0) (grownBy_putObj' _ D (.deferred none)) (fun r e => by cases e; exact ⟨_, hK, rfl⟩)
    have HB1 := Lib.hid hB1
    have HC := Lib.hid (check_not (a := ⟨d, l, k, m0, m1, m2⟩) (fun h => hp.out h.2.1))
    clear hK hB1 hp
    gi_wp2
    refine ⟨by simp, .inl ⟨_, _, rfl, run_takeDeferred HK.out, ?_⟩⟩
    refine ⟨.int .i64 2, ?_, by rw [HC.out], HB1.out.trans (belowK_b (w := w) (Nat.le_refl _) W D _ _ (by omega) HK.out rfl rfl)⟩
    simp [results, Tryd.f15, go_sem, hc5]

set_option maxRecDepth 100000 in
set_option maxHeartbeats 2000000 in
theorem check_head (n : Nat) (hn : 3 ≤ n) (A : Option Addr) (m c : Nat) (d m0 m1 m2 : Int) (k : Bool) (w : World) (hm : m ≤ maxLen) (hh : ¬ headOk m d) :
    CallsIn Fence.wide n Tryd.prog 15 #[.agg #[.int .i64 d, .slice A m c, .bool k, .int .i64 m0, .int .i64 m1, .int .i64 m2]] w fun e w' => e = .returned (.int .i64 2) ∧ Below w.heap.size w w' := by
  unfold maxLen at hm
  have h1n : 1 ≤ n := by omega
  have hB : Hid (Below w.heap.size w ((w.alloc (.cells #[.int .i64 d, .slice A m c, .bool k, .int .i64 m0, .int .i64 m1, .int .i64 m2] 25)).alloc (.cells #[.int .i64 2] 28))) :=
    Lib.hid ((((Below.refl _ w).alloc (Nat.le_refl _) _).alloc (by simp) _))
  have hcell := cell_box2 w (.cells #[.int .i64 d, .slice A m c, .bool k, .int .i64 m0, .int .i64 m1, .int .i64 m2] 25) (.int .i64 2) 28
  have hfi : Fence.wide.fn 38 := trivial
  by_cases h0 : m = 0
  · subst h0
    clear hh hm
    refine callsIn_of_wp_marks Tryd.func15 rfl trivial ?_ rfl
    simp only [Tryd.ntmps15, List.size_toArray, List.length_cons, List.length_nil, Nat.reduceAdd, Nat.reduceSub, Array.replicate_succ, Array.replicate_zero, List.push_toArray, List.append_toArray, List.nil_append, List.cons_append]
    gi_wp2
    refine ⟨.int .i64 2, ?_, rfl, hB.out⟩
    simp [results, Tryd.f15, go_sem, hcell]
  · have hz : ((m : Int) == 0) = false := by simp; omega
    by_cases h1 : 256 < m
    · have h1' : decide ((256 : Int) < (m : Int)) = true := decide_eq_true (by omega)
      clear hh h0 h1
      refine callsIn_of_wp_marks Tryd.func15 rfl trivial ?_ rfl
      simp only [Tryd.ntmps15, List.size_toArray, List.length_cons, List.length_nil, Nat.reduceAdd, Nat.reduceSub, Array.replicate_succ, Array.replicate_zero, List.push_toArray, List.append_toArray, List.nil_append, List.cons_append]
      gi_wp2
      refine ⟨.int .i64 2, ?_, rfl, hB.out⟩
      simp [results, Tryd.f15, go_sem, hcell]
    · have HD := Lib.hid (show ¬ num d from fun h => hh ⟨by omega, by omega, h⟩)
      have h1' : (m : Int) ≤ 256 := by omega
      clear hh h0
      refine callsIn_of_wp_marks Tryd.func15 rfl trivial ?_ rfl
      simp only [Tryd.ntmps15, List.size_toArray, List.length_cons, List.length_nil, Nat.reduceAdd, Nat.reduceSub, Array.replicate_succ, Array.replicate_zero, List.push_toArray, List.append_toArray, List.nil_append, List.cons_append]
      gi_wp2_with (gi_at_call 38; refine (callsIn_wide.2 (is_no _ _ HD.out)).mono ?_; rintro e w' ⟨rfl, rfl⟩)
      refine ⟨.int .i64 2, ?_, rfl, hB.out⟩
      simp [results, Tryd.f15, go_sem, hcell]

/-- Check, of all ACKs. -/
theorem check_any (A : Option Addr) (m c : Nat) (a : Ack) (w : World) (hS : Rgs w A m c a.ranges) (hA : ∀ b, own A = some b → b < w.heap.size) :
    Calls Tryd.prog 15 #[ackV A m c a] w fun e w' => e = .returned (.int .i64 (check a)) ∧ Kept w w' := by
  by_cases hh : headOk m a.delay
  · exact callsIn_wide.1 (check_falls 3 (Nat.le_refl _) A m c a.ranges a.delay a.m0 a.m1 a.m2 a.marked w hS hA hh)
  · have hc : check a = 2 := check_not (fun h => hh ⟨by rw [← hS.len]; exact h.1.1, by rw [← hS.len]; exact h.1.2.1, h.1.2.2⟩)
    rw [hc]
    exact callsIn_wide.1 (check_head 3 (Nat.le_refl _) A m c a.delay a.m0 a.m1 a.m2 a.marked w (Nat.le_trans hS.cap hS.most) hh)

end Go.Proofs.YtganelhlpobdjaaDoor.Frm
