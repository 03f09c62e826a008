/-
  Contract of Add, where what is added may be.
-/
import Derived.Test.YtabchdolafplnaaSpnL
import Derived.BigRegion
namespace Go.Proofs.Ytabchdolafplnaa.Spn
open Go.RowKit SpnM Wd
set_option linter.unusedVariables false
set_option linter.unusedSimpArgs false

/-- The new row is laid into the set's struct. -/
theorem did_store {w W5 w' : World} {p c room n' c' : Nat} {A A' : Option Addr} {l l' : List R} (h : SetAt W5 p A c room l) (hk : Kept w W5) (hrow : Row w' A' n' c' l') (hbut : But (fun k => own A = some k) W5 w')
    (hfr : ∀ k, own A' = some k → own A = some k ∨ W5.heap.size ≤ k) (hg : Rises l') (hfit : l'.length ≤ room) : Did p A room l' 0 w (.returned (.int .i64 0)) (w'.setCell ⟨p, 1, none⟩ (.slice A' n' c')) := by
  obtain rfl := hrow.len
  have hb : Blk w' p 65 #[.int .i64 room, .slice A l.length c] := h.blk.but hbut h.ne
  have hne : own A' ≠ some p := fun e => by
    rcases hfr p e with h1 | h1
    · exact h.ne h1
    · have := h.lt; omega
  refine ⟨rfl, A', c', ⟨by have := hb.set_ 1 (.slice A' l'.length c'); simpa using this, hrow.same_ fun k e => ?_, hg, h.room1, hfit⟩, ?_, fun k e => ?_⟩
  · exact Below.heap_setCell _ _ _ _ (fun e' => hne (by rw [e]; simpa using e'))
  · have h1 : But (Foot p A) w w' := (hk.but _).trans hbut (fun i _ e => .inr e)
    exact h1.setCell (.inl rfl) _
  · rcases hfr k e with h1 | h1
    · exact .inl h1
    · exact .inr (Nat.le_trans hk.size h1)

set_option maxHeartbeats 2000000 in
set_option maxRecDepth 100000 in
theorem add_full_any (p c room : Nat) (A : Option Addr) (l : List R) (lo hi : Int) (w : World) (h : SetAt w p A c room l) (hok : num lo ∧ num hi ∧ lo ≤ hi) (hb : from_ l lo = to_ l hi ∧ l.length = room) :
    Calls Try.prog 12 #[.pointer (some ⟨p, 0, none⟩), .int .i64 lo, .int .i64 hi] w (Did p A room l 5 w) := by
  obtain ⟨hlo, hhi, hle⟩ := hok
  have hplt := h.lt
  obtain ⟨W, hW⟩ : ∃ W, (w.alloc (.cells #[.int .i64 lo] 3)).alloc (.cells #[.int .i64 hi] 3) = W := ⟨_, rfl⟩
  have hk : Kept w W := by rw [← hW]; exact ((Kept.refl w).alloc _).alloc _
  have c1 : W.cell? ⟨w.heap.size, 0, none⟩ = some (.int .i64 lo) := by rw [← hW]; exact ((Kept.refl _).alloc _).cell (cell_box w _ _)
  have c2 : W.cell? ⟨w.heap.size + 1, 0, none⟩ = some (.int .i64 hi) := by rw [← hW]; exact cell_box2 w _ _ _
  have ha := absent_set p c room A l W (h.kept hk)
  have hn1 := isNumber_any lo W
  have hn2 := isNumber_any hi W
  rw [numB_true hlo] at hn1
  rw [numB_true hhi] at hn2
  have hf1 : Calls Try.prog 35 #[.pointer (some ⟨p, 0, none⟩), .func (.func 36) #[] #[.pointer (some ⟨w.heap.size, 0, none⟩)]] W (GInt (from_ l lo : Nat) W) :=
    first_any 36 w.heap.size p c room (fun r => decide (lo - 1 ≤ r.2)) A l W (enters_of Try.func36 (by kernel_rfl) rfl) (h.kept hk) (tells_add1 w.heap.size lo W hlo c1)
      (fun i h1 h2 => by have := from_ge h.good h1 h2; exact decide_eq_true this)
  have hf2 : ∀ W1, Kept W W1 → Calls Try.prog 35 #[.pointer (some ⟨p, 0, none⟩), .func (.func 37) #[] #[.pointer (some ⟨w.heap.size + 1, 0, none⟩)]] W1 (GInt (to_ l hi : Nat) W1) := fun W1 k1 =>
    first_any 37 (w.heap.size + 1) p c room (fun r => decide (hi + 1 < r.1)) A l W1 (enters_of Try.func37 (by kernel_rfl) rfl) ((h.kept hk).kept k1) (tells_add2 (w.heap.size + 1) hi W1 hhi (k1.cell c2))
      (fun i h1 h2 => by have := to_ge h.good h1 h2; exact decide_eq_true this)
  have H := Lib.hid h
  have HK := Lib.hid hk
  have HW := Lib.hid hW
  have HF2 := Lib.hid hf2
  have C1 := Lib.hid c1
  have C2 := Lib.hid c2
  have hft := Lib.hid (from_le_to h.good hle)
  have hfit := h.fits
  have hroom := h.room1
  have hlz : ¬ (hi < lo) := by omega
  have HLO := Lib.hid hlo
  have HHI := Lib.hid hhi
  have HLE := Lib.hid hle
  have HBB := Lib.hid hb
  clear hW hk h hf2 hlo hhi hle hb
  go_enter Try.func12, Try.ntmps12
  go_wp2_with fail
  rw [HW.out]
  go_wp2_with (first
    | (go_at_call 33; refine ha.mono ?_; rintro e w' ⟨rfl, rfl⟩)
    | (go_at_call 34; (first | ((with_reducible refine hn1.mono ?_); rintro e w' ⟨rfl, rfl⟩) | ((with_reducible refine hn2.mono ?_); rintro e w' ⟨rfl, rfl⟩)))
    | (go_at_call 35; (first | ((with_reducible refine hf1.mono ?_); rintro e W1 ⟨rfl, k1⟩; have K1 := Lib.hid k1; clear k1) | ((with_reducible refine (HF2.out _ K1.out).mono ?_); rintro e W2 ⟨rfl, k2⟩; have K2 := Lib.hid (K1.out.trans k2); clear k2))))
  have S2 : Hid (SetAt W2 p A c room l) := (H.out.kept HK.out).kept K2.out
  have KW2 : Hid (Kept w W2) := HK.out.trans K2.out
  have d0 := S2.out.room_
  have d1 := S2.out.list_
  have e1 := K2.out.cell C1.out
  have e2 := K2.out.cell C2.out
  have hlt2 : p < W2.heap.size := S2.out.lt
  have hlt3 : w.heap.size < W2.heap.size := World.block_lt_of_cell? _ _ e1
  have hlt4 : w.heap.size + 1 < W2.heap.size := World.block_lt_of_cell? _ _ e2
  clear ha hn1 hn2 hf1 c1 c2 HF2 C1 C2 HW K1 K2
  obtain ⟨hb1, hb2⟩ := HBB.out
  rw [hb1]
  rw [hb2] at d1
  generalize to_ l hi = f at *
  clear hft hb1 hb2
  have hz : ((f : Int) == (f : Int)) = true := by simp
  have hz2 : ((room : Int) == (room : Int)) = true := by simp
  go_wp2_with fail
  go_quiet (fail)
  go_wp2
  go_ret
  exact did_same H.out (KW2.out.drewN _)

set_option maxHeartbeats 4000000 in
set_option maxRecDepth 100000 in
theorem add_new_any (p c room : Nat) (A : Option Addr) (l : List R) (lo hi : Int) (w : World) (h : SetAt w p A c room l) (hok : num lo ∧ num hi ∧ lo ≤ hi) (hb : from_ l lo = to_ l hi ∧ l.length < room) :
    Calls Try.prog 12 #[.pointer (some ⟨p, 0, none⟩), .int .i64 lo, .int .i64 hi] w (Did p A room (add l lo hi) 0 w) := by
  obtain ⟨hlo, hhi, hle⟩ := hok
  have hplt := h.lt
  obtain ⟨W, hW⟩ : ∃ W, (w.alloc (.cells #[.int .i64 lo] 3)).alloc (.cells #[.int .i64 hi] 3) = W := ⟨_, rfl⟩
  have hk : Kept w W := by rw [← hW]; exact ((Kept.refl w).alloc _).alloc _
  have c1 : W.cell? ⟨w.heap.size, 0, none⟩ = some (.int .i64 lo) := by rw [← hW]; exact ((Kept.refl _).alloc _).cell (cell_box w _ _)
  have c2 : W.cell? ⟨w.heap.size + 1, 0, none⟩ = some (.int .i64 hi) := by rw [← hW]; exact cell_box2 w _ _ _
  have ha := absent_set p c room A l W (h.kept hk)
  have hn1 := isNumber_any lo W
  have hn2 := isNumber_any hi W
  rw [numB_true hlo] at hn1
  rw [numB_true hhi] at hn2
  have hf1 : Calls Try.prog 35 #[.pointer (some ⟨p, 0, none⟩), .func (.func 36) #[] #[.pointer (some ⟨w.heap.size, 0, none⟩)]] W (GInt (from_ l lo : Nat) W) :=
    first_any 36 w.heap.size p c room (fun r => decide (lo - 1 ≤ r.2)) A l W (enters_of Try.func36 (by kernel_rfl) rfl) (h.kept hk) (tells_add1 w.heap.size lo W hlo c1)
      (fun i h1 h2 => by have := from_ge h.good h1 h2; exact decide_eq_true this)
  have hf2 : ∀ W1, Kept W W1 → Calls Try.prog 35 #[.pointer (some ⟨p, 0, none⟩), .func (.func 37) #[] #[.pointer (some ⟨w.heap.size + 1, 0, none⟩)]] W1 (GInt (to_ l hi : Nat) W1) := fun W1 k1 =>
    first_any 37 (w.heap.size + 1) p c room (fun r => decide (hi + 1 < r.1)) A l W1 (enters_of Try.func37 (by kernel_rfl) rfl) ((h.kept hk).kept k1) (tells_add2 (w.heap.size + 1) hi W1 hhi (k1.cell c2))
      (fun i h1 h2 => by have := to_ge h.good h1 h2; exact decide_eq_true this)
  have H := Lib.hid h
  have HK := Lib.hid hk
  have HW := Lib.hid hW
  have HF2 := Lib.hid hf2
  have C1 := Lib.hid c1
  have C2 := Lib.hid c2
  have hft := Lib.hid (from_le_to h.good hle)
  have hfit := h.fits
  have hroom := h.room1
  have hlz : ¬ (hi < lo) := by omega
  have HLO := Lib.hid hlo
  have HHI := Lib.hid hhi
  have HLE := Lib.hid hle
  have HBB := Lib.hid hb
  clear hW hk h hf2 hlo hhi hle hb
  go_enter Try.func12, Try.ntmps12
  go_wp2_with fail
  rw [HW.out]
  go_wp2_with (first
    | (go_at_call 33; refine ha.mono ?_; rintro e w' ⟨rfl, rfl⟩)
    | (go_at_call 34; (first | ((with_reducible refine hn1.mono ?_); rintro e w' ⟨rfl, rfl⟩) | ((with_reducible refine hn2.mono ?_); rintro e w' ⟨rfl, rfl⟩)))
    | (go_at_call 35; (first | ((with_reducible refine hf1.mono ?_); rintro e W1 ⟨rfl, k1⟩; have K1 := Lib.hid k1; clear k1) | ((with_reducible refine (HF2.out _ K1.out).mono ?_); rintro e W2 ⟨rfl, k2⟩; have K2 := Lib.hid (K1.out.trans k2); clear k2))))
  have S2 : Hid (SetAt W2 p A c room l) := (H.out.kept HK.out).kept K2.out
  have KW2 : Hid (Kept w W2) := HK.out.trans K2.out
  have d0 := S2.out.room_
  have d1 := S2.out.list_
  have e1 := K2.out.cell C1.out
  have e2 := K2.out.cell C2.out
  have hlt2 : p < W2.heap.size := S2.out.lt
  have hlt3 : w.heap.size < W2.heap.size := World.block_lt_of_cell? _ _ e1
  have hlt4 : w.heap.size + 1 < W2.heap.size := World.block_lt_of_cell? _ _ e2
  clear ha hn1 hn2 hf1 c1 c2 HF2 C1 C2 HW K1 K2
  obtain ⟨hb1, hb2⟩ := HBB.out
  have htl := to_le l hi
  have HA : Hid (add l lo hi = l.take (to_ l hi) ++ (lo, hi) :: l.drop (to_ l hi)) := by show _ = _; unfold add whole; rw [if_neg (by omega), hb1]
  have HG := Lib.hid (add_good S2.out.good HLO.out.1 HLE.out HHI.out.2)
  rw [hb1]
  have HB1 := Lib.hid hb1
  clear hb1
  generalize hf : to_ l hi = f at *
  have HTo := Lib.hid hf
  clear hf
  have hz : ((f : Int) == (f : Int)) = true := by simp
  have hz2 : (((l.length : Nat) : Int) == (room : Int)) = false := by simp only [beq_eq_false_iff_ne]; omega
  go_wp2_with fail
  go_quiet (fail)
  have S3 : Hid (SetAt (W2.drewN nq) p A c room l) := S2.out.kept ((Kept.refl W2).drewN nq)
  have KW3 : Hid (Kept w (W2.drewN nq)) := KW2.out.drewN nq
  have d1' : (W2.drewN nq).cell? ⟨p, 1, none⟩ = some (.slice A l.length c) := d1
  have e1' : (W2.drewN nq).cell? ⟨w.heap.size, 0, none⟩ = some (.int .i64 lo) := e1
  have e2' : (W2.drewN nq).cell? ⟨w.heap.size + 1, 0, none⟩ = some (.int .i64 hi) := e2
  have hlt2' : p < (W2.drewN nq).heap.size := hlt2
  have hlt3' : w.heap.size < (W2.drewN nq).heap.size := hlt3
  have hlt4' : w.heap.size + 1 < (W2.drewN nq).heap.size := hlt4
  clear S2 KW2 d0 d1 e1 e2 hlt2 hlt3 hlt4
  generalize W2.drewN nq = W3 at *
  go_wp2_with fail
  have q0 : (W3.alloc (.cells #[.int .i64 lo, .int .i64 hi] 57)).cell? ⟨W3.heap.size, 0, none⟩ = some (.int .i64 lo) := (Blk.new W3 _ _).cell 0
  have q1 : (W3.alloc (.cells #[.int .i64 lo, .int .i64 hi] 57)).cell? ⟨W3.heap.size, 1, none⟩ = some (.int .i64 hi) := (Blk.new W3 _ _).cell 1
  have S4 : Hid (SetAt (W3.alloc (.cells #[.int .i64 lo, .int .i64 hi] 57)) p A c room l) := S3.out.kept ((Kept.refl W3).alloc _)
  have KW4 : Hid (Kept w (W3.alloc (.cells #[.int .i64 lo, .int .i64 hi] 57))) := KW3.out.alloc _
  have hg4 : W3.heap.size < (W3.alloc (.cells #[.int .i64 lo, .int .i64 hi] 57)).heap.size := by simp
  have ho4 : Hid (own A ≠ some W3.heap.size) := fun e => by have := S3.out.row.lt _ e; omega
  clear S3 KW3 d1' e1' e2' hlt2' hlt3' hlt4' hz2
  generalize hgw : W3.heap.size = gw at *
  clear hgw
  generalize W3.alloc (.cells #[.int .i64 lo, .int .i64 hi] 57) = W4 at *
  have S5 : Hid (SetAt (W4.drew.alloc (.cells #[.int .i64 lo, .int .i64 hi] 57)) p A c room l) := S4.out.kept (((Kept.refl W4).drew).alloc _)
  have K5 : Hid (Kept w (W4.drew.alloc (.cells #[.int .i64 lo, .int .i64 hi] 57))) := KW4.out.drew.alloc _
  have KK5 : Hid (Kept W4 (W4.drew.alloc (.cells #[.int .i64 lo, .int .i64 hi] 57))) := ((Kept.refl W4).drew).alloc _
  have hrep := Lib.hid (replace_any A l.length c W4.heap.size f f l (lo, hi) (W4.drew.alloc (.cells #[.int .i64 lo, .int .i64 hi] 57)) S5.out.row (Blk.new W4.drew _ _) (fun e => by have := S4.out.row.lt _ e; omega) (by omega) (by omega) htl)
  have d4 := S4.out.list_
  have hlt4 : p < W4.heap.size := S4.out.lt
  have hpg : Hid (own A ≠ some p) := S4.out.ne
  go_region_with (go_at_call 38; refine hrep.out.mono ?_; rintro e w6 ⟨A', c', rfl, hrow, hbut, hfr⟩; have RW := Lib.hid hrow; have BT := Lib.hid hbut; have FR := Lib.hid hfr; clear hrow hbut hfr; have z1 := But.cell BT.out hpg.out (KK5.out.cell d4); have zf := (S5.out.blk.but BT.out hpg.out).frozen 1)
  all_goals
    go_wp2
    go_ret
    exact did_store S5.out K5.out (by rw [HA.out]; exact RW.out) BT.out FR.out HG.out (by rw [add_length, HB1.out, HTo.out]; omega)

end Go.Proofs.Ytabchdolafplnaa.Spn

