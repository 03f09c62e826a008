/-
  Contracts of New, Add.
-/
import Derived.Test.YtilkgjpgoogiiaaGreatSpnabJ48a
import Derived.Test.YtilkgjpgoogiiaaGreatSpnabJ12a
import Derived.BigRegion
set_option maxRecDepth 100000
set_option maxHeartbeats 16000000
set_option linter.unusedVariables false
set_option linter.unusedSimpArgs false
namespace Go.Proofs.YtilkgjpgoogiiaaGreat.Spn
open Go.RowKit SpnM Wd
theorem new_bad (room : Int) (w : World) (h : room < 1 ∨ 256 < room) : Calls Tryz.prog 85 #[.int .i64 room] w fun e w' => e = .returned (.tuple #[.pointer none, .int .i64 2]) ∧ w = w' := by
  by_cases h1 : room < 1
  · clear h
    go_enter Tryz.func85, Tryz.ntmps85
    go_wp2
    go_ret2
    exact ⟨rfl, rfl⟩
  · have h2 : 256 < room := by omega
    clear h
    go_enter Tryz.func85, Tryz.ntmps85
    go_wp2
    go_ret2
    exact ⟨rfl, rfl⟩
def News (room : Nat) (w : World) (e : Ending) (w' : World) : Prop := ∃ p, e = .returned (.tuple #[.pointer (some ⟨p, 0, none⟩), .int .i64 0]) ∧ SetAt w' p none 0 room [] ∧ w.heap.size ≤ p ∧ Kept w w'
theorem new_good (room : Nat) (w : World) (h1 : 1 ≤ room) (h2 : room ≤ 256) : Calls Tryz.prog 85 #[.int .i64 room] w (News room w) := by
  have h3 : (1 : Int) ≤ (room : Int) := by omega
  have h4 : (room : Int) ≤ 256 := by omega
  go_enter Tryz.func85, Tryz.ntmps85
  go_wp2
  go_ret2
  exact ⟨w.heap.size, rfl, ⟨Blk.new _ _ _, Row.nil _, good_nil, ⟨h1, h2⟩, Nat.zero_le _⟩, Nat.le_refl _, (Kept.refl w).alloc _⟩
theorem SetAt.ne {w : World} {A : Option Addr} {p c room : Nat} {l : List R} (h : SetAt w p A c room l) : own A ≠ some p := by
  intro e
  rcases h.row.form with ⟨rfl, _⟩ | ⟨g, cur, rfl, hb, _⟩
  · cases e
  · have : g = p := by simpa [own] using e
    subst this
    exact hb.ne_ h.blk (by decide) rfl
def Did (p : Nat) (A : Option Addr) (room : Nat) (l' : List R) (n : Int) (w : World) (e : Ending) (w' : World) : Prop :=
  e = .returned (.int .i64 n) ∧ ∃ A' c', SetAt w' p A' c' room l' ∧ But (Foot p A) w w' ∧ ∀ k, own A' = some k → own A = some k ∨ w.heap.size ≤ k
theorem did_same {p c room : Nat} {A : Option Addr} {l : List R} {n : Int} {w w' : World} (h : SetAt w p A c room l) (hk : Kept w w') : Did p A room l n w (.returned (.int .i64 n)) w' :=
  ⟨rfl, A, c, h.kept hk, hk.but _, fun k e => .inl e⟩
theorem addErr_arg {room : Int} {l : List R} {lo hi : Int} (h : ¬ (num lo ∧ num hi ∧ lo ≤ hi)) : addErr room l lo hi = 2 ∧ addTo room l lo hi = l := by
  have h1 : addErr room l lo hi = 2 := by unfold addErr; rw [if_neg h]
  exact ⟨h1, by unfold addTo; rw [h1]; rfl⟩
theorem addErr_full {room : Int} {l : List R} {lo hi : Int} (h : num lo ∧ num hi ∧ lo ≤ hi) (h2 : room < (add l lo hi).length) : addErr room l lo hi = 5 ∧ addTo room l lo hi = l := by
  have h1 : addErr room l lo hi = 5 := by unfold addErr; rw [if_pos h, if_pos h2]
  exact ⟨h1, by unfold addTo; rw [h1]; rfl⟩
theorem addErr_ok {room : Int} {l : List R} {lo hi : Int} (h : num lo ∧ num hi ∧ lo ≤ hi) (h2 : ¬ room < (add l lo hi).length) : addErr room l lo hi = 0 ∧ addTo room l lo hi = add l lo hi := by
  have h1 : addErr room l lo hi = 0 := by unfold addErr; rw [if_pos h, if_neg h2]
  exact ⟨h1, by unfold addTo; rw [if_pos h1]⟩
theorem add_arg (p c room : Nat) (A : Option Addr) (l : List R) (lo hi : Int) (w : World) (h : SetAt w p A c room l) (hb : ¬ (num lo ∧ num hi ∧ lo ≤ hi)) :
    Calls Tryz.prog 97 #[.pointer (some ⟨p, 0, none⟩), .int .i64 lo, .int .i64 hi] w (Did p A room l 2 w) := by
  have hplt := h.lt
  obtain ⟨W, hW⟩ : ∃ W, (w.alloc (.cells #[.int .i64 lo] 3)).alloc (.cells #[.int .i64 hi] 3) = W := ⟨_, rfl⟩
  have hk : Kept w W := by rw [← hW]; exact ((Kept.refl w).alloc _).alloc _
  have c1 : W.cell? ⟨w.heap.size, 0, none⟩ = some (.int .i64 lo) := by rw [← hW]; exact ((Kept.refl _).alloc _).cell (cell_box w _ _)
  have c2 : W.cell? ⟨w.heap.size + 1, 0, none⟩ = some (.int .i64 hi) := by rw [← hW]; exact cell_box2 w _ _ _
  have ha := absent_set p c room A l W (h.kept hk)
  have hn1 := isNumber_any lo W
  have hn2 := isNumber_any hi W
  have H := Lib.hid h
  have HK := Lib.hid hk
  have HW := Lib.hid hW
  clear hW hk h
  by_cases h1 : num lo
  · rw [numB_true h1] at hn1
    by_cases h2 : num hi
    · rw [numB_true h2] at hn2
      have hlt : hi < lo := by rcases Int.lt_or_le hi lo with h3 | h3; exact h3; exact absurd ⟨h1, h2, h3⟩ hb
      clear hb h1 h2
      go_enter Tryz.func97, Tryz.ntmps97
      go_wp2_with fail
      rw [HW.out]
      go_wp2_with (first
        | (go_at_call 123; refine ha.mono ?_; rintro e w' ⟨rfl, rfl⟩)
        | (go_at_call 124; (first | ((with_reducible refine hn1.mono ?_); rintro e w' ⟨rfl, rfl⟩) | ((with_reducible refine hn2.mono ?_); rintro e w' ⟨rfl, rfl⟩))))
      go_ret
      exact did_same H.out HK.out
    · rw [numB_false h2] at hn2
      clear hb h1 h2
      go_enter Tryz.func97, Tryz.ntmps97
      go_wp2_with fail
      rw [HW.out]
      go_wp2_with (first
        | (go_at_call 123; refine ha.mono ?_; rintro e w' ⟨rfl, rfl⟩)
        | (go_at_call 124; (first | ((with_reducible refine hn1.mono ?_); rintro e w' ⟨rfl, rfl⟩) | ((with_reducible refine hn2.mono ?_); rintro e w' ⟨rfl, rfl⟩))))
      go_ret
      exact did_same H.out HK.out
  · rw [numB_false h1] at hn1
    clear hb h1
    go_enter Tryz.func97, Tryz.ntmps97
    go_wp2_with fail
    rw [HW.out]
    go_wp2_with (first
      | (go_at_call 123; refine ha.mono ?_; rintro e w' ⟨rfl, rfl⟩)
      | (go_at_call 124; ((with_reducible refine hn1.mono ?_); rintro e w' ⟨rfl, rfl⟩)))
    go_ret
    exact did_same H.out HK.out
end Go.Proofs.YtilkgjpgoogiiaaGreat.Spn
/-
  Contract of Add, where what is added may be.
-/
namespace Go.Proofs.YtilkgjpgoogiiaaGreat.Spn
open Go.RowKit SpnM Wd
theorem did_store {w W5 w' : World} {p c room n' c' : Nat} {A A' : Option Addr} {l l' : List R} (h : SetAt W5 p A c room l) (hk : Kept w W5) (hrow : Row w' A' n' c' l') (hbut : But (fun k => own A = some k) W5 w')
    (hfr : ∀ k, own A' = some k → own A = some k ∨ W5.heap.size ≤ k) (hg : Rises l') (hfit : l'.length ≤ room) : Did p A room l' 0 w (.returned (.int .i64 0)) (w'.setCell ⟨p, 1, none⟩ (.slice A' n' c')) := by
  obtain rfl := hrow.len
  have hb : Blk w' p 155 #[.int .i64 room, .slice A l.length c] := h.blk.but hbut h.ne
  have hne : own A' ≠ some p := fun e => by
    rcases hfr p e with h1 | h1
    · exact h.ne h1
    · have := h.lt; omega
  refine ⟨rfl, A', c', ⟨by have := hb.set_ 1 (.slice A' l'.length c'); simpa using this, hrow.same_ fun k e => ?_, hg, h.room1, hfit⟩, ?_, fun k e => ?_⟩
  · exact Below.heap_setCell _ _ _ _ (fun e' => hne (by rw [e]; simpa using e'))
  · have h1 : But (Foot p A) w w' := (hk.but _).trans hbut (fun i _ e => .inr e)
    exact h1.setCell (.inl rfl) _
  · rcases hfr k e with h1 | h1
    · exact .inl h1
    · exact .inr (Nat.le_trans hk.size h1)
theorem add_full_any (p c room : Nat) (A : Option Addr) (l : List R) (lo hi : Int) (w : World) (h : SetAt w p A c room l) (hok : num lo ∧ num hi ∧ lo ≤ hi) (hb : from_ l lo = to_ l hi ∧ l.length = room) :
    Calls Tryz.prog 97 #[.pointer (some ⟨p, 0, none⟩), .int .i64 lo, .int .i64 hi] w (Did p A room l 5 w) := by
  obtain ⟨hlo, hhi, hle⟩ := hok
  have hplt := h.lt
  obtain ⟨W, hW⟩ : ∃ W, (w.alloc (.cells #[.int .i64 lo] 3)).alloc (.cells #[.int .i64 hi] 3) = W := ⟨_, rfl⟩
  have hk : Kept w W := by rw [← hW]; exact ((Kept.refl w).alloc _).alloc _
  have c1 : W.cell? ⟨w.heap.size, 0, none⟩ = some (.int .i64 lo) := by rw [← hW]; exact ((Kept.refl _).alloc _).cell (cell_box w _ _)
  have c2 : W.cell? ⟨w.heap.size + 1, 0, none⟩ = some (.int .i64 hi) := by rw [← hW]; exact cell_box2 w _ _ _
  have ha := absent_set p c room A l W (h.kept hk)
  have hn1 := isNumber_any lo W
  have hn2 := isNumber_any hi W
  rw [numB_true hlo] at hn1
  rw [numB_true hhi] at hn2
  have hf1 : Calls Tryz.prog 128 #[.pointer (some ⟨p, 0, none⟩), .func (.func 131) #[] #[.pointer (some ⟨w.heap.size, 0, none⟩)]] W (GInt (from_ l lo : Nat) W) :=
    first_any 131 w.heap.size p c room (fun r => decide (lo - 1 ≤ r.2)) A l W (enters_of Tryz.func131 (by kernel_rfl) rfl) (h.kept hk) (tells_add1 w.heap.size lo W hlo c1)
      (fun i h1 h2 => by have := from_ge h.good h1 h2; exact decide_eq_true this)
  have hf2 : ∀ W1, Kept W W1 → Calls Tryz.prog 128 #[.pointer (some ⟨p, 0, none⟩), .func (.func 132) #[] #[.pointer (some ⟨w.heap.size + 1, 0, none⟩)]] W1 (GInt (to_ l hi : Nat) W1) := fun W1 k1 =>
    first_any 132 (w.heap.size + 1) p c room (fun r => decide (hi + 1 < r.1)) A l W1 (enters_of Tryz.func132 (by kernel_rfl) rfl) ((h.kept hk).kept k1) (tells_add2 (w.heap.size + 1) hi W1 hhi (k1.cell c2))
      (fun i h1 h2 => by have := to_ge h.good h1 h2; exact decide_eq_true this)
  have H := Lib.hid h
  have HK := Lib.hid hk
  have HW := Lib.hid hW
  have HF2 := Lib.hid hf2
  have C1 := Lib.hid c1
  have C2 := Lib.hid c2
  have hft := Lib.hid (from_le_to h.good hle)
  have hfit := h.fits
  have hroom := h.room1
  have hlz : ¬ (hi < lo) := by omega
  have HLO := Lib.hid hlo
  have HHI := Lib.hid hhi
  have HLE := Lib.hid hle
  have HBB := Lib.hid hb
  clear hW hk h hf2 hlo hhi hle hb
  go_enter Tryz.func97, Tryz.ntmps97
  go_wp2_with fail
  rw [HW.out]
  go_wp2_with (first
    | (go_at_call 123; refine ha.mono ?_; rintro e w' ⟨rfl, rfl⟩)
    | (go_at_call 124; (first | ((with_reducible refine hn1.mono ?_); rintro e w' ⟨rfl, rfl⟩) | ((with_reducible refine hn2.mono ?_); rintro e w' ⟨rfl, rfl⟩)))
    | (go_at_call 128; (first | ((with_reducible refine hf1.mono ?_); rintro e W1 ⟨rfl, k1⟩; have K1 := Lib.hid k1; clear k1) | ((with_reducible refine (HF2.out _ K1.out).mono ?_); rintro e W2 ⟨rfl, k2⟩; have K2 := Lib.hid (K1.out.trans k2); clear k2))))
  have S2 : Hid (SetAt W2 p A c room l) := (H.out.kept HK.out).kept K2.out
  have KW2 : Hid (Kept w W2) := HK.out.trans K2.out
  have d0 := S2.out.room_
  have d1 := S2.out.list_
  have e1 := K2.out.cell C1.out
  have e2 := K2.out.cell C2.out
  have hlt2 : p < W2.heap.size := S2.out.lt
  have hlt3 : w.heap.size < W2.heap.size := World.block_lt_of_cell? _ _ e1
  have hlt4 : w.heap.size + 1 < W2.heap.size := World.block_lt_of_cell? _ _ e2
  clear ha hn1 hn2 hf1 c1 c2 HF2 C1 C2 HW K1 K2
  obtain ⟨hb1, hb2⟩ := HBB.out
  rw [hb1]
  rw [hb2] at d1
  generalize to_ l hi = f at *
  clear hft hb1 hb2
  have hz : ((f : Int) == (f : Int)) = true := by simp
  have hz2 : ((room : Int) == (room : Int)) = true := by simp
  go_wp2_with fail
  go_quiet (fail)
  go_wp2
  go_ret
  exact did_same H.out (KW2.out.drewN _)
theorem add_new_any (p c room : Nat) (A : Option Addr) (l : List R) (lo hi : Int) (w : World) (h : SetAt w p A c room l) (hok : num lo ∧ num hi ∧ lo ≤ hi) (hb : from_ l lo = to_ l hi ∧ l.length < room) :
    Calls Tryz.prog 97 #[.pointer (some ⟨p, 0, none⟩), .int .i64 lo, .int .i64 hi] w (Did p A room (add l lo hi) 0 w) := by
  obtain ⟨hlo, hhi, hle⟩ := hok
  have hplt := h.lt
  obtain ⟨W, hW⟩ : ∃ W, (w.alloc (.cells #[.int .i64 lo] 3)).alloc (.cells #[.int .i64 hi] 3) = W := ⟨_, rfl⟩
  have hk : Kept w W := by rw [← hW]; exact ((Kept.refl w).alloc _).alloc _
  have c1 : W.cell? ⟨w.heap.size, 0, none⟩ = some (.int .i64 lo) := by rw [← hW]; exact ((Kept.refl _).alloc _).cell (cell_box w _ _)
  have c2 : W.cell? ⟨w.heap.size + 1, 0, none⟩ = some (.int .i64 hi) := by rw [← hW]; exact cell_box2 w _ _ _
  have ha := absent_set p c room A l W (h.kept hk)
  have hn1 := isNumber_any lo W
  have hn2 := isNumber_any hi W
  rw [numB_true hlo] at hn1
  rw [numB_true hhi] at hn2
  have hf1 : Calls Tryz.prog 128 #[.pointer (some ⟨p, 0, none⟩), .func (.func 131) #[] #[.pointer (some ⟨w.heap.size, 0, none⟩)]] W (GInt (from_ l lo : Nat) W) :=
    first_any 131 w.heap.size p c room (fun r => decide (lo - 1 ≤ r.2)) A l W (enters_of Tryz.func131 (by kernel_rfl) rfl) (h.kept hk) (tells_add1 w.heap.size lo W hlo c1)
      (fun i h1 h2 => by have := from_ge h.good h1 h2; exact decide_eq_true this)
  have hf2 : ∀ W1, Kept W W1 → Calls Tryz.prog 128 #[.pointer (some ⟨p, 0, none⟩), .func (.func 132) #[] #[.pointer (some ⟨w.heap.size + 1, 0, none⟩)]] W1 (GInt (to_ l hi : Nat) W1) := fun W1 k1 =>
    first_any 132 (w.heap.size + 1) p c room (fun r => decide (hi + 1 < r.1)) A l W1 (enters_of Tryz.func132 (by kernel_rfl) rfl) ((h.kept hk).kept k1) (tells_add2 (w.heap.size + 1) hi W1 hhi (k1.cell c2))
      (fun i h1 h2 => by have := to_ge h.good h1 h2; exact decide_eq_true this)
  have H := Lib.hid h
  have HK := Lib.hid hk
  have HW := Lib.hid hW
  have HF2 := Lib.hid hf2
  have C1 := Lib.hid c1
  have C2 := Lib.hid c2
  have hft := Lib.hid (from_le_to h.good hle)
  have hfit := h.fits
  have hroom := h.room1
  have hlz : ¬ (hi < lo) := by omega
  have HLO := Lib.hid hlo
  have HHI := Lib.hid hhi
  have HLE := Lib.hid hle
  have HBB := Lib.hid hb
  clear hW hk h hf2 hlo hhi hle hb
  go_enter Tryz.func97, Tryz.ntmps97
  go_wp2_with fail
  rw [HW.out]
  go_wp2_with (first
    | (go_at_call 123; refine ha.mono ?_; rintro e w' ⟨rfl, rfl⟩)
    | (go_at_call 124; (first | ((with_reducible refine hn1.mono ?_); rintro e w' ⟨rfl, rfl⟩) | ((with_reducible refine hn2.mono ?_); rintro e w' ⟨rfl, rfl⟩)))
    | (go_at_call 128; (first | ((with_reducible refine hf1.mono ?_); rintro e W1 ⟨rfl, k1⟩; have K1 := Lib.hid k1; clear k1) | ((with_reducible refine (HF2.out _ K1.out).mono ?_); rintro e W2 ⟨rfl, k2⟩; have K2 := Lib.hid (K1.out.trans k2); clear k2))))
  have S2 : Hid (SetAt W2 p A c room l) := (H.out.kept HK.out).kept K2.out
  have KW2 : Hid (Kept w W2) := HK.out.trans K2.out
  have d0 := S2.out.room_
  have d1 := S2.out.list_
  have e1 := K2.out.cell C1.out
  have e2 := K2.out.cell C2.out
  have hlt2 : p < W2.heap.size := S2.out.lt
  have hlt3 : w.heap.size < W2.heap.size := World.block_lt_of_cell? _ _ e1
  have hlt4 : w.heap.size + 1 < W2.heap.size := World.block_lt_of_cell? _ _ e2
  clear ha hn1 hn2 hf1 c1 c2 HF2 C1 C2 HW K1 K2
  obtain ⟨hb1, hb2⟩ := HBB.out
  have htl := to_le l hi
  have HA : Hid (add l lo hi = l.take (to_ l hi) ++ (lo, hi) :: l.drop (to_ l hi)) := by show _ = _; unfold add whole; rw [if_neg (by omega), hb1]
  have HG := Lib.hid (add_good S2.out.good HLO.out.1 HLE.out HHI.out.2)
  rw [hb1]
  have HB1 := Lib.hid hb1
  clear hb1
  generalize hf : to_ l hi = f at *
  have HTo := Lib.hid hf
  clear hf
  have hz : ((f : Int) == (f : Int)) = true := by simp
  have hz2 : (((l.length : Nat) : Int) == (room : Int)) = false := by simp only [beq_eq_false_iff_ne]; omega
  go_wp2_with fail
  go_quiet (fail)
  have S3 : Hid (SetAt (W2.drewN nq) p A c room l) := S2.out.kept ((Kept.refl W2).drewN nq)
  have KW3 : Hid (Kept w (W2.drewN nq)) := KW2.out.drewN nq
  have d1' : (W2.drewN nq).cell? ⟨p, 1, none⟩ = some (.slice A l.length c) := d1
  have e1' : (W2.drewN nq).cell? ⟨w.heap.size, 0, none⟩ = some (.int .i64 lo) := e1
  have e2' : (W2.drewN nq).cell? ⟨w.heap.size + 1, 0, none⟩ = some (.int .i64 hi) := e2
  have hlt2' : p < (W2.drewN nq).heap.size := hlt2
  have hlt3' : w.heap.size < (W2.drewN nq).heap.size := hlt3
  have hlt4' : w.heap.size + 1 < (W2.drewN nq).heap.size := hlt4
  clear S2 KW2 d0 d1 e1 e2 hlt2 hlt3 hlt4
  generalize W2.drewN nq = W3 at *
  go_wp2_with fail
  have q0 : (W3.alloc (.cells #[.int .i64 lo, .int .i64 hi] 101)).cell? ⟨W3.heap.size, 0, none⟩ = some (.int .i64 lo) := (Blk.new W3 _ _).cell 0
  have q1 : (W3.alloc (.cells #[.int .i64 lo, .int .i64 hi] 101)).cell? ⟨W3.heap.size, 1, none⟩ = some (.int .i64 hi) := (Blk.new W3 _ _).cell 1
  have S4 : Hid (SetAt (W3.alloc (.cells #[.int .i64 lo, .int .i64 hi] 101)) p A c room l) := S3.out.kept ((Kept.refl W3).alloc _)
  have KW4 : Hid (Kept w (W3.alloc (.cells #[.int .i64 lo, .int .i64 hi] 101))) := KW3.out.alloc _
  have hg4 : W3.heap.size < (W3.alloc (.cells #[.int .i64 lo, .int .i64 hi] 101)).heap.size := by simp
  have ho4 : Hid (own A ≠ some W3.heap.size) := fun e => by have := S3.out.row.lt _ e; omega
  clear S3 KW3 d1' e1' e2' hlt2' hlt3' hlt4' hz2
  generalize hgw : W3.heap.size = gw at *
  clear hgw
  generalize W3.alloc (.cells #[.int .i64 lo, .int .i64 hi] 101) = W4 at *
  have S5 : Hid (SetAt (W4.drew.alloc (.cells #[.int .i64 lo, .int .i64 hi] 101)) p A c room l) := S4.out.kept (((Kept.refl W4).drew).alloc _)
  have K5 : Hid (Kept w (W4.drew.alloc (.cells #[.int .i64 lo, .int .i64 hi] 101))) := KW4.out.drew.alloc _
  have KK5 : Hid (Kept W4 (W4.drew.alloc (.cells #[.int .i64 lo, .int .i64 hi] 101))) := ((Kept.refl W4).drew).alloc _
  have hrep := Lib.hid (replace_any A l.length c W4.heap.size f f l (lo, hi) (W4.drew.alloc (.cells #[.int .i64 lo, .int .i64 hi] 101)) S5.out.row (Blk.new W4.drew _ _) (fun e => by have := S4.out.row.lt _ e; omega) (by omega) (by omega) htl)
  have d4 := S4.out.list_
  have hlt4 : p < W4.heap.size := S4.out.lt
  have hpg : Hid (own A ≠ some p) := S4.out.ne
  go_region_with (go_at_call 133; refine hrep.out.mono ?_; rintro e w6 ⟨A', c', rfl, hrow, hbut, hfr⟩; have RW := Lib.hid hrow; have BT := Lib.hid hbut; have FR := Lib.hid hfr; clear hrow hbut hfr; have z1 := But.cell BT.out hpg.out (KK5.out.cell d4); have zf := (S5.out.blk.but BT.out hpg.out).frozen 1)
  all_goals
    go_wp2
    go_ret
    exact did_store S5.out K5.out (by rw [HA.out]; exact RW.out) BT.out FR.out HG.out (by rw [add_length, HB1.out, HTo.out]; omega)
end Go.Proofs.YtilkgjpgoogiiaaGreat.Spn
/-
  Contract of Add, where what is added joins ranges.
-/
namespace Go.Proofs.YtilkgjpgoogiiaaGreat.Spn
open Go.RowKit SpnM Wd
theorem SetAt.setCell {w : World} {A : Option Addr} {p c room q : Nat} {l : List R} (h : SetAt w p A c room l) (hp : p ≠ q) (hg : own A ≠ some q) (i : Nat) (u : Value) : SetAt (w.setCell ⟨q, i, none⟩ u) p A c room l :=
  ⟨h.blk.far (p := ⟨q, i, none⟩) hp u, h.row.same_ fun k e => Below.heap_setCell _ _ _ _ (fun e' => hg (by rw [e]; simpa using e')), h.good, h.room1, h.fits⟩
theorem add_join_any (p c room : Nat) (A : Option Addr) (l : List R) (lo hi : Int) (w : World) (h : SetAt w p A c room l) (hok : num lo ∧ num hi ∧ lo ≤ hi) (hb : from_ l lo < to_ l hi) :
    Calls Tryz.prog 97 #[.pointer (some ⟨p, 0, none⟩), .int .i64 lo, .int .i64 hi] w (Did p A room (add l lo hi) 0 w) := by
  obtain ⟨hlo, hhi, hle⟩ := hok
  have hplt := h.lt
  obtain ⟨W, hW⟩ : ∃ W, (w.alloc (.cells #[.int .i64 lo] 3)).alloc (.cells #[.int .i64 hi] 3) = W := ⟨_, rfl⟩
  have hk : Kept w W := by rw [← hW]; exact ((Kept.refl w).alloc _).alloc _
  have c1 : W.cell? ⟨w.heap.size, 0, none⟩ = some (.int .i64 lo) := by rw [← hW]; exact ((Kept.refl _).alloc _).cell (cell_box w _ _)
  have c2 : W.cell? ⟨w.heap.size + 1, 0, none⟩ = some (.int .i64 hi) := by rw [← hW]; exact cell_box2 w _ _ _
  have ha := absent_set p c room A l W (h.kept hk)
  have hn1 := isNumber_any lo W
  have hn2 := isNumber_any hi W
  rw [numB_true hlo] at hn1
  rw [numB_true hhi] at hn2
  have hf1 : Calls Tryz.prog 128 #[.pointer (some ⟨p, 0, none⟩), .func (.func 131) #[] #[.pointer (some ⟨w.heap.size, 0, none⟩)]] W (GInt (from_ l lo : Nat) W) :=
    first_any 131 w.heap.size p c room (fun r => decide (lo - 1 ≤ r.2)) A l W (enters_of Tryz.func131 (by kernel_rfl) rfl) (h.kept hk) (tells_add1 w.heap.size lo W hlo c1)
      (fun i h1 h2 => by have := from_ge h.good h1 h2; exact decide_eq_true this)
  have hf2 : ∀ W1, Kept W W1 → Calls Tryz.prog 128 #[.pointer (some ⟨p, 0, none⟩), .func (.func 132) #[] #[.pointer (some ⟨w.heap.size + 1, 0, none⟩)]] W1 (GInt (to_ l hi : Nat) W1) := fun W1 k1 =>
    first_any 132 (w.heap.size + 1) p c room (fun r => decide (hi + 1 < r.1)) A l W1 (enters_of Tryz.func132 (by kernel_rfl) rfl) ((h.kept hk).kept k1) (tells_add2 (w.heap.size + 1) hi W1 hhi (k1.cell c2))
      (fun i h1 h2 => by have := to_ge h.good h1 h2; exact decide_eq_true this)
  have H := Lib.hid h
  have HK := Lib.hid hk
  have HW := Lib.hid hW
  have HF2 := Lib.hid hf2
  have C1 := Lib.hid c1
  have C2 := Lib.hid c2
  have hft := Lib.hid (from_le_to h.good hle)
  have hfit := h.fits
  have hroom := h.room1
  have hlz : ¬ (hi < lo) := by omega
  have HLO := Lib.hid hlo
  have HHI := Lib.hid hhi
  have HLE := Lib.hid hle
  have HBB := Lib.hid hb
  clear hW hk h hf2 hlo hhi hle hb
  go_enter Tryz.func97, Tryz.ntmps97
  go_wp2_with fail
  rw [HW.out]
  go_wp2_with (first
    | (go_at_call 123; refine ha.mono ?_; rintro e w' ⟨rfl, rfl⟩)
    | (go_at_call 124; (first | ((with_reducible refine hn1.mono ?_); rintro e w' ⟨rfl, rfl⟩) | ((with_reducible refine hn2.mono ?_); rintro e w' ⟨rfl, rfl⟩)))
    | (go_at_call 128; (first | ((with_reducible refine hf1.mono ?_); rintro e W1 ⟨rfl, k1⟩; have K1 := Lib.hid k1; clear k1) | ((with_reducible refine (HF2.out _ K1.out).mono ?_); rintro e W2 ⟨rfl, k2⟩; have K2 := Lib.hid (K1.out.trans k2); clear k2))))
  have S2 : Hid (SetAt W2 p A c room l) := (H.out.kept HK.out).kept K2.out
  have KW2 : Hid (Kept w W2) := HK.out.trans K2.out
  have d0 := S2.out.room_
  have d1 := S2.out.list_
  have e1 := K2.out.cell C1.out
  have e2 := K2.out.cell C2.out
  have hlt2 : p < W2.heap.size := S2.out.lt
  have hlt3 : w.heap.size < W2.heap.size := World.block_lt_of_cell? _ _ e1
  have hlt4 : w.heap.size + 1 < W2.heap.size := World.block_lt_of_cell? _ _ e2
  clear ha hn1 hn2 hf1 c1 c2 HF2 C1 C2 HW K1 K2
  have hb1 := HBB.out
  have htl := to_le l hi
  have hfl : from_ l lo ≤ l.length := from_le l lo
  have HA : Hid (add l lo hi = l.take (from_ l lo) ++ (min lo (at_ l (from_ l lo)).1, max hi (at_ l (to_ l hi - 1)).2) :: l.drop (to_ l hi)) := by show _ = _; unfold add whole; rw [if_pos hb1]
  have HG := Lib.hid (add_good S2.out.good HLO.out.1 HLE.out HHI.out.2)
  obtain ⟨g, rfl, hgl⟩ := S2.out.row.some_ (by omega)
  have r0 := S2.out.row.lo (k := from_ l lo) (by omega)
  have r1 := S2.out.row.hi (k := to_ l hi - 1) (by omega)
  have hcap := S2.out.row.cap
  unfold maxLen at hcap
  clear HBB
  have hbz : (from_ l lo : Int) < (to_ l hi : Int) := by omega
  have hzz : (((from_ l lo : Nat) : Int) == ((to_ l hi : Nat) : Int)) = false := by simp only [beq_eq_false_iff_ne]; omega
  have hmn : Hid ((if (at_ l (from_ l lo)).1 < lo then (at_ l (from_ l lo)).1 else lo) = min lo (at_ l (from_ l lo)).1) := by show _ = _; split <;> omega
  have hmx : Hid ((if hi < (at_ l (to_ l hi - 1)).2 then (at_ l (to_ l hi - 1)).2 else hi) = max hi (at_ l (to_ l hi - 1)).2) := by show _ = _; split <;> omega
  have ht1 : ((to_ l hi : Int) - 1).toNat = to_ l hi - 1 := by omega
  have ht2 : (0 : Int) ≤ (to_ l hi : Int) - 1 := by omega
  have ht3 : (to_ l hi : Int) - 1 < (l.length : Int) := by omega
  have ht4 : IntKind.i64.wrap ((to_ l hi : Int) - 1) = (to_ l hi : Int) - 1 := IntWalk.i64_in _ (by omega)
  have ht5 : (from_ l lo : Int) < (l.length : Int) := by omega
  have ht6 : (0 : Int) ≤ (from_ l lo : Int) := by omega
  have ht7 : (1 : Int) ≤ (to_ l hi : Int) := by omega
  have ht8 : (0 : Int) < (to_ l hi : Int) := by omega
  have ht9 : (to_ l hi : Int) < (l.length : Int) + 1 := by omega
  have hta : 0 < to_ l hi := by omega
  have htb : (to_ l hi : Int) ≤ (l.length : Int) := by omega
  have htc : to_ l hi - 1 < l.length := by omega
  have HFT : Hid ((add l lo hi).length ≤ room) := by show _ ≤ _; rw [add_length]; omega
  generalize (at_ l (from_ l lo)).1 = a at *
  generalize (at_ l (to_ l hi - 1)).2 = b at *
  generalize hx : min lo a = x at *
  generalize hy : max hi b = y at *
  clear hx hy
  generalize from_ l lo = f at *
  generalize to_ l hi = t at *
  have hmn' := hmn.out
  have hmx' := hmx.out
  go_wp2_with fail
  go_quiet (fail)
  have r0' : (W2.drewN nq).cell? ⟨g, f * 2, none⟩ = some (.int .i64 a) := r0
  have r1' : (W2.drewN nq).cell? ⟨g, (t - 1) * 2 + 1, none⟩ = some (.int .i64 b) := r1
  clear r0 r1
  have S3 : Hid (SetAt (W2.drewN nq) p (some ⟨g, 0, none⟩) c room l) := S2.out.kept ((Kept.refl W2).drewN nq)
  have KW3 : Hid (Kept w (W2.drewN nq)) := KW2.out.drewN nq
  have d1' : (W2.drewN nq).cell? ⟨p, 1, none⟩ = some (.slice (some ⟨g, 0, none⟩) l.length c) := d1
  have e1' : (W2.drewN nq).cell? ⟨w.heap.size, 0, none⟩ = some (.int .i64 lo) := e1
  have e2' : (W2.drewN nq).cell? ⟨w.heap.size + 1, 0, none⟩ = some (.int .i64 hi) := e2
  have hlt2' : p < (W2.drewN nq).heap.size := hlt2
  have hlt3' : w.heap.size < (W2.drewN nq).heap.size := hlt3
  have hlt4' : w.heap.size + 1 < (W2.drewN nq).heap.size := hlt4
  clear S2 KW2 d0 d1 e1 e2 hlt2 hlt3 hlt4
  generalize W2.drewN nq = W3 at *
  have hgl' : g < W3.heap.size := S3.out.row.lt g rfl
  go_wp2_with fail
  have B4 : Hid (Blk (W3.alloc (.cells #[.int .i64 lo, .int .i64 hi] 101)) W3.heap.size 101 #[.int .i64 lo, .int .i64 hi]) := Blk.new W3 _ _
  have k4 : Kept W3 (W3.alloc (.cells #[.int .i64 lo, .int .i64 hi] 101)) := (Kept.refl W3).alloc _
  have S4 : Hid (SetAt (W3.alloc (.cells #[.int .i64 lo, .int .i64 hi] 101)) p (some ⟨g, 0, none⟩) c room l) := S3.out.kept k4
  have KW4 : Hid (Kept w (W3.alloc (.cells #[.int .i64 lo, .int .i64 hi] 101))) := KW3.out.trans k4
  have d4 := k4.cell d1'
  have f4 := k4.cell e1'
  have g4 := k4.cell e2'
  have m4 := k4.cell r0'
  have n4 := k4.cell r1'
  have hpw : p ≠ W3.heap.size := by omega
  have hgw : g ≠ W3.heap.size := by omega
  have hw0 : w.heap.size ≠ W3.heap.size := by omega
  have hw1 : w.heap.size + 1 ≠ W3.heap.size := by omega
  have hwz : Hid (w.heap.size ≤ W3.heap.size) := by show _ ≤ _; omega
  clear S3 KW3 k4 d1' e1' e2' r0' r1' hlt2' hlt3' hlt4' hgl' hgl
  generalize W3.alloc (.cells #[.int .i64 lo, .int .i64 hi] 101) = W4 at *
  generalize W3.heap.size = gw at *
  have o0 : W4.cell? ⟨gw, 0, none⟩ = some (.int .i64 lo) := B4.out.cell 0
  have o1 : W4.cell? ⟨gw, 1, none⟩ = some (.int .i64 hi) := B4.out.cell 1
  have o2 : W4.frozen? ⟨gw, 0, none⟩ = false := B4.out.frozen 0
  have o3 : W4.frozen? ⟨gw, 1, none⟩ = false := B4.out.frozen 1
  go_still_tail 11, (by kernel_rfl)
  change wpList _ _ _ _ _ W4.drew
  go_wp2_with fail
  have B5 : Hid (Blk (W4.setCell ⟨gw, 0, none⟩ (.int .i64 x)).drew gw 101 #[.int .i64 x, .int .i64 hi]) := B4.out.set_ 0 (.int .i64 x)
  have S5 : Hid (SetAt (W4.setCell ⟨gw, 0, none⟩ (.int .i64 x)).drew p (some ⟨g, 0, none⟩) c room l) := (S4.out.setCell hpw (by simpa [own] using hgw) 0 _).kept (Kept.refl _).drew
  have KW5 : Hid (Kept w (W4.setCell ⟨gw, 0, none⟩ (.int .i64 x)).drew) := (KW4.out.setCell (p := ⟨gw, 0, none⟩) hwz.out _).drew
  have d5 := S5.out.list_
  have g5 : (W4.setCell ⟨gw, 0, none⟩ (.int .i64 x)).drew.cell? ⟨w.heap.size + 1, 0, none⟩ = some (.int .i64 hi) := (World.cell?_setCell_other W4 ⟨gw, 0, none⟩ _ _ (by first | (simp; done) | (simp; omega))).trans g4
  have n5 : (W4.setCell ⟨gw, 0, none⟩ (.int .i64 x)).drew.cell? ⟨g, (t - 1) * 2 + 1, none⟩ = some (.int .i64 b) := (World.cell?_setCell_other W4 ⟨gw, 0, none⟩ _ _ (by first | (simp; done) | (simp; omega))).trans n4
  clear B4 S4 KW4 d4 f4 g4 m4 n4 o0 o1 o2 o3
  generalize (W4.setCell ⟨gw, 0, none⟩ (.int .i64 x)).drew = W5 at *
  have o0 : W5.cell? ⟨gw, 0, none⟩ = some (.int .i64 x) := B5.out.cell 0
  have o1 : W5.cell? ⟨gw, 1, none⟩ = some (.int .i64 hi) := B5.out.cell 1
  have o2 : W5.frozen? ⟨gw, 0, none⟩ = false := B5.out.frozen 0
  have o3 : W5.frozen? ⟨gw, 1, none⟩ = false := B5.out.frozen 1
  go_still_tail 12, (by kernel_rfl)
  change wpList _ _ _ _ _ W5.drew
  go_wp2_with fail
  have B6 : Hid (Blk (W5.setCell ⟨gw, 1, none⟩ (.int .i64 y)).drew gw 101 #[.int .i64 x, .int .i64 y]) := B5.out.set_ 1 (.int .i64 y)
  have S6 : Hid (SetAt (W5.setCell ⟨gw, 1, none⟩ (.int .i64 y)).drew p (some ⟨g, 0, none⟩) c room l) := (S5.out.setCell hpw (by simpa [own] using hgw) 1 _).kept (Kept.refl _).drew
  have KW6 : Hid (Kept w (W5.setCell ⟨gw, 1, none⟩ (.int .i64 y)).drew) := (KW5.out.setCell (p := ⟨gw, 1, none⟩) hwz.out _).drew
  clear B5 S5 KW5 d5 g5 n5 o0 o1 o2 o3
  generalize (W5.setCell ⟨gw, 1, none⟩ (.int .i64 y)).drew = W4 at *
  have q0 : W4.cell? ⟨gw, 0, none⟩ = some (.int .i64 x) := B6.out.cell 0
  have q1 : W4.cell? ⟨gw, 1, none⟩ = some (.int .i64 y) := B6.out.cell 1
  have hg4 : gw < W4.heap.size := B6.out.lt
  have S4 := Lib.hid S6.out
  have KW4 := Lib.hid KW6.out
  have ho4 : Hid (own (some (⟨g, 0, none⟩ : Addr)) ≠ some gw) := by show _ ≠ _; simpa [own] using hgw
  clear B6 S6 KW6
  have S5 : Hid (SetAt (W4.drew.alloc (.cells #[.int .i64 x, .int .i64 y] 101)) p (some ⟨g, 0, none⟩) c room l) := S4.out.kept (((Kept.refl W4).drew).alloc _)
  have K5 : Hid (Kept w (W4.drew.alloc (.cells #[.int .i64 x, .int .i64 y] 101))) := KW4.out.drew.alloc _
  have KK5 : Hid (Kept W4 (W4.drew.alloc (.cells #[.int .i64 x, .int .i64 y] 101))) := ((Kept.refl W4).drew).alloc _
  have hrep := Lib.hid (replace_any (some ⟨g, 0, none⟩) l.length c W4.heap.size f t l (x, y) (W4.drew.alloc (.cells #[.int .i64 x, .int .i64 y] 101)) S5.out.row (Blk.new W4.drew _ _) (fun e => by have := S4.out.row.lt _ e; omega) (by omega) (by omega) htl)
  have d4 := S4.out.list_
  have hlt4 : p < W4.heap.size := S4.out.lt
  have hpg : Hid (own (some (⟨g, 0, none⟩ : Addr)) ≠ some p) := S4.out.ne
  go_region_with (go_at_call 133; refine hrep.out.mono ?_; rintro e w6 ⟨A', c', rfl, hrow, hbut, hfr⟩; have RW := Lib.hid hrow; have BT := Lib.hid hbut; have FR := Lib.hid hfr; clear hrow hbut hfr; have z1 := But.cell BT.out hpg.out (KK5.out.cell d4); have zf := (S5.out.blk.but BT.out hpg.out).frozen 1)
  all_goals
    go_wp2
    go_ret
    exact did_store S5.out K5.out (by rw [HA.out]; exact RW.out) BT.out FR.out HG.out (by exact HFT.out)
end Go.Proofs.YtilkgjpgoogiiaaGreat.Spn
namespace Go.Proofs.YtilkgjpgoogiiaaGreat.Spn
open Go.RowKit SpnM Wd
theorem add_any (p c room : Nat) (A : Option Addr) (l : List R) (lo hi : Int) (w : World) (h : SetAt w p A c room l) :
    Calls Tryz.prog 97 #[.pointer (some ⟨p, 0, none⟩), .int .i64 lo, .int .i64 hi] w (Did p A room (addTo room l lo hi) (addErr room l lo hi) w) := by
  by_cases hok : num lo ∧ num hi ∧ lo ≤ hi
  · have hfit := h.fits
    have hf := add_full (room := room) h.good (by omega) hok.2.2
    by_cases hb : (room : Int) < (add l lo hi).length
    · obtain ⟨e1, e2⟩ := addErr_full hok hb
      rw [e1, e2]
      have := hf.1 hb
      exact add_full_any p c room A l lo hi w h hok ⟨this.1, by omega⟩
    · obtain ⟨e1, e2⟩ := addErr_ok hok hb
      rw [e1, e2]
      have hft := from_le_to h.good hok.2.2
      rcases Nat.lt_or_ge (from_ l lo) (to_ l hi) with h1 | h1
      · exact add_join_any p c room A l lo hi w h hok h1
      · refine add_new_any p c room A l lo hi w h hok ⟨by omega, ?_⟩
        rcases Nat.lt_or_ge l.length room with h2 | h2
        · exact h2
        · exact absurd (hf.2 ⟨by omega, by omega⟩) hb
  · obtain ⟨e1, e2⟩ := addErr_arg (room := room) (l := l) hok
    rw [e1, e2]
    exact add_arg p c room A l lo hi w h hok
theorem set_store {w W5 w' : World} {p c room n' c' : Nat} {A A' : Option Addr} {l l' : List R} (h : SetAt W5 p A c room l) (hk : Kept w W5) (hrow : Row w' A' n' c' l') (hbut : But (fun k => own A = some k) W5 w')
    (hfr : ∀ k, own A' = some k → own A = some k ∨ W5.heap.size ≤ k) (hg : Rises l') (hfit : l'.length ≤ room) :
    SetAt (w'.setCell ⟨p, 1, none⟩ (.slice A' n' c')) p A' c' room l' ∧ But (Foot p A) w (w'.setCell ⟨p, 1, none⟩ (.slice A' n' c')) ∧ ∀ k, own A' = some k → own A = some k ∨ w.heap.size ≤ k := by
  obtain rfl := hrow.len
  have hb : Blk w' p 155 #[.int .i64 room, .slice A l.length c] := h.blk.but hbut h.ne
  have hne : own A' ≠ some p := fun e => by
    rcases hfr p e with h1 | h1
    · exact h.ne h1
    · have := h.lt; omega
  refine ⟨⟨by have := hb.set_ 1 (.slice A' l'.length c'); simpa using this, hrow.same_ fun k e => ?_, hg, h.room1, hfit⟩, ?_, fun k e => ?_⟩
  · exact Below.heap_setCell _ _ _ _ (fun e' => hne (by rw [e]; simpa using e'))
  · have h1 : But (Foot p A) w w' := (hk.but _).trans hbut (fun i _ e => .inr e)
    exact h1.setCell (.inl rfl) _
  · rcases hfr k e with h1 | h1
    · exact .inl h1
    · exact .inr (Nat.le_trans hk.size h1)
theorem row_trim {w : World} {g n c : Nat} {l : List R} (b : Int) (h : Row w (some ⟨g, 0, none⟩) n c l) (hn : 0 < n) : Row (w.setCell ⟨g, 0, none⟩ (.int .i64 (max (at_ l 0).1 b))) (some ⟨g, 0, none⟩) n c (trim l b) := by
  refine ⟨by rw [trim_length]; exact h.1, ?_⟩
  have hs := (h.2.stored 0 (.int .i64 (max (at_ l 0).1 b))).1
  have e : (flat l).set 0 (.int .i64 (max (at_ l 0).1 b)) = flat (trim l b) := by
    cases l with
    | nil => have := h.1; simp at this; omega
    | cons r t => rfl
  rw [e] at hs; exact hs
theorem cut_any (p c room : Nat) (A : Option Addr) (l : List R) (b : Int) (w : World) (h : SetAt w p A c room l) :
    Calls Tryz.prog 96 #[.pointer (some ⟨p, 0, none⟩), .int .i64 b] w (Did p A room (cutTo l b) (cutErr b) w) := by
  have hplt := h.lt
  obtain ⟨W, hW⟩ : ∃ W, w.alloc (.cells #[.int .i64 b] 3) = W := ⟨_, rfl⟩
  have hk : Kept w W := by rw [← hW]; exact (Kept.refl w).alloc _
  have c1 : W.cell? ⟨w.heap.size, 0, none⟩ = some (.int .i64 b) := by rw [← hW]; exact cell_box w _ _
  have ha := absent_set p c room A l W (h.kept hk)
  have hn1 := isNumber_any b W
  have H := Lib.hid h
  have HK := Lib.hid hk
  have HW := Lib.hid hW
  by_cases hb : num b
  · rw [numB_true hb] at hn1
    have e1 : cutErr b = 0 := by unfold cutErr; rw [if_pos hb]
    have e2 : cutTo l b = cut l b := by unfold cutTo; rw [if_pos hb]
    rw [e1, e2]
    have hf1 : Calls Tryz.prog 128 #[.pointer (some ⟨p, 0, none⟩), .func (.func 129) #[] #[.pointer (some ⟨w.heap.size, 0, none⟩)]] W (GInt (keep_ l b : Nat) W) :=
      first_any 129 w.heap.size p c room (fun r => decide (b ≤ r.2)) A l W (enters_of Tryz.func129 (by kernel_rfl) rfl) (h.kept hk) (tells_cut w.heap.size b W c1)
        (fun i h1 h2 => by have := keep_ge h.good h1 h2; exact decide_eq_true this)
    have hkl := keep_le l b
    have hfit := h.fits
    have hroom := h.room1
    have HCG := Lib.hid (cut_good h.good hb)
    have C1 := Lib.hid c1
    have hdel := Lib.hid (fun W1 (k : Kept W W1) => delete_any A l.length c (keep_ l b) l W1 ((h.kept hk).kept k).row (by omega) hkl)
    have hcl := Lib.hid (cut_length l b)
    have hob : Hid (own A ≠ some w.heap.size) := fun e => by have := h.row.lt _ e; omega
    have HE1 := Lib.hid e1
    have HGD := Lib.hid (good_drop h.good (keep_ l b))
    have hdl : Hid ((l.drop (keep_ l b)).length = l.length - keep_ l b) := by show _ = _; simp
    clear hW hk h e1 e2 hb
    rcases Nat.eq_zero_or_pos (l.length - keep_ l b) with h0 | h0
    · have hcut : Hid (cut l b = l.drop (keep_ l b)) := by show _ = _; unfold cut; rw [List.eq_nil_of_length_eq_zero (hdl.out.trans h0)]; rfl
      have H0 := Lib.hid h0
      go_enter Tryz.func96, Tryz.ntmps96
      go_wp2_with fail
      rw [HW.out]
      go_wp2_with (first
        | (go_at_call 123; refine ha.mono ?_; rintro e w' ⟨rfl, rfl⟩)
        | (go_at_call 124; refine hn1.mono ?_; rintro e w' ⟨rfl, rfl⟩)
        | (go_at_call 128; refine hf1.mono ?_; rintro e W1 ⟨rfl, k1⟩; have K1 := Lib.hid k1; clear k1; have S1 : Hid (SetAt W1 p A c room l) := (H.out.kept HK.out).kept K1.out; have d1 := S1.out.list_; clear c1)
        | (go_at_call 130; refine (hdel.out _ K1.out).mono ?_; rintro e w6 ⟨A', c', rfl, hrow, hbut, hfr⟩; have RW := Lib.hid hrow; have BT := Lib.hid hbut; have FR := Lib.hid hfr; clear hrow hbut hfr; have z1 := But.cell BT.out S1.out.ne d1; have zf := (S1.out.blk.but BT.out S1.out.ne).frozen 1; clear d1))
      go_ret
      obtain ⟨S7, B7, F7⟩ := set_store S1.out (HK.out.trans K1.out) RW.out BT.out FR.out HGD.out (by rw [hdl.out]; omega)
      rw [H0.out] at S7 B7
      exact ⟨rfl, A', c', by rw [hcut.out]; exact S7, B7, F7⟩
    · have h0z : (0 : Int) < ((l.length - keep_ l b : Nat) : Int) := by omega
      go_enter Tryz.func96, Tryz.ntmps96
      go_wp2_with fail
      rw [HW.out]
      go_wp2_with (first
        | (go_at_call 123; refine ha.mono ?_; rintro e w' ⟨rfl, rfl⟩)
        | (go_at_call 124; refine hn1.mono ?_; rintro e w' ⟨rfl, rfl⟩)
        | (go_at_call 128; refine hf1.mono ?_; rintro e W1 ⟨rfl, k1⟩; have K1 := Lib.hid k1; clear k1; have S1 : Hid (SetAt W1 p A c room l) := (H.out.kept HK.out).kept K1.out; have d1 := S1.out.list_; have f1 := K1.out.cell C1.out; clear c1)
        | (go_at_call 130; refine (hdel.out _ K1.out).mono ?_; rintro e w6 ⟨A', c', rfl, hrow, hbut, hfr⟩; have RW := Lib.hid hrow; have BT := Lib.hid hbut; have FR := Lib.hid hfr; clear hrow hbut hfr; have z1 := But.cell BT.out S1.out.ne d1; have zf := (S1.out.blk.but BT.out S1.out.ne).frozen 1; have f6 := But.cell BT.out hob.out f1; clear d1 f1))
      have hst := set_store S1.out (HK.out.trans K1.out) RW.out BT.out FR.out HGD.out (by rw [hdl.out]; omega)
      have hwl : w.heap.size < w6.heap.size := World.block_lt_of_cell? _ _ f6
      have f7 : (w6.setCell ⟨p, 1, none⟩ (.slice A' (l.length - keep_ l b) c')).cell? ⟨w.heap.size, 0, none⟩ = some (.int .i64 b) := (World.cell?_setCell_other w6 ⟨p, 1, none⟩ _ _ (by first | (simp; done) | (simp; omega))).trans f6
      have S7 := Lib.hid hst.1
      have B7 := Lib.hid hst.2.1
      have F7 := Lib.hid hst.2.2
      clear hst RW BT FR z1 zf f6 hwl S1 K1
      generalize w6.setCell ⟨p, 1, none⟩ (.slice A' (l.length - keep_ l b) c') = w7 at *
      obtain ⟨g, rfl, hg7⟩ := S7.out.row.some_ (by rw [hdl.out]; exact h0)
      have d7 := S7.out.list_
      rw [hdl.out] at d7
      have x7 : w7.cell? ⟨g, 0, none⟩ = some (.int .i64 (at_ (l.drop (keep_ l b)) 0).1) := by have := S7.out.row.lo (k := 0) (by rw [hdl.out]; exact h0); rwa [Nat.zero_mul] at this
      have fz := S7.out.row.free 0
      have HT := Lib.hid (row_trim b S7.out.row (by rw [hdl.out]; exact h0))
      have hpg : Hid (p ≠ g) := fun e => S7.out.ne (by rw [e]; rfl)
      have hmx : Hid ((if (at_ (l.drop (keep_ l b)) 0).1 < b then b else (at_ (l.drop (keep_ l b)) 0).1) = max (at_ (l.drop (keep_ l b)) 0).1 b) := by show _ = _; split <;> omega
      generalize hx : max (at_ (l.drop (keep_ l b)) 0).1 b = x at *
      clear hx
      generalize (at_ (l.drop (keep_ l b)) 0).1 = y at *
      have hmx' := hmx.out
      generalize hn : l.length - keep_ l b = n at *
      have HN := Lib.hid hn
      clear hn
      go_still_tail 15, (by kernel_rfl)
      change wpList _ _ _ _ _ w7.drew
      go_wp2_with fail
      go_ret
      refine ⟨rfl, some ⟨g, 0, none⟩, c', ⟨?_, ?_, HCG.out, S7.out.room1, by have := HN.out; rw [hcl.out]; omega⟩, ?_, F7.out⟩
      · have e : (cut l b).length = (l.drop (keep_ l b)).length := by rw [hcl.out, hdl.out]
        rw [e]
        exact S7.out.blk.far (p := ⟨g, 0, none⟩) hpg.out _
      · have e : (cut l b).length = (l.drop (keep_ l b)).length := by rw [hcl.out, hdl.out]
        rw [e]; exact HT.out
      · have h1 : But (Foot p A) w (w7.setCell ⟨g, 0, none⟩ (.int .i64 x)) := by
          rcases F7.out g rfl with h2 | h2
          · exact B7.out.setCell (p := ⟨g, 0, none⟩) (.inr h2) _
          · exact B7.out.trans (F := Foot p A) (G := fun k => k = g) ((But.refl (fun k => k = g) w7).setCell (p := ⟨g, 0, none⟩) rfl _) (fun i hi e => by omega)
        exact h1.drew
  · rw [numB_false hb] at hn1
    have e1 : cutErr b = 2 := by unfold cutErr; rw [if_neg hb]
    have e2 : cutTo l b = l := by unfold cutTo; rw [if_neg hb]
    rw [e1, e2]
    clear hW hk h hb e1 e2
    go_enter Tryz.func96, Tryz.ntmps96
    go_wp2_with fail
    rw [HW.out]
    go_wp2_with (first
      | (go_at_call 123; refine ha.mono ?_; rintro e w' ⟨rfl, rfl⟩)
      | (go_at_call 124; refine hn1.mono ?_; rintro e w' ⟨rfl, rfl⟩))
    go_ret
    exact did_same H.out HK.out
def Copied (room : Nat) (l : List R) (w : World) (e : Ending) (w' : World) : Prop :=
  ∃ q B d, e = .returned (.pointer (some ⟨q, 0, none⟩)) ∧ SetAt w' q B d room l ∧ Kept w w' ∧ w.heap.size ≤ q ∧ ∀ k, own B = some k → w.heap.size ≤ k
theorem copy_set (p c room : Nat) (A : Option Addr) (l : List R) (w : World) (h : SetAt w p A c room l) :
    Calls Tryz.prog 112 #[.pointer (some ⟨p, 0, none⟩)] w (Copied room l w) := by
  have ha := absent_set p c room A l w h
  have hfit := h.fits
  have hroom := h.room1
  have hc := Lib.hid (clone_any A l.length c l w.drew (h.kept (Kept.refl w).drew).row (by omega))
  have d0 := h.room_
  have d1 := h.list_
  have hplt := h.lt
  have H := Lib.hid h
  clear h
  go_enter Tryz.func112, Tryz.ntmps112
  go_wp2_with (go_at_call 123; refine ha.mono ?_; rintro e w' ⟨rfl, rfl⟩)
  go_region_held3 (fun w' => w'.cell? ⟨p, 0, none⟩ = some (.int .i64 room) ∧ w'.cell? ⟨p, 1, none⟩ = some (.slice A l.length c))
    (first | exact ⟨d0, d1⟩ | exact ⟨hk'.cell d0, hk'.cell d1⟩ | exact ⟨(hk'.alloc _).cell d0, (hk'.alloc _).cell d1⟩)
    ((go_at_call 153; refine hc.out.mono ?_; rintro e w6 ⟨B, d, rfl, hrow, hkk, hfr⟩; have RW := Lib.hid hrow; have hk' : Kept w w6 := ((Kept.refl w).drew).trans hkk; have FR := Lib.hid hfr; clear hrow hkk hfr))
  go_wp2
  go_ret
  exact ⟨w6.heap.size, B, d, rfl, ⟨Blk.new _ _ _, RW.out.kept ((Kept.refl _).alloc _), H.out.good, hroom, hfit⟩, hk'.alloc _, hk'.size, FR.out⟩
end Go.Proofs.YtilkgjpgoogiiaaGreat.Spn
