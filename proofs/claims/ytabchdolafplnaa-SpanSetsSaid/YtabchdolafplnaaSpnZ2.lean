/-
  Contract of the statements' works: it is true.
-/
import Derived.Test.YtabchdolafplnaaSpnZ
namespace Go.Proofs.Ytabchdolafplnaa.Spn
open Go.RowKit SpnM Wd
set_option linter.unusedVariables false
set_option linter.unusedSimpArgs false

theorem row_lit (W : World) (l : List R) (h : l.length ≤ 256) : Row (W.alloc (.cells (flat l).toArray 57)) (some ⟨W.heap.size, 0, none⟩) l.length l.length l :=
  Row.mk' rfl (Blk.new W _ _) (Nat.le_refl _) (by unfold maxLen; omega) (by simp [flat_length]) (by rw [List.toList_toArray, List.take_of_length_le (by rw [flat_length]; exact Nat.le_refl _)])
theorem holds_mine {w W : World} {p c room : Nat} {A : Option Addr} {l : List R} (m : List R) (h : Mine w W p A c room l) (hm : m.length ≤ 256) (he : same l.reverse m = true) :
    Calls Try.prog 53 #[.pointer (some ⟨p, 0, none⟩), .slice (some ⟨W.heap.size, 0, none⟩) m.length m.length] (W.alloc (.cells (flat m).toArray 57)) (SeesBool w p A c room l true) := by
  have hk : Kept W (W.alloc (.cells (flat m).toArray 57)) := (Kept.refl W).alloc _
  have := holds_any p c room A l _ m.length m.length m _ (h.1.kept hk) (row_lit W m hm)
  rw [he] at this
  exact this.mono fun e W' d => ⟨d.1, h.kept (hk.trans d.2)⟩

set_option maxHeartbeats 4000000 in
set_option maxRecDepth 100000 in
theorem works_any (w : World) : Calls Try.prog 23 #[] w (GBool true w) := by
  go_enter Try.func23, Try.ntmps23
  go_wp2_with fail
  refine (new_good 2 w (by omega) (by omega)).mono ?_
  rintro e W0 ⟨p, rfl, s0, hp0, k0⟩
  have m0 : Mine w W0 p none 0 2 [] := ⟨s0, k0, by rintro i (rfl | e); exact hp0; cases e⟩
  clear s0 hp0 k0
  have M0 := Lib.hid m0
  clear m0
  go_wp2_with fail
  refine (add_mine [] [(5, 7)] 5 7 0 (by decide) (by decide) M0.out).mono ?_
  rintro e W1 ⟨rfl, A1, c1, m1⟩
  have M1 := Lib.hid m1
  clear m1 M0
  go_wp2_with fail
  refine (add_mine [(5, 7)] [(1, 2), (5, 7)] 1 2 0 (by decide) (by decide) M1.out).mono ?_
  rintro e W2 ⟨rfl, A2, c2, m2⟩
  have M2 := Lib.hid m2
  clear m2 M1
  go_wp2_with fail
  refine (add_mine [(1, 2), (5, 7)] [(1, 2), (5, 7)] 9 9 5 (by decide) (by decide) M2.out).mono ?_
  rintro e W3 ⟨rfl, A3, c3, m3⟩
  have M3 := Lib.hid m3
  clear m3 M2
  go_wp2_with fail
  refine (holds_mine [(5, 7), (1, 2)] M3.out (by decide) (by decide)).mono ?_
  rintro e W4 ⟨rfl, m4⟩
  have M4 := Lib.hid m4
  clear m4 M3
  go_wp2_with fail
  refine (add_mine [(1, 2), (5, 7)] [(1, 7)] 3 4 0 (by decide) (by decide) M4.out).mono ?_
  rintro e W5 ⟨rfl, A5, c5, m5⟩
  have M5 := Lib.hid m5
  clear m5 M4
  go_wp2_with fail
  refine (holds_mine [(1, 7)] M5.out (by decide) (by decide)).mono ?_
  rintro e W6 ⟨rfl, m6⟩
  have M6 := Lib.hid m6
  clear m6 M5
  go_wp2_with fail
  refine (count_mine 7 (by decide) M6.out).mono ?_
  rintro e W7 ⟨rfl, m7⟩
  have M7 := Lib.hid m7
  clear m7 M6
  go_wp2_with fail
  refine (next_mine 1 8 (by decide) M7.out).mono ?_
  rintro e W8 ⟨rfl, m8⟩
  have M8 := Lib.hid m8
  clear m8 M7
  go_wp2_with fail
  refine (next_mine 9 9 (by decide) M8.out).mono ?_
  rintro e W9 ⟨rfl, m9⟩
  have M9 := Lib.hid m9
  clear m9 M8
  go_wp2_with fail
  refine (add_mine [(1, 7)] [(1, 7)] 2 1 2 (by decide) (by decide) M9.out).mono ?_
  rintro e Wa ⟨rfl, Aa, ca, ma⟩
  have Ma := Lib.hid ma
  clear ma M9
  go_wp2_with fail
  refine (cut_mine [(1, 7)] [(3, 7)] 3 0 (by decide) (by decide) Ma.out).mono ?_
  rintro e Wb ⟨rfl, Ab, cb, mb⟩
  have Mb := Lib.hid mb
  clear mb Ma
  go_wp2_with fail
  refine (holds_mine [(3, 7)] Mb.out (by decide) (by decide)).mono ?_
  rintro e Wc ⟨rfl, mc⟩
  have Mc := Lib.hid mc
  clear mc Mb
  go_wp2_with fail
  refine (min_mine 3 (by decide) Mc.out).mono ?_
  rintro e Wd ⟨rfl, md⟩
  have Md := Lib.hid md
  clear md Mc
  go_wp2_with fail
  refine (max_mine 7 (by decide) Md.out).mono ?_
  rintro e We ⟨rfl, me⟩
  have Me := Lib.hid me
  clear me Md
  go_wp2_with fail
  refine (cut_mine [(3, 7)] [] 8 0 (by decide) (by decide) Me.out).mono ?_
  rintro e Wf ⟨rfl, Af, cf, mf⟩
  have Mf := Lib.hid mf
  clear mf Me
  go_wp2_with fail
  refine (max_mine (-1) (by decide) Mf.out).mono ?_
  rintro e Wg ⟨rfl, mg⟩
  have Mg := Lib.hid mg
  clear mg Mf
  go_wp2_with fail
  refine (len_mine 0 (by decide) Mg.out).mono ?_
  rintro e Wh ⟨rfl, mh⟩
  have Mh := Lib.hid mh
  clear mh Mg
  go_wp2_with fail
  go_ret
  exact ⟨rfl, Mh.out.2.1⟩

end Go.Proofs.Ytabchdolafplnaa.Spn
