/-
  The document's own Whole of whatever bytes; the laws' own helpers length, cut, whole, works.
-/
import Derived.Test.YtlfgidkjbjlaiaaPnuD1
import Derived.Test.YtlfgidkjbjlaiaaPnuD2
import Derived.Test.YtlfgidkjbjlaiaaPnuD3
import Derived.Test.YtlfgidkjbjlaiaaPnuD4
namespace Go.Proofs.Ytlfgidkjbjlaiaa.Pnu
open Go.RowKit OctM Oct PnuM
set_option linter.unusedSimpArgs false
set_option linter.unusedVariables false

theorem rwhole_any (g : Int) (A : Option Addr) (n c : Nat) (l : List Int) (w : World) (hb : Byt w A n c l) : Calls Try.prog 16 #[.int .i64 g, .slice A n c] w (Tells (wholeN g l) (wholeE g n) w) := by
  have hm := hb.most
  have hc := hb.cap
  unfold maxLen at hm
  unfold wholeN wholeE
  rw [hb.len]
  by_cases h : isg g
  · by_cases h2 : 1 ≤ n ∧ n ≤ 4
    · rw [if_pos ⟨h, h2⟩, if_pos h, if_pos h2]
      have h3 : n = 1 ∨ n = 2 ∨ n = 3 ∨ n = 4 := by omega
      rcases h3 with rfl | rfl | rfl | rfl
      · exact rwhole_1 g A c l w h hb
      · exact rwhole_2 g A c l w h hb
      · exact rwhole_3 g A c l w h hb
      · exact rwhole_4 g A c l w h hb
    · rw [if_neg (fun h' => h2 h'.2), if_pos h, if_neg h2]
      exact rwhole_arg g A n c w h h2 (by omega)
  · rw [if_neg (fun h' => h h'.1), if_neg h]
    exact rwhole_range g A n c w h

theorem byt_lit (w : World) (l : List Int) (hl : allByte l) (hn : l.length ≤ maxLen) : Byt (w.alloc (.cells (l.map (Value.int .u8)).toArray 5)) (some ⟨w.heap.size, 0, none⟩) l.length l.length l := byt_block hl hn (heap_alloc_new w _)
def bytesB (l : List Int) : Bool := l.all fun x => decide (0 ≤ x) && decide (x < 256)
theorem bytes_of {l : List Int} (h : bytesB l = true) : allByte l := fun x hx => by
  have := List.all_eq_true.1 h x hx
  simpa using this

set_option maxHeartbeats 400000 in
theorem length_true (full acked want : Int) (w : World) (h1 : lenN full acked = want) (h2 : lenE full acked = 0) : Calls Try.prog 28 #[.int .i64 full, .int .i64 acked, .int .i64 want] w fun e w' => e = .returned (.bool true) ∧ w = w' := by
  have hL := fun w => len_any full acked w
  rw [h1, h2] at hL
  have HL := Lib.hid hL
  clear hL h1 h2
  go_enter Try.func28, Try.ntmps28
  go_wp2_with (go_at_call 9; ((refine (HL.out _).mono ?_); rintro e w' ⟨rfl, rfl⟩))
  go_ret
  exact ⟨rfl, rfl⟩

set_option maxHeartbeats 400000 in
theorem cut_true (x : Int) (A : Option Addr) (n c : Nat) (l : List Int) (w : World) (hb : Byt w A n c l) (h1 : cutL x n = l) (h2 : cutE x n = 0) : Calls Try.prog 29 #[.int .i64 x, .slice A n c] w fun e w' => e = .returned (.bool true) ∧ Kept w w' := by
  have hL := fun w => cut_any x n w
  rw [h1, h2] at hL
  have hcap := hb.cap
  have hmost := hb.most
  unfold maxLen at hmost
  have HL := Lib.hid hL
  have HB := Lib.hid hb
  clear hL h1 h2 hb
  go_enter Try.func29, Try.ntmps29
  go_wp2_with fail
  refine (HL.out _).mono ?_
  rintro e w1 ⟨A1, n1, c1, rfl, hB1, k1⟩
  go_wp2_with fail
  refine (eq_any _ _ _ _ _ _ _ _ _ hB1 (HB.out.kept k1)).mono ?_
  rintro e w' ⟨rfl, rfl⟩
  rw [same_self]
  go_wp2
  go_ret
  exact ⟨rfl, k1⟩

set_option maxHeartbeats 400000 in
theorem whole_true (g want : Int) (A : Option Addr) (n c : Nat) (l : List Int) (w : World) (hb : Byt w A n c l) (h1 : wholeN g l = want) (h2 : wholeE g n = 0) : Calls Try.prog 30 #[.int .i64 g, .int .i64 want, .slice A n c] w fun e w' => e = .returned (.bool true) ∧ Kept w w' := by
  have hL := whole_any g A n c l w hb
  rw [h1, h2] at hL
  have HL := Lib.hid hL
  clear hL h1 h2 hb
  go_enter Try.func30, Try.ntmps30
  go_wp2_with fail
  refine HL.out.mono ?_
  rintro e w' ⟨rfl, rfl⟩
  go_wp2
  go_ret
  exact ⟨rfl, Kept.refl _⟩

set_option maxHeartbeats 1000000 in
set_option maxRecDepth 100000 in
theorem works_any (w : World) : Calls Try.prog 17 #[] w fun e w' => e = .returned (.bool true) ∧ Kept w w' := by
  go_enter Try.func17, Try.ntmps17
  go_wp2_with fail
  refine (length_true 11295746 11266227 2 _ (by decide) (by decide)).mono ?_
  rintro e w' ⟨rfl, rfl⟩
  go_wp2_with fail
  refine (length_true 11331838 11266227 3 _ (by decide) (by decide)).mono ?_
  rintro e w' ⟨rfl, rfl⟩
  go_wp2_with fail
  refine (length_true 0 (-1) 1 _ (by decide) (by decide)).mono ?_
  rintro e w' ⟨rfl, rfl⟩
  have hK0 := Kept.refl w
  go_wp2_with fail
  have hL1 := hK0.alloc (.cells #[.int .u8 92, .int .u8 2] 5)
  refine (cut_true (11295746) _ 2 2 [92, 2] _ (byt_lit w [92, 2] (bytes_of (by decide)) (by decide)) (by decide) (by decide)).mono ?_
  rintro e w1 ⟨rfl, k1⟩
  have hK1 := hL1.trans k1
  clear k1 hL1 hK0
  go_wp2_with fail
  have hL2 := hK1.alloc (.cells #[.int .u8 172, .int .u8 232, .int .u8 254] 5)
  refine (cut_true (11331838) _ 3 3 [172, 232, 254] _ (byt_lit w1 [172, 232, 254] (bytes_of (by decide)) (by decide)) (by decide) (by decide)).mono ?_
  rintro e w2 ⟨rfl, k2⟩
  have hK2 := hL2.trans k2
  clear k2 hL2 hK1
  go_wp2_with fail
  have hL3 := hK2.alloc (.cells #[.int .u8 155, .int .u8 50] 5)
  refine (whole_true (2821665002) (2821692210) _ 2 2 [155, 50] _ (byt_lit w2 [155, 50] (bytes_of (by decide)) (by decide)) (by decide) (by decide)).mono ?_
  rintro e w3 ⟨rfl, k3⟩
  have hK3 := hL3.trans k3
  clear k3 hL3 hK2
  go_wp2_with fail
  have hL4 := hK3.alloc (.cells #[.int .u8 0] 5)
  refine (whole_true (-1) (0) _ 1 1 [0] _ (byt_lit w3 [0] (bytes_of (by decide)) (by decide)) (by decide) (by decide)).mono ?_
  rintro e w4 ⟨rfl, k4⟩
  have hK4 := hL4.trans k4
  clear k4 hL4 hK3
  go_wp2_with fail
  have hL5 := hK4.alloc (.cells #[.int .u8 255] 5)
  refine (whole_true (-1) (255) _ 1 1 [255] _ (byt_lit w4 [255] (bytes_of (by decide)) (by decide)) (by decide) (by decide)).mono ?_
  rintro e w5 ⟨rfl, k5⟩
  have hK5 := hL5.trans k5
  clear k5 hL5 hK4
  go_wp2_with fail
  have hL6 := hK5.alloc (.cells #[.int .u8 0] 5)
  refine (whole_true (128) (256) _ 1 1 [0] _ (byt_lit w5 [0] (bytes_of (by decide)) (by decide)) (by decide) (by decide)).mono ?_
  rintro e w6 ⟨rfl, k6⟩
  have hK6 := hL6.trans k6
  clear k6 hL6 hK5
  go_wp2_with fail
  have hL7 := hK6.alloc (.cells #[.int .u8 0] 5)
  refine (whole_true (127) (256) _ 1 1 [0] _ (byt_lit w6 [0] (bytes_of (by decide)) (by decide)) (by decide) (by decide)).mono ?_
  rintro e w7 ⟨rfl, k7⟩
  have hK7 := hL7.trans k7
  clear k7 hL7 hK6
  go_wp2_with fail
  have hL8 := hK7.alloc (.cells #[.int .u8 128] 5)
  refine (whole_true (511) (640) _ 1 1 [128] _ (byt_lit w7 [128] (bytes_of (by decide)) (by decide)) (by decide) (by decide)).mono ?_
  rintro e w8 ⟨rfl, k8⟩
  have hK8 := hL8.trans k8
  clear k8 hL8 hK7
  go_wp2_with fail
  refine (len_any 5 5 _).mono ?_
  rw [show lenN 5 5 = 0 by decide, show lenE 5 5 = 9 by decide]
  rintro e w' ⟨rfl, rfl⟩
  go_wp2_with fail
  refine (cut_any 1 5 _).mono ?_
  rw [show cutE 1 5 = 2 by decide]
  rintro e w9 ⟨A9, n9, c9, rfl, hB9, k9⟩
  have hK9 := hK8.trans k9
  clear k9 hK8 hB9
  go_wp2_with fail
  refine (whole_any 0 none 0 0 [] _ (Byt.nil _)).mono ?_
  rw [show wholeN 0 [] = 0 by decide, show wholeE 0 0 = 2 by decide]
  rintro e w' ⟨rfl, rfl⟩
  go_wp2_with fail
  refine (len_any 2147483649 0 _).mono ?_
  rw [show lenN 2147483649 0 = 0 by decide, show lenE 2147483649 0 = 5 by decide]
  rintro e w' ⟨rfl, rfl⟩
  go_wp2
  go_ret
  exact ⟨rfl, hK9⟩

end Go.Proofs.Ytlfgidkjbjlaiaa.Pnu
