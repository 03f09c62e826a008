/-
  Contracts: the program's after, with each step.
-/
import Derived.Test.YtbnbhembnefndaaPacX
namespace Go.Proofs.Ytbnbhembnefndaa.Pac
open Go.RowKit BucM PacM Wd Bxs Buc
set_option linter.unusedVariables false
set_option linter.unusedSimpArgs false

abbrev fnV (F : FuncId) : Value := .func (.func F) #[] #[]
/-- What a step does to a copy. -/
def Step (w : World) (F : FuncId) (t k p q : Int) (x : Bk) (E : Int) (y : Bk) : Prop :=
  ∀ (U : World) (M : List Ent) (g b : Nat), Bx w ((g, 65, paA b p q) :: (b, 92, bkA x) :: M) U →
    Calls Try.prog F #[ptr g, .int .i64 t, .int .i64 k] U (fun e W => e = .returned (.int .i64 E) ∧ ∃ z, Bx w ((g, 65, paA b p q) :: (b, 92, bkA z) :: M) W ∧ (E = 0 → z = y))
theorem advance_step (w : World) {c : Pc} (hc : OkP c) (t : Int) : Step w 32 t 0 c.p c.q c.x (fillE c.x t c.p c.q) (fill c.x t c.p c.q) := by
  intro U M g b h
  refine (advance_bx h 0 1 rfl rfl hc.x t 0).mono ?_
  rintro e W ⟨rfl, hb⟩
  exact ⟨rfl, _, hb, fun e => fill_step e⟩
theorem send_step (w : World) {c : Pc} (hc : OkP c) (t n : Int) : Step w 36 t n c.p c.q c.x (sendE c t n) (send c t n).x := by
  intro U M g b h
  exact psend_bx h 0 1 rfl rfl hc t n
section
variable {w V : World} {L : List Ent} {g b : Nat} {x y : Bk} {p q t k E : Int}
set_option maxRecDepth 100000 in
set_option maxHeartbeats 2000000 in
theorem afterA_ok (h : Bx w L V) (i j : Nat) (hi : L[i]? = some (g, 67, paA b p q)) (hj : L[j]? = some (b, 92, bkA x)) (hx : Ok x) (hs : Step w 32 t k p q x 0 y) :
    Calls Try.prog 31 #[ptr g, fnV 32, .int .i64 t, .int .i64 k] V (fun e W => ∃ b', e = .returned (.tuple #[paV b' p q, .int .i64 0]) ∧ Bx w ((b', 92, bkA y) :: L) W) := by
  have ka : Hid (∀ U, Bx w L U → Calls Try.prog 29 #[ptr g] U (Same (.bool false) U)) := Lib.hid (fun U hU => absent_some ((hU.get i hi).cell 0))
  have D : Hid (Bx w ((V.heap.size, 65, #[.pointer none, .int .i64 0, .int .i64 0]) :: L) (V.alloc (.cells #[.pointer none, .int .i64 0, .int .i64 0] 65))) := Lib.hid (Bx.lay h _ _)
  have HS := Lib.hid hs
  have Hi := Lib.hid hi
  have Hj := Lib.hid hj
  clear h hi hj hs
  go_enter Try.func31, Try.ntmps31
  go_wp2_with fail
  generalize V.alloc (.cells #[.pointer none, .int .i64 0, .int .i64 0] 65) = w1 at *
  generalize V.heap.size = r at *
  refine (ka.out _ D.out.tail).mono ?_
  rintro e w' ⟨rfl, rfl⟩
  clear ka
  go_wp2_with fail
  refine (twin_bx D.out (i + 1) (j + 1) Hi.out Hj.out hx).mono ?_
  rintro e w2 ⟨b', rfl, hb⟩
  have D : Hid (Bx w ((b', 92, bkA x) :: (r, 65, #[.pointer none, .int .i64 0, .int .i64 0]) :: L) w2) := Lib.hid hb
  clear hb
  have D : Hid (Bx w ((w2.heap.size, 65, paA b' p q) :: (b', 92, bkA x) :: (r, 65, #[.pointer none, .int .i64 0, .int .i64 0]) :: L) (w2.alloc (.cells (paA b' p q) 65))) := Lib.hid (Bx.lay D.out _ _)
  go_wp2_with fail
  generalize w2.alloc (.cells (paA b' p q) 65) = w3 at *
  generalize w2.heap.size = c at *
  refine (HS.out _ _ _ _ D.out).mono ?_
  rintro e w4 ⟨rfl, z, hb, hz⟩
  obtain rfl := hz rfl
  have D := Lib.hid hb
  clear hb HS
  have Bc := D.out.get 0 rfl
  have cc0 := Bc.cell 0
  have cc1 := Bc.cell 1
  have cc2 := Bc.cell 2
  have tc := Bc.lt
  clear Bc
  have Br := D.out.get 2 rfl
  have cr0 := Br.cell 0
  have cr1 := Br.cell 1
  have cr2 := Br.cell 2
  have fr0 := Br.frozen 0
  have fr1 := Br.frozen 1
  have fr2 := Br.frozen 2
  have tr := Br.lt
  clear Br
  go_wp2_with fail
  clear cc0 cc1 cc2 tc cr0 cr1 cr2 fr0 fr1 fr2 tr
  have D := Lib.hid (((D.out.cell_ 2 rfl 0 (ptr b')).cell_ 2 rfl 1 (.int .i64 p)).cell_ 2 rfl 2 (.int .i64 q))
  generalize ((w4.setCell ⟨r, 0, none⟩ (ptr b')).setCell ⟨r, 1, none⟩ (.int .i64 p)).setCell ⟨r, 2, none⟩ (.int .i64 q) = w5 at *
  have D : Hid (Bx w ((c, 65, paA b' p q) :: (b', 92, bkA z) :: (r, 65, #[ptr b', .int .i64 p, .int .i64 q]) :: L) w5) := D
  have Br := D.out.get 2 rfl
  have cr0 := Br.cell 0
  have cr1 := Br.cell 1
  have cr2 := Br.cell 2
  clear Br
  refine bodyPost_ret (v := .tuple #[paV b' p q, .int .i64 0]) ?_ rfl ⟨b', rfl, D.out.tail.swap.tail⟩
  simp [results, Try.f31, go_sem, cr0, cr1, cr2]
set_option maxRecDepth 100000 in
set_option maxHeartbeats 2000000 in
theorem afterA_no (h : Bx w L V) (i j : Nat) (hi : L[i]? = some (g, 67, paA b p q)) (hj : L[j]? = some (b, 92, bkA x)) (hx : Ok x) (hs : Step w 32 t k p q x E y) (he : E ≠ 0) :
    Calls Try.prog 31 #[ptr g, fnV 32, .int .i64 t, .int .i64 k] V (To (.tuple #[noV, .int .i64 E]) w L) := by
  have ka : Hid (∀ U, Bx w L U → Calls Try.prog 29 #[ptr g] U (Same (.bool false) U)) := Lib.hid (fun U hU => absent_some ((hU.get i hi).cell 0))
  have D : Hid (Bx w ((V.heap.size, 65, #[.pointer none, .int .i64 0, .int .i64 0]) :: L) (V.alloc (.cells #[.pointer none, .int .i64 0, .int .i64 0] 65))) := Lib.hid (Bx.lay h _ _)
  have HS := Lib.hid hs
  have Hi := Lib.hid hi
  have Hj := Lib.hid hj
  clear h hi hj hs
  have hE : (E != 0) = true := by simp [he]
  clear he
  go_enter Try.func31, Try.ntmps31
  go_wp2_with fail
  generalize V.alloc (.cells #[.pointer none, .int .i64 0, .int .i64 0] 65) = w1 at *
  generalize V.heap.size = r at *
  refine (ka.out _ D.out.tail).mono ?_
  rintro e w' ⟨rfl, rfl⟩
  clear ka
  go_wp2_with fail
  refine (twin_bx D.out (i + 1) (j + 1) Hi.out Hj.out hx).mono ?_
  rintro e w2 ⟨b', rfl, hb⟩
  have D : Hid (Bx w ((b', 92, bkA x) :: (r, 65, #[.pointer none, .int .i64 0, .int .i64 0]) :: L) w2) := Lib.hid hb
  clear hb
  have D : Hid (Bx w ((w2.heap.size, 65, paA b' p q) :: (b', 92, bkA x) :: (r, 65, #[.pointer none, .int .i64 0, .int .i64 0]) :: L) (w2.alloc (.cells (paA b' p q) 65))) := Lib.hid (Bx.lay D.out _ _)
  go_wp2_with fail
  generalize w2.alloc (.cells (paA b' p q) 65) = w3 at *
  generalize w2.heap.size = c at *
  refine (HS.out _ _ _ _ D.out).mono ?_
  rintro e w4 ⟨rfl, z, hb, hz⟩
  clear hz
  have D := Lib.hid hb
  clear hb HS
  have Bc := D.out.get 0 rfl
  have cc0 := Bc.cell 0
  have cc1 := Bc.cell 1
  have cc2 := Bc.cell 2
  have tc := Bc.lt
  clear Bc
  have Br := D.out.get 2 rfl
  have cr0 := Br.cell 0
  have cr1 := Br.cell 1
  have cr2 := Br.cell 2
  have fr0 := Br.frozen 0
  have fr1 := Br.frozen 1
  have fr2 := Br.frozen 2
  have tr := Br.lt
  clear Br
  go_wp2_with fail
  clear cc0 cc1 cc2 tc cr0 cr1 cr2 fr0 fr1 fr2 tr
  have D := Lib.hid (((D.out.cell_ 2 rfl 0 (.pointer none)).cell_ 2 rfl 1 (.int .i64 0)).cell_ 2 rfl 2 (.int .i64 0))
  generalize ((w4.setCell ⟨r, 0, none⟩ (.pointer none)).setCell ⟨r, 1, none⟩ (.int .i64 0)).setCell ⟨r, 2, none⟩ (.int .i64 0) = w5 at *
  have D : Hid (Bx w ((c, 65, paA b' p q) :: (b', 92, bkA z) :: (r, 65, #[.pointer none, .int .i64 0, .int .i64 0]) :: L) w5) := D
  have Br := D.out.get 2 rfl
  have cr0 := Br.cell 0
  have cr1 := Br.cell 1
  have cr2 := Br.cell 2
  clear Br
  refine bodyPost_ret (v := .tuple #[noV, .int .i64 E]) ?_ rfl ⟨rfl, D.out.tail.tail.tail⟩
  simp [results, Try.f31, go_sem, cr0, cr1, cr2]
set_option maxRecDepth 100000 in
set_option maxHeartbeats 2000000 in
theorem afterS_ok (h : Bx w L V) (i j : Nat) (hi : L[i]? = some (g, 67, paA b p q)) (hj : L[j]? = some (b, 92, bkA x)) (hx : Ok x) (hs : Step w 36 t k p q x 0 y) :
    Calls Try.prog 31 #[ptr g, fnV 36, .int .i64 t, .int .i64 k] V (fun e W => ∃ b', e = .returned (.tuple #[paV b' p q, .int .i64 0]) ∧ Bx w ((b', 92, bkA y) :: L) W) := by
  have ka : Hid (∀ U, Bx w L U → Calls Try.prog 29 #[ptr g] U (Same (.bool false) U)) := Lib.hid (fun U hU => absent_some ((hU.get i hi).cell 0))
  have D : Hid (Bx w ((V.heap.size, 65, #[.pointer none, .int .i64 0, .int .i64 0]) :: L) (V.alloc (.cells #[.pointer none, .int .i64 0, .int .i64 0] 65))) := Lib.hid (Bx.lay h _ _)
  have HS := Lib.hid hs
  have Hi := Lib.hid hi
  have Hj := Lib.hid hj
  clear h hi hj hs
  go_enter Try.func31, Try.ntmps31
  go_wp2_with fail
  generalize V.alloc (.cells #[.pointer none, .int .i64 0, .int .i64 0] 65) = w1 at *
  generalize V.heap.size = r at *
  refine (ka.out _ D.out.tail).mono ?_
  rintro e w' ⟨rfl, rfl⟩
  clear ka
  go_wp2_with fail
  refine (twin_bx D.out (i + 1) (j + 1) Hi.out Hj.out hx).mono ?_
  rintro e w2 ⟨b', rfl, hb⟩
  have D : Hid (Bx w ((b', 92, bkA x) :: (r, 65, #[.pointer none, .int .i64 0, .int .i64 0]) :: L) w2) := Lib.hid hb
  clear hb
  have D : Hid (Bx w ((w2.heap.size, 65, paA b' p q) :: (b', 92, bkA x) :: (r, 65, #[.pointer none, .int .i64 0, .int .i64 0]) :: L) (w2.alloc (.cells (paA b' p q) 65))) := Lib.hid (Bx.lay D.out _ _)
  go_wp2_with fail
  generalize w2.alloc (.cells (paA b' p q) 65) = w3 at *
  generalize w2.heap.size = c at *
  refine (HS.out _ _ _ _ D.out).mono ?_
  rintro e w4 ⟨rfl, z, hb, hz⟩
  obtain rfl := hz rfl
  have D := Lib.hid hb
  clear hb HS
  have Bc := D.out.get 0 rfl
  have cc0 := Bc.cell 0
  have cc1 := Bc.cell 1
  have cc2 := Bc.cell 2
  have tc := Bc.lt
  clear Bc
  have Br := D.out.get 2 rfl
  have cr0 := Br.cell 0
  have cr1 := Br.cell 1
  have cr2 := Br.cell 2
  have fr0 := Br.frozen 0
  have fr1 := Br.frozen 1
  have fr2 := Br.frozen 2
  have tr := Br.lt
  clear Br
  go_wp2_with fail
  clear cc0 cc1 cc2 tc cr0 cr1 cr2 fr0 fr1 fr2 tr
  have D := Lib.hid (((D.out.cell_ 2 rfl 0 (ptr b')).cell_ 2 rfl 1 (.int .i64 p)).cell_ 2 rfl 2 (.int .i64 q))
  generalize ((w4.setCell ⟨r, 0, none⟩ (ptr b')).setCell ⟨r, 1, none⟩ (.int .i64 p)).setCell ⟨r, 2, none⟩ (.int .i64 q) = w5 at *
  have D : Hid (Bx w ((c, 65, paA b' p q) :: (b', 92, bkA z) :: (r, 65, #[ptr b', .int .i64 p, .int .i64 q]) :: L) w5) := D
  have Br := D.out.get 2 rfl
  have cr0 := Br.cell 0
  have cr1 := Br.cell 1
  have cr2 := Br.cell 2
  clear Br
  refine bodyPost_ret (v := .tuple #[paV b' p q, .int .i64 0]) ?_ rfl ⟨b', rfl, D.out.tail.swap.tail⟩
  simp [results, Try.f31, go_sem, cr0, cr1, cr2]
set_option maxRecDepth 100000 in
set_option maxHeartbeats 2000000 in
theorem afterS_no (h : Bx w L V) (i j : Nat) (hi : L[i]? = some (g, 67, paA b p q)) (hj : L[j]? = some (b, 92, bkA x)) (hx : Ok x) (hs : Step w 36 t k p q x E y) (he : E ≠ 0) :
    Calls Try.prog 31 #[ptr g, fnV 36, .int .i64 t, .int .i64 k] V (To (.tuple #[noV, .int .i64 E]) w L) := by
  have ka : Hid (∀ U, Bx w L U → Calls Try.prog 29 #[ptr g] U (Same (.bool false) U)) := Lib.hid (fun U hU => absent_some ((hU.get i hi).cell 0))
  have D : Hid (Bx w ((V.heap.size, 65, #[.pointer none, .int .i64 0, .int .i64 0]) :: L) (V.alloc (.cells #[.pointer none, .int .i64 0, .int .i64 0] 65))) := Lib.hid (Bx.lay h _ _)
  have HS := Lib.hid hs
  have Hi := Lib.hid hi
  have Hj := Lib.hid hj
  clear h hi hj hs
  have hE : (E != 0) = true := by simp [he]
  clear he
  go_enter Try.func31, Try.ntmps31
  go_wp2_with fail
  generalize V.alloc (.cells #[.pointer none, .int .i64 0, .int .i64 0] 65) = w1 at *
  generalize V.heap.size = r at *
  refine (ka.out _ D.out.tail).mono ?_
  rintro e w' ⟨rfl, rfl⟩
  clear ka
  go_wp2_with fail
  refine (twin_bx D.out (i + 1) (j + 1) Hi.out Hj.out hx).mono ?_
  rintro e w2 ⟨b', rfl, hb⟩
  have D : Hid (Bx w ((b', 92, bkA x) :: (r, 65, #[.pointer none, .int .i64 0, .int .i64 0]) :: L) w2) := Lib.hid hb
  clear hb
  have D : Hid (Bx w ((w2.heap.size, 65, paA b' p q) :: (b', 92, bkA x) :: (r, 65, #[.pointer none, .int .i64 0, .int .i64 0]) :: L) (w2.alloc (.cells (paA b' p q) 65))) := Lib.hid (Bx.lay D.out _ _)
  go_wp2_with fail
  generalize w2.alloc (.cells (paA b' p q) 65) = w3 at *
  generalize w2.heap.size = c at *
  refine (HS.out _ _ _ _ D.out).mono ?_
  rintro e w4 ⟨rfl, z, hb, hz⟩
  clear hz
  have D := Lib.hid hb
  clear hb HS
  have Bc := D.out.get 0 rfl
  have cc0 := Bc.cell 0
  have cc1 := Bc.cell 1
  have cc2 := Bc.cell 2
  have tc := Bc.lt
  clear Bc
  have Br := D.out.get 2 rfl
  have cr0 := Br.cell 0
  have cr1 := Br.cell 1
  have cr2 := Br.cell 2
  have fr0 := Br.frozen 0
  have fr1 := Br.frozen 1
  have fr2 := Br.frozen 2
  have tr := Br.lt
  clear Br
  go_wp2_with fail
  clear cc0 cc1 cc2 tc cr0 cr1 cr2 fr0 fr1 fr2 tr
  have D := Lib.hid (((D.out.cell_ 2 rfl 0 (.pointer none)).cell_ 2 rfl 1 (.int .i64 0)).cell_ 2 rfl 2 (.int .i64 0))
  generalize ((w4.setCell ⟨r, 0, none⟩ (.pointer none)).setCell ⟨r, 1, none⟩ (.int .i64 0)).setCell ⟨r, 2, none⟩ (.int .i64 0) = w5 at *
  have D : Hid (Bx w ((c, 65, paA b' p q) :: (b', 92, bkA z) :: (r, 65, #[.pointer none, .int .i64 0, .int .i64 0]) :: L) w5) := D
  have Br := D.out.get 2 rfl
  have cr0 := Br.cell 0
  have cr1 := Br.cell 1
  have cr2 := Br.cell 2
  clear Br
  refine bodyPost_ret (v := .tuple #[noV, .int .i64 E]) ?_ rfl ⟨rfl, D.out.tail.tail.tail⟩
  simp [results, Try.f31, go_sem, cr0, cr1, cr2]
end
end Go.Proofs.Ytbnbhembnefndaa.Pac
