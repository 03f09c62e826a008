/-
  The developers' space, as a thing in memory: its small methods, New, Copy, Sent, May, Persists.
-/
import Derived.Test.YtilkgjpgoogiiaaGreatWrdabJ50a
import Derived.Test.YtilkgjpgoogiiaaGreatSpaabJ32a
import Derived.Test.YtilkgjpgoogiiaaGreatLosabJ13a
import Derived.Test.YtilkgjpgoogiiaaGreatFrmabJ24a
import Derived.Test.YtilkgjpgoogiiaaGreatPerabJ46a
import Derived.Test.YtilkgjpgoogiiaaGreatWrdabJ17a
import Derived.Deep.RegionHeld3
import Derived.Deep.DeepCutAuto
import Derived.Test.YtilkgjpgoogiiaaGreatSpnabJ20a
set_option maxRecDepth 100000
set_option maxHeartbeats 16000000
set_option linter.unusedVariables false
set_option linter.unusedSimpArgs false
namespace Go.Proofs.YtilkgjpgoogiiaaGreat.Spa
open Go.RowKit Wd Bxs Obs Ths SpaM
open SntM (Pk putErr putL putTop dropL getP getB fly eli)
open Snt (pkC pkV pkA)
open SpnM (R addErr addTo cutErr cutTo has add)
open FrmM (Ack check)
open RttM (Rt)
open Rtt (rtV rtA)
def progO (s : Nat) (X : Sp) : Ob := some_ fun q : Nat × Nat × Nat => join [box s 80 #[ptr q.1, ptr q.2.1, ptr q.2.2, .int .i64 X.gr, .int .i64 X.lo, .int .i64 X.ti], logO q.1 X.room X.last X.l, setO q.2.1 256 X.kn, setO q.2.2 256 X.re]
section
variable {w V : World} {L M : List Ob} {s a b c : Nat} {X : Sp} {room : Nat} {last gr lo ti : Int} {l : List Pk} {kn re : List R}
theorem prog_open (h : Sx w (progO s X :: M) V) : ∃ a b c, Sx w (box s 80 #[ptr a, ptr b, ptr c, .int .i64 X.gr, .int .i64 X.lo, .int .i64 X.ti] :: logO a X.room X.last X.l :: setO b 256 X.kn :: setO c 256 X.re :: M) V := by
  obtain ⟨⟨a, b, c⟩, h⟩ := Sx.some_iff.1 h
  exact ⟨a, b, c, Sx.join_.1 h⟩
theorem prog_shut {a b c : Nat} (h : Sx w (box s 80 #[ptr a, ptr b, ptr c, .int .i64 X.gr, .int .i64 X.lo, .int .i64 X.ti] :: logO a X.room X.last X.l :: setO b 256 X.kn :: setO c 256 X.re :: M) V) : Sx w (progO s X :: M) V :=
  Sx.some_iff.2 ⟨(a, b, c), Sx.join_.2 h⟩
theorem pset_same {i : Nat} {o : Ob} (hi : L[i]? = some o) : L.set i o = L := by
  rw [(split_at hi).2 o]; exact (split_at hi).1.symm
theorem set_add256 {p : Nat} {l : List R} (h : Sx w L V) (i : Nat) (hi : L[i]? = some (setO p 256 l)) (lo hi2 : Int) : Calls Tryz.prog 97 #[ptr p, .int .i64 lo, .int .i64 hi2] V (Gets (.int .i64 (addErr 256 l lo hi2)) w (L.set i (setO p 256 (addTo 256 l lo hi2)))) := set_add h i hi lo hi2
theorem abs_bx (h : Blk V s 80 #[ptr a, ptr b, ptr c, .int .i64 gr, .int .i64 lo, .int .i64 ti]) : Calls Tryz.prog 52 #[ptr s] V (fun e W => e = .returned (.bool false) ∧ W = V) := by
  have c0 := h.cell 0
  have ts := h.lt
  clear h
  go_enter Tryz.func52, Tryz.ntmps52
  go_wp2_with fail
  go_ret
  exact ⟨rfl, rfl⟩
theorem nonum_sx (h : Sx w L V) : Calls Tryz.prog 44 #[] V (fun e W => ∃ q, e = .returned (ptr q) ∧ Sx w (setO q 256 [] :: L) W) := by
  have k : Hid (Calls Tryz.prog 85 #[.int .i64 256] V (fun e W => ∃ q, e = .returned (.tuple #[ptr q, .int .i64 0]) ∧ Sx w (setO q 256 [] :: L) W)) := Lib.hid (set_new h 256 (by decide) (by decide))
  clear h
  go_enter Tryz.func44, Tryz.ntmps44
  go_wp2_with fail
  refine k.out.mono ?_
  rintro e v1 ⟨q, rfl, hb⟩
  have D := Lib.hid hb
  clear hb
  go_wp2_with fail
  go_ret
  exact ⟨q, rfl, D.out⟩
theorem look_sx (h : Sx w L V) (i : Nat) (hi : L[i]? = some (box s 80 #[ptr a, ptr b, ptr c, .int .i64 gr, .int .i64 lo, .int .i64 ti])) : Calls Tryz.prog 80 #[ptr s] V (Gets (.agg #[ptr a, ptr b, ptr c, .int .i64 gr, .int .i64 lo, .int .i64 ti]) w L) := by
  have D : Hid (Sx w (box V.heap.size 78 #[.pointer none, .pointer none, .pointer none, .int .i64 0, .int .i64 0, .int .i64 0] :: L) (V.alloc (.cells #[.pointer none, .pointer none, .pointer none, .int .i64 0, .int .i64 0, .int .i64 0] 78))) := Lib.hid (h.new 78 #[.pointer none, .pointer none, .pointer none, .int .i64 0, .int .i64 0, .int .i64 0])
  have HB : Hid (Blk (V.alloc (.cells #[.pointer none, .pointer none, .pointer none, .int .i64 0, .int .i64 0, .int .i64 0] 78)) s 80 #[ptr a, ptr b, ptr c, .int .i64 gr, .int .i64 lo, .int .i64 ti]) := Lib.hid (D.out.box_ (i + 1) hi)
  clear h hi
  go_enter Tryz.func80, Tryz.ntmps80
  go_wp2_with fail
  generalize V.alloc (.cells #[.pointer none, .pointer none, .pointer none, .int .i64 0, .int .i64 0, .int .i64 0] 78) = v1 at *
  generalize V.heap.size = n at *
  refine (abs_bx HB.out).mono ?_
  rintro e v2 ⟨rfl, rfl⟩
  have y0 := HB.out.cell 0
  have y1 := HB.out.cell 1
  have y2 := HB.out.cell 2
  have y3 := HB.out.cell 3
  have y4 := HB.out.cell 4
  have y5 := HB.out.cell 5
  have ty := HB.out.lt
  have Bn := D.out.box_ 0 rfl
  have cn0 := Bn.cell 0
  have fn0 := Bn.frozen 0
  have cn1 := Bn.cell 1
  have fn1 := Bn.frozen 1
  have cn2 := Bn.cell 2
  have fn2 := Bn.frozen 2
  have cn3 := Bn.cell 3
  have fn3 := Bn.frozen 3
  have cn4 := Bn.cell 4
  have fn4 := Bn.frozen 4
  have cn5 := Bn.cell 5
  have fn5 := Bn.frozen 5
  have tn := Bn.lt
  clear Bn
  go_wp2_with fail
  have D : Hid (Sx w (box n 78 #[ptr a, ptr b, ptr c, .int .i64 gr, .int .i64 lo, .int .i64 ti] :: L) _) := Lib.hid ((((((D.out.cell_ 0 rfl 0 (ptr a)).cell_ 0 rfl 1 (ptr b)).cell_ 0 rfl 2 (ptr c)).cell_ 0 rfl 3 (.int .i64 gr)).cell_ 0 rfl 4 (.int .i64 lo)).cell_ 0 rfl 5 (.int .i64 ti))
  have d0 := (D.out.box_ 0 rfl).cell 0
  have d1 := (D.out.box_ 0 rfl).cell 1
  have d2 := (D.out.box_ 0 rfl).cell 2
  have d3 := (D.out.box_ 0 rfl).cell 3
  have d4 := (D.out.box_ 0 rfl).cell 4
  have d5 := (D.out.box_ 0 rfl).cell 5
  exact bodyPost_ret (v := .agg #[ptr a, ptr b, ptr c, .int .i64 gr, .int .i64 lo, .int .i64 ti]) (by simp [results, Tryz.results80, go_sem, d0, d1, d2, d3, d4, d5]) rfl ⟨rfl, D.out.tail⟩
theorem prog_great : Mt Tryz.prog 32 #[ptr s] (progO s X) (.int .i64 X.gr) (progO s X) := by
  intro w V M h
  obtain ⟨a, b, c, h⟩ := prog_open h
  obtain ⟨room, last, l, kn, re, gr, lo, ti⟩ := X
  have D : Hid (Sx w (box s 80 #[ptr a, ptr b, ptr c, .int .i64 gr, .int .i64 lo, .int .i64 ti] :: logO a room last l :: setO b 256 kn :: setO c 256 re :: M) V) := Lib.hid h
  clear h
  have hfl : ∀ W : World, (Instr.field 78 (.agg #[ptr a, ptr b, ptr c, .int .i64 gr, .int .i64 lo, .int .i64 ti]) 3).run Tryz.prog W = .ok (.int .i64 gr) W := fun _ => by kernel_rfl
  go_enter Tryz.func32, Tryz.ntmps32
  go_wp2_with fail
  refine (look_sx D.out 0 rfl).mono ?_
  rintro e v1 ⟨rfl, hb⟩
  have D := Lib.hid hb
  clear hb
  go_wp2_with fail
  go_ret
  exact ⟨rfl, prog_shut (X := ⟨room, last, l, kn, re, gr, lo, ti⟩) D.out⟩
theorem prog_loss : Mt Tryz.prog 33 #[ptr s] (progO s X) (.int .i64 X.lo) (progO s X) := by
  intro w V M h
  obtain ⟨a, b, c, h⟩ := prog_open h
  obtain ⟨room, last, l, kn, re, gr, lo, ti⟩ := X
  have D : Hid (Sx w (box s 80 #[ptr a, ptr b, ptr c, .int .i64 gr, .int .i64 lo, .int .i64 ti] :: logO a room last l :: setO b 256 kn :: setO c 256 re :: M) V) := Lib.hid h
  clear h
  have hfl : ∀ W : World, (Instr.field 78 (.agg #[ptr a, ptr b, ptr c, .int .i64 gr, .int .i64 lo, .int .i64 ti]) 4).run Tryz.prog W = .ok (.int .i64 lo) W := fun _ => by kernel_rfl
  go_enter Tryz.func33, Tryz.ntmps33
  go_wp2_with fail
  refine (look_sx D.out 0 rfl).mono ?_
  rintro e v1 ⟨rfl, hb⟩
  have D := Lib.hid hb
  clear hb
  go_wp2_with fail
  go_ret
  exact ⟨rfl, prog_shut (X := ⟨room, last, l, kn, re, gr, lo, ti⟩) D.out⟩
theorem prog_time : Mt Tryz.prog 40 #[ptr s] (progO s X) (.int .i64 X.ti) (progO s X) := by
  intro w V M h
  obtain ⟨a, b, c, h⟩ := prog_open h
  obtain ⟨room, last, l, kn, re, gr, lo, ti⟩ := X
  have D : Hid (Sx w (box s 80 #[ptr a, ptr b, ptr c, .int .i64 gr, .int .i64 lo, .int .i64 ti] :: logO a room last l :: setO b 256 kn :: setO c 256 re :: M) V) := Lib.hid h
  clear h
  have hfl : ∀ W : World, (Instr.field 78 (.agg #[ptr a, ptr b, ptr c, .int .i64 gr, .int .i64 lo, .int .i64 ti]) 5).run Tryz.prog W = .ok (.int .i64 ti) W := fun _ => by kernel_rfl
  go_enter Tryz.func40, Tryz.ntmps40
  go_wp2_with fail
  refine (look_sx D.out 0 rfl).mono ?_
  rintro e v1 ⟨rfl, hb⟩
  have D := Lib.hid hb
  clear hb
  go_wp2_with fail
  go_ret
  exact ⟨rfl, prog_shut (X := ⟨room, last, l, kn, re, gr, lo, ti⟩) D.out⟩
theorem prog_last : Mt Tryz.prog 35 #[ptr s] (progO s X) (.int .i64 X.last) (progO s X) := by
  intro w V M h
  obtain ⟨a, b, c, h⟩ := prog_open h
  obtain ⟨room, last, l, kn, re, gr, lo, ti⟩ := X
  have D : Hid (Sx w (box s 80 #[ptr a, ptr b, ptr c, .int .i64 gr, .int .i64 lo, .int .i64 ti] :: logO a room last l :: setO b 256 kn :: setO c 256 re :: M) V) := Lib.hid h
  clear h
  have hfl : ∀ W : World, (Instr.field 78 (.agg #[ptr a, ptr b, ptr c, .int .i64 gr, .int .i64 lo, .int .i64 ti]) 0).run Tryz.prog W = .ok (ptr a) W := fun _ => by kernel_rfl
  go_enter Tryz.func35, Tryz.ntmps35
  go_wp2_with fail
  refine (look_sx D.out 0 rfl).mono ?_
  rintro e v1 ⟨rfl, hb⟩
  have D := Lib.hid hb
  clear hb
  go_wp2_with fail
  refine (log_last D.out 1 rfl).mono ?_
  rintro e v2 ⟨rfl, hb⟩
  have D := Lib.hid hb
  clear hb
  go_wp2_with fail
  go_ret
  exact ⟨rfl, prog_shut (X := ⟨room, last, l, kn, re, gr, lo, ti⟩) D.out⟩
theorem prog_flight : Mt Tryz.prog 30 #[ptr s] (progO s X) (.int .i64 (fly X.l)) (progO s X) := by
  intro w V M h
  obtain ⟨a, b, c, h⟩ := prog_open h
  obtain ⟨room, last, l, kn, re, gr, lo, ti⟩ := X
  have D : Hid (Sx w (box s 80 #[ptr a, ptr b, ptr c, .int .i64 gr, .int .i64 lo, .int .i64 ti] :: logO a room last l :: setO b 256 kn :: setO c 256 re :: M) V) := Lib.hid h
  clear h
  have hfl : ∀ W : World, (Instr.field 78 (.agg #[ptr a, ptr b, ptr c, .int .i64 gr, .int .i64 lo, .int .i64 ti]) 0).run Tryz.prog W = .ok (ptr a) W := fun _ => by kernel_rfl
  go_enter Tryz.func30, Tryz.ntmps30
  go_wp2_with fail
  refine (look_sx D.out 0 rfl).mono ?_
  rintro e v1 ⟨rfl, hb⟩
  have D := Lib.hid hb
  clear hb
  go_wp2_with fail
  refine (log_flight D.out 1 rfl).mono ?_
  rintro e v2 ⟨rfl, hb⟩
  have D := Lib.hid hb
  clear hb
  go_wp2_with fail
  go_ret
  exact ⟨rfl, prog_shut (X := ⟨room, last, l, kn, re, gr, lo, ti⟩) D.out⟩
theorem prog_eliciting : Mt Tryz.prog 31 #[ptr s] (progO s X) (.int .i64 (eli X.l)) (progO s X) := by
  intro w V M h
  obtain ⟨a, b, c, h⟩ := prog_open h
  obtain ⟨room, last, l, kn, re, gr, lo, ti⟩ := X
  have D : Hid (Sx w (box s 80 #[ptr a, ptr b, ptr c, .int .i64 gr, .int .i64 lo, .int .i64 ti] :: logO a room last l :: setO b 256 kn :: setO c 256 re :: M) V) := Lib.hid h
  clear h
  have hfl : ∀ W : World, (Instr.field 78 (.agg #[ptr a, ptr b, ptr c, .int .i64 gr, .int .i64 lo, .int .i64 ti]) 0).run Tryz.prog W = .ok (ptr a) W := fun _ => by kernel_rfl
  go_enter Tryz.func31, Tryz.ntmps31
  go_wp2_with fail
  refine (look_sx D.out 0 rfl).mono ?_
  rintro e v1 ⟨rfl, hb⟩
  have D := Lib.hid hb
  clear hb
  go_wp2_with fail
  refine (log_eliciting D.out 1 rfl).mono ?_
  rintro e v2 ⟨rfl, hb⟩
  have D := Lib.hid hb
  clear hb
  go_wp2_with fail
  go_ret
  exact ⟨rfl, prog_shut (X := ⟨room, last, l, kn, re, gr, lo, ti⟩) D.out⟩
theorem prog_all0 (h : Sx w (progO s X :: M) V) : Calls Tryz.prog 28 #[ptr s] V (fun e W => ∃ A c, e = .returned (.slice A X.l.length c) ∧ Sx w (pkO A X.l.length c X.l :: progO s X :: M) W) := by
  obtain ⟨a, b, c, h⟩ := prog_open h
  obtain ⟨room, last, l, kn, re, gr, lo, ti⟩ := X
  have D : Hid (Sx w (box s 80 #[ptr a, ptr b, ptr c, .int .i64 gr, .int .i64 lo, .int .i64 ti] :: logO a room last l :: setO b 256 kn :: setO c 256 re :: M) V) := Lib.hid h
  clear h
  have hfl : ∀ W : World, (Instr.field 78 (.agg #[ptr a, ptr b, ptr c, .int .i64 gr, .int .i64 lo, .int .i64 ti]) 0).run Tryz.prog W = .ok (ptr a) W := fun _ => by kernel_rfl
  go_enter Tryz.func28, Tryz.ntmps28
  go_wp2_with fail
  refine (look_sx D.out 0 rfl).mono ?_
  rintro e v1 ⟨rfl, hb⟩
  have D := Lib.hid hb
  clear hb
  go_wp2_with fail
  refine (log_all D.out 1 rfl).mono ?_
  rintro e v2 ⟨A, d, rfl, hb⟩
  have D := Lib.hid hb
  clear hb
  go_wp2_with fail
  go_ret
  exact ⟨A, d, rfl, (prog_shut (X := ⟨room, last, l, kn, re, gr, lo, ti⟩) (D.out.sel 5 [1, 2, 3, 4, 0] [] (by decide))).swap⟩
theorem prog_disc : Mt Tryz.prog 23 #[ptr s] (progO s X) (.tuple #[]) (progO s (disc X)) := by
  intro w V M h
  obtain ⟨a, b, c, h⟩ := prog_open h
  obtain ⟨room, last, l, kn, re, gr, lo, ti⟩ := X
  have D : Hid (Sx w (box s 80 #[ptr a, ptr b, ptr c, .int .i64 gr, .int .i64 lo, .int .i64 ti] :: logO a room last l :: setO b 256 kn :: setO c 256 re :: M) V) := Lib.hid h
  clear h
  go_enter Tryz.func23, Tryz.ntmps23
  go_wp2_with fail
  refine (abs_bx (D.out.box_ 0 rfl)).mono ?_
  rintro e v0 ⟨rfl, rfl⟩
  have Bs := D.out.box_ 0 rfl
  have cs0 := Bs.cell 0
  have fs0 := Bs.frozen 0
  have cs1 := Bs.cell 1
  have fs1 := Bs.frozen 1
  have cs2 := Bs.cell 2
  have fs2 := Bs.frozen 2
  have cs3 := Bs.cell 3
  have fs3 := Bs.frozen 3
  have cs4 := Bs.cell 4
  have fs4 := Bs.frozen 4
  have cs5 := Bs.cell 5
  have fs5 := Bs.frozen 5
  have ts := Bs.lt
  clear Bs
  go_wp2_with fail
  clear cs0 fs0 cs1 fs1 cs2 fs2 cs3 fs3 cs4 fs4 cs5 fs5 ts
  refine (log_clear D.out 1 rfl).mono ?_
  rintro e v1 ⟨rfl, hb⟩
  have D := Lib.hid hb
  clear hb
  have D : Hid (Sx w (box s 80 #[ptr a, ptr b, ptr c, .int .i64 gr, .int .i64 lo, .int .i64 ti] :: logO a room last [] :: setO b 256 kn :: setO c 256 re :: M) v1) := D
  have Bs := D.out.box_ 0 rfl
  have cs0 := Bs.cell 0
  have fs0 := Bs.frozen 0
  have cs1 := Bs.cell 1
  have fs1 := Bs.frozen 1
  have cs2 := Bs.cell 2
  have fs2 := Bs.frozen 2
  have cs3 := Bs.cell 3
  have fs3 := Bs.frozen 3
  have cs4 := Bs.cell 4
  have fs4 := Bs.frozen 4
  have cs5 := Bs.cell 5
  have fs5 := Bs.frozen 5
  have ts := Bs.lt
  clear Bs
  go_wp2_with fail
  have D : Hid (Sx w (box s 80 #[ptr a, ptr b, ptr c, .int .i64 gr, .int .i64 (-1), .int .i64 (-1)] :: logO a room last [] :: setO b 256 kn :: setO c 256 re :: M) _) := Lib.hid ((D.out.cell_ 0 rfl 4 (.int .i64 (-1))).cell_ 0 rfl 5 (.int .i64 (-1)))
  refine bodyPost_ret (v := .tuple #[]) ?_ rfl ⟨rfl, prog_shut (X := ⟨room, last, [], kn, re, gr, -1, -1⟩) D.out⟩
  simp [results, Tryz.f23, go_sem]
theorem prog_new (h : Sx w L V) (room : Nat) (h1 : 1 ≤ room) (h2 : room ≤ 256) : Calls Tryz.prog 10 #[.int .i64 (room : Int)] V (fun e W => ∃ s, e = .returned (.tuple #[ptr s, .int .i64 0]) ∧ Sx w (progO s (SpaM.new room) :: L) W) := by
  have D : Hid (Sx w L V) := Lib.hid h
  clear h
  go_enter Tryz.func10, Tryz.ntmps10
  go_wp2_with fail
  refine (log_new D.out room h1 h2).mono ?_
  rintro e v1 ⟨a, rfl, hb⟩
  have D := Lib.hid hb
  clear hb
  go_wp2_with fail
  refine (nonum_sx D.out).mono ?_
  rintro e v2 ⟨b, rfl, hb⟩
  have D := Lib.hid hb
  clear hb
  go_wp2_with fail
  refine (nonum_sx D.out).mono ?_
  rintro e v3 ⟨c, rfl, hb⟩
  have D := Lib.hid hb
  clear hb
  go_wp2_with fail
  have D := Lib.hid (D.out.new 80 #[ptr a, ptr b, ptr c, .int .i64 (-1), .int .i64 (-1), .int .i64 (-1)])
  generalize v3.heap.size = n at *
  refine bodyPost_ret (v := .tuple #[ptr n, .int .i64 0]) ?_ rfl ⟨n, rfl, prog_shut (X := SpaM.new room) (D.out.sel 4 [0, 3, 2, 1] [] (by decide))⟩
  simp [results, Tryz.f10, go_sem]
theorem prog_bad (room : Int) (h : ¬ (1 ≤ room ∧ room ≤ 256)) (V : World) : Calls Tryz.prog 10 #[.int .i64 room] V (fun e W => e = .returned (.tuple #[.pointer none, .int .i64 2]) ∧ Kept V W) := by
  have k := Lib.hid (Snt.new_bad room V h)
  clear h
  go_enter Tryz.func10, Tryz.ntmps10
  go_wp2_with fail
  refine k.out.mono ?_
  rintro e v1 ⟨rfl, rfl⟩
  go_wp2_with fail
  refine bodyPost_ret (v := .tuple #[.pointer none, .int .i64 2]) ?_ rfl ⟨rfl, Kept.refl _⟩
  simp [results, Tryz.f10, go_sem]
theorem twin_sx (h : Sx w (logO a room last l :: setO b 256 kn :: setO c 256 re :: M) V) : Calls Tryz.prog 71 #[.agg #[ptr a, ptr b, ptr c, .int .i64 gr, .int .i64 lo, .int .i64 ti]] V (fun e W => ∃ x y z, e = .returned (.agg #[ptr x, ptr y, ptr z, .int .i64 gr, .int .i64 lo, .int .i64 ti]) ∧ Sx w (logO x room last l :: setO y 256 kn :: setO z 256 re :: logO a room last l :: setO b 256 kn :: setO c 256 re :: M) W) := by
  have k0 : Hid (∀ U n m, Sx w (box m 78 #[.pointer none, .pointer none, .pointer none, .int .i64 0, .int .i64 0, .int .i64 0] :: box n 78 #[ptr a, ptr b, ptr c, .int .i64 gr, .int .i64 lo, .int .i64 ti] :: logO a room last l :: setO b 256 kn :: setO c 256 re :: M) U → Calls Tryz.prog 111 #[ptr a] U (fun e W => ∃ q, e = .returned (ptr q) ∧ Sx w (logO q room last l :: box m 78 #[.pointer none, .pointer none, .pointer none, .int .i64 0, .int .i64 0, .int .i64 0] :: box n 78 #[ptr a, ptr b, ptr c, .int .i64 gr, .int .i64 lo, .int .i64 ti] :: logO a room last l :: setO b 256 kn :: setO c 256 re :: M) W)) := Lib.hid (fun U n m h => log_copy h 2 rfl)
  have k1 : Hid (∀ U n m x, Sx w (logO x room last l :: box m 78 #[.pointer none, .pointer none, .pointer none, .int .i64 0, .int .i64 0, .int .i64 0] :: box n 78 #[ptr a, ptr b, ptr c, .int .i64 gr, .int .i64 lo, .int .i64 ti] :: logO a room last l :: setO b 256 kn :: setO c 256 re :: M) U → Calls Tryz.prog 112 #[ptr b] U (fun e W => ∃ q, e = .returned (ptr q) ∧ Sx w (setO q 256 kn :: logO x room last l :: box m 78 #[.pointer none, .pointer none, .pointer none, .int .i64 0, .int .i64 0, .int .i64 0] :: box n 78 #[ptr a, ptr b, ptr c, .int .i64 gr, .int .i64 lo, .int .i64 ti] :: logO a room last l :: setO b 256 kn :: setO c 256 re :: M) W)) := Lib.hid (fun U n m x h => set_copy h 4 rfl)
  have k2 : Hid (∀ U n m x y, Sx w (setO y 256 kn :: logO x room last l :: box m 78 #[.pointer none, .pointer none, .pointer none, .int .i64 0, .int .i64 0, .int .i64 0] :: box n 78 #[ptr a, ptr b, ptr c, .int .i64 gr, .int .i64 lo, .int .i64 ti] :: logO a room last l :: setO b 256 kn :: setO c 256 re :: M) U → Calls Tryz.prog 112 #[ptr c] U (fun e W => ∃ q, e = .returned (ptr q) ∧ Sx w (setO q 256 re :: setO y 256 kn :: logO x room last l :: box m 78 #[.pointer none, .pointer none, .pointer none, .int .i64 0, .int .i64 0, .int .i64 0] :: box n 78 #[ptr a, ptr b, ptr c, .int .i64 gr, .int .i64 lo, .int .i64 ti] :: logO a room last l :: setO b 256 kn :: setO c 256 re :: M) W)) := Lib.hid (fun U n m x y h => set_copy h 6 rfl)
  have D : Hid (Sx w (box (V.alloc (.cells #[ptr a, ptr b, ptr c, .int .i64 gr, .int .i64 lo, .int .i64 ti] 78)).heap.size 78 #[.pointer none, .pointer none, .pointer none, .int .i64 0, .int .i64 0, .int .i64 0] :: box V.heap.size 78 #[ptr a, ptr b, ptr c, .int .i64 gr, .int .i64 lo, .int .i64 ti] :: logO a room last l :: setO b 256 kn :: setO c 256 re :: M) ((V.alloc (.cells #[ptr a, ptr b, ptr c, .int .i64 gr, .int .i64 lo, .int .i64 ti] 78)).alloc (.cells #[.pointer none, .pointer none, .pointer none, .int .i64 0, .int .i64 0, .int .i64 0] 78))) := Lib.hid ((h.new 78 #[ptr a, ptr b, ptr c, .int .i64 gr, .int .i64 lo, .int .i64 ti]).new 78 #[.pointer none, .pointer none, .pointer none, .int .i64 0, .int .i64 0, .int .i64 0])
  clear h
  go_enter Tryz.func71, Tryz.ntmps71
  go_upto_region 1 with (fail)
  generalize (V.alloc (.cells #[ptr a, ptr b, ptr c, .int .i64 gr, .int .i64 lo, .int .i64 ti] 78)).alloc (.cells #[.pointer none, .pointer none, .pointer none, .int .i64 0, .int .i64 0, .int .i64 0] 78) = v1 at *
  generalize hm : (V.alloc (.cells #[ptr a, ptr b, ptr c, .int .i64 gr, .int .i64 lo, .int .i64 ti] 78)).heap.size = m at *
  rw [World.size_alloc] at hm
  subst hm
  generalize V.heap.size = n at *
  have D : Hid (Sx w (box (n + 1) 78 #[.pointer none, .pointer none, .pointer none, .int .i64 0, .int .i64 0, .int .i64 0] :: box n 78 #[ptr a, ptr b, ptr c, .int .i64 gr, .int .i64 lo, .int .i64 ti] :: logO a room last l :: setO b 256 kn :: setO c 256 re :: M) v1.drew) := Lib.hid (D.out.on (Kept.refl _).drew)
  refine (wpIn_wide (n := 5)).1 ?_
  refine Hd.wpIn_region_T (fun j => decide (10 ≤ j)) (fun U => U.cell? ⟨n, 0, none⟩ = some (ptr a) ∧ U.cell? ⟨n, 1, none⟩ = some (ptr b) ∧ U.cell? ⟨n, 2, none⟩ = some (ptr c)) (by kernel_rfl) ?_
  have hSw : (fun U => U.cell? ⟨n, 0, none⟩ = some (ptr a) ∧ U.cell? ⟨n, 1, none⟩ = some (ptr b) ∧ U.cell? ⟨n, 2, none⟩ = some (ptr c)) v1.drew := ⟨(D.out.box_ 1 rfl).cell 0, (D.out.box_ 1 rfl).cell 1, (D.out.box_ 1 rfl).cell 2⟩
  try simp only [List.getElem_toArray, List.getElem_cons_zero, List.getElem_cons_succ, Act.put, List.setIfInBounds_toArray, List.set_cons_zero, List.set_cons_succ]
  refine Hd.wpAnyInT_take (i := 0) (oi := _) (v := ?v1) rfl (by kernel_rfl) (by kernel_rfl) (by kernel_rfl) (by kernel_rfl) (by kernel_rfl) (fun _ _ _ h => h) (Or.inl ⟨by rfl, ?hy1⟩) (fun _ => rfl) (by assumption) ?rest1
  case hy1 => (intro w hSw; (try dsimp only at hSw); (try simp only [List.getElem_toArray, List.getElem_cons_zero, List.getElem_cons_succ]); go_simp; all_goals (with_reducible rfl))
  try simp only [List.getElem_toArray, List.getElem_cons_zero, List.getElem_cons_succ, Act.put, List.setIfInBounds_toArray, List.set_cons_zero, List.set_cons_succ]
  refine Hd.wpAnyInT_take (i := 1) (oi := _) (v := ?v2) rfl (by kernel_rfl) (by kernel_rfl) (by kernel_rfl) (by kernel_rfl) (by kernel_rfl) (fun _ _ _ h => h) (Or.inl ⟨by rfl, ?hy2⟩) (fun _ => rfl) (by assumption) ?rest2
  case hy2 => (intro w hSw; (try dsimp only at hSw); (try simp only [List.getElem_toArray, List.getElem_cons_zero, List.getElem_cons_succ]); go_simp; all_goals (with_reducible rfl))
  try simp only [List.getElem_toArray, List.getElem_cons_zero, List.getElem_cons_succ, Act.put, List.setIfInBounds_toArray, List.set_cons_zero, List.set_cons_succ]
  refine Hd.wpAnyInT_take (i := 3) (oi := _) (v := ?v3) rfl (by kernel_rfl) (by kernel_rfl) (by kernel_rfl) (by kernel_rfl) (by kernel_rfl) (fun _ _ _ h => h) (Or.inl ⟨by rfl, ?hy3⟩) (fun _ => rfl) (by assumption) ?rest3
  case hy3 => (intro w hSw; (try dsimp only at hSw); (try simp only [List.getElem_toArray, List.getElem_cons_zero, List.getElem_cons_succ]); go_simp; all_goals (with_reducible rfl))
  try simp only [List.getElem_toArray, List.getElem_cons_zero, List.getElem_cons_succ, Act.put, List.setIfInBounds_toArray, List.set_cons_zero, List.set_cons_succ]
  refine Hd.wpAnyInT_take (i := 4) (oi := _) (v := ?v4) rfl (by kernel_rfl) (by kernel_rfl) (by kernel_rfl) (by kernel_rfl) (by kernel_rfl) (fun _ _ _ h => h) (Or.inl ⟨by rfl, ?hy4⟩) (fun _ => rfl) (by assumption) ?rest4
  case hy4 => (intro w hSw; (try dsimp only at hSw); (try simp only [List.getElem_toArray, List.getElem_cons_zero, List.getElem_cons_succ]); go_simp; all_goals (with_reducible rfl))
  try simp only [List.getElem_toArray, List.getElem_cons_zero, List.getElem_cons_succ, Act.put, List.setIfInBounds_toArray, List.set_cons_zero, List.set_cons_succ]
  refine Hd.wpAnyInT_take (i := 6) (oi := _) (v := ?v5) rfl (by kernel_rfl) (by kernel_rfl) (by kernel_rfl) (by kernel_rfl) (by kernel_rfl) (fun _ _ _ h => h) (Or.inl ⟨by rfl, ?hy5⟩) (fun _ => rfl) (by assumption) ?rest5
  case hy5 => (intro w hSw; (try dsimp only at hSw); (try simp only [List.getElem_toArray, List.getElem_cons_zero, List.getElem_cons_succ]); go_simp; all_goals (with_reducible rfl))
  try simp only [List.getElem_toArray, List.getElem_cons_zero, List.getElem_cons_succ, Act.put, List.setIfInBounds_toArray, List.set_cons_zero, List.set_cons_succ]
  refine Hd.wpAnyInT_take (i := 7) (oi := _) (v := ?v6) rfl (by kernel_rfl) (by kernel_rfl) (by kernel_rfl) (by kernel_rfl) (by kernel_rfl) (fun _ _ _ h => h) (Or.inl ⟨by rfl, ?hy6⟩) (fun _ => rfl) (by assumption) ?rest6
  case hy6 => (intro w hSw; (try dsimp only at hSw); (try simp only [List.getElem_toArray, List.getElem_cons_zero, List.getElem_cons_succ]); go_simp; all_goals (with_reducible rfl))
  try simp only [List.getElem_toArray, List.getElem_cons_zero, List.getElem_cons_succ, Act.put, List.setIfInBounds_toArray, List.set_cons_zero, List.set_cons_succ]
  clear hSw
  refine Hd.wpAnyInT_one (i := 2) (o := _) (by kernel_rfl) rfl (by rfl) (fun K hK => ?_)
  try simp only [List.getElem_toArray, List.getElem_cons_zero, List.getElem_cons_succ]
  go_simp
  refine ⟨trivial, ?_⟩
  refine (callsIn_wide.2 (k0.out _ _ _ D.out)).mono ?_
  rintro e w' ⟨x, rfl, hb⟩
  have D := Lib.hid hb
  clear hb
  refine hK.out _ _ (fun hT => ?_) ?_
  · exact ⟨(D.out.box_ 2 rfl).cell 0, (D.out.box_ 2 rfl).cell 1, (D.out.box_ 2 rfl).cell 2⟩
  clear hK K
  try simp only [List.getElem_toArray, List.getElem_cons_zero, List.getElem_cons_succ, Act.put, List.setIfInBounds_toArray, List.set_cons_zero, List.set_cons_succ]
  have hSw : (fun U => U.cell? ⟨n, 0, none⟩ = some (ptr a) ∧ U.cell? ⟨n, 1, none⟩ = some (ptr b) ∧ U.cell? ⟨n, 2, none⟩ = some (ptr c)) w' := ⟨(D.out.box_ 2 rfl).cell 0, (D.out.box_ 2 rfl).cell 1, (D.out.box_ 2 rfl).cell 2⟩
  refine Hd.wpAnyInT_take (i := 9) (oi := _) (v := ?v7) rfl (by kernel_rfl) (by kernel_rfl) (by kernel_rfl) (by kernel_rfl) (by kernel_rfl) (fun _ _ _ h => h) (Or.inl ⟨by rfl, ?hy7⟩) (fun _ => rfl) (by assumption) ?rest7
  case hy7 => (intro w hSw; (try dsimp only at hSw); (try simp only [List.getElem_toArray, List.getElem_cons_zero, List.getElem_cons_succ]); go_simp; all_goals (with_reducible rfl))
  try simp only [List.getElem_toArray, List.getElem_cons_zero, List.getElem_cons_succ, Act.put, List.setIfInBounds_toArray, List.set_cons_zero, List.set_cons_succ]
  clear hSw
  refine Hd.wpAnyInT_one (i := 5) (o := _) (by kernel_rfl) rfl (by rfl) (fun K hK => ?_)
  try simp only [List.getElem_toArray, List.getElem_cons_zero, List.getElem_cons_succ]
  go_simp
  refine ⟨trivial, ?_⟩
  refine (callsIn_wide.2 (k1.out _ _ _ _ D.out)).mono ?_
  rintro e w' ⟨y, rfl, hb⟩
  have D := Lib.hid hb
  clear hb
  refine hK.out _ _ (fun hT => ?_) ?_
  · exact ⟨(D.out.box_ 3 rfl).cell 0, (D.out.box_ 3 rfl).cell 1, (D.out.box_ 3 rfl).cell 2⟩
  clear hK K
  try simp only [List.getElem_toArray, List.getElem_cons_zero, List.getElem_cons_succ, Act.put, List.setIfInBounds_toArray, List.set_cons_zero, List.set_cons_succ]
  refine Hd.wpAnyInT_one (i := 8) (o := _) (by kernel_rfl) rfl (by rfl) (fun K hK => ?_)
  try simp only [List.getElem_toArray, List.getElem_cons_zero, List.getElem_cons_succ]
  go_simp
  refine ⟨trivial, ?_⟩
  refine (callsIn_wide.2 (k2.out _ _ _ _ _ D.out)).mono ?_
  rintro e w' ⟨z, rfl, hb⟩
  have D := Lib.hid hb
  clear hb
  refine hK.out _ _ (fun hT => ?_) ?_
  · exact ⟨(D.out.box_ 4 rfl).cell 0, (D.out.box_ 4 rfl).cell 1, (D.out.box_ 4 rfl).cell 2⟩
  clear hK K
  try simp only [List.getElem_toArray, List.getElem_cons_zero, List.getElem_cons_succ, Act.put, List.setIfInBounds_toArray, List.set_cons_zero, List.set_cons_succ]
  have D1 := Lib.hid (D.out.cell_ 4 rfl 0 (ptr x))
  have D2 := Lib.hid (D1.out.cell_ 4 rfl 1 (ptr y))
  have Bt := D.out.box_ 4 rfl
  have ct0 := Bt.cell 0
  have ft0 := Bt.frozen 0
  have ct1 := Bt.cell 1
  have ft1 := Bt.frozen 1
  have ct2 := Bt.cell 2
  have ft2 := Bt.frozen 2
  have tt := Bt.lt
  clear Bt
  have Bu := D1.out.box_ 4 rfl
  have cu0 := Bu.cell 0
  have fu0 := Bu.frozen 0
  have cu1 := Bu.cell 1
  have fu1 := Bu.frozen 1
  have cu2 := Bu.cell 2
  have fu2 := Bu.frozen 2
  have tu := Bu.lt
  clear Bu
  have Bv := D2.out.box_ 4 rfl
  have cv0 := Bv.cell 0
  have fv0 := Bv.frozen 0
  have cv1 := Bv.cell 1
  have fv1 := Bv.frozen 1
  have cv2 := Bv.cell 2
  have fv2 := Bv.frozen 2
  have tv := Bv.lt
  clear Bv
  refine Hd.wpAnyInT_one (i := 10) (o := _) (by kernel_rfl) rfl (by rfl) (fun K hK => ?_)
  try simp only [List.getElem_toArray, List.getElem_cons_zero, List.getElem_cons_succ]
  go_simp
  refine hK.out _ _ (fun hT => ?_) ?_
  · exact absurd hT (by decide)
  clear hK K
  try simp only [List.getElem_toArray, List.getElem_cons_zero, List.getElem_cons_succ, Act.put, List.setIfInBounds_toArray, List.set_cons_zero, List.set_cons_succ]
  refine Hd.wpAnyInT_one (i := 11) (o := _) (by kernel_rfl) rfl (by rfl) (fun K hK => ?_)
  try simp only [List.getElem_toArray, List.getElem_cons_zero, List.getElem_cons_succ]
  go_simp
  refine hK.out _ _ (fun hT => ?_) ?_
  · exact absurd hT (by decide)
  clear hK K
  try simp only [List.getElem_toArray, List.getElem_cons_zero, List.getElem_cons_succ, Act.put, List.setIfInBounds_toArray, List.set_cons_zero, List.set_cons_succ]
  refine Hd.wpAnyInT_one (i := 12) (o := _) (by kernel_rfl) rfl (by rfl) (fun K hK => ?_)
  try simp only [List.getElem_toArray, List.getElem_cons_zero, List.getElem_cons_succ]
  go_simp
  refine hK.out _ _ (fun hT => ?_) ?_
  · exact absurd hT (by decide)
  clear hK K
  try simp only [List.getElem_toArray, List.getElem_cons_zero, List.getElem_cons_succ, Act.put, List.setIfInBounds_toArray, List.set_cons_zero, List.set_cons_succ]
  refine Hd.wpAnyInT_one (i := 13) (o := _) (by kernel_rfl) rfl (by rfl) (fun K hK => ?_)
  try simp only [List.getElem_toArray, List.getElem_cons_zero, List.getElem_cons_succ]
  go_simp
  refine hK.out _ _ (fun hT => ?_) ?_
  · exact absurd hT (by decide)
  clear hK K
  try simp only [List.getElem_toArray, List.getElem_cons_zero, List.getElem_cons_succ, Act.put, List.setIfInBounds_toArray, List.set_cons_zero, List.set_cons_succ]
  refine Hd.wpAnyInT_one (i := 14) (o := _) (by kernel_rfl) rfl (by rfl) (fun K hK => ?_)
  try simp only [List.getElem_toArray, List.getElem_cons_zero, List.getElem_cons_succ]
  go_simp
  refine hK.out _ _ (fun hT => ?_) ?_
  · exact absurd hT (by decide)
  clear hK K
  try simp only [List.getElem_toArray, List.getElem_cons_zero, List.getElem_cons_succ, Act.put, List.setIfInBounds_toArray, List.set_cons_zero, List.set_cons_succ]
  have D := Lib.hid (D2.out.cell_ 4 rfl 2 (ptr z))
  clear D1 D2 k0 k1 k2
  clear ct0 ft0 ct1 ft1 ct2 ft2 tt
  clear cu0 fu0 cu1 fu1 cu2 fu2 tu
  clear cv0 fv0 cv1 fv1 cv2 fv2 tv
  refine Hd.wpAnyInT_done (by kernel_rfl) ?_ _
  generalize World.setCell _ ⟨n, 2, none⟩ (ptr z) = v9 at *
  have D : Hid (Sx w (setO z 256 re :: setO y 256 kn :: logO x room last l :: box (n + 1) 78 #[.pointer none, .pointer none, .pointer none, .int .i64 0, .int .i64 0, .int .i64 0] :: box n 78 #[ptr x, ptr y, ptr z, .int .i64 gr, .int .i64 lo, .int .i64 ti] :: logO a room last l :: setO b 256 kn :: setO c 256 re :: M) v9) := D
  have Bq := D.out.box_ 3 rfl
  have cq0 := Bq.cell 0
  have fq0 := Bq.frozen 0
  have cq1 := Bq.cell 1
  have fq1 := Bq.frozen 1
  have cq2 := Bq.cell 2
  have fq2 := Bq.frozen 2
  have cq3 := Bq.cell 3
  have fq3 := Bq.frozen 3
  have cq4 := Bq.cell 4
  have fq4 := Bq.frozen 4
  have cq5 := Bq.cell 5
  have fq5 := Bq.frozen 5
  have tq := Bq.lt
  clear Bq
  have Bt := D.out.box_ 4 rfl
  have ct0 := Bt.cell 0
  have ft0 := Bt.frozen 0
  have ct1 := Bt.cell 1
  have ft1 := Bt.frozen 1
  have ct2 := Bt.cell 2
  have ft2 := Bt.frozen 2
  have ct3 := Bt.cell 3
  have ft3 := Bt.frozen 3
  have ct4 := Bt.cell 4
  have ft4 := Bt.frozen 4
  have ct5 := Bt.cell 5
  have ft5 := Bt.frozen 5
  have tt := Bt.lt
  clear Bt
  go_wp2_with fail
  have D : Hid (Sx w (setO z 256 re :: setO y 256 kn :: logO x room last l :: box (n + 1) 78 #[ptr x, ptr y, ptr z, .int .i64 gr, .int .i64 lo, .int .i64 ti] :: box n 78 #[ptr x, ptr y, ptr z, .int .i64 gr, .int .i64 lo, .int .i64 ti] :: logO a room last l :: setO b 256 kn :: setO c 256 re :: M) _) := Lib.hid ((((((D.out.cell_ 3 rfl 0 (ptr x)).cell_ 3 rfl 1 (ptr y)).cell_ 3 rfl 2 (ptr z)).cell_ 3 rfl 3 (.int .i64 gr)).cell_ 3 rfl 4 (.int .i64 lo)).cell_ 3 rfl 5 (.int .i64 ti))
  have d0 := (D.out.box_ 3 rfl).cell 0
  have d1 := (D.out.box_ 3 rfl).cell 1
  have d2 := (D.out.box_ 3 rfl).cell 2
  have d3 := (D.out.box_ 3 rfl).cell 3
  have d4 := (D.out.box_ 3 rfl).cell 4
  have d5 := (D.out.box_ 3 rfl).cell 5
  exact bodyPost_ret (v := .agg #[ptr x, ptr y, ptr z, .int .i64 gr, .int .i64 lo, .int .i64 ti]) (by simp [results, Tryz.results71, go_sem, d0, d1, d2, d3, d4, d5]) rfl ⟨x, y, z, rfl, D.out.sel 8 [2, 1, 0, 5, 6, 7] [3, 4] (by decide)⟩
theorem prog_copy0 (h : Sx w (progO s X :: M) V) : Calls Tryz.prog 21 #[ptr s] V (fun e W => ∃ q, e = .returned (ptr q) ∧ Sx w (progO q X :: progO s X :: M) W) := by
  obtain ⟨a, b, c, h⟩ := prog_open h
  obtain ⟨room, last, l, kn, re, gr, lo, ti⟩ := X
  have D : Hid (Sx w (box s 80 #[ptr a, ptr b, ptr c, .int .i64 gr, .int .i64 lo, .int .i64 ti] :: logO a room last l :: setO b 256 kn :: setO c 256 re :: M) V) := Lib.hid h
  clear h
  have kt : Hid (∀ U, Sx w (box s 80 #[ptr a, ptr b, ptr c, .int .i64 gr, .int .i64 lo, .int .i64 ti] :: logO a room last l :: setO b 256 kn :: setO c 256 re :: M) U → Calls Tryz.prog 71 #[.agg #[ptr a, ptr b, ptr c, .int .i64 gr, .int .i64 lo, .int .i64 ti]] U (fun e W => ∃ x y z, e = .returned (.agg #[ptr x, ptr y, ptr z, .int .i64 gr, .int .i64 lo, .int .i64 ti]) ∧ Sx w (logO x room last l :: setO y 256 kn :: setO z 256 re :: box s 80 #[ptr a, ptr b, ptr c, .int .i64 gr, .int .i64 lo, .int .i64 ti] :: logO a room last l :: setO b 256 kn :: setO c 256 re :: M) W)) := Lib.hid (fun U h => (twin_sx (h.sel 4 [1, 2, 3, 0] [] (by decide))).mono fun e W ⟨x, y, z, he, hx⟩ => ⟨x, y, z, he, hx.sel 7 [0, 1, 2, 6, 3, 4, 5] [] (by decide)⟩)
  go_enter Tryz.func21, Tryz.ntmps21
  go_wp2_with fail
  refine (abs_bx (D.out.box_ 0 rfl)).mono ?_
  rintro e v0 ⟨rfl, rfl⟩
  have Bs := D.out.box_ 0 rfl
  have cs0 := Bs.cell 0
  have fs0 := Bs.frozen 0
  have cs1 := Bs.cell 1
  have fs1 := Bs.frozen 1
  have cs2 := Bs.cell 2
  have fs2 := Bs.frozen 2
  have cs3 := Bs.cell 3
  have fs3 := Bs.frozen 3
  have cs4 := Bs.cell 4
  have fs4 := Bs.frozen 4
  have cs5 := Bs.cell 5
  have fs5 := Bs.frozen 5
  have ts := Bs.lt
  clear Bs
  go_wp2_with fail
  clear cs0 fs0 cs1 fs1 cs2 fs2 cs3 fs3 cs4 fs4 cs5 fs5 ts
  refine (kt.out _ D.out).mono ?_
  rintro e v1 ⟨x, y, z, rfl, hb⟩
  have D := Lib.hid hb
  clear hb
  go_wp2_with fail
  have D := Lib.hid (D.out.new 80 #[ptr x, ptr y, ptr z, .int .i64 gr, .int .i64 lo, .int .i64 ti])
  generalize v1.heap.size = n at *
  go_ret
  exact ⟨n, rfl, prog_shut (X := ⟨room, last, l, kn, re, gr, lo, ti⟩) ((prog_shut (X := ⟨room, last, l, kn, re, gr, lo, ti⟩) (D.out.sel 8 [4, 5, 6, 7, 0, 1, 2, 3] [] (by decide))).sel 5 [1, 2, 3, 4, 0] [] (by decide))⟩
theorem prog_copy (h : Sx w L V) (i : Nat) (hi : L[i]? = some (progO s X)) : Calls Tryz.prog 21 #[ptr s] V (fun e W => ∃ q, e = .returned (ptr q) ∧ Sx w (progO q X :: L) W) :=
  (prog_copy0 (h.perm (front_at hi))).mono fun e W ⟨q, he, hx⟩ => ⟨q, he, by
    have := hx.perm ((back_at hi (progO s X)).cons (progO q X))
    rwa [pset_same hi] at this⟩
theorem prog_all (h : Sx w L V) (i : Nat) (hi : L[i]? = some (progO s X)) : Calls Tryz.prog 28 #[ptr s] V (fun e W => ∃ A c, e = .returned (.slice A X.l.length c) ∧ Sx w (pkO A X.l.length c X.l :: L) W) :=
  (prog_all0 (h.perm (front_at hi))).mono fun e W ⟨A, c, he, hx⟩ => ⟨A, c, he, by
    have := hx.perm ((back_at hi (progO s X)).cons (pkO A X.l.length c X.l))
    rwa [pset_same hi] at this⟩
end
end Go.Proofs.YtilkgjpgoogiiaaGreat.Spa
namespace Go.Proofs.YtilkgjpgoogiiaaGreat.Spn
open Go.RowKit SpnM Wd
attribute [local go_sem] Oper.semAt_some
theorem wpListIn_lays {α : Type} {C : Cd.Cod α} {t : TypeId} {F : Fence} {n : Nat} {P : Program} {S : TypeId} (E : Cd.Elt P C S t) {w W : World} {ops : Array Oper} {rest : List Oper} {o : Oper} {a : Act} {Q : Exit → Act → World → Prop} (hgd : o.guard = none) (s x : Operand)
    (ho : o.op = .call { callee := .builtin .append, args := #[s, x], argTypes := #[S, S] }) {b : Nat} {v : Value} {L N : List α} (hs : a.eval s = v) (hlay : Cd.Lay C t w b W v L) (hw : w.heap.size ≤ b) (hb : b ≤ W.heap.size) (hlen : L.length + N.length ≤ 1000000)
    {B : Option Addr} {m d : Nat} (hN : Cd.Rw C t W B m d N) (hx : a.eval x = .slice B m d)
    (h : ∀ v' w', Hid (Cd.Lay C t w b w' v' (L ++ N)) → Hid (W.grownBy w' v.ownBlock) → wpListIn F n P ops Q rest (a.put o.dst v') w') : wpListIn F n P ops Q (o :: rest) a W := by
  obtain ⟨A, c, rfl, hrow, hf, hk⟩ := hlay
  obtain ⟨v', w', hr, h1, h2⟩ := Cd.run_lay E o.type hrow hf hk hw hb hlen hN
  refine wpListIn_plain hgd fun K hK' => ?_
  unfold Oper.wpIn
  refine ⟨?_, ?_⟩
  · simp [Oper.about, ho, resolve, Target.leads, Sem.run_pure]
  · rw [Oper.semAt_plain F _ _ (by rw [ho]; intro c hc'; cases hc')]
    simp [execOp, ho, resolve, invoke, builtin, hs, hx, hr, Result.andThen]
    exact hK' _ _ (h v' w' (Lib.hid h1) (Lib.hid (by show World.grownBy _ _ _; rw [Cd.own_block]; exact h2)))
abbrev At := Int × R
def encb (x : At) : Array Value := #[.int .i64 x.1, .agg #[.int .i64 x.2.1, .int .i64 x.2.2]]
theorem back1_in (n : Nat) (hn : 1 ≤ n) (ly bs n₀ m c : Nat) (A : Option Addr) (l : List R) (J Jx : List At → World → Prop)
    (hY : ∀ pre x W, J pre W → pre.length < l.length → YieldAt Fence.wide (n - 1) Tryz.prog ly #[.int .i64 x.1, .agg #[.int .i64 x.2.1, .int .i64 x.2.2]] W fun e W' =>
      (e = .returned (.bool true) ∧ J (pre ++ [x]) W' ∧ Kp n₀ bs W W') ∨ (e = .returned (.bool false) ∧ Jx (pre ++ [x]) W'))
    (W : World) (hbs : W.cell? ⟨bs, 0, none⟩ = some (.slice A m c)) (hS : Row W A m c l) (hf : ∀ k, own A = some k → k < n₀) (h0 : J [] W) :
    CallsIn Fence.wide n Tryz.prog 134 #[.func (.yield ly) #[] #[], .pointer (some ⟨bs, 0, none⟩)] W fun e W' => (∃ v, e = .returned v) ∧
      ((∃ ys, ys.map (·.2) = l.reverse ∧ J ys W') ∨ (∃ pre, True ∧ Jx pre W')) := by
  have hlm := hS.len
  have hcap := hS.cap
  unfold maxLen at hcap
  have HS := Lib.hid hS
  have HF := Lib.hid hf
  have HY := Lib.hid hY
  clear hS hf hY
  refine callsIn_of_wp Tryz.func134 rfl trivial ?_ rfl
  simp only [Tryz.ntmps134, List.size_toArray, List.length_cons, List.length_nil, Nat.reduceAdd, Nat.reduceSub, Array.replicate_succ, Array.replicate_zero, List.push_toArray, List.append_toArray, List.nil_append, List.cons_append]
  have hwm : IntKind.i64.wrap ((m : Int) - 1) = (m : Int) - 1 := IntWalk.i64_in _ (by omega)
  gi_wp2
  gi_loopw [3] (fun i wr => ∃ z : Int, i = .int .i64 z ∧ -1 ≤ z ∧ z < m ∧ Hid (Row wr A m c l) ∧ Hid (wr.cell? ⟨bs, 0, none⟩ = some (.slice A m c)) ∧ Hid (∃ pre : List At, pre.map (·.2) = (l.drop (z + 1).toNat).reverse ∧ J pre wr)) (fun i wr => (intOf i + 1).toNat)
  case atStart => exact ⟨_, rfl, by omega, by omega, HS.out, hbs, ⟨[], by rw [show ((m : Int) - 1 + 1).toNat = l.length by omega, List.drop_length]; rfl, h0⟩⟩
  case round =>
    obtain ⟨z, rfl, hz1, hz2, S1, hb1, J1⟩ := hrel
    by_cases hz : 0 ≤ z
    · obtain ⟨k, rfl⟩ : ∃ k : Nat, z = (k : Int) := ⟨z.toNat, by omega⟩
      have hk : k < l.length := by omega
      have hkm : k < m := by omega
      obtain ⟨g, rfl, hg⟩ := S1.out.some_ (by omega)
      have c1 := S1.out.lo hkm
      have c2 := S1.out.hi hkm
      have hb := hb1.out
      obtain ⟨pre, hpre, hJ⟩ := J1.out
      rw [show ((k : Int) + 1).toNat = k + 1 by omega] at hpre
      have hpl : pre.length < l.length := by
        have := congrArg List.length hpre
        simp at this
        omega
      obtain ⟨fn, tmps, assign, body, hy, hR⟩ := HY.out pre ((k : Int), at_ l k) wr hJ hpl
      have HR := Lib.hid hR
      have hrd := Lib.hid (show (pre ++ [((k : Int), at_ l k)]).map (·.2) = (l.drop k).reverse by rw [List.map_append, hpre]; exact rev_drop hk)
      have hw1 : IntKind.i64.wrap ((k : Int) - 1) = (k : Int) - 1 := IntWalk.i64_in _ (by omega)
      clear hJ hR hpre J1
      generalize at_ l k = x at *
      generalize hxa : x.1 = a at *
      generalize hxb : x.2 = b at *
      have hab : Hid (x.1 = a ∧ x.2 = b) := ⟨hxa, hxb⟩
      clear hxa hxb
      gi_wp2
      refine HR.out.mono ?_
      rintro e W3 (⟨rfl, hJ3, hk3⟩ | ⟨rfl, hJx3⟩)
      · have S3 := Lib.hid (S1.out.same_ (w' := W3) fun i e => hk3.1.block i (HF.out i e))
        have b3 : W3.cell? ⟨bs, 0, none⟩ = some (.slice (some ⟨g, 0, none⟩) m c) := (World.cell?_of_block (a := ⟨bs, 0, none⟩) hk3.2).trans hb
        have HJ := Lib.hid hJ3
        clear hJ3 hk3 hb c1 c2
        gi_wp2
        go_roundw
        case rel => exact ⟨_, rfl, by omega, by omega, S3.out, b3, ⟨_, by rw [show ((k : Int) - 1 + 1).toNat = k by omega, ← hrd.out], HJ.out⟩⟩
        case measure => first | (simp [intOf]; done) | (simp [intOf]; omega)
      · have HJ := Lib.hid hJx3
        clear hJx3
        gi_wp2
        refine bodyPost_ret (results_none rfl _ _ _) rfl ?_
        exact ⟨⟨_, rfl⟩, .inr ⟨_, trivial, HJ.out⟩⟩
    · obtain rfl : z = -1 := by omega
      obtain ⟨pre, hpre, hJ⟩ := J1.out
      have HJ : Hid (∃ ys : List At, ys.map (·.2) = l.reverse ∧ J ys wr) := ⟨pre, by simpa using hpre, hJ⟩
      clear J1 hpre hJ
      gi_wp2
      go_end0
      exact ⟨⟨_, rfl⟩, .inl HJ.out⟩
theorem back_stops (n : Nat) (hn : 1 ≤ n) (bs n₀ m c : Nat) (A : Option Addr) (l : List R) (w : World) (hb : bs < w.heap.size) (hbs : w.cell? ⟨bs, 0, none⟩ = some (.slice A m c)) (hS : Row w A m c l) (hf : ∀ k, own A = some k → k < n₀) (hn₀ : n₀ ≤ w.heap.size) :
    SeqStopsK Fence.wide n Tryz.prog 134 #[.pointer (some ⟨bs, 0, none⟩)] encb (Kp n₀ bs) (fun ys => ys.map (·.2) = l.reverse) (fun _ => True) l.length w := fun ly J Jx W hW hJ hJx hY h0 =>
  back1_in n hn ly bs n₀ m c A l J Jx (fun pre x W1 hj hl => hY pre x W1 hj hl) W ((hW.cell (p := ⟨bs, 0, none⟩) hb).trans hbs) (hS.same_ fun i e => hW.block i (Nat.lt_of_lt_of_le (hf i e) hn₀)) hf h0
theorem backward_any (A : Option Addr) (m c : Nat) (w : World) : Calls Tryz.prog 98 #[.slice A m c] w fun e w' => e = .returned (.func (.func 134) #[] #[.pointer (some ⟨w.heap.size, 0, none⟩)]) ∧ w' = w.alloc (.cells #[.slice A m c] 33) := by
  go_enter Tryz.func98, Tryz.ntmps98
  go_wp2
  go_ret
  exact ⟨rfl, rfl⟩
end Go.Proofs.YtilkgjpgoogiiaaGreat.Spn
namespace Go.Proofs.YtilkgjpgoogiiaaGreat.SpaM
open Cd SntM LosM
open SpnM (R Rises mem num add addErr addTo cut cutTo has next rng)
open FrmM (Ack Valid check falls)
theorem unsent_is {kn : List R} (g : Rises kn) {r : R} (h0 : 0 ≤ r.1) (h1 : r.1 ≤ r.2) (h2 : r.2 ≤ SpnM.M) : (decide (next kn r.1 ≠ -1) && decide (next kn r.1 ≤ r.2)) = !knownB kn r := by
  have hn : num r.1 := ⟨h0, by omega⟩
  cases hh : has kn r.1 with
  | false =>
    have e : next kn r.1 = r.1 := by unfold SpnM.next; rw [if_pos hn, if_neg (by rw [hh]; decide)]
    have k : knownB kn r = false := by
      cases hk : knownB kn r with
      | false => rfl
      | true =>
        have := knownB_mem hk h1 r.1 (Int.le_refl _) h1
        rw [SpnM.has_iff.2 this] at hh
        cases hh
    rw [e, k, decide_eq_true (by omega), decide_eq_true h1]; rfl
  | true =>
    obtain ⟨a1, a2, a3, a4, a5⟩ := SpnM.rng_of g hh
    have hm : rng kn r.1 ∈ kn := by rw [a2]; exact SpnM.at_mem a1
    have e : next kn r.1 = if (rng kn r.1).2 = SpnM.M then -1 else (rng kn r.1).2 + 1 := by unfold SpnM.next; rw [if_pos hn, if_pos hh]
    by_cases hM : (rng kn r.1).2 = SpnM.M
    · have k : knownB kn r = true := List.any_eq_true.2 ⟨_, hm, by rw [Bool.and_eq_true, decide_eq_true_iff, decide_eq_true_iff]; exact ⟨a3, by omega⟩⟩
      rw [e, if_pos hM, k]; rfl
    · rw [e, if_neg hM, decide_eq_true (show (rng kn r.1).2 + 1 ≠ -1 by omega), Bool.true_and]
      by_cases hl : r.2 ≤ (rng kn r.1).2
      · have k : knownB kn r = true := List.any_eq_true.2 ⟨_, hm, by rw [Bool.and_eq_true, decide_eq_true_iff, decide_eq_true_iff]; exact ⟨a3, hl⟩⟩
        rw [k, decide_eq_false (by omega)]; rfl
      · have k : knownB kn r = false := by
          cases hk : knownB kn r with
          | false => rfl
          | true =>
            exfalso
            obtain ⟨t, ht, h4, h5⟩ := knownB_mem hk h1 ((rng kn r.1).2 + 1) (by omega) (by omega)
            rw [a2] at h4 h5 a3 a4
            obtain ⟨j, hj, rfl⟩ := SpnM.mem_at ht
            rcases Nat.lt_trichotomy (SpnM.keep_ kn r.1) j with h6 | h6 | h6
            · have := SpnM.at_lt g h6 hj; omega
            · subst h6; omega
            · have := SpnM.at_lt g h6 a1; omega
        rw [k, decide_eq_true (by omega)]; rfl
theorem filter_two {l : List Pk} (hr : Rise l) (f g : Pk → Bool) (h : ∀ p ∈ l, ∀ q ∈ l, f p = true → g q = true → p.n < q.n) : l.filter f ++ l.filter g = l.filter (fun p => f p || g p) := by
  induction l with
  | nil => rfl
  | cons p t ih =>
    have hr' := List.pairwise_cons.1 hr
    have ih' := ih hr'.2 (fun p hp q hq => h p (List.mem_cons_of_mem _ hp) q (List.mem_cons_of_mem _ hq))
    cases hf : f p with
    | true =>
      have hg : g p = false := by
        cases hg : g p with
        | false => rfl
        | true => have := h p List.mem_cons_self p List.mem_cons_self hf hg; omega
      rw [List.filter_cons_of_pos hf, List.filter_cons_of_neg (by rw [hg]; decide), List.filter_cons_of_pos (by simp [hf]), List.cons_append, ih']
    | false =>
      cases hg : g p with
      | false => rw [List.filter_cons_of_neg (by rw [hf]; decide), List.filter_cons_of_neg (by rw [hg]; decide), List.filter_cons_of_neg (by simp [hf, hg]), ih']
      | true =>
        have hn : t.filter f = [] := by
          rw [List.filter_eq_nil_iff]
          intro q hq e
          have h1 := h q (List.mem_cons_of_mem _ hq) p List.mem_cons_self e hg
          have h2 := hr'.1 q hq
          omega
        rw [hn, List.nil_append] at ih'
        rw [List.filter_cons_of_neg (by rw [hf]; decide), hn, List.filter_cons_of_pos hg, List.filter_cons_of_pos (by simp [hg]), ih']; rfl
theorem falls_hi {l : List R} : ∀ {top : Int}, top ≤ SpnM.M → falls top l → ∀ y ∈ l, 0 ≤ y.1 ∧ y.1 ≤ y.2 ∧ y.2 ≤ top := by
  induction l with
  | nil => intro top _ _ y h; cases h
  | cons x t ih =>
    intro top ht h y hy
    rw [FrmM.falls_cons] at h
    obtain ⟨h1, h2⟩ := h
    have hu := FrmM.under_eq ht h1
    obtain ⟨f1, f2, f3⟩ := h1
    simp only at f1 f2 f3
    rw [hu] at h2
    rcases List.mem_cons.1 hy with rfl | hy
    · exact ⟨f1, f2, f3⟩
    · obtain ⟨g1, g2, g3⟩ := ih (by omega) h2 y hy
      exact ⟨g1, g2, by omega⟩
theorem falls_down {l : List R} : ∀ {top : Int}, top ≤ SpnM.M → falls top l → ∀ j, j < l.length → ∀ y ∈ l.drop (j + 1), y.2 < (SpnM.at_ l j).1 := by
  induction l with
  | nil => intro top _ _ j hj; exact absurd hj (Nat.not_lt_zero _)
  | cons x t ih =>
    intro top ht h j hj y hy
    rw [FrmM.falls_cons] at h
    obtain ⟨h1, h2⟩ := h
    have hu := FrmM.under_eq ht h1
    obtain ⟨f1, f2, f3⟩ := h1
    simp only at f1 f2 f3
    rw [hu] at h2
    cases j with
    | zero =>
      have := (falls_hi (by omega) h2 y (by simpa using hy)).2.2
      show y.2 < x.1
      omega
    | succ j =>
      have := ih (top := x.1 - 2) (by omega) h2 j (by simpa using hj) y (by simpa using hy)
      simpa [SpnM.at_] using this
def bk (l : List Pk) (rs : List R) : List Pk := rs.flatMap fun r => betw l r.1 r.2
theorem bk_snoc (l : List Pk) (rs : List R) (r : R) : bk l (rs ++ [r]) = bk l rs ++ betw l r.1 r.2 := by unfold bk; rw [List.flatMap_append]; simp
theorem bk_all {l : List Pk} (hr : Rise l) : ∀ {rs : List R} {top : Int}, top ≤ SpnM.M → falls top rs → bk l rs.reverse = l.filter fun p => inB rs p.n := by
  intro rs
  induction rs with
  | nil => intro top _ _; symm; exact List.filter_eq_nil_iff.2 (fun _ _ => by simp [inB])
  | cons r t ih =>
    intro top ht hf
    have hd := falls_down ht hf 0 (by simp)
    rw [FrmM.falls_cons] at hf
    have hu := FrmM.under_eq ht hf.1
    have h2 := hf.2
    obtain ⟨f1, f2, f3⟩ := hf.1
    simp only at f1 f2 f3
    rw [hu] at h2
    rw [List.reverse_cons, bk_snoc, ih (by omega) h2]
    unfold betw
    rw [filter_two hr]
    · refine List.filter_congr fun p _ => ?_
      show (inB t p.n || _) = inB (r :: t) p.n
      unfold inB
      rw [List.any_cons, Bool.or_comm]
    · intro p _ q _ h1 h2
      obtain ⟨y, hy, h3⟩ := List.any_eq_true.1 h1
      rw [Bool.and_eq_true, decide_eq_true_iff, decide_eq_true_iff] at h3 h2
      have : y.2 < r.1 := hd y (by simpa using hy)
      omega
theorem bk_len (l : List Pk) (rs : List R) : (bk l rs).length ≤ rs.length * l.length := by
  induction rs with
  | nil => simp [bk]
  | cons r t ih =>
    have e : bk l (r :: t) = betw l r.1 r.2 ++ bk l t := by simp [bk]
    have h1 : (betw l r.1 r.2).length ≤ l.length := List.length_filter_le _ _
    rw [e, List.length_append, List.length_cons, Nat.add_mul, Nat.one_mul]
    omega
end Go.Proofs.YtilkgjpgoogiiaaGreat.SpaM
