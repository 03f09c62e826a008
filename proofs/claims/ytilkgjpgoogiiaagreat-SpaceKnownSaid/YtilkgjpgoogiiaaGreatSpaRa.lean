/-
  The document's space, as a thing in memory: contracts of its methods.
-/
import Derived.Test.YtilkgjpgoogiiaaGreatWrdabJ8a
import Derived.Test.YtilkgjpgoogiiaaGreatSpaabJ32a
import Derived.Test.YtilkgjpgoogiiaaGreatLosbJ0a
import Derived.Test.YtilkgjpgoogiiaaGreatPerbJ19a
import Derived.Test.YtilkgjpgoogiiaaGreatFrmbJ29a
import Derived.Deep.RegionHeld3
set_option maxRecDepth 100000
set_option maxHeartbeats 16000000
set_option linter.unusedVariables false
set_option linter.unusedSimpArgs false
namespace Go.Proofs.YtilkgjpgoogiiaaGreat.Spa
open Go.RowKit Wd Bxs Obs Ths SpaM
open SntM (Pk putErr putL putTop dropL getP getB fly eli)
open Snt (pkC pkV pkA)
open SpnM (R addErr addTo cutErr cutTo has add)
open FrmM (Ack check)
open RttM (Rt)
open Rtt (rtV rtA)
abbrev rspA (a b c : Nat) (X : Sp) : Array Value := #[ptr a, ptr b, ptr c, .int .i64 X.gr, .int .i64 X.lo, .int .i64 X.ti]
def rspaO (s : Nat) (X : Sp) : Ob := some_ fun q : Nat × Nat × Nat => join [box s 91 (rspA q.1 q.2.1 q.2.2 X), rlogO q.1 X.room X.last X.l, rsetO q.2.1 256 X.kn, rsetO q.2.2 256 X.re]
section
variable {w V : World} {L M : List Ob} {s : Nat} {X : Sp}
theorem rspa_open (h : Sx w (rspaO s X :: M) V) : ∃ a b c, Sx w (box s 91 (rspA a b c X) :: rlogO a X.room X.last X.l :: rsetO b 256 X.kn :: rsetO c 256 X.re :: M) V := by
  obtain ⟨⟨a, b, c⟩, h⟩ := Sx.some_iff.1 h
  exact ⟨a, b, c, Sx.join_.1 h⟩
theorem rspa_shut {a b c : Nat} (h : Sx w (box s 91 (rspA a b c X) :: rlogO a X.room X.last X.l :: rsetO b 256 X.kn :: rsetO c 256 X.re :: M) V) : Sx w (rspaO s X :: M) V :=
  Sx.some_iff.2 ⟨(a, b, c), Sx.join_.2 h⟩
theorem set_same {i : Nat} {o : Ob} (hi : L[i]? = some o) : L.set i o = L := by
  rw [(split_at hi).2 o]; exact (split_at hi).1.symm
theorem rset_add256 {p : Nat} {l : List R} (h : Sx w L V) (i : Nat) (hi : L[i]? = some (rsetO p 256 l)) (lo hi2 : Int) : Calls Tryz.prog 51 #[ptr p, .int .i64 lo, .int .i64 hi2] V (Gets (.int .i64 (addErr 256 l lo hi2)) w (L.set i (rsetO p 256 (addTo 256 l lo hi2)))) := rset_add h i hi lo hi2
theorem rset_new256 (h : Sx w L V) : Calls Tryz.prog 46 #[.int .i64 256] V (fun e W => ∃ q, e = .returned (.tuple #[ptr q, .int .i64 0]) ∧ Sx w (rsetO q 256 [] :: L) W) := rset_new h 256 (by decide) (by decide)
theorem rspa_new (h : Sx w L V) (room : Nat) (h1 : 1 ≤ room) (h2 : room ≤ 256) : Calls Tryz.prog 11 #[.int .i64 (room : Int)] V (fun e W => ∃ s, e = .returned (.tuple #[ptr s, .int .i64 0]) ∧ Sx w (rspaO s (SpaM.new room) :: L) W) := by
  have D : Hid (Sx w L V) := Lib.hid h
  clear h
  go_enter Tryz.func11, Tryz.ntmps11
  go_wp2_with fail
  refine (rlog_new D.out room h1 h2).mono ?_
  rintro e v1 ⟨a, rfl, hb⟩
  have D := Lib.hid hb
  clear hb
  go_wp2_with fail
  refine (rset_new256 D.out).mono ?_
  rintro e v2 ⟨b, rfl, hb⟩
  have D := Lib.hid hb
  clear hb
  go_wp2_with fail
  refine (rset_new256 D.out).mono ?_
  rintro e v3 ⟨c, rfl, hb⟩
  have D := Lib.hid hb
  clear hb
  go_wp2_with fail
  have D := Lib.hid (D.out.new 91 #[ptr a, ptr b, ptr c, .int .i64 (-1), .int .i64 (-1), .int .i64 (-1)])
  generalize v3.heap.size = n at *
  refine bodyPost_ret (v := .tuple #[ptr n, .int .i64 0]) ?_ rfl ⟨n, rfl, rspa_shut (X := SpaM.new room) (D.out.sel 4 [0, 3, 2, 1] [] (by decide))⟩
  simp [results, Tryz.f11, go_sem]
theorem rspa_bad (room : Int) (h : ¬ (1 ≤ room ∧ room ≤ 256)) (V : World) : Calls Tryz.prog 11 #[.int .i64 room] V (fun e W => e = .returned (.tuple #[.pointer none, .int .i64 2]) ∧ W = V) := by
  have k := Lib.hid (Snt.rnew_bad room V h)
  clear h
  go_enter Tryz.func11, Tryz.ntmps11
  go_wp2_with fail
  refine k.out.mono ?_
  rintro e v1 ⟨rfl, rfl⟩
  go_wp2_with fail
  refine bodyPost_ret (v := .tuple #[.pointer none, .int .i64 2]) ?_ rfl ⟨rfl, rfl⟩
  simp [results, Tryz.f11, go_sem]
theorem rspa_copy0 (h : Sx w (rspaO s X :: M) V) : Calls Tryz.prog 22 #[ptr s] V (fun e W => ∃ q, e = .returned (ptr q) ∧ Sx w (rspaO q X :: rspaO s X :: M) W) := by
  obtain ⟨a, b, c, h⟩ := rspa_open h
  obtain ⟨room, last, l, kn, re, gr, lo, ti⟩ := X
  have D : Hid (Sx w (box s 91 #[ptr a, ptr b, ptr c, .int .i64 gr, .int .i64 lo, .int .i64 ti] :: rlogO a room last l :: rsetO b 256 kn :: rsetO c 256 re :: M) V) := Lib.hid h
  clear h
  have Bs := D.out.box_ 0 rfl
  have cs0 := Bs.cell 0
  have fs0 := Bs.frozen 0
  have cs1 := Bs.cell 1
  have fs1 := Bs.frozen 1
  have cs2 := Bs.cell 2
  have fs2 := Bs.frozen 2
  have cs3 := Bs.cell 3
  have fs3 := Bs.frozen 3
  have cs4 := Bs.cell 4
  have fs4 := Bs.frozen 4
  have cs5 := Bs.cell 5
  have fs5 := Bs.frozen 5
  have ts := Bs.lt
  clear Bs
  go_enter Tryz.func22, Tryz.ntmps22
  go_upto_region 2 with (fail)
  clear cs0 fs0 cs1 fs1 cs2 fs2 cs3 fs3 cs4 fs4 cs5 fs5 ts
  have D : Hid (Sx w (box V.heap.size 91 #[ptr a, ptr b, ptr c, .int .i64 gr, .int .i64 lo, .int .i64 ti] :: box s 91 #[ptr a, ptr b, ptr c, .int .i64 gr, .int .i64 lo, .int .i64 ti] :: rlogO a room last l :: rsetO b 256 kn :: rsetO c 256 re :: M) (V.alloc (.cells #[ptr a, ptr b, ptr c, .int .i64 gr, .int .i64 lo, .int .i64 ti] 91))) := Lib.hid (D.out.new _ _)
  generalize V.alloc (.cells #[ptr a, ptr b, ptr c, .int .i64 gr, .int .i64 lo, .int .i64 ti] 91) = v1 at *
  generalize V.heap.size = n at *
  have Bs := D.out.box_ 1 rfl
  have cs0 := Bs.cell 0
  have fs0 := Bs.frozen 0
  have cs1 := Bs.cell 1
  have fs1 := Bs.frozen 1
  have cs2 := Bs.cell 2
  have fs2 := Bs.frozen 2
  have cs3 := Bs.cell 3
  have fs3 := Bs.frozen 3
  have cs4 := Bs.cell 4
  have fs4 := Bs.frozen 4
  have cs5 := Bs.cell 5
  have fs5 := Bs.frozen 5
  have ts := Bs.lt
  clear Bs
  go_wp2_with fail
  clear cs0 fs0 cs1 fs1 cs2 fs2 cs3 fs3 cs4 fs4 cs5 fs5 ts
  refine (rlog_copy D.out 2 rfl).mono ?_
  rintro e v2 ⟨x, rfl, hb⟩
  have D := Lib.hid hb
  clear hb
  have Bn := D.out.box_ 1 rfl
  have cn0 := Bn.cell 0
  have fn0 := Bn.frozen 0
  have cn1 := Bn.cell 1
  have fn1 := Bn.frozen 1
  have cn2 := Bn.cell 2
  have fn2 := Bn.frozen 2
  have cn3 := Bn.cell 3
  have fn3 := Bn.frozen 3
  have cn4 := Bn.cell 4
  have fn4 := Bn.frozen 4
  have cn5 := Bn.cell 5
  have fn5 := Bn.frozen 5
  have tn := Bn.lt
  clear Bn
  go_upto_region 3 with (fail)
  clear cn0 fn0 cn1 fn1 cn2 fn2 cn3 fn3 cn4 fn4 cn5 fn5 tn
  have D := Lib.hid (D.out.cell_ 1 rfl 0 (ptr x))
  generalize v2.setCell ⟨n, 0, none⟩ (ptr x) = v3 at *
  have D : Hid (Sx w (rlogO x room last l :: box n 91 #[ptr x, ptr b, ptr c, .int .i64 gr, .int .i64 lo, .int .i64 ti] :: box s 91 #[ptr a, ptr b, ptr c, .int .i64 gr, .int .i64 lo, .int .i64 ti] :: rlogO a room last l :: rsetO b 256 kn :: rsetO c 256 re :: M) v3) := D
  have Bs := D.out.box_ 2 rfl
  have cs0 := Bs.cell 0
  have fs0 := Bs.frozen 0
  have cs1 := Bs.cell 1
  have fs1 := Bs.frozen 1
  have cs2 := Bs.cell 2
  have fs2 := Bs.frozen 2
  have cs3 := Bs.cell 3
  have fs3 := Bs.frozen 3
  have cs4 := Bs.cell 4
  have fs4 := Bs.frozen 4
  have cs5 := Bs.cell 5
  have fs5 := Bs.frozen 5
  have ts := Bs.lt
  clear Bs
  go_wp2_with fail
  clear cs0 fs0 cs1 fs1 cs2 fs2 cs3 fs3 cs4 fs4 cs5 fs5 ts
  refine (rset_copy D.out 4 rfl).mono ?_
  rintro e v4 ⟨y, rfl, hb⟩
  have D := Lib.hid hb
  clear hb
  have Bn := D.out.box_ 2 rfl
  have cn0 := Bn.cell 0
  have fn0 := Bn.frozen 0
  have cn1 := Bn.cell 1
  have fn1 := Bn.frozen 1
  have cn2 := Bn.cell 2
  have fn2 := Bn.frozen 2
  have cn3 := Bn.cell 3
  have fn3 := Bn.frozen 3
  have cn4 := Bn.cell 4
  have fn4 := Bn.frozen 4
  have cn5 := Bn.cell 5
  have fn5 := Bn.frozen 5
  have tn := Bn.lt
  clear Bn
  go_upto_region 4 with (fail)
  clear cn0 fn0 cn1 fn1 cn2 fn2 cn3 fn3 cn4 fn4 cn5 fn5 tn
  have D := Lib.hid (D.out.cell_ 2 rfl 1 (ptr y))
  generalize v4.setCell ⟨n, 1, none⟩ (ptr y) = v5 at *
  have D : Hid (Sx w (rsetO y 256 kn :: rlogO x room last l :: box n 91 #[ptr x, ptr y, ptr c, .int .i64 gr, .int .i64 lo, .int .i64 ti] :: box s 91 #[ptr a, ptr b, ptr c, .int .i64 gr, .int .i64 lo, .int .i64 ti] :: rlogO a room last l :: rsetO b 256 kn :: rsetO c 256 re :: M) v5) := D
  have Bs := D.out.box_ 3 rfl
  have cs0 := Bs.cell 0
  have fs0 := Bs.frozen 0
  have cs1 := Bs.cell 1
  have fs1 := Bs.frozen 1
  have cs2 := Bs.cell 2
  have fs2 := Bs.frozen 2
  have cs3 := Bs.cell 3
  have fs3 := Bs.frozen 3
  have cs4 := Bs.cell 4
  have fs4 := Bs.frozen 4
  have cs5 := Bs.cell 5
  have fs5 := Bs.frozen 5
  have ts := Bs.lt
  clear Bs
  go_wp2_with fail
  clear cs0 fs0 cs1 fs1 cs2 fs2 cs3 fs3 cs4 fs4 cs5 fs5 ts
  refine (rset_copy D.out 6 rfl).mono ?_
  rintro e v6 ⟨z, rfl, hb⟩
  have D := Lib.hid hb
  clear hb
  have Bn := D.out.box_ 3 rfl
  have cn0 := Bn.cell 0
  have fn0 := Bn.frozen 0
  have cn1 := Bn.cell 1
  have fn1 := Bn.frozen 1
  have cn2 := Bn.cell 2
  have fn2 := Bn.frozen 2
  have cn3 := Bn.cell 3
  have fn3 := Bn.frozen 3
  have cn4 := Bn.cell 4
  have fn4 := Bn.frozen 4
  have cn5 := Bn.cell 5
  have fn5 := Bn.frozen 5
  have tn := Bn.lt
  clear Bn
  go_wp2_with fail
  have D := Lib.hid (D.out.cell_ 3 rfl 2 (ptr z))
  have D : Hid (Sx w (rsetO z 256 re :: rsetO y 256 kn :: rlogO x room last l :: box n 91 #[ptr x, ptr y, ptr z, .int .i64 gr, .int .i64 lo, .int .i64 ti] :: box s 91 #[ptr a, ptr b, ptr c, .int .i64 gr, .int .i64 lo, .int .i64 ti] :: rlogO a room last l :: rsetO b 256 kn :: rsetO c 256 re :: M) (v6.setCell ⟨n, 2, none⟩ (ptr z))) := D
  go_ret
  have D : Hid (Sx w (rspaO n ⟨room, last, l, kn, re, gr, lo, ti⟩ :: _) _) := Lib.hid (rspa_shut (X := ⟨room, last, l, kn, re, gr, lo, ti⟩) (D.out.sel 8 [3, 2, 1, 0, 4, 5, 6, 7] [] (by decide)))
  exact ⟨n, rfl, (rspa_shut (X := ⟨room, last, l, kn, re, gr, lo, ti⟩) (D.out.sel 5 [1, 2, 3, 4, 0] [] (by decide))).swap⟩
theorem rspa_copy (h : Sx w L V) (i : Nat) (hi : L[i]? = some (rspaO s X)) : Calls Tryz.prog 22 #[ptr s] V (fun e W => ∃ q, e = .returned (ptr q) ∧ Sx w (rspaO q X :: L) W) :=
  (rspa_copy0 (h.perm (front_at hi))).mono fun e W ⟨q, he, hx⟩ => ⟨q, he, by
    have := hx.perm ((back_at hi (rspaO s X)).cons (rspaO q X))
    rwa [set_same hi] at this⟩
theorem rspa_sent (p : Pk) : Mt Tryz.prog 16 #[ptr s, pkV p] (rspaO s X) (.int .i64 (sentE X p)) (rspaO s (sent X p)) := by
  intro w V M h
  obtain ⟨a, b, c, h⟩ := rspa_open h
  obtain ⟨room, last, l, kn, re, gr, lo, ti⟩ := X
  have D : Hid (Sx w (box s 91 #[ptr a, ptr b, ptr c, .int .i64 gr, .int .i64 lo, .int .i64 ti] :: rlogO a room last l :: rsetO b 256 kn :: rsetO c 256 re :: M) V) := Lib.hid h
  clear h
  by_cases hp : putErr room last l p = 0
  · have eT : putTop room last l p = p.n := if_pos hp
    have eL : putL room last l p = l ++ [p] := if_pos hp
    obtain ⟨T1, hT⟩ : ∃ T1, p.n = T1 := ⟨_, rfl⟩
    obtain ⟨L1, hL⟩ : ∃ L1, l ++ [p] = L1 := ⟨_, rfl⟩
    have k3 : Hid (∀ U x y B, Sx w (rsetO y 256 kn :: rlogO x room last l :: box B 32 (pkA p) :: box s 91 #[ptr a, ptr b, ptr c, .int .i64 gr, .int .i64 lo, .int .i64 ti] :: rlogO a room last l :: rsetO b 256 kn :: rsetO c 256 re :: M) U → Calls Tryz.prog 50 #[ptr x, pkV p] U (Gets (.int .i64 0) w (rsetO y 256 kn :: rlogO x room T1 L1 :: box B 32 (pkA p) :: box s 91 #[ptr a, ptr b, ptr c, .int .i64 gr, .int .i64 lo, .int .i64 ti] :: rlogO a room last l :: rsetO b 256 kn :: rsetO c 256 re :: M))) := Lib.hid (fun U x y B h => by
      have := rlog_put h 1 rfl p
      rwa [hp, eT, eL, hT, hL] at this)
    by_cases ha : addErr 256 kn p.n p.n = 0
    · have eA : addTo 256 kn p.n p.n = add kn p.n p.n := if_pos ha
      have hs : sentE ⟨room, last, l, kn, re, gr, lo, ti⟩ p = 0 := by show (if putErr room last l p = 0 then _ else _) = _; rw [if_pos hp]; exact ha
      rw [hs, sent_yes hs]
      obtain ⟨K1, hK⟩ : ∃ K1, add kn p.n p.n = K1 := ⟨_, rfl⟩
      have k4 : Hid (∀ U x y B, Sx w (rsetO y 256 kn :: rlogO x room T1 L1 :: box B 32 (pkA p) :: box s 91 #[ptr a, ptr b, ptr c, .int .i64 gr, .int .i64 lo, .int .i64 ti] :: rlogO a room last l :: rsetO b 256 kn :: rsetO c 256 re :: M) U → Calls Tryz.prog 51 #[ptr y, .int .i64 p.n, .int .i64 p.n] U (Gets (.int .i64 0) w (rsetO y 256 K1 :: rlogO x room T1 L1 :: box B 32 (pkA p) :: box s 91 #[ptr a, ptr b, ptr c, .int .i64 gr, .int .i64 lo, .int .i64 ti] :: rlogO a room last l :: rsetO b 256 kn :: rsetO c 256 re :: M))) := Lib.hid (fun U x y B h => by
        have := rset_add256 h 0 rfl p.n p.n
        rwa [ha, eA, hK] at this)
      have hX : Hid ((⟨room, p.n, l ++ [p], add kn p.n p.n, re, gr, lo, if (p.f && p.e) = true then p.t else ti⟩ : Sp) = ⟨room, T1, L1, K1, re, gr, lo, if (p.f && p.e) = true then p.t else ti⟩) := Lib.hid (by rw [hK, hL, hT])
      show Calls _ _ _ _ (Gets _ _ (rspaO s ⟨room, p.n, l ++ [p], add kn p.n p.n, re, gr, lo, if (p.f && p.e) = true then p.t else ti⟩ :: M))
      rw [hX.out]
      clear hp ha eT eL eA hT hL hK hs hX
      obtain ⟨pn, pt, ps, pe, pf, pc⟩ := p
      cases pf
      · have k1 : Hid (∀ U B, Sx w (box B 32 (pkA ⟨pn, pt, ps, pe, false, pc⟩) :: box s 91 #[ptr a, ptr b, ptr c, .int .i64 gr, .int .i64 lo, .int .i64 ti] :: rlogO a room last l :: rsetO b 256 kn :: rsetO c 256 re :: M) U → Calls Tryz.prog 48 #[ptr a] U (fun e W => ∃ q, e = .returned (ptr q) ∧ Sx w (rlogO q room last l :: box B 32 (pkA ⟨pn, pt, ps, pe, false, pc⟩) :: box s 91 #[ptr a, ptr b, ptr c, .int .i64 gr, .int .i64 lo, .int .i64 ti] :: rlogO a room last l :: rsetO b 256 kn :: rsetO c 256 re :: M) W)) := Lib.hid (fun U B h => rlog_copy h 2 rfl)
        have k2 : Hid (∀ U B x, Sx w (rlogO x room last l :: box B 32 (pkA ⟨pn, pt, ps, pe, false, pc⟩) :: box s 91 #[ptr a, ptr b, ptr c, .int .i64 gr, .int .i64 lo, .int .i64 ti] :: rlogO a room last l :: rsetO b 256 kn :: rsetO c 256 re :: M) U → Calls Tryz.prog 49 #[ptr b] U (fun e W => ∃ q, e = .returned (ptr q) ∧ Sx w (rsetO q 256 kn :: rlogO x room last l :: box B 32 (pkA ⟨pn, pt, ps, pe, false, pc⟩) :: box s 91 #[ptr a, ptr b, ptr c, .int .i64 gr, .int .i64 lo, .int .i64 ti] :: rlogO a room last l :: rsetO b 256 kn :: rsetO c 256 re :: M) W)) := Lib.hid (fun U B x h => rset_copy h 4 rfl)
        have S0 : Hid (∀ U B, Sx w (box B 32 (pkA ⟨pn, pt, ps, pe, false, pc⟩) :: box s 91 #[ptr a, ptr b, ptr c, .int .i64 gr, .int .i64 lo, .int .i64 ti] :: rlogO a room last l :: rsetO b 256 kn :: rsetO c 256 re :: M) U → U.cell? ⟨s, 0, none⟩ = some (ptr a) ∧ U.cell? ⟨s, 1, none⟩ = some (ptr b)) := Lib.hid (fun U B h => ⟨(h.box_ 1 rfl).cell 0, (h.box_ 1 rfl).cell 1⟩)
        have S1 : Hid (∀ U B x, Sx w (rlogO x room last l :: box B 32 (pkA ⟨pn, pt, ps, pe, false, pc⟩) :: box s 91 #[ptr a, ptr b, ptr c, .int .i64 gr, .int .i64 lo, .int .i64 ti] :: rlogO a room last l :: rsetO b 256 kn :: rsetO c 256 re :: M) U → U.cell? ⟨s, 0, none⟩ = some (ptr a) ∧ U.cell? ⟨s, 1, none⟩ = some (ptr b)) := Lib.hid (fun U B x h => ⟨(h.box_ 2 rfl).cell 0, (h.box_ 2 rfl).cell 1⟩)
        have S2 : Hid (∀ U B x y, Sx w (rsetO y 256 kn :: rlogO x room last l :: box B 32 (pkA ⟨pn, pt, ps, pe, false, pc⟩) :: box s 91 #[ptr a, ptr b, ptr c, .int .i64 gr, .int .i64 lo, .int .i64 ti] :: rlogO a room last l :: rsetO b 256 kn :: rsetO c 256 re :: M) U → U.cell? ⟨s, 0, none⟩ = some (ptr a) ∧ U.cell? ⟨s, 1, none⟩ = some (ptr b)) := Lib.hid (fun U B x y h => ⟨(h.box_ 3 rfl).cell 0, (h.box_ 3 rfl).cell 1⟩)
        have D : Hid (Sx w (box V.heap.size 32 (pkA ⟨pn, pt, ps, pe, false, pc⟩) :: box s 91 #[ptr a, ptr b, ptr c, .int .i64 gr, .int .i64 lo, .int .i64 ti] :: rlogO a room last l :: rsetO b 256 kn :: rsetO c 256 re :: M) (V.alloc (.cells (pkA ⟨pn, pt, ps, pe, false, pc⟩) 32))) := Lib.hid (D.out.new _ _)
        go_enter Tryz.func16, Tryz.ntmps16
        go_upto_region 1 with (fail)
        generalize V.alloc (.cells (pkA ⟨pn, pt, ps, pe, false, pc⟩) 32) = v1 at *
        generalize V.heap.size = B at *
        have D : Hid (Sx w (box B 32 (pkA ⟨pn, pt, ps, pe, false, pc⟩) :: box s 91 #[ptr a, ptr b, ptr c, .int .i64 gr, .int .i64 lo, .int .i64 ti] :: rlogO a room last l :: rsetO b 256 kn :: rsetO c 256 re :: M) v1.drew) := Lib.hid (D.out.on (Kept.refl _).drew)
        go_region_held3 (fun U => U.cell? ⟨s, 0, none⟩ = some (ptr a) ∧ U.cell? ⟨s, 1, none⟩ = some (ptr b))
          (first | with_reducible exact S0.out _ _ D.out | with_reducible exact S1.out _ _ _ D.out | with_reducible exact S2.out _ _ _ _ D.out)
          (first
            | (go_at_call 48; (with_reducible refine (k1.out _ _ D.out).mono ?_); rintro e w' ⟨x, rfl, hb⟩; have D := Lib.hid hb; clear hb)
            | (go_at_call 49; (with_reducible refine (k2.out _ _ _ D.out).mono ?_); rintro e w' ⟨y, rfl, hb⟩; have D := Lib.hid hb; clear hb))
        have Bp := D.out.box_ 2 rfl
        have cp0 := Bp.cell 0
        have cp1 := Bp.cell 1
        have cp2 := Bp.cell 2
        have cp3 := Bp.cell 3
        have cp4 := Bp.cell 4
        have cp5 := Bp.cell 5
        have tp := Bp.lt
        clear Bp
        go_wp2_with fail
        clear cp0 cp1 cp2 cp3 cp4 cp5 tp
        refine (k3.out _ _ _ _ D.out).mono ?_
        rintro e v3 ⟨rfl, hb⟩
        have D := Lib.hid hb
        clear hb
        have Bp := D.out.box_ 2 rfl
        have cp0 := Bp.cell 0
        have cp1 := Bp.cell 1
        have cp2 := Bp.cell 2
        have cp3 := Bp.cell 3
        have cp4 := Bp.cell 4
        have cp5 := Bp.cell 5
        have tp := Bp.lt
        clear Bp
        go_wp2_with fail
        clear cp0 cp1 cp2 cp3 cp4 cp5 tp
        refine (k4.out _ _ _ _ D.out).mono ?_
        rintro e v4 ⟨rfl, hb⟩
        have D := Lib.hid hb
        clear hb
        have Bs := D.out.box_ 3 rfl
        have cs0 := Bs.cell 0
        have fs0 := Bs.frozen 0
        have cs1 := Bs.cell 1
        have fs1 := Bs.frozen 1
        have cs2 := Bs.cell 2
        have fs2 := Bs.frozen 2
        have cs3 := Bs.cell 3
        have fs3 := Bs.frozen 3
        have cs4 := Bs.cell 4
        have fs4 := Bs.frozen 4
        have cs5 := Bs.cell 5
        have fs5 := Bs.frozen 5
        have ts := Bs.lt
        clear Bs
        go_upto_region 9 with (fail)
        clear cs0 fs0 cs1 fs1 cs2 fs2 cs3 fs3 cs4 fs4 cs5 fs5 ts
        have D := Lib.hid (D.out.cell_ 3 rfl 0 (ptr x))
        generalize v4.setCell ⟨s, 0, none⟩ (ptr x) = v5 at *
        have D : Hid (Sx w (rsetO y 256 K1 :: rlogO x room T1 L1 :: box B 32 (pkA ⟨pn, pt, ps, pe, false, pc⟩) :: box s 91 #[ptr x, ptr b, ptr c, .int .i64 gr, .int .i64 lo, .int .i64 ti] :: rlogO a room last l :: rsetO b 256 kn :: rsetO c 256 re :: M) v5) := D
        have Bs := D.out.box_ 3 rfl
        have cs0 := Bs.cell 0
        have fs0 := Bs.frozen 0
        have cs1 := Bs.cell 1
        have fs1 := Bs.frozen 1
        have cs2 := Bs.cell 2
        have fs2 := Bs.frozen 2
        have cs3 := Bs.cell 3
        have fs3 := Bs.frozen 3
        have cs4 := Bs.cell 4
        have fs4 := Bs.frozen 4
        have cs5 := Bs.cell 5
        have fs5 := Bs.frozen 5
        have ts := Bs.lt
        clear Bs
        go_upto_region 10 with (fail)
        clear cs0 fs0 cs1 fs1 cs2 fs2 cs3 fs3 cs4 fs4 cs5 fs5 ts
        have D := Lib.hid (D.out.cell_ 3 rfl 1 (ptr y))
        generalize v5.setCell ⟨s, 1, none⟩ (ptr y) = v6 at *
        have D : Hid (Sx w (rsetO y 256 K1 :: rlogO x room T1 L1 :: box B 32 (pkA ⟨pn, pt, ps, pe, false, pc⟩) :: box s 91 #[ptr x, ptr y, ptr c, .int .i64 gr, .int .i64 lo, .int .i64 ti] :: rlogO a room last l :: rsetO b 256 kn :: rsetO c 256 re :: M) v6) := D
        have Bs := D.out.box_ 3 rfl
        have cs0 := Bs.cell 0
        have fs0 := Bs.frozen 0
        have cs1 := Bs.cell 1
        have fs1 := Bs.frozen 1
        have cs2 := Bs.cell 2
        have fs2 := Bs.frozen 2
        have cs3 := Bs.cell 3
        have fs3 := Bs.frozen 3
        have cs4 := Bs.cell 4
        have fs4 := Bs.frozen 4
        have cs5 := Bs.cell 5
        have fs5 := Bs.frozen 5
        have ts := Bs.lt
        clear Bs
        have Bp := D.out.box_ 2 rfl
        have cp0 := Bp.cell 0
        have cp1 := Bp.cell 1
        have cp2 := Bp.cell 2
        have cp3 := Bp.cell 3
        have cp4 := Bp.cell 4
        have cp5 := Bp.cell 5
        have tp := Bp.lt
        clear Bp
        go_wp2_with fail
        go_ret
        exact ⟨rfl, rspa_shut (X := ⟨room, T1, L1, K1, re, gr, lo, ti⟩) (D.out.sel 7 [3, 1, 0, 6] [2, 4, 5] (by decide))⟩
      · cases pe
        · have k1 : Hid (∀ U B, Sx w (box B 32 (pkA ⟨pn, pt, ps, false, true, pc⟩) :: box s 91 #[ptr a, ptr b, ptr c, .int .i64 gr, .int .i64 lo, .int .i64 ti] :: rlogO a room last l :: rsetO b 256 kn :: rsetO c 256 re :: M) U → Calls Tryz.prog 48 #[ptr a] U (fun e W => ∃ q, e = .returned (ptr q) ∧ Sx w (rlogO q room last l :: box B 32 (pkA ⟨pn, pt, ps, false, true, pc⟩) :: box s 91 #[ptr a, ptr b, ptr c, .int .i64 gr, .int .i64 lo, .int .i64 ti] :: rlogO a room last l :: rsetO b 256 kn :: rsetO c 256 re :: M) W)) := Lib.hid (fun U B h => rlog_copy h 2 rfl)
          have k2 : Hid (∀ U B x, Sx w (rlogO x room last l :: box B 32 (pkA ⟨pn, pt, ps, false, true, pc⟩) :: box s 91 #[ptr a, ptr b, ptr c, .int .i64 gr, .int .i64 lo, .int .i64 ti] :: rlogO a room last l :: rsetO b 256 kn :: rsetO c 256 re :: M) U → Calls Tryz.prog 49 #[ptr b] U (fun e W => ∃ q, e = .returned (ptr q) ∧ Sx w (rsetO q 256 kn :: rlogO x room last l :: box B 32 (pkA ⟨pn, pt, ps, false, true, pc⟩) :: box s 91 #[ptr a, ptr b, ptr c, .int .i64 gr, .int .i64 lo, .int .i64 ti] :: rlogO a room last l :: rsetO b 256 kn :: rsetO c 256 re :: M) W)) := Lib.hid (fun U B x h => rset_copy h 4 rfl)
          have S0 : Hid (∀ U B, Sx w (box B 32 (pkA ⟨pn, pt, ps, false, true, pc⟩) :: box s 91 #[ptr a, ptr b, ptr c, .int .i64 gr, .int .i64 lo, .int .i64 ti] :: rlogO a room last l :: rsetO b 256 kn :: rsetO c 256 re :: M) U → U.cell? ⟨s, 0, none⟩ = some (ptr a) ∧ U.cell? ⟨s, 1, none⟩ = some (ptr b)) := Lib.hid (fun U B h => ⟨(h.box_ 1 rfl).cell 0, (h.box_ 1 rfl).cell 1⟩)
          have S1 : Hid (∀ U B x, Sx w (rlogO x room last l :: box B 32 (pkA ⟨pn, pt, ps, false, true, pc⟩) :: box s 91 #[ptr a, ptr b, ptr c, .int .i64 gr, .int .i64 lo, .int .i64 ti] :: rlogO a room last l :: rsetO b 256 kn :: rsetO c 256 re :: M) U → U.cell? ⟨s, 0, none⟩ = some (ptr a) ∧ U.cell? ⟨s, 1, none⟩ = some (ptr b)) := Lib.hid (fun U B x h => ⟨(h.box_ 2 rfl).cell 0, (h.box_ 2 rfl).cell 1⟩)
          have S2 : Hid (∀ U B x y, Sx w (rsetO y 256 kn :: rlogO x room last l :: box B 32 (pkA ⟨pn, pt, ps, false, true, pc⟩) :: box s 91 #[ptr a, ptr b, ptr c, .int .i64 gr, .int .i64 lo, .int .i64 ti] :: rlogO a room last l :: rsetO b 256 kn :: rsetO c 256 re :: M) U → U.cell? ⟨s, 0, none⟩ = some (ptr a) ∧ U.cell? ⟨s, 1, none⟩ = some (ptr b)) := Lib.hid (fun U B x y h => ⟨(h.box_ 3 rfl).cell 0, (h.box_ 3 rfl).cell 1⟩)
          have D : Hid (Sx w (box V.heap.size 32 (pkA ⟨pn, pt, ps, false, true, pc⟩) :: box s 91 #[ptr a, ptr b, ptr c, .int .i64 gr, .int .i64 lo, .int .i64 ti] :: rlogO a room last l :: rsetO b 256 kn :: rsetO c 256 re :: M) (V.alloc (.cells (pkA ⟨pn, pt, ps, false, true, pc⟩) 32))) := Lib.hid (D.out.new _ _)
          go_enter Tryz.func16, Tryz.ntmps16
          go_upto_region 1 with (fail)
          generalize V.alloc (.cells (pkA ⟨pn, pt, ps, false, true, pc⟩) 32) = v1 at *
          generalize V.heap.size = B at *
          have D : Hid (Sx w (box B 32 (pkA ⟨pn, pt, ps, false, true, pc⟩) :: box s 91 #[ptr a, ptr b, ptr c, .int .i64 gr, .int .i64 lo, .int .i64 ti] :: rlogO a room last l :: rsetO b 256 kn :: rsetO c 256 re :: M) v1.drew) := Lib.hid (D.out.on (Kept.refl _).drew)
          go_region_held3 (fun U => U.cell? ⟨s, 0, none⟩ = some (ptr a) ∧ U.cell? ⟨s, 1, none⟩ = some (ptr b))
            (first | with_reducible exact S0.out _ _ D.out | with_reducible exact S1.out _ _ _ D.out | with_reducible exact S2.out _ _ _ _ D.out)
            (first
              | (go_at_call 48; (with_reducible refine (k1.out _ _ D.out).mono ?_); rintro e w' ⟨x, rfl, hb⟩; have D := Lib.hid hb; clear hb)
              | (go_at_call 49; (with_reducible refine (k2.out _ _ _ D.out).mono ?_); rintro e w' ⟨y, rfl, hb⟩; have D := Lib.hid hb; clear hb))
          have Bp := D.out.box_ 2 rfl
          have cp0 := Bp.cell 0
          have cp1 := Bp.cell 1
          have cp2 := Bp.cell 2
          have cp3 := Bp.cell 3
          have cp4 := Bp.cell 4
          have cp5 := Bp.cell 5
          have tp := Bp.lt
          clear Bp
          go_wp2_with fail
          clear cp0 cp1 cp2 cp3 cp4 cp5 tp
          refine (k3.out _ _ _ _ D.out).mono ?_
          rintro e v3 ⟨rfl, hb⟩
          have D := Lib.hid hb
          clear hb
          have Bp := D.out.box_ 2 rfl
          have cp0 := Bp.cell 0
          have cp1 := Bp.cell 1
          have cp2 := Bp.cell 2
          have cp3 := Bp.cell 3
          have cp4 := Bp.cell 4
          have cp5 := Bp.cell 5
          have tp := Bp.lt
          clear Bp
          go_wp2_with fail
          clear cp0 cp1 cp2 cp3 cp4 cp5 tp
          refine (k4.out _ _ _ _ D.out).mono ?_
          rintro e v4 ⟨rfl, hb⟩
          have D := Lib.hid hb
          clear hb
          have Bs := D.out.box_ 3 rfl
          have cs0 := Bs.cell 0
          have fs0 := Bs.frozen 0
          have cs1 := Bs.cell 1
          have fs1 := Bs.frozen 1
          have cs2 := Bs.cell 2
          have fs2 := Bs.frozen 2
          have cs3 := Bs.cell 3
          have fs3 := Bs.frozen 3
          have cs4 := Bs.cell 4
          have fs4 := Bs.frozen 4
          have cs5 := Bs.cell 5
          have fs5 := Bs.frozen 5
          have ts := Bs.lt
          clear Bs
          go_upto_region 9 with (fail)
          clear cs0 fs0 cs1 fs1 cs2 fs2 cs3 fs3 cs4 fs4 cs5 fs5 ts
          have D := Lib.hid (D.out.cell_ 3 rfl 0 (ptr x))
          generalize v4.setCell ⟨s, 0, none⟩ (ptr x) = v5 at *
          have D : Hid (Sx w (rsetO y 256 K1 :: rlogO x room T1 L1 :: box B 32 (pkA ⟨pn, pt, ps, false, true, pc⟩) :: box s 91 #[ptr x, ptr b, ptr c, .int .i64 gr, .int .i64 lo, .int .i64 ti] :: rlogO a room last l :: rsetO b 256 kn :: rsetO c 256 re :: M) v5) := D
          have Bs := D.out.box_ 3 rfl
          have cs0 := Bs.cell 0
          have fs0 := Bs.frozen 0
          have cs1 := Bs.cell 1
          have fs1 := Bs.frozen 1
          have cs2 := Bs.cell 2
          have fs2 := Bs.frozen 2
          have cs3 := Bs.cell 3
          have fs3 := Bs.frozen 3
          have cs4 := Bs.cell 4
          have fs4 := Bs.frozen 4
          have cs5 := Bs.cell 5
          have fs5 := Bs.frozen 5
          have ts := Bs.lt
          clear Bs
          go_upto_region 10 with (fail)
          clear cs0 fs0 cs1 fs1 cs2 fs2 cs3 fs3 cs4 fs4 cs5 fs5 ts
          have D := Lib.hid (D.out.cell_ 3 rfl 1 (ptr y))
          generalize v5.setCell ⟨s, 1, none⟩ (ptr y) = v6 at *
          have D : Hid (Sx w (rsetO y 256 K1 :: rlogO x room T1 L1 :: box B 32 (pkA ⟨pn, pt, ps, false, true, pc⟩) :: box s 91 #[ptr x, ptr y, ptr c, .int .i64 gr, .int .i64 lo, .int .i64 ti] :: rlogO a room last l :: rsetO b 256 kn :: rsetO c 256 re :: M) v6) := D
          have Bs := D.out.box_ 3 rfl
          have cs0 := Bs.cell 0
          have fs0 := Bs.frozen 0
          have cs1 := Bs.cell 1
          have fs1 := Bs.frozen 1
          have cs2 := Bs.cell 2
          have fs2 := Bs.frozen 2
          have cs3 := Bs.cell 3
          have fs3 := Bs.frozen 3
          have cs4 := Bs.cell 4
          have fs4 := Bs.frozen 4
          have cs5 := Bs.cell 5
          have fs5 := Bs.frozen 5
          have ts := Bs.lt
          clear Bs
          have Bp := D.out.box_ 2 rfl
          have cp0 := Bp.cell 0
          have cp1 := Bp.cell 1
          have cp2 := Bp.cell 2
          have cp3 := Bp.cell 3
          have cp4 := Bp.cell 4
          have cp5 := Bp.cell 5
          have tp := Bp.lt
          clear Bp
          go_wp2_with fail
          go_ret
          exact ⟨rfl, rspa_shut (X := ⟨room, T1, L1, K1, re, gr, lo, ti⟩) (D.out.sel 7 [3, 1, 0, 6] [2, 4, 5] (by decide))⟩
        · have k1 : Hid (∀ U B, Sx w (box B 32 (pkA ⟨pn, pt, ps, true, true, pc⟩) :: box s 91 #[ptr a, ptr b, ptr c, .int .i64 gr, .int .i64 lo, .int .i64 ti] :: rlogO a room last l :: rsetO b 256 kn :: rsetO c 256 re :: M) U → Calls Tryz.prog 48 #[ptr a] U (fun e W => ∃ q, e = .returned (ptr q) ∧ Sx w (rlogO q room last l :: box B 32 (pkA ⟨pn, pt, ps, true, true, pc⟩) :: box s 91 #[ptr a, ptr b, ptr c, .int .i64 gr, .int .i64 lo, .int .i64 ti] :: rlogO a room last l :: rsetO b 256 kn :: rsetO c 256 re :: M) W)) := Lib.hid (fun U B h => rlog_copy h 2 rfl)
          have k2 : Hid (∀ U B x, Sx w (rlogO x room last l :: box B 32 (pkA ⟨pn, pt, ps, true, true, pc⟩) :: box s 91 #[ptr a, ptr b, ptr c, .int .i64 gr, .int .i64 lo, .int .i64 ti] :: rlogO a room last l :: rsetO b 256 kn :: rsetO c 256 re :: M) U → Calls Tryz.prog 49 #[ptr b] U (fun e W => ∃ q, e = .returned (ptr q) ∧ Sx w (rsetO q 256 kn :: rlogO x room last l :: box B 32 (pkA ⟨pn, pt, ps, true, true, pc⟩) :: box s 91 #[ptr a, ptr b, ptr c, .int .i64 gr, .int .i64 lo, .int .i64 ti] :: rlogO a room last l :: rsetO b 256 kn :: rsetO c 256 re :: M) W)) := Lib.hid (fun U B x h => rset_copy h 4 rfl)
          have S0 : Hid (∀ U B, Sx w (box B 32 (pkA ⟨pn, pt, ps, true, true, pc⟩) :: box s 91 #[ptr a, ptr b, ptr c, .int .i64 gr, .int .i64 lo, .int .i64 ti] :: rlogO a room last l :: rsetO b 256 kn :: rsetO c 256 re :: M) U → U.cell? ⟨s, 0, none⟩ = some (ptr a) ∧ U.cell? ⟨s, 1, none⟩ = some (ptr b)) := Lib.hid (fun U B h => ⟨(h.box_ 1 rfl).cell 0, (h.box_ 1 rfl).cell 1⟩)
          have S1 : Hid (∀ U B x, Sx w (rlogO x room last l :: box B 32 (pkA ⟨pn, pt, ps, true, true, pc⟩) :: box s 91 #[ptr a, ptr b, ptr c, .int .i64 gr, .int .i64 lo, .int .i64 ti] :: rlogO a room last l :: rsetO b 256 kn :: rsetO c 256 re :: M) U → U.cell? ⟨s, 0, none⟩ = some (ptr a) ∧ U.cell? ⟨s, 1, none⟩ = some (ptr b)) := Lib.hid (fun U B x h => ⟨(h.box_ 2 rfl).cell 0, (h.box_ 2 rfl).cell 1⟩)
          have S2 : Hid (∀ U B x y, Sx w (rsetO y 256 kn :: rlogO x room last l :: box B 32 (pkA ⟨pn, pt, ps, true, true, pc⟩) :: box s 91 #[ptr a, ptr b, ptr c, .int .i64 gr, .int .i64 lo, .int .i64 ti] :: rlogO a room last l :: rsetO b 256 kn :: rsetO c 256 re :: M) U → U.cell? ⟨s, 0, none⟩ = some (ptr a) ∧ U.cell? ⟨s, 1, none⟩ = some (ptr b)) := Lib.hid (fun U B x y h => ⟨(h.box_ 3 rfl).cell 0, (h.box_ 3 rfl).cell 1⟩)
          have D : Hid (Sx w (box V.heap.size 32 (pkA ⟨pn, pt, ps, true, true, pc⟩) :: box s 91 #[ptr a, ptr b, ptr c, .int .i64 gr, .int .i64 lo, .int .i64 ti] :: rlogO a room last l :: rsetO b 256 kn :: rsetO c 256 re :: M) (V.alloc (.cells (pkA ⟨pn, pt, ps, true, true, pc⟩) 32))) := Lib.hid (D.out.new _ _)
          go_enter Tryz.func16, Tryz.ntmps16
          go_upto_region 1 with (fail)
          generalize V.alloc (.cells (pkA ⟨pn, pt, ps, true, true, pc⟩) 32) = v1 at *
          generalize V.heap.size = B at *
          have D : Hid (Sx w (box B 32 (pkA ⟨pn, pt, ps, true, true, pc⟩) :: box s 91 #[ptr a, ptr b, ptr c, .int .i64 gr, .int .i64 lo, .int .i64 ti] :: rlogO a room last l :: rsetO b 256 kn :: rsetO c 256 re :: M) v1.drew) := Lib.hid (D.out.on (Kept.refl _).drew)
          go_region_held3 (fun U => U.cell? ⟨s, 0, none⟩ = some (ptr a) ∧ U.cell? ⟨s, 1, none⟩ = some (ptr b))
            (first | with_reducible exact S0.out _ _ D.out | with_reducible exact S1.out _ _ _ D.out | with_reducible exact S2.out _ _ _ _ D.out)
            (first
              | (go_at_call 48; (with_reducible refine (k1.out _ _ D.out).mono ?_); rintro e w' ⟨x, rfl, hb⟩; have D := Lib.hid hb; clear hb)
              | (go_at_call 49; (with_reducible refine (k2.out _ _ _ D.out).mono ?_); rintro e w' ⟨y, rfl, hb⟩; have D := Lib.hid hb; clear hb))
          have Bp := D.out.box_ 2 rfl
          have cp0 := Bp.cell 0
          have cp1 := Bp.cell 1
          have cp2 := Bp.cell 2
          have cp3 := Bp.cell 3
          have cp4 := Bp.cell 4
          have cp5 := Bp.cell 5
          have tp := Bp.lt
          clear Bp
          go_wp2_with fail
          clear cp0 cp1 cp2 cp3 cp4 cp5 tp
          refine (k3.out _ _ _ _ D.out).mono ?_
          rintro e v3 ⟨rfl, hb⟩
          have D := Lib.hid hb
          clear hb
          have Bp := D.out.box_ 2 rfl
          have cp0 := Bp.cell 0
          have cp1 := Bp.cell 1
          have cp2 := Bp.cell 2
          have cp3 := Bp.cell 3
          have cp4 := Bp.cell 4
          have cp5 := Bp.cell 5
          have tp := Bp.lt
          clear Bp
          go_wp2_with fail
          clear cp0 cp1 cp2 cp3 cp4 cp5 tp
          refine (k4.out _ _ _ _ D.out).mono ?_
          rintro e v4 ⟨rfl, hb⟩
          have D := Lib.hid hb
          clear hb
          have Bs := D.out.box_ 3 rfl
          have cs0 := Bs.cell 0
          have fs0 := Bs.frozen 0
          have cs1 := Bs.cell 1
          have fs1 := Bs.frozen 1
          have cs2 := Bs.cell 2
          have fs2 := Bs.frozen 2
          have cs3 := Bs.cell 3
          have fs3 := Bs.frozen 3
          have cs4 := Bs.cell 4
          have fs4 := Bs.frozen 4
          have cs5 := Bs.cell 5
          have fs5 := Bs.frozen 5
          have ts := Bs.lt
          clear Bs
          go_upto_region 9 with (fail)
          clear cs0 fs0 cs1 fs1 cs2 fs2 cs3 fs3 cs4 fs4 cs5 fs5 ts
          have D := Lib.hid (D.out.cell_ 3 rfl 0 (ptr x))
          generalize v4.setCell ⟨s, 0, none⟩ (ptr x) = v5 at *
          have D : Hid (Sx w (rsetO y 256 K1 :: rlogO x room T1 L1 :: box B 32 (pkA ⟨pn, pt, ps, true, true, pc⟩) :: box s 91 #[ptr x, ptr b, ptr c, .int .i64 gr, .int .i64 lo, .int .i64 ti] :: rlogO a room last l :: rsetO b 256 kn :: rsetO c 256 re :: M) v5) := D
          have Bs := D.out.box_ 3 rfl
          have cs0 := Bs.cell 0
          have fs0 := Bs.frozen 0
          have cs1 := Bs.cell 1
          have fs1 := Bs.frozen 1
          have cs2 := Bs.cell 2
          have fs2 := Bs.frozen 2
          have cs3 := Bs.cell 3
          have fs3 := Bs.frozen 3
          have cs4 := Bs.cell 4
          have fs4 := Bs.frozen 4
          have cs5 := Bs.cell 5
          have fs5 := Bs.frozen 5
          have ts := Bs.lt
          clear Bs
          go_upto_region 10 with (fail)
          clear cs0 fs0 cs1 fs1 cs2 fs2 cs3 fs3 cs4 fs4 cs5 fs5 ts
          have D := Lib.hid (D.out.cell_ 3 rfl 1 (ptr y))
          generalize v5.setCell ⟨s, 1, none⟩ (ptr y) = v6 at *
          have D : Hid (Sx w (rsetO y 256 K1 :: rlogO x room T1 L1 :: box B 32 (pkA ⟨pn, pt, ps, true, true, pc⟩) :: box s 91 #[ptr x, ptr y, ptr c, .int .i64 gr, .int .i64 lo, .int .i64 ti] :: rlogO a room last l :: rsetO b 256 kn :: rsetO c 256 re :: M) v6) := D
          have Bs := D.out.box_ 3 rfl
          have cs0 := Bs.cell 0
          have fs0 := Bs.frozen 0
          have cs1 := Bs.cell 1
          have fs1 := Bs.frozen 1
          have cs2 := Bs.cell 2
          have fs2 := Bs.frozen 2
          have cs3 := Bs.cell 3
          have fs3 := Bs.frozen 3
          have cs4 := Bs.cell 4
          have fs4 := Bs.frozen 4
          have cs5 := Bs.cell 5
          have fs5 := Bs.frozen 5
          have ts := Bs.lt
          clear Bs
          have Bp := D.out.box_ 2 rfl
          have cp0 := Bp.cell 0
          have cp1 := Bp.cell 1
          have cp2 := Bp.cell 2
          have cp3 := Bp.cell 3
          have cp4 := Bp.cell 4
          have cp5 := Bp.cell 5
          have tp := Bp.lt
          clear Bp
          go_wp2_with fail
          have D := Lib.hid (D.out.cell_ 3 rfl 5 (.int .i64 pt))
          have D : Hid (Sx w (rsetO y 256 K1 :: rlogO x room T1 L1 :: box B 32 (pkA ⟨pn, pt, ps, true, true, pc⟩) :: box s 91 #[ptr x, ptr y, ptr c, .int .i64 gr, .int .i64 lo, .int .i64 pt] :: rlogO a room last l :: rsetO b 256 kn :: rsetO c 256 re :: M) (v6.setCell ⟨s, 5, none⟩ (.int .i64 pt))) := D
          go_ret
          exact ⟨rfl, rspa_shut (X := ⟨room, T1, L1, K1, re, gr, lo, pt⟩) (D.out.sel 7 [3, 1, 0, 6] [2, 4, 5] (by decide))⟩
    · have eA : addTo 256 kn p.n p.n = kn := if_neg ha
      have hs : sentE ⟨room, last, l, kn, re, gr, lo, ti⟩ p = addErr 256 kn p.n p.n := by show (if putErr room last l p = 0 then _ else _) = _; rw [if_pos hp]
      rw [sent_no (by rw [hs]; exact ha), hs]
      have hE : (addErr 256 kn p.n p.n == 0) = false := by simp [ha]
      have k4 : Hid (∀ U x y B, Sx w (rsetO y 256 kn :: rlogO x room T1 L1 :: box B 32 (pkA p) :: box s 91 #[ptr a, ptr b, ptr c, .int .i64 gr, .int .i64 lo, .int .i64 ti] :: rlogO a room last l :: rsetO b 256 kn :: rsetO c 256 re :: M) U → Calls Tryz.prog 51 #[ptr y, .int .i64 p.n, .int .i64 p.n] U (Gets (.int .i64 (addErr 256 kn p.n p.n)) w (rsetO y 256 kn :: rlogO x room T1 L1 :: box B 32 (pkA p) :: box s 91 #[ptr a, ptr b, ptr c, .int .i64 gr, .int .i64 lo, .int .i64 ti] :: rlogO a room last l :: rsetO b 256 kn :: rsetO c 256 re :: M))) := Lib.hid (fun U x y B h => by
        have := rset_add256 h 0 rfl p.n p.n
        rwa [eA] at this)
      generalize addErr 256 kn p.n p.n = E2 at *
      clear hp ha eT eL eA hT hL hs
      have k1 : Hid (∀ U B, Sx w (box B 32 (pkA p) :: box s 91 #[ptr a, ptr b, ptr c, .int .i64 gr, .int .i64 lo, .int .i64 ti] :: rlogO a room last l :: rsetO b 256 kn :: rsetO c 256 re :: M) U → Calls Tryz.prog 48 #[ptr a] U (fun e W => ∃ q, e = .returned (ptr q) ∧ Sx w (rlogO q room last l :: box B 32 (pkA p) :: box s 91 #[ptr a, ptr b, ptr c, .int .i64 gr, .int .i64 lo, .int .i64 ti] :: rlogO a room last l :: rsetO b 256 kn :: rsetO c 256 re :: M) W)) := Lib.hid (fun U B h => rlog_copy h 2 rfl)
      have k2 : Hid (∀ U B x, Sx w (rlogO x room last l :: box B 32 (pkA p) :: box s 91 #[ptr a, ptr b, ptr c, .int .i64 gr, .int .i64 lo, .int .i64 ti] :: rlogO a room last l :: rsetO b 256 kn :: rsetO c 256 re :: M) U → Calls Tryz.prog 49 #[ptr b] U (fun e W => ∃ q, e = .returned (ptr q) ∧ Sx w (rsetO q 256 kn :: rlogO x room last l :: box B 32 (pkA p) :: box s 91 #[ptr a, ptr b, ptr c, .int .i64 gr, .int .i64 lo, .int .i64 ti] :: rlogO a room last l :: rsetO b 256 kn :: rsetO c 256 re :: M) W)) := Lib.hid (fun U B x h => rset_copy h 4 rfl)
      have S0 : Hid (∀ U B, Sx w (box B 32 (pkA p) :: box s 91 #[ptr a, ptr b, ptr c, .int .i64 gr, .int .i64 lo, .int .i64 ti] :: rlogO a room last l :: rsetO b 256 kn :: rsetO c 256 re :: M) U → U.cell? ⟨s, 0, none⟩ = some (ptr a) ∧ U.cell? ⟨s, 1, none⟩ = some (ptr b)) := Lib.hid (fun U B h => ⟨(h.box_ 1 rfl).cell 0, (h.box_ 1 rfl).cell 1⟩)
      have S1 : Hid (∀ U B x, Sx w (rlogO x room last l :: box B 32 (pkA p) :: box s 91 #[ptr a, ptr b, ptr c, .int .i64 gr, .int .i64 lo, .int .i64 ti] :: rlogO a room last l :: rsetO b 256 kn :: rsetO c 256 re :: M) U → U.cell? ⟨s, 0, none⟩ = some (ptr a) ∧ U.cell? ⟨s, 1, none⟩ = some (ptr b)) := Lib.hid (fun U B x h => ⟨(h.box_ 2 rfl).cell 0, (h.box_ 2 rfl).cell 1⟩)
      have S2 : Hid (∀ U B x y, Sx w (rsetO y 256 kn :: rlogO x room last l :: box B 32 (pkA p) :: box s 91 #[ptr a, ptr b, ptr c, .int .i64 gr, .int .i64 lo, .int .i64 ti] :: rlogO a room last l :: rsetO b 256 kn :: rsetO c 256 re :: M) U → U.cell? ⟨s, 0, none⟩ = some (ptr a) ∧ U.cell? ⟨s, 1, none⟩ = some (ptr b)) := Lib.hid (fun U B x y h => ⟨(h.box_ 3 rfl).cell 0, (h.box_ 3 rfl).cell 1⟩)
      have D : Hid (Sx w (box V.heap.size 32 (pkA p) :: box s 91 #[ptr a, ptr b, ptr c, .int .i64 gr, .int .i64 lo, .int .i64 ti] :: rlogO a room last l :: rsetO b 256 kn :: rsetO c 256 re :: M) (V.alloc (.cells (pkA p) 32))) := Lib.hid (D.out.new _ _)
      go_enter Tryz.func16, Tryz.ntmps16
      go_upto_region 1 with (fail)
      generalize V.alloc (.cells (pkA p) 32) = v1 at *
      generalize V.heap.size = B at *
      have D : Hid (Sx w (box B 32 (pkA p) :: box s 91 #[ptr a, ptr b, ptr c, .int .i64 gr, .int .i64 lo, .int .i64 ti] :: rlogO a room last l :: rsetO b 256 kn :: rsetO c 256 re :: M) v1.drew) := Lib.hid (D.out.on (Kept.refl _).drew)
      go_region_held3 (fun U => U.cell? ⟨s, 0, none⟩ = some (ptr a) ∧ U.cell? ⟨s, 1, none⟩ = some (ptr b))
        (first | with_reducible exact S0.out _ _ D.out | with_reducible exact S1.out _ _ _ D.out | with_reducible exact S2.out _ _ _ _ D.out)
        (first
          | (go_at_call 48; (with_reducible refine (k1.out _ _ D.out).mono ?_); rintro e w' ⟨x, rfl, hb⟩; have D := Lib.hid hb; clear hb)
          | (go_at_call 49; (with_reducible refine (k2.out _ _ _ D.out).mono ?_); rintro e w' ⟨y, rfl, hb⟩; have D := Lib.hid hb; clear hb))
      have Bp := D.out.box_ 2 rfl
      have cp0 := Bp.cell 0
      have cp1 := Bp.cell 1
      have cp2 := Bp.cell 2
      have cp3 := Bp.cell 3
      have cp4 := Bp.cell 4
      have cp5 := Bp.cell 5
      have tp := Bp.lt
      clear Bp
      go_wp2_with fail
      clear cp0 cp1 cp2 cp3 cp4 cp5 tp
      refine (k3.out _ _ _ _ D.out).mono ?_
      rintro e v3 ⟨rfl, hb⟩
      have D := Lib.hid hb
      clear hb
      have Bp := D.out.box_ 2 rfl
      have cp0 := Bp.cell 0
      have cp1 := Bp.cell 1
      have cp2 := Bp.cell 2
      have cp3 := Bp.cell 3
      have cp4 := Bp.cell 4
      have cp5 := Bp.cell 5
      have tp := Bp.lt
      clear Bp
      go_wp2_with fail
      clear cp0 cp1 cp2 cp3 cp4 cp5 tp
      refine (k4.out _ _ _ _ D.out).mono ?_
      rintro e v4 ⟨rfl, hb⟩
      have D := Lib.hid hb
      clear hb
      go_wp2_with fail
      go_ret
      exact ⟨rfl, rspa_shut (X := ⟨room, last, l, kn, re, gr, lo, ti⟩) D.out.tail.tail.tail⟩
  · have eT : putTop room last l p = last := if_neg hp
    have eL : putL room last l p = l := if_neg hp
    have hs : sentE ⟨room, last, l, kn, re, gr, lo, ti⟩ p = putErr room last l p := if_neg hp
    rw [sent_no (by rw [hs]; exact hp), hs]
    have hE : (putErr room last l p == 0) = false := by simp [hp]
    have k3 : Hid (∀ U x y B, Sx w (rsetO y 256 kn :: rlogO x room last l :: box B 32 (pkA p) :: box s 91 #[ptr a, ptr b, ptr c, .int .i64 gr, .int .i64 lo, .int .i64 ti] :: rlogO a room last l :: rsetO b 256 kn :: rsetO c 256 re :: M) U → Calls Tryz.prog 50 #[ptr x, pkV p] U (Gets (.int .i64 (putErr room last l p)) w (rsetO y 256 kn :: rlogO x room last l :: box B 32 (pkA p) :: box s 91 #[ptr a, ptr b, ptr c, .int .i64 gr, .int .i64 lo, .int .i64 ti] :: rlogO a room last l :: rsetO b 256 kn :: rsetO c 256 re :: M))) := Lib.hid (fun U x y B h => by
      have := rlog_put h 1 rfl p
      rwa [eT, eL] at this)
    generalize putErr room last l p = E1 at *
    clear hp eT eL hs
    have k1 : Hid (∀ U B, Sx w (box B 32 (pkA p) :: box s 91 #[ptr a, ptr b, ptr c, .int .i64 gr, .int .i64 lo, .int .i64 ti] :: rlogO a room last l :: rsetO b 256 kn :: rsetO c 256 re :: M) U → Calls Tryz.prog 48 #[ptr a] U (fun e W => ∃ q, e = .returned (ptr q) ∧ Sx w (rlogO q room last l :: box B 32 (pkA p) :: box s 91 #[ptr a, ptr b, ptr c, .int .i64 gr, .int .i64 lo, .int .i64 ti] :: rlogO a room last l :: rsetO b 256 kn :: rsetO c 256 re :: M) W)) := Lib.hid (fun U B h => rlog_copy h 2 rfl)
    have k2 : Hid (∀ U B x, Sx w (rlogO x room last l :: box B 32 (pkA p) :: box s 91 #[ptr a, ptr b, ptr c, .int .i64 gr, .int .i64 lo, .int .i64 ti] :: rlogO a room last l :: rsetO b 256 kn :: rsetO c 256 re :: M) U → Calls Tryz.prog 49 #[ptr b] U (fun e W => ∃ q, e = .returned (ptr q) ∧ Sx w (rsetO q 256 kn :: rlogO x room last l :: box B 32 (pkA p) :: box s 91 #[ptr a, ptr b, ptr c, .int .i64 gr, .int .i64 lo, .int .i64 ti] :: rlogO a room last l :: rsetO b 256 kn :: rsetO c 256 re :: M) W)) := Lib.hid (fun U B x h => rset_copy h 4 rfl)
    have S0 : Hid (∀ U B, Sx w (box B 32 (pkA p) :: box s 91 #[ptr a, ptr b, ptr c, .int .i64 gr, .int .i64 lo, .int .i64 ti] :: rlogO a room last l :: rsetO b 256 kn :: rsetO c 256 re :: M) U → U.cell? ⟨s, 0, none⟩ = some (ptr a) ∧ U.cell? ⟨s, 1, none⟩ = some (ptr b)) := Lib.hid (fun U B h => ⟨(h.box_ 1 rfl).cell 0, (h.box_ 1 rfl).cell 1⟩)
    have S1 : Hid (∀ U B x, Sx w (rlogO x room last l :: box B 32 (pkA p) :: box s 91 #[ptr a, ptr b, ptr c, .int .i64 gr, .int .i64 lo, .int .i64 ti] :: rlogO a room last l :: rsetO b 256 kn :: rsetO c 256 re :: M) U → U.cell? ⟨s, 0, none⟩ = some (ptr a) ∧ U.cell? ⟨s, 1, none⟩ = some (ptr b)) := Lib.hid (fun U B x h => ⟨(h.box_ 2 rfl).cell 0, (h.box_ 2 rfl).cell 1⟩)
    have S2 : Hid (∀ U B x y, Sx w (rsetO y 256 kn :: rlogO x room last l :: box B 32 (pkA p) :: box s 91 #[ptr a, ptr b, ptr c, .int .i64 gr, .int .i64 lo, .int .i64 ti] :: rlogO a room last l :: rsetO b 256 kn :: rsetO c 256 re :: M) U → U.cell? ⟨s, 0, none⟩ = some (ptr a) ∧ U.cell? ⟨s, 1, none⟩ = some (ptr b)) := Lib.hid (fun U B x y h => ⟨(h.box_ 3 rfl).cell 0, (h.box_ 3 rfl).cell 1⟩)
    have D : Hid (Sx w (box V.heap.size 32 (pkA p) :: box s 91 #[ptr a, ptr b, ptr c, .int .i64 gr, .int .i64 lo, .int .i64 ti] :: rlogO a room last l :: rsetO b 256 kn :: rsetO c 256 re :: M) (V.alloc (.cells (pkA p) 32))) := Lib.hid (D.out.new _ _)
    go_enter Tryz.func16, Tryz.ntmps16
    go_upto_region 1 with (fail)
    generalize V.alloc (.cells (pkA p) 32) = v1 at *
    generalize V.heap.size = B at *
    have D : Hid (Sx w (box B 32 (pkA p) :: box s 91 #[ptr a, ptr b, ptr c, .int .i64 gr, .int .i64 lo, .int .i64 ti] :: rlogO a room last l :: rsetO b 256 kn :: rsetO c 256 re :: M) v1.drew) := Lib.hid (D.out.on (Kept.refl _).drew)
    go_region_held3 (fun U => U.cell? ⟨s, 0, none⟩ = some (ptr a) ∧ U.cell? ⟨s, 1, none⟩ = some (ptr b))
      (first | with_reducible exact S0.out _ _ D.out | with_reducible exact S1.out _ _ _ D.out | with_reducible exact S2.out _ _ _ _ D.out)
      (first
        | (go_at_call 48; (with_reducible refine (k1.out _ _ D.out).mono ?_); rintro e w' ⟨x, rfl, hb⟩; have D := Lib.hid hb; clear hb)
        | (go_at_call 49; (with_reducible refine (k2.out _ _ _ D.out).mono ?_); rintro e w' ⟨y, rfl, hb⟩; have D := Lib.hid hb; clear hb))
    have Bp := D.out.box_ 2 rfl
    have cp0 := Bp.cell 0
    have cp1 := Bp.cell 1
    have cp2 := Bp.cell 2
    have cp3 := Bp.cell 3
    have cp4 := Bp.cell 4
    have cp5 := Bp.cell 5
    have tp := Bp.lt
    clear Bp
    go_wp2_with fail
    clear cp0 cp1 cp2 cp3 cp4 cp5 tp
    refine (k3.out _ _ _ _ D.out).mono ?_
    rintro e v3 ⟨rfl, hb⟩
    have D := Lib.hid hb
    clear hb
    go_wp2_with fail
    go_ret
    exact ⟨rfl, rspa_shut (X := ⟨room, last, l, kn, re, gr, lo, ti⟩) D.out.tail.tail.tail⟩
theorem rspa_may (h : Sx w L V) (i : Nat) (hi : L[i]? = some (rspaO s X)) (p : Pk) : Calls Tryz.prog 76 #[ptr s, pkV p] V (Gets (.int .i64 (sentE X p)) w L) := by
  have kc : Hid (∀ U B, Sx w (box B 32 (pkA p) :: L) U → Calls Tryz.prog 22 #[ptr s] U (fun e W => ∃ q, e = .returned (ptr q) ∧ Sx w (rspaO q X :: box B 32 (pkA p) :: L) W)) := Lib.hid (fun U B h => rspa_copy h (i + 1) hi)
  have ks : Hid (∀ U B q, Sx w (rspaO q X :: box B 32 (pkA p) :: L) U → Calls Tryz.prog 16 #[ptr q, pkV p] U (Gets (.int .i64 (sentE X p)) w (rspaO q (sent X p) :: box B 32 (pkA p) :: L))) := Lib.hid (fun U B q h => (rspa_sent (s := q) p).at_ h 0 rfl)
  have D : Hid (Sx w (box V.heap.size 32 (pkA p) :: L) (V.alloc (.cells (pkA p) 32))) := Lib.hid (h.new _ _)
  clear h hi
  generalize sent X p = Y at *
  generalize sentE X p = E at *
  go_enter Tryz.func76, Tryz.ntmps76
  go_wp2_with fail
  generalize V.alloc (.cells (pkA p) 32) = v1 at *
  generalize V.heap.size = B at *
  refine (kc.out _ _ D.out).mono ?_
  rintro e v2 ⟨q, rfl, hb⟩
  have D := Lib.hid hb
  clear hb
  have Bp := D.out.box_ 1 rfl
  have cp0 := Bp.cell 0
  have cp1 := Bp.cell 1
  have cp2 := Bp.cell 2
  have cp3 := Bp.cell 3
  have cp4 := Bp.cell 4
  have cp5 := Bp.cell 5
  have tp := Bp.lt
  clear Bp
  go_wp2_with fail
  clear cp0 cp1 cp2 cp3 cp4 cp5 tp
  refine (ks.out _ _ _ D.out).mono ?_
  rintro e v3 ⟨rfl, hb⟩
  go_wp2_with fail
  go_ret
  exact ⟨rfl, hb.tail.tail⟩
theorem rspa_disc : Mt Tryz.prog 24 #[ptr s] (rspaO s X) (.tuple #[]) (rspaO s (disc X)) := by
  intro w V M h
  obtain ⟨a, b, c, h⟩ := rspa_open h
  obtain ⟨room, last, l, kn, re, gr, lo, ti⟩ := X
  have D : Hid (Sx w (box s 91 #[ptr a, ptr b, ptr c, .int .i64 gr, .int .i64 lo, .int .i64 ti] :: rlogO a room last l :: rsetO b 256 kn :: rsetO c 256 re :: M) V) := Lib.hid h
  clear h
  have Bs := D.out.box_ 0 rfl
  have cs0 := Bs.cell 0
  have fs0 := Bs.frozen 0
  have cs1 := Bs.cell 1
  have fs1 := Bs.frozen 1
  have cs2 := Bs.cell 2
  have fs2 := Bs.frozen 2
  have cs3 := Bs.cell 3
  have fs3 := Bs.frozen 3
  have cs4 := Bs.cell 4
  have fs4 := Bs.frozen 4
  have cs5 := Bs.cell 5
  have fs5 := Bs.frozen 5
  have ts := Bs.lt
  clear Bs
  go_enter Tryz.func24, Tryz.ntmps24
  go_wp2_with fail
  clear cs0 fs0 cs1 fs1 cs2 fs2 cs3 fs3 cs4 fs4 cs5 fs5 ts
  refine (rlog_clear D.out 1 rfl).mono ?_
  rintro e v1 ⟨rfl, hb⟩
  have D := Lib.hid hb
  clear hb
  have D : Hid (Sx w (box s 91 #[ptr a, ptr b, ptr c, .int .i64 gr, .int .i64 lo, .int .i64 ti] :: rlogO a room last [] :: rsetO b 256 kn :: rsetO c 256 re :: M) v1) := D
  have Bs := D.out.box_ 0 rfl
  have cs0 := Bs.cell 0
  have fs0 := Bs.frozen 0
  have cs1 := Bs.cell 1
  have fs1 := Bs.frozen 1
  have cs2 := Bs.cell 2
  have fs2 := Bs.frozen 2
  have cs3 := Bs.cell 3
  have fs3 := Bs.frozen 3
  have cs4 := Bs.cell 4
  have fs4 := Bs.frozen 4
  have cs5 := Bs.cell 5
  have fs5 := Bs.frozen 5
  have ts := Bs.lt
  clear Bs
  go_upto_region 2 with (fail)
  clear cs0 fs0 cs1 fs1 cs2 fs2 cs3 fs3 cs4 fs4 cs5 fs5 ts
  have D := Lib.hid (D.out.cell_ 0 rfl 4 (.int .i64 (-1)))
  generalize v1.setCell ⟨s, 4, none⟩ (.int .i64 (-1)) = v2 at *
  have D : Hid (Sx w (box s 91 #[ptr a, ptr b, ptr c, .int .i64 gr, .int .i64 (-1), .int .i64 ti] :: rlogO a room last [] :: rsetO b 256 kn :: rsetO c 256 re :: M) v2) := D
  have Bs := D.out.box_ 0 rfl
  have cs0 := Bs.cell 0
  have fs0 := Bs.frozen 0
  have cs1 := Bs.cell 1
  have fs1 := Bs.frozen 1
  have cs2 := Bs.cell 2
  have fs2 := Bs.frozen 2
  have cs3 := Bs.cell 3
  have fs3 := Bs.frozen 3
  have cs4 := Bs.cell 4
  have fs4 := Bs.frozen 4
  have cs5 := Bs.cell 5
  have fs5 := Bs.frozen 5
  have ts := Bs.lt
  clear Bs
  go_wp2_with fail
  have D := Lib.hid (D.out.cell_ 0 rfl 5 (.int .i64 (-1)))
  have D : Hid (Sx w (box s 91 #[ptr a, ptr b, ptr c, .int .i64 gr, .int .i64 (-1), .int .i64 (-1)] :: rlogO a room last [] :: rsetO b 256 kn :: rsetO c 256 re :: M) (v2.setCell ⟨s, 5, none⟩ (.int .i64 (-1)))) := D
  refine bodyPost_ret (v := .tuple #[]) ?_ rfl ⟨rfl, rspa_shut (X := ⟨room, last, [], kn, re, gr, -1, -1⟩) D.out⟩
  simp [results, Tryz.f24, go_sem]
theorem rspa_persists (h : Sx w L V) (i : Nat) (hi : L[i]? = some (rspaO s X)) {A : Option Addr} {n c' : Nat} {lost : List Pk} (hS : Los.Src V A n c' lost) (hn : n ≤ 256) (r : Rt) (d : Int) : Calls Tryz.prog 77 #[ptr s, .slice A n c', rtV r, .int .i64 d] V (fun e W => e = .returned (.bool (Per.isT (has X.re) lost r d)) ∧ Kept V W) := by
  obtain ⟨F, q, hq⟩ := h.get i hi
  obtain ⟨a, b, c⟩ := q
  obtain ⟨A1, B1, rfl, ⟨rfl, hb⟩, A2, B2, rfl, _, A3, B3, rfl, _, A4, B4, rfl, ⟨C, d4, rfl, hr⟩, _⟩ := hq
  have HB : Hid (Blk (V.alloc (.cells (rtA r) 38)) s 91 (rspA a b c X)) := Lib.hid (hb.kept ((Kept.refl V).alloc _))
  have HN : Hid (Blk (V.alloc (.cells (rtA r) 38)) V.heap.size 38 (rtA r)) := Lib.hid (Blk.new _ _ _)
  have K : Hid (Kept V (V.alloc (.cells (rtA r) 38))) := Lib.hid ((Kept.refl V).alloc _)
  have kp : Hid (∀ U, Kept V U → Calls Tryz.prog 116 #[.slice A n c', .pointer (some ⟨c, 0, none⟩), rtV r, .int .i64 d] U (Snt.GBool (Per.isT (has X.re) lost r d) U)) := Lib.hid (fun U k => Per.risT_any r d U (hS.kept k) (.inr ⟨c, _, _, _, rfl, hr.kept k⟩) hn)
  clear h hi hb hr hS
  generalize Per.isT (has X.re) lost r d = T at *
  go_enter Tryz.func77, Tryz.ntmps77
  go_upto_region 1 with (fail)
  generalize V.alloc (.cells (rtA r) 38) = v1 at *
  generalize V.heap.size = B at *
  have HB : Hid (Blk v1.drew s 91 (rspA a b c X)) := Lib.hid (HB.out.kept (Kept.refl _).drew)
  have HN : Hid (Blk v1.drew B 38 (rtA r)) := Lib.hid (HN.out.kept (Kept.refl _).drew)
  have K : Hid (Kept V v1.drew) := Lib.hid K.out.drew
  go_region_held3 (fun U => U.cell? ⟨s, 2, none⟩ = some (ptr c) ∧ U.cell? ⟨B, 0, none⟩ = some (.int .i64 r.l) ∧ U.cell? ⟨B, 1, none⟩ = some (.int .i64 r.m) ∧ U.cell? ⟨B, 2, none⟩ = some (.int .i64 r.s) ∧ U.cell? ⟨B, 3, none⟩ = some (.int .i64 r.v) ∧ U.cell? ⟨B, 4, none⟩ = some (.int .i64 r.f))
    (exact ⟨HB.out.cell 2, HN.out.cell 0, HN.out.cell 1, HN.out.cell 2, HN.out.cell 3, HN.out.cell 4⟩)
    (first | (go_at_call 116; (with_reducible refine (kp.out _ K.out).mono ?_); rintro e w' ⟨rfl, hk⟩; have HB := Lib.hid (HB.out.kept hk); have HN := Lib.hid (HN.out.kept hk); have K := Lib.hid (K.out.trans hk); clear hk))
  go_wp2_with fail
  go_ret
  exact ⟨rfl, K.out⟩
theorem rspa_known (h : Sx w L V) (i : Nat) (hi : L[i]? = some (rspaO s X)) (r : R) : Calls Tryz.prog 62 #[ptr s, .agg #[.int .i64 r.1, .int .i64 r.2]] V (Gets (.bool (knownB X.kn r)) w L) := by
  obtain ⟨r1, r2⟩ := r
  show Calls Tryz.prog 62 #[ptr s, .agg #[.int .i64 r1, .int .i64 r2]] V (Gets (.bool (knownB X.kn (r1, r2))) w L)
  obtain ⟨F, q, hq⟩ := h.get i hi
  obtain ⟨a, b, c⟩ := q
  obtain ⟨A1, B1, rfl, ⟨rfl, hb⟩, A2, B2, rfl, _, A3, B3, rfl, ⟨C, d4, rfl, hr⟩, _⟩ := hq
  have D : Hid (Sx w L V) := Lib.hid h
  have K : Hid (Kept V (V.alloc (.cells #[.int .i64 r1, .int .i64 r2] 101))) := Lib.hid ((Kept.refl V).alloc _)
  have HB : Hid (Blk (V.alloc (.cells #[.int .i64 r1, .int .i64 r2] 101)) s 91 (rspA a b c X)) := Lib.hid (hb.kept K.out)
  have HN : Hid (Blk (V.alloc (.cells #[.int .i64 r1, .int .i64 r2] 101)) V.heap.size 101 #[.int .i64 r1, .int .i64 r2]) := Lib.hid (Blk.new _ _ _)
  have kg := Lib.hid (Spn.rranges_any b d4 256 C X.kn _ (hr.kept K.out))
  have hlen := hr.fits
  clear h hi hb hr
  generalize X.kn = kn at *
  have ek : Hid (knownB kn (r1, r2) = kn.reverse.any (fun s => decide (s.1 ≤ r1) && decide (r2 ≤ s.2))) := Lib.hid (by unfold knownB; rw [List.any_reverse])
  rw [ek.out]
  have hl : kn.reverse.length = kn.length := List.length_reverse
  obtain ⟨N, hN⟩ : ∃ N, kn.length = N := ⟨_, rfl⟩
  rw [hN] at hl hlen
  generalize kn.reverse = rs at *
  have eb0 := HB.out.cell 1
  have tb := HB.out.lt
  go_enter Tryz.func62, Tryz.ntmps62
  go_wp2_with fail
  clear eb0 tb
  generalize V.alloc (.cells #[.int .i64 r1, .int .i64 r2] 101) = v1 at *
  generalize V.heap.size = B at *
  refine kg.out.mono ?_
  rintro e v2 ⟨A, cc, rfl, hrow, hk, hf⟩
  have HN := Lib.hid (HN.out.kept hk)
  have K := Lib.hid (K.out.trans hk)
  have HR : Hid (Spn.Row v2 A rs.length cc rs) := Lib.hid hrow
  have eL : rs.length = N := hl
  clear hrow hk hf kg HB
  rw [eL] at HR
  rw [eL]
  have HL := Lib.hid eL
  clear eL hl hN
  go_wp2_with fail
  go_loopw [6] (fun s6 wr => ∃ k : Nat, k ≤ N ∧ s6 = .int .i64 k ∧ Hid (∀ j, j < k → ¬ ((SpnM.at_ rs j).1 ≤ r1 ∧ r2 ≤ (SpnM.at_ rs j).2)) ∧ Hid (Kept v2 wr)) (fun s6 _ => N - (intOf s6).toNat)
  case atStart => exact ⟨0, Nat.zero_le _, rfl, Lib.hid (fun j hj => absurd hj (Nat.not_lt_zero _)), Lib.hid (Kept.refl _)⟩
  case round =>
    obtain ⟨k, hk, rfl, hall, hK⟩ := hrel
    by_cases hlt : k < N
    · have hR := Lib.hid (HR.out.kept hK.out)
      obtain ⟨g, rfl, hgl⟩ := hR.out.some_ (by omega)
      have c1 := hR.out.lo hlt
      have c2 := hR.out.hi hlt
      have HN' := Lib.hid (HN.out.kept hK.out)
      have e0 := HN'.out.cell 0
      have e1 := HN'.out.cell 1
      have tn := HN'.out.lt
      have hkz : (k : Int) < (N : Int) := by omega
      have hkz0 : (0 : Int) ≤ (k : Int) := by omega
      have hw1 : IntKind.i64.wrap ((k : Int) + 1) = (k : Int) + 1 := IntWalk.i64_in _ (by omega)
      have hY : Hid ((SpnM.at_ rs k).1 ≤ r1 → r2 ≤ (SpnM.at_ rs k).2 → rs.any (fun s => decide (s.1 ≤ r1) && decide (r2 ≤ s.2)) = true) := Lib.hid (fun h1 h2 => List.any_eq_true.2 ⟨_, SpnM.at_mem (by rw [HL.out]; exact hlt), by rw [decide_eq_true h1, decide_eq_true h2]; rfl⟩)
      have hZ : Hid (¬ ((SpnM.at_ rs k).1 ≤ r1 ∧ r2 ≤ (SpnM.at_ rs k).2) → ∀ j, j < k + 1 → ¬ ((SpnM.at_ rs j).1 ≤ r1 ∧ r2 ≤ (SpnM.at_ rs j).2)) := Lib.hid (fun h j hj => by
        rcases Nat.lt_succ_iff_lt_or_eq.1 hj with h1 | rfl
        · exact hall.out j h1
        · exact h)
      generalize (SpnM.at_ rs k).1 = x1 at *
      generalize (SpnM.at_ rs k).2 = x2 at *
      clear hall HN'
      by_cases h1 : x1 ≤ r1
      · have d1 : decide (x1 ≤ r1) = true := decide_eq_true h1
        by_cases h2 : r2 ≤ x2
        · have d2 : decide (r2 ≤ x2) = true := decide_eq_true h2
          go_wp2_with fail
          go_quiet (fail)
          go_wp2_with fail
          go_ret
          exact ⟨ret_bool (hY.out h1 h2).symm, D.out.on ((K.out.trans hK.out).drewN _)⟩
        · have d2 : decide (r2 ≤ x2) = false := decide_eq_false h2
          go_wp2_with fail
          go_quiet (fail)
          go_wp2_with fail
          go_roundw
          case rel => exact ⟨k + 1, by omega, by go_num, Lib.hid (hZ.out (fun e => by have := e.2; omega)), Lib.hid (hK.out.drewN _)⟩
          case measure => simp [intOf]; omega
      · have d1 : decide (x1 ≤ r1) = false := decide_eq_false h1
        go_wp2_with fail
        go_quiet (fail)
        go_wp2_with fail
        go_roundw
        case rel => exact ⟨k + 1, by omega, by go_num, Lib.hid (hZ.out (fun e => by have := e.1; omega)), Lib.hid (hK.out.drewN _)⟩
        case measure => simp [intOf]; omega
    · have hkz : ¬ (k : Int) < (N : Int) := by omega
      obtain rfl : k = N := by omega
      have hY : Hid (rs.any (fun s => decide (s.1 ≤ r1) && decide (r2 ≤ s.2)) = false) := Lib.hid (List.any_eq_false.2 fun x hx e => by
        obtain ⟨j, hj, rfl⟩ := SpnM.mem_at hx
        rw [Bool.and_eq_true, decide_eq_true_iff, decide_eq_true_iff] at e
        exact hall.out j (by rw [← HL.out]; exact hj) e)
      go_wp2_with fail
      go_ret
      exact ⟨ret_bool hY.out.symm, D.out.on (K.out.trans hK.out)⟩
end
end Go.Proofs.YtilkgjpgoogiiaaGreat.Spa
