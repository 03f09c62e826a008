/-
  The law's same, over any right space and the document's own.
-/
import Derived.Test.YtilkgjpgoogiiaaGreatSpaabJ32a
import Derived.Test.YtilkgjpgoogiiaaGreatSpaRa
import Derived.Test.YtilkgjpgoogiiaaGreatSpaKa
import Derived.Test.YtilkgjpgoogiiaaGreatLosbJ0a
import Derived.Deep.Cut
import Derived.Deep.RegionHeld3
import Derived.Deep.DeepCutAuto
import Derived.Test.YtilkgjpgoogiiaaGreatWrdabJ50a
set_option maxRecDepth 100000
set_option maxHeartbeats 16000000
set_option linter.unusedVariables false
set_option linter.unusedSimpArgs false
namespace Go.Proofs.YtilkgjpgoogiiaaGreat.Spa
open Go.RowKit Wd Bxs Obs Ths SpaM
open SntM (Pk putErr putL putTop dropL getP getB fly eli)
open Snt (pkC pkV pkA)
open SpnM (R addErr addTo cutErr cutTo has add)
open FrmM (Ack check)
open RttM (Rt)
open Rtt (rtV rtA)
theorem rlog_top {w U : World} {L : List Ob} {a room : Nat} {last : Int} {l : List Pk} (h : Sx w L U) (i : Nat) (hi : L[i]? = some (rlogO a room last l)) : U.cell? ⟨a, 1, none⟩ = some (.int .i64 last) := by
  obtain ⟨F, A, c, rfl, hr⟩ := h.get i hi
  exact hr.last_
theorem same09 {w U : World} {L : List Ob} {A B : Option Addr} {c d : Nat} {l : List Pk} (h : Sx w L U) (i j : Nat) (hi : L[i]? = some (pkO A l.length c l)) (hj : L[j]? = some (pkO B l.length d l)) : Calls Tryz.prog 25 #[.slice A l.length c, .slice B l.length d] U (Gets (.bool true) w L) :=
  (Los.rsame_is (b := true) (decide_eq_true rfl) (.of_row (pk_row h i hi)) (.of_row (pk_row h j hj))).mono fun e W he => ⟨he.1, h.on he.2⟩
abbrev lqs (now : Int) : List Pk := [⟨1, now, 1, true, false, false⟩, ⟨5, 1125899906842624, 1, true, false, false⟩]
abbrev lqA (now : Int) : Array Value := #[.int .i64 1, .int .i64 now, .int .i64 1, .bool true, .bool false, .bool false, .int .i64 5, .int .i64 1125899906842624, .int .i64 1, .bool true, .bool false, .bool false]
theorem kept_lq (now : Int) (W : World) : Kept W (W.alloc (.cells (lqA now) 32)) := (Kept.refl W).alloc _
theorem kept_lq2 (now : Int) (W : World) : Kept W ((W.alloc (.cells (lqA now) 32)).alloc (.cells (lqA now) 32)) := ((Kept.refl W).alloc _).alloc _
theorem lit_sx {w U : World} {a b c : Ob} {M : List Ob} (now : Int) (hU : Sx w (a :: b :: c :: M) U) : Sx w (a :: b :: c :: pkO (some ⟨U.heap.size, 0, none⟩) 2 2 (lqs now) :: M) (U.alloc (.cells (lqA now) 32)) :=
  Sx.sel (box_row (C := pkC) (n := 2) (lqs now) rfl rfl (by decide) (hU.new 32 (lqA now))) 4 [1, 2, 3, 0] [] (by decide)
theorem sameZ_sx {spaO : Nat → Sp → Ob} (H : SpaS spaO) {w V : World} {s m : Nat} {X : Sp} (ok : OkS X) (kd now : Int) (p : Pk) (dl : Int) (A0 : Option Addr) (n0 c0 : Nat) (mk : Bool) (m0 m1 m2 : Int) (q : Rt) (D : Sx w (spaO s X :: rspaO m X :: []) V) : Calls Tryz.prog 26 #[ptr s, ptr m, .agg #[.int .i64 kd, .int .i64 now, .int .i64 p.n, .int .i64 p.t, .int .i64 p.s, .bool p.e, .bool p.f, .bool p.c, .int .i64 dl, .slice A0 n0 c0, .bool mk, .int .i64 m0, .int .i64 m1, .int .i64 m2, .int .i64 q.l, .int .i64 q.m, .int .i64 q.s, .int .i64 q.v, .int .i64 q.f]] V (Gets (.bool true) w (spaO s X :: rspaO m X :: [])) := by
  obtain ⟨a, b, c, hb⟩ := rspa_open (show Sx w (rspaO m X :: spaO s X :: []) V from D.swap)
  have D : Hid (Sx w (spaO s X :: box m 91 (rspA a b c X) :: rlogO a X.room X.last X.l :: rsetO b 256 X.kn :: rsetO c 256 X.re :: box V.heap.size 40 #[.int .i64 kd, .int .i64 now, .int .i64 p.n, .int .i64 p.t, .int .i64 p.s, .bool p.e, .bool p.f, .bool p.c, .int .i64 dl, .slice A0 n0 c0, .bool mk, .int .i64 m0, .int .i64 m1, .int .i64 m2, .int .i64 q.l, .int .i64 q.m, .int .i64 q.s, .int .i64 q.v, .int .i64 q.f] :: []) (V.alloc (.cells #[.int .i64 kd, .int .i64 now, .int .i64 p.n, .int .i64 p.t, .int .i64 p.s, .bool p.e, .bool p.f, .bool p.c, .int .i64 dl, .slice A0 n0 c0, .bool mk, .int .i64 m0, .int .i64 m1, .int .i64 m2, .int .i64 q.l, .int .i64 q.m, .int .i64 q.s, .int .i64 q.v, .int .i64 q.f] 40))) := Lib.hid (((hb.new 40 #[.int .i64 kd, .int .i64 now, .int .i64 p.n, .int .i64 p.t, .int .i64 p.s, .bool p.e, .bool p.f, .bool p.c, .int .i64 dl, .slice A0 n0 c0, .bool mk, .int .i64 m0, .int .i64 m1, .int .i64 m2, .int .i64 q.l, .int .i64 q.m, .int .i64 q.s, .int .i64 q.v, .int .i64 q.f])).sel 6 [5, 1, 2, 3, 4, 0] [] (by decide))
  clear hb
  have k1 := Lib.hid (fun (M : List Ob) (U : World) (hU : Sx w (spaO s X :: box m 91 (rspA a b c X) :: rlogO a X.room X.last X.l :: M) U) => (show Calls Tryz.prog 35 #[ptr s] U (Gets (.int .i64 X.last) w (spaO s X :: box m 91 (rspA a b c X) :: rlogO a X.room X.last X.l :: M)) from (H.last s X ok).at_ hU 0 rfl))
  have k2 := Lib.hid (fun (M : List Ob) (U : World) (hU : Sx w (spaO s X :: box m 91 (rspA a b c X) :: rlogO a X.room X.last X.l :: M) U) => (show Calls Tryz.prog 32 #[ptr s] U (Gets (.int .i64 X.gr) w (spaO s X :: box m 91 (rspA a b c X) :: rlogO a X.room X.last X.l :: M)) from (H.great s X ok).at_ hU 0 rfl))
  have k3 := Lib.hid (fun (M : List Ob) (U : World) (hU : Sx w (spaO s X :: box m 91 (rspA a b c X) :: rlogO a X.room X.last X.l :: M) U) => (show Calls Tryz.prog 33 #[ptr s] U (Gets (.int .i64 X.lo) w (spaO s X :: box m 91 (rspA a b c X) :: rlogO a X.room X.last X.l :: M)) from (H.loss s X ok).at_ hU 0 rfl))
  have k4 := Lib.hid (fun (M : List Ob) (U : World) (hU : Sx w (spaO s X :: box m 91 (rspA a b c X) :: rlogO a X.room X.last X.l :: M) U) => (show Calls Tryz.prog 40 #[ptr s] U (Gets (.int .i64 X.ti) w (spaO s X :: box m 91 (rspA a b c X) :: rlogO a X.room X.last X.l :: M)) from (H.time s X ok).at_ hU 0 rfl))
  have k5 := Lib.hid (fun (M : List Ob) (U : World) (hU : Sx w (spaO s X :: box m 91 (rspA a b c X) :: rlogO a X.room X.last X.l :: M) U) => (show Calls Tryz.prog 30 #[ptr s] U (Gets (.int .i64 (fly X.l)) w (spaO s X :: box m 91 (rspA a b c X) :: rlogO a X.room X.last X.l :: M)) from (H.flight s X ok).at_ hU 0 rfl))
  have k6 := Lib.hid (fun (M : List Ob) (U : World) (hU : Sx w (spaO s X :: box m 91 (rspA a b c X) :: rlogO a X.room X.last X.l :: M) U) => (show Calls Tryz.prog 31 #[ptr s] U (Gets (.int .i64 (eli X.l)) w (spaO s X :: box m 91 (rspA a b c X) :: rlogO a X.room X.last X.l :: M)) from (H.eliciting s X ok).at_ hU 0 rfl))
  have j5 := Lib.hid (fun (M : List Ob) (U : World) (hU : Sx w (spaO s X :: box m 91 (rspA a b c X) :: rlogO a X.room X.last X.l :: M) U) => (show Calls Tryz.prog 74 #[ptr a] U (Gets (.int .i64 (fly X.l)) w (spaO s X :: box m 91 (rspA a b c X) :: rlogO a X.room X.last X.l :: M)) from rlog_flight hU 2 rfl))
  have j6 := Lib.hid (fun (M : List Ob) (U : World) (hU : Sx w (spaO s X :: box m 91 (rspA a b c X) :: rlogO a X.room X.last X.l :: M) U) => (show Calls Tryz.prog 75 #[ptr a] U (Gets (.int .i64 (eli X.l)) w (spaO s X :: box m 91 (rspA a b c X) :: rlogO a X.room X.last X.l :: M)) from rlog_eliciting hU 2 rfl))
  have k7 := Lib.hid (fun (M : List Ob) (U : World) (hU : Sx w (spaO s X :: box m 91 (rspA a b c X) :: rlogO a X.room X.last X.l :: M) U) => (H.all ok hU 0 rfl).mono (R' := fun e W => ∃ A c', e = .returned (.slice A X.l.length c') ∧ Sx w (spaO s X :: box m 91 (rspA a b c X) :: rlogO a X.room X.last X.l :: pkO A X.l.length c' X.l :: M) W) fun e W ⟨A, c', he, h2⟩ => ⟨A, c', he, h2.sel 4 [1, 2, 3, 0] [] (by decide)⟩)
  have j7 := Lib.hid (fun (M : List Ob) (U : World) (hU : Sx w (spaO s X :: box m 91 (rspA a b c X) :: rlogO a X.room X.last X.l :: M) U) => (rlog_all hU 2 rfl).mono (R' := fun e W => ∃ A c', e = .returned (.slice A X.l.length c') ∧ Sx w (spaO s X :: box m 91 (rspA a b c X) :: rlogO a X.room X.last X.l :: pkO A X.l.length c' X.l :: M) W) fun e W ⟨A, c', he, h2⟩ => ⟨A, c', he, h2.sel 4 [1, 2, 3, 0] [] (by decide)⟩)
  have e1 := Lib.hid (fun (A B : Option Addr) (c' d : Nat) (M : List Ob) (U : World) (hU : Sx w (spaO s X :: box m 91 (rspA a b c X) :: rlogO a X.room X.last X.l :: pkO A X.l.length c' X.l :: pkO B X.l.length d X.l :: M) U) => same09 hU 3 4 rfl rfl)
  have e2 := Lib.hid (fun (A B : Option Addr) (c' d : Nat) (M : List Ob) (U : World) (hU : Sx w (spaO s X :: box m 91 (rspA a b c X) :: rlogO a X.room X.last X.l :: pkO A X.l.length c' X.l :: pkO B X.l.length d X.l :: M) U) => same09 hU 4 3 rfl rfl)
  have S0 : Hid (∀ (M : List Ob) (U : World), Sx w (spaO s X :: box m 91 (rspA a b c X) :: rlogO a X.room X.last X.l :: M) U → U.cell? ⟨m, 0, none⟩ = some (ptr a) ∧ U.cell? ⟨m, 3, none⟩ = some (.int .i64 X.gr) ∧ U.cell? ⟨m, 4, none⟩ = some (.int .i64 X.lo) ∧ U.cell? ⟨m, 5, none⟩ = some (.int .i64 X.ti) ∧ U.cell? ⟨a, 1, none⟩ = some (.int .i64 X.last)) := Lib.hid (fun M U hU => ⟨(hU.box_ 1 rfl).cell 0, (hU.box_ 1 rfl).cell 3, (hU.box_ 1 rfl).cell 4, (hU.box_ 1 rfl).cell 5, rlog_top hU 2 rfl⟩)
  have HD : Hid (Sx w (spaO s X :: box m 91 (rspA a b c X) :: rlogO a X.room X.last X.l :: rsetO b 256 X.kn :: rsetO c 256 X.re :: box V.heap.size 40 #[.int .i64 kd, .int .i64 now, .int .i64 p.n, .int .i64 p.t, .int .i64 p.s, .bool p.e, .bool p.f, .bool p.c, .int .i64 dl, .slice A0 n0 c0, .bool mk, .int .i64 m0, .int .i64 m1, .int .i64 m2, .int .i64 q.l, .int .i64 q.m, .int .i64 q.s, .int .i64 q.v, .int .i64 q.f] :: []) (V.alloc (.cells #[.int .i64 kd, .int .i64 now, .int .i64 p.n, .int .i64 p.t, .int .i64 p.s, .bool p.e, .bool p.f, .bool p.c, .int .i64 dl, .slice A0 n0 c0, .bool mk, .int .i64 m0, .int .i64 m1, .int .i64 m2, .int .i64 q.l, .int .i64 q.m, .int .i64 q.s, .int .i64 q.v, .int .i64 q.f] 40)).drew) := Lib.hid (D.out.on (Kept.refl _).drew)
  go_enter Tryz.func26, Tryz.ntmps26
  go_wp2_with fail
  simp only [List.append_eq, List.cons_append, List.nil_append]
  go_cut [75] (fun s75 wx => s75 = .bool false ∧ Hid (Sx w (spaO s X :: box m 91 (rspA a b c X) :: rlogO a X.room X.last X.l :: rsetO b 256 X.kn :: rsetO c 256 X.re :: box V.heap.size 40 #[.int .i64 kd, .int .i64 now, .int .i64 p.n, .int .i64 p.t, .int .i64 p.s, .bool p.e, .bool p.f, .bool p.c, .int .i64 dl, .slice A0 n0 c0, .bool mk, .int .i64 m0, .int .i64 m1, .int .i64 m2, .int .i64 q.l, .int .i64 q.m, .int .i64 q.s, .int .i64 q.v, .int .i64 q.f] :: []) wx))
  case first =>
    go_region_held3 (fun U => U.cell? ⟨m, 0, none⟩ = some (ptr a) ∧ U.cell? ⟨m, 3, none⟩ = some (.int .i64 X.gr) ∧ U.cell? ⟨m, 4, none⟩ = some (.int .i64 X.lo) ∧ U.cell? ⟨m, 5, none⟩ = some (.int .i64 X.ti) ∧ U.cell? ⟨a, 1, none⟩ = some (.int .i64 X.last))
      (first | with_reducible exact S0.out _ _ HD.out)
      (first
        | (go_at_call 35; (with_reducible refine (k1.out _ _ HD.out).mono ?_); rintro e w' ⟨rfl, hb⟩; have HD := Lib.hid hb; clear hb)
        | (go_at_call 32; (with_reducible refine (k2.out _ _ HD.out).mono ?_); rintro e w' ⟨rfl, hb⟩; have HD := Lib.hid hb; clear hb)
        | (go_at_call 33; (with_reducible refine (k3.out _ _ HD.out).mono ?_); rintro e w' ⟨rfl, hb⟩; have HD := Lib.hid hb; clear hb)
        | (go_at_call 40; (with_reducible refine (k4.out _ _ HD.out).mono ?_); rintro e w' ⟨rfl, hb⟩; have HD := Lib.hid hb; clear hb)
        | (go_at_call 30; (with_reducible refine (k5.out _ _ HD.out).mono ?_); rintro e w' ⟨rfl, hb⟩; have HD := Lib.hid hb; clear hb)
        | (go_at_call 31; (with_reducible refine (k6.out _ _ HD.out).mono ?_); rintro e w' ⟨rfl, hb⟩; have HD := Lib.hid hb; clear hb)
        | (go_at_call 74; (with_reducible refine (j5.out _ _ HD.out).mono ?_); rintro e w' ⟨rfl, hb⟩; have HD := Lib.hid hb; clear hb)
        | (go_at_call 75; (with_reducible refine (j6.out _ _ HD.out).mono ?_); rintro e w' ⟨rfl, hb⟩; have HD := Lib.hid hb; clear hb)
        | (go_at_call 28; (with_reducible refine (k7.out _ _ HD.out).mono ?_); rintro e w' ⟨A1, c1, rfl, hb⟩; have HD := Lib.hid hb; clear hb)
        | (go_at_call 65; (with_reducible refine (j7.out _ _ HD.out).mono ?_); rintro e w' ⟨A2, c2, rfl, hb⟩; have HD := Lib.hid hb; clear hb)
        | (go_at_call 25; (first | (with_reducible refine (e1.out _ _ _ _ _ _ HD.out).mono ?_) | (with_reducible refine (e2.out _ _ _ _ _ _ HD.out).mono ?_)); rintro e w' ⟨rfl, hb⟩; have HD := Lib.hid hb; clear hb))
    all_goals
      go_wp2_with fail
      go_meet
      exact ⟨rfl, Lib.hid (HD.out.sel 5 [0, 1, 2] [3, 4] (by decide))⟩
  case rest =>
    clear HD D
    obtain ⟨rfl, D⟩ := hcut
    have c0 := (D.out.box_ 1 rfl).cell 0
    have tb := (D.out.box_ 1 rfl).lt
    go_wp2_with fail
    refine (j7.out _ _ D.out).mono ?_
    clear c0 tb
    rintro e v3 ⟨AL, cL, rfl, hb⟩
    have D : Hid (Sx w (spaO s X :: rspaO m X :: box V.heap.size 40 #[.int .i64 kd, .int .i64 now, .int .i64 p.n, .int .i64 p.t, .int .i64 p.s, .bool p.e, .bool p.f, .bool p.c, .int .i64 dl, .slice A0 n0 c0, .bool mk, .int .i64 m0, .int .i64 m1, .int .i64 m2, .int .i64 q.l, .int .i64 q.m, .int .i64 q.s, .int .i64 q.v, .int .i64 q.f] :: pkO AL X.l.length cL X.l :: []) v3) := Lib.hid (Sx.swap (rspa_shut (hb.sel 7 [1, 2, 4, 5, 0, 6, 3] [] (by decide))))
    clear hb k1 k2 k3 k4 k5 k6 k7 j5 j6 j7 e1 e2 S0
    have hXl : X.l.length ≤ 256 := Nat.le_trans ok.log.len ok.log.room1.2
    have km := Lib.hid (fun (M : List Ob) (U : World) (hU : Sx w (spaO s X :: rspaO m X :: box V.heap.size 40 #[.int .i64 kd, .int .i64 now, .int .i64 p.n, .int .i64 p.t, .int .i64 p.s, .bool p.e, .bool p.f, .bool p.c, .int .i64 dl, .slice A0 n0 c0, .bool mk, .int .i64 m0, .int .i64 m1, .int .i64 m2, .int .i64 q.l, .int .i64 q.m, .int .i64 q.s, .int .i64 q.v, .int .i64 q.f] :: M) U) => (show Calls Tryz.prog 41 #[ptr s, pkV p] U (Gets (.int .i64 (sentE X p)) w (spaO s X :: rspaO m X :: box V.heap.size 40 #[.int .i64 kd, .int .i64 now, .int .i64 p.n, .int .i64 p.t, .int .i64 p.s, .bool p.e, .bool p.f, .bool p.c, .int .i64 dl, .slice A0 n0 c0, .bool mk, .int .i64 m0, .int .i64 m1, .int .i64 m2, .int .i64 q.l, .int .i64 q.m, .int .i64 q.s, .int .i64 q.v, .int .i64 q.f] :: M)) from (H.may s X p ok).at_ hU 0 rfl))
    have jm := Lib.hid (fun (M : List Ob) (U : World) (hU : Sx w (spaO s X :: rspaO m X :: box V.heap.size 40 #[.int .i64 kd, .int .i64 now, .int .i64 p.n, .int .i64 p.t, .int .i64 p.s, .bool p.e, .bool p.f, .bool p.c, .int .i64 dl, .slice A0 n0 c0, .bool mk, .int .i64 m0, .int .i64 m1, .int .i64 m2, .int .i64 q.l, .int .i64 q.m, .int .i64 q.s, .int .i64 q.v, .int .i64 q.f] :: M) U) => (show Calls Tryz.prog 76 #[ptr m, pkV p] U (Gets (.int .i64 (sentE X p)) w (spaO s X :: rspaO m X :: box V.heap.size 40 #[.int .i64 kd, .int .i64 now, .int .i64 p.n, .int .i64 p.t, .int .i64 p.s, .bool p.e, .bool p.f, .bool p.c, .int .i64 dl, .slice A0 n0 c0, .bool mk, .int .i64 m0, .int .i64 m1, .int .i64 m2, .int .i64 q.l, .int .i64 q.m, .int .i64 q.s, .int .i64 q.v, .int .i64 q.f] :: M)) from rspa_may hU 1 rfl p))
    have kp := Lib.hid (fun (M : List Ob) (U : World) (hU : Sx w (spaO s X :: rspaO m X :: box V.heap.size 40 #[.int .i64 kd, .int .i64 now, .int .i64 p.n, .int .i64 p.t, .int .i64 p.s, .bool p.e, .bool p.f, .bool p.c, .int .i64 dl, .slice A0 n0 c0, .bool mk, .int .i64 m0, .int .i64 m1, .int .i64 m2, .int .i64 q.l, .int .i64 q.m, .int .i64 q.s, .int .i64 q.v, .int .i64 q.f] :: pkO AL X.l.length cL X.l :: M) U) => (show Calls Tryz.prog 42 #[ptr s, .slice AL X.l.length cL, rtV q, .int .i64 5] U (Gets (.bool (Per.isT (has X.re) X.l q 5)) w (spaO s X :: rspaO m X :: box V.heap.size 40 #[.int .i64 kd, .int .i64 now, .int .i64 p.n, .int .i64 p.t, .int .i64 p.s, .bool p.e, .bool p.f, .bool p.c, .int .i64 dl, .slice A0 n0 c0, .bool mk, .int .i64 m0, .int .i64 m1, .int .i64 m2, .int .i64 q.l, .int .i64 q.m, .int .i64 q.s, .int .i64 q.v, .int .i64 q.f] :: pkO AL X.l.length cL X.l :: M)) from (H.persists ok hU 0 rfl (.of_row (pk_row hU 3 rfl)) hXl q 5).mono fun e W he => ⟨he.1, hU.on he.2⟩))
    have jp := Lib.hid (fun (M : List Ob) (U : World) (hU : Sx w (spaO s X :: rspaO m X :: box V.heap.size 40 #[.int .i64 kd, .int .i64 now, .int .i64 p.n, .int .i64 p.t, .int .i64 p.s, .bool p.e, .bool p.f, .bool p.c, .int .i64 dl, .slice A0 n0 c0, .bool mk, .int .i64 m0, .int .i64 m1, .int .i64 m2, .int .i64 q.l, .int .i64 q.m, .int .i64 q.s, .int .i64 q.v, .int .i64 q.f] :: pkO AL X.l.length cL X.l :: M) U) => (show Calls Tryz.prog 77 #[ptr m, .slice AL X.l.length cL, rtV q, .int .i64 5] U (Gets (.bool (Per.isT (has X.re) X.l q 5)) w (spaO s X :: rspaO m X :: box V.heap.size 40 #[.int .i64 kd, .int .i64 now, .int .i64 p.n, .int .i64 p.t, .int .i64 p.s, .bool p.e, .bool p.f, .bool p.c, .int .i64 dl, .slice A0 n0 c0, .bool mk, .int .i64 m0, .int .i64 m1, .int .i64 m2, .int .i64 q.l, .int .i64 q.m, .int .i64 q.s, .int .i64 q.v, .int .i64 q.f] :: pkO AL X.l.length cL X.l :: M)) from (rspa_persists hU 1 rfl (.of_row (pk_row hU 3 rfl)) hXl q 5).mono fun e W he => ⟨he.1, hU.on he.2⟩))
    have S1 : Hid (∀ (M : List Ob) (U : World), Sx w (spaO s X :: rspaO m X :: box V.heap.size 40 #[.int .i64 kd, .int .i64 now, .int .i64 p.n, .int .i64 p.t, .int .i64 p.s, .bool p.e, .bool p.f, .bool p.c, .int .i64 dl, .slice A0 n0 c0, .bool mk, .int .i64 m0, .int .i64 m1, .int .i64 m2, .int .i64 q.l, .int .i64 q.m, .int .i64 q.s, .int .i64 q.v, .int .i64 q.f] :: M) U → U.cell? ⟨V.heap.size, 1, none⟩ = some (.int .i64 now) ∧ U.cell? ⟨V.heap.size, 2, none⟩ = some (.int .i64 p.n) ∧ U.cell? ⟨V.heap.size, 3, none⟩ = some (.int .i64 p.t) ∧ U.cell? ⟨V.heap.size, 4, none⟩ = some (.int .i64 p.s) ∧ U.cell? ⟨V.heap.size, 5, none⟩ = some (.bool p.e) ∧ U.cell? ⟨V.heap.size, 6, none⟩ = some (.bool p.f) ∧ U.cell? ⟨V.heap.size, 7, none⟩ = some (.bool p.c) ∧ U.cell? ⟨V.heap.size, 14, none⟩ = some (.int .i64 q.l) ∧ U.cell? ⟨V.heap.size, 15, none⟩ = some (.int .i64 q.m) ∧ U.cell? ⟨V.heap.size, 16, none⟩ = some (.int .i64 q.s) ∧ U.cell? ⟨V.heap.size, 17, none⟩ = some (.int .i64 q.v) ∧ U.cell? ⟨V.heap.size, 18, none⟩ = some (.int .i64 q.f)) := Lib.hid (fun M U hU => by have B := hU.box_ 2 rfl; exact ⟨B.cell 1, B.cell 2, B.cell 3, B.cell 4, B.cell 5, B.cell 6, B.cell 7, B.cell 14, B.cell 15, B.cell 16, B.cell 17, B.cell 18⟩)
    have p1 := Lib.hid (fun  (M : List Ob) (U : World) (hU : Sx w (spaO s X :: rspaO m X :: box V.heap.size 40 #[.int .i64 kd, .int .i64 now, .int .i64 p.n, .int .i64 p.t, .int .i64 p.s, .bool p.e, .bool p.f, .bool p.c, .int .i64 dl, .slice A0 n0 c0, .bool mk, .int .i64 m0, .int .i64 m1, .int .i64 m2, .int .i64 q.l, .int .i64 q.m, .int .i64 q.s, .int .i64 q.v, .int .i64 q.f] :: M) U) => (show Calls Tryz.prog 42 #[ptr s, .slice (some ⟨U.heap.size, 0, none⟩) 2 2, rtV q, .int .i64 0] (U.alloc (.cells (lqA now) 32)) (Gets (.bool (Per.isT (has X.re) (lqs now) q 0)) w (spaO s X :: rspaO m X :: box V.heap.size 40 #[.int .i64 kd, .int .i64 now, .int .i64 p.n, .int .i64 p.t, .int .i64 p.s, .bool p.e, .bool p.f, .bool p.c, .int .i64 dl, .slice A0 n0 c0, .bool mk, .int .i64 m0, .int .i64 m1, .int .i64 m2, .int .i64 q.l, .int .i64 q.m, .int .i64 q.s, .int .i64 q.v, .int .i64 q.f] :: pkO (some ⟨U.heap.size, 0, none⟩) 2 2 (lqs now) :: M)) from by have HS := lit_sx (a := spaO s X) (b := rspaO m X) (c := box V.heap.size 40 #[.int .i64 kd, .int .i64 now, .int .i64 p.n, .int .i64 p.t, .int .i64 p.s, .bool p.e, .bool p.f, .bool p.c, .int .i64 dl, .slice A0 n0 c0, .bool mk, .int .i64 m0, .int .i64 m1, .int .i64 m2, .int .i64 q.l, .int .i64 q.m, .int .i64 q.s, .int .i64 q.v, .int .i64 q.f]) now hU; exact (H.persists ok HS 0 rfl (.of_row (pk_row HS 3 rfl)) (by decide) q 0).mono fun e W he => ⟨he.1, HS.on he.2⟩))
    have p2 := Lib.hid (fun  (M : List Ob) (U : World) (hU : Sx w (spaO s X :: rspaO m X :: box V.heap.size 40 #[.int .i64 kd, .int .i64 now, .int .i64 p.n, .int .i64 p.t, .int .i64 p.s, .bool p.e, .bool p.f, .bool p.c, .int .i64 dl, .slice A0 n0 c0, .bool mk, .int .i64 m0, .int .i64 m1, .int .i64 m2, .int .i64 q.l, .int .i64 q.m, .int .i64 q.s, .int .i64 q.v, .int .i64 q.f] :: M) U) => (show Calls Tryz.prog 42 #[ptr s, .slice (some ⟨U.heap.size, 0, none⟩) 2 2, rtV q, .int .i64 0] ((U.alloc (.cells (lqA now) 32)).alloc (.cells (lqA now) 32)) (Gets (.bool (Per.isT (has X.re) (lqs now) q 0)) w (spaO s X :: rspaO m X :: box V.heap.size 40 #[.int .i64 kd, .int .i64 now, .int .i64 p.n, .int .i64 p.t, .int .i64 p.s, .bool p.e, .bool p.f, .bool p.c, .int .i64 dl, .slice A0 n0 c0, .bool mk, .int .i64 m0, .int .i64 m1, .int .i64 m2, .int .i64 q.l, .int .i64 q.m, .int .i64 q.s, .int .i64 q.v, .int .i64 q.f] :: pkO (some ⟨U.heap.size + 1, 0, none⟩) 2 2 (lqs now) :: pkO (some ⟨U.heap.size, 0, none⟩) 2 2 (lqs now) :: M)) from by have HS := (show Sx w (spaO s X :: rspaO m X :: box V.heap.size 40 #[.int .i64 kd, .int .i64 now, .int .i64 p.n, .int .i64 p.t, .int .i64 p.s, .bool p.e, .bool p.f, .bool p.c, .int .i64 dl, .slice A0 n0 c0, .bool mk, .int .i64 m0, .int .i64 m1, .int .i64 m2, .int .i64 q.l, .int .i64 q.m, .int .i64 q.s, .int .i64 q.v, .int .i64 q.f] :: pkO (some ⟨U.heap.size + 1, 0, none⟩) 2 2 (lqs now) :: pkO (some ⟨U.heap.size, 0, none⟩) 2 2 (lqs now) :: M) ((U.alloc (.cells (lqA now) 32)).alloc (.cells (lqA now) 32)) from (by have h2 := lit_sx (a := spaO s X) (b := rspaO m X) (c := box V.heap.size 40 #[.int .i64 kd, .int .i64 now, .int .i64 p.n, .int .i64 p.t, .int .i64 p.s, .bool p.e, .bool p.f, .bool p.c, .int .i64 dl, .slice A0 n0 c0, .bool mk, .int .i64 m0, .int .i64 m1, .int .i64 m2, .int .i64 q.l, .int .i64 q.m, .int .i64 q.s, .int .i64 q.v, .int .i64 q.f]) now (lit_sx (a := spaO s X) (b := rspaO m X) (c := box V.heap.size 40 #[.int .i64 kd, .int .i64 now, .int .i64 p.n, .int .i64 p.t, .int .i64 p.s, .bool p.e, .bool p.f, .bool p.c, .int .i64 dl, .slice A0 n0 c0, .bool mk, .int .i64 m0, .int .i64 m1, .int .i64 m2, .int .i64 q.l, .int .i64 q.m, .int .i64 q.s, .int .i64 q.v, .int .i64 q.f]) now hU); rwa [World.size_alloc] at h2)); exact (H.persists ok HS 0 rfl (.of_row (pk_row HS 4 rfl)) (by decide) q 0).mono fun e W he => ⟨he.1, HS.on he.2⟩))
    have p3 := Lib.hid (fun  (M : List Ob) (U : World) (hU : Sx w (spaO s X :: rspaO m X :: box V.heap.size 40 #[.int .i64 kd, .int .i64 now, .int .i64 p.n, .int .i64 p.t, .int .i64 p.s, .bool p.e, .bool p.f, .bool p.c, .int .i64 dl, .slice A0 n0 c0, .bool mk, .int .i64 m0, .int .i64 m1, .int .i64 m2, .int .i64 q.l, .int .i64 q.m, .int .i64 q.s, .int .i64 q.v, .int .i64 q.f] :: M) U) => (show Calls Tryz.prog 42 #[ptr s, .slice (some ⟨U.heap.size + 1, 0, none⟩) 2 2, rtV q, .int .i64 0] ((U.alloc (.cells (lqA now) 32)).alloc (.cells (lqA now) 32)) (Gets (.bool (Per.isT (has X.re) (lqs now) q 0)) w (spaO s X :: rspaO m X :: box V.heap.size 40 #[.int .i64 kd, .int .i64 now, .int .i64 p.n, .int .i64 p.t, .int .i64 p.s, .bool p.e, .bool p.f, .bool p.c, .int .i64 dl, .slice A0 n0 c0, .bool mk, .int .i64 m0, .int .i64 m1, .int .i64 m2, .int .i64 q.l, .int .i64 q.m, .int .i64 q.s, .int .i64 q.v, .int .i64 q.f] :: pkO (some ⟨U.heap.size + 1, 0, none⟩) 2 2 (lqs now) :: pkO (some ⟨U.heap.size, 0, none⟩) 2 2 (lqs now) :: M)) from by have HS := (show Sx w (spaO s X :: rspaO m X :: box V.heap.size 40 #[.int .i64 kd, .int .i64 now, .int .i64 p.n, .int .i64 p.t, .int .i64 p.s, .bool p.e, .bool p.f, .bool p.c, .int .i64 dl, .slice A0 n0 c0, .bool mk, .int .i64 m0, .int .i64 m1, .int .i64 m2, .int .i64 q.l, .int .i64 q.m, .int .i64 q.s, .int .i64 q.v, .int .i64 q.f] :: pkO (some ⟨U.heap.size + 1, 0, none⟩) 2 2 (lqs now) :: pkO (some ⟨U.heap.size, 0, none⟩) 2 2 (lqs now) :: M) ((U.alloc (.cells (lqA now) 32)).alloc (.cells (lqA now) 32)) from (by have h2 := lit_sx (a := spaO s X) (b := rspaO m X) (c := box V.heap.size 40 #[.int .i64 kd, .int .i64 now, .int .i64 p.n, .int .i64 p.t, .int .i64 p.s, .bool p.e, .bool p.f, .bool p.c, .int .i64 dl, .slice A0 n0 c0, .bool mk, .int .i64 m0, .int .i64 m1, .int .i64 m2, .int .i64 q.l, .int .i64 q.m, .int .i64 q.s, .int .i64 q.v, .int .i64 q.f]) now (lit_sx (a := spaO s X) (b := rspaO m X) (c := box V.heap.size 40 #[.int .i64 kd, .int .i64 now, .int .i64 p.n, .int .i64 p.t, .int .i64 p.s, .bool p.e, .bool p.f, .bool p.c, .int .i64 dl, .slice A0 n0 c0, .bool mk, .int .i64 m0, .int .i64 m1, .int .i64 m2, .int .i64 q.l, .int .i64 q.m, .int .i64 q.s, .int .i64 q.v, .int .i64 q.f]) now hU); rwa [World.size_alloc] at h2)); exact (H.persists ok HS 0 rfl (.of_row (pk_row HS 3 rfl)) (by decide) q 0).mono fun e W he => ⟨he.1, HS.on he.2⟩))
    have q1 := Lib.hid (fun  (M : List Ob) (U : World) (hU : Sx w (spaO s X :: rspaO m X :: box V.heap.size 40 #[.int .i64 kd, .int .i64 now, .int .i64 p.n, .int .i64 p.t, .int .i64 p.s, .bool p.e, .bool p.f, .bool p.c, .int .i64 dl, .slice A0 n0 c0, .bool mk, .int .i64 m0, .int .i64 m1, .int .i64 m2, .int .i64 q.l, .int .i64 q.m, .int .i64 q.s, .int .i64 q.v, .int .i64 q.f] :: M) U) => (show Calls Tryz.prog 77 #[ptr m, .slice (some ⟨U.heap.size, 0, none⟩) 2 2, rtV q, .int .i64 0] (U.alloc (.cells (lqA now) 32)) (Gets (.bool (Per.isT (has X.re) (lqs now) q 0)) w (spaO s X :: rspaO m X :: box V.heap.size 40 #[.int .i64 kd, .int .i64 now, .int .i64 p.n, .int .i64 p.t, .int .i64 p.s, .bool p.e, .bool p.f, .bool p.c, .int .i64 dl, .slice A0 n0 c0, .bool mk, .int .i64 m0, .int .i64 m1, .int .i64 m2, .int .i64 q.l, .int .i64 q.m, .int .i64 q.s, .int .i64 q.v, .int .i64 q.f] :: pkO (some ⟨U.heap.size, 0, none⟩) 2 2 (lqs now) :: M)) from by have HS := lit_sx (a := spaO s X) (b := rspaO m X) (c := box V.heap.size 40 #[.int .i64 kd, .int .i64 now, .int .i64 p.n, .int .i64 p.t, .int .i64 p.s, .bool p.e, .bool p.f, .bool p.c, .int .i64 dl, .slice A0 n0 c0, .bool mk, .int .i64 m0, .int .i64 m1, .int .i64 m2, .int .i64 q.l, .int .i64 q.m, .int .i64 q.s, .int .i64 q.v, .int .i64 q.f]) now hU; exact (rspa_persists HS 1 rfl (.of_row (pk_row HS 3 rfl)) (by decide) q 0).mono fun e W he => ⟨he.1, HS.on he.2⟩))
    have q4 := Lib.hid (fun (g : Nat) (M : List Ob) (U : World) (hU : Sx w (spaO s X :: rspaO m X :: box V.heap.size 40 #[.int .i64 kd, .int .i64 now, .int .i64 p.n, .int .i64 p.t, .int .i64 p.s, .bool p.e, .bool p.f, .bool p.c, .int .i64 dl, .slice A0 n0 c0, .bool mk, .int .i64 m0, .int .i64 m1, .int .i64 m2, .int .i64 q.l, .int .i64 q.m, .int .i64 q.s, .int .i64 q.v, .int .i64 q.f] :: pkO (some ⟨g, 0, none⟩) 2 2 (lqs now) :: M) U) => (show Calls Tryz.prog 77 #[ptr m, .slice (some ⟨g, 0, none⟩) 2 2, rtV q, .int .i64 0] (U) (Gets (.bool (Per.isT (has X.re) (lqs now) q 0)) w (spaO s X :: rspaO m X :: box V.heap.size 40 #[.int .i64 kd, .int .i64 now, .int .i64 p.n, .int .i64 p.t, .int .i64 p.s, .bool p.e, .bool p.f, .bool p.c, .int .i64 dl, .slice A0 n0 c0, .bool mk, .int .i64 m0, .int .i64 m1, .int .i64 m2, .int .i64 q.l, .int .i64 q.m, .int .i64 q.s, .int .i64 q.v, .int .i64 q.f] :: pkO (some ⟨g, 0, none⟩) 2 2 (lqs now) :: M)) from by have HS := hU; exact (rspa_persists HS 1 rfl (.of_row (pk_row HS 3 rfl)) (by decide) q 0).mono fun e W he => ⟨he.1, HS.on he.2⟩))
    have q5 := Lib.hid (fun (g : Nat) (o : Ob) (M : List Ob) (U : World) (hU : Sx w (spaO s X :: rspaO m X :: box V.heap.size 40 #[.int .i64 kd, .int .i64 now, .int .i64 p.n, .int .i64 p.t, .int .i64 p.s, .bool p.e, .bool p.f, .bool p.c, .int .i64 dl, .slice A0 n0 c0, .bool mk, .int .i64 m0, .int .i64 m1, .int .i64 m2, .int .i64 q.l, .int .i64 q.m, .int .i64 q.s, .int .i64 q.v, .int .i64 q.f] :: o :: pkO (some ⟨g, 0, none⟩) 2 2 (lqs now) :: M) U) => (show Calls Tryz.prog 77 #[ptr m, .slice (some ⟨g, 0, none⟩) 2 2, rtV q, .int .i64 0] (U) (Gets (.bool (Per.isT (has X.re) (lqs now) q 0)) w (spaO s X :: rspaO m X :: box V.heap.size 40 #[.int .i64 kd, .int .i64 now, .int .i64 p.n, .int .i64 p.t, .int .i64 p.s, .bool p.e, .bool p.f, .bool p.c, .int .i64 dl, .slice A0 n0 c0, .bool mk, .int .i64 m0, .int .i64 m1, .int .i64 m2, .int .i64 q.l, .int .i64 q.m, .int .i64 q.s, .int .i64 q.v, .int .i64 q.f] :: o :: pkO (some ⟨g, 0, none⟩) 2 2 (lqs now) :: M)) from by have HS := hU; exact (rspa_persists HS 1 rfl (.of_row (pk_row HS 4 rfl)) (by decide) q 0).mono fun e W he => ⟨he.1, HS.on he.2⟩))
    generalize Per.isT (has X.re) (lqs now) q 0 = pz at p1 p2 p3 q1 q4 q5
    generalize sentE X p = sE at km jm
    generalize Per.isT (has X.re) X.l q 5 = pb at kp jp
    have B := D.out.box_ 2 rfl
    have z1 := B.cell 1
    have z2 := B.cell 2
    have z3 := B.cell 3
    have z4 := B.cell 4
    have z5 := B.cell 5
    have z6 := B.cell 6
    have z7 := B.cell 7
    have z14 := B.cell 14
    have z15 := B.cell 15
    have z16 := B.cell 16
    have z17 := B.cell 17
    have z18 := B.cell 18
    have tz := B.lt
    clear B
    go_wp2_with fail
    clear tz z1 z2 z3 z4 z5 z6 z7 z14 z15 z16 z17 z18
    have HD : Hid (Sx w (spaO s X :: rspaO m X :: box V.heap.size 40 #[.int .i64 kd, .int .i64 now, .int .i64 p.n, .int .i64 p.t, .int .i64 p.s, .bool p.e, .bool p.f, .bool p.c, .int .i64 dl, .slice A0 n0 c0, .bool mk, .int .i64 m0, .int .i64 m1, .int .i64 m2, .int .i64 q.l, .int .i64 q.m, .int .i64 q.s, .int .i64 q.v, .int .i64 q.f] :: pkO AL X.l.length cL X.l :: []) _) := Lib.hid (D.out.on (Kept.refl _).drew)
    go_region_held3 (fun U => U.cell? ⟨V.heap.size, 1, none⟩ = some (.int .i64 now) ∧ U.cell? ⟨V.heap.size, 2, none⟩ = some (.int .i64 p.n) ∧ U.cell? ⟨V.heap.size, 3, none⟩ = some (.int .i64 p.t) ∧ U.cell? ⟨V.heap.size, 4, none⟩ = some (.int .i64 p.s) ∧ U.cell? ⟨V.heap.size, 5, none⟩ = some (.bool p.e) ∧ U.cell? ⟨V.heap.size, 6, none⟩ = some (.bool p.f) ∧ U.cell? ⟨V.heap.size, 7, none⟩ = some (.bool p.c) ∧ U.cell? ⟨V.heap.size, 14, none⟩ = some (.int .i64 q.l) ∧ U.cell? ⟨V.heap.size, 15, none⟩ = some (.int .i64 q.m) ∧ U.cell? ⟨V.heap.size, 16, none⟩ = some (.int .i64 q.s) ∧ U.cell? ⟨V.heap.size, 17, none⟩ = some (.int .i64 q.v) ∧ U.cell? ⟨V.heap.size, 18, none⟩ = some (.int .i64 q.f))
      (first | with_reducible exact S1.out _ _ HD.out | with_reducible exact S1.out _ _ (HD.out.on (kept_lq _ _)) | with_reducible exact S1.out _ _ (HD.out.on (kept_lq2 _ _)))
      (first
        | (go_at_call 41; (with_reducible refine (km.out _ _ HD.out).mono ?_); rintro e w' ⟨rfl, hb⟩; have HD := Lib.hid hb; clear hb)
        | (go_at_call 76; (with_reducible refine (jm.out _ _ HD.out).mono ?_); rintro e w' ⟨rfl, hb⟩; have HD := Lib.hid hb; clear hb)
        | (go_at_call 42; (first | (with_reducible refine (kp.out _ _ HD.out).mono ?_) | (with_reducible refine (p1.out _ _ HD.out).mono ?_) | (with_reducible refine (p2.out _ _ HD.out).mono ?_) | (with_reducible refine (p3.out _ _ HD.out).mono ?_)); rintro e w' ⟨rfl, hb⟩; have HD := Lib.hid hb; clear hb)
        | (go_at_call 77; (first | (with_reducible refine (jp.out _ _ HD.out).mono ?_) | (with_reducible refine (q1.out _ _ HD.out).mono ?_) | (with_reducible refine (q4.out _ _ _ HD.out).mono ?_) | (with_reducible refine (q5.out _ _ _ _ HD.out).mono ?_)); rintro e w' ⟨rfl, hb⟩; have HD := Lib.hid hb; clear hb))
    all_goals
      go_wp2_with fail
      go_ret
      exact ⟨rfl, HD.out.sel 6 [0, 1] [2, 3, 4, 5] (by decide)⟩
end Go.Proofs.YtilkgjpgoogiiaaGreat.Spa
namespace Go.Proofs.YtilkgjpgoogiiaaGreat.Spa
open Go.RowKit Wd Bxs Obs Ths SpaM
open SntM (Pk putErr putL putTop dropL getP getB fly eli)
open Snt (pkC pkV pkA)
open SpnM (R addErr addTo cutErr cutTo has add)
open FrmM (Ack check)
open RttM (Rt)
open Rtt (rtV rtA)
open LosM (wait lostL restL atF fLost fAt findE)
section
variable {w V : World} {L M : List Ob} {s : Nat} {X : Sp}
theorem rfind_sx {A : Option Addr} {c : Nat} {l : List Pk} (h : Sx w L V) (i : Nat) (hi : L[i]? = some (pkO A l.length c l)) (a now : Int) (r : Rt) : Calls Tryz.prog 70 #[.slice A l.length c, .int .i64 a, .int .i64 now, rtV r] V (fun e W => ∃ A' n c' B m d, e = .returned (.tuple #[.slice A' n c', .slice B m d, .int .i64 (fAt l a now r), .int .i64 (findE l a now r)]) ∧ n = (fLost l a now r).length ∧ Sx w (pkO A' n c' (fLost l a now r) :: L) W) := by
  refine (Los.rfind_any A l.length c l a now r V (Los.Src.of_row (pk_row h i hi))).mono ?_
  rintro e W ⟨A', n, c', B, m, d, rfl, hf⟩
  exact ⟨A', n, c', B, m, d, rfl, hf.l.len.symm, h.lay (L' := [pkO A' n c' (fLost l a now r)]) (F' := (Cd.own A').toList) hf.k ⟨_, [], (List.append_nil _).symm, ⟨rfl, hf.l⟩, rfl⟩ (own_nodup A') (fun k hk => hf.lf k (mem_own.1 hk))⟩
theorem rspa_lose0 (now : Int) (r : Rt) (h : Sx w (rspaO s X :: M) V) : Calls Tryz.prog 20 #[ptr s, .int .i64 now, rtV r] V (fun e W => ∃ A n c, e = .returned (.tuple #[.slice A n c, .int .i64 (loseE X now r)]) ∧ n = (loseL X now r).length ∧ Sx w (pkO A n c (loseL X now r) :: rspaO s (lose X now r) :: M) W) := by
  obtain ⟨a, b, c, h⟩ := rspa_open h
  obtain ⟨room, last, l, kn, re, gr, lo, ti⟩ := X
  have D : Hid (Sx w (box s 91 #[ptr a, ptr b, ptr c, .int .i64 gr, .int .i64 lo, .int .i64 ti] :: rlogO a room last l :: rsetO b 256 kn :: rsetO c 256 re :: M) V) := Lib.hid h
  clear h
  by_cases he : loseE ⟨room, last, l, kn, re, gr, lo, ti⟩ now r = 0
  · obtain ⟨h1, h2⟩ := lose_yes he
    have hok := LosM.findE_zero he
    have hr := hok.1.rise
    rw [he, h1, h2]
    obtain ⟨Q, hQ⟩ : ∃ Q, lostL gr now (wait r) l = Q := ⟨_, rfl⟩
    obtain ⟨T, hT⟩ : ∃ T, atF gr now (wait r) l = T := ⟨_, rfl⟩
    have hD : Hid (drops l Q = restL gr now (wait r) l) := Lib.hid (by rw [← hQ]; exact drops_filter hr _)
    have hQl : Q.length ≤ 256 := by rw [← hQ]; exact Nat.le_trans (LosM.lost_len _ _ _ _) hok.1.len
    have eF : fLost l gr now r = Q := (if_pos he).trans hQ
    have eT : fAt l gr now r = T := (if_pos he).trans hT
    have eE : findE l gr now r = 0 := he
    show Calls _ _ _ _ (fun e W => ∃ A n c, e = _ ∧ n = (lostL gr now (wait r) l).length ∧ Sx w (pkO A n c (lostL gr now (wait r) l) :: rspaO s ⟨room, last, restL gr now (wait r) l, kn, re, gr, atF gr now (wait r) l, ti⟩ :: M) W)
    rw [hQ, hT, ← hD.out]
    have k1 : Hid (∀ U B, Sx w (box B 38 (rtA r) :: box s 91 #[ptr a, ptr b, ptr c, .int .i64 gr, .int .i64 lo, .int .i64 ti] :: rlogO a room last l :: rsetO b 256 kn :: rsetO c 256 re :: M) U → Calls Tryz.prog 65 #[ptr a] U (fun e W => ∃ A c', e = .returned (.slice A l.length c') ∧ Sx w (pkO A l.length c' l :: box B 38 (rtA r) :: box s 91 #[ptr a, ptr b, ptr c, .int .i64 gr, .int .i64 lo, .int .i64 ti] :: rlogO a room last l :: rsetO b 256 kn :: rsetO c 256 re :: M) W)) := Lib.hid (fun U B h => rlog_all h 2 rfl)
    have k2 : Hid (∀ U B A c', Sx w (pkO A l.length c' l :: box B 38 (rtA r) :: box s 91 #[ptr a, ptr b, ptr c, .int .i64 gr, .int .i64 lo, .int .i64 ti] :: rlogO a room last l :: rsetO b 256 kn :: rsetO c 256 re :: M) U → Calls Tryz.prog 70 #[.slice A l.length c', .int .i64 gr, .int .i64 now, rtV r] U (fun e W => ∃ A' n d A2 m2 d2, e = .returned (.tuple #[.slice A' n d, .slice A2 m2 d2, .int .i64 T, .int .i64 0]) ∧ n = Q.length ∧ Sx w (pkO A' n d Q :: pkO A l.length c' l :: box B 38 (rtA r) :: box s 91 #[ptr a, ptr b, ptr c, .int .i64 gr, .int .i64 lo, .int .i64 ti] :: rlogO a room last l :: rsetO b 256 kn :: rsetO c 256 re :: M) W)) := Lib.hid (fun U B A c' h => by
      have := rfind_sx h 0 rfl gr now r
      rwa [eF, eT, eE] at this)
    have S0 : Hid (∀ U B, Sx w (box B 38 (rtA r) :: box s 91 #[ptr a, ptr b, ptr c, .int .i64 gr, .int .i64 lo, .int .i64 ti] :: rlogO a room last l :: rsetO b 256 kn :: rsetO c 256 re :: M) U → U.cell? ⟨s, 0, none⟩ = some (ptr a) ∧ U.cell? ⟨s, 3, none⟩ = some (.int .i64 gr) ∧ U.cell? ⟨B, 0, none⟩ = some (.int .i64 r.l) ∧ U.cell? ⟨B, 1, none⟩ = some (.int .i64 r.m) ∧ U.cell? ⟨B, 2, none⟩ = some (.int .i64 r.s) ∧ U.cell? ⟨B, 3, none⟩ = some (.int .i64 r.v) ∧ U.cell? ⟨B, 4, none⟩ = some (.int .i64 r.f)) := Lib.hid (fun U B h => ⟨(h.box_ 1 rfl).cell 0, (h.box_ 1 rfl).cell 3, (h.box_ 0 rfl).cell 0, (h.box_ 0 rfl).cell 1, (h.box_ 0 rfl).cell 2, (h.box_ 0 rfl).cell 3, (h.box_ 0 rfl).cell 4⟩)
    have S1 : Hid (∀ U B A c', Sx w (pkO A l.length c' l :: box B 38 (rtA r) :: box s 91 #[ptr a, ptr b, ptr c, .int .i64 gr, .int .i64 lo, .int .i64 ti] :: rlogO a room last l :: rsetO b 256 kn :: rsetO c 256 re :: M) U → U.cell? ⟨s, 0, none⟩ = some (ptr a) ∧ U.cell? ⟨s, 3, none⟩ = some (.int .i64 gr) ∧ U.cell? ⟨B, 0, none⟩ = some (.int .i64 r.l) ∧ U.cell? ⟨B, 1, none⟩ = some (.int .i64 r.m) ∧ U.cell? ⟨B, 2, none⟩ = some (.int .i64 r.s) ∧ U.cell? ⟨B, 3, none⟩ = some (.int .i64 r.v) ∧ U.cell? ⟨B, 4, none⟩ = some (.int .i64 r.f)) := Lib.hid (fun U B A c' h => ⟨(h.box_ 2 rfl).cell 0, (h.box_ 2 rfl).cell 3, (h.box_ 1 rfl).cell 0, (h.box_ 1 rfl).cell 1, (h.box_ 1 rfl).cell 2, (h.box_ 1 rfl).cell 3, (h.box_ 1 rfl).cell 4⟩)
    have S2 : Hid (∀ U B A c' A' n d, Sx w (pkO A' n d Q :: pkO A l.length c' l :: box B 38 (rtA r) :: box s 91 #[ptr a, ptr b, ptr c, .int .i64 gr, .int .i64 lo, .int .i64 ti] :: rlogO a room last l :: rsetO b 256 kn :: rsetO c 256 re :: M) U → U.cell? ⟨s, 0, none⟩ = some (ptr a) ∧ U.cell? ⟨s, 3, none⟩ = some (.int .i64 gr) ∧ U.cell? ⟨B, 0, none⟩ = some (.int .i64 r.l) ∧ U.cell? ⟨B, 1, none⟩ = some (.int .i64 r.m) ∧ U.cell? ⟨B, 2, none⟩ = some (.int .i64 r.s) ∧ U.cell? ⟨B, 3, none⟩ = some (.int .i64 r.v) ∧ U.cell? ⟨B, 4, none⟩ = some (.int .i64 r.f)) := Lib.hid (fun U B A c' A' n d h => ⟨(h.box_ 3 rfl).cell 0, (h.box_ 3 rfl).cell 3, (h.box_ 2 rfl).cell 0, (h.box_ 2 rfl).cell 1, (h.box_ 2 rfl).cell 2, (h.box_ 2 rfl).cell 3, (h.box_ 2 rfl).cell 4⟩)
    have D : Hid (Sx w (box V.heap.size 38 (rtA r) :: box s 91 #[ptr a, ptr b, ptr c, .int .i64 gr, .int .i64 lo, .int .i64 ti] :: rlogO a room last l :: rsetO b 256 kn :: rsetO c 256 re :: M) (V.alloc (.cells (rtA r) 38))) := Lib.hid (D.out.new _ _)
    clear he h1 h2 hok hr eF eT eE hQ hT hD
    go_enter Tryz.func20, Tryz.ntmps20
    go_upto_region 1 with (fail)
    generalize V.alloc (.cells (rtA r) 38) = v1 at *
    generalize V.heap.size = B at *
    have D : Hid (Sx w (box B 38 (rtA r) :: box s 91 #[ptr a, ptr b, ptr c, .int .i64 gr, .int .i64 lo, .int .i64 ti] :: rlogO a room last l :: rsetO b 256 kn :: rsetO c 256 re :: M) v1.drew) := Lib.hid (D.out.on (Kept.refl _).drew)
    go_region_held3 (fun U => U.cell? ⟨s, 0, none⟩ = some (ptr a) ∧ U.cell? ⟨s, 3, none⟩ = some (.int .i64 gr) ∧ U.cell? ⟨B, 0, none⟩ = some (.int .i64 r.l) ∧ U.cell? ⟨B, 1, none⟩ = some (.int .i64 r.m) ∧ U.cell? ⟨B, 2, none⟩ = some (.int .i64 r.s) ∧ U.cell? ⟨B, 3, none⟩ = some (.int .i64 r.v) ∧ U.cell? ⟨B, 4, none⟩ = some (.int .i64 r.f))
      (first | with_reducible exact S0.out _ _ D.out | with_reducible exact S1.out _ _ _ _ D.out | with_reducible exact S2.out _ _ _ _ _ _ _ D.out)
      (first
        | (go_at_call 65; (with_reducible refine (k1.out _ _ D.out).mono ?_); rintro e w' ⟨A, c', rfl, hb⟩; have D := Lib.hid hb; clear hb)
        | (go_at_call 70; (with_reducible refine (k2.out _ _ _ _ D.out).mono ?_); rintro e w' ⟨A1, n, d, A2, m2, d2, rfl, hnl, hb⟩; have D := Lib.hid hb; have HNL := Lib.hid hnl; clear hb hnl))
    have D : Hid (Sx w (pkO A1 n d Q :: box s 91 #[ptr a, ptr b, ptr c, .int .i64 gr, .int .i64 lo, .int .i64 ti] :: rlogO a room last l :: rsetO b 256 kn :: rsetO c 256 re :: M) _) := Lib.hid (D.out.sel 7 [0, 3, 4, 5, 6] [1, 2] (by decide))
    obtain rfl := HNL.out
    clear S0 S1 S2 k1 k2 HNL
    go_wp2_with fail
    go_loopw [12] (fun s12 wr => ∃ i : Nat, i ≤ Q.length ∧ s12 = .int .i64 i ∧ Hid (Sx w (pkO A1 Q.length d Q :: box s 91 #[ptr a, ptr b, ptr c, .int .i64 gr, .int .i64 lo, .int .i64 ti] :: rlogO a room last (drops l (Q.take i)) :: rsetO b 256 kn :: rsetO c 256 re :: M) wr)) (fun s12 _ => Q.length - (intOf s12).toNat)
    case atStart => exact ⟨0, Nat.zero_le _, rfl, D⟩
    case round =>
      obtain ⟨i, hi, rfl, HD⟩ := hrel
      clear D
      have D := HD
      clear HD
      by_cases hlt : i < Q.length
      · have hi0 : (0 : Int) ≤ (i : Int) := by omega
        have hi1 : (i : Int) < (Q.length : Int) := by omega
        have hwi : IntKind.i64.wrap ((i : Int) + 1) = (i : Int) + 1 := IntWalk.i64_in _ (by omega)
        obtain ⟨g, rfl, hgl⟩ := (pk_row D.out 0 rfl).some_ (by omega)
        have kd : Hid (∀ U, Sx w (pkO (some ⟨g, 0, none⟩) Q.length d Q :: box s 91 #[ptr a, ptr b, ptr c, .int .i64 gr, .int .i64 lo, .int .i64 ti] :: rlogO a room last (drops l (Q.take i)) :: rsetO b 256 kn :: rsetO c 256 re :: M) U → Calls Tryz.prog 67 #[ptr a, .int .i64 (Cd.at_ Q i).n] U (Gets (.tuple #[pkV (getP (drops l (Q.take i)) (Cd.at_ Q i).n), .bool (getB (drops l (Q.take i)) (Cd.at_ Q i).n)]) w (pkO (some ⟨g, 0, none⟩) Q.length d Q :: box s 91 #[ptr a, ptr b, ptr c, .int .i64 gr, .int .i64 lo, .int .i64 ti] :: rlogO a room last (drops l (Q.take (i + 1))) :: rsetO b 256 kn :: rsetO c 256 re :: M))) := Lib.hid (fun U h => by
          have := rlog_drop h 2 rfl (Cd.at_ Q i).n
          rwa [← drops_take hlt] at this)
        have S0 : Hid (∀ U Y, Sx w (pkO (some ⟨g, 0, none⟩) Q.length d Q :: box s 91 #[ptr a, ptr b, ptr c, .int .i64 gr, .int .i64 lo, .int .i64 ti] :: rlogO a room last Y :: rsetO b 256 kn :: rsetO c 256 re :: M) U → U.cell? ⟨s, 0, none⟩ = some (ptr a) ∧ U.cell? ⟨g, i * 6, none⟩ = some (.int .i64 (Cd.at_ Q i).n)) := Lib.hid (fun U Y h => ⟨(h.box_ 1 rfl).cell 0, (Snt.prow_cells (pk_row h 0 rfl) hlt).1⟩)
        generalize (Cd.at_ Q i).n = N at *
        generalize getP (drops l (Q.take i)) N = P1 at *
        generalize getB (drops l (Q.take i)) N = P2 at *
        go_upto_region 7 with (fail)
        have D : Hid (Sx w (pkO (some ⟨g, 0, none⟩) Q.length d Q :: box s 91 #[ptr a, ptr b, ptr c, .int .i64 gr, .int .i64 lo, .int .i64 ti] :: rlogO a room last (drops l (Q.take i)) :: rsetO b 256 kn :: rsetO c 256 re :: M) wr.drew) := Lib.hid (D.out.on (Kept.refl _).drew)
        go_region_held3 (fun U => U.cell? ⟨s, 0, none⟩ = some (ptr a) ∧ U.cell? ⟨g, i * 6, none⟩ = some (.int .i64 N))
          (first | with_reducible exact S0.out _ _ D.out)
          (first | (go_at_call 67; (with_reducible refine (kd.out _ D.out).mono ?_); rintro e w' ⟨rfl, hb⟩; have D := Lib.hid hb; clear hb))
        go_wp2_with fail
        go_roundw
        case rel => exact ⟨i + 1, by omega, by go_num, D⟩
        case measure => simp [intOf]; omega
      · have hi1 : ¬ (i : Int) < (Q.length : Int) := by omega
        obtain rfl : i = Q.length := by omega
        have D : Hid (Sx w (pkO A1 Q.length d Q :: box s 91 #[ptr a, ptr b, ptr c, .int .i64 gr, .int .i64 lo, .int .i64 ti] :: rlogO a room last (drops l Q) :: rsetO b 256 kn :: rsetO c 256 re :: M) wr) := by
          have h := D.out
          rw [List.take_length] at h
          exact Lib.hid h
        have Bs := D.out.box_ 1 rfl
        have cs0 := Bs.cell 0
        have fs0 := Bs.frozen 0
        have cs1 := Bs.cell 1
        have fs1 := Bs.frozen 1
        have cs2 := Bs.cell 2
        have fs2 := Bs.frozen 2
        have cs3 := Bs.cell 3
        have fs3 := Bs.frozen 3
        have cs4 := Bs.cell 4
        have fs4 := Bs.frozen 4
        have cs5 := Bs.cell 5
        have fs5 := Bs.frozen 5
        have ts := Bs.lt
        clear Bs
        go_wp2_with fail
        have D := Lib.hid (D.out.cell_ 1 rfl 4 (.int .i64 T))
        have D : Hid (Sx w (pkO A1 Q.length d Q :: box s 91 #[ptr a, ptr b, ptr c, .int .i64 gr, .int .i64 T, .int .i64 ti] :: rlogO a room last (drops l Q) :: rsetO b 256 kn :: rsetO c 256 re :: M) (wr.setCell ⟨s, 4, none⟩ (.int .i64 T))) := D
        refine bodyPost_ret (v := .tuple #[.slice A1 Q.length d, .int .i64 0]) ?_ rfl ⟨A1, Q.length, d, rfl, rfl, (rspa_shut (X := ⟨room, last, drops l Q, kn, re, gr, T, ti⟩) (D.out.sel 5 [1, 2, 3, 4, 0] [] (by decide))).swap⟩
        simp [results, Tryz.f20, go_sem]
  · have hE : (loseE ⟨room, last, l, kn, re, gr, lo, ti⟩ now r == 0) = false := by simp [he]
    obtain ⟨h1, h2⟩ := lose_no he
    rw [h1, h2]
    have eF : fLost l gr now r = [] := if_neg he
    have eT : fAt l gr now r = 0 := if_neg he
    have eE : findE l gr now r = loseE ⟨room, last, l, kn, re, gr, lo, ti⟩ now r := rfl
    have k1 : Hid (∀ U B, Sx w (box B 38 (rtA r) :: box s 91 #[ptr a, ptr b, ptr c, .int .i64 gr, .int .i64 lo, .int .i64 ti] :: rlogO a room last l :: rsetO b 256 kn :: rsetO c 256 re :: M) U → Calls Tryz.prog 65 #[ptr a] U (fun e W => ∃ A c', e = .returned (.slice A l.length c') ∧ Sx w (pkO A l.length c' l :: box B 38 (rtA r) :: box s 91 #[ptr a, ptr b, ptr c, .int .i64 gr, .int .i64 lo, .int .i64 ti] :: rlogO a room last l :: rsetO b 256 kn :: rsetO c 256 re :: M) W)) := Lib.hid (fun U B h => rlog_all h 2 rfl)
    have k2 : Hid (∀ U B A c', Sx w (pkO A l.length c' l :: box B 38 (rtA r) :: box s 91 #[ptr a, ptr b, ptr c, .int .i64 gr, .int .i64 lo, .int .i64 ti] :: rlogO a room last l :: rsetO b 256 kn :: rsetO c 256 re :: M) U → Calls Tryz.prog 70 #[.slice A l.length c', .int .i64 gr, .int .i64 now, rtV r] U (fun e W => ∃ A' n d A2 m2 d2, e = .returned (.tuple #[.slice A' n d, .slice A2 m2 d2, .int .i64 0, .int .i64 (loseE ⟨room, last, l, kn, re, gr, lo, ti⟩ now r)]) ∧ n = ([] : List Pk).length ∧ Sx w (pkO A' n d ([] : List Pk) :: pkO A l.length c' l :: box B 38 (rtA r) :: box s 91 #[ptr a, ptr b, ptr c, .int .i64 gr, .int .i64 lo, .int .i64 ti] :: rlogO a room last l :: rsetO b 256 kn :: rsetO c 256 re :: M) W)) := Lib.hid (fun U B A c' h => by
      have := rfind_sx h 0 rfl gr now r
      rwa [eF, eT, eE] at this)
    have S0 : Hid (∀ U B, Sx w (box B 38 (rtA r) :: box s 91 #[ptr a, ptr b, ptr c, .int .i64 gr, .int .i64 lo, .int .i64 ti] :: rlogO a room last l :: rsetO b 256 kn :: rsetO c 256 re :: M) U → U.cell? ⟨s, 0, none⟩ = some (ptr a) ∧ U.cell? ⟨s, 3, none⟩ = some (.int .i64 gr) ∧ U.cell? ⟨B, 0, none⟩ = some (.int .i64 r.l) ∧ U.cell? ⟨B, 1, none⟩ = some (.int .i64 r.m) ∧ U.cell? ⟨B, 2, none⟩ = some (.int .i64 r.s) ∧ U.cell? ⟨B, 3, none⟩ = some (.int .i64 r.v) ∧ U.cell? ⟨B, 4, none⟩ = some (.int .i64 r.f)) := Lib.hid (fun U B h => ⟨(h.box_ 1 rfl).cell 0, (h.box_ 1 rfl).cell 3, (h.box_ 0 rfl).cell 0, (h.box_ 0 rfl).cell 1, (h.box_ 0 rfl).cell 2, (h.box_ 0 rfl).cell 3, (h.box_ 0 rfl).cell 4⟩)
    have S1 : Hid (∀ U B A c', Sx w (pkO A l.length c' l :: box B 38 (rtA r) :: box s 91 #[ptr a, ptr b, ptr c, .int .i64 gr, .int .i64 lo, .int .i64 ti] :: rlogO a room last l :: rsetO b 256 kn :: rsetO c 256 re :: M) U → U.cell? ⟨s, 0, none⟩ = some (ptr a) ∧ U.cell? ⟨s, 3, none⟩ = some (.int .i64 gr) ∧ U.cell? ⟨B, 0, none⟩ = some (.int .i64 r.l) ∧ U.cell? ⟨B, 1, none⟩ = some (.int .i64 r.m) ∧ U.cell? ⟨B, 2, none⟩ = some (.int .i64 r.s) ∧ U.cell? ⟨B, 3, none⟩ = some (.int .i64 r.v) ∧ U.cell? ⟨B, 4, none⟩ = some (.int .i64 r.f)) := Lib.hid (fun U B A c' h => ⟨(h.box_ 2 rfl).cell 0, (h.box_ 2 rfl).cell 3, (h.box_ 1 rfl).cell 0, (h.box_ 1 rfl).cell 1, (h.box_ 1 rfl).cell 2, (h.box_ 1 rfl).cell 3, (h.box_ 1 rfl).cell 4⟩)
    have S2 : Hid (∀ U B A c' A' n d, Sx w (pkO A' n d ([] : List Pk) :: pkO A l.length c' l :: box B 38 (rtA r) :: box s 91 #[ptr a, ptr b, ptr c, .int .i64 gr, .int .i64 lo, .int .i64 ti] :: rlogO a room last l :: rsetO b 256 kn :: rsetO c 256 re :: M) U → U.cell? ⟨s, 0, none⟩ = some (ptr a) ∧ U.cell? ⟨s, 3, none⟩ = some (.int .i64 gr) ∧ U.cell? ⟨B, 0, none⟩ = some (.int .i64 r.l) ∧ U.cell? ⟨B, 1, none⟩ = some (.int .i64 r.m) ∧ U.cell? ⟨B, 2, none⟩ = some (.int .i64 r.s) ∧ U.cell? ⟨B, 3, none⟩ = some (.int .i64 r.v) ∧ U.cell? ⟨B, 4, none⟩ = some (.int .i64 r.f)) := Lib.hid (fun U B A c' A' n d h => ⟨(h.box_ 3 rfl).cell 0, (h.box_ 3 rfl).cell 3, (h.box_ 2 rfl).cell 0, (h.box_ 2 rfl).cell 1, (h.box_ 2 rfl).cell 2, (h.box_ 2 rfl).cell 3, (h.box_ 2 rfl).cell 4⟩)
    have D : Hid (Sx w (box V.heap.size 38 (rtA r) :: box s 91 #[ptr a, ptr b, ptr c, .int .i64 gr, .int .i64 lo, .int .i64 ti] :: rlogO a room last l :: rsetO b 256 kn :: rsetO c 256 re :: M) (V.alloc (.cells (rtA r) 38))) := Lib.hid (D.out.new _ _)
    generalize loseE ⟨room, last, l, kn, re, gr, lo, ti⟩ now r = E at *
    clear he h1 h2 eF eT eE
    go_enter Tryz.func20, Tryz.ntmps20
    go_upto_region 1 with (fail)
    generalize V.alloc (.cells (rtA r) 38) = v1 at *
    generalize V.heap.size = B at *
    have D : Hid (Sx w (box B 38 (rtA r) :: box s 91 #[ptr a, ptr b, ptr c, .int .i64 gr, .int .i64 lo, .int .i64 ti] :: rlogO a room last l :: rsetO b 256 kn :: rsetO c 256 re :: M) v1.drew) := Lib.hid (D.out.on (Kept.refl _).drew)
    go_region_held3 (fun U => U.cell? ⟨s, 0, none⟩ = some (ptr a) ∧ U.cell? ⟨s, 3, none⟩ = some (.int .i64 gr) ∧ U.cell? ⟨B, 0, none⟩ = some (.int .i64 r.l) ∧ U.cell? ⟨B, 1, none⟩ = some (.int .i64 r.m) ∧ U.cell? ⟨B, 2, none⟩ = some (.int .i64 r.s) ∧ U.cell? ⟨B, 3, none⟩ = some (.int .i64 r.v) ∧ U.cell? ⟨B, 4, none⟩ = some (.int .i64 r.f))
      (first | with_reducible exact S0.out _ _ D.out | with_reducible exact S1.out _ _ _ _ D.out | with_reducible exact S2.out _ _ _ _ _ _ _ D.out)
      (first
        | (go_at_call 65; (with_reducible refine (k1.out _ _ D.out).mono ?_); rintro e w' ⟨A, c', rfl, hb⟩; have D := Lib.hid hb; clear hb)
        | (go_at_call 70; (with_reducible refine (k2.out _ _ _ _ D.out).mono ?_); rintro e w' ⟨A1, n, d, A2, m2, d2, rfl, hnl, hb⟩; have D := Lib.hid hb; have HNL := Lib.hid hnl; clear hb hnl))
    go_wp2_with fail
    refine bodyPost_ret (v := .tuple #[.slice none 0 0, .int .i64 E]) ?_ rfl ⟨none, 0, 0, rfl, rfl, pk_nil (rspa_shut (X := ⟨room, last, l, kn, re, gr, lo, ti⟩) D.out.tail.tail.tail)⟩
    simp [results, Tryz.f20, go_sem]
end
end Go.Proofs.YtilkgjpgoogiiaaGreat.Spa
