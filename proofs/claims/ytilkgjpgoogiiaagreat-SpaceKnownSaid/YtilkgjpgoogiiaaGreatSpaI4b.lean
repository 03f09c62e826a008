/-
  The developers' space: Ack, whole.
-/
import Derived.Test.YtilkgjpgoogiiaaGreatSpaabJ15b
import Derived.Test.YtilkgjpgoogiiaaGreatSpaabJ2a
import Derived.Deep.RegionHeld3
import Derived.Deep.DeepCutAuto
set_option maxRecDepth 100000
set_option maxHeartbeats 16000000
set_option linter.unusedVariables false
set_option linter.unusedSimpArgs false
namespace Go.Proofs.YtilkgjpgoogiiaaGreat.Spa
open Go.RowKit Wd Bxs Obs Ths SpaM
open SntM (Pk putErr putL putTop dropL getP getB fly eli)
open Snt (pkC pkV pkA)
open SpnM (R addErr addTo cutErr cutTo has add)
open FrmM (Ack check)
open SpnM (Rises)
open RttM (Rt)
open Rtt (rtV rtA)
section
variable {w V : World} {L M : List Ob} {s a b c : Nat} {X : Sp} {room : Nat} {last gr lo ti : Int} {l : List Pk} {kn re : List R}
theorem within_sx {A : Option Addr} {n d : Nat} {rs : List R} (h : Sx w L V) (i j k : Nat) (hi : L[i]? = some (box s 80 #[ptr a, ptr b, ptr c, .int .i64 gr, .int .i64 lo, .int .i64 ti])) (hj : L[j]? = some (logO a room last l)) (hk : L[k]? = some (rngO A n d rs)) (hm : n ≤ 256) (hl : l.length ≤ 256) : Calls Tryz.prog 59 #[ptr s, .slice A n d] V (fun e W => ∃ A2 c2, e = .returned (.slice A2 (bk l rs.reverse).length c2) ∧ Sx w (pkO A2 (bk l rs.reverse).length c2 (bk l rs.reverse) :: L) W) := by
  obtain ⟨F, ⟨g, rfl, hs⟩⟩ := h.get j hj
  refine (callsIn_wide.1 (within_in 3 (Nat.le_refl _) V (h.box_ i hi) hs (rng_row h k hk) hm hl)).mono ?_
  rintro e W' ⟨u, rfl, hp⟩
  obtain ⟨A2, c2, rfl, ho⟩ := lay_pk h hp
  exact ⟨A2, c2, rfl, ho⟩
theorem prog_ack {A : Option Addr} {n d : Nat} (k : Ack) (ok : OkS X) (h : Sx w (progO s X :: rngO A n d k.ranges :: M) V) : Calls Tryz.prog 17 #[ptr s, .agg #[.int .i64 k.delay, .slice A n d, .bool k.marked, .int .i64 k.m0, .int .i64 k.m1, .int .i64 k.m2]] V (fun e W => ∃ A1 n1 d1, e = .returned (.tuple #[.slice A1 n1 d1, .int .i64 (ackE X k)]) ∧ n1 = (ackL X k).length ∧ Sx w (pkO A1 n1 d1 (ackL X k) :: progO s (SpaM.ack X k) :: rngO A n d k.ranges :: M) W) := by
  obtain ⟨a, b, c, h⟩ := prog_open h
  obtain ⟨room, last, l, kn, re, gr, lo, ti⟩ := X
  obtain ⟨dl, rs, mk, m0, m1, m2⟩ := k
  have D : Hid (Sx w (box s 80 #[ptr a, ptr b, ptr c, .int .i64 gr, .int .i64 lo, .int .i64 ti] :: logO a room last l :: setO b 256 kn :: setO c 256 re :: rngO A n d rs :: M) V) := Lib.hid h
  have hlen : rs.length = n := (rng_row h 4 rfl).len
  clear h
  have HKn : Hid (Rises kn) := Lib.hid ok.kn
  have HRi : Hid (SntM.Rise l) := Lib.hid ok.log.rise
  have hll : l.length ≤ 256 := Nat.le_trans ok.log.len ok.log.room1.2
  clear ok
  have kc : Hid (∀ U K, Sx w (box K 36 #[.int .i64 dl, .slice A n d, .bool mk, .int .i64 m0, .int .i64 m1, .int .i64 m2] :: box s 80 #[ptr a, ptr b, ptr c, .int .i64 gr, .int .i64 lo, .int .i64 ti] :: logO a room last l :: setO b 256 kn :: setO c 256 re :: rngO A n d rs :: M) U → Calls Tryz.prog 53 #[.agg #[.int .i64 dl, .slice A n d, .bool mk, .int .i64 m0, .int .i64 m1, .int .i64 m2]] U (Gets (.int .i64 (check ⟨dl, rs, mk, m0, m1, m2⟩)) w (box K 36 #[.int .i64 dl, .slice A n d, .bool mk, .int .i64 m0, .int .i64 m1, .int .i64 m2] :: box s 80 #[ptr a, ptr b, ptr c, .int .i64 gr, .int .i64 lo, .int .i64 ti] :: logO a room last l :: setO b 256 kn :: setO c 256 re :: rngO A n d rs :: M))) := Lib.hid (fun U K h => check_sx ⟨dl, rs, mk, m0, m1, m2⟩ h 5 rfl)
  have D : Hid (Sx w (box V.heap.size 36 #[.int .i64 dl, .slice A n d, .bool mk, .int .i64 m0, .int .i64 m1, .int .i64 m2] :: box s 80 #[ptr a, ptr b, ptr c, .int .i64 gr, .int .i64 lo, .int .i64 ti] :: logO a room last l :: setO b 256 kn :: setO c 256 re :: rngO A n d rs :: M) (V.alloc (.cells #[.int .i64 dl, .slice A n d, .bool mk, .int .i64 m0, .int .i64 m1, .int .i64 m2] 36))) := Lib.hid (D.out.new 36 #[.int .i64 dl, .slice A n d, .bool mk, .int .i64 m0, .int .i64 m1, .int .i64 m2])
  show Calls _ _ #[ptr s, .agg #[.int .i64 dl, .slice A n d, .bool mk, .int .i64 m0, .int .i64 m1, .int .i64 m2]] _ _
  by_cases hv : check ⟨dl, rs, mk, m0, m1, m2⟩ = 0
  · have hV := FrmM.check_zero hv
    have hn1 : 1 ≤ n := by rw [← hlen]; exact hV.1.1
    have hn2 : n ≤ 256 := by rw [← hlen]; exact hV.1.2.1
    have hbd : ∀ r ∈ rs, 0 ≤ r.1 ∧ r.1 ≤ r.2 ∧ r.2 ≤ SpnM.M := falls_hi (Int.le_refl _) hV.2.1
    have hQ := bk_all HRi.out (Int.le_refl _) hV.2.1
    have HL := Lib.hid hlen
    rw [hv] at kc
    obtain ⟨g, rfl, hgl⟩ := (rng_row D.out 5 rfl).some_ (by omega)
    have hct : Hid (∀ U K, Sx w (box K 36 #[.int .i64 dl, .slice (some ⟨g, 0, none⟩) n d, .bool mk, .int .i64 m0, .int .i64 m1, .int .i64 m2] :: box s 80 #[ptr a, ptr b, ptr c, .int .i64 gr, .int .i64 lo, .int .i64 ti] :: logO a room last l :: setO b 256 kn :: setO c 256 re :: rngO (some ⟨g, 0, none⟩) n d rs :: M) U → Calls Tryz.prog 54 #[.slice (some ⟨g, 0, none⟩) n d, .func (.func 55) #[ptr s] #[]] U (Gets (.bool (!(rs.all (knownB kn)))) w (box K 36 #[.int .i64 dl, .slice (some ⟨g, 0, none⟩) n d, .bool mk, .int .i64 m0, .int .i64 m1, .int .i64 m2] :: box s 80 #[ptr a, ptr b, ptr c, .int .i64 gr, .int .i64 lo, .int .i64 ti] :: logO a room last l :: setO b 256 kn :: setO c 256 re :: rngO (some ⟨g, 0, none⟩) n d rs :: M))) := Lib.hid (fun U K h => contains_sx h 1 3 5 rfl rfl rfl hbd HKn.out)
    clear hgl hbd hlen
    cases hall : rs.all (knownB kn) with
    | false =>
      have hE : ackE ⟨room, last, l, kn, re, gr, lo, ti⟩ ⟨dl, rs, mk, m0, m1, m2⟩ = 170 := by show (if check ⟨dl, rs, mk, m0, m1, m2⟩ = 0 then (if (rs.all (knownB kn)) = true then (0 : Int) else 170) else 2) = 170; rw [if_pos hv, if_neg (by rw [hall]; decide)]
      obtain ⟨h1, h2⟩ := ack_no (X := ⟨room, last, l, kn, re, gr, lo, ti⟩) (a := ⟨dl, rs, mk, m0, m1, m2⟩) (by rw [hE]; decide)
      rw [hE, h1, h2]
      rw [hall] at hct
      clear hv hE h1 h2 hall hV hQ
      go_enter Tryz.func17, Tryz.ntmps17
      go_wp2_with fail
      generalize V.alloc (.cells #[.int .i64 dl, .slice (some ⟨g, 0, none⟩) n d, .bool mk, .int .i64 m0, .int .i64 m1, .int .i64 m2] 36) = v1 at *
      generalize V.heap.size = K at *
      refine (abs_bx (D.out.box_ 1 rfl)).mono ?_
      rintro e v0 ⟨rfl, rfl⟩
      have Bk := D.out.box_ 0 rfl
      have ck0 := Bk.cell 0
      have ck1 := Bk.cell 1
      have ck2 := Bk.cell 2
      have ck3 := Bk.cell 3
      have ck4 := Bk.cell 4
      have ck5 := Bk.cell 5
      have tk := Bk.lt
      clear Bk
      go_wp2_with fail
      clear ck0 ck1 ck2 ck3 ck4 ck5 tk
      refine (kc.out _ _ D.out).mono ?_
      rintro e v2 ⟨rfl, hb⟩
      have D := Lib.hid hb
      clear hb kc
      have Bk := D.out.box_ 0 rfl
      have ck0 := Bk.cell 0
      have ck1 := Bk.cell 1
      have ck2 := Bk.cell 2
      have ck3 := Bk.cell 3
      have ck4 := Bk.cell 4
      have ck5 := Bk.cell 5
      have tk := Bk.lt
      clear Bk
      have Bs := D.out.box_ 1 rfl
      have cs0 := Bs.cell 0
      have fs0 := Bs.frozen 0
      have cs1 := Bs.cell 1
      have fs1 := Bs.frozen 1
      have cs2 := Bs.cell 2
      have fs2 := Bs.frozen 2
      have cs3 := Bs.cell 3
      have fs3 := Bs.frozen 3
      have cs4 := Bs.cell 4
      have fs4 := Bs.frozen 4
      have cs5 := Bs.cell 5
      have fs5 := Bs.frozen 5
      have ts := Bs.lt
      clear Bs
      go_wp2_with fail
      clear ck0 ck1 ck2 ck3 ck4 ck5 tk
      clear cs0 fs0 cs1 fs1 cs2 fs2 cs3 fs3 cs4 fs4 cs5 fs5 ts
      refine (hct.out _ _ D.out).mono ?_
      rintro e v3 ⟨rfl, hb⟩
      have D := Lib.hid hb
      clear hb
      go_wp2_with fail
      refine bodyPost_ret (v := .tuple #[.slice none 0 0, .int .i64 170]) ?_ rfl ⟨none, 0, 0, rfl, rfl, pk_nil ((prog_shut (X := ⟨room, last, l, kn, re, gr, lo, ti⟩) (D.out.sel 6 [1, 2, 3, 4, 5] [0] (by decide))))⟩
      simp [results, Tryz.f17, go_sem]
    | true =>
      have hE : ackE ⟨room, last, l, kn, re, gr, lo, ti⟩ ⟨dl, rs, mk, m0, m1, m2⟩ = 0 := by show (if check ⟨dl, rs, mk, m0, m1, m2⟩ = 0 then (if (rs.all (knownB kn)) = true then (0 : Int) else 170) else 2) = 0; rw [if_pos hv, if_pos hall]
      have hAL : ackL ⟨room, last, l, kn, re, gr, lo, ti⟩ ⟨dl, rs, mk, m0, m1, m2⟩ = acked ⟨room, last, l, kn, re, gr, lo, ti⟩ rs := if_pos hE
      rw [hE, ack_yes hE, hAL]
      rw [hall] at hct
      obtain ⟨F, hF⟩ : ∃ F, forget ⟨room, last, l, kn, re, gr, lo, ti⟩ = F := ⟨_, rfl⟩
      obtain ⟨Q, hQ2⟩ : ∃ Q, SpaM.remember F rs = Q := ⟨_, rfl⟩
      obtain ⟨AK, hAK⟩ : ∃ AK, bk l rs.reverse = AK := ⟨_, rfl⟩
      have hAK2 : acked ⟨room, last, l, kn, re, gr, lo, ti⟩ rs = AK := hQ.symm.trans hAK
      have hLE : drops l AK = left ⟨room, last, l, kn, re, gr, lo, ti⟩ rs := by rw [← hAK2]; exact drops_filter HRi.out _
      have hAKl : AK.length ≤ 256 := by rw [← hAK2]; exact Nat.le_trans (List.length_filter_le _ _) hll
      have kfo : Hid (∀ U K, Sx w (box K 36 #[.int .i64 dl, .slice (some ⟨g, 0, none⟩) n d, .bool mk, .int .i64 m0, .int .i64 m1, .int .i64 m2] :: box s 80 #[ptr a, ptr b, ptr c, .int .i64 gr, .int .i64 lo, .int .i64 ti] :: logO a room last l :: setO b 256 kn :: setO c 256 re :: rngO (some ⟨g, 0, none⟩) n d rs :: M) U → Calls Tryz.prog 56 #[ptr s] U (fun e W => e = .returned (.tuple #[]) ∧ ∃ c2, Sx w (box K 36 #[.int .i64 dl, .slice (some ⟨g, 0, none⟩) n d, .bool mk, .int .i64 m0, .int .i64 m1, .int .i64 m2] :: box s 80 #[ptr a, ptr b, ptr c2, .int .i64 gr, .int .i64 lo, .int .i64 ti] :: logO a room last l :: setO b 256 kn :: setO c2 256 F :: rngO (some ⟨g, 0, none⟩) n d rs :: M) W)) := Lib.hid (fun U K h => (forget_sx (kn := kn) (h.sel 6 [1, 2, 4, 0, 3, 5] [] (by decide))).mono fun e W ⟨he, c2, hx⟩ => ⟨he, c2, by
        have := hx.sel 6 [3, 0, 1, 4, 2, 5] [] (by decide)
        rw [hF] at this
        exact this⟩)
      have kre : Hid (∀ U K c2, Sx w (box K 36 #[.int .i64 dl, .slice (some ⟨g, 0, none⟩) n d, .bool mk, .int .i64 m0, .int .i64 m1, .int .i64 m2] :: box s 80 #[ptr a, ptr b, ptr c2, .int .i64 gr, .int .i64 lo, .int .i64 ti] :: logO a room last l :: setO b 256 kn :: setO c2 256 F :: rngO (some ⟨g, 0, none⟩) n d rs :: M) U → Calls Tryz.prog 57 #[ptr s, .slice (some ⟨g, 0, none⟩) n d] U (Gets (.tuple #[]) w (box K 36 #[.int .i64 dl, .slice (some ⟨g, 0, none⟩) n d, .bool mk, .int .i64 m0, .int .i64 m1, .int .i64 m2] :: box s 80 #[ptr a, ptr b, ptr c2, .int .i64 gr, .int .i64 lo, .int .i64 ti] :: logO a room last l :: setO b 256 kn :: setO c2 256 Q :: rngO (some ⟨g, 0, none⟩) n d rs :: M))) := Lib.hid (fun U K c2 h => (remember_sx (by omega) (h.sel 6 [1, 4, 5, 0, 2, 3] [] (by decide))).mono fun e W (hx : Gets _ _ _ _ _) => (⟨hx.1, by
        have := hx.2.sel 6 [3, 0, 4, 5, 1, 2] [] (by decide)
        rw [hQ2] at this
        exact this⟩ : Gets _ _ _ _ _))
      have kwi : Hid (∀ U K c2 G, Sx w (box K 36 #[.int .i64 dl, .slice (some ⟨g, 0, none⟩) n d, .bool mk, .int .i64 m0, .int .i64 m1, .int .i64 m2] :: box s 80 #[ptr a, ptr b, ptr c2, .int .i64 G, .int .i64 lo, .int .i64 ti] :: logO a room last l :: setO b 256 kn :: setO c2 256 Q :: rngO (some ⟨g, 0, none⟩) n d rs :: M) U → Calls Tryz.prog 59 #[ptr s, .slice (some ⟨g, 0, none⟩) n d] U (fun e W => ∃ A2 d2, e = .returned (.slice A2 AK.length d2) ∧ Sx w (pkO A2 AK.length d2 AK :: box K 36 #[.int .i64 dl, .slice (some ⟨g, 0, none⟩) n d, .bool mk, .int .i64 m0, .int .i64 m1, .int .i64 m2] :: box s 80 #[ptr a, ptr b, ptr c2, .int .i64 G, .int .i64 lo, .int .i64 ti] :: logO a room last l :: setO b 256 kn :: setO c2 256 Q :: rngO (some ⟨g, 0, none⟩) n d rs :: M) W)) := Lib.hid (fun U K c2 G h => by
        have := within_sx h 1 2 5 rfl rfl rfl hn2 hll
        rwa [hAK] at this)
      obtain ⟨x0, hx0⟩ : ∃ x0, (SpnM.at_ rs 0).2 = x0 := ⟨_, rfl⟩
      have hf0 : (fst_ rs).2 = x0 := by
        rw [← hx0]
        have := HL.out
        cases rs with
        | nil => simp at this; omega
        | cons r t => rfl
      obtain ⟨G, hG⟩ : ∃ G, max gr x0 = G := ⟨_, rfl⟩
      show Calls _ _ _ _ (fun e W => ∃ A1 n1 d1, e = _ ∧ n1 = (acked ⟨room, last, l, kn, re, gr, lo, ti⟩ rs).length ∧ Sx w (pkO A1 n1 d1 (acked ⟨room, last, l, kn, re, gr, lo, ti⟩ rs) :: progO s ⟨room, last, left ⟨room, last, l, kn, re, gr, lo, ti⟩ rs, kn, SpaM.remember (forget ⟨room, last, l, kn, re, gr, lo, ti⟩) rs, max gr (fst_ rs).2, lo, ti⟩ :: rngO (some ⟨g, 0, none⟩) n d rs :: M) W)
      rw [hF, hQ2, hf0, hG, hAK2, ← hLE]
      have hRr : Hid (∀ U L i, Sx w L U → L[i]? = some (rngO (some ⟨g, 0, none⟩) n d rs) → U.cell? ⟨g, 0 * 2 + 1, none⟩ = some (.int .i64 x0)) := Lib.hid (fun U L i h hi => by rw [← hx0]; exact (rng_row h i hi).hi (k := 0) (by omega))
      clear hv hE hAL hall hV hQ hF hQ2 hAK hAK2 hLE hf0 hx0
      have hz0 : (0 : Int) < (n : Int) := by omega
      go_enter Tryz.func17, Tryz.ntmps17
      go_wp2_with fail
      generalize V.alloc (.cells #[.int .i64 dl, .slice (some ⟨g, 0, none⟩) n d, .bool mk, .int .i64 m0, .int .i64 m1, .int .i64 m2] 36) = v1 at *
      generalize V.heap.size = K at *
      refine (abs_bx (D.out.box_ 1 rfl)).mono ?_
      rintro e v0 ⟨rfl, rfl⟩
      have Bk := D.out.box_ 0 rfl
      have ck0 := Bk.cell 0
      have ck1 := Bk.cell 1
      have ck2 := Bk.cell 2
      have ck3 := Bk.cell 3
      have ck4 := Bk.cell 4
      have ck5 := Bk.cell 5
      have tk := Bk.lt
      clear Bk
      go_wp2_with fail
      clear ck0 ck1 ck2 ck3 ck4 ck5 tk
      refine (kc.out _ _ D.out).mono ?_
      rintro e v2 ⟨rfl, hb⟩
      have D := Lib.hid hb
      clear hb kc
      have Bk := D.out.box_ 0 rfl
      have ck0 := Bk.cell 0
      have ck1 := Bk.cell 1
      have ck2 := Bk.cell 2
      have ck3 := Bk.cell 3
      have ck4 := Bk.cell 4
      have ck5 := Bk.cell 5
      have tk := Bk.lt
      clear Bk
      have Bs := D.out.box_ 1 rfl
      have cs0 := Bs.cell 0
      have fs0 := Bs.frozen 0
      have cs1 := Bs.cell 1
      have fs1 := Bs.frozen 1
      have cs2 := Bs.cell 2
      have fs2 := Bs.frozen 2
      have cs3 := Bs.cell 3
      have fs3 := Bs.frozen 3
      have cs4 := Bs.cell 4
      have fs4 := Bs.frozen 4
      have cs5 := Bs.cell 5
      have fs5 := Bs.frozen 5
      have ts := Bs.lt
      clear Bs
      go_wp2_with fail
      clear ck0 ck1 ck2 ck3 ck4 ck5 tk
      clear cs0 fs0 cs1 fs1 cs2 fs2 cs3 fs3 cs4 fs4 cs5 fs5 ts
      refine (hct.out _ _ D.out).mono ?_
      rintro e v3 ⟨rfl, hb⟩
      have D := Lib.hid hb
      clear hb
      go_wp2_with fail
      refine (kfo.out _ _ D.out).mono ?_
      rintro e v4 ⟨rfl, c2, hb⟩
      have D := Lib.hid hb
      clear hb
      have Bk := D.out.box_ 0 rfl
      have ck0 := Bk.cell 0
      have ck1 := Bk.cell 1
      have ck2 := Bk.cell 2
      have ck3 := Bk.cell 3
      have ck4 := Bk.cell 4
      have ck5 := Bk.cell 5
      have tk := Bk.lt
      clear Bk
      go_wp2_with fail
      clear ck0 ck1 ck2 ck3 ck4 ck5 tk
      refine (kre.out _ _ _ D.out).mono ?_
      rintro e v5 ⟨rfl, hb⟩
      have D := Lib.hid hb
      clear hb
      have r1 := hRr.out _ _ 5 D.out rfl
      rw [Nat.zero_mul, Nat.zero_add] at r1
      have Bk := D.out.box_ 0 rfl
      have ck0 := Bk.cell 0
      have ck1 := Bk.cell 1
      have ck2 := Bk.cell 2
      have ck3 := Bk.cell 3
      have ck4 := Bk.cell 4
      have ck5 := Bk.cell 5
      have tk := Bk.lt
      clear Bk
      have Bs := D.out.box_ 1 rfl
      have cs0 := Bs.cell 0
      have fs0 := Bs.frozen 0
      have cs1 := Bs.cell 1
      have fs1 := Bs.frozen 1
      have cs2 := Bs.cell 2
      have fs2 := Bs.frozen 2
      have cs3 := Bs.cell 3
      have fs3 := Bs.frozen 3
      have cs4 := Bs.cell 4
      have fs4 := Bs.frozen 4
      have cs5 := Bs.cell 5
      have fs5 := Bs.frozen 5
      have ts := Bs.lt
      clear Bs
      have DD := Lib.hid (D.out.on (Kept.refl v5).drew)
      have q1 := hRr.out _ _ 5 DD.out rfl
      rw [Nat.zero_mul, Nat.zero_add] at q1
      have Bu := DD.out.box_ 0 rfl
      have cu0 := Bu.cell 0
      have cu1 := Bu.cell 1
      have cu2 := Bu.cell 2
      have cu3 := Bu.cell 3
      have cu4 := Bu.cell 4
      have cu5 := Bu.cell 5
      have tu := Bu.lt
      clear Bu
      have Bv := DD.out.box_ 1 rfl
      have cv0 := Bv.cell 0
      have fv0 := Bv.frozen 0
      have cv1 := Bv.cell 1
      have fv1 := Bv.frozen 1
      have cv2 := Bv.cell 2
      have fv2 := Bv.frozen 2
      have cv3 := Bv.cell 3
      have fv3 := Bv.frozen 3
      have cv4 := Bv.cell 4
      have fv4 := Bv.frozen 4
      have cv5 := Bv.cell 5
      have fv5 := Bv.frozen 5
      have tv := Bv.lt
      clear Bv
      go_upto_region 11 with (fail)
      go_region
      clear ck0 ck1 ck2 ck3 ck4 ck5 tk
      clear cs0 fs0 cs1 fs1 cs2 fs2 cs3 fs3 cs4 fs4 cs5 fs5 ts
      clear cu0 cu1 cu2 cu3 cu4 cu5 tu
      clear cv0 fv0 cv1 fv1 cv2 fv2 cv3 fv3 cv4 fv4 cv5 fv5 tv
      have D : Hid (Sx w (box K 36 #[.int .i64 dl, .slice (some ⟨g, 0, none⟩) n d, .bool mk, .int .i64 m0, .int .i64 m1, .int .i64 m2] :: box s 80 #[ptr a, ptr b, ptr c2, .int .i64 G, .int .i64 lo, .int .i64 ti] :: logO a room last l :: setO b 256 kn :: setO c2 256 Q :: rngO (some ⟨g, 0, none⟩) n d rs :: M) (v5.setCell ⟨s, 3, none⟩ (.int .i64 G)).drew) := Lib.hid ((D.out.cell_ 1 rfl 3 (.int .i64 G)).on (Kept.refl _).drew)
      clear DD r1 q1 hG
      generalize (v5.setCell ⟨s, 3, none⟩ (.int .i64 G)).drew = v6 at *
      have Bk := D.out.box_ 0 rfl
      have ck0 := Bk.cell 0
      have ck1 := Bk.cell 1
      have ck2 := Bk.cell 2
      have ck3 := Bk.cell 3
      have ck4 := Bk.cell 4
      have ck5 := Bk.cell 5
      have tk := Bk.lt
      clear Bk
      go_wp2_with fail
      clear ck0 ck1 ck2 ck3 ck4 ck5 tk
      refine (kwi.out _ _ _ _ D.out).mono ?_
      rintro e v7 ⟨A2, d2, rfl, hb⟩
      have D := Lib.hid hb
      clear hb
      go_wp2_with fail
      refine (process_sx (by omega) (D.out.sel 7 [0, 2, 3, 1, 4, 5, 6] [] (by decide))).mono ?_
      rintro e v8 ⟨rfl, hb⟩
      have D := Lib.hid hb
      clear hb
      go_wp2_with fail
      refine bodyPost_ret (v := .tuple #[.slice A2 AK.length d2, .int .i64 0]) ?_ rfl ⟨A2, AK.length, d2, rfl, rfl, (prog_shut (X := ⟨room, last, drops l AK, kn, Q, G, lo, ti⟩) (D.out.sel 7 [1, 2, 4, 5, 0, 6] [3] (by decide))).swap⟩
      simp [results, Tryz.f17, go_sem]
  · have hc2 : check ⟨dl, rs, mk, m0, m1, m2⟩ = 2 := FrmM.check_not (fun e => hv (FrmM.check_ok e))
    have hE : ackE ⟨room, last, l, kn, re, gr, lo, ti⟩ ⟨dl, rs, mk, m0, m1, m2⟩ = 2 := if_neg hv
    obtain ⟨h1, h2⟩ := ack_no (X := ⟨room, last, l, kn, re, gr, lo, ti⟩) (a := ⟨dl, rs, mk, m0, m1, m2⟩) (by rw [hE]; decide)
    rw [hE, h1, h2]
    rw [hc2] at kc
    clear hv hc2 hE h1 h2
    go_enter Tryz.func17, Tryz.ntmps17
    go_wp2_with fail
    generalize V.alloc (.cells #[.int .i64 dl, .slice A n d, .bool mk, .int .i64 m0, .int .i64 m1, .int .i64 m2] 36) = v1 at *
    generalize V.heap.size = K at *
    refine (abs_bx (D.out.box_ 1 rfl)).mono ?_
    rintro e v0 ⟨rfl, rfl⟩
    have Bk := D.out.box_ 0 rfl
    have ck0 := Bk.cell 0
    have ck1 := Bk.cell 1
    have ck2 := Bk.cell 2
    have ck3 := Bk.cell 3
    have ck4 := Bk.cell 4
    have ck5 := Bk.cell 5
    have tk := Bk.lt
    clear Bk
    go_wp2_with fail
    clear ck0 ck1 ck2 ck3 ck4 ck5 tk
    refine (kc.out _ _ D.out).mono ?_
    rintro e v2 ⟨rfl, hb⟩
    have D := Lib.hid hb
    clear hb kc
    go_wp2_with fail
    refine bodyPost_ret (v := .tuple #[.slice none 0 0, .int .i64 2]) ?_ rfl ⟨none, 0, 0, rfl, rfl, pk_nil ((prog_shut (X := ⟨room, last, l, kn, re, gr, lo, ti⟩) (D.out.sel 6 [1, 2, 3, 4, 5] [0] (by decide))))⟩
    simp [results, Tryz.f17, go_sem]
end
end Go.Proofs.YtilkgjpgoogiiaaGreat.Spa
