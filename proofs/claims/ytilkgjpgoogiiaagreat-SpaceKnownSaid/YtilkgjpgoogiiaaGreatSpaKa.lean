/-
  The document's space: Ack.
-/
import Derived.Test.YtilkgjpgoogiiaaGreatSpaRa
import Derived.Test.YtilkgjpgoogiiaaGreatSpaabJ32a
import Derived.Test.YtilkgjpgoogiiaaGreatWrdabJ50a
set_option maxRecDepth 100000
set_option maxHeartbeats 16000000
set_option linter.unusedVariables false
set_option linter.unusedSimpArgs false
namespace Go.Proofs.YtilkgjpgoogiiaaGreat.Spa
open Go.RowKit Wd Bxs Obs Ths SpaM
open SntM (Pk putErr putL putTop dropL getP getB fly eli)
open Snt (pkC pkV pkA)
open SpnM (R addErr addTo cutErr cutTo has add)
open FrmM (Ack check)
open RttM (Rt)
open Rtt (rtV rtA)
open LosM (wait lostL restL atF fLost fAt findE)
section
variable {w V : World} {L M : List Ob} {s : Nat} {X : Sp}
def acT (l : List Pk) (rs : List R) (i : Nat) : List Pk := (l.take i).filter fun p => inB rs p.n
theorem rspa_ack0 {A : Option Addr} {n d : Nat} (k : Ack) (h : Sx w (rspaO s X :: rngO A n d k.ranges :: M) V) : Calls Tryz.prog 18 #[ptr s, .agg #[.int .i64 k.delay, .slice A n d, .bool k.marked, .int .i64 k.m0, .int .i64 k.m1, .int .i64 k.m2]] V (fun e W => ∃ A1 n1 d1, e = .returned (.tuple #[.slice A1 n1 d1, .int .i64 (ackE X k)]) ∧ n1 = (ackL X k).length ∧ Sx w (pkO A1 n1 d1 (ackL X k) :: rspaO s (ack X k) :: rngO A n d k.ranges :: M) W) := by
  obtain ⟨room, last, l, kn, re, gr, lo, ti⟩ := X
  obtain ⟨dl, rs, mk, m0, m1, m2⟩ := k
  have D : Hid (Sx w (rspaO s ⟨room, last, l, kn, re, gr, lo, ti⟩ :: rngO A n d rs :: M) V) := Lib.hid h
  have hcap := (rng_row h 1 rfl).cap
  have hlen : rs.length = n := (rng_row h 1 rfl).len
  clear h
  have kc : Hid (∀ U K, Sx w (box K 36 #[.int .i64 dl, .slice A n d, .bool mk, .int .i64 m0, .int .i64 m1, .int .i64 m2] :: rspaO s ⟨room, last, l, kn, re, gr, lo, ti⟩ :: rngO A n d rs :: M) U → Calls Tryz.prog 61 #[.agg #[.int .i64 dl, .slice A n d, .bool mk, .int .i64 m0, .int .i64 m1, .int .i64 m2]] U (Gets (.int .i64 (check ⟨dl, rs, mk, m0, m1, m2⟩)) w (box K 36 #[.int .i64 dl, .slice A n d, .bool mk, .int .i64 m0, .int .i64 m1, .int .i64 m2] :: rspaO s ⟨room, last, l, kn, re, gr, lo, ti⟩ :: rngO A n d rs :: M))) := Lib.hid (fun U K h => (Frm.rcheck_any A n d ⟨dl, rs, mk, m0, m1, m2⟩ U (rng_row h 2 rfl)).mono fun e W ⟨he, hk⟩ => ⟨he, h.on hk⟩)
  have D : Hid (Sx w (box V.heap.size 36 #[.int .i64 dl, .slice A n d, .bool mk, .int .i64 m0, .int .i64 m1, .int .i64 m2] :: rspaO s ⟨room, last, l, kn, re, gr, lo, ti⟩ :: rngO A n d rs :: M) (V.alloc (.cells #[.int .i64 dl, .slice A n d, .bool mk, .int .i64 m0, .int .i64 m1, .int .i64 m2] 36))) := Lib.hid (D.out.new 36 #[.int .i64 dl, .slice A n d, .bool mk, .int .i64 m0, .int .i64 m1, .int .i64 m2])
  show Calls _ _ #[ptr s, .agg #[.int .i64 dl, .slice A n d, .bool mk, .int .i64 m0, .int .i64 m1, .int .i64 m2]] _ _
  by_cases hv : check ⟨dl, rs, mk, m0, m1, m2⟩ = 0
  · have hV := FrmM.check_zero hv
    have hn1 : 1 ≤ n := by rw [← hlen]; exact hV.1.1
    have hn2 : n ≤ 256 := by rw [← hlen]; exact hV.1.2.1
    have hE0 : Hid ((∀ j, j < n → knownB kn (SpnM.at_ rs j) = true) → ackE ⟨room, last, l, kn, re, gr, lo, ti⟩ ⟨dl, rs, mk, m0, m1, m2⟩ = 0) := Lib.hid (fun h => by
      show (if check ⟨dl, rs, mk, m0, m1, m2⟩ = 0 then (if (rs.all (knownB kn)) = true then (0 : Int) else 170) else 2) = 0
      rw [if_pos hv, if_pos (List.all_eq_true.2 fun r hr => by
        obtain ⟨j, hj, rfl⟩ := SpnM.mem_at hr
        exact h j (by rw [← hlen]; exact hj))])
    have hE1 : Hid (∀ j, j < n → knownB kn (SpnM.at_ rs j) = false → ackE ⟨room, last, l, kn, re, gr, lo, ti⟩ ⟨dl, rs, mk, m0, m1, m2⟩ = 170) := Lib.hid (fun j hj h => by
      show (if check ⟨dl, rs, mk, m0, m1, m2⟩ = 0 then (if (rs.all (knownB kn)) = true then (0 : Int) else 170) else 2) = 170
      rw [if_pos hv, if_neg (by rw [all_no (by rw [hlen]; exact hj) h]; decide)])
    obtain ⟨E, hEE⟩ : ∃ E, ackE ⟨room, last, l, kn, re, gr, lo, ti⟩ ⟨dl, rs, mk, m0, m1, m2⟩ = E := ⟨_, rfl⟩
    obtain ⟨LL, hLL⟩ : ∃ LL, ackL ⟨room, last, l, kn, re, gr, lo, ti⟩ ⟨dl, rs, mk, m0, m1, m2⟩ = LL := ⟨_, rfl⟩
    obtain ⟨Y, hY⟩ : ∃ Y, ack ⟨room, last, l, kn, re, gr, lo, ti⟩ ⟨dl, rs, mk, m0, m1, m2⟩ = Y := ⟨_, rfl⟩
    have hE0 : Hid ((∀ j, j < n → knownB kn (SpnM.at_ rs j) = true) → E = 0 ∧ LL = acked ⟨room, last, l, kn, re, gr, lo, ti⟩ rs ∧ Y = ⟨room, last, left ⟨room, last, l, kn, re, gr, lo, ti⟩ rs, kn, remember (forget ⟨room, last, l, kn, re, gr, lo, ti⟩) rs, max gr (fst_ rs).2, lo, ti⟩) := Lib.hid (fun h => by
      have h1 := hE0.out h
      exact ⟨hEE ▸ h1, hLL ▸ if_pos h1, hY ▸ ack_yes h1⟩)
    have hE1 : Hid (∀ j, j < n → knownB kn (SpnM.at_ rs j) = false → E = 170 ∧ LL = [] ∧ Y = ⟨room, last, l, kn, re, gr, lo, ti⟩) := Lib.hid (fun j hj h => by
      have h1 := hE1.out j hj h
      obtain ⟨h2, h3⟩ := ack_no (X := ⟨room, last, l, kn, re, gr, lo, ti⟩) (a := ⟨dl, rs, mk, m0, m1, m2⟩) (by rw [h1]; decide)
      exact ⟨hEE ▸ h1, hLL ▸ h3, hY ▸ h2⟩)
    rw [hEE, hLL, hY]
    clear hEE hLL hY
    have HV := Lib.hid hV
    have HL := Lib.hid hlen
    rw [hv] at kc
    obtain ⟨g, rfl, hgl⟩ := (rng_row D.out 2 rfl).some_ (by omega)
    have hR : Hid (∀ U L i, Sx w L U → L[i]? = some (rngO (some ⟨g, 0, none⟩) n d rs) → Spn.Row U (some ⟨g, 0, none⟩) n d rs) := Lib.hid (fun U L i h hi => rng_row h i hi)
    clear hv hV hlen hgl
    go_enter Tryz.func18, Tryz.ntmps18
    go_wp2_with fail
    generalize V.alloc (.cells #[.int .i64 dl, .slice (some ⟨g, 0, none⟩) n d, .bool mk, .int .i64 m0, .int .i64 m1, .int .i64 m2] 36) = v1 at *
    generalize V.heap.size = K at *
    refine (kc.out _ _ D.out).mono ?_
    rintro e v2 ⟨rfl, hb⟩
    have D := Lib.hid hb
    clear hb kc
    go_wp2_with fail
    go_loopw [7] (fun s7 wr => ∃ i : Nat, i ≤ n ∧ s7 = .int .i64 i ∧ Hid (∀ j, j < i → knownB kn (SpnM.at_ rs j) = true) ∧ Hid (Sx w (box K 36 #[.int .i64 dl, .slice (some ⟨g, 0, none⟩) n d, .bool mk, .int .i64 m0, .int .i64 m1, .int .i64 m2] :: rspaO s ⟨room, last, l, kn, re, gr, lo, ti⟩ :: rngO (some ⟨g, 0, none⟩) n d rs :: M) wr)) (fun s7 _ => n - (intOf s7).toNat)
    case atStart => exact ⟨0, Nat.zero_le _, rfl, Lib.hid (fun j hj => absurd hj (Nat.not_lt_zero _)), D⟩
    case round =>
      obtain ⟨i, hi, rfl, hall, HD⟩ := hrel
      clear D
      have D := HD
      clear HD
      by_cases hlt : i < n
      · have hi0 : (0 : Int) ≤ (i : Int) := by omega
        have hi1 : (i : Int) < (n : Int) := by omega
        have hwi : IntKind.i64.wrap ((i : Int) + 1) = (i : Int) + 1 := IntWalk.i64_in _ (by omega)
        have kn0 : Hid (∀ U, Sx w (box K 36 #[.int .i64 dl, .slice (some ⟨g, 0, none⟩) n d, .bool mk, .int .i64 m0, .int .i64 m1, .int .i64 m2] :: rspaO s ⟨room, last, l, kn, re, gr, lo, ti⟩ :: rngO (some ⟨g, 0, none⟩) n d rs :: M) U → Calls Tryz.prog 62 #[ptr s, .agg #[.int .i64 (SpnM.at_ rs i).1, .int .i64 (SpnM.at_ rs i).2]] U (Gets (.bool (knownB kn (SpnM.at_ rs i))) w (box K 36 #[.int .i64 dl, .slice (some ⟨g, 0, none⟩) n d, .bool mk, .int .i64 m0, .int .i64 m1, .int .i64 m2] :: rspaO s ⟨room, last, l, kn, re, gr, lo, ti⟩ :: rngO (some ⟨g, 0, none⟩) n d rs :: M))) := Lib.hid (fun U h => rspa_known h 1 rfl (SpnM.at_ rs i))
        have r0 := (hR.out _ _ 2 D.out rfl).lo hlt
        have r1 := (hR.out _ _ 2 D.out rfl).hi hlt
        have hE1' := Lib.hid (hE1.out i hlt)
        have hst : Hid (knownB kn (SpnM.at_ rs i) = true → ∀ j, j < i + 1 → knownB kn (SpnM.at_ rs j) = true) := Lib.hid (fun h j hj => by
          rcases Nat.lt_succ_iff_lt_or_eq.1 hj with h1 | rfl
          · exact hall.out j h1
          · exact h)
        generalize (SpnM.at_ rs i).1 = x1 at *
        generalize (SpnM.at_ rs i).2 = x2 at *
        have Bk := D.out.box_ 0 rfl
        have ck0 := Bk.cell 0
        have ck1 := Bk.cell 1
        have ck2 := Bk.cell 2
        have ck3 := Bk.cell 3
        have ck4 := Bk.cell 4
        have ck5 := Bk.cell 5
        have tk := Bk.lt
        clear Bk
        cases hb : knownB kn (SpnM.at_ rs i) with
        | false =>
          rw [hb] at kn0
          obtain ⟨rfl, rfl, rfl⟩ := hE1'.out hb
          clear hst hE1' hE1 hE0 hb
          go_wp2_with fail
          refine (kn0.out _ D.out).mono ?_
          rintro e v3 ⟨rfl, hb⟩
          have D := Lib.hid hb
          clear hb
          go_wp2_with fail
          refine bodyPost_ret (v := .tuple #[.slice none 0 0, .int .i64 170]) ?_ rfl ⟨none, 0, 0, rfl, rfl, pk_nil D.out.tail⟩
          simp [results, Tryz.f18, go_sem]
        | true =>
          rw [hb] at kn0
          have hall' := Lib.hid (hst.out hb)
          clear hst hE1' hb
          go_wp2_with fail
          refine (kn0.out _ D.out).mono ?_
          rintro e v3 ⟨rfl, hb⟩
          have D := Lib.hid hb
          clear hb
          go_wp2_with fail
          go_roundw
          case rel => exact ⟨i + 1, by omega, by go_num, hall', D⟩
          case measure => simp [intOf]; omega
      · have hi1 : ¬ (i : Int) < (n : Int) := by omega
        obtain rfl : n = i := by omega
        have HE := Lib.hid (hE0.out hall.out)
        clear hE0 hE1 hall
        obtain ⟨a, b, c, ho⟩ := rspa_open D.out.swap
        have D : Hid (Sx w (box K 36 #[.int .i64 dl, .slice (some ⟨g, 0, none⟩) n d, .bool mk, .int .i64 m0, .int .i64 m1, .int .i64 m2] :: box s 91 #[ptr a, ptr b, ptr c, .int .i64 gr, .int .i64 lo, .int .i64 ti] :: rlogO a room last l :: rsetO b 256 kn :: rsetO c 256 re :: rngO (some ⟨g, 0, none⟩) n d rs :: M) wr) := Lib.hid (ho.sel 6 [4, 0, 1, 2, 3, 5] [] (by decide))
        clear ho
        have hrise : Hid (SntM.Rise l) := by
          obtain ⟨F, A0, c0, _, hg⟩ := D.out.get 2 rfl
          exact Lib.hid hg.good.rise
        have hll : Hid (l.length ≤ 256) := by
          obtain ⟨F, A0, c0, _, hg⟩ := D.out.get 2 rfl
          exact Lib.hid hg.small
        obtain ⟨F, hF⟩ : ∃ F, forget ⟨room, last, l, kn, re, gr, lo, ti⟩ = F := ⟨_, rfl⟩
        have HF := Lib.hid hF
        clear hF
        have Bk := D.out.box_ 0 rfl
        have ck0 := Bk.cell 0
        have ck1 := Bk.cell 1
        have ck2 := Bk.cell 2
        have ck3 := Bk.cell 3
        have ck4 := Bk.cell 4
        have ck5 := Bk.cell 5
        have tk := Bk.lt
        clear Bk
        have Bs := D.out.box_ 1 rfl
        have cs0 := Bs.cell 0
        have fs0 := Bs.frozen 0
        have cs1 := Bs.cell 1
        have fs1 := Bs.frozen 1
        have cs2 := Bs.cell 2
        have fs2 := Bs.frozen 2
        have cs3 := Bs.cell 3
        have fs3 := Bs.frozen 3
        have cs4 := Bs.cell 4
        have fs4 := Bs.frozen 4
        have cs5 := Bs.cell 5
        have fs5 := Bs.frozen 5
        have ts := Bs.lt
        clear Bs
        go_wp2_with fail
        clear ck0 ck1 ck2 ck3 ck4 ck5 tk
        clear cs0 fs0 cs1 fs1 cs2 fs2 cs3 fs3 cs4 fs4 cs5 fs5 ts
        obtain ⟨b0, hb0⟩ : ∃ b0, decide (0 < l.length) = b0 := ⟨_, rfl⟩
        have kold := rlog_oldest D.out 2 rfl
        rw [hb0] at kold
        have HB0 := Lib.hid hb0
        clear hb0
        refine kold.mono ?_
        rintro e v3 ⟨rfl, hb⟩
        have D := Lib.hid hb
        clear hb
        go_upto_if 44 with fail
        have D : Hid (Sx w (box v3.heap.size 32 (pkA (Cd.at_ l 0)) :: box K 36 #[.int .i64 dl, .slice (some ⟨g, 0, none⟩) n d, .bool mk, .int .i64 m0, .int .i64 m1, .int .i64 m2] :: box s 91 #[ptr a, ptr b, ptr c, .int .i64 gr, .int .i64 lo, .int .i64 ti] :: rlogO a room last l :: rsetO b 256 kn :: rsetO c 256 re :: rngO (some ⟨g, 0, none⟩) n d rs :: M) (v3.alloc (.cells (pkA (Cd.at_ l 0)) 32))) := Lib.hid (D.out.new 32 (pkA (Cd.at_ l 0)))
        generalize v3.alloc (.cells (pkA (Cd.at_ l 0)) 32) = v4 at *
        generalize v3.heap.size = O at *
        go_cut [] (fun wx => ∃ c2 : Nat, Hid (Sx w (box K 36 #[.int .i64 dl, .slice (some ⟨g, 0, none⟩) n d, .bool mk, .int .i64 m0, .int .i64 m1, .int .i64 m2] :: box s 91 #[ptr a, ptr b, ptr c2, .int .i64 gr, .int .i64 lo, .int .i64 ti] :: rlogO a room last l :: rsetO b 256 kn :: rsetO c2 256 F :: rngO (some ⟨g, 0, none⟩) n d rs :: M) wx))
        case first =>
          cases hl : l with
          | nil =>
            subst hl
            obtain rfl : false = b0 := HB0.out
            have hF : ([] : List R) = F := HF.out
            subst hF
            clear HF HB0
            go_wp2_with fail
            refine (rset_new256 D.out).mono ?_
            rintro e v5 ⟨c2, rfl, hb⟩
            have D : Hid (Sx w (rsetO c2 256 [] :: box O 32 (pkA (Cd.at_ ([] : List Pk) 0)) :: box K 36 #[.int .i64 dl, .slice (some ⟨g, 0, none⟩) n d, .bool mk, .int .i64 m0, .int .i64 m1, .int .i64 m2] :: box s 91 #[ptr a, ptr b, ptr c, .int .i64 gr, .int .i64 lo, .int .i64 ti] :: rlogO a room last [] :: rsetO b 256 kn :: rsetO c 256 re :: rngO (some ⟨g, 0, none⟩) n d rs :: M) v5) := Lib.hid hb
            clear hb
            have Bs := D.out.box_ 3 rfl
            have cs0 := Bs.cell 0
            have fs0 := Bs.frozen 0
            have cs1 := Bs.cell 1
            have fs1 := Bs.frozen 1
            have cs2 := Bs.cell 2
            have fs2 := Bs.frozen 2
            have cs3 := Bs.cell 3
            have fs3 := Bs.frozen 3
            have cs4 := Bs.cell 4
            have fs4 := Bs.frozen 4
            have cs5 := Bs.cell 5
            have fs5 := Bs.frozen 5
            have ts := Bs.lt
            clear Bs
            go_wp2_with fail
            have D := Lib.hid (D.out.cell_ 3 rfl 2 (ptr c2))
            have D : Hid (Sx w (rsetO c2 256 [] :: box O 32 (pkA (Cd.at_ ([] : List Pk) 0)) :: box K 36 #[.int .i64 dl, .slice (some ⟨g, 0, none⟩) n d, .bool mk, .int .i64 m0, .int .i64 m1, .int .i64 m2] :: box s 91 #[ptr a, ptr b, ptr c2, .int .i64 gr, .int .i64 lo, .int .i64 ti] :: rlogO a room last [] :: rsetO b 256 kn :: rsetO c 256 re :: rngO (some ⟨g, 0, none⟩) n d rs :: M) (v5.setCell ⟨s, 2, none⟩ (ptr c2))) := D
            go_meet
            exact ⟨c2, Lib.hid (D.out.sel 8 [2, 3, 4, 5, 0, 7] [1, 6] (by decide))⟩
          | cons p l' =>
            subst hl
            obtain rfl : true = b0 := HB0.out
            have hF : cutTo re p.n = F := HF.out
            have kcut : Hid (∀ U, Sx w (box O 32 (pkA p) :: box K 36 #[.int .i64 dl, .slice (some ⟨g, 0, none⟩) n d, .bool mk, .int .i64 m0, .int .i64 m1, .int .i64 m2] :: box s 91 #[ptr a, ptr b, ptr c, .int .i64 gr, .int .i64 lo, .int .i64 ti] :: rlogO a room last (p :: l') :: rsetO b 256 kn :: rsetO c 256 re :: rngO (some ⟨g, 0, none⟩) n d rs :: M) U → Calls Tryz.prog 64 #[ptr c, .int .i64 p.n] U (Gets (.int .i64 (cutErr p.n)) w (box O 32 (pkA p) :: box K 36 #[.int .i64 dl, .slice (some ⟨g, 0, none⟩) n d, .bool mk, .int .i64 m0, .int .i64 m1, .int .i64 m2] :: box s 91 #[ptr a, ptr b, ptr c, .int .i64 gr, .int .i64 lo, .int .i64 ti] :: rlogO a room last (p :: l') :: rsetO b 256 kn :: rsetO c 256 F :: rngO (some ⟨g, 0, none⟩) n d rs :: M))) := Lib.hid (fun U h => by
              have := rset_cut h 5 rfl p.n
              rwa [hF] at this)
            have S0 : Hid (∀ U Y, Sx w (box O 32 (pkA p) :: box K 36 #[.int .i64 dl, .slice (some ⟨g, 0, none⟩) n d, .bool mk, .int .i64 m0, .int .i64 m1, .int .i64 m2] :: box s 91 #[ptr a, ptr b, ptr c, .int .i64 gr, .int .i64 lo, .int .i64 ti] :: rlogO a room last (p :: l') :: rsetO b 256 kn :: rsetO c 256 Y :: rngO (some ⟨g, 0, none⟩) n d rs :: M) U → U.cell? ⟨s, 2, none⟩ = some (ptr c) ∧ U.cell? ⟨O, 0, none⟩ = some (.int .i64 p.n)) := Lib.hid (fun U Y h => ⟨(h.box_ 2 rfl).cell 2, (h.box_ 0 rfl).cell 0⟩)
            generalize cutErr p.n = CE at *
            clear HF hF HB0
            go_upto_region 11 with (fail)
            have D : Hid (Sx w (box O 32 (pkA p) :: box K 36 #[.int .i64 dl, .slice (some ⟨g, 0, none⟩) n d, .bool mk, .int .i64 m0, .int .i64 m1, .int .i64 m2] :: box s 91 #[ptr a, ptr b, ptr c, .int .i64 gr, .int .i64 lo, .int .i64 ti] :: rlogO a room last (p :: l') :: rsetO b 256 kn :: rsetO c 256 re :: rngO (some ⟨g, 0, none⟩) n d rs :: M) v4.drew) := Lib.hid (D.out.on (Kept.refl _).drew)
            go_region_held3 (fun U => U.cell? ⟨s, 2, none⟩ = some (ptr c) ∧ U.cell? ⟨O, 0, none⟩ = some (.int .i64 p.n))
              (first | with_reducible exact S0.out _ _ D.out)
              (first | (go_at_call 64; (with_reducible refine (kcut.out _ D.out).mono ?_); rintro e w' ⟨rfl, hb⟩; have D := Lib.hid hb; clear hb))
            go_wp2_with fail
            go_meet
            exact ⟨c, Lib.hid D.out.tail⟩
        case rest =>
        obtain ⟨c2, HD⟩ := hcut
        clear D
        have D : Hid (Sx w (box K 36 #[.int .i64 dl, .slice (some ⟨g, 0, none⟩) n d, .bool mk, .int .i64 m0, .int .i64 m1, .int .i64 m2] :: box s 91 #[ptr a, ptr b, ptr c2, .int .i64 gr, .int .i64 lo, .int .i64 ti] :: rlogO a room last l :: rsetO b 256 kn :: rsetO c2 256 F :: rngO (some ⟨g, 0, none⟩) n d rs :: M) wc) := HD
        clear HD
        go_wp2_with fail
        go_loopw [12] (fun s12 wr => ∃ i : Nat, i ≤ n ∧ s12 = .int .i64 i ∧ Hid (Sx w (box K 36 #[.int .i64 dl, .slice (some ⟨g, 0, none⟩) n d, .bool mk, .int .i64 m0, .int .i64 m1, .int .i64 m2] :: box s 91 #[ptr a, ptr b, ptr c2, .int .i64 gr, .int .i64 lo, .int .i64 ti] :: rlogO a room last l :: rsetO b 256 kn :: rsetO c2 256 (remember F (rs.take i)) :: rngO (some ⟨g, 0, none⟩) n d rs :: M) wr)) (fun s12 _ => n - (intOf s12).toNat)
        case atStart => exact ⟨0, Nat.zero_le _, rfl, D⟩
        case round =>
          obtain ⟨i, hi, rfl, HD⟩ := hrel
          clear D
          have D := HD
          clear HD
          by_cases hlt : i < n
          · have hi0 : (0 : Int) ≤ (i : Int) := by omega
            have hi1 : (i : Int) < (n : Int) := by omega
            have hwi : IntKind.i64.wrap ((i : Int) + 1) = (i : Int) + 1 := IntWalk.i64_in _ (by omega)
            have ka : Hid (∀ U, Sx w (box K 36 #[.int .i64 dl, .slice (some ⟨g, 0, none⟩) n d, .bool mk, .int .i64 m0, .int .i64 m1, .int .i64 m2] :: box s 91 #[ptr a, ptr b, ptr c2, .int .i64 gr, .int .i64 lo, .int .i64 ti] :: rlogO a room last l :: rsetO b 256 kn :: rsetO c2 256 (remember F (rs.take i)) :: rngO (some ⟨g, 0, none⟩) n d rs :: M) U → Calls Tryz.prog 51 #[ptr c2, .int .i64 (SpnM.at_ rs i).1, .int .i64 (SpnM.at_ rs i).2] U (Gets (.int .i64 (addErr 256 (remember F (rs.take i)) (SpnM.at_ rs i).1 (SpnM.at_ rs i).2)) w (box K 36 #[.int .i64 dl, .slice (some ⟨g, 0, none⟩) n d, .bool mk, .int .i64 m0, .int .i64 m1, .int .i64 m2] :: box s 91 #[ptr a, ptr b, ptr c2, .int .i64 gr, .int .i64 lo, .int .i64 ti] :: rlogO a room last l :: rsetO b 256 kn :: rsetO c2 256 (remember F (rs.take (i + 1))) :: rngO (some ⟨g, 0, none⟩) n d rs :: M))) := Lib.hid (fun U h => by
              have := rset_add256 h 4 rfl (SpnM.at_ rs i).1 (SpnM.at_ rs i).2
              rwa [← rem_step (by rw [HL.out]; exact hlt)] at this)
            have S0 : Hid (∀ U Y, Sx w (box K 36 #[.int .i64 dl, .slice (some ⟨g, 0, none⟩) n d, .bool mk, .int .i64 m0, .int .i64 m1, .int .i64 m2] :: box s 91 #[ptr a, ptr b, ptr c2, .int .i64 gr, .int .i64 lo, .int .i64 ti] :: rlogO a room last l :: rsetO b 256 kn :: rsetO c2 256 Y :: rngO (some ⟨g, 0, none⟩) n d rs :: M) U → U.cell? ⟨s, 2, none⟩ = some (ptr c2) ∧ U.cell? ⟨K, 1, none⟩ = some (.slice (some ⟨g, 0, none⟩) n d) ∧ U.cell? ⟨g, i * 2, none⟩ = some (.int .i64 (SpnM.at_ rs i).1) ∧ U.cell? ⟨g, i * 2 + 1, none⟩ = some (.int .i64 (SpnM.at_ rs i).2)) := Lib.hid (fun U Y h => ⟨(h.box_ 1 rfl).cell 2, (h.box_ 0 rfl).cell 1, (hR.out _ _ 5 h rfl).lo hlt, (hR.out _ _ 5 h rfl).hi hlt⟩)
            generalize addErr 256 (remember F (rs.take i)) (SpnM.at_ rs i).1 (SpnM.at_ rs i).2 = E at *
            generalize (SpnM.at_ rs i).1 = x1 at *
            generalize (SpnM.at_ rs i).2 = x2 at *
            have Bk := D.out.box_ 0 rfl
            have ck1 := Bk.cell 1
            have tk := Bk.lt
            clear Bk
            go_wp2_with fail
            clear ck1 tk
            have D : Hid (Sx w (box K 36 #[.int .i64 dl, .slice (some ⟨g, 0, none⟩) n d, .bool mk, .int .i64 m0, .int .i64 m1, .int .i64 m2] :: box s 91 #[ptr a, ptr b, ptr c2, .int .i64 gr, .int .i64 lo, .int .i64 ti] :: rlogO a room last l :: rsetO b 256 kn :: rsetO c2 256 (remember F (rs.take i)) :: rngO (some ⟨g, 0, none⟩) n d rs :: M) wr.drew) := Lib.hid (D.out.on (Kept.refl _).drew)
            go_region_held3 (fun U => U.cell? ⟨s, 2, none⟩ = some (ptr c2) ∧ U.cell? ⟨K, 1, none⟩ = some (.slice (some ⟨g, 0, none⟩) n d) ∧ U.cell? ⟨g, i * 2, none⟩ = some (.int .i64 x1) ∧ U.cell? ⟨g, i * 2 + 1, none⟩ = some (.int .i64 x2))
              (first | with_reducible exact S0.out _ _ D.out)
              (first | (go_at_call 51; (with_reducible refine (ka.out _ D.out).mono ?_); rintro e w' ⟨rfl, hb⟩; have D := Lib.hid hb; clear hb))
            go_wp2_with fail
            go_roundw
            case rel => exact ⟨i + 1, by omega, by go_num, D⟩
            case measure => simp [intOf]; omega
          · have hi1 : ¬ (i : Int) < (n : Int) := by omega
            obtain rfl : n = i := by omega
            obtain ⟨Q, hQ⟩ : ∃ Q, remember F rs = Q := ⟨_, rfl⟩
            have D : Hid (Sx w (box K 36 #[.int .i64 dl, .slice (some ⟨g, 0, none⟩) n d, .bool mk, .int .i64 m0, .int .i64 m1, .int .i64 m2] :: box s 91 #[ptr a, ptr b, ptr c2, .int .i64 gr, .int .i64 lo, .int .i64 ti] :: rlogO a room last l :: rsetO b 256 kn :: rsetO c2 256 Q :: rngO (some ⟨g, 0, none⟩) n d rs :: M) wr) := by
              have h := D.out
              rw [List.take_of_length_le (by rw [HL.out]; exact Nat.le_refl _), hQ] at h
              exact Lib.hid h
            obtain ⟨x0, hx0⟩ : ∃ x0, (SpnM.at_ rs 0).2 = x0 := ⟨_, rfl⟩
            have hf0 : (fst_ rs).2 = x0 := by
              rw [← hx0]
              have := HL.out
              cases rs with
              | nil => simp at this; omega
              | cons r t => rfl
            have HQ := Lib.hid hQ
            obtain ⟨G, hG⟩ : ∃ G, max gr x0 = G := ⟨_, rfl⟩
            have HG : Hid (max gr (fst_ rs).2 = G) := Lib.hid (by rw [hf0]; exact hG)
            clear hf0 hQ
            have r1 := (hR.out _ _ 5 D.out rfl).hi (k := 0) (by omega)
            rw [hx0] at r1
            have hz0 : (0 : Int) < (n : Int) := by omega
            have Bk := D.out.box_ 0 rfl
            have ck0 := Bk.cell 0
            have ck1 := Bk.cell 1
            have ck2 := Bk.cell 2
            have ck3 := Bk.cell 3
            have ck4 := Bk.cell 4
            have ck5 := Bk.cell 5
            have tk := Bk.lt
            clear Bk
            have Bs := D.out.box_ 1 rfl
            have cs0 := Bs.cell 0
            have fs0 := Bs.frozen 0
            have cs1 := Bs.cell 1
            have fs1 := Bs.frozen 1
            have cs2 := Bs.cell 2
            have fs2 := Bs.frozen 2
            have cs3 := Bs.cell 3
            have fs3 := Bs.frozen 3
            have cs4 := Bs.cell 4
            have fs4 := Bs.frozen 4
            have cs5 := Bs.cell 5
            have fs5 := Bs.frozen 5
            have ts := Bs.lt
            clear Bs
            have DD := Lib.hid (D.out.on (Kept.refl wr).drew)
            have q1 := (hR.out _ _ 5 DD.out rfl).hi (k := 0) (by omega)
            rw [hx0] at q1
            clear hx0
            have Bu := DD.out.box_ 0 rfl
            have cu0 := Bu.cell 0
            have cu1 := Bu.cell 1
            have cu2 := Bu.cell 2
            have cu3 := Bu.cell 3
            have cu4 := Bu.cell 4
            have cu5 := Bu.cell 5
            have tu := Bu.lt
            clear Bu
            have Bv := DD.out.box_ 1 rfl
            have cv0 := Bv.cell 0
            have fv0 := Bv.frozen 0
            have cv1 := Bv.cell 1
            have fv1 := Bv.frozen 1
            have cv2 := Bv.cell 2
            have fv2 := Bv.frozen 2
            have cv3 := Bv.cell 3
            have fv3 := Bv.frozen 3
            have cv4 := Bv.cell 4
            have fv4 := Bv.frozen 4
            have cv5 := Bv.cell 5
            have fv5 := Bv.frozen 5
            have tv := Bv.lt
            clear Bv
            go_upto_region 18 with (fail)
            go_region
            clear ck0 ck1 ck2 ck3 ck4 ck5 tk
            clear cs0 fs0 cs1 fs1 cs2 fs2 cs3 fs3 cs4 fs4 cs5 fs5 ts
            clear cu0 cu1 cu2 cu3 cu4 cu5 tu
            clear cv0 fv0 cv1 fv1 cv2 fv2 cv3 fv3 cv4 fv4 cv5 fv5 tv
            have D : Hid (Sx w (box K 36 #[.int .i64 dl, .slice (some ⟨g, 0, none⟩) n d, .bool mk, .int .i64 m0, .int .i64 m1, .int .i64 m2] :: box s 91 #[ptr a, ptr b, ptr c2, .int .i64 G, .int .i64 lo, .int .i64 ti] :: rlogO a room last l :: rsetO b 256 kn :: rsetO c2 256 Q :: rngO (some ⟨g, 0, none⟩) n d rs :: M) (wr.setCell ⟨s, 3, none⟩ (.int .i64 G)).drew) := Lib.hid ((D.out.cell_ 1 rfl 3 (.int .i64 G)).on (Kept.refl _).drew)
            clear DD r1 q1 hG
            generalize (wr.setCell ⟨s, 3, none⟩ (.int .i64 G)).drew = v6 at *
            have Bs := D.out.box_ 1 rfl
            have cs0 := Bs.cell 0
            have cs1 := Bs.cell 1
            have cs2 := Bs.cell 2
            have cs3 := Bs.cell 3
            have cs4 := Bs.cell 4
            have cs5 := Bs.cell 5
            have ts := Bs.lt
            clear Bs
            go_wp2_with fail
            clear cs0 cs1 cs2 cs3 cs4 cs5 ts
            refine (rlog_all D.out 2 rfl).mono ?_
            rintro e v7 ⟨A2, d2, rfl, hb⟩
            have D := Lib.hid (pk_nil hb)
            clear hb
            have D : Hid (Sx w (pkO none (acT l rs 0).length 0 (acT l rs 0) :: pkO A2 l.length d2 l :: box K 36 #[.int .i64 dl, .slice (some ⟨g, 0, none⟩) n d, .bool mk, .int .i64 m0, .int .i64 m1, .int .i64 m2] :: box s 91 #[ptr a, ptr b, ptr c2, .int .i64 G, .int .i64 lo, .int .i64 ti] :: rlogO a room last (drops l (acT l rs 0)) :: rsetO b 256 kn :: rsetO c2 256 Q :: rngO (some ⟨g, 0, none⟩) n d rs :: M) v7) := D
            have HH : Hid (∀ nn : Int, Frm.has ⟨dl, rs, mk, m0, m1, m2⟩ nn = inB rs nn) := Lib.hid (fun nn => by unfold Frm.has; exact has_in HV.out nn)
            go_wp2_with fail
            go_loopw [13, 15] (fun s13 s15 wr => ∃ (i : Nat) (A1 : Option Addr) (d1 : Nat), i ≤ l.length ∧ s13 = .slice A1 (acT l rs i).length d1 ∧ s15 = .int .i64 i ∧ Hid (Sx w (pkO A1 (acT l rs i).length d1 (acT l rs i) :: pkO A2 l.length d2 l :: box K 36 #[.int .i64 dl, .slice (some ⟨g, 0, none⟩) n d, .bool mk, .int .i64 m0, .int .i64 m1, .int .i64 m2] :: box s 91 #[ptr a, ptr b, ptr c2, .int .i64 G, .int .i64 lo, .int .i64 ti] :: rlogO a room last (drops l (acT l rs i)) :: rsetO b 256 kn :: rsetO c2 256 Q :: rngO (some ⟨g, 0, none⟩) n d rs :: M) wr)) (fun _ s15 _ => l.length - (intOf s15).toNat)
            case atStart => exact ⟨0, none, 0, Nat.zero_le _, rfl, rfl, D⟩
            case round =>
              obtain ⟨i, A1, d1, hi, rfl, rfl, HD⟩ := hrel
              clear D
              have D := HD
              clear HD
              by_cases hlt : i < l.length
              · have hi0 : (0 : Int) ≤ (i : Int) := by omega
                have hi1 : (i : Int) < (l.length : Int) := by omega
                have hwi : IntKind.i64.wrap ((i : Int) + 1) = (i : Int) + 1 := IntWalk.i64_in _ (by have := hll.out; omega)
                obtain ⟨g2, rfl, hg2⟩ := (pk_row D.out 1 rfl).some_ (by omega)
                have hm : (acT l rs i).length ≤ 256 := by
                  have h1 : (acT l rs i).length ≤ (l.take i).length := List.length_filter_le _ _
                  rw [List.length_take] at h1
                  have := hll.out
                  omega
                have kh : Hid (∀ U, Sx w (pkO A1 (acT l rs i).length d1 (acT l rs i) :: pkO (some ⟨g2, 0, none⟩) l.length d2 l :: box K 36 #[.int .i64 dl, .slice (some ⟨g, 0, none⟩) n d, .bool mk, .int .i64 m0, .int .i64 m1, .int .i64 m2] :: box s 91 #[ptr a, ptr b, ptr c2, .int .i64 G, .int .i64 lo, .int .i64 ti] :: rlogO a room last (drops l (acT l rs i)) :: rsetO b 256 kn :: rsetO c2 256 Q :: rngO (some ⟨g, 0, none⟩) n d rs :: M) U → Calls Tryz.prog 66 #[.agg #[.int .i64 dl, .slice (some ⟨g, 0, none⟩) n d, .bool mk, .int .i64 m0, .int .i64 m1, .int .i64 m2], .int .i64 (Cd.at_ l i).n] U (Gets (.bool (inB rs (Cd.at_ l i).n)) w (pkO A1 (acT l rs i).length d1 (acT l rs i) :: pkO (some ⟨g2, 0, none⟩) l.length d2 l :: box K 36 #[.int .i64 dl, .slice (some ⟨g, 0, none⟩) n d, .bool mk, .int .i64 m0, .int .i64 m1, .int .i64 m2] :: box s 91 #[ptr a, ptr b, ptr c2, .int .i64 G, .int .i64 lo, .int .i64 ti] :: rlogO a room last (drops l (acT l rs i)) :: rsetO b 256 kn :: rsetO c2 256 Q :: rngO (some ⟨g, 0, none⟩) n d rs :: M))) := Lib.hid (fun U h => (Frm.rhas_any (some ⟨g, 0, none⟩) n d ⟨dl, rs, mk, m0, m1, m2⟩ (Cd.at_ l i).n U (hR.out _ _ 7 h rfl)).mono fun e W ⟨he, hk⟩ => ⟨by rw [HH.out] at he; exact he, h.on hk⟩)
                have kd : Hid (∀ U, Sx w (pkO A1 (acT l rs i).length d1 (acT l rs i) :: pkO (some ⟨g2, 0, none⟩) l.length d2 l :: box K 36 #[.int .i64 dl, .slice (some ⟨g, 0, none⟩) n d, .bool mk, .int .i64 m0, .int .i64 m1, .int .i64 m2] :: box s 91 #[ptr a, ptr b, ptr c2, .int .i64 G, .int .i64 lo, .int .i64 ti] :: rlogO a room last (drops l (acT l rs i)) :: rsetO b 256 kn :: rsetO c2 256 Q :: rngO (some ⟨g, 0, none⟩) n d rs :: M) U → Calls Tryz.prog 67 #[ptr a, .int .i64 (Cd.at_ l i).n] U (Gets (.tuple #[pkV (getP (drops l (acT l rs i)) (Cd.at_ l i).n), .bool (getB (drops l (acT l rs i)) (Cd.at_ l i).n)]) w (pkO A1 (acT l rs i).length d1 (acT l rs i) :: pkO (some ⟨g2, 0, none⟩) l.length d2 l :: box K 36 #[.int .i64 dl, .slice (some ⟨g, 0, none⟩) n d, .bool mk, .int .i64 m0, .int .i64 m1, .int .i64 m2] :: box s 91 #[ptr a, ptr b, ptr c2, .int .i64 G, .int .i64 lo, .int .i64 ti] :: rlogO a room last (drops l (acT l rs i ++ [Cd.at_ l i])) :: rsetO b 256 kn :: rsetO c2 256 Q :: rngO (some ⟨g, 0, none⟩) n d rs :: M))) := Lib.hid (fun U h => by
                  have := rlog_drop h 4 rfl (Cd.at_ l i).n
                  rwa [← drops_snoc] at this)
                have S0 : Hid (∀ U Y, Sx w (pkO A1 (acT l rs i).length d1 (acT l rs i) :: pkO (some ⟨g2, 0, none⟩) l.length d2 l :: box K 36 #[.int .i64 dl, .slice (some ⟨g, 0, none⟩) n d, .bool mk, .int .i64 m0, .int .i64 m1, .int .i64 m2] :: box s 91 #[ptr a, ptr b, ptr c2, .int .i64 G, .int .i64 lo, .int .i64 ti] :: rlogO a room last Y :: rsetO b 256 kn :: rsetO c2 256 Q :: rngO (some ⟨g, 0, none⟩) n d rs :: M) U → U.cell? ⟨K, 0, none⟩ = some (.int .i64 dl) ∧ U.cell? ⟨K, 1, none⟩ = some (.slice (some ⟨g, 0, none⟩) n d) ∧ U.cell? ⟨K, 2, none⟩ = some (.bool mk) ∧ U.cell? ⟨K, 3, none⟩ = some (.int .i64 m0) ∧ U.cell? ⟨K, 4, none⟩ = some (.int .i64 m1) ∧ U.cell? ⟨K, 5, none⟩ = some (.int .i64 m2) ∧ U.cell? ⟨g2, i * 6, none⟩ = some (.int .i64 (Cd.at_ l i).n)) := Lib.hid (fun U Y h => ⟨(h.box_ 2 rfl).cell 0, (h.box_ 2 rfl).cell 1, (h.box_ 2 rfl).cell 2, (h.box_ 2 rfl).cell 3, (h.box_ 2 rfl).cell 4, (h.box_ 2 rfl).cell 5, (Snt.prow_cells (pk_row h 1 rfl) hlt).1⟩)
                have S1 : Hid (∀ U Y, Sx w (pkO A1 (acT l rs i).length d1 (acT l rs i) :: pkO (some ⟨g2, 0, none⟩) l.length d2 l :: box K 36 #[.int .i64 dl, .slice (some ⟨g, 0, none⟩) n d, .bool mk, .int .i64 m0, .int .i64 m1, .int .i64 m2] :: box s 91 #[ptr a, ptr b, ptr c2, .int .i64 G, .int .i64 lo, .int .i64 ti] :: rlogO a room last Y :: rsetO b 256 kn :: rsetO c2 256 Q :: rngO (some ⟨g, 0, none⟩) n d rs :: M) U → U.cell? ⟨s, 0, none⟩ = some (ptr a) ∧ U.cell? ⟨g2, i * 6, none⟩ = some (.int .i64 (Cd.at_ l i).n)) := Lib.hid (fun U Y h => ⟨(h.box_ 3 rfl).cell 0, (Snt.prow_cells (pk_row h 1 rfl) hlt).1⟩)
                have S2 : Hid (∀ U Y, Sx w (pkO A1 (acT l rs i).length d1 (acT l rs i) :: pkO (some ⟨g2, 0, none⟩) l.length d2 l :: box K 36 #[.int .i64 dl, .slice (some ⟨g, 0, none⟩) n d, .bool mk, .int .i64 m0, .int .i64 m1, .int .i64 m2] :: box s 91 #[ptr a, ptr b, ptr c2, .int .i64 G, .int .i64 lo, .int .i64 ti] :: rlogO a room last Y :: rsetO b 256 kn :: rsetO c2 256 Q :: rngO (some ⟨g, 0, none⟩) n d rs :: M) U → _) := Lib.hid (fun U Y h => Snt.prow_cells (pk_row h 1 rfl) hlt)
                have eY : Hid (inB rs (Cd.at_ l i).n = true → acT l rs (i + 1) = acT l rs i ++ [Cd.at_ l i]) := Lib.hid (fun h => fil_yes hlt h)
                have eN : Hid (inB rs (Cd.at_ l i).n = false → acT l rs (i + 1) = acT l rs i) := Lib.hid (fun h => fil_no hlt h)
                generalize getP (drops l (acT l rs i)) (Cd.at_ l i).n = P1 at *
                generalize getB (drops l (acT l rs i)) (Cd.at_ l i).n = P2 at *
                go_upto_region 24 with (fail)
                have D : Hid (Sx w (pkO A1 (acT l rs i).length d1 (acT l rs i) :: pkO (some ⟨g2, 0, none⟩) l.length d2 l :: box K 36 #[.int .i64 dl, .slice (some ⟨g, 0, none⟩) n d, .bool mk, .int .i64 m0, .int .i64 m1, .int .i64 m2] :: box s 91 #[ptr a, ptr b, ptr c2, .int .i64 G, .int .i64 lo, .int .i64 ti] :: rlogO a room last (drops l (acT l rs i)) :: rsetO b 256 kn :: rsetO c2 256 Q :: rngO (some ⟨g, 0, none⟩) n d rs :: M) wr.drew) := Lib.hid (D.out.on (Kept.refl _).drew)
                generalize hpx : Cd.at_ l i = px at *
                clear hpx
                obtain ⟨pn, pt, ps, pe, pf, pc⟩ := px
                cases hb : inB rs pn with
                | false =>
                  have eN' := eN.out hb
                  clear eN eY
                  rw [hb] at kh
                  go_region_held3 (fun U => U.cell? ⟨K, 0, none⟩ = some (.int .i64 dl) ∧ U.cell? ⟨K, 1, none⟩ = some (.slice (some ⟨g, 0, none⟩) n d) ∧ U.cell? ⟨K, 2, none⟩ = some (.bool mk) ∧ U.cell? ⟨K, 3, none⟩ = some (.int .i64 m0) ∧ U.cell? ⟨K, 4, none⟩ = some (.int .i64 m1) ∧ U.cell? ⟨K, 5, none⟩ = some (.int .i64 m2) ∧ U.cell? ⟨g2, i * 6, none⟩ = some (.int .i64 pn))
                    (first | with_reducible exact S0.out _ _ D.out)
                    (first | (go_at_call 66; (with_reducible refine (kh.out _ D.out).mono ?_); rintro e w1 ⟨rfl, hb⟩; have D := Lib.hid hb; clear hb))
                  go_wp2_with fail
                  go_roundw
                  case rel => exact ⟨i + 1, A1, d1, by omega, by rw [eN'], by go_num, by rw [eN']; exact D⟩
                  case measure => simp [intOf]; omega
                | true =>
                  have eY' := eY.out hb
                  clear eN eY
                  rw [hb] at kh
                  go_region_held3 (fun U => U.cell? ⟨K, 0, none⟩ = some (.int .i64 dl) ∧ U.cell? ⟨K, 1, none⟩ = some (.slice (some ⟨g, 0, none⟩) n d) ∧ U.cell? ⟨K, 2, none⟩ = some (.bool mk) ∧ U.cell? ⟨K, 3, none⟩ = some (.int .i64 m0) ∧ U.cell? ⟨K, 4, none⟩ = some (.int .i64 m1) ∧ U.cell? ⟨K, 5, none⟩ = some (.int .i64 m2) ∧ U.cell? ⟨g2, i * 6, none⟩ = some (.int .i64 pn))
                    (first | with_reducible exact S0.out _ _ D.out)
                    (first | (go_at_call 66; (with_reducible refine (kh.out _ D.out).mono ?_); rintro e w1 ⟨rfl, hb⟩; have D := Lib.hid hb; clear hb))
                  go_upto_region 25 with (fail)
                  generalize hw1 : w1 = w2 at *
                  clear hw1
                  have D : Hid (Sx w (pkO A1 (acT l rs i).length d1 (acT l rs i) :: pkO (some ⟨g2, 0, none⟩) l.length d2 l :: box K 36 #[.int .i64 dl, .slice (some ⟨g, 0, none⟩) n d, .bool mk, .int .i64 m0, .int .i64 m1, .int .i64 m2] :: box s 91 #[ptr a, ptr b, ptr c2, .int .i64 G, .int .i64 lo, .int .i64 ti] :: rlogO a room last (drops l (acT l rs i)) :: rsetO b 256 kn :: rsetO c2 256 Q :: rngO (some ⟨g, 0, none⟩) n d rs :: M) w2.drew) := Lib.hid (D.out.on (Kept.refl _).drew)
                  go_region_held3 (fun U => U.cell? ⟨s, 0, none⟩ = some (ptr a) ∧ U.cell? ⟨g2, i * 6, none⟩ = some (.int .i64 pn))
                    (first | with_reducible exact S1.out _ _ D.out)
                    (first | (go_at_call 67; (with_reducible refine (kd.out _ D.out).mono ?_); rintro e w3 ⟨rfl, hb⟩; have D := Lib.hid hb; clear hb))
                  obtain ⟨y0, y1, y2, y3, y4, y5⟩ := S2.out _ _ D.out
                  go_wp2_with (at_builtin; refine wpList_sx rfl (.tmp 125) (.tmp 130) rfl (⟨pn, pt, ps, pe, pf, pc⟩ : Pk) rfl D.out rfl (by omega) rfl ?_; intro A3 d3 w4 HD3; have D3 := HD3)
                  go_roundw
                  case rel => exact ⟨i + 1, A3, d3, by omega, by rw [eY', List.length_append]; rfl, by go_num, by rw [eY']; exact D3⟩
                  case measure => simp [intOf]; omega
              · have hi1 : ¬ (i : Int) < (l.length : Int) := by omega
                obtain rfl : i = l.length := by omega
                have e1 : acT l rs l.length = acked ⟨room, last, l, kn, re, gr, lo, ti⟩ rs := by unfold acT; rw [List.take_length]; rfl
                have e2 : drops l (acT l rs l.length) = left ⟨room, last, l, kn, re, gr, lo, ti⟩ rs := by rw [e1]; exact drops_filter hrise.out _
                have D := Lib.hid (rspa_shut (X := ⟨room, last, drops l (acT l rs l.length), kn, Q, G, lo, ti⟩) (D.out.sel 8 [3, 4, 5, 6, 7, 0] [1, 2] (by decide)))
                have D := Lib.hid (D.out.sel 3 [2, 0, 1] [] (by decide))
                rw [e2, e1] at D
                have HE' : E = 0 ∧ LL = acked ⟨room, last, l, kn, re, gr, lo, ti⟩ rs ∧ Y = ⟨room, last, left ⟨room, last, l, kn, re, gr, lo, ti⟩ rs, kn, Q, G, lo, ti⟩ := by rw [← HQ.out, ← HF.out, ← HG.out]; exact HE.out
                obtain ⟨rfl, rfl, rfl⟩ := HE'
                have eA : (acT l rs l.length).length = (acked ⟨room, last, l, kn, re, gr, lo, ti⟩ rs).length := by rw [e1]
                clear e1 e2 HE HF HQ HG
                go_wp2_with fail
                refine bodyPost_ret (v := .tuple #[.slice A1 (acked ⟨room, last, l, kn, re, gr, lo, ti⟩ rs).length d1, .int .i64 0]) ?_ rfl ⟨A1, _, d1, rfl, rfl, D.out⟩
                simp [results, Tryz.f18, go_sem, eA]
  · have hc2 : check ⟨dl, rs, mk, m0, m1, m2⟩ = 2 := FrmM.check_not (fun e => hv (FrmM.check_ok e))
    have hE : ackE ⟨room, last, l, kn, re, gr, lo, ti⟩ ⟨dl, rs, mk, m0, m1, m2⟩ = 2 := if_neg hv
    obtain ⟨h1, h2⟩ := ack_no (X := ⟨room, last, l, kn, re, gr, lo, ti⟩) (a := ⟨dl, rs, mk, m0, m1, m2⟩) (by rw [hE]; decide)
    rw [hE, h1, h2]
    rw [hc2] at kc
    clear hv hc2 hE h1 h2
    go_enter Tryz.func18, Tryz.ntmps18
    go_wp2_with fail
    generalize V.alloc (.cells #[.int .i64 dl, .slice A n d, .bool mk, .int .i64 m0, .int .i64 m1, .int .i64 m2] 36) = v1 at *
    generalize V.heap.size = K at *
    refine (kc.out _ _ D.out).mono ?_
    rintro e v2 ⟨rfl, hb⟩
    have D := Lib.hid hb
    clear hb
    go_wp2_with fail
    refine bodyPost_ret (v := .tuple #[.slice none 0 0, .int .i64 2]) ?_ rfl ⟨none, 0, 0, rfl, rfl, pk_nil D.out.tail⟩
    simp [results, Tryz.f18, go_sem]
end
end Go.Proofs.YtilkgjpgoogiiaaGreat.Spa
