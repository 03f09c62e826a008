/-
  The developers' space: Ack.
-/
import Derived.Test.YtilkgjpgoogiiaaGreatSpaabJ5a
import Derived.Test.YtilkgjpgoogiiaaGreatSpaabJ32a
import Derived.Deep.RegionHeld3
import Derived.Deep.DeepCutAuto
import Derived.Test.YtilkgjpgoogiiaaGreatWrdabJ17a
import Derived.Sort.CutIn
set_option maxRecDepth 100000
set_option maxHeartbeats 16000000
set_option linter.unusedVariables false
set_option linter.unusedSimpArgs false
namespace Go.Proofs.YtilkgjpgoogiiaaGreat.Spa
open Go.RowKit Wd Bxs Obs Ths SpaM
open Spn (At encb Kp kp_refl kp_t kp_b back_stops backward_any wpListIn_lays)
attribute [local go_sem] Oper.semAt_some
open SntM (Pk putErr putL putTop dropL getP getB fly eli)
open Snt (pkC pkV pkA)
open SpnM (R addErr addTo cutErr cutTo has add)
open FrmM (Ack check)
open RttM (Rt)
open Rtt (rtV rtA)
section
variable {w V : World} {L M : List Ob} {s a b c : Nat} {X : Sp} {room : Nat} {last gr lo ti : Int} {l : List Pk} {kn re : List R}
theorem rng_below {A : Option Addr} {n d : Nat} {rs : List R} (h : Spn.Row V A n d rs) : ∀ k, Spn.own A = some k → k < V.heap.size := fun k e => by
  rcases h.form with ⟨rfl, _⟩ | ⟨g, cur, rfl, hb, _⟩
  · cases e
  · injection e with e; subst e; exact hb.lt
theorem check_sx {A : Option Addr} {n d : Nat} (k : Ack) (h : Sx w L V) (i : Nat) (hi : L[i]? = some (rngO A n d k.ranges)) : Calls Tryz.prog 53 #[.agg #[.int .i64 k.delay, .slice A n d, .bool k.marked, .int .i64 k.m0, .int .i64 k.m1, .int .i64 k.m2]] V (Gets (.int .i64 (check k)) w L) :=
  (Frm.check_any A n d k V (Frm.Rgs.of_row (rng_row h i hi)) (rng_below (rng_row h i hi))).mono fun e W ⟨he, hk⟩ => ⟨he, h.on hk⟩
theorem next_sx (h : Sx w L V) (i : Nat) (hi : L[i]? = some (setO b 256 kn)) (x : Int) : Calls Tryz.prog 94 #[ptr b, .int .i64 x] V (Gets (.int .i64 (SpnM.next kn x)) w L) := set_next h i hi x
theorem between_sx (h : Sx w L V) (i : Nat) (hi : L[i]? = some (logO a room last l)) (x y : Int) : Calls Tryz.prog 99 #[ptr a, .int .i64 x, .int .i64 y] V (fun e W => ∃ u, e = .returned u ∧ Snt.PLay V V.heap.size W u (SntM.betw l x y)) := by
  obtain ⟨F, ⟨g, rfl, hs⟩⟩ := h.get i hi
  exact Snt.between_is hs x y
theorem unsent_sx (r1 r2 : Int) (h : Sx w L V) (i j : Nat) (hi : L[i]? = some (box s 80 #[ptr a, ptr b, ptr c, .int .i64 gr, .int .i64 lo, .int .i64 ti])) (hj : L[j]? = some (setO b 256 kn)) (hr : 0 ≤ r1 ∧ r1 ≤ r2 ∧ r2 ≤ SpnM.M) (hk : SpnM.Rises kn) : Calls Tryz.prog 55 #[ptr s, .agg #[.int .i64 r1, .int .i64 r2]] V (Gets (.bool (!knownB kn (r1, r2))) w L) := by
  have D : Hid (Sx w (box V.heap.size 101 #[.int .i64 r1, .int .i64 r2] :: L) (V.alloc (.cells #[.int .i64 r1, .int .i64 r2] 101))) := Lib.hid (h.new 101 #[.int .i64 r1, .int .i64 r2])
  have hu := unsent_is hk (r := (r1, r2)) hr.1 hr.2.1 hr.2.2
  have kn0 : Hid (∀ U B, Sx w (box B 101 #[.int .i64 r1, .int .i64 r2] :: L) U → Calls Tryz.prog 94 #[ptr b, .int .i64 r1] U (Gets (.int .i64 (SpnM.next kn r1)) w (box B 101 #[.int .i64 r1, .int .i64 r2] :: L))) := Lib.hid (fun U B h => next_sx h (j + 1) hj r1)
  have S0 : Hid (∀ U B, Sx w (box B 101 #[.int .i64 r1, .int .i64 r2] :: L) U → U.cell? ⟨s, 1, none⟩ = some (ptr b) ∧ U.cell? ⟨B, 0, none⟩ = some (.int .i64 r1)) := Lib.hid (fun U B h => ⟨(h.box_ (i + 1) hi).cell 1, (h.box_ 0 rfl).cell 0⟩)
  rw [← hu]
  clear h hi hj hr hk hu
  show Calls _ _ _ _ (Gets (.bool (decide (SpnM.next kn r1 ≠ -1) && decide (SpnM.next kn r1 ≤ r2))) w L)
  generalize SpnM.next kn r1 = N at *
  go_enter Tryz.func55, Tryz.ntmps55
  go_upto_region 1 with (fail)
  generalize V.alloc (.cells #[.int .i64 r1, .int .i64 r2] 101) = v1 at *
  generalize V.heap.size = B at *
  have D : Hid (Sx w (box B 101 #[.int .i64 r1, .int .i64 r2] :: L) v1.drew) := Lib.hid (D.out.on (Kept.refl _).drew)
  go_region_held3 (fun U => U.cell? ⟨s, 1, none⟩ = some (ptr b) ∧ U.cell? ⟨B, 0, none⟩ = some (.int .i64 r1))
    (first | with_reducible exact S0.out _ _ D.out)
    (first | (go_at_call 94; (with_reducible refine (kn0.out _ _ D.out).mono ?_); rintro e w' ⟨rfl, hb⟩; have D := Lib.hid hb; clear hb))
  have B0 := D.out.box_ 0 rfl
  have cb1 := B0.cell 1
  have tb := B0.lt
  clear B0
  by_cases hN : N = -1
  · subst hN
    have e1 : (decide ((-1 : Int) ≠ -1) && decide ((-1 : Int) ≤ r2)) = false := rfl
    rw [e1]
    clear e1
    go_wp2_with fail
    go_ret
    exact ⟨rfl, D.out.tail⟩
  · have hE : (N != -1) = true := by simp [hN]
    rw [decide_eq_true hN, Bool.true_and]
    by_cases hl : N ≤ r2
    · rw [decide_eq_true hl]
      go_wp2_with fail
      go_ret
      exact ⟨by simp [hl, hN], D.out.tail⟩
    · rw [decide_eq_false hl]
      go_wp2_with fail
      go_ret
      exact ⟨by simp [hl, hN], D.out.tail⟩
theorem index_sx {A : Option Addr} {n d : Nat} {rs : List R} (h : Sx w L V) (i j k : Nat) (hi : L[i]? = some (box s 80 #[ptr a, ptr b, ptr c, .int .i64 gr, .int .i64 lo, .int .i64 ti])) (hj : L[j]? = some (setO b 256 kn)) (hk : L[k]? = some (rngO A n d rs)) (hv : ∀ r ∈ rs, 0 ≤ r.1 ∧ r.1 ≤ r.2 ∧ r.2 ≤ SpnM.M) (hR : SpnM.Rises kn) : Calls Tryz.prog 93 #[.slice A n d, .func (.func 55) #[ptr s] #[]] V (fun e W => ∃ z : Int, e = .returned (.int .i64 z) ∧ decide (0 ≤ z) = !(rs.all (knownB kn)) ∧ Sx w L W) := by
  have hlen : rs.length = n := (rng_row h k hk).len
  have hcap := (rng_row h k hk).cap
  have hcp : n ≤ Go.maxLen := Nat.le_trans hcap.1 hcap.2
  unfold maxLen at hcp
  have D : Hid (Sx w L V) := Lib.hid h
  have HR : Hid (∀ U, Sx w L U → Spn.Row U A n d rs) := Lib.hid (fun U h => rng_row h k hk)
  have KU : Hid (∀ U m, m < n → Sx w L U → Calls Tryz.prog 55 #[ptr s, .agg #[.int .i64 (SpnM.at_ rs m).1, .int .i64 (SpnM.at_ rs m).2]] U (Gets (.bool (!knownB kn (SpnM.at_ rs m))) w L)) := Lib.hid (fun U m hm h => unsent_sx _ _ h i j hi hj (hv _ (SpnM.at_mem (by omega))) hR)
  have HL := Lib.hid hlen
  have HA : Hid ((∀ m, m < n → knownB kn (SpnM.at_ rs m) = true) → rs.all (knownB kn) = true) := Lib.hid (fun h => List.all_eq_true.2 fun r hr => by
    obtain ⟨m, hm, rfl⟩ := SpnM.mem_at hr
    exact h m (by rw [← hlen]; exact hm))
  have HN : Hid (∀ m, m < n → knownB kn (SpnM.at_ rs m) = false → rs.all (knownB kn) = false) := Lib.hid (fun m hm h => all_no (by rw [hlen]; exact hm) h)
  clear h hi hj hk hv hR hcap hlen
  generalize rs.all (knownB kn) = ALL at *
  go_enter Tryz.func93, Tryz.ntmps93
  go_wp2_with fail
  go_loopw [8] (fun s8 wr => ∃ m : Nat, m ≤ n ∧ s8 = .int .i64 m ∧ Hid (∀ q, q < m → knownB kn (SpnM.at_ rs q) = true) ∧ Hid (Sx w L wr)) (fun s8 _ => n - (intOf s8).toNat)
  case atStart => exact ⟨0, Nat.zero_le _, rfl, Lib.hid (fun q hq => absurd hq (Nat.not_lt_zero _)), D⟩
  case round =>
    obtain ⟨m, hm, rfl, hall, HD⟩ := hrel
    clear D
    have D := HD
    clear HD
    by_cases hlt : m < n
    · have hi0 : (0 : Int) ≤ (m : Int) := by omega
      have hi1 : (m : Int) < (n : Int) := by omega
      have hwi : IntKind.i64.wrap ((m : Int) + 1) = (m : Int) + 1 := IntWalk.i64_in _ (by omega)
      obtain ⟨g, rfl, hgl⟩ := (HR.out _ D.out).some_ (by omega)
      have ku := Lib.hid (fun U => KU.out U m hlt)
      have r0 := (HR.out _ D.out).lo hlt
      have r1 := (HR.out _ D.out).hi hlt
      have hst : Hid (knownB kn (SpnM.at_ rs m) = true → ∀ q, q < m + 1 → knownB kn (SpnM.at_ rs q) = true) := Lib.hid (fun h q hq => by
        rcases Nat.lt_succ_iff_lt_or_eq.1 hq with h1 | rfl
        · exact hall.out q h1
        · exact h)
      have HN' := Lib.hid (HN.out m hlt)
      cases hb : knownB kn (SpnM.at_ rs m) with
      | false =>
        rw [hb] at ku
        obtain rfl := HN'.out hb
        generalize (SpnM.at_ rs m).1 = x1 at *
        generalize (SpnM.at_ rs m).2 = x2 at *
        clear HN HN' hst HA KU hb
        go_wp2_with fail
        refine (ku.out _ D.out).mono ?_
        rintro e v3 ⟨rfl, hb⟩
        have D := Lib.hid hb
        clear hb
        go_wp2_with fail
        go_ret
        exact ⟨(m : Int), rfl, by simp, D.out⟩
      | true =>
        rw [hb] at ku
        have hall' := Lib.hid (hst.out hb)
        generalize (SpnM.at_ rs m).1 = x1 at *
        generalize (SpnM.at_ rs m).2 = x2 at *
        clear HN' hst hb
        go_wp2_with fail
        refine (ku.out _ D.out).mono ?_
        rintro e v3 ⟨rfl, hb⟩
        have D := Lib.hid hb
        clear hb
        go_wp2_with fail
        go_roundw
        case rel => exact ⟨m + 1, by omega, by go_num, hall', D⟩
        case measure => simp [intOf]; omega
    · have hi1 : ¬ (m : Int) < (n : Int) := by omega
      obtain rfl : n = m := by omega
      obtain rfl := HA.out hall.out
      go_wp2_with fail
      go_ret
      exact ⟨-1, rfl, by first | rfl | decide | simp, D.out⟩
theorem contains_sx {A : Option Addr} {n d : Nat} {rs : List R} (h : Sx w L V) (i j k : Nat) (hi : L[i]? = some (box s 80 #[ptr a, ptr b, ptr c, .int .i64 gr, .int .i64 lo, .int .i64 ti])) (hj : L[j]? = some (setO b 256 kn)) (hk : L[k]? = some (rngO A n d rs)) (hv : ∀ r ∈ rs, 0 ≤ r.1 ∧ r.1 ≤ r.2 ∧ r.2 ≤ SpnM.M) (hR : SpnM.Rises kn) : Calls Tryz.prog 54 #[.slice A n d, .func (.func 55) #[ptr s] #[]] V (Gets (.bool (!(rs.all (knownB kn)))) w L) := by
  have k := Lib.hid (index_sx h i j k hi hj hk hv hR)
  clear h hi hj hk hv hR
  generalize rs.all (knownB kn) = ALL at *
  go_enter Tryz.func54, Tryz.ntmps54
  go_wp2_with fail
  refine k.out.mono ?_
  rintro e v1 ⟨z, rfl, hz, hb⟩
  have HZ := Lib.hid hz
  clear hz k
  go_wp2_with fail
  go_ret
  exact ⟨by first | rfl | exact HZ.out | (rw [HZ.out]; rfl), hb⟩
theorem forget_sx (h : Sx w (box s 80 #[ptr a, ptr b, ptr c, .int .i64 gr, .int .i64 lo, .int .i64 ti] :: logO a room last l :: setO c 256 re :: M) V) : Calls Tryz.prog 56 #[ptr s] V (fun e W => e = .returned (.tuple #[]) ∧ ∃ c2, Sx w (box s 80 #[ptr a, ptr b, ptr c2, .int .i64 gr, .int .i64 lo, .int .i64 ti] :: logO a room last l :: setO c2 256 (forget ⟨room, last, l, kn, re, gr, lo, ti⟩) :: M) W) := by
  have D : Hid (Sx w (box s 80 #[ptr a, ptr b, ptr c, .int .i64 gr, .int .i64 lo, .int .i64 ti] :: logO a room last l :: setO c 256 re :: M) V) := Lib.hid h
  clear h
  obtain ⟨F, hF⟩ : ∃ F, forget ⟨room, last, l, kn, re, gr, lo, ti⟩ = F := ⟨_, rfl⟩
  rw [hF]
  have HF := Lib.hid hF
  clear hF
  have Bs := D.out.box_ 0 rfl
  have cs0 := Bs.cell 0
  have fs0 := Bs.frozen 0
  have cs1 := Bs.cell 1
  have fs1 := Bs.frozen 1
  have cs2 := Bs.cell 2
  have fs2 := Bs.frozen 2
  have cs3 := Bs.cell 3
  have fs3 := Bs.frozen 3
  have cs4 := Bs.cell 4
  have fs4 := Bs.frozen 4
  have cs5 := Bs.cell 5
  have fs5 := Bs.frozen 5
  have ts := Bs.lt
  clear Bs
  go_enter Tryz.func56, Tryz.ntmps56
  go_wp2_with fail
  clear cs0 fs0 cs1 fs1 cs2 fs2 cs3 fs3 cs4 fs4 cs5 fs5 ts
  obtain ⟨b0, hb0⟩ : ∃ b0, decide (0 < l.length) = b0 := ⟨_, rfl⟩
  have kold := log_oldest D.out 1 rfl
  rw [hb0] at kold
  have HB0 := Lib.hid hb0
  clear hb0
  refine kold.mono ?_
  rintro e v3 ⟨rfl, hb⟩
  have D := Lib.hid hb
  clear hb
  go_upto_if 12 with fail
  have D : Hid (Sx w (box v3.heap.size 32 (pkA (Cd.at_ l 0)) :: box s 80 #[ptr a, ptr b, ptr c, .int .i64 gr, .int .i64 lo, .int .i64 ti] :: logO a room last l :: setO c 256 re :: M) (v3.alloc (.cells (pkA (Cd.at_ l 0)) 32))) := Lib.hid (D.out.new 32 (pkA (Cd.at_ l 0)))
  generalize v3.alloc (.cells (pkA (Cd.at_ l 0)) 32) = v4 at *
  generalize v3.heap.size = O at *
  have D : Hid (Sx w (box O 32 (pkA (Cd.at_ l 0)) :: box s 80 #[ptr a, ptr b, ptr c, .int .i64 gr, .int .i64 lo, .int .i64 ti] :: logO a room last l :: setO c 256 re :: M) v4) := D
  cases hl : l with
  | nil =>
    subst hl
    obtain rfl : false = b0 := HB0.out
    have hF : ([] : List R) = F := HF.out
    subst hF
    clear HF HB0
    go_wp2_with fail
    refine (nonum_sx D.out).mono ?_
    rintro e v5 ⟨c2, rfl, hb⟩
    have D : Hid (Sx w (setO c2 256 [] :: box O 32 (pkA (Cd.at_ ([] : List Pk) 0)) :: box s 80 #[ptr a, ptr b, ptr c, .int .i64 gr, .int .i64 lo, .int .i64 ti] :: logO a room last [] :: setO c 256 re :: M) v5) := Lib.hid hb
    clear hb
    have Bs := D.out.box_ 2 rfl
    have cs0 := Bs.cell 0
    have fs0 := Bs.frozen 0
    have cs1 := Bs.cell 1
    have fs1 := Bs.frozen 1
    have cs2 := Bs.cell 2
    have fs2 := Bs.frozen 2
    have cs3 := Bs.cell 3
    have fs3 := Bs.frozen 3
    have cs4 := Bs.cell 4
    have fs4 := Bs.frozen 4
    have cs5 := Bs.cell 5
    have fs5 := Bs.frozen 5
    have ts := Bs.lt
    clear Bs
    go_wp2_with fail
    have D : Hid (Sx w (setO c2 256 [] :: box O 32 (pkA (Cd.at_ ([] : List Pk) 0)) :: box s 80 #[ptr a, ptr b, ptr c2, .int .i64 gr, .int .i64 lo, .int .i64 ti] :: logO a room last [] :: setO c 256 re :: M) _) := Lib.hid (D.out.cell_ 2 rfl 2 (ptr c2))
    go_end0
    exact ⟨rfl, c2, D.out.sel 5 [2, 3, 0] [1, 4] (by decide)⟩
  | cons p l' =>
    subst hl
    obtain rfl : true = b0 := HB0.out
    have hF : cutTo re p.n = F := HF.out
    have kcut : Hid (∀ U, Sx w (box O 32 (pkA p) :: box s 80 #[ptr a, ptr b, ptr c, .int .i64 gr, .int .i64 lo, .int .i64 ti] :: logO a room last (p :: l') :: setO c 256 re :: M) U → Calls Tryz.prog 96 #[ptr c, .int .i64 p.n] U (Gets (.int .i64 (cutErr p.n)) w (box O 32 (pkA p) :: box s 80 #[ptr a, ptr b, ptr c, .int .i64 gr, .int .i64 lo, .int .i64 ti] :: logO a room last (p :: l') :: setO c 256 F :: M))) := Lib.hid (fun U h => by
      have := set_cut h 3 rfl p.n
      rwa [hF] at this)
    have S0 : Hid (∀ U Y, Sx w (box O 32 (pkA p) :: box s 80 #[ptr a, ptr b, ptr c, .int .i64 gr, .int .i64 lo, .int .i64 ti] :: logO a room last (p :: l') :: setO c 256 Y :: M) U → U.cell? ⟨s, 2, none⟩ = some (ptr c) ∧ U.cell? ⟨O, 0, none⟩ = some (.int .i64 p.n)) := Lib.hid (fun U Y h => ⟨(h.box_ 1 rfl).cell 2, (h.box_ 0 rfl).cell 0⟩)
    generalize cutErr p.n = CE at *
    clear HF hF HB0
    go_upto_region 2 with (fail)
    have D : Hid (Sx w (box O 32 (pkA p) :: box s 80 #[ptr a, ptr b, ptr c, .int .i64 gr, .int .i64 lo, .int .i64 ti] :: logO a room last (p :: l') :: setO c 256 re :: M) v4.drew) := Lib.hid (D.out.on (Kept.refl _).drew)
    go_region_held3 (fun U => U.cell? ⟨s, 2, none⟩ = some (ptr c) ∧ U.cell? ⟨O, 0, none⟩ = some (.int .i64 p.n))
      (first | with_reducible exact S0.out _ _ D.out)
      (first | (go_at_call 96; (with_reducible refine (kcut.out _ D.out).mono ?_); rintro e w' ⟨rfl, hb⟩; have D := Lib.hid hb; clear hb))
    go_end0
    exact ⟨rfl, c, D.out.tail⟩
theorem remember_sx {A : Option Addr} {n d : Nat} {rs : List R} (hn : n ≤ 100000) (h : Sx w (box s 80 #[ptr a, ptr b, ptr c, .int .i64 gr, .int .i64 lo, .int .i64 ti] :: setO c 256 re :: rngO A n d rs :: M) V) : Calls Tryz.prog 57 #[ptr s, .slice A n d] V (Gets (.tuple #[]) w (box s 80 #[ptr a, ptr b, ptr c, .int .i64 gr, .int .i64 lo, .int .i64 ti] :: setO c 256 (SpaM.remember re rs) :: rngO A n d rs :: M)) := by
  have hlen : rs.length = n := (rng_row h 2 rfl).len
  have HL := Lib.hid hlen
  have D : Hid (Sx w (box s 80 #[ptr a, ptr b, ptr c, .int .i64 gr, .int .i64 lo, .int .i64 ti] :: setO c 256 re :: rngO A n d rs :: M) V) := Lib.hid h
  clear h hlen
  go_enter Tryz.func57, Tryz.ntmps57
  go_wp2_with fail
  go_loopw [8] (fun s8 wr => ∃ i : Nat, i ≤ n ∧ s8 = .int .i64 i ∧ Hid (Sx w (box s 80 #[ptr a, ptr b, ptr c, .int .i64 gr, .int .i64 lo, .int .i64 ti] :: setO c 256 (SpaM.remember re (rs.take i)) :: rngO A n d rs :: M) wr)) (fun s8 _ => n - (intOf s8).toNat)
  case atStart => exact ⟨0, Nat.zero_le _, rfl, D⟩
  case round =>
    obtain ⟨i, hi, rfl, HD⟩ := hrel
    clear D
    have D := HD
    clear HD
    by_cases hlt : i < n
    · have hi0 : (0 : Int) ≤ (i : Int) := by omega
      have hi1 : (i : Int) < (n : Int) := by omega
      have hwi : IntKind.i64.wrap ((i : Int) + 1) = (i : Int) + 1 := IntWalk.i64_in _ (by omega)
      obtain ⟨g, rfl, hgl⟩ := (rng_row D.out 2 rfl).some_ (by omega)
      have ka : Hid (∀ U B x1 x2, x1 = (SpnM.at_ rs i).1 → x2 = (SpnM.at_ rs i).2 → Sx w (box B 101 #[.int .i64 x1, .int .i64 x2] :: box s 80 #[ptr a, ptr b, ptr c, .int .i64 gr, .int .i64 lo, .int .i64 ti] :: setO c 256 (SpaM.remember re (rs.take i)) :: rngO (some ⟨g, 0, none⟩) n d rs :: M) U → Calls Tryz.prog 97 #[ptr c, .int .i64 x1, .int .i64 x2] U (Gets (.int .i64 (addErr 256 (SpaM.remember re (rs.take i)) x1 x2)) w (box B 101 #[.int .i64 x1, .int .i64 x2] :: box s 80 #[ptr a, ptr b, ptr c, .int .i64 gr, .int .i64 lo, .int .i64 ti] :: setO c 256 (SpaM.remember re (rs.take (i + 1))) :: rngO (some ⟨g, 0, none⟩) n d rs :: M))) := Lib.hid (fun U B x1 x2 e1 e2 h => by
        subst e1
        subst e2
        have := set_add256 h 2 rfl (SpnM.at_ rs i).1 (SpnM.at_ rs i).2
        rw [← rem_step (by rw [HL.out]; exact hlt)] at this
        exact this)
      have S0 : Hid (∀ U B Y x1 x2, Sx w (box B 101 #[.int .i64 x1, .int .i64 x2] :: box s 80 #[ptr a, ptr b, ptr c, .int .i64 gr, .int .i64 lo, .int .i64 ti] :: setO c 256 Y :: rngO (some ⟨g, 0, none⟩) n d rs :: M) U → U.cell? ⟨s, 2, none⟩ = some (ptr c) ∧ U.cell? ⟨B, 0, none⟩ = some (.int .i64 x1) ∧ U.cell? ⟨B, 1, none⟩ = some (.int .i64 x2)) := Lib.hid (fun U B Y x1 x2 h => ⟨(h.box_ 1 rfl).cell 2, (h.box_ 0 rfl).cell 0, (h.box_ 0 rfl).cell 1⟩)
      have y0 := (rng_row D.out 2 rfl).lo hlt
      have y1 := (rng_row D.out 2 rfl).hi hlt
      generalize hx1 : (SpnM.at_ rs i).1 = x1 at *
      generalize hx2 : (SpnM.at_ rs i).2 = x2 at *
      have ka := Lib.hid (fun U B => ka.out U B x1 x2 rfl rfl)
      generalize addErr 256 (SpaM.remember re (rs.take i)) x1 x2 = E at *
      clear hx1 hx2
      go_upto_region 3 with (fail)
      have D : Hid (Sx w (box wr.heap.size 101 #[.int .i64 x1, .int .i64 x2] :: box s 80 #[ptr a, ptr b, ptr c, .int .i64 gr, .int .i64 lo, .int .i64 ti] :: setO c 256 (SpaM.remember re (rs.take i)) :: rngO (some ⟨g, 0, none⟩) n d rs :: M) (wr.alloc (.cells #[.int .i64 x1, .int .i64 x2] 101))) := Lib.hid (D.out.new 101 #[.int .i64 x1, .int .i64 x2])
      generalize wr.alloc (.cells #[.int .i64 x1, .int .i64 x2] 101) = v1 at *
      generalize wr.heap.size = B at *
      clear y0 y1
      have D : Hid (Sx w (box B 101 #[.int .i64 x1, .int .i64 x2] :: box s 80 #[ptr a, ptr b, ptr c, .int .i64 gr, .int .i64 lo, .int .i64 ti] :: setO c 256 (SpaM.remember re (rs.take i)) :: rngO (some ⟨g, 0, none⟩) n d rs :: M) v1.drew) := Lib.hid (D.out.on (Kept.refl _).drew)
      go_region_held3 (fun U => U.cell? ⟨s, 2, none⟩ = some (ptr c) ∧ U.cell? ⟨B, 0, none⟩ = some (.int .i64 x1) ∧ U.cell? ⟨B, 1, none⟩ = some (.int .i64 x2))
        (first | with_reducible exact S0.out _ _ _ _ _ D.out)
        (first | (go_at_call 97; (with_reducible refine (ka.out _ _ D.out).mono ?_); rintro e w' ⟨rfl, hb⟩; have D := Lib.hid hb; clear hb))
      have D := Lib.hid D.out.tail
      go_wp2_with fail
      go_roundw
      case rel => exact ⟨i + 1, by omega, by go_num, D⟩
      case measure => simp [intOf]; omega
    · have hi1 : ¬ (i : Int) < (n : Int) := by omega
      obtain rfl : n = i := by omega
      have D : Hid (Sx w (box s 80 #[ptr a, ptr b, ptr c, .int .i64 gr, .int .i64 lo, .int .i64 ti] :: setO c 256 (SpaM.remember re rs) :: rngO A n d rs :: M) wr) := by
        have h := D.out
        rw [List.take_of_length_le (by rw [HL.out]; exact Nat.le_refl _)] at h
        exact Lib.hid h
      go_wp2_with fail
      refine bodyPost_ret (v := .tuple #[]) ?_ rfl ⟨rfl, D.out⟩
      simp [results, Tryz.f57, go_sem]
end
end Go.Proofs.YtilkgjpgoogiiaaGreat.Spa
namespace Go.Proofs.YtilkgjpgoogiiaaGreat.Spa
open Go.RowKit Wd Bxs Obs Ths SpaM
open Spn (At encb Kp kp_refl kp_t kp_b back_stops backward_any Two two_own)
attribute [local go_sem] Oper.semAt_some
open SntM (Pk putErr putL putTop dropL getP getB fly eli)
open Snt (pkC pkV pkA)
open SpnM (R addErr addTo cutErr cutTo has add)
open FrmM (Ack check)
open RttM (Rt)
open Rtt (rtV rtA)
open Cd (Rw Lay Elt flat)
section
variable {w V : World} {L M : List Ob}
theorem rng_below' {A : Option Addr} {n d : Nat} {rs : List R} (h : Spn.Row V A n d rs) : ∀ k, Spn.own A = some k → k < V.heap.size := fun k e => by
  rcases h.form with ⟨rfl, _⟩ | ⟨g, cur, rfl, hb, _⟩
  · cases e
  · injection e with e; subst e; exact hb.lt
def RowN (n₀ : Nat) (W : World) (v : Value) (l : List Pk) : Prop := ∃ A c, v = .slice A l.length c ∧ Rw pkC 32 W A l.length c l ∧ ∀ i, Cd.own A = some i → n₀ ≤ i
theorem RowN.kept {n₀ : Nat} {W W' : World} {v : Value} {l : List Pk} (h : RowN n₀ W v l) (k : Kept W W') : RowN n₀ W' v l := by
  obtain ⟨A, c, e, r, f⟩ := h
  exact ⟨A, c, e, r.kept k, f⟩
theorem rowN_own (n₀ B b : Nat) (l : List Pk) (x : Value) : Go.Own (fun (pre : List At) W => (∃ v, Boxed W B 42 v ∧ RowN n₀ W v (bk l (pre.map (·.2)))) ∧ Boxed W b 98 x) := by
  rintro s X Y row ⟨⟨v, hv, A, c, e, hr, hf⟩, hb⟩ hg hrow
  have key : ∀ i t cs, Blk X i t cs → Y.heap[i]? = X.heap[i]? := fun i t cs h => hg.block i h.lt (fun e' => by
    obtain ⟨o, ho, hc⟩ := hrow i e'.symm
    rw [show X.heap[i]? = _ from h] at ho; cases ho; cases hc)
  refine ⟨⟨v, (key _ _ _ hv).trans hv, A, c, e, hr.same_ (fun k hk => ?_), hf⟩, (key _ _ _ hb).trans hb⟩
  rcases hr.form with ⟨rfl, _⟩ | ⟨g, cur, rfl, hb, _⟩
  · cases hk
  · injection hk with hk; subst hk; exact key _ _ _ hb
theorem stepIn_lays {α : Type} {C : Cd.Cod α} {t : TypeId} {F : Fence} {n : Nat} {P : Program} {S : TypeId} (E : Cd.Elt P C S t) {w W : World} {o : Oper} {a : Act} {K : Act → World → Prop} {Q : Exit → Act → World → Prop} (s x : Operand)
    (ho : o.op = .call { callee := .builtin .append, args := #[s, x], argTypes := #[S, S] }) {b : Nat} {v : Value} {L N : List α} (hs : a.eval s = v) (hlay : Cd.Lay C t w b W v L) (hw : w.heap.size ≤ b) (hb : b ≤ W.heap.size) (hlen : L.length + N.length ≤ 1000000)
    {B : Option Addr} {m d : Nat} (hN : Cd.Rw C t W B m d N) (hx : a.eval x = .slice B m d)
    (h : ∀ v' w', Hid (Cd.Lay C t w b w' v' (L ++ N)) → Hid (W.grownBy w' v.ownBlock) → K (a.put o.dst v') w') : Oper.wpIn F n P o a W K Q := by
  obtain ⟨A, c, rfl, hrow, hf, hk⟩ := hlay
  obtain ⟨v', w', hr, h1, h2⟩ := Cd.run_lay E o.type hrow hf hk hw hb hlen hN
  unfold Oper.wpIn
  refine ⟨?_, ?_⟩
  · simp [Oper.about, ho, resolve, Target.leads, Sem.run_pure]
  · rw [Oper.semAt_plain F _ _ (by rw [ho]; intro c hc'; cases hc')]
    simp [execOp, ho, resolve, invoke, builtin, hs, hx, hr, Result.andThen]
    exact h v' w' (Lib.hid h1) (Lib.hid (by show World.grownBy _ _ _; rw [Cd.own_block]; exact h2))
theorem grown_far {W W' : World} {A : Option Addr} {n c m : Nat} {l : List Pk} (hg : W.grownBy W' (Value.slice A m c).ownBlock) (hr : Rw pkC 32 W A n c l) {i : Nat} {t : TypeId} {cs : Array Value} (hb : Blk W i t cs) (ht : t ≠ 32) : Blk W' i t cs := by
  refine (hg.block i hb.lt (fun e => ?_)).trans hb
  rw [Cd.own_block] at e
  rcases hr.form with ⟨rfl, _⟩ | ⟨g, cur, rfl, hb2, _⟩
  · cases e
  · injection e with e; subst e; exact Blk.ne_ hb hb2 ht rfl
theorem lay_kept' {w W : World} {b : Nat} {v : Value} {L : List Pk} (h : Lay pkC 32 w b W v L) : Kept w W := by
  obtain ⟨A, c, _, _, _, k⟩ := h
  exact k
theorem others_of {F : Nat → Prop} {W W' : World} (h : But F W W') (hF : ∀ i, F i → ∃ t cs, Blk W i t cs) : KeepsOthers W W' :=
  ⟨h.size, fun i o hi ho => (h.block i (Array.getElem?_eq_some_iff.1 hi).1 (fun f => by
    obtain ⟨t, cs, hb⟩ := hF i f
    rw [show W.heap[i]? = _ from hb] at hi; cases hi; cases ho)).trans hi⟩
theorem within_in (n : Nat) (hn : 3 ≤ n) {s a g b c room : Nat} {gr lo ti last : Int} {l : List Pk} {A : Option Addr} {m d : Nat} {rs : List R} (w : World) (hB : Blk w s 80 #[ptr a, ptr b, ptr c, .int .i64 gr, .int .i64 lo, .int .i64 ti]) (hL : Snt.LogIs w a g room last l) (hr : Spn.Row w A m d rs) (hm : m ≤ 256) (hll : l.length ≤ 256) :
    CallsIn Fence.wide n Tryz.prog 59 #[ptr s, .slice A m d] w fun e W' => ∃ v, e = .returned v ∧ Snt.PLay w w.heap.size W' v (bk l rs.reverse) := by
  have h1 : 1 ≤ n := by omega
  have hlen := hr.len
  have HB := Lib.hid hB
  have HL := Lib.hid hL
  have HR := Lib.hid hr
  have HF := Lib.hid (rng_below' hr)
  have hsl := hB.lt
  clear hB hL hr
  have hfn : Fence.wide.fn 98 := trivial
  have hback := backward_any A m d ((w.alloc (.cells #[ptr s] 98)).alloc (.cells #[.slice none 0 0] 42))
  refine callsIn_of_wp_marks Tryz.func59 rfl trivial ?_ rfl
  simp only [Tryz.ntmps59, List.size_toArray, List.length_cons, List.length_nil, Nat.reduceAdd, Nat.reduceSub, Array.replicate_succ, Array.replicate_zero, List.push_toArray, List.append_toArray, List.nil_append, List.cons_append]
  gi_wp2_with (gi_at_call 98; refine (callsIn_wide.2 hback).mono ?_; rintro e w' ⟨rfl, rfl⟩)
  have k0 : Kept w (((w.alloc (.cells #[ptr s] 98)).alloc (.cells #[.slice none 0 0] 42)).alloc (.cells #[.slice A m d] 33)) := (((Kept.refl w).alloc _).alloc _).alloc _
  have bT := ((Boxed.new w 98 (ptr s)).alloc (.cells #[.slice none 0 0] 42)).alloc (.cells #[.slice A m d] 33)
  have bF := (Boxed.new (w.alloc (.cells #[ptr s] 98)) 42 (.slice none 0 0)).alloc (.cells #[.slice A m d] 33)
  rw [World.size_alloc] at bF
  have bI := Boxed.new ((w.alloc (.cells #[ptr s] 98)).alloc (.cells #[.slice none 0 0] 42)) 33 (.slice A m d)
  rw [World.size_alloc, World.size_alloc] at bI
  have cI := cell_box ((w.alloc (.cells #[ptr s] 98)).alloc (.cells #[.slice none 0 0] 42)) (.slice A m d) 33
  have hsz : (((w.alloc (.cells #[ptr s] 98)).alloc (.cells #[.slice none 0 0] 42)).alloc (.cells #[.slice A m d] 33)).heap.size = w.heap.size + 3 := by simp
  rw [World.size_alloc, World.size_alloc] at cI
  obtain ⟨W0, hW0⟩ : ∃ W0, ((w.alloc (.cells #[ptr s] 98)).alloc (.cells #[.slice none 0 0] 42)).alloc (.cells #[.slice A m d] 33) = W0 := ⟨_, rfl⟩
  rw [hW0] at k0 bT bF bI cI hsz ⊢
  clear hW0 hback
  have HSeq := Lib.hid (back_stops (n - 1) (by omega) (w.heap.size + 2) w.heap.size m d A rs W0 (by omega) cI (HR.out.kept k0) HF.out (by omega))
  have hB0 : Below w.heap.size w W0 := k0
  clear k0 cI
  refine wpIn_rangeFunc_ownH rfl h1 (gf := 134) (lb := #[ptr (w.heap.size + 2)]) rfl trivial (enters_of Tryz.func134 (by kernel_rfl) rfl)
    HSeq.out kp_t (kp_b (by omega) (by omega)) (Below.refl _ _) (fun _ => rfl)
    (fun pre W => ((∃ v, Boxed W (w.heap.size + 1) 42 v ∧ RowN w.heap.size W v (bk l (pre.map (·.2)))) ∧ Boxed W w.heap.size 98 (ptr s)) ∧ (Boxed W (w.heap.size + 2) 33 (.slice A m d) ∧ (Below w.heap.size w W ∧ w.heap.size + 3 ≤ W.heap.size)))
    (fun _ _ _ => False)
    (OwnFrom.and (Own.from (rowN_own w.heap.size (w.heap.size + 1) w.heap.size l (ptr s)) _) (OwnFrom.and (Own.from (boxed_own (w.heap.size + 2) 33 (fun _ => .slice A m d)) _) (OwnFrom.and (ownFrom_below (Nat.le_refl _) (by omega)) (fun _ X Y row hs hg hr => Nat.le_trans hs hg.size))))
    (fun _ _ _ _ _ hs _ _ => hs)
    ⟨⟨⟨_, bF, none, 0, rfl, Rw.nil _, fun i e => by cases e⟩, bT⟩, bI, hB0, by omega⟩
    (fun x a' W => ∃ Bx, w.heap.size + 2 < Bx ∧ Two W Bx x.2 ∧ a' = { tmps := #[ptr s, .slice A m d, ptr w.heap.size, undef, .slice none 0 0, ptr (w.heap.size + 1), undef, ptr Bx, .slice A m d, .func (.func 134) #[] #[ptr (w.heap.size + 2)], .int .i64 x.1, .agg #[.int .i64 x.2.1, .int .i64 x.2.2], undef, undef, undef, undef, undef, undef, undef, undef, undef, undef, undef, undef], defers := [] })
    (fun x a' _ X Y row hs hg hr => by obtain ⟨Bx, g1, g2, g3⟩ := hs; exact ⟨Bx, g1, two_own Bx x.2 () X Y row g2 hg (fun r e => (hr r e).2), g3⟩)
    ?assign ?body ?done ?stop
  case assign =>
    rintro ly pre x W K ⟨⟨⟨v, hv, hrow⟩, hT⟩, hI, hB1, hs1⟩ hK
    simp only [encb]
    gi_wp2
    exact hK _ _ ((KeepsOthers.alloc _ _).from _) ⟨(Below.refl _ W).alloc hB1.size _, Below.heap_alloc _ _ _ (by omega)⟩ ⟨⟨⟨v, hv.alloc _, hrow.kept ((Kept.refl _).alloc _)⟩, hT.alloc _⟩, hI.alloc _, hB1.alloc hB1.size _, by simp; omega⟩ ⟨W.heap.size, by omega, Blk.new W _ _, rfl⟩
  case body =>
    rintro ly pre x a' W hl ⟨r, hr⟩ ⟨⟨⟨v, hv, A', c', rfl, hrw, hfr⟩, hT⟩, hI, hB1, hs1⟩ ⟨Bx, hBx, bX, rfl⟩ hlt
    have hkW : Kept w W := hB1
    have hcl : W.cell? ⟨s, 0, none⟩ = some (ptr a) := (HB.out.kept hkW).cell 0
    have cf := hv.cell
    have ff := hv.frozen
    have ct := hT.cell
    have x0 : W.cell? ⟨Bx, 0, none⟩ = some (.int .i64 x.2.1) := bX.cell 0
    have x1 : W.cell? ⟨Bx, 1, none⟩ = some (.int .i64 x.2.2) := bX.cell 1
    have hbt := Lib.hid (fun U (k : Kept W U) => Snt.between_is (HL.out.kept (hkW.trans k)) x.2.1 x.2.2)
    have hbl : (bk l (pre.map (·.2))).length ≤ 65536 := by
      have e1 := bk_len l (pre.map (·.2))
      rw [List.length_map] at e1
      have e2 : pre.length * l.length ≤ 256 * 256 := Nat.mul_le_mul (by omega) hll
      omega
    have hbw : (SntM.betw l x.2.1 x.2.2).length ≤ 256 := Nat.le_trans (List.length_filter_le _ _) hll
    have HBk := Lib.hid (show bk l ((pre ++ [x]).map (·.2)) = bk l (pre.map (·.2)) ++ SntM.betw l x.2.1 x.2.2 by rw [List.map_append]; exact bk_snoc _ _ _)
    have HV := Lib.hid hv
    have HT := Lib.hid hT
    have HRw := Lib.hid hrw
    have HFr := Lib.hid hfr
    have HK := Lib.hid hkW
    have HX : Hid (Blk W Bx 101 #[.int .i64 x.2.1, .int .i64 x.2.2]) := Lib.hid bX
    have HI := Lib.hid hI
    clear hI hv hT hrw hfr hB1 hkW bX
    generalize bk l (pre.map (·.2)) = cur at *
    generalize hN : cur.length = N at *
    generalize SntM.betw l x.2.1 x.2.2 = more at *
    generalize x.2.1 = r1 at *
    generalize x.2.2 = r2 at *
    gi_upto_region 4 with (fail)
    refine Hd.wpIn_region_T (fun j => j == 11) (fun U => U.cell? ⟨w.heap.size + 1, 0, none⟩ = some (.slice A' N c') ∧ U.cell? ⟨w.heap.size, 0, none⟩ = some (ptr s) ∧ U.cell? ⟨s, 0, none⟩ = some (ptr a) ∧ U.cell? ⟨Bx, 0, none⟩ = some (.int .i64 r1) ∧ U.cell? ⟨Bx, 1, none⟩ = some (.int .i64 r2)) (by kernel_rfl) ?_
    have hSw : (fun U => U.cell? ⟨w.heap.size + 1, 0, none⟩ = some (.slice A' N c') ∧ U.cell? ⟨w.heap.size, 0, none⟩ = some (ptr s) ∧ U.cell? ⟨s, 0, none⟩ = some (ptr a) ∧ U.cell? ⟨Bx, 0, none⟩ = some (.int .i64 r1) ∧ U.cell? ⟨Bx, 1, none⟩ = some (.int .i64 r2)) W.drew := ⟨(Kept.refl W).drew.cell cf, (Kept.refl W).drew.cell ct, (Kept.refl W).drew.cell hcl, (Kept.refl W).drew.cell x0, (Kept.refl W).drew.cell x1⟩
    try simp only [List.getElem_toArray, List.getElem_cons_zero, List.getElem_cons_succ, Act.put, List.setIfInBounds_toArray, List.set_cons_zero, List.set_cons_succ]
    refine Hd.wpAnyInT_take (i := 0) (oi := _) (v := ?v1) rfl (by kernel_rfl) (by kernel_rfl) (by kernel_rfl) (by kernel_rfl) (by kernel_rfl) (fun _ _ _ h => h) (Or.inl ⟨by rfl, ?hy1⟩) (fun _ => rfl) (by assumption) ?rest1
    case hy1 => (intro w hSw; (try dsimp only at hSw); (try simp only [List.getElem_toArray, List.getElem_cons_zero, List.getElem_cons_succ]); go_simp; all_goals (with_reducible rfl))
    try simp only [List.getElem_toArray, List.getElem_cons_zero, List.getElem_cons_succ, Act.put, List.setIfInBounds_toArray, List.set_cons_zero, List.set_cons_succ]
    refine Hd.wpAnyInT_take (i := 1) (oi := _) (v := ?v2) rfl (by kernel_rfl) (by kernel_rfl) (by kernel_rfl) (by kernel_rfl) (by kernel_rfl) (fun _ _ _ h => h) (Or.inl ⟨by rfl, ?hy2⟩) (fun _ => rfl) (by assumption) ?rest2
    case hy2 => (intro w hSw; (try dsimp only at hSw); (try simp only [List.getElem_toArray, List.getElem_cons_zero, List.getElem_cons_succ]); go_simp; all_goals (with_reducible rfl))
    try simp only [List.getElem_toArray, List.getElem_cons_zero, List.getElem_cons_succ, Act.put, List.setIfInBounds_toArray, List.set_cons_zero, List.set_cons_succ]
    refine Hd.wpAnyInT_take (i := 2) (oi := _) (v := ?v3) rfl (by kernel_rfl) (by kernel_rfl) (by kernel_rfl) (by kernel_rfl) (by kernel_rfl) (fun _ _ _ h => h) (Or.inl ⟨by rfl, ?hy3⟩) (fun _ => rfl) (by assumption) ?rest3
    case hy3 => (intro w hSw; (try dsimp only at hSw); (try simp only [List.getElem_toArray, List.getElem_cons_zero, List.getElem_cons_succ]); go_simp; all_goals (with_reducible rfl))
    try simp only [List.getElem_toArray, List.getElem_cons_zero, List.getElem_cons_succ, Act.put, List.setIfInBounds_toArray, List.set_cons_zero, List.set_cons_succ]
    refine Hd.wpAnyInT_take (i := 3) (oi := _) (v := ?v4) rfl (by kernel_rfl) (by kernel_rfl) (by kernel_rfl) (by kernel_rfl) (by kernel_rfl) (fun _ _ _ h => h) (Or.inl ⟨by rfl, ?hy4⟩) (fun _ => rfl) (by assumption) ?rest4
    case hy4 => (intro w hSw; (try dsimp only at hSw); (try simp only [List.getElem_toArray, List.getElem_cons_zero, List.getElem_cons_succ]); go_simp; all_goals (with_reducible rfl))
    try simp only [List.getElem_toArray, List.getElem_cons_zero, List.getElem_cons_succ, Act.put, List.setIfInBounds_toArray, List.set_cons_zero, List.set_cons_succ]
    refine Hd.wpAnyInT_take (i := 4) (oi := _) (v := ?v5) rfl (by kernel_rfl) (by kernel_rfl) (by kernel_rfl) (by kernel_rfl) (by kernel_rfl) (fun _ _ _ h => h) (Or.inl ⟨by rfl, ?hy5⟩) (fun _ => rfl) (by assumption) ?rest5
    case hy5 => (intro w hSw; (try dsimp only at hSw); (try simp only [List.getElem_toArray, List.getElem_cons_zero, List.getElem_cons_succ]); go_simp; all_goals (with_reducible rfl))
    try simp only [List.getElem_toArray, List.getElem_cons_zero, List.getElem_cons_succ, Act.put, List.setIfInBounds_toArray, List.set_cons_zero, List.set_cons_succ]
    refine Hd.wpAnyInT_take (i := 5) (oi := _) (v := ?v6) rfl (by kernel_rfl) (by kernel_rfl) (by kernel_rfl) (by kernel_rfl) (by kernel_rfl) (fun _ _ _ h => h) (Or.inl ⟨by rfl, ?hy6⟩) (fun _ => rfl) (by assumption) ?rest6
    case hy6 => (intro w hSw; (try dsimp only at hSw); (try simp only [List.getElem_toArray, List.getElem_cons_zero, List.getElem_cons_succ]); go_simp; all_goals (with_reducible rfl))
    try simp only [List.getElem_toArray, List.getElem_cons_zero, List.getElem_cons_succ, Act.put, List.setIfInBounds_toArray, List.set_cons_zero, List.set_cons_succ]
    refine Hd.wpAnyInT_take (i := 6) (oi := _) (v := ?v7) rfl (by kernel_rfl) (by kernel_rfl) (by kernel_rfl) (by kernel_rfl) (by kernel_rfl) (fun _ _ _ h => h) (Or.inl ⟨by rfl, ?hy7⟩) (fun _ => rfl) (by assumption) ?rest7
    case hy7 => (intro w hSw; (try dsimp only at hSw); (try simp only [List.getElem_toArray, List.getElem_cons_zero, List.getElem_cons_succ]); go_simp; all_goals (with_reducible rfl))
    try simp only [List.getElem_toArray, List.getElem_cons_zero, List.getElem_cons_succ, Act.put, List.setIfInBounds_toArray, List.set_cons_zero, List.set_cons_succ]
    refine Hd.wpAnyInT_take (i := 7) (oi := _) (v := ?v8) rfl (by kernel_rfl) (by kernel_rfl) (by kernel_rfl) (by kernel_rfl) (by kernel_rfl) (fun _ _ _ h => h) (Or.inl ⟨by rfl, ?hy8⟩) (fun _ => rfl) (by assumption) ?rest8
    case hy8 => (intro w hSw; (try dsimp only at hSw); (try simp only [List.getElem_toArray, List.getElem_cons_zero, List.getElem_cons_succ]); go_simp; all_goals (with_reducible rfl))
    try simp only [List.getElem_toArray, List.getElem_cons_zero, List.getElem_cons_succ, Act.put, List.setIfInBounds_toArray, List.set_cons_zero, List.set_cons_succ]
    refine Hd.wpAnyInT_take (i := 8) (oi := _) (v := ?v9) rfl (by kernel_rfl) (by kernel_rfl) (by kernel_rfl) (by kernel_rfl) (by kernel_rfl) (fun _ _ _ h => h) (Or.inl ⟨by rfl, ?hy9⟩) (fun _ => rfl) (by assumption) ?rest9
    case hy9 => (intro w hSw; (try dsimp only at hSw); (try simp only [List.getElem_toArray, List.getElem_cons_zero, List.getElem_cons_succ]); go_simp; all_goals (with_reducible rfl))
    try simp only [List.getElem_toArray, List.getElem_cons_zero, List.getElem_cons_succ, Act.put, List.setIfInBounds_toArray, List.set_cons_zero, List.set_cons_succ]
    clear hSw
    refine Hd.wpAnyInT_one (i := 9) (o := _) (by kernel_rfl) rfl (by rfl) (fun K hK => ?_)
    try simp only [List.getElem_toArray, List.getElem_cons_zero, List.getElem_cons_succ]
    go_simp
    refine ⟨trivial, fun _ => by omega, ?_⟩
    refine (CallsIn.inRound ly (callsIn_wide.2 (hbt.out _ ((Kept.refl W).drew)))).mono ?_
    rintro e W2 ⟨u, rfl, A2, c2, rfl, hrw2, hf2, hk2⟩
    have k2 : Kept W W2 := ((Kept.refl W).drew).trans hk2
    have hS2 : (fun U => U.cell? ⟨w.heap.size + 1, 0, none⟩ = some (.slice A' N c') ∧ U.cell? ⟨w.heap.size, 0, none⟩ = some (ptr s) ∧ U.cell? ⟨s, 0, none⟩ = some (ptr a) ∧ U.cell? ⟨Bx, 0, none⟩ = some (.int .i64 r1) ∧ U.cell? ⟨Bx, 1, none⟩ = some (.int .i64 r2)) W2 := ⟨k2.cell cf, k2.cell ct, k2.cell hcl, k2.cell x0, k2.cell x1⟩
    refine hK.out _ _ (fun hT => ?_) ?_
    · exact hS2
    clear hK K
    try simp only [List.getElem_toArray, List.getElem_cons_zero, List.getElem_cons_succ, Act.put, List.setIfInBounds_toArray, List.set_cons_zero, List.set_cons_succ]
    have HRw2 := Lib.hid hrw2
    have K2 := Lib.hid k2
    have HR1 := Lib.hid (HRw.out.kept k2)
    have hsz2 : W.heap.size ≤ W2.heap.size := k2.size
    clear hrw2 hf2 hk2 k2 hS2 cf ff ct hcl x0 x1 hbt
    obtain ⟨cm, hcm⟩ : ∃ cm, cur ++ more = cm := ⟨_, rfl⟩
    rw [hcm] at HBk
    refine Hd.wpAnyInT_one (i := 10) (o := _) (by kernel_rfl) rfl (by rfl) (fun K hK => ?_)
    try simp only [List.getElem_toArray, List.getElem_cons_zero, List.getElem_cons_succ]
    refine stepIn_lays Snt.pkE (w := w) (W := W2) (b := w.heap.size) (v := .slice A' N c') (L := cur) (N := more) (.tmp 12) (.tmp 21) rfl rfl ⟨A', c', by rw [hN], by rw [hN]; exact HR1.out, HFr.out, HK.out.trans K2.out⟩ (Nat.le_refl _) (by omega) (by omega) HRw2.out rfl ?_
    intro v3 W3 HL3 HG3
    rw [hcm] at HL3
    have hkw3 := lay_kept' HL3.out
    obtain ⟨A3, c3, rfl, hr3, hf3, hk3⟩ := HL3.out
    generalize hN3 : cm.length = N3 at *
    have HR3 := Lib.hid hr3
    have HF3 := Lib.hid hf3
    have HK3 := Lib.hid hk3
    clear hr3 hf3 hk3 HL3
    have BF3 : Blk W3 (w.heap.size + 1) 42 #[.slice A' N c'] := grown_far HG3.out HR1.out (Blk.kept HV.out K2.out) (by decide)
    have BT3 : Blk W3 w.heap.size 98 #[ptr s] := grown_far HG3.out HR1.out (Blk.kept HT.out K2.out) (by decide)
    have BX3 : Blk W3 Bx 101 #[.int .i64 r1, .int .i64 r2] := grown_far HG3.out HR1.out (Blk.kept HX.out K2.out) (by decide)
    have hcl3 : W3.cell? ⟨s, 0, none⟩ = some (ptr a) := (HB.out.kept hkw3).cell 0
    have hS3 : (fun U => U.cell? ⟨w.heap.size + 1, 0, none⟩ = some (.slice A' N c') ∧ U.cell? ⟨w.heap.size, 0, none⟩ = some (ptr s) ∧ U.cell? ⟨s, 0, none⟩ = some (ptr a) ∧ U.cell? ⟨Bx, 0, none⟩ = some (.int .i64 r1) ∧ U.cell? ⟨Bx, 1, none⟩ = some (.int .i64 r2)) W3 := ⟨BF3.cell 0, BT3.cell 0, hcl3, BX3.cell 0, BX3.cell 1⟩
    refine hK.out _ _ (fun hT => hS3) ?_
    clear hK K hS3 hcl3 BX3 hkw3
    have BTk := Lib.hid BT3
    have BFk := Lib.hid BF3
    have cf := BF3.cell 0
    have ff := BF3.frozen 0
    have tf := BF3.lt
    clear BT3 BF3
    try simp only [List.getElem_toArray, List.getElem_cons_zero, List.getElem_cons_succ, Act.put, List.setIfInBounds_toArray, List.set_cons_zero, List.set_cons_succ]
    refine Hd.wpAnyInT_one (i := 11) (o := _) (by kernel_rfl) rfl (by rfl) (fun K hK => ?_)
    try simp only [List.getElem_toArray, List.getElem_cons_zero, List.getElem_cons_succ]
    go_simp
    refine hK.out _ _ (fun hT => ?_) ?_
    · exact absurd hT (by decide)
    clear hK K
    try simp only [List.getElem_toArray, List.getElem_cons_zero, List.getElem_cons_succ, Act.put, List.setIfInBounds_toArray, List.set_cons_zero, List.set_cons_succ]
    clear cf ff tf
    refine Hd.wpAnyInT_done (by kernel_rfl) ?_ _
    have hb4 : But (fun i => i = w.heap.size + 1 ∨ Cd.own A' = some i) W (W3.setCell ⟨w.heap.size + 1, 0, none⟩ (.slice A3 N3 c3)) := ((K2.out.but _).grown HG3.out (fun i e _ => .inr (by rw [Cd.own_block] at e; exact e))).setCell (p := ⟨w.heap.size + 1, 0, none⟩) (.inl rfl) _
    have hfF : ∀ i, (i = w.heap.size + 1 ∨ Cd.own A' = some i) → w.heap.size ≤ i := fun i f => by
      rcases f with rfl | f
      · omega
      · exact HFr.out i f
    have hoth : KeepsOthers W (W3.setCell ⟨w.heap.size + 1, 0, none⟩ (.slice A3 N3 c3)) := others_of hb4 (fun i f => by
      rcases f with rfl | f
      · exact ⟨_, _, HV.out⟩
      · rcases HRw.out.form with ⟨rfl, _⟩ | ⟨g, cur, rfl, hb, _⟩
        · cases f
        · injection f with f; subst f; exact ⟨_, _, hb⟩)
    have hne : W.heap.size ≤ w.heap.size + 2 → False := fun h => by omega
    have hlow : Below w.heap.size W (W3.setCell ⟨w.heap.size + 1, 0, none⟩ (.slice A3 N3 c3)) := ⟨hb4.os, hb4.tape, hb4.output, hb4.size, fun k hk => hb4.block k (by omega) (fun f => by have := hfF k f; omega)⟩
    have hblk : (W3.setCell ⟨w.heap.size + 1, 0, none⟩ (.slice A3 N3 c3)).heap[w.heap.size + 2]? = W.heap[w.heap.size + 2]? := hb4.block _ (by omega) (fun f => by
      rcases f with f | f
      · omega
      · rcases HRw.out.form with ⟨rfl, _⟩ | ⟨g, cur, rfl, hb, _⟩
        · cases f
        · injection f with f; subst f; exact Blk.ne_ hb HI.out (by decide) rfl)
    have hr4 : Rw pkC 32 (W3.setCell ⟨w.heap.size + 1, 0, none⟩ (.slice A3 N3 c3)) A3 N3 c3 cm := HR3.out.same_ (fun k hk => by
      rcases HR3.out.form with ⟨rfl, _⟩ | ⟨g, cur', rfl, hb, _⟩
      · cases hk
      · injection hk with hk
        subst hk
        exact (hb.far (p := ⟨w.heap.size + 1, 0, none⟩) (fun e => (Blk.ne_ hb BFk.out (by decide)) e) _).trans hb.symm)
    have BF4 : Blk (W3.setCell ⟨w.heap.size + 1, 0, none⟩ (.slice A3 N3 c3)) (w.heap.size + 1) 42 #[.slice A3 N3 c3] := BFk.out.set_ 0 _
    have BT4 : Blk (W3.setCell ⟨w.heap.size + 1, 0, none⟩ (.slice A3 N3 c3)) w.heap.size 98 #[ptr s] := BTk.out.far (p := ⟨w.heap.size + 1, 0, none⟩) (fun e => by have e : w.heap.size = w.heap.size + 1 := e; omega) _
    have hk4 : Kept w (W3.setCell ⟨w.heap.size + 1, 0, none⟩ (.slice A3 N3 c3)) := HK.out.then_ hb4 hfF
    have hsz4 := hb4.size
    have hrow : RowN w.heap.size (W3.setCell ⟨w.heap.size + 1, 0, none⟩ (.slice A3 N3 c3)) (.slice A3 N3 c3) (bk l ((pre ++ [x]).map (·.2))) := by
      rw [HBk.out]
      exact ⟨A3, c3, by rw [hN3], by rw [hN3]; exact hr4, HF3.out⟩
    exact ⟨hoth.from _, ⟨hlow, hblk⟩, ⟨⟨_, BF4, hrow⟩, BT4⟩, hblk.trans HI.out, hk4, by omega⟩
  case done =>
    rintro D ys W hD hys ⟨⟨⟨v, hv, A', c', rfl, hrw, hfr⟩, hT⟩, hI, hB1, hs1⟩ hK
    have hys' : ys.map (·.2) = rs.reverse := hys
    obtain ⟨cur, hcur⟩ : ∃ cur, bk l rs.reverse = cur := ⟨_, rfl⟩
    rw [hys', hcur] at hrw hv
    have HCU := Lib.hid hcur
    have cf := hv.cell
    have HRw := Lib.hid hrw
    have HB1 := Lib.hid hB1
    have HK := Lib.hid hK
    have HFr := Lib.hid hfr
    clear hrw hB1 hK hv hT hfr hI hys hys' hcur
    gi_wp2
    refine ⟨by simp, .inl ⟨_, _, rfl, run_takeDeferred HK.out, ?_⟩⟩
    have hrP : Rw pkC 32 (W.putObj D (.deferred none)) A' cur.length c' cur := HRw.out.same_ (fun k hk => World.putObj_heap_other (fun e => by
      rcases HRw.out.form with ⟨rfl, _⟩ | ⟨g, cur', rfl, hb, _⟩
      · cases hk
      · injection hk with hk
        subst hk
        subst e
        have h1 := HK.out
        rw [show W.heap[g]? = _ from hb] at h1
        cases h1))
    exact ⟨.slice A' cur.length c', results_tmp (t := 4) rfl _ _ _, .slice A' cur.length c', rfl, A', c', by rw [HCU.out], by rw [HCU.out]; exact hrP, HFr.out, HB1.out.trans (belowK_b (w := w) (Nat.le_refl _) W D _ _ (by omega) HK.out rfl rfl)⟩
  case stop =>
    rintro D c pre W _ _ h _
    exact h.elim
end
end Go.Proofs.YtilkgjpgoogiiaaGreat.Spa
