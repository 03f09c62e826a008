/-
  The developers' space: Sent, May, Persists.
-/
import Derived.Test.YtilkgjpgoogiiaaGreatSpaabJ5a
import Derived.Deep.RegionHeld3
import Derived.Deep.DeepCutAuto
set_option maxRecDepth 100000
set_option maxHeartbeats 16000000
set_option linter.unusedVariables false
set_option linter.unusedSimpArgs false
namespace Go.Proofs.YtilkgjpgoogiiaaGreat.Spa
open Go.RowKit Wd Bxs Obs Ths SpaM
open SntM (Pk putErr putL putTop dropL getP getB fly eli)
open Snt (pkC pkV pkA)
open SpnM (R addErr addTo cutErr cutTo has add)
open FrmM (Ack check)
open RttM (Rt)
open Rtt (rtV rtA)
section
variable {w V : World} {L M : List Ob} {s a b c : Nat} {X : Sp} {room : Nat} {last gr lo ti : Int} {l : List Pk} {kn re : List R}
theorem enter_ok {t : Nat} (p : Pk) (h : Sx w (box t 78 #[ptr a, ptr b, ptr c, .int .i64 gr, .int .i64 lo, .int .i64 ti] :: logO a room last l :: setO b 256 kn :: M) V) (hs : sentE ⟨room, last, l, kn, re, gr, lo, ti⟩ p = 0) : Calls Tryz.prog 86 #[ptr t, pkV p] V (Gets (.int .i64 0) w (box t 78 #[ptr a, ptr b, ptr c, .int .i64 gr, .int .i64 lo, .int .i64 (if (p.f && p.e) = true then p.t else ti)] :: logO a room p.n (l ++ [p]) :: setO b 256 (add kn p.n p.n) :: M)) := by
  have hp : putErr room last l p = 0 := by
    by_cases h1 : putErr room last l p = 0
    · exact h1
    · have h2 : sentE ⟨room, last, l, kn, re, gr, lo, ti⟩ p = putErr room last l p := if_neg h1
      rw [h2] at hs; exact absurd hs h1
  have ha : addErr 256 kn p.n p.n = 0 := by
    have h2 : sentE ⟨room, last, l, kn, re, gr, lo, ti⟩ p = addErr 256 kn p.n p.n := if_pos hp
    rw [h2] at hs; exact hs
  have eT : putTop room last l p = p.n := if_pos hp
  have eL : putL room last l p = l ++ [p] := if_pos hp
  have eA : addTo 256 kn p.n p.n = add kn p.n p.n := if_pos ha
  obtain ⟨T1, hT⟩ : ∃ T1, p.n = T1 := ⟨_, rfl⟩
  obtain ⟨L1, hL⟩ : ∃ L1, l ++ [p] = L1 := ⟨_, rfl⟩
  obtain ⟨K1, hK⟩ : ∃ K1, add kn p.n p.n = K1 := ⟨_, rfl⟩
  have k1 : Hid (∀ U B, Sx w (box B 32 (pkA p) :: box t 78 #[ptr a, ptr b, ptr c, .int .i64 gr, .int .i64 lo, .int .i64 ti] :: logO a room last l :: setO b 256 kn :: M) U → Calls Tryz.prog 120 #[ptr a, pkV p] U (Gets (.int .i64 0) w (box B 32 (pkA p) :: box t 78 #[ptr a, ptr b, ptr c, .int .i64 gr, .int .i64 lo, .int .i64 ti] :: logO a room T1 L1 :: setO b 256 kn :: M))) := Lib.hid (fun U B h => by
    have := log_put h 2 rfl p
    rwa [hp, eT, eL, hT, hL] at this)
  have S0 : Hid (∀ U B Y Z, Sx w (box B 32 (pkA p) :: box t 78 #[ptr a, ptr b, ptr c, .int .i64 gr, .int .i64 lo, .int .i64 ti] :: logO a room Y Z :: setO b 256 kn :: M) U → U.cell? ⟨t, 0, none⟩ = some (ptr a) ∧ U.cell? ⟨B, 0, none⟩ = some (.int .i64 p.n) ∧ U.cell? ⟨B, 1, none⟩ = some (.int .i64 p.t) ∧ U.cell? ⟨B, 2, none⟩ = some (.int .i64 p.s) ∧ U.cell? ⟨B, 3, none⟩ = some (.bool p.e) ∧ U.cell? ⟨B, 4, none⟩ = some (.bool p.f) ∧ U.cell? ⟨B, 5, none⟩ = some (.bool p.c)) := Lib.hid (fun U B Y Z h => ⟨(h.box_ 1 rfl).cell 0, (h.box_ 0 rfl).cell 0, (h.box_ 0 rfl).cell 1, (h.box_ 0 rfl).cell 2, (h.box_ 0 rfl).cell 3, (h.box_ 0 rfl).cell 4, (h.box_ 0 rfl).cell 5⟩)
  have k2 : Hid (∀ U B, Sx w (box B 32 (pkA p) :: box t 78 #[ptr a, ptr b, ptr c, .int .i64 gr, .int .i64 lo, .int .i64 ti] :: logO a room T1 L1 :: setO b 256 kn :: M) U → Calls Tryz.prog 97 #[ptr b, .int .i64 p.n, .int .i64 p.n] U (Gets (.int .i64 0) w (box B 32 (pkA p) :: box t 78 #[ptr a, ptr b, ptr c, .int .i64 gr, .int .i64 lo, .int .i64 ti] :: logO a room T1 L1 :: setO b 256 K1 :: M))) := Lib.hid (fun U B h => by
    have := set_add256 h 3 rfl p.n p.n
    rwa [ha, eA, hK] at this)
  have S2 : Hid (∀ U B Y, Sx w (box B 32 (pkA p) :: box t 78 #[ptr a, ptr b, ptr c, .int .i64 gr, .int .i64 lo, .int .i64 ti] :: logO a room T1 L1 :: setO b 256 Y :: M) U → U.cell? ⟨t, 1, none⟩ = some (ptr b) ∧ U.cell? ⟨B, 0, none⟩ = some (.int .i64 p.n)) := Lib.hid (fun U B Y h => ⟨(h.box_ 1 rfl).cell 1, (h.box_ 0 rfl).cell 0⟩)
  have hG : Hid (add kn p.n p.n = K1 ∧ l ++ [p] = L1 ∧ p.n = T1) := Lib.hid ⟨hK, hL, hT⟩
  show Calls _ _ _ _ (Gets _ _ (box t 78 #[ptr a, ptr b, ptr c, .int .i64 gr, .int .i64 lo, .int .i64 (if (p.f && p.e) = true then p.t else ti)] :: logO a room p.n (l ++ [p]) :: setO b 256 (add kn p.n p.n) :: M))
  rw [hK, hL]
  suffices hh : Calls Tryz.prog 86 #[ptr t, pkV p] V (Gets (.int .i64 0) w (box t 78 #[ptr a, ptr b, ptr c, .int .i64 gr, .int .i64 lo, .int .i64 (if (p.f && p.e) = true then p.t else ti)] :: logO a room T1 L1 :: setO b 256 K1 :: M)) by rw [← hT] at hh; exact hh
  clear hs hp ha eT eL eA hT hL hK hG
  obtain ⟨pn, pt, ps, pe, pf, pc⟩ := p
  cases pf
  · show Calls _ _ #[ptr t, pkV ⟨pn, pt, ps, pe, false, pc⟩] _ (Gets _ _ (box t 78 #[ptr a, ptr b, ptr c, .int .i64 gr, .int .i64 lo, .int .i64 ti] :: logO a room T1 L1 :: setO b 256 K1 :: M))
    have D : Hid (Sx w (box V.heap.size 32 (pkA ⟨pn, pt, ps, pe, false, pc⟩) :: box t 78 #[ptr a, ptr b, ptr c, .int .i64 gr, .int .i64 lo, .int .i64 ti] :: logO a room last l :: setO b 256 kn :: M) (V.alloc (.cells (pkA ⟨pn, pt, ps, pe, false, pc⟩) 32))) := Lib.hid (h.new 32 (pkA ⟨pn, pt, ps, pe, false, pc⟩))
    clear h
    go_enter Tryz.func86, Tryz.ntmps86
    go_upto_region 1 with (fail)
    generalize V.alloc (.cells (pkA ⟨pn, pt, ps, pe, false, pc⟩) 32) = v1 at *
    generalize V.heap.size = B at *
    have D : Hid (Sx w (box B 32 (pkA ⟨pn, pt, ps, pe, false, pc⟩) :: box t 78 #[ptr a, ptr b, ptr c, .int .i64 gr, .int .i64 lo, .int .i64 ti] :: logO a room last l :: setO b 256 kn :: M) v1.drew) := Lib.hid (D.out.on (Kept.refl _).drew)
    go_region_held3 (fun U => U.cell? ⟨t, 0, none⟩ = some (ptr a) ∧ U.cell? ⟨B, 0, none⟩ = some (.int .i64 pn) ∧ U.cell? ⟨B, 1, none⟩ = some (.int .i64 pt) ∧ U.cell? ⟨B, 2, none⟩ = some (.int .i64 ps) ∧ U.cell? ⟨B, 3, none⟩ = some (.bool pe) ∧ U.cell? ⟨B, 4, none⟩ = some (.bool false) ∧ U.cell? ⟨B, 5, none⟩ = some (.bool pc))
      (first | with_reducible exact S0.out _ _ _ _ D.out)
      (first | (go_at_call 120; (with_reducible refine (k1.out _ _ D.out).mono ?_); rintro e w' ⟨rfl, hb⟩; have D := Lib.hid hb; clear hb))
    go_upto_region 4 with (fail)
    generalize hw1 : w' = w2 at *
    clear hw1
    have D : Hid (Sx w (box B 32 (pkA ⟨pn, pt, ps, pe, false, pc⟩) :: box t 78 #[ptr a, ptr b, ptr c, .int .i64 gr, .int .i64 lo, .int .i64 ti] :: logO a room T1 L1 :: setO b 256 kn :: M) w2.drew) := Lib.hid (D.out.on (Kept.refl _).drew)
    go_region_held3 (fun U => U.cell? ⟨t, 1, none⟩ = some (ptr b) ∧ U.cell? ⟨B, 0, none⟩ = some (.int .i64 pn))
      (first | with_reducible exact S2.out _ _ _ D.out)
      (first | (go_at_call 97; (with_reducible refine (k2.out _ _ D.out).mono ?_); rintro e w' ⟨rfl, hb⟩; have D := Lib.hid hb; clear hb))
    have B0 := D.out.box_ 0 rfl
    have cb1 := B0.cell 1
    have cb3 := B0.cell 3
    have cb4 := B0.cell 4
    have tb := B0.lt
    have B1 := D.out.box_ 1 rfl
    have ce5 := B1.cell 5
    have fe5 := B1.frozen 5
    have te := B1.lt
    go_wp2_with fail
    go_ret
    exact ⟨rfl, D.out.tail⟩
  · cases pe
    · show Calls _ _ #[ptr t, pkV ⟨pn, pt, ps, false, true, pc⟩] _ (Gets _ _ (box t 78 #[ptr a, ptr b, ptr c, .int .i64 gr, .int .i64 lo, .int .i64 ti] :: logO a room T1 L1 :: setO b 256 K1 :: M))
      have D : Hid (Sx w (box V.heap.size 32 (pkA ⟨pn, pt, ps, false, true, pc⟩) :: box t 78 #[ptr a, ptr b, ptr c, .int .i64 gr, .int .i64 lo, .int .i64 ti] :: logO a room last l :: setO b 256 kn :: M) (V.alloc (.cells (pkA ⟨pn, pt, ps, false, true, pc⟩) 32))) := Lib.hid (h.new 32 (pkA ⟨pn, pt, ps, false, true, pc⟩))
      clear h
      go_enter Tryz.func86, Tryz.ntmps86
      go_upto_region 1 with (fail)
      generalize V.alloc (.cells (pkA ⟨pn, pt, ps, false, true, pc⟩) 32) = v1 at *
      generalize V.heap.size = B at *
      have D : Hid (Sx w (box B 32 (pkA ⟨pn, pt, ps, false, true, pc⟩) :: box t 78 #[ptr a, ptr b, ptr c, .int .i64 gr, .int .i64 lo, .int .i64 ti] :: logO a room last l :: setO b 256 kn :: M) v1.drew) := Lib.hid (D.out.on (Kept.refl _).drew)
      go_region_held3 (fun U => U.cell? ⟨t, 0, none⟩ = some (ptr a) ∧ U.cell? ⟨B, 0, none⟩ = some (.int .i64 pn) ∧ U.cell? ⟨B, 1, none⟩ = some (.int .i64 pt) ∧ U.cell? ⟨B, 2, none⟩ = some (.int .i64 ps) ∧ U.cell? ⟨B, 3, none⟩ = some (.bool false) ∧ U.cell? ⟨B, 4, none⟩ = some (.bool true) ∧ U.cell? ⟨B, 5, none⟩ = some (.bool pc))
        (first | with_reducible exact S0.out _ _ _ _ D.out)
        (first | (go_at_call 120; (with_reducible refine (k1.out _ _ D.out).mono ?_); rintro e w' ⟨rfl, hb⟩; have D := Lib.hid hb; clear hb))
      go_upto_region 4 with (fail)
      generalize hw1 : w' = w2 at *
      clear hw1
      have D : Hid (Sx w (box B 32 (pkA ⟨pn, pt, ps, false, true, pc⟩) :: box t 78 #[ptr a, ptr b, ptr c, .int .i64 gr, .int .i64 lo, .int .i64 ti] :: logO a room T1 L1 :: setO b 256 kn :: M) w2.drew) := Lib.hid (D.out.on (Kept.refl _).drew)
      go_region_held3 (fun U => U.cell? ⟨t, 1, none⟩ = some (ptr b) ∧ U.cell? ⟨B, 0, none⟩ = some (.int .i64 pn))
        (first | with_reducible exact S2.out _ _ _ D.out)
        (first | (go_at_call 97; (with_reducible refine (k2.out _ _ D.out).mono ?_); rintro e w' ⟨rfl, hb⟩; have D := Lib.hid hb; clear hb))
      have B0 := D.out.box_ 0 rfl
      have cb1 := B0.cell 1
      have cb3 := B0.cell 3
      have cb4 := B0.cell 4
      have tb := B0.lt
      have B1 := D.out.box_ 1 rfl
      have ce5 := B1.cell 5
      have fe5 := B1.frozen 5
      have te := B1.lt
      go_wp2_with fail
      go_ret
      exact ⟨rfl, D.out.tail⟩
    · show Calls _ _ #[ptr t, pkV ⟨pn, pt, ps, true, true, pc⟩] _ (Gets _ _ (box t 78 #[ptr a, ptr b, ptr c, .int .i64 gr, .int .i64 lo, .int .i64 pt] :: logO a room T1 L1 :: setO b 256 K1 :: M))
      have D : Hid (Sx w (box V.heap.size 32 (pkA ⟨pn, pt, ps, true, true, pc⟩) :: box t 78 #[ptr a, ptr b, ptr c, .int .i64 gr, .int .i64 lo, .int .i64 ti] :: logO a room last l :: setO b 256 kn :: M) (V.alloc (.cells (pkA ⟨pn, pt, ps, true, true, pc⟩) 32))) := Lib.hid (h.new 32 (pkA ⟨pn, pt, ps, true, true, pc⟩))
      clear h
      go_enter Tryz.func86, Tryz.ntmps86
      go_upto_region 1 with (fail)
      generalize V.alloc (.cells (pkA ⟨pn, pt, ps, true, true, pc⟩) 32) = v1 at *
      generalize V.heap.size = B at *
      have D : Hid (Sx w (box B 32 (pkA ⟨pn, pt, ps, true, true, pc⟩) :: box t 78 #[ptr a, ptr b, ptr c, .int .i64 gr, .int .i64 lo, .int .i64 ti] :: logO a room last l :: setO b 256 kn :: M) v1.drew) := Lib.hid (D.out.on (Kept.refl _).drew)
      go_region_held3 (fun U => U.cell? ⟨t, 0, none⟩ = some (ptr a) ∧ U.cell? ⟨B, 0, none⟩ = some (.int .i64 pn) ∧ U.cell? ⟨B, 1, none⟩ = some (.int .i64 pt) ∧ U.cell? ⟨B, 2, none⟩ = some (.int .i64 ps) ∧ U.cell? ⟨B, 3, none⟩ = some (.bool true) ∧ U.cell? ⟨B, 4, none⟩ = some (.bool true) ∧ U.cell? ⟨B, 5, none⟩ = some (.bool pc))
        (first | with_reducible exact S0.out _ _ _ _ D.out)
        (first | (go_at_call 120; (with_reducible refine (k1.out _ _ D.out).mono ?_); rintro e w' ⟨rfl, hb⟩; have D := Lib.hid hb; clear hb))
      go_upto_region 4 with (fail)
      generalize hw1 : w' = w2 at *
      clear hw1
      have D : Hid (Sx w (box B 32 (pkA ⟨pn, pt, ps, true, true, pc⟩) :: box t 78 #[ptr a, ptr b, ptr c, .int .i64 gr, .int .i64 lo, .int .i64 ti] :: logO a room T1 L1 :: setO b 256 kn :: M) w2.drew) := Lib.hid (D.out.on (Kept.refl _).drew)
      go_region_held3 (fun U => U.cell? ⟨t, 1, none⟩ = some (ptr b) ∧ U.cell? ⟨B, 0, none⟩ = some (.int .i64 pn))
        (first | with_reducible exact S2.out _ _ _ D.out)
        (first | (go_at_call 97; (with_reducible refine (k2.out _ _ D.out).mono ?_); rintro e w' ⟨rfl, hb⟩; have D := Lib.hid hb; clear hb))
      have B0 := D.out.box_ 0 rfl
      have cb1 := B0.cell 1
      have cb3 := B0.cell 3
      have cb4 := B0.cell 4
      have tb := B0.lt
      have B1 := D.out.box_ 1 rfl
      have ce5 := B1.cell 5
      have fe5 := B1.frozen 5
      have te := B1.lt
      go_wp2_with fail
      have D : Hid (Sx w (box B 32 (pkA ⟨pn, pt, ps, true, true, pc⟩) :: box t 78 #[ptr a, ptr b, ptr c, .int .i64 gr, .int .i64 lo, .int .i64 pt] :: logO a room T1 L1 :: setO b 256 K1 :: M) _) := Lib.hid (D.out.cell_ 1 rfl 5 (.int .i64 pt))
      go_ret
      exact ⟨rfl, D.out.tail⟩
theorem enter_no {t : Nat} (p : Pk) (h : Sx w (box t 78 #[ptr a, ptr b, ptr c, .int .i64 gr, .int .i64 lo, .int .i64 ti] :: logO a room last l :: setO b 256 kn :: M) V) (hs : sentE ⟨room, last, l, kn, re, gr, lo, ti⟩ p ≠ 0) : Calls Tryz.prog 86 #[ptr t, pkV p] V (fun e W => e = .returned (.int .i64 (sentE ⟨room, last, l, kn, re, gr, lo, ti⟩ p)) ∧ ∃ T1 L1, Sx w (box t 78 #[ptr a, ptr b, ptr c, .int .i64 gr, .int .i64 lo, .int .i64 ti] :: logO a room T1 L1 :: setO b 256 kn :: M) W) := by
  by_cases hp : putErr room last l p = 0
  · have hs1 : sentE ⟨room, last, l, kn, re, gr, lo, ti⟩ p = addErr 256 kn p.n p.n := if_pos hp
    rw [hs1] at hs ⊢
    have eT : putTop room last l p = p.n := if_pos hp
    have eL : putL room last l p = l ++ [p] := if_pos hp
    have eA : addTo 256 kn p.n p.n = kn := if_neg hs
    have hE : (addErr 256 kn p.n p.n != 0) = true := by simp [hs]
    obtain ⟨T1, hT⟩ : ∃ T1, p.n = T1 := ⟨_, rfl⟩
    obtain ⟨L1, hL⟩ : ∃ L1, l ++ [p] = L1 := ⟨_, rfl⟩
    have k1 : Hid (∀ U B, Sx w (box B 32 (pkA p) :: box t 78 #[ptr a, ptr b, ptr c, .int .i64 gr, .int .i64 lo, .int .i64 ti] :: logO a room last l :: setO b 256 kn :: M) U → Calls Tryz.prog 120 #[ptr a, pkV p] U (Gets (.int .i64 0) w (box B 32 (pkA p) :: box t 78 #[ptr a, ptr b, ptr c, .int .i64 gr, .int .i64 lo, .int .i64 ti] :: logO a room T1 L1 :: setO b 256 kn :: M))) := Lib.hid (fun U B h => by
      have := log_put h 2 rfl p
      rwa [hp, eT, eL, hT, hL] at this)
    have S0 : Hid (∀ U B Y Z, Sx w (box B 32 (pkA p) :: box t 78 #[ptr a, ptr b, ptr c, .int .i64 gr, .int .i64 lo, .int .i64 ti] :: logO a room Y Z :: setO b 256 kn :: M) U → U.cell? ⟨t, 0, none⟩ = some (ptr a) ∧ U.cell? ⟨B, 0, none⟩ = some (.int .i64 p.n) ∧ U.cell? ⟨B, 1, none⟩ = some (.int .i64 p.t) ∧ U.cell? ⟨B, 2, none⟩ = some (.int .i64 p.s) ∧ U.cell? ⟨B, 3, none⟩ = some (.bool p.e) ∧ U.cell? ⟨B, 4, none⟩ = some (.bool p.f) ∧ U.cell? ⟨B, 5, none⟩ = some (.bool p.c)) := Lib.hid (fun U B Y Z h => ⟨(h.box_ 1 rfl).cell 0, (h.box_ 0 rfl).cell 0, (h.box_ 0 rfl).cell 1, (h.box_ 0 rfl).cell 2, (h.box_ 0 rfl).cell 3, (h.box_ 0 rfl).cell 4, (h.box_ 0 rfl).cell 5⟩)
    have k2 : Hid (∀ U B, Sx w (box B 32 (pkA p) :: box t 78 #[ptr a, ptr b, ptr c, .int .i64 gr, .int .i64 lo, .int .i64 ti] :: logO a room T1 L1 :: setO b 256 kn :: M) U → Calls Tryz.prog 97 #[ptr b, .int .i64 p.n, .int .i64 p.n] U (Gets (.int .i64 (addErr 256 kn p.n p.n)) w (box B 32 (pkA p) :: box t 78 #[ptr a, ptr b, ptr c, .int .i64 gr, .int .i64 lo, .int .i64 ti] :: logO a room T1 L1 :: setO b 256 kn :: M))) := Lib.hid (fun U B h => by
      have := set_add256 h 3 rfl p.n p.n
      rwa [eA] at this)
    have S2 : Hid (∀ U B Y, Sx w (box B 32 (pkA p) :: box t 78 #[ptr a, ptr b, ptr c, .int .i64 gr, .int .i64 lo, .int .i64 ti] :: logO a room T1 L1 :: setO b 256 Y :: M) U → U.cell? ⟨t, 1, none⟩ = some (ptr b) ∧ U.cell? ⟨B, 0, none⟩ = some (.int .i64 p.n)) := Lib.hid (fun U B Y h => ⟨(h.box_ 1 rfl).cell 1, (h.box_ 0 rfl).cell 0⟩)
    have D : Hid (Sx w (box V.heap.size 32 (pkA p) :: box t 78 #[ptr a, ptr b, ptr c, .int .i64 gr, .int .i64 lo, .int .i64 ti] :: logO a room last l :: setO b 256 kn :: M) (V.alloc (.cells (pkA p) 32))) := Lib.hid (h.new 32 (pkA p))
    clear h
    clear hs1 hp eT eL eA hT hL
    generalize addErr 256 kn p.n p.n = E2 at *
    clear hs
    go_enter Tryz.func86, Tryz.ntmps86
    go_upto_region 1 with (fail)
    generalize V.alloc (.cells (pkA p) 32) = v1 at *
    generalize V.heap.size = B at *
    have D : Hid (Sx w (box B 32 (pkA p) :: box t 78 #[ptr a, ptr b, ptr c, .int .i64 gr, .int .i64 lo, .int .i64 ti] :: logO a room last l :: setO b 256 kn :: M) v1.drew) := Lib.hid (D.out.on (Kept.refl _).drew)
    go_region_held3 (fun U => U.cell? ⟨t, 0, none⟩ = some (ptr a) ∧ U.cell? ⟨B, 0, none⟩ = some (.int .i64 p.n) ∧ U.cell? ⟨B, 1, none⟩ = some (.int .i64 p.t) ∧ U.cell? ⟨B, 2, none⟩ = some (.int .i64 p.s) ∧ U.cell? ⟨B, 3, none⟩ = some (.bool p.e) ∧ U.cell? ⟨B, 4, none⟩ = some (.bool p.f) ∧ U.cell? ⟨B, 5, none⟩ = some (.bool p.c))
      (first | with_reducible exact S0.out _ _ _ _ D.out)
      (first | (go_at_call 120; (with_reducible refine (k1.out _ _ D.out).mono ?_); rintro e w' ⟨rfl, hb⟩; have D := Lib.hid hb; clear hb))
    go_upto_region 4 with (fail)
    generalize hw1 : w' = w2 at *
    clear hw1
    have D : Hid (Sx w (box B 32 (pkA p) :: box t 78 #[ptr a, ptr b, ptr c, .int .i64 gr, .int .i64 lo, .int .i64 ti] :: logO a room T1 L1 :: setO b 256 kn :: M) w2.drew) := Lib.hid (D.out.on (Kept.refl _).drew)
    go_region_held3 (fun U => U.cell? ⟨t, 1, none⟩ = some (ptr b) ∧ U.cell? ⟨B, 0, none⟩ = some (.int .i64 p.n))
      (first | with_reducible exact S2.out _ _ _ D.out)
      (first | (go_at_call 97; (with_reducible refine (k2.out _ _ D.out).mono ?_); rintro e w' ⟨rfl, hb⟩; have D := Lib.hid hb; clear hb))
    go_wp2_with fail
    go_ret
    exact ⟨rfl, T1, L1, D.out.tail⟩
  · have hs1 : sentE ⟨room, last, l, kn, re, gr, lo, ti⟩ p = putErr room last l p := if_neg hp
    rw [hs1] at hs ⊢
    have eT : putTop room last l p = last := if_neg hp
    have eL : putL room last l p = l := if_neg hp
    have hE : (putErr room last l p != 0) = true := by simp [hp]
    have k1 : Hid (∀ U B, Sx w (box B 32 (pkA p) :: box t 78 #[ptr a, ptr b, ptr c, .int .i64 gr, .int .i64 lo, .int .i64 ti] :: logO a room last l :: setO b 256 kn :: M) U → Calls Tryz.prog 120 #[ptr a, pkV p] U (Gets (.int .i64 (putErr room last l p)) w (box B 32 (pkA p) :: box t 78 #[ptr a, ptr b, ptr c, .int .i64 gr, .int .i64 lo, .int .i64 ti] :: logO a room last l :: setO b 256 kn :: M))) := Lib.hid (fun U B h => by
      have := log_put h 2 rfl p
      rwa [eT, eL] at this)
    have S0 : Hid (∀ U B Y Z, Sx w (box B 32 (pkA p) :: box t 78 #[ptr a, ptr b, ptr c, .int .i64 gr, .int .i64 lo, .int .i64 ti] :: logO a room Y Z :: setO b 256 kn :: M) U → U.cell? ⟨t, 0, none⟩ = some (ptr a) ∧ U.cell? ⟨B, 0, none⟩ = some (.int .i64 p.n) ∧ U.cell? ⟨B, 1, none⟩ = some (.int .i64 p.t) ∧ U.cell? ⟨B, 2, none⟩ = some (.int .i64 p.s) ∧ U.cell? ⟨B, 3, none⟩ = some (.bool p.e) ∧ U.cell? ⟨B, 4, none⟩ = some (.bool p.f) ∧ U.cell? ⟨B, 5, none⟩ = some (.bool p.c)) := Lib.hid (fun U B Y Z h => ⟨(h.box_ 1 rfl).cell 0, (h.box_ 0 rfl).cell 0, (h.box_ 0 rfl).cell 1, (h.box_ 0 rfl).cell 2, (h.box_ 0 rfl).cell 3, (h.box_ 0 rfl).cell 4, (h.box_ 0 rfl).cell 5⟩)
    have D : Hid (Sx w (box V.heap.size 32 (pkA p) :: box t 78 #[ptr a, ptr b, ptr c, .int .i64 gr, .int .i64 lo, .int .i64 ti] :: logO a room last l :: setO b 256 kn :: M) (V.alloc (.cells (pkA p) 32))) := Lib.hid (h.new 32 (pkA p))
    clear h
    clear hs1 hp eT eL
    generalize putErr room last l p = E2 at *
    clear hs
    go_enter Tryz.func86, Tryz.ntmps86
    go_upto_region 1 with (fail)
    generalize V.alloc (.cells (pkA p) 32) = v1 at *
    generalize V.heap.size = B at *
    have D : Hid (Sx w (box B 32 (pkA p) :: box t 78 #[ptr a, ptr b, ptr c, .int .i64 gr, .int .i64 lo, .int .i64 ti] :: logO a room last l :: setO b 256 kn :: M) v1.drew) := Lib.hid (D.out.on (Kept.refl _).drew)
    go_region_held3 (fun U => U.cell? ⟨t, 0, none⟩ = some (ptr a) ∧ U.cell? ⟨B, 0, none⟩ = some (.int .i64 p.n) ∧ U.cell? ⟨B, 1, none⟩ = some (.int .i64 p.t) ∧ U.cell? ⟨B, 2, none⟩ = some (.int .i64 p.s) ∧ U.cell? ⟨B, 3, none⟩ = some (.bool p.e) ∧ U.cell? ⟨B, 4, none⟩ = some (.bool p.f) ∧ U.cell? ⟨B, 5, none⟩ = some (.bool p.c))
      (first | with_reducible exact S0.out _ _ _ _ D.out)
      (first | (go_at_call 120; (with_reducible refine (k1.out _ _ D.out).mono ?_); rintro e w' ⟨rfl, hb⟩; have D := Lib.hid hb; clear hb))
    go_wp2_with fail
    go_ret
    exact ⟨rfl, last, l, D.out.tail⟩
theorem with_ok (p : Pk) (h : Sx w (box s 80 #[ptr a, ptr b, ptr c, .int .i64 gr, .int .i64 lo, .int .i64 ti] :: logO a room last l :: setO b 256 kn :: setO c 256 re :: M) V) (hs : sentE ⟨room, last, l, kn, re, gr, lo, ti⟩ p = 0) : Calls Tryz.prog 47 #[ptr s, pkV p] V (fun e W => ∃ x y z, e = .returned (.tuple #[.agg #[ptr x, ptr y, ptr z, .int .i64 gr, .int .i64 lo, .int .i64 (if (p.f && p.e) = true then p.t else ti)], .int .i64 0]) ∧ Sx w (logO x room p.n (l ++ [p]) :: setO y 256 (add kn p.n p.n) :: setO z 256 re :: box s 80 #[ptr a, ptr b, ptr c, .int .i64 gr, .int .i64 lo, .int .i64 ti] :: logO a room last l :: setO b 256 kn :: setO c 256 re :: M) W) := by
  obtain ⟨T1, hT⟩ : ∃ T1, p.n = T1 := ⟨_, rfl⟩
  obtain ⟨L1, hL⟩ : ∃ L1, l ++ [p] = L1 := ⟨_, rfl⟩
  obtain ⟨K1, hK⟩ : ∃ K1, add kn p.n p.n = K1 := ⟨_, rfl⟩
  obtain ⟨TI, hTI⟩ : ∃ TI, (if (p.f && p.e) = true then p.t else ti) = TI := ⟨_, rfl⟩
  have kt : Hid (∀ U m B, Sx w (box m 78 #[.pointer none, .pointer none, .pointer none, .int .i64 0, .int .i64 0, .int .i64 0] :: box B 32 (pkA p) :: box s 80 #[ptr a, ptr b, ptr c, .int .i64 gr, .int .i64 lo, .int .i64 ti] :: logO a room last l :: setO b 256 kn :: setO c 256 re :: M) U → Calls Tryz.prog 71 #[.agg #[ptr a, ptr b, ptr c, .int .i64 gr, .int .i64 lo, .int .i64 ti]] U (fun e W => ∃ x y z, e = .returned (.agg #[ptr x, ptr y, ptr z, .int .i64 gr, .int .i64 lo, .int .i64 ti]) ∧ Sx w (logO x room last l :: setO y 256 kn :: setO z 256 re :: box m 78 #[.pointer none, .pointer none, .pointer none, .int .i64 0, .int .i64 0, .int .i64 0] :: box B 32 (pkA p) :: box s 80 #[ptr a, ptr b, ptr c, .int .i64 gr, .int .i64 lo, .int .i64 ti] :: logO a room last l :: setO b 256 kn :: setO c 256 re :: M) W)) := Lib.hid (fun U m B h => (twin_sx (h.sel 6 [3, 4, 5, 0, 1, 2] [] (by decide))).mono fun e W ⟨x, y, z, he, hx⟩ => ⟨x, y, z, he, hx.sel 9 [0, 1, 2, 6, 7, 8, 3, 4, 5] [] (by decide)⟩)
  have ke : Hid (∀ U t x y z m B, Sx w (box t 78 #[ptr x, ptr y, ptr z, .int .i64 gr, .int .i64 lo, .int .i64 ti] :: logO x room last l :: setO y 256 kn :: setO z 256 re :: box m 78 #[.pointer none, .pointer none, .pointer none, .int .i64 0, .int .i64 0, .int .i64 0] :: box B 32 (pkA p) :: box s 80 #[ptr a, ptr b, ptr c, .int .i64 gr, .int .i64 lo, .int .i64 ti] :: logO a room last l :: setO b 256 kn :: setO c 256 re :: M) U → Calls Tryz.prog 86 #[ptr t, pkV p] U (Gets (.int .i64 0) w (box t 78 #[ptr x, ptr y, ptr z, .int .i64 gr, .int .i64 lo, .int .i64 TI] :: logO x room T1 L1 :: setO y 256 K1 :: setO z 256 re :: box m 78 #[.pointer none, .pointer none, .pointer none, .int .i64 0, .int .i64 0, .int .i64 0] :: box B 32 (pkA p) :: box s 80 #[ptr a, ptr b, ptr c, .int .i64 gr, .int .i64 lo, .int .i64 ti] :: logO a room last l :: setO b 256 kn :: setO c 256 re :: M))) := Lib.hid (fun U t x y z m B h => by
    have := enter_ok (re := re) (lo := lo) p h hs
    rw [hK, hL, hTI] at this
    rw [hT] at this
    exact this)
  rw [hK, hL, hTI]
  suffices hh : Calls Tryz.prog 47 #[ptr s, pkV p] V (fun e W => ∃ x y z, e = .returned (.tuple #[.agg #[ptr x, ptr y, ptr z, .int .i64 gr, .int .i64 lo, .int .i64 TI], .int .i64 0]) ∧ Sx w (logO x room T1 L1 :: setO y 256 K1 :: setO z 256 re :: box s 80 #[ptr a, ptr b, ptr c, .int .i64 gr, .int .i64 lo, .int .i64 ti] :: logO a room last l :: setO b 256 kn :: setO c 256 re :: M) W) by rw [← hT] at hh; exact hh
  clear hs hT hL hK hTI
  have D : Hid (Sx w (box (V.alloc (.cells (pkA p) 32)).heap.size 78 #[.pointer none, .pointer none, .pointer none, .int .i64 0, .int .i64 0, .int .i64 0] :: box V.heap.size 32 (pkA p) :: box s 80 #[ptr a, ptr b, ptr c, .int .i64 gr, .int .i64 lo, .int .i64 ti] :: logO a room last l :: setO b 256 kn :: setO c 256 re :: M) ((V.alloc (.cells (pkA p) 32)).alloc (.cells #[.pointer none, .pointer none, .pointer none, .int .i64 0, .int .i64 0, .int .i64 0] 78))) := Lib.hid ((h.new 32 (pkA p)).new 78 #[.pointer none, .pointer none, .pointer none, .int .i64 0, .int .i64 0, .int .i64 0])
  clear h
  go_enter Tryz.func47, Tryz.ntmps47
  go_wp2_with fail
  generalize (V.alloc (.cells (pkA p) 32)).alloc (.cells #[.pointer none, .pointer none, .pointer none, .int .i64 0, .int .i64 0, .int .i64 0] 78) = v1 at *
  generalize hm : (V.alloc (.cells (pkA p) 32)).heap.size = m at *
  rw [World.size_alloc] at hm
  subst hm
  generalize V.heap.size = B at *
  have D : Hid (Sx w (box (B + 1) 78 #[.pointer none, .pointer none, .pointer none, .int .i64 0, .int .i64 0, .int .i64 0] :: box B 32 (pkA p) :: box s 80 #[ptr a, ptr b, ptr c, .int .i64 gr, .int .i64 lo, .int .i64 ti] :: logO a room last l :: setO b 256 kn :: setO c 256 re :: M) v1) := D
  refine (abs_bx (D.out.box_ 2 rfl)).mono ?_
  rintro e v2 ⟨rfl, rfl⟩
  have Bs := D.out.box_ 2 rfl
  have cs0 := Bs.cell 0
  have fs0 := Bs.frozen 0
  have cs1 := Bs.cell 1
  have fs1 := Bs.frozen 1
  have cs2 := Bs.cell 2
  have fs2 := Bs.frozen 2
  have cs3 := Bs.cell 3
  have fs3 := Bs.frozen 3
  have cs4 := Bs.cell 4
  have fs4 := Bs.frozen 4
  have cs5 := Bs.cell 5
  have fs5 := Bs.frozen 5
  have ts := Bs.lt
  clear Bs
  go_wp2_with fail
  clear cs0 fs0 cs1 fs1 cs2 fs2 cs3 fs3 cs4 fs4 cs5 fs5 ts
  refine (kt.out _ _ _ D.out).mono ?_
  rintro e v3 ⟨x, y, z, rfl, hb⟩
  have D := Lib.hid hb
  clear hb
  go_upto_region 4 with (fail)
  have D : Hid (Sx w (box v3.heap.size 78 #[ptr x, ptr y, ptr z, .int .i64 gr, .int .i64 lo, .int .i64 ti] :: logO x room last l :: setO y 256 kn :: setO z 256 re :: box (B + 1) 78 #[.pointer none, .pointer none, .pointer none, .int .i64 0, .int .i64 0, .int .i64 0] :: box B 32 (pkA p) :: box s 80 #[ptr a, ptr b, ptr c, .int .i64 gr, .int .i64 lo, .int .i64 ti] :: logO a room last l :: setO b 256 kn :: setO c 256 re :: M) (v3.alloc (.cells #[ptr x, ptr y, ptr z, .int .i64 gr, .int .i64 lo, .int .i64 ti] 78))) := Lib.hid (D.out.new 78 #[ptr x, ptr y, ptr z, .int .i64 gr, .int .i64 lo, .int .i64 ti])
  generalize v3.alloc (.cells #[ptr x, ptr y, ptr z, .int .i64 gr, .int .i64 lo, .int .i64 ti] 78) = v4 at *
  generalize v3.heap.size = t at *
  have D : Hid (Sx w (box t 78 #[ptr x, ptr y, ptr z, .int .i64 gr, .int .i64 lo, .int .i64 ti] :: logO x room last l :: setO y 256 kn :: setO z 256 re :: box (B + 1) 78 #[.pointer none, .pointer none, .pointer none, .int .i64 0, .int .i64 0, .int .i64 0] :: box B 32 (pkA p) :: box s 80 #[ptr a, ptr b, ptr c, .int .i64 gr, .int .i64 lo, .int .i64 ti] :: logO a room last l :: setO b 256 kn :: setO c 256 re :: M) v4) := D
  have P0 := D.out.box_ 5 rfl
  have cp0 := P0.cell 0
  have cp1 := P0.cell 1
  have cp2 := P0.cell 2
  have cp3 := P0.cell 3
  have cp4 := P0.cell 4
  have cp5 := P0.cell 5
  have tp := P0.lt
  clear P0
  go_wp2_with fail
  clear cp0 cp1 cp2 cp3 cp4 cp5 tp
  refine (ke.out _ _ _ _ _ _ _ D.out).mono ?_
  rintro e v5 ⟨rfl, hb⟩
  have D := Lib.hid hb
  clear hb
  have Bq := D.out.box_ 0 rfl
  have cq0 := Bq.cell 0
  have fq0 := Bq.frozen 0
  have cq1 := Bq.cell 1
  have fq1 := Bq.frozen 1
  have cq2 := Bq.cell 2
  have fq2 := Bq.frozen 2
  have cq3 := Bq.cell 3
  have fq3 := Bq.frozen 3
  have cq4 := Bq.cell 4
  have fq4 := Bq.frozen 4
  have cq5 := Bq.cell 5
  have fq5 := Bq.frozen 5
  have tq := Bq.lt
  clear Bq
  have Bu := D.out.box_ 4 rfl
  have cu0 := Bu.cell 0
  have fu0 := Bu.frozen 0
  have cu1 := Bu.cell 1
  have fu1 := Bu.frozen 1
  have cu2 := Bu.cell 2
  have fu2 := Bu.frozen 2
  have cu3 := Bu.cell 3
  have fu3 := Bu.frozen 3
  have cu4 := Bu.cell 4
  have fu4 := Bu.frozen 4
  have cu5 := Bu.cell 5
  have fu5 := Bu.frozen 5
  have tu := Bu.lt
  clear Bu
  go_wp2_with fail
  have D : Hid (Sx w (box t 78 #[ptr x, ptr y, ptr z, .int .i64 gr, .int .i64 lo, .int .i64 TI] :: logO x room T1 L1 :: setO y 256 K1 :: setO z 256 re :: box (B + 1) 78 #[ptr x, ptr y, ptr z, .int .i64 gr, .int .i64 lo, .int .i64 TI] :: box B 32 (pkA p) :: box s 80 #[ptr a, ptr b, ptr c, .int .i64 gr, .int .i64 lo, .int .i64 ti] :: logO a room last l :: setO b 256 kn :: setO c 256 re :: M) _) := Lib.hid ((((((D.out.cell_ 4 rfl 0 (ptr x)).cell_ 4 rfl 1 (ptr y)).cell_ 4 rfl 2 (ptr z)).cell_ 4 rfl 3 (.int .i64 gr)).cell_ 4 rfl 4 (.int .i64 lo)).cell_ 4 rfl 5 (.int .i64 TI))
  have d0 := (D.out.box_ 4 rfl).cell 0
  have d1 := (D.out.box_ 4 rfl).cell 1
  have d2 := (D.out.box_ 4 rfl).cell 2
  have d3 := (D.out.box_ 4 rfl).cell 3
  have d4 := (D.out.box_ 4 rfl).cell 4
  have d5 := (D.out.box_ 4 rfl).cell 5
  exact bodyPost_ret (v := .tuple #[.agg #[ptr x, ptr y, ptr z, .int .i64 gr, .int .i64 lo, .int .i64 TI], .int .i64 0]) (by simp [results, Tryz.results47, go_sem, d0, d1, d2, d3, d4, d5]) rfl ⟨x, y, z, rfl, D.out.sel 10 [1, 2, 3, 6, 7, 8, 9] [0, 4, 5] (by decide)⟩
theorem with_no (p : Pk) (h : Sx w (box s 80 #[ptr a, ptr b, ptr c, .int .i64 gr, .int .i64 lo, .int .i64 ti] :: logO a room last l :: setO b 256 kn :: setO c 256 re :: M) V) (hs : sentE ⟨room, last, l, kn, re, gr, lo, ti⟩ p ≠ 0) : Calls Tryz.prog 47 #[ptr s, pkV p] V (fun e W => e = .returned (.tuple #[.agg #[.pointer none, .pointer none, .pointer none, .int .i64 0, .int .i64 0, .int .i64 0], .int .i64 (sentE ⟨room, last, l, kn, re, gr, lo, ti⟩ p)]) ∧ Sx w (box s 80 #[ptr a, ptr b, ptr c, .int .i64 gr, .int .i64 lo, .int .i64 ti] :: logO a room last l :: setO b 256 kn :: setO c 256 re :: M) W) := by
  obtain ⟨E, hE⟩ : ∃ E, sentE ⟨room, last, l, kn, re, gr, lo, ti⟩ p = E := ⟨_, rfl⟩
  have kt : Hid (∀ U m B, Sx w (box m 78 #[.pointer none, .pointer none, .pointer none, .int .i64 0, .int .i64 0, .int .i64 0] :: box B 32 (pkA p) :: box s 80 #[ptr a, ptr b, ptr c, .int .i64 gr, .int .i64 lo, .int .i64 ti] :: logO a room last l :: setO b 256 kn :: setO c 256 re :: M) U → Calls Tryz.prog 71 #[.agg #[ptr a, ptr b, ptr c, .int .i64 gr, .int .i64 lo, .int .i64 ti]] U (fun e W => ∃ x y z, e = .returned (.agg #[ptr x, ptr y, ptr z, .int .i64 gr, .int .i64 lo, .int .i64 ti]) ∧ Sx w (logO x room last l :: setO y 256 kn :: setO z 256 re :: box m 78 #[.pointer none, .pointer none, .pointer none, .int .i64 0, .int .i64 0, .int .i64 0] :: box B 32 (pkA p) :: box s 80 #[ptr a, ptr b, ptr c, .int .i64 gr, .int .i64 lo, .int .i64 ti] :: logO a room last l :: setO b 256 kn :: setO c 256 re :: M) W)) := Lib.hid (fun U m B h => (twin_sx (h.sel 6 [3, 4, 5, 0, 1, 2] [] (by decide))).mono fun e W ⟨x, y, z, he, hx⟩ => ⟨x, y, z, he, hx.sel 9 [0, 1, 2, 6, 7, 8, 3, 4, 5] [] (by decide)⟩)
  have ke : Hid (∀ U t x y z m B, Sx w (box t 78 #[ptr x, ptr y, ptr z, .int .i64 gr, .int .i64 lo, .int .i64 ti] :: logO x room last l :: setO y 256 kn :: setO z 256 re :: box m 78 #[.pointer none, .pointer none, .pointer none, .int .i64 0, .int .i64 0, .int .i64 0] :: box B 32 (pkA p) :: box s 80 #[ptr a, ptr b, ptr c, .int .i64 gr, .int .i64 lo, .int .i64 ti] :: logO a room last l :: setO b 256 kn :: setO c 256 re :: M) U → Calls Tryz.prog 86 #[ptr t, pkV p] U (fun e W => e = .returned (.int .i64 E) ∧ ∃ T1 L1, Sx w (box t 78 #[ptr x, ptr y, ptr z, .int .i64 gr, .int .i64 lo, .int .i64 ti] :: logO x room T1 L1 :: setO y 256 kn :: setO z 256 re :: box m 78 #[.pointer none, .pointer none, .pointer none, .int .i64 0, .int .i64 0, .int .i64 0] :: box B 32 (pkA p) :: box s 80 #[ptr a, ptr b, ptr c, .int .i64 gr, .int .i64 lo, .int .i64 ti] :: logO a room last l :: setO b 256 kn :: setO c 256 re :: M) W)) := Lib.hid (fun U t x y z m B h => by
    have := enter_no (re := re) (lo := lo) p h hs
    rwa [hE] at this)
  rw [hE] at hs ⊢
  have hE1 : (E != 0) = true := by simp [hs]
  clear hs hE
  have D : Hid (Sx w (box (V.alloc (.cells (pkA p) 32)).heap.size 78 #[.pointer none, .pointer none, .pointer none, .int .i64 0, .int .i64 0, .int .i64 0] :: box V.heap.size 32 (pkA p) :: box s 80 #[ptr a, ptr b, ptr c, .int .i64 gr, .int .i64 lo, .int .i64 ti] :: logO a room last l :: setO b 256 kn :: setO c 256 re :: M) ((V.alloc (.cells (pkA p) 32)).alloc (.cells #[.pointer none, .pointer none, .pointer none, .int .i64 0, .int .i64 0, .int .i64 0] 78))) := Lib.hid ((h.new 32 (pkA p)).new 78 #[.pointer none, .pointer none, .pointer none, .int .i64 0, .int .i64 0, .int .i64 0])
  clear h
  go_enter Tryz.func47, Tryz.ntmps47
  go_wp2_with fail
  generalize (V.alloc (.cells (pkA p) 32)).alloc (.cells #[.pointer none, .pointer none, .pointer none, .int .i64 0, .int .i64 0, .int .i64 0] 78) = v1 at *
  generalize hm : (V.alloc (.cells (pkA p) 32)).heap.size = m at *
  rw [World.size_alloc] at hm
  subst hm
  generalize V.heap.size = B at *
  have D : Hid (Sx w (box (B + 1) 78 #[.pointer none, .pointer none, .pointer none, .int .i64 0, .int .i64 0, .int .i64 0] :: box B 32 (pkA p) :: box s 80 #[ptr a, ptr b, ptr c, .int .i64 gr, .int .i64 lo, .int .i64 ti] :: logO a room last l :: setO b 256 kn :: setO c 256 re :: M) v1) := D
  refine (abs_bx (D.out.box_ 2 rfl)).mono ?_
  rintro e v2 ⟨rfl, rfl⟩
  have Bs := D.out.box_ 2 rfl
  have cs0 := Bs.cell 0
  have fs0 := Bs.frozen 0
  have cs1 := Bs.cell 1
  have fs1 := Bs.frozen 1
  have cs2 := Bs.cell 2
  have fs2 := Bs.frozen 2
  have cs3 := Bs.cell 3
  have fs3 := Bs.frozen 3
  have cs4 := Bs.cell 4
  have fs4 := Bs.frozen 4
  have cs5 := Bs.cell 5
  have fs5 := Bs.frozen 5
  have ts := Bs.lt
  clear Bs
  go_wp2_with fail
  clear cs0 fs0 cs1 fs1 cs2 fs2 cs3 fs3 cs4 fs4 cs5 fs5 ts
  refine (kt.out _ _ _ D.out).mono ?_
  rintro e v3 ⟨x, y, z, rfl, hb⟩
  have D := Lib.hid hb
  clear hb
  go_upto_region 4 with (fail)
  have D : Hid (Sx w (box v3.heap.size 78 #[ptr x, ptr y, ptr z, .int .i64 gr, .int .i64 lo, .int .i64 ti] :: logO x room last l :: setO y 256 kn :: setO z 256 re :: box (B + 1) 78 #[.pointer none, .pointer none, .pointer none, .int .i64 0, .int .i64 0, .int .i64 0] :: box B 32 (pkA p) :: box s 80 #[ptr a, ptr b, ptr c, .int .i64 gr, .int .i64 lo, .int .i64 ti] :: logO a room last l :: setO b 256 kn :: setO c 256 re :: M) (v3.alloc (.cells #[ptr x, ptr y, ptr z, .int .i64 gr, .int .i64 lo, .int .i64 ti] 78))) := Lib.hid (D.out.new 78 #[ptr x, ptr y, ptr z, .int .i64 gr, .int .i64 lo, .int .i64 ti])
  generalize v3.alloc (.cells #[ptr x, ptr y, ptr z, .int .i64 gr, .int .i64 lo, .int .i64 ti] 78) = v4 at *
  generalize v3.heap.size = t at *
  have D : Hid (Sx w (box t 78 #[ptr x, ptr y, ptr z, .int .i64 gr, .int .i64 lo, .int .i64 ti] :: logO x room last l :: setO y 256 kn :: setO z 256 re :: box (B + 1) 78 #[.pointer none, .pointer none, .pointer none, .int .i64 0, .int .i64 0, .int .i64 0] :: box B 32 (pkA p) :: box s 80 #[ptr a, ptr b, ptr c, .int .i64 gr, .int .i64 lo, .int .i64 ti] :: logO a room last l :: setO b 256 kn :: setO c 256 re :: M) v4) := D
  have P0 := D.out.box_ 5 rfl
  have cp0 := P0.cell 0
  have cp1 := P0.cell 1
  have cp2 := P0.cell 2
  have cp3 := P0.cell 3
  have cp4 := P0.cell 4
  have cp5 := P0.cell 5
  have tp := P0.lt
  clear P0
  go_wp2_with fail
  clear cp0 cp1 cp2 cp3 cp4 cp5 tp
  refine (ke.out _ _ _ _ _ _ _ D.out).mono ?_
  rintro e v5 ⟨rfl, T1, L1, hb⟩
  have D := Lib.hid hb
  clear hb
  have Bu := D.out.box_ 4 rfl
  have cu0 := Bu.cell 0
  have fu0 := Bu.frozen 0
  have cu1 := Bu.cell 1
  have fu1 := Bu.frozen 1
  have cu2 := Bu.cell 2
  have fu2 := Bu.frozen 2
  have cu3 := Bu.cell 3
  have fu3 := Bu.frozen 3
  have cu4 := Bu.cell 4
  have fu4 := Bu.frozen 4
  have cu5 := Bu.cell 5
  have fu5 := Bu.frozen 5
  have tu := Bu.lt
  clear Bu
  go_wp2_with fail
  have D : Hid (Sx w (box t 78 #[ptr x, ptr y, ptr z, .int .i64 gr, .int .i64 lo, .int .i64 ti] :: logO x room T1 L1 :: setO y 256 kn :: setO z 256 re :: box (B + 1) 78 #[.pointer none, .pointer none, .pointer none, .int .i64 0, .int .i64 0, .int .i64 0] :: box B 32 (pkA p) :: box s 80 #[ptr a, ptr b, ptr c, .int .i64 gr, .int .i64 lo, .int .i64 ti] :: logO a room last l :: setO b 256 kn :: setO c 256 re :: M) _) := Lib.hid ((((((D.out.cell_ 4 rfl 0 (.pointer none)).cell_ 4 rfl 1 (.pointer none)).cell_ 4 rfl 2 (.pointer none)).cell_ 4 rfl 3 (.int .i64 0)).cell_ 4 rfl 4 (.int .i64 0)).cell_ 4 rfl 5 (.int .i64 0))
  have d0 := (D.out.box_ 4 rfl).cell 0
  have d1 := (D.out.box_ 4 rfl).cell 1
  have d2 := (D.out.box_ 4 rfl).cell 2
  have d3 := (D.out.box_ 4 rfl).cell 3
  have d4 := (D.out.box_ 4 rfl).cell 4
  have d5 := (D.out.box_ 4 rfl).cell 5
  exact bodyPost_ret (v := .tuple #[.agg #[.pointer none, .pointer none, .pointer none, .int .i64 0, .int .i64 0, .int .i64 0], .int .i64 E]) (by simp [results, Tryz.results47, go_sem, d0, d1, d2, d3, d4, d5]) rfl ⟨rfl, D.out.sel 10 [6, 7, 8, 9] [0, 1, 2, 3, 4, 5] (by decide)⟩
theorem prog_sent (p : Pk) : Mt Tryz.prog 15 #[ptr s, pkV p] (progO s X) (.int .i64 (sentE X p)) (progO s (sent X p)) := by
  intro w V M h
  obtain ⟨a, b, c, h⟩ := prog_open h
  obtain ⟨room, last, l, kn, re, gr, lo, ti⟩ := X
  have D : Hid (Sx w (box s 80 #[ptr a, ptr b, ptr c, .int .i64 gr, .int .i64 lo, .int .i64 ti] :: logO a room last l :: setO b 256 kn :: setO c 256 re :: M) V) := Lib.hid h
  clear h
  by_cases hs : sentE ⟨room, last, l, kn, re, gr, lo, ti⟩ p = 0
  · obtain ⟨T1, hT⟩ : ∃ T1, p.n = T1 := ⟨_, rfl⟩
    obtain ⟨L1, hL⟩ : ∃ L1, l ++ [p] = L1 := ⟨_, rfl⟩
    obtain ⟨K1, hK⟩ : ∃ K1, add kn p.n p.n = K1 := ⟨_, rfl⟩
    obtain ⟨TI, hTI⟩ : ∃ TI, (if (p.f && p.e) = true then p.t else ti) = TI := ⟨_, rfl⟩
    have kw : Hid (∀ U B, Sx w (box B 32 (pkA p) :: box s 80 #[ptr a, ptr b, ptr c, .int .i64 gr, .int .i64 lo, .int .i64 ti] :: logO a room last l :: setO b 256 kn :: setO c 256 re :: M) U → Calls Tryz.prog 47 #[ptr s, pkV p] U (fun e W => ∃ x y z, e = .returned (.tuple #[.agg #[ptr x, ptr y, ptr z, .int .i64 gr, .int .i64 lo, .int .i64 TI], .int .i64 0]) ∧ Sx w (logO x room T1 L1 :: setO y 256 K1 :: setO z 256 re :: box B 32 (pkA p) :: box s 80 #[ptr a, ptr b, ptr c, .int .i64 gr, .int .i64 lo, .int .i64 ti] :: logO a room last l :: setO b 256 kn :: setO c 256 re :: M) W)) := Lib.hid (fun U B h => (with_ok p (h.sel 5 [1, 2, 3, 4, 0] [] (by decide)) hs).mono fun e W ⟨x, y, z, he, hx⟩ => ⟨x, y, z, by rw [he, hTI], by
      have := hx.sel 8 [0, 1, 2, 7, 3, 4, 5, 6] [] (by decide)
      rw [hK, hL] at this
      rw [hT] at this
      exact this⟩)
    rw [hs, sent_yes hs]
    show Calls _ _ _ _ (Gets _ _ (progO s ⟨room, p.n, l ++ [p], add kn p.n p.n, re, gr, lo, if (p.f && p.e) = true then p.t else ti⟩ :: M))
    rw [hK, hL, hTI]
    suffices hh : Calls Tryz.prog 15 #[ptr s, pkV p] V (Gets (.int .i64 0) w (progO s ⟨room, T1, L1, K1, re, gr, lo, TI⟩ :: M)) by rw [← hT] at hh; exact hh
    clear hs hT hL hK hTI
    have D : Hid (Sx w (box V.heap.size 32 (pkA p) :: box s 80 #[ptr a, ptr b, ptr c, .int .i64 gr, .int .i64 lo, .int .i64 ti] :: logO a room last l :: setO b 256 kn :: setO c 256 re :: M) (V.alloc (.cells (pkA p) 32))) := Lib.hid (D.out.new 32 (pkA p))
    go_enter Tryz.func15, Tryz.ntmps15
    have P0 := D.out.box_ 0 rfl
    have cp0 := P0.cell 0
    have cp1 := P0.cell 1
    have cp2 := P0.cell 2
    have cp3 := P0.cell 3
    have cp4 := P0.cell 4
    have cp5 := P0.cell 5
    have tp := P0.lt
    clear P0
    go_wp2_with fail
    clear cp0 cp1 cp2 cp3 cp4 cp5 tp
    generalize V.alloc (.cells (pkA p) 32) = v1 at *
    generalize V.heap.size = B at *
    refine (kw.out _ _ D.out).mono ?_
    rintro e v2 ⟨x, y, z, rfl, hb⟩
    have D := Lib.hid hb
    clear hb
    have Bs := D.out.box_ 4 rfl
    have cs0 := Bs.cell 0
    have fs0 := Bs.frozen 0
    have cs1 := Bs.cell 1
    have fs1 := Bs.frozen 1
    have cs2 := Bs.cell 2
    have fs2 := Bs.frozen 2
    have cs3 := Bs.cell 3
    have fs3 := Bs.frozen 3
    have cs4 := Bs.cell 4
    have fs4 := Bs.frozen 4
    have cs5 := Bs.cell 5
    have fs5 := Bs.frozen 5
    have ts := Bs.lt
    clear Bs
    go_upto_region 3 with (fail)
    have D : Hid (Sx w (box v2.heap.size 78 #[ptr x, ptr y, ptr z, .int .i64 gr, .int .i64 lo, .int .i64 TI] :: logO x room T1 L1 :: setO y 256 K1 :: setO z 256 re :: box B 32 (pkA p) :: box s 80 #[ptr a, ptr b, ptr c, .int .i64 gr, .int .i64 lo, .int .i64 ti] :: logO a room last l :: setO b 256 kn :: setO c 256 re :: M) (v2.alloc (.cells #[ptr x, ptr y, ptr z, .int .i64 gr, .int .i64 lo, .int .i64 TI] 78))) := Lib.hid (D.out.new 78 #[ptr x, ptr y, ptr z, .int .i64 gr, .int .i64 lo, .int .i64 TI])
    generalize v2.alloc (.cells #[ptr x, ptr y, ptr z, .int .i64 gr, .int .i64 lo, .int .i64 TI] 78) = v3 at *
    generalize v2.heap.size = t at *
    clear cs0 fs0 cs1 fs1 cs2 fs2 cs3 fs3 cs4 fs4 cs5 fs5 ts
    have Bq := D.out.box_ 0 rfl
    have cq0 := Bq.cell 0
    have cq1 := Bq.cell 1
    have cq2 := Bq.cell 2
    have cq3 := Bq.cell 3
    have cq4 := Bq.cell 4
    have cq5 := Bq.cell 5
    have tq := Bq.lt
    clear Bq
    have Bs := D.out.box_ 5 rfl
    have cs0 := Bs.cell 0
    have fs0 := Bs.frozen 0
    have cs1 := Bs.cell 1
    have fs1 := Bs.frozen 1
    have cs2 := Bs.cell 2
    have fs2 := Bs.frozen 2
    have cs3 := Bs.cell 3
    have fs3 := Bs.frozen 3
    have cs4 := Bs.cell 4
    have fs4 := Bs.frozen 4
    have cs5 := Bs.cell 5
    have fs5 := Bs.frozen 5
    have ts := Bs.lt
    clear Bs
    go_wp2_with fail
    have D : Hid (Sx w (box t 78 #[ptr x, ptr y, ptr z, .int .i64 gr, .int .i64 lo, .int .i64 TI] :: logO x room T1 L1 :: setO y 256 K1 :: setO z 256 re :: box B 32 (pkA p) :: box s 80 #[ptr x, ptr y, ptr z, .int .i64 gr, .int .i64 lo, .int .i64 TI] :: logO a room last l :: setO b 256 kn :: setO c 256 re :: M) _) := Lib.hid ((((((D.out.cell_ 5 rfl 0 (ptr x)).cell_ 5 rfl 1 (ptr y)).cell_ 5 rfl 2 (ptr z)).cell_ 5 rfl 3 (.int .i64 gr)).cell_ 5 rfl 4 (.int .i64 lo)).cell_ 5 rfl 5 (.int .i64 TI))
    go_ret
    exact ⟨rfl, prog_shut (X := ⟨room, T1, L1, K1, re, gr, lo, TI⟩) (D.out.sel 9 [5, 1, 2, 3] [0, 4, 6, 7, 8] (by decide))⟩
  · obtain ⟨E, hE⟩ : ∃ E, sentE ⟨room, last, l, kn, re, gr, lo, ti⟩ p = E := ⟨_, rfl⟩
    have kw : Hid (∀ U B, Sx w (box B 32 (pkA p) :: box s 80 #[ptr a, ptr b, ptr c, .int .i64 gr, .int .i64 lo, .int .i64 ti] :: logO a room last l :: setO b 256 kn :: setO c 256 re :: M) U → Calls Tryz.prog 47 #[ptr s, pkV p] U (fun e W => e = .returned (.tuple #[.agg #[.pointer none, .pointer none, .pointer none, .int .i64 0, .int .i64 0, .int .i64 0], .int .i64 E]) ∧ Sx w (box B 32 (pkA p) :: box s 80 #[ptr a, ptr b, ptr c, .int .i64 gr, .int .i64 lo, .int .i64 ti] :: logO a room last l :: setO b 256 kn :: setO c 256 re :: M) W)) := Lib.hid (fun U B h => (with_no p (h.sel 5 [1, 2, 3, 4, 0] [] (by decide)) hs).mono fun e W ⟨he, hx⟩ => ⟨by rw [he, hE], hx.sel 5 [4, 0, 1, 2, 3] [] (by decide)⟩)
    rw [sent_no hs, hE]
    rw [hE] at hs
    have hE1 : (E == 0) = false := by simp [hs]
    clear hs hE
    have D : Hid (Sx w (box V.heap.size 32 (pkA p) :: box s 80 #[ptr a, ptr b, ptr c, .int .i64 gr, .int .i64 lo, .int .i64 ti] :: logO a room last l :: setO b 256 kn :: setO c 256 re :: M) (V.alloc (.cells (pkA p) 32))) := Lib.hid (D.out.new 32 (pkA p))
    go_enter Tryz.func15, Tryz.ntmps15
    have P0 := D.out.box_ 0 rfl
    have cp0 := P0.cell 0
    have cp1 := P0.cell 1
    have cp2 := P0.cell 2
    have cp3 := P0.cell 3
    have cp4 := P0.cell 4
    have cp5 := P0.cell 5
    have tp := P0.lt
    clear P0
    go_wp2_with fail
    clear cp0 cp1 cp2 cp3 cp4 cp5 tp
    generalize V.alloc (.cells (pkA p) 32) = v1 at *
    generalize V.heap.size = B at *
    refine (kw.out _ _ D.out).mono ?_
    rintro e v2 ⟨rfl, hb⟩
    have D := Lib.hid hb
    clear hb
    go_wp2_with fail
    go_ret
    exact ⟨rfl, prog_shut (X := ⟨room, last, l, kn, re, gr, lo, ti⟩) (D.out.tail.on ((Kept.refl _).alloc _))⟩
theorem prog_may (p : Pk) : Mt Tryz.prog 41 #[ptr s, pkV p] (progO s X) (.int .i64 (sentE X p)) (progO s X) := by
  intro w V M h
  obtain ⟨a, b, c, h⟩ := prog_open h
  obtain ⟨room, last, l, kn, re, gr, lo, ti⟩ := X
  have D : Hid (Sx w (box s 80 #[ptr a, ptr b, ptr c, .int .i64 gr, .int .i64 lo, .int .i64 ti] :: logO a room last l :: setO b 256 kn :: setO c 256 re :: M) V) := Lib.hid h
  clear h
  by_cases hs : sentE ⟨room, last, l, kn, re, gr, lo, ti⟩ p = 0
  · obtain ⟨T1, hT⟩ : ∃ T1, p.n = T1 := ⟨_, rfl⟩
    obtain ⟨L1, hL⟩ : ∃ L1, l ++ [p] = L1 := ⟨_, rfl⟩
    obtain ⟨K1, hK⟩ : ∃ K1, add kn p.n p.n = K1 := ⟨_, rfl⟩
    obtain ⟨TI, hTI⟩ : ∃ TI, (if (p.f && p.e) = true then p.t else ti) = TI := ⟨_, rfl⟩
    have kw : Hid (∀ U B, Sx w (box B 32 (pkA p) :: box s 80 #[ptr a, ptr b, ptr c, .int .i64 gr, .int .i64 lo, .int .i64 ti] :: logO a room last l :: setO b 256 kn :: setO c 256 re :: M) U → Calls Tryz.prog 47 #[ptr s, pkV p] U (fun e W => ∃ x y z, e = .returned (.tuple #[.agg #[ptr x, ptr y, ptr z, .int .i64 gr, .int .i64 lo, .int .i64 TI], .int .i64 0]) ∧ Sx w (logO x room T1 L1 :: setO y 256 K1 :: setO z 256 re :: box B 32 (pkA p) :: box s 80 #[ptr a, ptr b, ptr c, .int .i64 gr, .int .i64 lo, .int .i64 ti] :: logO a room last l :: setO b 256 kn :: setO c 256 re :: M) W)) := Lib.hid (fun U B h => (with_ok p (h.sel 5 [1, 2, 3, 4, 0] [] (by decide)) hs).mono fun e W ⟨x, y, z, he, hx⟩ => ⟨x, y, z, by rw [he, hTI], by
      have := hx.sel 8 [0, 1, 2, 7, 3, 4, 5, 6] [] (by decide)
      rw [hK, hL] at this
      rw [hT] at this
      exact this⟩)
    rw [hs]
    clear hs hT hL hK hTI
    have D : Hid (Sx w (box V.heap.size 32 (pkA p) :: box s 80 #[ptr a, ptr b, ptr c, .int .i64 gr, .int .i64 lo, .int .i64 ti] :: logO a room last l :: setO b 256 kn :: setO c 256 re :: M) (V.alloc (.cells (pkA p) 32))) := Lib.hid (D.out.new 32 (pkA p))
    go_enter Tryz.func41, Tryz.ntmps41
    have P0 := D.out.box_ 0 rfl
    have cp0 := P0.cell 0
    have cp1 := P0.cell 1
    have cp2 := P0.cell 2
    have cp3 := P0.cell 3
    have cp4 := P0.cell 4
    have cp5 := P0.cell 5
    have tp := P0.lt
    clear P0
    go_wp2_with fail
    clear cp0 cp1 cp2 cp3 cp4 cp5 tp
    generalize V.alloc (.cells (pkA p) 32) = v1 at *
    generalize V.heap.size = B at *
    refine (kw.out _ _ D.out).mono ?_
    rintro e v2 ⟨x, y, z, rfl, hb⟩
    have D := Lib.hid hb
    clear hb
    go_wp2_with fail
    go_ret
    exact ⟨rfl, prog_shut (X := ⟨room, last, l, kn, re, gr, lo, ti⟩) ((D.out.sel 8 [4, 5, 6, 7] [0, 1, 2, 3] (by decide)).on ((Kept.refl _).alloc _))⟩
  · obtain ⟨E, hE⟩ : ∃ E, sentE ⟨room, last, l, kn, re, gr, lo, ti⟩ p = E := ⟨_, rfl⟩
    have kw : Hid (∀ U B, Sx w (box B 32 (pkA p) :: box s 80 #[ptr a, ptr b, ptr c, .int .i64 gr, .int .i64 lo, .int .i64 ti] :: logO a room last l :: setO b 256 kn :: setO c 256 re :: M) U → Calls Tryz.prog 47 #[ptr s, pkV p] U (fun e W => e = .returned (.tuple #[.agg #[.pointer none, .pointer none, .pointer none, .int .i64 0, .int .i64 0, .int .i64 0], .int .i64 E]) ∧ Sx w (box B 32 (pkA p) :: box s 80 #[ptr a, ptr b, ptr c, .int .i64 gr, .int .i64 lo, .int .i64 ti] :: logO a room last l :: setO b 256 kn :: setO c 256 re :: M) W)) := Lib.hid (fun U B h => (with_no p (h.sel 5 [1, 2, 3, 4, 0] [] (by decide)) hs).mono fun e W ⟨he, hx⟩ => ⟨by rw [he, hE], hx.sel 5 [4, 0, 1, 2, 3] [] (by decide)⟩)
    rw [hE]
    rw [hE] at hs
    have hE1 : (E == 0) = false := by simp [hs]
    clear hs hE
    have D : Hid (Sx w (box V.heap.size 32 (pkA p) :: box s 80 #[ptr a, ptr b, ptr c, .int .i64 gr, .int .i64 lo, .int .i64 ti] :: logO a room last l :: setO b 256 kn :: setO c 256 re :: M) (V.alloc (.cells (pkA p) 32))) := Lib.hid (D.out.new 32 (pkA p))
    go_enter Tryz.func41, Tryz.ntmps41
    have P0 := D.out.box_ 0 rfl
    have cp0 := P0.cell 0
    have cp1 := P0.cell 1
    have cp2 := P0.cell 2
    have cp3 := P0.cell 3
    have cp4 := P0.cell 4
    have cp5 := P0.cell 5
    have tp := P0.lt
    clear P0
    go_wp2_with fail
    clear cp0 cp1 cp2 cp3 cp4 cp5 tp
    generalize V.alloc (.cells (pkA p) 32) = v1 at *
    generalize V.heap.size = B at *
    refine (kw.out _ _ D.out).mono ?_
    rintro e v2 ⟨rfl, hb⟩
    have D := Lib.hid hb
    clear hb
    go_wp2_with fail
    go_ret
    exact ⟨rfl, prog_shut (X := ⟨room, last, l, kn, re, gr, lo, ti⟩) (D.out.tail.on ((Kept.refl _).alloc _))⟩
theorem prog_persists (h : Sx w L V) (i : Nat) (hi : L[i]? = some (progO s X)) {A : Option Addr} {n c' : Nat} {lost : List Pk} (hS : Los.Src V A n c' lost) (hn : n ≤ 256) (r : Rt) (d : Int) : Calls Tryz.prog 42 #[ptr s, .slice A n c', rtV r, .int .i64 d] V (fun e W => e = .returned (.bool (Per.isT (has X.re) lost r d)) ∧ Kept V W) := by
  obtain ⟨F, q, hq⟩ := h.get i hi
  obtain ⟨a, b, c⟩ := q
  obtain ⟨A1, B1, rfl, ⟨rfl, hb⟩, A2, B2, rfl, _, A3, B3, rfl, _, A4, B4, rfl, ⟨C, d4, rfl, hr⟩, _⟩ := hq
  have HB : Hid (Blk (V.alloc (.cells (rtA r) 38)) s 80 #[ptr a, ptr b, ptr c, .int .i64 X.gr, .int .i64 X.lo, .int .i64 X.ti]) := Lib.hid (hb.kept ((Kept.refl V).alloc _))
  have HN : Hid (Blk (V.alloc (.cells (rtA r) 38)) V.heap.size 38 (rtA r)) := Lib.hid (Blk.new _ _ _)
  have K : Hid (Kept V (V.alloc (.cells (rtA r) 38))) := Lib.hid ((Kept.refl V).alloc _)
  have kp : Hid (∀ U, Kept V U → Calls Tryz.prog 84 #[.slice A n c', .pointer (some ⟨c, 0, none⟩), rtV r, .int .i64 d] U (Snt.GBool (Per.isT (has X.re) lost r d) U)) := Lib.hid (fun U k => Per.isT_any r d U (hS.kept k) (.inr ⟨c, _, _, _, rfl, hr.kept k⟩))
  clear h hi hb hr hS
  generalize Per.isT (has X.re) lost r d = T at *
  go_enter Tryz.func42, Tryz.ntmps42
  go_upto_region 1 with (fail)
  generalize V.alloc (.cells (rtA r) 38) = v1 at *
  generalize V.heap.size = B at *
  have HB : Hid (Blk v1.drew s 80 #[ptr a, ptr b, ptr c, .int .i64 X.gr, .int .i64 X.lo, .int .i64 X.ti]) := Lib.hid (HB.out.kept (Kept.refl _).drew)
  have HN : Hid (Blk v1.drew B 38 (rtA r)) := Lib.hid (HN.out.kept (Kept.refl _).drew)
  have K : Hid (Kept V v1.drew) := Lib.hid K.out.drew
  go_region_held3 (fun U => U.cell? ⟨s, 2, none⟩ = some (ptr c) ∧ U.cell? ⟨B, 0, none⟩ = some (.int .i64 r.l) ∧ U.cell? ⟨B, 1, none⟩ = some (.int .i64 r.m) ∧ U.cell? ⟨B, 2, none⟩ = some (.int .i64 r.s) ∧ U.cell? ⟨B, 3, none⟩ = some (.int .i64 r.v) ∧ U.cell? ⟨B, 4, none⟩ = some (.int .i64 r.f))
    (exact ⟨HB.out.cell 2, HN.out.cell 0, HN.out.cell 1, HN.out.cell 2, HN.out.cell 3, HN.out.cell 4⟩)
    (first
      | (go_at_call 52; (with_reducible refine (abs_bx HB.out).mono ?_); rintro e w' ⟨rfl, hW⟩; cases hW)
      | (go_at_call 84; (with_reducible refine (kp.out _ K.out).mono ?_); rintro e w' ⟨rfl, hk⟩; have HB := Lib.hid (HB.out.kept hk); have HN := Lib.hid (HN.out.kept hk); have K := Lib.hid (K.out.trans hk); clear hk))
  go_wp2_with fail
  go_ret
  exact ⟨rfl, K.out⟩
end
end Go.Proofs.YtilkgjpgoogiiaaGreat.Spa
