/-
  The walk of the law SpacePlays of layer 17.
-/
import Derived.Test.YtilkgjpgoogiiaaGreatSpabJ30a
import Derived.Test.YtilkgjpgoogiiaaGreatSpaabJ15b
import Derived.Deep.Cut
import Derived.Deep.MidRow
import Derived.Deep.WholeRow
import Derived.Laws.Tables
set_option maxRecDepth 100000
set_option maxHeartbeats 16000000
set_option linter.unusedVariables false
set_option linter.unusedSimpArgs false
namespace Go.Proofs.YtilkgjpgoogiiaaGreat.Spa
open Go.RowKit Wd Bxs Obs Ths SpaM
open SntM (Pk putErr putL putTop dropL getP getB fly eli)
open Snt (pkC pkV pkA)
open SpnM (R addErr addTo cutErr cutTo has add)
open Num (Dv dvL DvS Dos)
open FrmM (Ack check)
open RttM (Rt)
open Rtt (rtV rtA)
theorem rcopy_sx {w V : World} {L : List Ob} (h : Sx w L V) {A : Option Addr} {n c : Nat} {a : Ack} (hs : Frm.Src V A n c a.ranges) (hn : n * 16 ≤ 140737488355328) : Calls Tryz.prog 13 #[kV A n c a] V (fun e W => ∃ A2 c2, e = .returned (kV A2 a.ranges.length c2 a) ∧ Sx w (rngO A2 a.ranges.length c2 a.ranges :: L) W) :=
  (Frm.rcopyA_any A n c a V hs hn).mono fun e W ⟨v, he, A2, c2, hv, hr, hf, hk⟩ => ⟨A2, c2, by rw [he, hv]; rfl, h.lay (L' := [rngO A2 a.ranges.length c2 a.ranges]) (F' := (Spn.own A2).toList) hk ⟨_, [], (List.append_nil _).symm, ⟨rfl, hr⟩, rfl⟩ (ownS_nodup A2) (fun i hi => hf i (mem_ownS.1 hi))⟩
theorem rng_less {w V : World} {M : List Ob} {A : Option Addr} {n c k : Nat} {l : List R} (h : Sx w (rngO A n c l :: M) V) (hk : k ≤ n) : Sx w (rngO A k c (l.take k) :: M) V :=
  h.as 0 rfl (o' := rngO A k c (l.take k)) fun F ⟨e, hr⟩ => ⟨e, Frm.row_less hr hk⟩
theorem set6_19 (x0 x1 x2 x3 x4 x5 x6 x7 x8 x9 x10 x11 x12 x13 x14 x15 x16 x17 x18 y8 y9 y10 y11 y12 y13 : Value) : (((((((#[x0, x1, x2, x3, x4, x5, x6, x7, x8, x9, x10, x11, x12, x13, x14, x15, x16, x17, x18] : Array Value).setIfInBounds 8 y8).setIfInBounds 9 y9).setIfInBounds 10 y10).setIfInBounds 11 y11).setIfInBounds 12 y12).setIfInBounds 13 y13) = #[x0, x1, x2, x3, x4, x5, x6, x7, y8, y9, y10, y11, y12, y13, x14, x15, x16, x17, x18] := rfl
theorem set1_19 (x0 x1 x2 x3 x4 x5 x6 x7 x8 x9 x10 x11 x12 x13 x14 x15 x16 x17 x18 y : Value) : (#[x0, x1, x2, x3, x4, x5, x6, x7, x8, x9, x10, x11, x12, x13, x14, x15, x16, x17, x18] : Array Value).setIfInBounds 9 y = #[x0, x1, x2, x3, x4, x5, x6, x7, x8, y, x10, x11, x12, x13, x14, x15, x16, x17, x18] := rfl
theorem info_do : (Tryz.prog.info? 40).map (·.size) = some 19 := by kernel_rfl
theorem one19 (d : Dv) : (#[.int .i64 d.kd, .int .i64 d.now, .int .i64 d.p.n, .int .i64 d.p.t, .int .i64 d.p.s, .bool d.p.e, .bool d.p.f, .bool d.p.c, .int .i64 d.k.delay, .slice d.A d.n d.c, .bool d.k.marked, .int .i64 d.k.m0, .int .i64 d.k.m1, .int .i64 d.k.m2, .int .i64 d.r.l, .int .i64 d.r.m, .int .i64 d.r.s, .int .i64 d.r.v, .int .i64 d.r.f] : Array Value).all (·.oneCell') = true := by first | rfl | exact all_oneCell_toArray (by intro v hv; simp only [List.mem_cons, List.not_mem_nil, or_false] at hv; rcases hv with h | h | h | h | h | h | h | h | h | h | h | h | h | h | h | h | h | h | h <;> subst h <;> rfl)
theorem blk_range {V : World} {g : Nat} {t : TypeId} {cs : Array Value} (h : Blk V g t cs) : World.rangeAt V g 0 cs.toList := fun j v hv => by
  rw [Nat.zero_add, Blk.cell h j]; simpa using hv
theorem load_mid_w {P : Program} {ops : Array Oper} {rest : List Oper} {op : Oper} {a : Act} {w : World} {Q : Exit → Act → World → Prop} (hw : Region.wanted op (yielded ops a.tmps) = true) (ty : TypeId) (x : Operand) (ho : op.op = .load ty x)
    (b o : Nat) (hx : a.eval x = .pointer (some ⟨b, o, none⟩)) (cs : List Value) (d : TypeDesc) (hc : w.rangeAt b o cs)
    (hu : P.underlying ty = some d) (hd : d.isRow = true) (hi : (P.info? ty).map (·.size) = some cs.length)
    (h : wpList P ops Q rest (a.put op.dst (.agg cs.toArray)) w) : wpList P ops Q (op :: rest) a w := by
  unfold wpList
  rw [if_pos hw]
  exact Or.inl (wp_load_mid ty x ho b o hx cs d hc hu hd hi h)
theorem same_nil (V : World) : Calls Tryz.prog 25 #[.slice none 0 0, .slice none 0 0] V (fun e W => e = .returned (.bool true) ∧ Kept V W) :=
  Los.rsame_is (b := true) (L := []) (K := []) (decide_eq_true rfl) (Los.Src.nil V) (Los.Src.nil V)
theorem spacePlays_any {spaO : Nat → Sp → Ob} (H : SpaS spaO) (room : Int) (A : Option Addr) (n c : Nat) (f : Nat → Dv) (w : World) (h : Dos w A n c f) : Calls Tryz.prog 3 #[.int .i64 room, .slice A n c] w fun e w' => e = .returned (.bool true) ∧ Kept w w' := by
  have GD := Lib.hid h
  clear h
  by_cases hr : 1 ≤ room ∧ room ≤ 256
  · have D : Hid (Sx w [] w) := Lib.hid (Sx.nil w)
    obtain ⟨u, hu⟩ : ∃ u : Nat, room = (u : Int) := ⟨room.toNat, by omega⟩
    subst hu
    have hu1 : 1 ≤ u := by omega
    have hu2 : u ≤ 256 := by omega
    have k0 := Lib.hid (fun V (hV : Sx w [] V) => H.new hV u hu1 hu2)
    go_enter Tryz.func3, Tryz.ntmps3
    go_wp2_with fail
    refine (k0.out _ D.out).mono ?_
    rintro e v1 ⟨s, rfl, hb⟩
    have D : Hid (Sx w [spaO s (SpaM.new u)] v1) := Lib.hid hb
    clear hb k0
    go_wp2_with fail
    refine (rspa_new D.out u hu1 hu2).mono ?_
    rintro e v2 ⟨m, rfl, hb⟩
    have D : Hid (Sx w (spaO s (SpaM.new u) :: rspaO m (SpaM.new u) :: []) v2) := Lib.hid hb.swap
    clear hb
    have HO := Lib.hid (new_ok ⟨hu1, hu2⟩)
    go_wp2_with fail
    go_loopw [5, 7, 9] (fun s5 s7 s9 wr => ∃ (i s m : Nat) (X : Sp), i ≤ n ∧ i ≤ 70 ∧ s5 = ptr s ∧ s7 = ptr m ∧ s9 = .int .i64 i ∧ Hid (OkS X) ∧ Hid (Sx w (spaO s X :: rspaO m X :: []) wr)) (fun _ _ s9 _ => 70 - (intOf s9).toNat)
    case atStart => exact ⟨0, s, m, SpaM.new u, Nat.zero_le _, Nat.zero_le _, rfl, rfl, rfl, HO, D⟩
    case round =>
      clear D HO
      obtain ⟨i, s, m, X, hin, hi7, rfl, rfl, rfl, HO, D⟩ := hrel
      by_cases hlt : i < n
      · by_cases h70 : i < 70
        · have hi0 : (0 : Int) ≤ (i : Int) := by omega
          have hi1 : (i : Int) < (n : Int) := by omega
          have hi2 : (i : Int) < 70 := by omega
          have hwi : IntKind.i64.wrap ((i : Int) + 1) = (i : Int) + 1 := IntWalk.i64_in _ (by omega)
          obtain ⟨b, o, rfl, hb, hcs⟩ := GD.out.lies (by omega)
          obtain ⟨hc, hds⟩ := hcs i hlt
          clear hcs hb
          generalize f i = d at *
          have HC : Hid (wr.rangeAt b (o + i * 19) [.int .i64 d.kd, .int .i64 d.now, .int .i64 d.p.n, .int .i64 d.p.t, .int .i64 d.p.s, .bool d.p.e, .bool d.p.f, .bool d.p.c, .int .i64 d.k.delay, .slice d.A d.n d.c, .bool d.k.marked, .int .i64 d.k.m0, .int .i64 d.k.m1, .int .i64 d.k.m2, .int .i64 d.r.l, .int .i64 d.r.m, .int .i64 d.r.s, .int .i64 d.r.v, .int .i64 d.r.f]) := Lib.hid (fun j v hv => D.out.K.cell ((hc j (show j < 19 from (List.getElem?_eq_some_iff.1 hv).1)).trans hv))
          have HDS := Lib.hid hds
          clear hc hds
          have D1 : Hid (Sx w (box wr.heap.size 40 #[.int .i64 d.kd, .int .i64 d.now, .int .i64 d.p.n, .int .i64 d.p.t, .int .i64 d.p.s, .bool d.p.e, .bool d.p.f, .bool d.p.c, .int .i64 d.k.delay, .slice d.A d.n d.c, .bool d.k.marked, .int .i64 d.k.m0, .int .i64 d.k.m1, .int .i64 d.k.m2, .int .i64 d.r.l, .int .i64 d.r.m, .int .i64 d.r.s, .int .i64 d.r.v, .int .i64 d.r.f] :: spaO s X :: rspaO m X :: []) (wr.alloc (.cells #[.int .i64 d.kd, .int .i64 d.now, .int .i64 d.p.n, .int .i64 d.p.t, .int .i64 d.p.s, .bool d.p.e, .bool d.p.f, .bool d.p.c, .int .i64 d.k.delay, .slice d.A d.n d.c, .bool d.k.marked, .int .i64 d.k.m0, .int .i64 d.k.m1, .int .i64 d.k.m2, .int .i64 d.r.l, .int .i64 d.r.m, .int .i64 d.r.s, .int .i64 d.r.v, .int .i64 d.r.f] 40))) := Lib.hid (D.out.new 40 #[.int .i64 d.kd, .int .i64 d.now, .int .i64 d.p.n, .int .i64 d.p.t, .int .i64 d.p.s, .bool d.p.e, .bool d.p.f, .bool d.p.c, .int .i64 d.k.delay, .slice d.A d.n d.c, .bool d.k.marked, .int .i64 d.k.m0, .int .i64 d.k.m1, .int .i64 d.k.m2, .int .i64 d.r.l, .int .i64 d.r.m, .int .i64 d.r.s, .int .i64 d.r.v, .int .i64 d.r.f])
          have B := D1.out.box_ 0 rfl
          have z8 := B.cell 8
          have z9 := B.cell 9
          have z10 := B.cell 10
          have z11 := B.cell 11
          have z12 := B.cell 12
          have z13 := B.cell 13
          have tz := B.lt
          clear B
          go_wp2_with (first | refine wpList_load_mid rfl 40 _ rfl b (o + i * 19) rfl [.int .i64 d.kd, .int .i64 d.now, .int .i64 d.p.n, .int .i64 d.p.t, .int .i64 d.p.s, .bool d.p.e, .bool d.p.f, .bool d.p.c, .int .i64 d.k.delay, .slice d.A d.n d.c, .bool d.k.marked, .int .i64 d.k.m0, .int .i64 d.k.m1, .int .i64 d.k.m2, .int .i64 d.r.l, .int .i64 d.r.m, .int .i64 d.r.s, .int .i64 d.r.v, .int .i64 d.r.f] _ HC.out Tryz.underlying40 rfl info_do ?_ | (refine wpList_store_row rfl 40 _ _ rfl wr.heap.size #[.int .i64 d.kd, .int .i64 d.now, .int .i64 d.p.n, .int .i64 d.p.t, .int .i64 d.p.s, .bool d.p.e, .bool d.p.f, .bool d.p.c, .int .i64 d.k.delay, .slice d.A d.n d.c, .bool d.k.marked, .int .i64 d.k.m0, .int .i64 d.k.m1, .int .i64 d.k.m2, .int .i64 d.r.l, .int .i64 d.r.m, .int .i64 d.r.s, .int .i64 d.r.v, .int .i64 d.r.f] rfl rfl 40 _ (heap_alloc_last wr _) info_do rfl (one19 d) ?_; rw [World.setRow_alloc_new]))
          refine (rcopy_sx D1.out (HDS.out.1.kept D1.out.K) HDS.out.2).mono ?_
          rintro e v2 ⟨A2, c2, rfl, hb⟩
          clear HC z8 z9 z10 z11 z12 z13 tz
          generalize wr.heap.size = bd at *
          have D : Hid (Sx w (rngO A2 d.k.ranges.length c2 d.k.ranges :: box bd 40 #[.int .i64 d.kd, .int .i64 d.now, .int .i64 d.p.n, .int .i64 d.p.t, .int .i64 d.p.s, .bool d.p.e, .bool d.p.f, .bool d.p.c, .int .i64 d.k.delay, .slice d.A d.n d.c, .bool d.k.marked, .int .i64 d.k.m0, .int .i64 d.k.m1, .int .i64 d.k.m2, .int .i64 d.r.l, .int .i64 d.r.m, .int .i64 d.r.s, .int .i64 d.r.v, .int .i64 d.r.f] :: spaO s X :: rspaO m X :: []) v2) := Lib.hid hb
          clear hb D1
          have D6 : Hid (Sx w (rngO A2 d.k.ranges.length c2 d.k.ranges :: box bd 40 #[.int .i64 d.kd, .int .i64 d.now, .int .i64 d.p.n, .int .i64 d.p.t, .int .i64 d.p.s, .bool d.p.e, .bool d.p.f, .bool d.p.c, .int .i64 d.k.delay, .slice A2 d.k.ranges.length c2, .bool d.k.marked, .int .i64 d.k.m0, .int .i64 d.k.m1, .int .i64 d.k.m2, .int .i64 d.r.l, .int .i64 d.r.m, .int .i64 d.r.s, .int .i64 d.r.v, .int .i64 d.r.f] :: spaO s X :: rspaO m X :: []) ((((((v2.setCell ⟨bd, 8, none⟩ (.int .i64 d.k.delay)).setCell ⟨bd, 9, none⟩ (.slice A2 d.k.ranges.length c2)).setCell ⟨bd, 10, none⟩ (.bool d.k.marked)).setCell ⟨bd, 11, none⟩ (.int .i64 d.k.m0)).setCell ⟨bd, 12, none⟩ (.int .i64 d.k.m1)).setCell ⟨bd, 13, none⟩ (.int .i64 d.k.m2))) := Lib.hid (by have h6 := ((((((D.out.cell_ 1 rfl 8 (.int .i64 d.k.delay)).cell_ 1 rfl 9 (.slice A2 d.k.ranges.length c2)).cell_ 1 rfl 10 (.bool d.k.marked)).cell_ 1 rfl 11 (.int .i64 d.k.m0)).cell_ 1 rfl 12 (.int .i64 d.k.m1)).cell_ 1 rfl 13 (.int .i64 d.k.m2)); simp only [List.set_cons_succ, List.set_cons_zero] at h6; rwa [set6_19] at h6)
          have B := D.out.box_ 1 rfl
          have z8 := B.cell 8
          have f8 := B.frozen 8
          have z9 := B.cell 9
          have f9 := B.frozen 9
          have z10 := B.cell 10
          have f10 := B.frozen 10
          have z11 := B.cell 11
          have f11 := B.frozen 11
          have z12 := B.cell 12
          have f12 := B.frozen 12
          have z13 := B.cell 13
          have f13 := B.frozen 13
          have tz := B.lt
          clear B
          go_upto_region 12 with (fail)
          clear tz z8 f8 z9 f9 z10 f10 z11 f11 z12 f12 z13 f13
          generalize ((((((v2.setCell ⟨bd, 8, none⟩ (.int .i64 d.k.delay)).setCell ⟨bd, 9, none⟩ (.slice A2 d.k.ranges.length c2)).setCell ⟨bd, 10, none⟩ (.bool d.k.marked)).setCell ⟨bd, 11, none⟩ (.int .i64 d.k.m0)).setCell ⟨bd, 12, none⟩ (.int .i64 d.k.m1)).setCell ⟨bd, 13, none⟩ (.int .i64 d.k.m2)) = w3 at *
          clear D
          have D := D6
          clear D6
          obtain ⟨k, hk⟩ : ∃ k, min d.k.ranges.length 40 = k := ⟨_, rfl⟩
          have hmi : min (d.k.ranges.length : Int) 40 = (k : Int) := by omega
          have hj1 : (if (40 : Int) < (d.k.ranges.length : Int) then (40 : Int) else (d.k.ranges.length : Int)) = (k : Int) := by split <;> omega
          have hj2 : (if (d.k.ranges.length : Int) < 40 then (d.k.ranges.length : Int) else (40 : Int)) = (k : Int) := by split <;> omega
          have hj3 : (if (d.k.ranges.length : Int) ≤ 40 then (d.k.ranges.length : Int) else (40 : Int)) = (k : Int) := by split <;> omega
          have hkn : k ≤ d.k.ranges.length := by omega
          have HC2 : Hid (d.k.ranges.length ≤ c2) := Lib.hid ((rng_row D.out 0 rfl).cap.1)
          have hup := fun W => Frm.run_uptoR A2 d.k.ranges.length c2 k (Nat.le_trans hkn HC2.out) W
          have D7 : Hid (Sx w (rngO A2 d.k.ranges.length c2 d.k.ranges :: box bd 40 #[.int .i64 d.kd, .int .i64 d.now, .int .i64 d.p.n, .int .i64 d.p.t, .int .i64 d.p.s, .bool d.p.e, .bool d.p.f, .bool d.p.c, .int .i64 d.k.delay, .slice A2 k c2, .bool d.k.marked, .int .i64 d.k.m0, .int .i64 d.k.m1, .int .i64 d.k.m2, .int .i64 d.r.l, .int .i64 d.r.m, .int .i64 d.r.s, .int .i64 d.r.v, .int .i64 d.r.f] :: spaO s X :: rspaO m X :: []) (w3.setCell ⟨bd, 9, none⟩ (.slice A2 k c2))) := Lib.hid (by have h7 := D.out.cell_ 1 rfl 9 (.slice A2 k c2); simp only [List.set_cons_succ, List.set_cons_zero] at h7; rwa [set1_19] at h7)
          have kb := Lib.hid (fun W => bring_any d.kd 8 W (by decide) (by decide))
          have q0 := Int.emod_nonneg d.kd (show (8 : Int) ≠ 0 by decide)
          have q1 := Int.emod_lt_of_pos d.kd (show (0 : Int) < 8 by decide)
          generalize d.kd % 8 = Kd at *
          have B := D.out.box_ 1 rfl
          have z0 := B.cell 0
          have z9 := B.cell 9
          have f9 := B.frozen 9
          have tz := B.lt
          clear B
          go_wp2_with fail
          refine (kb.out _).mono ?_
          rintro e w' ⟨rfl, rfl⟩
          clear z0 z9 f9 tz kb hup hj1 hj2 hj3 hmi
          generalize w3.setCell ⟨bd, 9, none⟩ (.slice A2 k c2) = w4 at *
          have D8 := rng_less D7.out hkn
          generalize d.k.ranges.take k = rs at D8
          have D : Hid (Sx w (spaO s X :: rspaO m X :: box bd 40 #[.int .i64 d.kd, .int .i64 d.now, .int .i64 d.p.n, .int .i64 d.p.t, .int .i64 d.p.s, .bool d.p.e, .bool d.p.f, .bool d.p.c, .int .i64 d.k.delay, .slice A2 k c2, .bool d.k.marked, .int .i64 d.k.m0, .int .i64 d.k.m1, .int .i64 d.k.m2, .int .i64 d.r.l, .int .i64 d.r.m, .int .i64 d.r.s, .int .i64 d.r.v, .int .i64 d.r.f] :: rngO A2 k c2 rs :: []) w4) := Lib.hid (D8.sel 4 [2, 3, 1, 0] [] (by decide))
          clear D7 D8 hk hkn
          rcases (by omega : Kd = 0 ∨ Kd = 1 ∨ Kd = 2 ∨ Kd = 3 ∨ Kd = 4 ∨ Kd = 5 ∨ Kd = 6 ∨ Kd = 7) with rfl | rfl | rfl | rfl | rfl | rfl | rfl | rfl
          · have HO2 := Lib.hid (sent_ok HO.out d.p)
            obtain ⟨E, hE⟩ : ∃ E, sentE X d.p = E := ⟨_, rfl⟩
            have k1 := Lib.hid (fun (U : World) (hU : Sx w (spaO s X :: rspaO m X :: box bd 40 #[.int .i64 d.kd, .int .i64 d.now, .int .i64 d.p.n, .int .i64 d.p.t, .int .i64 d.p.s, .bool d.p.e, .bool d.p.f, .bool d.p.c, .int .i64 d.k.delay, .slice A2 k c2, .bool d.k.marked, .int .i64 d.k.m0, .int .i64 d.k.m1, .int .i64 d.k.m2, .int .i64 d.r.l, .int .i64 d.r.m, .int .i64 d.r.s, .int .i64 d.r.v, .int .i64 d.r.f] :: rngO A2 k c2 rs :: []) U) => (show Calls Tryz.prog 15 #[ptr s, pkV d.p] U (Gets (.int .i64 E) w (spaO s (SpaM.sent X d.p) :: rspaO m X :: box bd 40 #[.int .i64 d.kd, .int .i64 d.now, .int .i64 d.p.n, .int .i64 d.p.t, .int .i64 d.p.s, .bool d.p.e, .bool d.p.f, .bool d.p.c, .int .i64 d.k.delay, .slice A2 k c2, .bool d.k.marked, .int .i64 d.k.m0, .int .i64 d.k.m1, .int .i64 d.k.m2, .int .i64 d.r.l, .int .i64 d.r.m, .int .i64 d.r.s, .int .i64 d.r.v, .int .i64 d.r.f] :: rngO A2 k c2 rs :: [])) from hE ▸ (H.sent s X d.p HO.out).at_ hU 0 rfl))
            have k2 := Lib.hid (fun (U : World) (hU : Sx w (spaO s (SpaM.sent X d.p) :: rspaO m X :: box bd 40 #[.int .i64 d.kd, .int .i64 d.now, .int .i64 d.p.n, .int .i64 d.p.t, .int .i64 d.p.s, .bool d.p.e, .bool d.p.f, .bool d.p.c, .int .i64 d.k.delay, .slice A2 k c2, .bool d.k.marked, .int .i64 d.k.m0, .int .i64 d.k.m1, .int .i64 d.k.m2, .int .i64 d.r.l, .int .i64 d.r.m, .int .i64 d.r.s, .int .i64 d.r.v, .int .i64 d.r.f] :: rngO A2 k c2 rs :: []) U) => (show Calls Tryz.prog 16 #[ptr m, pkV d.p] U (Gets (.int .i64 E) w (spaO s (SpaM.sent X d.p) :: rspaO m (SpaM.sent X d.p) :: box bd 40 #[.int .i64 d.kd, .int .i64 d.now, .int .i64 d.p.n, .int .i64 d.p.t, .int .i64 d.p.s, .bool d.p.e, .bool d.p.f, .bool d.p.c, .int .i64 d.k.delay, .slice A2 k c2, .bool d.k.marked, .int .i64 d.k.m0, .int .i64 d.k.m1, .int .i64 d.k.m2, .int .i64 d.r.l, .int .i64 d.r.m, .int .i64 d.r.s, .int .i64 d.r.v, .int .i64 d.r.f] :: rngO A2 k c2 rs :: [])) from hE ▸ (rspa_sent (s := m) (X := X) d.p).at_ hU 1 rfl))
            clear hE
            have Bz := D.out.box_ 2 rfl
            have z2 := Bz.cell 2
            have z3 := Bz.cell 3
            have z4 := Bz.cell 4
            have z5 := Bz.cell 5
            have z6 := Bz.cell 6
            have z7 := Bz.cell 7
            have tz := Bz.lt
            clear Bz
            go_wp2_with fail
            refine (k1.out _ D.out).mono ?_
            rintro e u1 ⟨rfl, hb⟩
            have D : Hid (Sx w (spaO s (SpaM.sent X d.p) :: rspaO m X :: box bd 40 #[.int .i64 d.kd, .int .i64 d.now, .int .i64 d.p.n, .int .i64 d.p.t, .int .i64 d.p.s, .bool d.p.e, .bool d.p.f, .bool d.p.c, .int .i64 d.k.delay, .slice A2 k c2, .bool d.k.marked, .int .i64 d.k.m0, .int .i64 d.k.m1, .int .i64 d.k.m2, .int .i64 d.r.l, .int .i64 d.r.m, .int .i64 d.r.s, .int .i64 d.r.v, .int .i64 d.r.f] :: rngO A2 k c2 rs :: []) u1) := Lib.hid (hb)
            clear hb
            clear z2 z3 z4 z5 z6 z7 tz
            have Bz := D.out.box_ 2 rfl
            have z2 := Bz.cell 2
            have z3 := Bz.cell 3
            have z4 := Bz.cell 4
            have z5 := Bz.cell 5
            have z6 := Bz.cell 6
            have z7 := Bz.cell 7
            have tz := Bz.lt
            clear Bz
            go_wp2_with fail
            refine (k2.out _ D.out).mono ?_
            rintro e u2 ⟨rfl, hb⟩
            have D : Hid (Sx w (spaO s (SpaM.sent X d.p) :: rspaO m (SpaM.sent X d.p) :: box bd 40 #[.int .i64 d.kd, .int .i64 d.now, .int .i64 d.p.n, .int .i64 d.p.t, .int .i64 d.p.s, .bool d.p.e, .bool d.p.f, .bool d.p.c, .int .i64 d.k.delay, .slice A2 k c2, .bool d.k.marked, .int .i64 d.k.m0, .int .i64 d.k.m1, .int .i64 d.k.m2, .int .i64 d.r.l, .int .i64 d.r.m, .int .i64 d.r.s, .int .i64 d.r.v, .int .i64 d.r.f] :: rngO A2 k c2 rs :: []) u2) := Lib.hid (hb)
            clear hb
            clear z2 z3 z4 z5 z6 z7 tz
            clear k1 k2
            go_wp2_with fail
            refine (same_nil _).mono ?_
            rintro e u3 ⟨rfl, hk⟩
            have D := Lib.hid (D.out.on hk)
            clear hk
            have BB := D.out.box_ 2 rfl
            have HR : Hid (World.rangeAt _ bd 0 [.int .i64 d.kd, .int .i64 d.now, .int .i64 d.p.n, .int .i64 d.p.t, .int .i64 d.p.s, .bool d.p.e, .bool d.p.f, .bool d.p.c, .int .i64 d.k.delay, .slice A2 k c2, .bool d.k.marked, .int .i64 d.k.m0, .int .i64 d.k.m1, .int .i64 d.k.m2, .int .i64 d.r.l, .int .i64 d.r.m, .int .i64 d.r.s, .int .i64 d.r.v, .int .i64 d.r.f]) := Lib.hid (blk_range BB)
            clear BB
            have kz := Lib.hid (fun (U : World) (hU : Sx w (spaO s (SpaM.sent X d.p) :: rspaO m (SpaM.sent X d.p) :: []) U) => sameZ_sx H (s := s) (m := m) HO2.out d.kd d.now d.p d.k.delay A2 k c2 d.k.marked d.k.m0 d.k.m1 d.k.m2 d.r hU)
            have D5 : Hid (Sx w (spaO s (SpaM.sent X d.p) :: rspaO m (SpaM.sent X d.p) :: []) _) := Lib.hid (D.out.sel 4 [0, 1] [2, 3] (by decide))
            go_wp2_with (refine load_mid_w rfl 40 _ rfl bd 0 rfl [.int .i64 d.kd, .int .i64 d.now, .int .i64 d.p.n, .int .i64 d.p.t, .int .i64 d.p.s, .bool d.p.e, .bool d.p.f, .bool d.p.c, .int .i64 d.k.delay, .slice A2 k c2, .bool d.k.marked, .int .i64 d.k.m0, .int .i64 d.k.m1, .int .i64 d.k.m2, .int .i64 d.r.l, .int .i64 d.r.m, .int .i64 d.r.s, .int .i64 d.r.v, .int .i64 d.r.f] _ HR.out Tryz.underlying40 rfl info_do ?_)
            refine (kz.out _ D5.out).mono ?_
            rintro e u4 ⟨rfl, hb⟩
            have D := Lib.hid hb
            clear hb kz D5 HR
            go_wp2_with fail
            go_roundw
            case rel => exact ⟨i + 1, s, m, SpaM.sent X d.p, by omega, by omega, rfl, rfl, by go_num, HO2, D⟩
            case measure => simp [intOf]; omega
          · have HO2 := Lib.hid (sent_ok HO.out d.p)
            obtain ⟨E, hE⟩ : ∃ E, sentE X d.p = E := ⟨_, rfl⟩
            have k1 := Lib.hid (fun (U : World) (hU : Sx w (spaO s X :: rspaO m X :: box bd 40 #[.int .i64 d.kd, .int .i64 d.now, .int .i64 d.p.n, .int .i64 d.p.t, .int .i64 d.p.s, .bool d.p.e, .bool d.p.f, .bool d.p.c, .int .i64 d.k.delay, .slice A2 k c2, .bool d.k.marked, .int .i64 d.k.m0, .int .i64 d.k.m1, .int .i64 d.k.m2, .int .i64 d.r.l, .int .i64 d.r.m, .int .i64 d.r.s, .int .i64 d.r.v, .int .i64 d.r.f] :: rngO A2 k c2 rs :: []) U) => (show Calls Tryz.prog 15 #[ptr s, pkV d.p] U (Gets (.int .i64 E) w (spaO s (SpaM.sent X d.p) :: rspaO m X :: box bd 40 #[.int .i64 d.kd, .int .i64 d.now, .int .i64 d.p.n, .int .i64 d.p.t, .int .i64 d.p.s, .bool d.p.e, .bool d.p.f, .bool d.p.c, .int .i64 d.k.delay, .slice A2 k c2, .bool d.k.marked, .int .i64 d.k.m0, .int .i64 d.k.m1, .int .i64 d.k.m2, .int .i64 d.r.l, .int .i64 d.r.m, .int .i64 d.r.s, .int .i64 d.r.v, .int .i64 d.r.f] :: rngO A2 k c2 rs :: [])) from hE ▸ (H.sent s X d.p HO.out).at_ hU 0 rfl))
            have k2 := Lib.hid (fun (U : World) (hU : Sx w (spaO s (SpaM.sent X d.p) :: rspaO m X :: box bd 40 #[.int .i64 d.kd, .int .i64 d.now, .int .i64 d.p.n, .int .i64 d.p.t, .int .i64 d.p.s, .bool d.p.e, .bool d.p.f, .bool d.p.c, .int .i64 d.k.delay, .slice A2 k c2, .bool d.k.marked, .int .i64 d.k.m0, .int .i64 d.k.m1, .int .i64 d.k.m2, .int .i64 d.r.l, .int .i64 d.r.m, .int .i64 d.r.s, .int .i64 d.r.v, .int .i64 d.r.f] :: rngO A2 k c2 rs :: []) U) => (show Calls Tryz.prog 16 #[ptr m, pkV d.p] U (Gets (.int .i64 E) w (spaO s (SpaM.sent X d.p) :: rspaO m (SpaM.sent X d.p) :: box bd 40 #[.int .i64 d.kd, .int .i64 d.now, .int .i64 d.p.n, .int .i64 d.p.t, .int .i64 d.p.s, .bool d.p.e, .bool d.p.f, .bool d.p.c, .int .i64 d.k.delay, .slice A2 k c2, .bool d.k.marked, .int .i64 d.k.m0, .int .i64 d.k.m1, .int .i64 d.k.m2, .int .i64 d.r.l, .int .i64 d.r.m, .int .i64 d.r.s, .int .i64 d.r.v, .int .i64 d.r.f] :: rngO A2 k c2 rs :: [])) from hE ▸ (rspa_sent (s := m) (X := X) d.p).at_ hU 1 rfl))
            clear hE
            have Bz := D.out.box_ 2 rfl
            have z2 := Bz.cell 2
            have z3 := Bz.cell 3
            have z4 := Bz.cell 4
            have z5 := Bz.cell 5
            have z6 := Bz.cell 6
            have z7 := Bz.cell 7
            have tz := Bz.lt
            clear Bz
            go_wp2_with fail
            refine (k1.out _ D.out).mono ?_
            rintro e u5 ⟨rfl, hb⟩
            have D : Hid (Sx w (spaO s (SpaM.sent X d.p) :: rspaO m X :: box bd 40 #[.int .i64 d.kd, .int .i64 d.now, .int .i64 d.p.n, .int .i64 d.p.t, .int .i64 d.p.s, .bool d.p.e, .bool d.p.f, .bool d.p.c, .int .i64 d.k.delay, .slice A2 k c2, .bool d.k.marked, .int .i64 d.k.m0, .int .i64 d.k.m1, .int .i64 d.k.m2, .int .i64 d.r.l, .int .i64 d.r.m, .int .i64 d.r.s, .int .i64 d.r.v, .int .i64 d.r.f] :: rngO A2 k c2 rs :: []) u5) := Lib.hid (hb)
            clear hb
            clear z2 z3 z4 z5 z6 z7 tz
            have Bz := D.out.box_ 2 rfl
            have z2 := Bz.cell 2
            have z3 := Bz.cell 3
            have z4 := Bz.cell 4
            have z5 := Bz.cell 5
            have z6 := Bz.cell 6
            have z7 := Bz.cell 7
            have tz := Bz.lt
            clear Bz
            go_wp2_with fail
            refine (k2.out _ D.out).mono ?_
            rintro e u6 ⟨rfl, hb⟩
            have D : Hid (Sx w (spaO s (SpaM.sent X d.p) :: rspaO m (SpaM.sent X d.p) :: box bd 40 #[.int .i64 d.kd, .int .i64 d.now, .int .i64 d.p.n, .int .i64 d.p.t, .int .i64 d.p.s, .bool d.p.e, .bool d.p.f, .bool d.p.c, .int .i64 d.k.delay, .slice A2 k c2, .bool d.k.marked, .int .i64 d.k.m0, .int .i64 d.k.m1, .int .i64 d.k.m2, .int .i64 d.r.l, .int .i64 d.r.m, .int .i64 d.r.s, .int .i64 d.r.v, .int .i64 d.r.f] :: rngO A2 k c2 rs :: []) u6) := Lib.hid (hb)
            clear hb
            clear z2 z3 z4 z5 z6 z7 tz
            clear k1 k2
            go_wp2_with fail
            refine (same_nil _).mono ?_
            rintro e u7 ⟨rfl, hk⟩
            have D := Lib.hid (D.out.on hk)
            clear hk
            have BB := D.out.box_ 2 rfl
            have HR : Hid (World.rangeAt _ bd 0 [.int .i64 d.kd, .int .i64 d.now, .int .i64 d.p.n, .int .i64 d.p.t, .int .i64 d.p.s, .bool d.p.e, .bool d.p.f, .bool d.p.c, .int .i64 d.k.delay, .slice A2 k c2, .bool d.k.marked, .int .i64 d.k.m0, .int .i64 d.k.m1, .int .i64 d.k.m2, .int .i64 d.r.l, .int .i64 d.r.m, .int .i64 d.r.s, .int .i64 d.r.v, .int .i64 d.r.f]) := Lib.hid (blk_range BB)
            clear BB
            have kz := Lib.hid (fun (U : World) (hU : Sx w (spaO s (SpaM.sent X d.p) :: rspaO m (SpaM.sent X d.p) :: []) U) => sameZ_sx H (s := s) (m := m) HO2.out d.kd d.now d.p d.k.delay A2 k c2 d.k.marked d.k.m0 d.k.m1 d.k.m2 d.r hU)
            have D5 : Hid (Sx w (spaO s (SpaM.sent X d.p) :: rspaO m (SpaM.sent X d.p) :: []) _) := Lib.hid (D.out.sel 4 [0, 1] [2, 3] (by decide))
            go_wp2_with (refine load_mid_w rfl 40 _ rfl bd 0 rfl [.int .i64 d.kd, .int .i64 d.now, .int .i64 d.p.n, .int .i64 d.p.t, .int .i64 d.p.s, .bool d.p.e, .bool d.p.f, .bool d.p.c, .int .i64 d.k.delay, .slice A2 k c2, .bool d.k.marked, .int .i64 d.k.m0, .int .i64 d.k.m1, .int .i64 d.k.m2, .int .i64 d.r.l, .int .i64 d.r.m, .int .i64 d.r.s, .int .i64 d.r.v, .int .i64 d.r.f] _ HR.out Tryz.underlying40 rfl info_do ?_)
            refine (kz.out _ D5.out).mono ?_
            rintro e u8 ⟨rfl, hb⟩
            have D := Lib.hid hb
            clear hb kz D5 HR
            go_wp2_with fail
            go_roundw
            case rel => exact ⟨i + 1, s, m, SpaM.sent X d.p, by omega, by omega, rfl, rfl, by go_num, HO2, D⟩
            case measure => simp [intOf]; omega
          · have HO2 := Lib.hid (sent_ok HO.out d.p)
            obtain ⟨E, hE⟩ : ∃ E, sentE X d.p = E := ⟨_, rfl⟩
            have k1 := Lib.hid (fun (U : World) (hU : Sx w (spaO s X :: rspaO m X :: box bd 40 #[.int .i64 d.kd, .int .i64 d.now, .int .i64 d.p.n, .int .i64 d.p.t, .int .i64 d.p.s, .bool d.p.e, .bool d.p.f, .bool d.p.c, .int .i64 d.k.delay, .slice A2 k c2, .bool d.k.marked, .int .i64 d.k.m0, .int .i64 d.k.m1, .int .i64 d.k.m2, .int .i64 d.r.l, .int .i64 d.r.m, .int .i64 d.r.s, .int .i64 d.r.v, .int .i64 d.r.f] :: rngO A2 k c2 rs :: []) U) => (show Calls Tryz.prog 15 #[ptr s, pkV d.p] U (Gets (.int .i64 E) w (spaO s (SpaM.sent X d.p) :: rspaO m X :: box bd 40 #[.int .i64 d.kd, .int .i64 d.now, .int .i64 d.p.n, .int .i64 d.p.t, .int .i64 d.p.s, .bool d.p.e, .bool d.p.f, .bool d.p.c, .int .i64 d.k.delay, .slice A2 k c2, .bool d.k.marked, .int .i64 d.k.m0, .int .i64 d.k.m1, .int .i64 d.k.m2, .int .i64 d.r.l, .int .i64 d.r.m, .int .i64 d.r.s, .int .i64 d.r.v, .int .i64 d.r.f] :: rngO A2 k c2 rs :: [])) from hE ▸ (H.sent s X d.p HO.out).at_ hU 0 rfl))
            have k2 := Lib.hid (fun (U : World) (hU : Sx w (spaO s (SpaM.sent X d.p) :: rspaO m X :: box bd 40 #[.int .i64 d.kd, .int .i64 d.now, .int .i64 d.p.n, .int .i64 d.p.t, .int .i64 d.p.s, .bool d.p.e, .bool d.p.f, .bool d.p.c, .int .i64 d.k.delay, .slice A2 k c2, .bool d.k.marked, .int .i64 d.k.m0, .int .i64 d.k.m1, .int .i64 d.k.m2, .int .i64 d.r.l, .int .i64 d.r.m, .int .i64 d.r.s, .int .i64 d.r.v, .int .i64 d.r.f] :: rngO A2 k c2 rs :: []) U) => (show Calls Tryz.prog 16 #[ptr m, pkV d.p] U (Gets (.int .i64 E) w (spaO s (SpaM.sent X d.p) :: rspaO m (SpaM.sent X d.p) :: box bd 40 #[.int .i64 d.kd, .int .i64 d.now, .int .i64 d.p.n, .int .i64 d.p.t, .int .i64 d.p.s, .bool d.p.e, .bool d.p.f, .bool d.p.c, .int .i64 d.k.delay, .slice A2 k c2, .bool d.k.marked, .int .i64 d.k.m0, .int .i64 d.k.m1, .int .i64 d.k.m2, .int .i64 d.r.l, .int .i64 d.r.m, .int .i64 d.r.s, .int .i64 d.r.v, .int .i64 d.r.f] :: rngO A2 k c2 rs :: [])) from hE ▸ (rspa_sent (s := m) (X := X) d.p).at_ hU 1 rfl))
            clear hE
            have Bz := D.out.box_ 2 rfl
            have z2 := Bz.cell 2
            have z3 := Bz.cell 3
            have z4 := Bz.cell 4
            have z5 := Bz.cell 5
            have z6 := Bz.cell 6
            have z7 := Bz.cell 7
            have tz := Bz.lt
            clear Bz
            go_wp2_with fail
            refine (k1.out _ D.out).mono ?_
            rintro e u9 ⟨rfl, hb⟩
            have D : Hid (Sx w (spaO s (SpaM.sent X d.p) :: rspaO m X :: box bd 40 #[.int .i64 d.kd, .int .i64 d.now, .int .i64 d.p.n, .int .i64 d.p.t, .int .i64 d.p.s, .bool d.p.e, .bool d.p.f, .bool d.p.c, .int .i64 d.k.delay, .slice A2 k c2, .bool d.k.marked, .int .i64 d.k.m0, .int .i64 d.k.m1, .int .i64 d.k.m2, .int .i64 d.r.l, .int .i64 d.r.m, .int .i64 d.r.s, .int .i64 d.r.v, .int .i64 d.r.f] :: rngO A2 k c2 rs :: []) u9) := Lib.hid (hb)
            clear hb
            clear z2 z3 z4 z5 z6 z7 tz
            have Bz := D.out.box_ 2 rfl
            have z2 := Bz.cell 2
            have z3 := Bz.cell 3
            have z4 := Bz.cell 4
            have z5 := Bz.cell 5
            have z6 := Bz.cell 6
            have z7 := Bz.cell 7
            have tz := Bz.lt
            clear Bz
            go_wp2_with fail
            refine (k2.out _ D.out).mono ?_
            rintro e u10 ⟨rfl, hb⟩
            have D : Hid (Sx w (spaO s (SpaM.sent X d.p) :: rspaO m (SpaM.sent X d.p) :: box bd 40 #[.int .i64 d.kd, .int .i64 d.now, .int .i64 d.p.n, .int .i64 d.p.t, .int .i64 d.p.s, .bool d.p.e, .bool d.p.f, .bool d.p.c, .int .i64 d.k.delay, .slice A2 k c2, .bool d.k.marked, .int .i64 d.k.m0, .int .i64 d.k.m1, .int .i64 d.k.m2, .int .i64 d.r.l, .int .i64 d.r.m, .int .i64 d.r.s, .int .i64 d.r.v, .int .i64 d.r.f] :: rngO A2 k c2 rs :: []) u10) := Lib.hid (hb)
            clear hb
            clear z2 z3 z4 z5 z6 z7 tz
            clear k1 k2
            go_wp2_with fail
            refine (same_nil _).mono ?_
            rintro e u11 ⟨rfl, hk⟩
            have D := Lib.hid (D.out.on hk)
            clear hk
            have BB := D.out.box_ 2 rfl
            have HR : Hid (World.rangeAt _ bd 0 [.int .i64 d.kd, .int .i64 d.now, .int .i64 d.p.n, .int .i64 d.p.t, .int .i64 d.p.s, .bool d.p.e, .bool d.p.f, .bool d.p.c, .int .i64 d.k.delay, .slice A2 k c2, .bool d.k.marked, .int .i64 d.k.m0, .int .i64 d.k.m1, .int .i64 d.k.m2, .int .i64 d.r.l, .int .i64 d.r.m, .int .i64 d.r.s, .int .i64 d.r.v, .int .i64 d.r.f]) := Lib.hid (blk_range BB)
            clear BB
            have kz := Lib.hid (fun (U : World) (hU : Sx w (spaO s (SpaM.sent X d.p) :: rspaO m (SpaM.sent X d.p) :: []) U) => sameZ_sx H (s := s) (m := m) HO2.out d.kd d.now d.p d.k.delay A2 k c2 d.k.marked d.k.m0 d.k.m1 d.k.m2 d.r hU)
            have D5 : Hid (Sx w (spaO s (SpaM.sent X d.p) :: rspaO m (SpaM.sent X d.p) :: []) _) := Lib.hid (D.out.sel 4 [0, 1] [2, 3] (by decide))
            go_wp2_with (refine load_mid_w rfl 40 _ rfl bd 0 rfl [.int .i64 d.kd, .int .i64 d.now, .int .i64 d.p.n, .int .i64 d.p.t, .int .i64 d.p.s, .bool d.p.e, .bool d.p.f, .bool d.p.c, .int .i64 d.k.delay, .slice A2 k c2, .bool d.k.marked, .int .i64 d.k.m0, .int .i64 d.k.m1, .int .i64 d.k.m2, .int .i64 d.r.l, .int .i64 d.r.m, .int .i64 d.r.s, .int .i64 d.r.v, .int .i64 d.r.f] _ HR.out Tryz.underlying40 rfl info_do ?_)
            refine (kz.out _ D5.out).mono ?_
            rintro e u12 ⟨rfl, hb⟩
            have D := Lib.hid hb
            clear hb kz D5 HR
            go_wp2_with fail
            go_roundw
            case rel => exact ⟨i + 1, s, m, SpaM.sent X d.p, by omega, by omega, rfl, rfl, by go_num, HO2, D⟩
            case measure => simp [intOf]; omega
          · have HO2 : Hid (OkS (SpaM.ack X ⟨d.k.delay, rs, d.k.marked, d.k.m0, d.k.m1, d.k.m2⟩)) := Lib.hid (ack_ok HO.out _)
            obtain ⟨E, hE⟩ : ∃ E, ackE X ⟨d.k.delay, rs, d.k.marked, d.k.m0, d.k.m1, d.k.m2⟩ = E := ⟨_, rfl⟩
            have k1 := Lib.hid (fun (A5 : Option Addr) (c5 : Nat) (U : World) (hU : Sx w (spaO s X :: rngO A2 k c2 rs :: rspaO m X :: box bd 40 #[.int .i64 d.kd, .int .i64 d.now, .int .i64 d.p.n, .int .i64 d.p.t, .int .i64 d.p.s, .bool d.p.e, .bool d.p.f, .bool d.p.c, .int .i64 d.k.delay, .slice A2 k c2, .bool d.k.marked, .int .i64 d.k.m0, .int .i64 d.k.m1, .int .i64 d.k.m2, .int .i64 d.r.l, .int .i64 d.r.m, .int .i64 d.r.s, .int .i64 d.r.v, .int .i64 d.r.f] :: []) U) => (show Calls Tryz.prog 17 #[ptr s, kV A2 k c2 ⟨d.k.delay, rs, d.k.marked, d.k.m0, d.k.m1, d.k.m2⟩] U (fun e W => ∃ A5 c5, e = .returned (.tuple #[.slice A5 (ackL X ⟨d.k.delay, rs, d.k.marked, d.k.m0, d.k.m1, d.k.m2⟩).length c5, .int .i64 E]) ∧ Sx w (pkO A5 (ackL X ⟨d.k.delay, rs, d.k.marked, d.k.m0, d.k.m1, d.k.m2⟩).length c5 (ackL X ⟨d.k.delay, rs, d.k.marked, d.k.m0, d.k.m1, d.k.m2⟩) :: spaO s (SpaM.ack X ⟨d.k.delay, rs, d.k.marked, d.k.m0, d.k.m1, d.k.m2⟩) :: rngO A2 k c2 rs :: rspaO m X :: box bd 40 #[.int .i64 d.kd, .int .i64 d.now, .int .i64 d.p.n, .int .i64 d.p.t, .int .i64 d.p.s, .bool d.p.e, .bool d.p.f, .bool d.p.c, .int .i64 d.k.delay, .slice A2 k c2, .bool d.k.marked, .int .i64 d.k.m0, .int .i64 d.k.m1, .int .i64 d.k.m2, .int .i64 d.r.l, .int .i64 d.r.m, .int .i64 d.r.s, .int .i64 d.r.v, .int .i64 d.r.f] :: []) W) from (H.ack ⟨d.k.delay, rs, d.k.marked, d.k.m0, d.k.m1, d.k.m2⟩ HO.out hU).mono fun e W ⟨A, n, c', he, hn, h2⟩ => by subst hn; exact ⟨A, c', hE ▸ he, h2⟩))
            have k2 := Lib.hid (fun (A5 : Option Addr) (c5 : Nat) (U : World) (hU : Sx w (rspaO m X :: rngO A2 k c2 rs :: pkO A5 (ackL X ⟨d.k.delay, rs, d.k.marked, d.k.m0, d.k.m1, d.k.m2⟩).length c5 (ackL X ⟨d.k.delay, rs, d.k.marked, d.k.m0, d.k.m1, d.k.m2⟩) :: spaO s (SpaM.ack X ⟨d.k.delay, rs, d.k.marked, d.k.m0, d.k.m1, d.k.m2⟩) :: box bd 40 #[.int .i64 d.kd, .int .i64 d.now, .int .i64 d.p.n, .int .i64 d.p.t, .int .i64 d.p.s, .bool d.p.e, .bool d.p.f, .bool d.p.c, .int .i64 d.k.delay, .slice A2 k c2, .bool d.k.marked, .int .i64 d.k.m0, .int .i64 d.k.m1, .int .i64 d.k.m2, .int .i64 d.r.l, .int .i64 d.r.m, .int .i64 d.r.s, .int .i64 d.r.v, .int .i64 d.r.f] :: []) U) => (show Calls Tryz.prog 18 #[ptr m, kV A2 k c2 ⟨d.k.delay, rs, d.k.marked, d.k.m0, d.k.m1, d.k.m2⟩] U (fun e W => ∃ A6 c6, e = .returned (.tuple #[.slice A6 (ackL X ⟨d.k.delay, rs, d.k.marked, d.k.m0, d.k.m1, d.k.m2⟩).length c6, .int .i64 E]) ∧ Sx w (pkO A6 (ackL X ⟨d.k.delay, rs, d.k.marked, d.k.m0, d.k.m1, d.k.m2⟩).length c6 (ackL X ⟨d.k.delay, rs, d.k.marked, d.k.m0, d.k.m1, d.k.m2⟩) :: rspaO m (SpaM.ack X ⟨d.k.delay, rs, d.k.marked, d.k.m0, d.k.m1, d.k.m2⟩) :: rngO A2 k c2 rs :: pkO A5 (ackL X ⟨d.k.delay, rs, d.k.marked, d.k.m0, d.k.m1, d.k.m2⟩).length c5 (ackL X ⟨d.k.delay, rs, d.k.marked, d.k.m0, d.k.m1, d.k.m2⟩) :: spaO s (SpaM.ack X ⟨d.k.delay, rs, d.k.marked, d.k.m0, d.k.m1, d.k.m2⟩) :: box bd 40 #[.int .i64 d.kd, .int .i64 d.now, .int .i64 d.p.n, .int .i64 d.p.t, .int .i64 d.p.s, .bool d.p.e, .bool d.p.f, .bool d.p.c, .int .i64 d.k.delay, .slice A2 k c2, .bool d.k.marked, .int .i64 d.k.m0, .int .i64 d.k.m1, .int .i64 d.k.m2, .int .i64 d.r.l, .int .i64 d.r.m, .int .i64 d.r.s, .int .i64 d.r.v, .int .i64 d.r.f] :: []) W) from (rspa_ack0 ⟨d.k.delay, rs, d.k.marked, d.k.m0, d.k.m1, d.k.m2⟩ hU).mono fun e W ⟨A, n, c', he, hn, h2⟩ => by subst hn; exact ⟨A, c', hE ▸ he, h2⟩))
            clear hE
            have D : Hid (Sx w (spaO s X :: rngO A2 k c2 rs :: rspaO m X :: box bd 40 #[.int .i64 d.kd, .int .i64 d.now, .int .i64 d.p.n, .int .i64 d.p.t, .int .i64 d.p.s, .bool d.p.e, .bool d.p.f, .bool d.p.c, .int .i64 d.k.delay, .slice A2 k c2, .bool d.k.marked, .int .i64 d.k.m0, .int .i64 d.k.m1, .int .i64 d.k.m2, .int .i64 d.r.l, .int .i64 d.r.m, .int .i64 d.r.s, .int .i64 d.r.v, .int .i64 d.r.f] :: []) _) := Lib.hid (D.out.sel 4 [0, 3, 1, 2] [] (by decide))
            have Bz := D.out.box_ 3 rfl
            have z8 := Bz.cell 8
            have z9 := Bz.cell 9
            have z10 := Bz.cell 10
            have z11 := Bz.cell 11
            have z12 := Bz.cell 12
            have z13 := Bz.cell 13
            have tz := Bz.lt
            clear Bz
            go_wp2_with fail
            refine (k1.out none 0 _ D.out).mono ?_
            rintro e u13 ⟨A5, c5, rfl, hb⟩
            have D : Hid (Sx w (rspaO m X :: rngO A2 k c2 rs :: pkO A5 (ackL X ⟨d.k.delay, rs, d.k.marked, d.k.m0, d.k.m1, d.k.m2⟩).length c5 (ackL X ⟨d.k.delay, rs, d.k.marked, d.k.m0, d.k.m1, d.k.m2⟩) :: spaO s (SpaM.ack X ⟨d.k.delay, rs, d.k.marked, d.k.m0, d.k.m1, d.k.m2⟩) :: box bd 40 #[.int .i64 d.kd, .int .i64 d.now, .int .i64 d.p.n, .int .i64 d.p.t, .int .i64 d.p.s, .bool d.p.e, .bool d.p.f, .bool d.p.c, .int .i64 d.k.delay, .slice A2 k c2, .bool d.k.marked, .int .i64 d.k.m0, .int .i64 d.k.m1, .int .i64 d.k.m2, .int .i64 d.r.l, .int .i64 d.r.m, .int .i64 d.r.s, .int .i64 d.r.v, .int .i64 d.r.f] :: []) u13) := Lib.hid (hb.sel 5 [3, 2, 0, 1, 4] [] (by decide))
            clear hb
            clear z8 z9 z10 z11 z12 z13 tz
            have Bz := D.out.box_ 4 rfl
            have z8 := Bz.cell 8
            have z9 := Bz.cell 9
            have z10 := Bz.cell 10
            have z11 := Bz.cell 11
            have z12 := Bz.cell 12
            have z13 := Bz.cell 13
            have tz := Bz.lt
            clear Bz
            go_wp2_with fail
            refine (k2.out A5 c5 _ D.out).mono ?_
            rintro e u14 ⟨A6, c6, rfl, hb⟩
            have D : Hid (Sx w (pkO A6 (ackL X ⟨d.k.delay, rs, d.k.marked, d.k.m0, d.k.m1, d.k.m2⟩).length c6 (ackL X ⟨d.k.delay, rs, d.k.marked, d.k.m0, d.k.m1, d.k.m2⟩) :: rspaO m (SpaM.ack X ⟨d.k.delay, rs, d.k.marked, d.k.m0, d.k.m1, d.k.m2⟩) :: rngO A2 k c2 rs :: pkO A5 (ackL X ⟨d.k.delay, rs, d.k.marked, d.k.m0, d.k.m1, d.k.m2⟩).length c5 (ackL X ⟨d.k.delay, rs, d.k.marked, d.k.m0, d.k.m1, d.k.m2⟩) :: spaO s (SpaM.ack X ⟨d.k.delay, rs, d.k.marked, d.k.m0, d.k.m1, d.k.m2⟩) :: box bd 40 #[.int .i64 d.kd, .int .i64 d.now, .int .i64 d.p.n, .int .i64 d.p.t, .int .i64 d.p.s, .bool d.p.e, .bool d.p.f, .bool d.p.c, .int .i64 d.k.delay, .slice A2 k c2, .bool d.k.marked, .int .i64 d.k.m0, .int .i64 d.k.m1, .int .i64 d.k.m2, .int .i64 d.r.l, .int .i64 d.r.m, .int .i64 d.r.s, .int .i64 d.r.v, .int .i64 d.r.f] :: []) u14) := Lib.hid (hb)
            clear hb
            clear z8 z9 z10 z11 z12 z13 tz
            clear k1 k2
            have ke := Lib.hid (same09 D.out 3 0 rfl rfl)
            go_wp2_with fail
            refine ke.out.mono ?_
            clear ke
            rintro e u15 ⟨rfl, hb⟩
            have D := Lib.hid hb
            clear hb
            have BB := D.out.box_ 5 rfl
            have HR : Hid (World.rangeAt _ bd 0 [.int .i64 d.kd, .int .i64 d.now, .int .i64 d.p.n, .int .i64 d.p.t, .int .i64 d.p.s, .bool d.p.e, .bool d.p.f, .bool d.p.c, .int .i64 d.k.delay, .slice A2 k c2, .bool d.k.marked, .int .i64 d.k.m0, .int .i64 d.k.m1, .int .i64 d.k.m2, .int .i64 d.r.l, .int .i64 d.r.m, .int .i64 d.r.s, .int .i64 d.r.v, .int .i64 d.r.f]) := Lib.hid (blk_range BB)
            clear BB
            have kz := Lib.hid (fun (U : World) (hU : Sx w (spaO s (SpaM.ack X ⟨d.k.delay, rs, d.k.marked, d.k.m0, d.k.m1, d.k.m2⟩) :: rspaO m (SpaM.ack X ⟨d.k.delay, rs, d.k.marked, d.k.m0, d.k.m1, d.k.m2⟩) :: []) U) => sameZ_sx H (s := s) (m := m) HO2.out d.kd d.now d.p d.k.delay A2 k c2 d.k.marked d.k.m0 d.k.m1 d.k.m2 d.r hU)
            have D5 : Hid (Sx w (spaO s (SpaM.ack X ⟨d.k.delay, rs, d.k.marked, d.k.m0, d.k.m1, d.k.m2⟩) :: rspaO m (SpaM.ack X ⟨d.k.delay, rs, d.k.marked, d.k.m0, d.k.m1, d.k.m2⟩) :: []) _) := Lib.hid (D.out.sel 6 [4, 1] [0, 2, 3, 5] (by decide))
            go_wp2_with (refine load_mid_w rfl 40 _ rfl bd 0 rfl [.int .i64 d.kd, .int .i64 d.now, .int .i64 d.p.n, .int .i64 d.p.t, .int .i64 d.p.s, .bool d.p.e, .bool d.p.f, .bool d.p.c, .int .i64 d.k.delay, .slice A2 k c2, .bool d.k.marked, .int .i64 d.k.m0, .int .i64 d.k.m1, .int .i64 d.k.m2, .int .i64 d.r.l, .int .i64 d.r.m, .int .i64 d.r.s, .int .i64 d.r.v, .int .i64 d.r.f] _ HR.out Tryz.underlying40 rfl info_do ?_)
            refine (kz.out _ D5.out).mono ?_
            rintro e u16 ⟨rfl, hb⟩
            have D := Lib.hid hb
            clear hb kz D5 HR
            go_wp2_with fail
            go_roundw
            case rel => exact ⟨i + 1, s, m, SpaM.ack X ⟨d.k.delay, rs, d.k.marked, d.k.m0, d.k.m1, d.k.m2⟩, by omega, by omega, rfl, rfl, by go_num, HO2, D⟩
            case measure => simp [intOf]; omega
          · have HO2 : Hid (OkS (SpaM.ack X ⟨d.k.delay, rs, d.k.marked, d.k.m0, d.k.m1, d.k.m2⟩)) := Lib.hid (ack_ok HO.out _)
            obtain ⟨E, hE⟩ : ∃ E, ackE X ⟨d.k.delay, rs, d.k.marked, d.k.m0, d.k.m1, d.k.m2⟩ = E := ⟨_, rfl⟩
            have k1 := Lib.hid (fun (A5 : Option Addr) (c5 : Nat) (U : World) (hU : Sx w (spaO s X :: rngO A2 k c2 rs :: rspaO m X :: box bd 40 #[.int .i64 d.kd, .int .i64 d.now, .int .i64 d.p.n, .int .i64 d.p.t, .int .i64 d.p.s, .bool d.p.e, .bool d.p.f, .bool d.p.c, .int .i64 d.k.delay, .slice A2 k c2, .bool d.k.marked, .int .i64 d.k.m0, .int .i64 d.k.m1, .int .i64 d.k.m2, .int .i64 d.r.l, .int .i64 d.r.m, .int .i64 d.r.s, .int .i64 d.r.v, .int .i64 d.r.f] :: []) U) => (show Calls Tryz.prog 17 #[ptr s, kV A2 k c2 ⟨d.k.delay, rs, d.k.marked, d.k.m0, d.k.m1, d.k.m2⟩] U (fun e W => ∃ A5 c5, e = .returned (.tuple #[.slice A5 (ackL X ⟨d.k.delay, rs, d.k.marked, d.k.m0, d.k.m1, d.k.m2⟩).length c5, .int .i64 E]) ∧ Sx w (pkO A5 (ackL X ⟨d.k.delay, rs, d.k.marked, d.k.m0, d.k.m1, d.k.m2⟩).length c5 (ackL X ⟨d.k.delay, rs, d.k.marked, d.k.m0, d.k.m1, d.k.m2⟩) :: spaO s (SpaM.ack X ⟨d.k.delay, rs, d.k.marked, d.k.m0, d.k.m1, d.k.m2⟩) :: rngO A2 k c2 rs :: rspaO m X :: box bd 40 #[.int .i64 d.kd, .int .i64 d.now, .int .i64 d.p.n, .int .i64 d.p.t, .int .i64 d.p.s, .bool d.p.e, .bool d.p.f, .bool d.p.c, .int .i64 d.k.delay, .slice A2 k c2, .bool d.k.marked, .int .i64 d.k.m0, .int .i64 d.k.m1, .int .i64 d.k.m2, .int .i64 d.r.l, .int .i64 d.r.m, .int .i64 d.r.s, .int .i64 d.r.v, .int .i64 d.r.f] :: []) W) from (H.ack ⟨d.k.delay, rs, d.k.marked, d.k.m0, d.k.m1, d.k.m2⟩ HO.out hU).mono fun e W ⟨A, n, c', he, hn, h2⟩ => by subst hn; exact ⟨A, c', hE ▸ he, h2⟩))
            have k2 := Lib.hid (fun (A5 : Option Addr) (c5 : Nat) (U : World) (hU : Sx w (rspaO m X :: rngO A2 k c2 rs :: pkO A5 (ackL X ⟨d.k.delay, rs, d.k.marked, d.k.m0, d.k.m1, d.k.m2⟩).length c5 (ackL X ⟨d.k.delay, rs, d.k.marked, d.k.m0, d.k.m1, d.k.m2⟩) :: spaO s (SpaM.ack X ⟨d.k.delay, rs, d.k.marked, d.k.m0, d.k.m1, d.k.m2⟩) :: box bd 40 #[.int .i64 d.kd, .int .i64 d.now, .int .i64 d.p.n, .int .i64 d.p.t, .int .i64 d.p.s, .bool d.p.e, .bool d.p.f, .bool d.p.c, .int .i64 d.k.delay, .slice A2 k c2, .bool d.k.marked, .int .i64 d.k.m0, .int .i64 d.k.m1, .int .i64 d.k.m2, .int .i64 d.r.l, .int .i64 d.r.m, .int .i64 d.r.s, .int .i64 d.r.v, .int .i64 d.r.f] :: []) U) => (show Calls Tryz.prog 18 #[ptr m, kV A2 k c2 ⟨d.k.delay, rs, d.k.marked, d.k.m0, d.k.m1, d.k.m2⟩] U (fun e W => ∃ A6 c6, e = .returned (.tuple #[.slice A6 (ackL X ⟨d.k.delay, rs, d.k.marked, d.k.m0, d.k.m1, d.k.m2⟩).length c6, .int .i64 E]) ∧ Sx w (pkO A6 (ackL X ⟨d.k.delay, rs, d.k.marked, d.k.m0, d.k.m1, d.k.m2⟩).length c6 (ackL X ⟨d.k.delay, rs, d.k.marked, d.k.m0, d.k.m1, d.k.m2⟩) :: rspaO m (SpaM.ack X ⟨d.k.delay, rs, d.k.marked, d.k.m0, d.k.m1, d.k.m2⟩) :: rngO A2 k c2 rs :: pkO A5 (ackL X ⟨d.k.delay, rs, d.k.marked, d.k.m0, d.k.m1, d.k.m2⟩).length c5 (ackL X ⟨d.k.delay, rs, d.k.marked, d.k.m0, d.k.m1, d.k.m2⟩) :: spaO s (SpaM.ack X ⟨d.k.delay, rs, d.k.marked, d.k.m0, d.k.m1, d.k.m2⟩) :: box bd 40 #[.int .i64 d.kd, .int .i64 d.now, .int .i64 d.p.n, .int .i64 d.p.t, .int .i64 d.p.s, .bool d.p.e, .bool d.p.f, .bool d.p.c, .int .i64 d.k.delay, .slice A2 k c2, .bool d.k.marked, .int .i64 d.k.m0, .int .i64 d.k.m1, .int .i64 d.k.m2, .int .i64 d.r.l, .int .i64 d.r.m, .int .i64 d.r.s, .int .i64 d.r.v, .int .i64 d.r.f] :: []) W) from (rspa_ack0 ⟨d.k.delay, rs, d.k.marked, d.k.m0, d.k.m1, d.k.m2⟩ hU).mono fun e W ⟨A, n, c', he, hn, h2⟩ => by subst hn; exact ⟨A, c', hE ▸ he, h2⟩))
            clear hE
            have D : Hid (Sx w (spaO s X :: rngO A2 k c2 rs :: rspaO m X :: box bd 40 #[.int .i64 d.kd, .int .i64 d.now, .int .i64 d.p.n, .int .i64 d.p.t, .int .i64 d.p.s, .bool d.p.e, .bool d.p.f, .bool d.p.c, .int .i64 d.k.delay, .slice A2 k c2, .bool d.k.marked, .int .i64 d.k.m0, .int .i64 d.k.m1, .int .i64 d.k.m2, .int .i64 d.r.l, .int .i64 d.r.m, .int .i64 d.r.s, .int .i64 d.r.v, .int .i64 d.r.f] :: []) _) := Lib.hid (D.out.sel 4 [0, 3, 1, 2] [] (by decide))
            have Bz := D.out.box_ 3 rfl
            have z8 := Bz.cell 8
            have z9 := Bz.cell 9
            have z10 := Bz.cell 10
            have z11 := Bz.cell 11
            have z12 := Bz.cell 12
            have z13 := Bz.cell 13
            have tz := Bz.lt
            clear Bz
            go_wp2_with fail
            refine (k1.out none 0 _ D.out).mono ?_
            rintro e u17 ⟨A5, c5, rfl, hb⟩
            have D : Hid (Sx w (rspaO m X :: rngO A2 k c2 rs :: pkO A5 (ackL X ⟨d.k.delay, rs, d.k.marked, d.k.m0, d.k.m1, d.k.m2⟩).length c5 (ackL X ⟨d.k.delay, rs, d.k.marked, d.k.m0, d.k.m1, d.k.m2⟩) :: spaO s (SpaM.ack X ⟨d.k.delay, rs, d.k.marked, d.k.m0, d.k.m1, d.k.m2⟩) :: box bd 40 #[.int .i64 d.kd, .int .i64 d.now, .int .i64 d.p.n, .int .i64 d.p.t, .int .i64 d.p.s, .bool d.p.e, .bool d.p.f, .bool d.p.c, .int .i64 d.k.delay, .slice A2 k c2, .bool d.k.marked, .int .i64 d.k.m0, .int .i64 d.k.m1, .int .i64 d.k.m2, .int .i64 d.r.l, .int .i64 d.r.m, .int .i64 d.r.s, .int .i64 d.r.v, .int .i64 d.r.f] :: []) u17) := Lib.hid (hb.sel 5 [3, 2, 0, 1, 4] [] (by decide))
            clear hb
            clear z8 z9 z10 z11 z12 z13 tz
            have Bz := D.out.box_ 4 rfl
            have z8 := Bz.cell 8
            have z9 := Bz.cell 9
            have z10 := Bz.cell 10
            have z11 := Bz.cell 11
            have z12 := Bz.cell 12
            have z13 := Bz.cell 13
            have tz := Bz.lt
            clear Bz
            go_wp2_with fail
            refine (k2.out A5 c5 _ D.out).mono ?_
            rintro e u18 ⟨A6, c6, rfl, hb⟩
            have D : Hid (Sx w (pkO A6 (ackL X ⟨d.k.delay, rs, d.k.marked, d.k.m0, d.k.m1, d.k.m2⟩).length c6 (ackL X ⟨d.k.delay, rs, d.k.marked, d.k.m0, d.k.m1, d.k.m2⟩) :: rspaO m (SpaM.ack X ⟨d.k.delay, rs, d.k.marked, d.k.m0, d.k.m1, d.k.m2⟩) :: rngO A2 k c2 rs :: pkO A5 (ackL X ⟨d.k.delay, rs, d.k.marked, d.k.m0, d.k.m1, d.k.m2⟩).length c5 (ackL X ⟨d.k.delay, rs, d.k.marked, d.k.m0, d.k.m1, d.k.m2⟩) :: spaO s (SpaM.ack X ⟨d.k.delay, rs, d.k.marked, d.k.m0, d.k.m1, d.k.m2⟩) :: box bd 40 #[.int .i64 d.kd, .int .i64 d.now, .int .i64 d.p.n, .int .i64 d.p.t, .int .i64 d.p.s, .bool d.p.e, .bool d.p.f, .bool d.p.c, .int .i64 d.k.delay, .slice A2 k c2, .bool d.k.marked, .int .i64 d.k.m0, .int .i64 d.k.m1, .int .i64 d.k.m2, .int .i64 d.r.l, .int .i64 d.r.m, .int .i64 d.r.s, .int .i64 d.r.v, .int .i64 d.r.f] :: []) u18) := Lib.hid (hb)
            clear hb
            clear z8 z9 z10 z11 z12 z13 tz
            clear k1 k2
            have ke := Lib.hid (same09 D.out 3 0 rfl rfl)
            go_wp2_with fail
            refine ke.out.mono ?_
            clear ke
            rintro e u19 ⟨rfl, hb⟩
            have D := Lib.hid hb
            clear hb
            have BB := D.out.box_ 5 rfl
            have HR : Hid (World.rangeAt _ bd 0 [.int .i64 d.kd, .int .i64 d.now, .int .i64 d.p.n, .int .i64 d.p.t, .int .i64 d.p.s, .bool d.p.e, .bool d.p.f, .bool d.p.c, .int .i64 d.k.delay, .slice A2 k c2, .bool d.k.marked, .int .i64 d.k.m0, .int .i64 d.k.m1, .int .i64 d.k.m2, .int .i64 d.r.l, .int .i64 d.r.m, .int .i64 d.r.s, .int .i64 d.r.v, .int .i64 d.r.f]) := Lib.hid (blk_range BB)
            clear BB
            have kz := Lib.hid (fun (U : World) (hU : Sx w (spaO s (SpaM.ack X ⟨d.k.delay, rs, d.k.marked, d.k.m0, d.k.m1, d.k.m2⟩) :: rspaO m (SpaM.ack X ⟨d.k.delay, rs, d.k.marked, d.k.m0, d.k.m1, d.k.m2⟩) :: []) U) => sameZ_sx H (s := s) (m := m) HO2.out d.kd d.now d.p d.k.delay A2 k c2 d.k.marked d.k.m0 d.k.m1 d.k.m2 d.r hU)
            have D5 : Hid (Sx w (spaO s (SpaM.ack X ⟨d.k.delay, rs, d.k.marked, d.k.m0, d.k.m1, d.k.m2⟩) :: rspaO m (SpaM.ack X ⟨d.k.delay, rs, d.k.marked, d.k.m0, d.k.m1, d.k.m2⟩) :: []) _) := Lib.hid (D.out.sel 6 [4, 1] [0, 2, 3, 5] (by decide))
            go_wp2_with (refine load_mid_w rfl 40 _ rfl bd 0 rfl [.int .i64 d.kd, .int .i64 d.now, .int .i64 d.p.n, .int .i64 d.p.t, .int .i64 d.p.s, .bool d.p.e, .bool d.p.f, .bool d.p.c, .int .i64 d.k.delay, .slice A2 k c2, .bool d.k.marked, .int .i64 d.k.m0, .int .i64 d.k.m1, .int .i64 d.k.m2, .int .i64 d.r.l, .int .i64 d.r.m, .int .i64 d.r.s, .int .i64 d.r.v, .int .i64 d.r.f] _ HR.out Tryz.underlying40 rfl info_do ?_)
            refine (kz.out _ D5.out).mono ?_
            rintro e u20 ⟨rfl, hb⟩
            have D := Lib.hid hb
            clear hb kz D5 HR
            go_wp2_with fail
            go_roundw
            case rel => exact ⟨i + 1, s, m, SpaM.ack X ⟨d.k.delay, rs, d.k.marked, d.k.m0, d.k.m1, d.k.m2⟩, by omega, by omega, rfl, rfl, by go_num, HO2, D⟩
            case measure => simp [intOf]; omega
          · have HO2 : Hid (OkS (lose X d.now d.r)) := Lib.hid (lose_ok HO.out _ _)
            obtain ⟨E, hE⟩ : ∃ E, loseE X d.now d.r = E := ⟨_, rfl⟩
            have k1 := Lib.hid (fun (A5 : Option Addr) (c5 : Nat) (U : World) (hU : Sx w (spaO s X :: rngO A2 k c2 rs :: rspaO m X :: box bd 40 #[.int .i64 d.kd, .int .i64 d.now, .int .i64 d.p.n, .int .i64 d.p.t, .int .i64 d.p.s, .bool d.p.e, .bool d.p.f, .bool d.p.c, .int .i64 d.k.delay, .slice A2 k c2, .bool d.k.marked, .int .i64 d.k.m0, .int .i64 d.k.m1, .int .i64 d.k.m2, .int .i64 d.r.l, .int .i64 d.r.m, .int .i64 d.r.s, .int .i64 d.r.v, .int .i64 d.r.f] :: []) U) => (show Calls Tryz.prog 19 #[ptr s, .int .i64 d.now, rtV d.r] U (fun e W => ∃ A5 c5, e = .returned (.tuple #[.slice A5 (loseL X d.now d.r).length c5, .int .i64 E]) ∧ Sx w (pkO A5 (loseL X d.now d.r).length c5 (loseL X d.now d.r) :: spaO s (lose X d.now d.r) :: rngO A2 k c2 rs :: rspaO m X :: box bd 40 #[.int .i64 d.kd, .int .i64 d.now, .int .i64 d.p.n, .int .i64 d.p.t, .int .i64 d.p.s, .bool d.p.e, .bool d.p.f, .bool d.p.c, .int .i64 d.k.delay, .slice A2 k c2, .bool d.k.marked, .int .i64 d.k.m0, .int .i64 d.k.m1, .int .i64 d.k.m2, .int .i64 d.r.l, .int .i64 d.r.m, .int .i64 d.r.s, .int .i64 d.r.v, .int .i64 d.r.f] :: []) W) from (H.lose d.now d.r HO.out hU).mono fun e W ⟨A, n, c', he, hn, h2⟩ => by subst hn; exact ⟨A, c', hE ▸ he, h2⟩))
            have k2 := Lib.hid (fun (A5 : Option Addr) (c5 : Nat) (U : World) (hU : Sx w (rspaO m X :: rngO A2 k c2 rs :: pkO A5 (loseL X d.now d.r).length c5 (loseL X d.now d.r) :: spaO s (lose X d.now d.r) :: box bd 40 #[.int .i64 d.kd, .int .i64 d.now, .int .i64 d.p.n, .int .i64 d.p.t, .int .i64 d.p.s, .bool d.p.e, .bool d.p.f, .bool d.p.c, .int .i64 d.k.delay, .slice A2 k c2, .bool d.k.marked, .int .i64 d.k.m0, .int .i64 d.k.m1, .int .i64 d.k.m2, .int .i64 d.r.l, .int .i64 d.r.m, .int .i64 d.r.s, .int .i64 d.r.v, .int .i64 d.r.f] :: []) U) => (show Calls Tryz.prog 20 #[ptr m, .int .i64 d.now, rtV d.r] U (fun e W => ∃ A6 c6, e = .returned (.tuple #[.slice A6 (loseL X d.now d.r).length c6, .int .i64 E]) ∧ Sx w (pkO A6 (loseL X d.now d.r).length c6 (loseL X d.now d.r) :: rspaO m (lose X d.now d.r) :: rngO A2 k c2 rs :: pkO A5 (loseL X d.now d.r).length c5 (loseL X d.now d.r) :: spaO s (lose X d.now d.r) :: box bd 40 #[.int .i64 d.kd, .int .i64 d.now, .int .i64 d.p.n, .int .i64 d.p.t, .int .i64 d.p.s, .bool d.p.e, .bool d.p.f, .bool d.p.c, .int .i64 d.k.delay, .slice A2 k c2, .bool d.k.marked, .int .i64 d.k.m0, .int .i64 d.k.m1, .int .i64 d.k.m2, .int .i64 d.r.l, .int .i64 d.r.m, .int .i64 d.r.s, .int .i64 d.r.v, .int .i64 d.r.f] :: []) W) from (rspa_lose0 d.now d.r hU).mono fun e W ⟨A, n, c', he, hn, h2⟩ => by subst hn; exact ⟨A, c', hE ▸ he, h2⟩))
            clear hE
            have D : Hid (Sx w (spaO s X :: rngO A2 k c2 rs :: rspaO m X :: box bd 40 #[.int .i64 d.kd, .int .i64 d.now, .int .i64 d.p.n, .int .i64 d.p.t, .int .i64 d.p.s, .bool d.p.e, .bool d.p.f, .bool d.p.c, .int .i64 d.k.delay, .slice A2 k c2, .bool d.k.marked, .int .i64 d.k.m0, .int .i64 d.k.m1, .int .i64 d.k.m2, .int .i64 d.r.l, .int .i64 d.r.m, .int .i64 d.r.s, .int .i64 d.r.v, .int .i64 d.r.f] :: []) _) := Lib.hid (D.out.sel 4 [0, 3, 1, 2] [] (by decide))
            have Bz := D.out.box_ 3 rfl
            have z1 := Bz.cell 1
            have z14 := Bz.cell 14
            have z15 := Bz.cell 15
            have z16 := Bz.cell 16
            have z17 := Bz.cell 17
            have z18 := Bz.cell 18
            have tz := Bz.lt
            clear Bz
            go_wp2_with fail
            refine (k1.out none 0 _ D.out).mono ?_
            rintro e u21 ⟨A5, c5, rfl, hb⟩
            have D : Hid (Sx w (rspaO m X :: rngO A2 k c2 rs :: pkO A5 (loseL X d.now d.r).length c5 (loseL X d.now d.r) :: spaO s (lose X d.now d.r) :: box bd 40 #[.int .i64 d.kd, .int .i64 d.now, .int .i64 d.p.n, .int .i64 d.p.t, .int .i64 d.p.s, .bool d.p.e, .bool d.p.f, .bool d.p.c, .int .i64 d.k.delay, .slice A2 k c2, .bool d.k.marked, .int .i64 d.k.m0, .int .i64 d.k.m1, .int .i64 d.k.m2, .int .i64 d.r.l, .int .i64 d.r.m, .int .i64 d.r.s, .int .i64 d.r.v, .int .i64 d.r.f] :: []) u21) := Lib.hid (hb.sel 5 [3, 2, 0, 1, 4] [] (by decide))
            clear hb
            clear z1 z14 z15 z16 z17 z18 tz
            have Bz := D.out.box_ 4 rfl
            have z1 := Bz.cell 1
            have z14 := Bz.cell 14
            have z15 := Bz.cell 15
            have z16 := Bz.cell 16
            have z17 := Bz.cell 17
            have z18 := Bz.cell 18
            have tz := Bz.lt
            clear Bz
            go_wp2_with fail
            refine (k2.out A5 c5 _ D.out).mono ?_
            rintro e u22 ⟨A6, c6, rfl, hb⟩
            have D : Hid (Sx w (pkO A6 (loseL X d.now d.r).length c6 (loseL X d.now d.r) :: rspaO m (lose X d.now d.r) :: rngO A2 k c2 rs :: pkO A5 (loseL X d.now d.r).length c5 (loseL X d.now d.r) :: spaO s (lose X d.now d.r) :: box bd 40 #[.int .i64 d.kd, .int .i64 d.now, .int .i64 d.p.n, .int .i64 d.p.t, .int .i64 d.p.s, .bool d.p.e, .bool d.p.f, .bool d.p.c, .int .i64 d.k.delay, .slice A2 k c2, .bool d.k.marked, .int .i64 d.k.m0, .int .i64 d.k.m1, .int .i64 d.k.m2, .int .i64 d.r.l, .int .i64 d.r.m, .int .i64 d.r.s, .int .i64 d.r.v, .int .i64 d.r.f] :: []) u22) := Lib.hid (hb)
            clear hb
            clear z1 z14 z15 z16 z17 z18 tz
            clear k1 k2
            have ke := Lib.hid (same09 D.out 3 0 rfl rfl)
            go_wp2_with fail
            refine ke.out.mono ?_
            clear ke
            rintro e u23 ⟨rfl, hb⟩
            have D := Lib.hid hb
            clear hb
            have BB := D.out.box_ 5 rfl
            have HR : Hid (World.rangeAt _ bd 0 [.int .i64 d.kd, .int .i64 d.now, .int .i64 d.p.n, .int .i64 d.p.t, .int .i64 d.p.s, .bool d.p.e, .bool d.p.f, .bool d.p.c, .int .i64 d.k.delay, .slice A2 k c2, .bool d.k.marked, .int .i64 d.k.m0, .int .i64 d.k.m1, .int .i64 d.k.m2, .int .i64 d.r.l, .int .i64 d.r.m, .int .i64 d.r.s, .int .i64 d.r.v, .int .i64 d.r.f]) := Lib.hid (blk_range BB)
            clear BB
            have kz := Lib.hid (fun (U : World) (hU : Sx w (spaO s (lose X d.now d.r) :: rspaO m (lose X d.now d.r) :: []) U) => sameZ_sx H (s := s) (m := m) HO2.out d.kd d.now d.p d.k.delay A2 k c2 d.k.marked d.k.m0 d.k.m1 d.k.m2 d.r hU)
            have D5 : Hid (Sx w (spaO s (lose X d.now d.r) :: rspaO m (lose X d.now d.r) :: []) _) := Lib.hid (D.out.sel 6 [4, 1] [0, 2, 3, 5] (by decide))
            go_wp2_with (refine load_mid_w rfl 40 _ rfl bd 0 rfl [.int .i64 d.kd, .int .i64 d.now, .int .i64 d.p.n, .int .i64 d.p.t, .int .i64 d.p.s, .bool d.p.e, .bool d.p.f, .bool d.p.c, .int .i64 d.k.delay, .slice A2 k c2, .bool d.k.marked, .int .i64 d.k.m0, .int .i64 d.k.m1, .int .i64 d.k.m2, .int .i64 d.r.l, .int .i64 d.r.m, .int .i64 d.r.s, .int .i64 d.r.v, .int .i64 d.r.f] _ HR.out Tryz.underlying40 rfl info_do ?_)
            refine (kz.out _ D5.out).mono ?_
            rintro e u24 ⟨rfl, hb⟩
            have D := Lib.hid hb
            clear hb kz D5 HR
            go_wp2_with fail
            go_roundw
            case rel => exact ⟨i + 1, s, m, lose X d.now d.r, by omega, by omega, rfl, rfl, by go_num, HO2, D⟩
            case measure => simp [intOf]; omega
          · go_wp2_with fail
            refine (H.copy HO.out D.out 0 rfl).mono ?_
            rintro e u25 ⟨q, rfl, hb⟩
            have D : Hid (Sx w (spaO q X :: spaO s X :: rspaO m X :: box bd 40 #[.int .i64 d.kd, .int .i64 d.now, .int .i64 d.p.n, .int .i64 d.p.t, .int .i64 d.p.s, .bool d.p.e, .bool d.p.f, .bool d.p.c, .int .i64 d.k.delay, .slice A2 k c2, .bool d.k.marked, .int .i64 d.k.m0, .int .i64 d.k.m1, .int .i64 d.k.m2, .int .i64 d.r.l, .int .i64 d.r.m, .int .i64 d.r.s, .int .i64 d.r.v, .int .i64 d.r.f] :: rngO A2 k c2 rs :: []) u25) := Lib.hid (hb)
            clear hb
            go_wp2_with fail
            refine (rspa_copy D.out 2 rfl).mono ?_
            rintro e u26 ⟨q2, rfl, hb⟩
            have D : Hid (Sx w (rspaO q2 X :: spaO q X :: spaO s X :: rspaO m X :: box bd 40 #[.int .i64 d.kd, .int .i64 d.now, .int .i64 d.p.n, .int .i64 d.p.t, .int .i64 d.p.s, .bool d.p.e, .bool d.p.f, .bool d.p.c, .int .i64 d.k.delay, .slice A2 k c2, .bool d.k.marked, .int .i64 d.k.m0, .int .i64 d.k.m1, .int .i64 d.k.m2, .int .i64 d.r.l, .int .i64 d.r.m, .int .i64 d.r.s, .int .i64 d.r.v, .int .i64 d.r.f] :: rngO A2 k c2 rs :: []) u26) := Lib.hid (hb)
            clear hb
            have k3 := Lib.hid (fun (U : World) (hU : Sx w (rspaO q2 X :: spaO q X :: spaO s X :: rspaO m X :: box bd 40 #[.int .i64 d.kd, .int .i64 d.now, .int .i64 d.p.n, .int .i64 d.p.t, .int .i64 d.p.s, .bool d.p.e, .bool d.p.f, .bool d.p.c, .int .i64 d.k.delay, .slice A2 k c2, .bool d.k.marked, .int .i64 d.k.m0, .int .i64 d.k.m1, .int .i64 d.k.m2, .int .i64 d.r.l, .int .i64 d.r.m, .int .i64 d.r.s, .int .i64 d.r.v, .int .i64 d.r.f] :: rngO A2 k c2 rs :: []) U) => (show Calls Tryz.prog 23 #[ptr s] U (Gets (.tuple #[]) w (rspaO q2 X :: spaO q X :: spaO s (SpaM.disc X) :: rspaO m X :: box bd 40 #[.int .i64 d.kd, .int .i64 d.now, .int .i64 d.p.n, .int .i64 d.p.t, .int .i64 d.p.s, .bool d.p.e, .bool d.p.f, .bool d.p.c, .int .i64 d.k.delay, .slice A2 k c2, .bool d.k.marked, .int .i64 d.k.m0, .int .i64 d.k.m1, .int .i64 d.k.m2, .int .i64 d.r.l, .int .i64 d.r.m, .int .i64 d.r.s, .int .i64 d.r.v, .int .i64 d.r.f] :: rngO A2 k c2 rs :: [])) from (H.disc s X HO.out).at_ hU 2 rfl))
            go_wp2_with fail
            refine (k3.out _ D.out).mono ?_
            rintro e u27 ⟨rfl, hb⟩
            have D : Hid (Sx w (rspaO q2 X :: spaO q X :: spaO s (SpaM.disc X) :: rspaO m X :: box bd 40 #[.int .i64 d.kd, .int .i64 d.now, .int .i64 d.p.n, .int .i64 d.p.t, .int .i64 d.p.s, .bool d.p.e, .bool d.p.f, .bool d.p.c, .int .i64 d.k.delay, .slice A2 k c2, .bool d.k.marked, .int .i64 d.k.m0, .int .i64 d.k.m1, .int .i64 d.k.m2, .int .i64 d.r.l, .int .i64 d.r.m, .int .i64 d.r.s, .int .i64 d.r.v, .int .i64 d.r.f] :: rngO A2 k c2 rs :: []) u27) := Lib.hid (hb)
            clear hb k3
            go_wp2_with fail
            refine (same_nil _).mono ?_
            rintro e u28 ⟨rfl, hk⟩
            have D := Lib.hid (D.out.on hk)
            clear hk
            have BB := D.out.box_ 4 rfl
            have HR : Hid (World.rangeAt _ bd 0 [.int .i64 d.kd, .int .i64 d.now, .int .i64 d.p.n, .int .i64 d.p.t, .int .i64 d.p.s, .bool d.p.e, .bool d.p.f, .bool d.p.c, .int .i64 d.k.delay, .slice A2 k c2, .bool d.k.marked, .int .i64 d.k.m0, .int .i64 d.k.m1, .int .i64 d.k.m2, .int .i64 d.r.l, .int .i64 d.r.m, .int .i64 d.r.s, .int .i64 d.r.v, .int .i64 d.r.f]) := Lib.hid (blk_range BB)
            clear BB
            have kz := Lib.hid (fun (U : World) (hU : Sx w (spaO q (X) :: rspaO q2 (X) :: []) U) => sameZ_sx H (s := q) (m := q2) HO.out d.kd d.now d.p d.k.delay A2 k c2 d.k.marked d.k.m0 d.k.m1 d.k.m2 d.r hU)
            have D5 : Hid (Sx w (spaO q (X) :: rspaO q2 (X) :: []) _) := Lib.hid (D.out.sel 6 [1, 0] [2, 3, 4, 5] (by decide))
            go_wp2_with (refine load_mid_w rfl 40 _ rfl bd 0 rfl [.int .i64 d.kd, .int .i64 d.now, .int .i64 d.p.n, .int .i64 d.p.t, .int .i64 d.p.s, .bool d.p.e, .bool d.p.f, .bool d.p.c, .int .i64 d.k.delay, .slice A2 k c2, .bool d.k.marked, .int .i64 d.k.m0, .int .i64 d.k.m1, .int .i64 d.k.m2, .int .i64 d.r.l, .int .i64 d.r.m, .int .i64 d.r.s, .int .i64 d.r.v, .int .i64 d.r.f] _ HR.out Tryz.underlying40 rfl info_do ?_)
            refine (kz.out _ D5.out).mono ?_
            rintro e u29 ⟨rfl, hb⟩
            have D := Lib.hid hb
            clear hb kz D5 HR
            go_wp2_with fail
            go_roundw
            case rel => exact ⟨i + 1, q, q2, X, by omega, by omega, rfl, rfl, by go_num, HO, D⟩
            case measure => simp [intOf]; omega
          · have HO2 := Lib.hid (disc_ok HO.out)
            have k1 := Lib.hid (fun (U : World) (hU : Sx w (spaO s X :: rspaO m X :: box bd 40 #[.int .i64 d.kd, .int .i64 d.now, .int .i64 d.p.n, .int .i64 d.p.t, .int .i64 d.p.s, .bool d.p.e, .bool d.p.f, .bool d.p.c, .int .i64 d.k.delay, .slice A2 k c2, .bool d.k.marked, .int .i64 d.k.m0, .int .i64 d.k.m1, .int .i64 d.k.m2, .int .i64 d.r.l, .int .i64 d.r.m, .int .i64 d.r.s, .int .i64 d.r.v, .int .i64 d.r.f] :: rngO A2 k c2 rs :: []) U) => (show Calls Tryz.prog 23 #[ptr s] U (Gets (.tuple #[]) w (spaO s (SpaM.disc X) :: rspaO m X :: box bd 40 #[.int .i64 d.kd, .int .i64 d.now, .int .i64 d.p.n, .int .i64 d.p.t, .int .i64 d.p.s, .bool d.p.e, .bool d.p.f, .bool d.p.c, .int .i64 d.k.delay, .slice A2 k c2, .bool d.k.marked, .int .i64 d.k.m0, .int .i64 d.k.m1, .int .i64 d.k.m2, .int .i64 d.r.l, .int .i64 d.r.m, .int .i64 d.r.s, .int .i64 d.r.v, .int .i64 d.r.f] :: rngO A2 k c2 rs :: [])) from (H.disc s X HO.out).at_ hU 0 rfl))
            have k2 := Lib.hid (fun (U : World) (hU : Sx w (spaO s (SpaM.disc X) :: rspaO m X :: box bd 40 #[.int .i64 d.kd, .int .i64 d.now, .int .i64 d.p.n, .int .i64 d.p.t, .int .i64 d.p.s, .bool d.p.e, .bool d.p.f, .bool d.p.c, .int .i64 d.k.delay, .slice A2 k c2, .bool d.k.marked, .int .i64 d.k.m0, .int .i64 d.k.m1, .int .i64 d.k.m2, .int .i64 d.r.l, .int .i64 d.r.m, .int .i64 d.r.s, .int .i64 d.r.v, .int .i64 d.r.f] :: rngO A2 k c2 rs :: []) U) => (show Calls Tryz.prog 24 #[ptr m] U (Gets (.tuple #[]) w (spaO s (SpaM.disc X) :: rspaO m (SpaM.disc X) :: box bd 40 #[.int .i64 d.kd, .int .i64 d.now, .int .i64 d.p.n, .int .i64 d.p.t, .int .i64 d.p.s, .bool d.p.e, .bool d.p.f, .bool d.p.c, .int .i64 d.k.delay, .slice A2 k c2, .bool d.k.marked, .int .i64 d.k.m0, .int .i64 d.k.m1, .int .i64 d.k.m2, .int .i64 d.r.l, .int .i64 d.r.m, .int .i64 d.r.s, .int .i64 d.r.v, .int .i64 d.r.f] :: rngO A2 k c2 rs :: [])) from (rspa_disc (s := m) (X := X)).at_ hU 1 rfl))
            go_wp2_with fail
            refine (k1.out _ D.out).mono ?_
            rintro e u30 ⟨rfl, hb⟩
            have D : Hid (Sx w (spaO s (SpaM.disc X) :: rspaO m X :: box bd 40 #[.int .i64 d.kd, .int .i64 d.now, .int .i64 d.p.n, .int .i64 d.p.t, .int .i64 d.p.s, .bool d.p.e, .bool d.p.f, .bool d.p.c, .int .i64 d.k.delay, .slice A2 k c2, .bool d.k.marked, .int .i64 d.k.m0, .int .i64 d.k.m1, .int .i64 d.k.m2, .int .i64 d.r.l, .int .i64 d.r.m, .int .i64 d.r.s, .int .i64 d.r.v, .int .i64 d.r.f] :: rngO A2 k c2 rs :: []) u30) := Lib.hid (hb)
            clear hb
            go_wp2_with fail
            refine (k2.out _ D.out).mono ?_
            rintro e u31 ⟨rfl, hb⟩
            have D : Hid (Sx w (spaO s (SpaM.disc X) :: rspaO m (SpaM.disc X) :: box bd 40 #[.int .i64 d.kd, .int .i64 d.now, .int .i64 d.p.n, .int .i64 d.p.t, .int .i64 d.p.s, .bool d.p.e, .bool d.p.f, .bool d.p.c, .int .i64 d.k.delay, .slice A2 k c2, .bool d.k.marked, .int .i64 d.k.m0, .int .i64 d.k.m1, .int .i64 d.k.m2, .int .i64 d.r.l, .int .i64 d.r.m, .int .i64 d.r.s, .int .i64 d.r.v, .int .i64 d.r.f] :: rngO A2 k c2 rs :: []) u31) := Lib.hid (hb)
            clear hb
            clear k1 k2
            go_wp2_with fail
            refine (same_nil _).mono ?_
            rintro e u32 ⟨rfl, hk⟩
            have D := Lib.hid (D.out.on hk)
            clear hk
            have BB := D.out.box_ 2 rfl
            have HR : Hid (World.rangeAt _ bd 0 [.int .i64 d.kd, .int .i64 d.now, .int .i64 d.p.n, .int .i64 d.p.t, .int .i64 d.p.s, .bool d.p.e, .bool d.p.f, .bool d.p.c, .int .i64 d.k.delay, .slice A2 k c2, .bool d.k.marked, .int .i64 d.k.m0, .int .i64 d.k.m1, .int .i64 d.k.m2, .int .i64 d.r.l, .int .i64 d.r.m, .int .i64 d.r.s, .int .i64 d.r.v, .int .i64 d.r.f]) := Lib.hid (blk_range BB)
            clear BB
            have kz := Lib.hid (fun (U : World) (hU : Sx w (spaO s (SpaM.disc X) :: rspaO m (SpaM.disc X) :: []) U) => sameZ_sx H (s := s) (m := m) HO2.out d.kd d.now d.p d.k.delay A2 k c2 d.k.marked d.k.m0 d.k.m1 d.k.m2 d.r hU)
            have D5 : Hid (Sx w (spaO s (SpaM.disc X) :: rspaO m (SpaM.disc X) :: []) _) := Lib.hid (D.out.sel 4 [0, 1] [2, 3] (by decide))
            go_wp2_with (refine load_mid_w rfl 40 _ rfl bd 0 rfl [.int .i64 d.kd, .int .i64 d.now, .int .i64 d.p.n, .int .i64 d.p.t, .int .i64 d.p.s, .bool d.p.e, .bool d.p.f, .bool d.p.c, .int .i64 d.k.delay, .slice A2 k c2, .bool d.k.marked, .int .i64 d.k.m0, .int .i64 d.k.m1, .int .i64 d.k.m2, .int .i64 d.r.l, .int .i64 d.r.m, .int .i64 d.r.s, .int .i64 d.r.v, .int .i64 d.r.f] _ HR.out Tryz.underlying40 rfl info_do ?_)
            refine (kz.out _ D5.out).mono ?_
            rintro e u33 ⟨rfl, hb⟩
            have D := Lib.hid hb
            clear hb kz D5 HR
            go_wp2_with fail
            go_roundw
            case rel => exact ⟨i + 1, s, m, SpaM.disc X, by omega, by omega, rfl, rfl, by go_num, HO2, D⟩
            case measure => simp [intOf]; omega
        · have hi1 : (i : Int) < (n : Int) := by omega
          have hi2 : ¬ (i : Int) < 70 := by omega
          go_wp2_with fail
          refine (works_any H _).mono ?_
          rintro e v9 ⟨rfl, hk⟩
          have D := Lib.hid (D.out.on hk)
          clear hk
          go_wp2_with fail
          go_ret
          exact ⟨rfl, D.out.K⟩
      · have hi1 : ¬ (i : Int) < (n : Int) := by omega
        go_wp2_with fail
        refine (works_any H _).mono ?_
        rintro e v9 ⟨rfl, hk⟩
        have D := Lib.hid (D.out.on hk)
        clear hk
        go_wp2_with fail
        go_ret
        exact ⟨rfl, D.out.K⟩
  · have k0 := Lib.hid (fun V => H.bad room hr V)
    have k1 := Lib.hid (fun V => rspa_bad room hr V)
    clear hr
    go_enter Tryz.func3, Tryz.ntmps3
    go_wp2_with fail
    refine (k0.out _).mono ?_
    rintro e v1 ⟨rfl, hk⟩
    go_wp2_with fail
    refine (k1.out _).mono ?_
    rintro e v2 ⟨rfl, rfl⟩
    go_wp2_with fail
    refine (works_any H _).mono ?_
    rintro e v9 ⟨rfl, hk2⟩
    go_wp2_with fail
    go_ret
    exact ⟨rfl, hk.trans hk2⟩
end Go.Proofs.YtilkgjpgoogiiaaGreat.Spa
