/-
  The law LossKnown: both ends of all fields, numbers and times; too many packets.
-/
import Derived.Test.YtilfimlojpejhaaLLosTells
import Derived.Deep.Cut
import Derived.Deep.CutRange
import Derived.Deep.RegionHeld3
namespace Go.Proofs.Ytilfimlojpejhaa.Law
open Go.RowKit SntM Cd Wd LosM Los
open Snt (pkC pkV pkA PRow pkE)
open Rtt (rtV rtA Gives Same GBool)
open RttM (Rt chk great)
set_option linter.unusedVariables false
set_option linter.unusedSimpArgs false

/-- A block that holds just these numbers. -/
def Nm (V : World) (Y : Nat) (t : TypeId) (L : List Int) : Prop := Blk V Y t (L.map (Value.int .i64)).toArray
def nt (L : List Int) (k : Nat) : Int := L.getD k 0
theorem Nm.cell {V : World} {Y : Nat} {t : TypeId} {L : List Int} (h : Nm V Y t L) {k : Nat} (hk : k < L.length) : V.cell? ⟨Y, k, none⟩ = some (.int .i64 (nt L k)) := by
  rw [Blk.cell h k]; simp [nt, List.getD, hk]
theorem Nm.kept {V V' : World} {Y : Nat} {t : TypeId} {L : List Int} (h : Nm V Y t L) (k : Kept V V') : Nm V' Y t L := Blk.kept h k
theorem Nm.far {V : World} {Y Z : Nat} {t : TypeId} {L : List Int} (h : Nm V Y t L) (hne : Y ≠ Z) (k : Nat) (v : Value) : Nm (V.setCell ⟨Z, k, none⟩ v) Y t L := Blk.far h (p := ⟨Z, k, none⟩) hne v

/-- What lies there: the ends. -/
structure Kn (w V : World) (E : Nat) (le : List Int) : Prop where
  e : Nm V E 3 le
  k : Kept w V
  ll : le.length = 15
theorem Kn.on {w V V' : World} {E : Nat} {le : List Int} (h : Kn w V E le) (k : Kept V V') : Kn w V' E le := ⟨h.e.kept k, h.k.trans k, h.ll⟩
/-- The same, and the packets. -/
structure Kq (w V : World) (E G : Nat) (le : List Int) (l : List Pk) : Prop where
  a : Kn w V E le
  g : Blk V G 33 (flat pkC l).toArray
  lo : w.heap.size ≤ G
  ne : E ≠ G
  l4 : l.length = 4
theorem Kq.on {w V V' : World} {E G : Nat} {le : List Int} {l : List Pk} (h : Kq w V E G le l) (k : Kept V V') : Kq w V' E G le l := ⟨h.a.on k, h.g.kept k, h.lo, h.ne, h.l4⟩
theorem Kq.ends {w V : World} {E G : Nat} {le : List Int} {l : List Pk} (h : Kq w V E G le l) {i k : Nat} (hi : i < 15) (hk : k < 15) : V.cell? ⟨E, i, none⟩ = some (.int .i64 (nt le i)) ∧ V.cell? ⟨E, k, none⟩ = some (.int .i64 (nt le k)) :=
  ⟨h.a.e.cell (by rw [h.a.ll]; omega), h.a.e.cell (by rw [h.a.ll]; omega)⟩
theorem Kq.src {w V : World} {E G : Nat} {le : List Int} {l : List Pk} (h : Kq w V E G le l) : Src V (some ⟨G, 0, none⟩) 4 4 l :=
  Src.of_row (Rw.mk' h.l4 h.g (Nat.le_refl _) (by unfold maxLen; omega) (by simp [flat_length, h.l4]) (by simp only []; exact List.take_of_length_le (by rw [flat_length, h.l4]; omega)))
theorem Kq.src2 {w V : World} {E G : Nat} {le : List Int} {l : List Pk} (h : Kq w V E G le l) : Src V (some ⟨G, 0, none⟩) 2 4 (l.take 2) := h.src.upto (by omega)
theorem Kq.set {w V : World} {E G : Nat} {le : List Int} {l l' : List Pk} (h : Kq w V E G le l) (k : Nat) (v : Value) (hl : (flat pkC l).toArray.setIfInBounds k v = (flat pkC l').toArray) (h4 : l'.length = 4) : Kq w (V.setCell ⟨G, k, none⟩ v) E G le l' := by
  refine ⟨⟨h.a.e.far h.ne k v, h.a.k.setCell (p := ⟨G, k, none⟩) h.lo v, h.a.ll⟩, ?_, h.lo, h.ne, h4⟩
  rw [← hl]
  exact h.g.set_ k v
theorem prow_blk {V : World} {G : Nat} {l : List Pk} (h : PRow V (some ⟨G, 0, none⟩) 4 4 l) : Blk V G 33 (flat pkC l).toArray := by
  rcases h.form with ⟨e, _⟩ | ⟨g, cur, e, hb, h1, h2, h3, h4⟩
  · cases e
  · obtain rfl : G = g := by injection e with e; injection e
    have e2 : cur.toList.take (4 * pkC.size) = cur.toList := List.take_of_length_le (by rw [Array.length_toList, h3]; exact Nat.le_refl _)
    rw [e2] at h4
    rw [← h4]
    simpa using hb
theorem tells_is (A : Option Addr) (n c : Nat) (l : List Pk) (x0 x1 y0 y1 y2 y3 y4 : Int) (w : World) (h : Src w A n c l) : Calls Try.prog 3 #[.slice A n c, .agg #[.int .i64 x0, .int .i64 x1], .agg #[.int .i64 y0, .int .i64 y1, .int .i64 y2, .int .i64 y3, .int .i64 y4]] w (GBool true w) := lossTells_any A n c l x0 x1 ⟨y0, y1, y2, y3, y4⟩ w h
theorem waits_is (y0 y1 y2 y3 y4 : Int) (w : World) : Calls Try.prog 4 #[.agg #[.int .i64 y0, .int .i64 y1, .int .i64 y2, .int .i64 y3, .int .i64 y4]] w (GBool true w) := lossWaits_any ⟨y0, y1, y2, y3, y4⟩ w
def endsL : List Int := [-9223372036854775808, -2, -1, 0, 1, 2, 3, 4, 5, 6, 65535, 65536, 9007199254740991, 9007199254740992, 9223372036854775807]
/-- The packets, with other numbers in them. -/
def fourA (x : Int) : List Pk := [⟨1, 0, 9, false, false, false⟩, ⟨2, 100, 9, false, false, false⟩, ⟨5, 200, 9, false, false, false⟩, ⟨x, 300, 9, false, false, false⟩]
def fourB (x y : Int) : List Pk := [⟨1, y, 9, false, false, false⟩, ⟨2, 100, 9, false, false, false⟩, ⟨5, 200, 9, false, false, false⟩, ⟨x, 300, 9, false, false, false⟩]
def fourC (x : Int) : List Pk := [⟨1, 0, 9, false, false, false⟩, ⟨2, 100, 9, false, false, false⟩, ⟨5, 200, x, false, false, false⟩, ⟨6, 300, 9, false, false, false⟩]

/-- Many packets. -/
def mq (i : Nat) : Pk := ⟨i, 0, 1, false, false, false⟩
def mseq (k : Nat) : List Pk := (List.range k).map mq
theorem mseq_len (k : Nat) : (mseq k).length = k := by unfold mseq; simp
theorem mseq_succ (k : Nat) : mseq (k + 1) = mseq k ++ [mq k] := by unfold mseq; rw [List.range_succ, List.map_append]; rfl
theorem mseq_ok : chkL ((mseq 257).drop 1) = 0 := by
  refine chkL_ok ⟨by rw [List.length_drop, mseq_len]; omega, fun p hp => ?_, ?_⟩
  · have hp := List.mem_of_mem_drop hp
    unfold mseq at hp
    obtain ⟨i, hi, rfl⟩ := List.mem_map.1 hp
    have := List.mem_range.1 hi
    unfold mq valid M
    simp only
    omega
  · refine List.Pairwise.sublist (List.drop_sublist 1 _) ?_
    unfold mseq
    rw [List.pairwise_map]
    refine List.Pairwise.imp (R := fun a b : Nat => a < b) (fun {a b} h => ?_) List.pairwise_lt_range
    show (a : Int) < (b : Int)
    omega
def lastL : List Pk := [⟨9007199254740991, 9007199254740991, 1, false, false, false⟩]
theorem ex8 : findE lastL 9007199254740991 9007199254740991 steadyR = 0 ∧ fAt lastL 9007199254740991 9007199254740991 steadyR = 9007199254740991 := by decide

set_option maxRecDepth 100000 in
set_option maxHeartbeats 8000000 in
theorem lossKnown_any (w : World) : Calls Try.prog 9 #[] w (GBool true w) := by
  go_enter Try.func9, Try.ntmps9
  go_wp2_with fail
  obtain ⟨W, hW, HE, KW⟩ : ∃ W, W = w.alloc (.cells (endsL.map (Value.int .i64)).toArray 3) ∧ Nm W w.heap.size 3 endsL ∧ Kept w W := ⟨_, rfl, Blk.new _ _ _, (Kept.refl w).alloc _⟩
  change Code.wp _ _ _ _ (w.alloc (.cells (endsL.map (Value.int .i64)).toArray 3))
  rw [← hW]
  have P0 : Hid (Kn w W w.heap.size endsL) := Lib.hid ⟨HE, KW, rfl⟩
  clear hW HE KW
  generalize hE : w.heap.size = E at *
  have HEE := Lib.hid hE
  clear hE
  generalize endsL = le at *
  go_loopw [2] (fun s2 wr => ∃ i : Nat, i ≤ 15 ∧ s2 = .int .i64 i ∧ Hid (Kn w wr E le)) (fun s2 _ => 15 - (intOf s2).toNat)
  case atStart => exact ⟨0, Nat.zero_le _, rfl, P0⟩
  case round =>
    obtain ⟨i, hi, rfl, HB⟩ := hrel
    clear P0
    by_cases hlt : i < 15
    · have hi0 : (0 : Int) ≤ (i : Int) := by omega
      have hi1 : (i : Int) < 15 := by omega
      have hwi : IntKind.i64.wrap ((i : Int) + 1) = (i : Int) + 1 := IntWalk.i64_in _ (by omega)
      go_wp2_with fail
      go_loopw [3] (fun s3 wr => ∃ k : Nat, k ≤ 15 ∧ s3 = .int .i64 k ∧ Hid (Kn w wr E le)) (fun s3 _ => 15 - (intOf s3).toNat)
      case atStart => exact ⟨0, Nat.zero_le _, rfl, HB⟩
      case round =>
        obtain ⟨k, hk, rfl, HC⟩ := hrel
        clear HB
        by_cases hlt2 : k < 15
        · have hk0 : (0 : Int) ≤ (k : Int) := by omega
          have hk1 : (k : Int) < 15 := by omega
          have hwk : IntKind.i64.wrap ((k : Int) + 1) = (k : Int) + 1 := IntWalk.i64_in _ (by omega)
          go_wp2_with fail
          refine (four_any _).mono ?_
          rintro e w1 ⟨rfl, r1, k1⟩
          have D : Hid (Kq w w1 E wr.heap.size le fourL) := Lib.hid ⟨HC.out.on k1, prow_blk r1, HC.out.k.size, Nat.ne_of_lt HC.out.e.lt, rfl⟩
          clear r1 k1
          generalize wr.heap.size = G at *
          have D := Lib.hid (D.out.on (Kept.refl w1).drew)
          go_upto_region 9 with (fail)
          go_cut [38] (fun t wx => t = .bool false ∧ Hid (Kq w wx E G le fourL))
          case first =>
            go_region_held3 (fun V => V.cell? ⟨E, i, none⟩ = some (.int .i64 (nt le i)) ∧ V.cell? ⟨E, k, none⟩ = some (.int .i64 (nt le k)))
              (exact D.out.ends hlt hlt2)
              (first
                | (go_at_call 23; (with_reducible refine (steady_any _).mono ?_); rintro e w' ⟨rfl, hk⟩; have D := Lib.hid (D.out.on hk); clear hk)
                | (go_at_call 3; (with_reducible refine (tells_is _ _ _ _ _ _ _ _ _ _ _ _ D.out.src).mono ?_); rintro e w' ⟨rfl, hk⟩; have D := Lib.hid (D.out.on hk); clear hk))
            all_goals
              go_wp2_with fail
              go_meet
              exact ⟨rfl, D⟩
          case rest =>
            obtain ⟨rfl, HR⟩ := hcut
            clear D
            obtain ⟨e1, e2⟩ := HR.out.ends hlt hlt2
            have c18 : _ = some (Value.int .i64 6) := HR.out.g.cell 18
            have c01 : _ = some (Value.int .i64 0) := HR.out.g.cell 1
            have f18 := HR.out.g.frozen 18
            have f01 := HR.out.g.frozen 1
            have gl := HR.out.g.lt
            have n1 := HR.out.ne
            have n2 := HR.out.ne.symm
            have DA := Lib.hid (HR.out.set 18 (.int .i64 (nt le i)) (l' := fourA (nt le i)) rfl rfl)
            have DB := Lib.hid (DA.out.set 1 (.int .i64 (nt le k)) (l' := fourB (nt le i) (nt le k)) rfl rfl)
            clear DA
            go_upto_region 13 with (fail)
            change Code.wp _ _ _ _ ((wc.setCell ⟨G, 18, none⟩ (.int .i64 (nt le i))).setCell ⟨G, 1, none⟩ (.int .i64 (nt le k)))
            generalize (wc.setCell ⟨G, 18, none⟩ (.int .i64 (nt le i))).setCell ⟨G, 1, none⟩ (.int .i64 (nt le k)) = w5 at *
            clear e1 e2 c18 c01 f18 f01 gl
            have D := Lib.hid (DB.out.on (Kept.refl w5).drew)
            clear DB HR
            go_cut [61] (fun t wx => t = .bool false ∧ Hid (Kq w wx E G le (fourB (nt le i) (nt le k))))
            case first =>
              go_region_held3 (fun V => V.cell? ⟨E, i, none⟩ = some (.int .i64 (nt le i)) ∧ V.cell? ⟨E, k, none⟩ = some (.int .i64 (nt le k)))
                (exact D.out.ends hlt hlt2)
                (first
                  | (go_at_call 23; (with_reducible refine (steady_any _).mono ?_); rintro e w' ⟨rfl, hk⟩; have D := Lib.hid (D.out.on hk); clear hk)
                  | (go_at_call 3; (with_reducible refine (tells_is _ _ _ _ _ _ _ _ _ _ _ _ D.out.src).mono ?_); rintro e w' ⟨rfl, hk⟩; have D := Lib.hid (D.out.on hk); clear hk))
              all_goals
                go_wp2_with fail
                go_meet
                exact ⟨rfl, D⟩
            case rest =>
              obtain ⟨rfl, HR⟩ := hcut
              clear D n1 n2
              have HC := Lib.hid HR.out.a
              clear HR
              go_wp2_with fail
              refine (four_any _).mono ?_
              rintro e w6 ⟨rfl, r6, k6⟩
              have D : Hid (Kq w w6 E wc.heap.size le fourL) := Lib.hid ⟨HC.out.on k6, prow_blk r6, HC.out.k.size, Nat.ne_of_lt HC.out.e.lt, rfl⟩
              clear r6 k6 HC
              generalize wc.heap.size = G2 at *
              obtain ⟨e1, e2⟩ := D.out.ends hlt hlt2
              have c14 : _ = some (Value.int .i64 9) := D.out.g.cell 14
              have f14 := D.out.g.frozen 14
              have gl := D.out.g.lt
              have n1 := D.out.ne
              have n2 := D.out.ne.symm
              have DC := Lib.hid (D.out.set 14 (.int .i64 (nt le i)) (l' := fourC (nt le i)) rfl rfl)
              go_upto_region 17 with (fail)
              change Code.wp _ _ _ _ (w6.setCell ⟨G2, 14, none⟩ (.int .i64 (nt le i)))
              generalize w6.setCell ⟨G2, 14, none⟩ (.int .i64 (nt le i)) = w7 at *
              clear e1 e2 c14 f14 gl D
              have D := Lib.hid (DC.out.on (Kept.refl w7).drew)
              clear DC
              have hsl : ∀ W, (Instr.slice 22 (.slice (some ⟨G2, 0, none⟩) 4 4) none (some (.int .i64 2)) none).run Try.prog W = .ok (.slice (some ⟨G2, 0, none⟩) 2 4) W := fun W => run_uptoP _ 4 4 2 (by omega) W
              go_cut [120] (fun t wx => t = .bool false ∧ Hid (Kn w wx E le))
              case first =>
                go_region_held3 (fun V => V.cell? ⟨E, i, none⟩ = some (.int .i64 (nt le i)) ∧ V.cell? ⟨E, k, none⟩ = some (.int .i64 (nt le k)))
                  (exact D.out.ends hlt hlt2)
                  (first
                    | (go_at_call 23; (with_reducible refine (steady_any _).mono ?_); rintro e w' ⟨rfl, hk⟩; have D := Lib.hid (D.out.on hk); clear hk)
                    | (go_at_call 3; (with_reducible refine (tells_is _ _ _ _ _ _ _ _ _ _ _ _ D.out.src).mono ?_); rintro e w' ⟨rfl, hk⟩; have D := Lib.hid (D.out.on hk); clear hk)
                    | (go_at_call 3; (with_reducible refine (tells_is _ _ _ _ _ _ _ _ _ _ _ _ D.out.src2).mono ?_); rintro e w' ⟨rfl, hk⟩; have D := Lib.hid (D.out.on hk); clear hk)
                    | (go_at_call 4; (with_reducible refine (waits_is _ _ _ _ _ _).mono ?_); rintro e w' ⟨rfl, hk⟩; have D := Lib.hid (D.out.on hk); clear hk))
                all_goals
                  go_wp2_with fail
                  go_meet
                  exact ⟨rfl, Lib.hid D.out.a⟩
              case rest =>
                obtain ⟨rfl, HR⟩ := hcut
                clear D hsl
                go_wp2_with fail
                go_roundw
                case rel => exact ⟨k + 1, by omega, by go_num, HR⟩
                case measure => simp [intOf]; omega
        · obtain rfl : k = 15 := by omega
          have hz : ¬ ((15 : Int) < 15) := by omega
          go_wp2_with fail
          go_roundw
          case rel => exact ⟨i + 1, by omega, by go_num, HC⟩
          case measure => simp [intOf]; omega
    · obtain rfl : i = 15 := by omega
      have hz : ¬ ((15 : Int) < 15) := by omega
      obtain ⟨wo, rfl⟩ : ∃ wo : World, wo = wr := ⟨_, rfl⟩
      go_wp2_with fail
      go_loopw [5, 6] (fun s5 s6 wr => ∃ j : Nat, j ≤ 257 ∧ s6 = .int .i64 j ∧ Hid (Lay pkC 33 wo wo.heap.size wr s5 (mseq j))) (fun _ s6 _ => 257 - (intOf s6).toNat)
      case atStart => exact ⟨0, Nat.zero_le _, rfl, Lib.hid (Lay.nil wo _ (Kept.refl wo))⟩
      case round =>
        obtain ⟨j, hj, rfl, hl⟩ := hrel
        by_cases hlt : j < 257
        · have hj1 : (j : Int) < 257 := by omega
          have hwj : IntKind.i64.wrap ((j : Int) + 1) = (j : Int) + 1 := IntWalk.i64_in _ (by omega)
          have HS := Lib.hid (mseq_succ j)
          have hz : wo.heap.size ≤ wr.heap.size := (show Kept wo wr by obtain ⟨_, _, _, _, _, k⟩ := hl.out; exact k).size
          have hll : (mseq j).length ≤ 100000 := by rw [mseq_len]; omega
          have HLL := Lib.hid hll
          clear hll
          go_wp2_with (at_builtin; refine wpList_lay pkE (w := wo) (W := wr) rfl (.tmp 125) (.tmp 128) rfl (b := wo.heap.size) (mq j) rfl hl.out rfl (Nat.le_refl _) hz HLL.out rfl ?_; intro v' w1 HV hg; have HV := Lib.hid HV.out; clear hg)
          go_roundw
          case rel => exact ⟨j + 1, by omega, by go_num, by rw [HS.out]; exact HV⟩
          case measure => simp [intOf]; omega
        · obtain rfl : j = 257 := by omega
          have hz3 : ¬ ((257 : Int) < 257) := by omega
          obtain ⟨A', c', rfl, hr, hf, hkk⟩ : ∃ A c, u5 = .slice A (mseq 257).length c ∧ PRow wr A (mseq 257).length c (mseq 257) ∧ (∀ j, own A = some j → wo.heap.size ≤ j) ∧ Kept wo wr := hl.out
          rw [mseq_len] at hr ⊢
          have S1 := Lib.hid ((Src.of_row hr).kept ((Kept.refl wr).alloc (.cells (flat pkC lastL).toArray 33)))
          have K1 := Lib.hid ((HB.out.k.trans hkk).alloc (.cells (flat pkC lastL).toArray 33))
          have S2 := Lib.hid (Src.of_row (row_lit wr lastL (by decide)))
          have hcap := hr.cap
          have hfr : ∀ W, (Instr.slice 22 (.slice A' 257 c') (some (.int .i64 1)) none none).run Try.prog W = .ok (.slice (cutA A' c' 1) 256 (c' - 1)) W := fun W => run_fromP A' 257 c' 1 (by omega) W
          clear hr hf hkk hl
          go_wp2_with fail
          refine (steady_any _).mono ?_
          rintro e w2 ⟨rfl, k2⟩
          have S1 := Lib.hid (S1.out.kept k2)
          have S2 := Lib.hid (S2.out.kept k2)
          have K1 := Lib.hid (K1.out.trans k2)
          clear k2
          have c3 := Lib.hid (fun A n c w h => find_any A n c lastL 9007199254740991 9007199254740991 steadyR w h)
          unfold FindOf at c3
          rw [ex8.1, ex8.2] at c3
          go_wp2_with fail
          refine (c3.out _ _ _ _ S2.out).mono ?_
          rintro e w3 ⟨A1, n1, d1, A2, n2, d2, rfl, F⟩
          have S1 := Lib.hid (S1.out.kept F.k)
          have K1 := Lib.hid (K1.out.trans F.k)
          clear F c3 S2
          go_wp2_with fail
          refine (works_any _).mono ?_
          rintro e w4 ⟨rfl, k4⟩
          have S1 := Lib.hid (S1.out.kept k4)
          have K1 := Lib.hid (K1.out.trans k4)
          clear k4
          go_wp2_with fail
          refine (checkL_is (chkL_many (by rw [mseq_len]; omega)) S1.out).mono ?_
          rintro e w5 ⟨rfl, k5⟩
          have S1 := Lib.hid (S1.out.kept k5)
          have K1 := Lib.hid (K1.out.trans k5)
          clear k5
          go_wp2_with fail
          refine (checkL_is mseq_ok (S1.out.from_ 1 (by omega))).mono ?_
          rintro e w6 ⟨rfl, k6⟩
          have K1 := Lib.hid (K1.out.trans k6)
          clear k6
          go_wp2_with fail
          refine (checkL_is (l := []) (e := 0) (by decide) (Src.nil _)).mono ?_
          rintro e w7 ⟨rfl, k7⟩
          have K1 := Lib.hid (K1.out.trans k7)
          clear k7
          go_wp2_with fail
          go_ret
          exact ⟨rfl, K1.out⟩
end Go.Proofs.Ytilfimlojpejhaa.Law
