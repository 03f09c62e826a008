/-
  The law RttOrder: longer samples never make what is smoothed less.
-/
import Derived.Test.YtjmieefbeojkfaaRttN
import Derived.Test.YtjmieefbeojkfaaRttG
import Derived.Test.YtjmieefbeojkfaaRttB
namespace Go.Proofs.Ytjmieefbeojkfaa.Law
open Go.RowKit RttM Cd Wd Rtt
set_option linter.unusedVariables false
set_option linter.unusedSimpArgs false

/-- The first i samples, each longer by d. -/
def lon (L : List Sm) (d : Nat → Int) (i : Nat) : List Sm := (List.range i).map (fun j => ⟨(at_ L j).x + d j, (at_ L j).y, (at_ L j).z⟩)
theorem lon_len (L : List Sm) (d : Nat → Int) (i : Nat) : (lon L d i).length = i := by simp [lon]
theorem lon_succ (L : List Sm) (d : Nat → Int) (i : Nat) : lon L d (i + 1) = lon L d i ++ [⟨(at_ L i).x + d i, (at_ L i).y, (at_ L i).z⟩] := by unfold lon; rw [List.range_succ, List.map_append]; rfl
theorem lon_at (L : List Sm) (d : Nat → Int) {i j : Nat} (h : j < i) : at_ (lon L d i) j = ⟨(at_ L j).x + d j, (at_ L j).y, (at_ L j).z⟩ := by
  rw [at_of (by rw [lon_len]; exact h)]; simp [lon]
theorem le_all {L M : List Sm} (hl : L.length = M.length) (hL : ∀ a ∈ L, okS a) (hM : ∀ a ∈ M, okS a) (hy : ∀ i, i < L.length → (at_ L i).y = 0 ∧ (at_ M i).y = 0 ∧ (at_ L i).x ≤ (at_ M i).x) :
    ∀ i, i < L.length → Le (runs base0 (L.take (i + 1))) (runs base0 (M.take (i + 1))) ∧ meas (runs base0 (L.take (i + 1))) ∧ meas (runs base0 (M.take (i + 1))) := by
  intro i
  induction i with
  | zero =>
    intro h0
    have o1 := hL _ (at_mem h0)
    have o2 := hM _ (at_mem (l := M) (k := 0) (by omega))
    have h := hy 0 h0
    rw [take_succ h0, take_succ (l := M) (by omega)]
    show Le (runs base0 [at_ L 0]) (runs base0 [at_ M 0]) ∧ meas (runs base0 [at_ L 0]) ∧ meas (runs base0 [at_ M 0])
    rw [run_first o1, run_first o2]
    exact ⟨⟨h.2.2, h.2.2⟩, first_meas o1.1 o1.2.2, first_meas o2.1 o2.2.2⟩
  | succ i ih =>
    intro h1
    obtain ⟨h2, h3, h4⟩ := ih (by omega)
    have o1 := hL _ (at_mem h1)
    have o2 := hM _ (at_mem (l := M) (k := i + 1) (by omega))
    have h := hy (i + 1) h1
    have g1 : go1 (runs base0 (L.take (i + 1))) (at_ L (i + 1)) = next (runs base0 (L.take (i + 1))) (at_ L (i + 1)).x 0 := by
      show after _ _ _ _ = _; rw [after_meas h3, h.1]
    have g2 : go1 (runs base0 (M.take (i + 1))) (at_ M (i + 1)) = next (runs base0 (M.take (i + 1))) (at_ M (i + 1)).x 0 := by
      show after _ _ _ _ = _; rw [after_meas h4, h.2.1]
    rw [runs_take h1, runs_take (L := M) (by omega), g1, g2]
    refine ⟨le_next h2 h3 h4 o1.1.1 h.2.2, ?_, ?_⟩
    · exact next_meas h3 o1.1 (by unfold tm; omega)
    · exact next_meas h4 o2.1 (by unfold tm; omega)
theorem bros_y (L : List Sm) : ∀ a ∈ bros false L, a.y = 0 := by
  intro a ha
  unfold bros at ha
  split at ha
  · simp only [List.mem_singleton] at ha; subst ha; rfl
  · unfold brs at ha; rw [List.mem_map] at ha; obtain ⟨b, _, rfl⟩ := ha; rfl
/-- By how much a sample is longer. -/
def dd (L : List Sm) (n : Nat) (g : Nat → Nat → Int) (j : Nat) : Int := if n = 0 then 0 else g (j % n) 0 % (9007199254740992 - (at_ L j).x)
theorem lon_ok {L : List Sm} (hL : ∀ a ∈ L, okS a) (n : Nat) (g : Nat → Nat → Int) : ∀ a ∈ lon L (dd L n g) L.length, okS a := by
  intro a ha
  unfold lon at ha
  rw [List.mem_map] at ha
  obtain ⟨j, hj, rfl⟩ := ha
  rw [List.mem_range] at hj
  have ho := hL _ (at_mem hj)
  obtain ⟨⟨h0, h1⟩, h2, h3⟩ := ho
  refine ⟨⟨?_, ?_⟩, h2, h3⟩
  · simp only; unfold dd; split
    · omega
    · have := Int.emod_nonneg (g (j % n) 0) (show (9007199254740992 - (at_ L j).x : Int) ≠ 0 by omega); omega
  · simp only; unfold dd; split
    · omega
    · have := Int.emod_lt_of_pos (g (j % n) 0) (show (0 : Int) < 9007199254740992 - (at_ L j).x by omega); omega
theorem dd_pos {L : List Sm} (hL : ∀ a ∈ L, okS a) (n : Nat) (g : Nat → Nat → Int) {j : Nat} (hj : j < L.length) : 0 ≤ dd L n g j := by
  obtain ⟨⟨h0, h1⟩, _⟩ := hL _ (at_mem hj)
  unfold dd; split
  · omega
  · exact Int.emod_nonneg _ (by omega)
theorem order_le {L : List Sm} (hL : ∀ a ∈ L, okS a) (hy : ∀ a ∈ L, a.y = 0) (h1 : 1 ≤ L.length) (n : Nat) (g : Nat → Nat → Int) : Le (runs base0 L) (runs base0 (lon L (dd L n g) L.length)) := by
  have := (le_all (L := L) (M := lon L (dd L n g) L.length) (by rw [lon_len]) hL (lon_ok hL n g) (fun i hi => by
    rw [lon_at L _ hi]
    have h2 := hy _ (at_mem hi)
    exact ⟨h2, h2, by have := dd_pos hL n g hi; show (at_ L i).x ≤ (at_ L i).x + _; omega⟩) (L.length - 1) (by omega)).1
  rw [show L.length - 1 + 1 = L.length by omega, List.take_of_length_le (Nat.le_refl _), List.take_of_length_le (by rw [lon_len]; omega)] at this
  exact this

set_option maxRecDepth 100000 in
set_option maxHeartbeats 4000000 in
theorem rttOrder_any (A : Option Addr) (n c : Nat) (f : Nat → Nat → Int) (A1 : Option Addr) (n1 c1 : Nat) (g : Nat → Nat → Int) (w : World) (h : Num.Grid 3 w A n c f) (h1 : Num.Grid 1 w A1 n1 c1 g) :
    Calls Try.prog 8 #[.slice A n c, .slice A1 n1 c1] w (GBool true w) := by
  have T0 := Th.of_grid h
  have hn1 : n1 ≤ 9223372036854775807 := by have h2 := h1.cap; have h3 := h1.most; simp only [maxLen] at h3; omega
  clear h
  go_enter Try.func8, Try.ntmps8
  go_wp2_with fail
  refine (brought_any T0 false).mono ?_
  rintro e W ⟨v, rfl, HV⟩
  obtain ⟨A', c', rfl, hr, hf, K2⟩ := HV
  have hbl := bros_len false (smps f n)
  have hok := bros_ok false (smps f n)
  have hy := bros_y (smps f n)
  have TH := Lib.hid (Th.of_row hr)
  have KW := Lib.hid K2
  have HG := Lib.hid (h1.kept K2)
  generalize bros false (smps f n) = L at *
  have HLE := Lib.hid (order_le hok hy hbl.1 n1 g)
  have HMO := Lib.hid (lon_ok hok n1 g)
  have HOK := Lib.hid hok
  have HDD : Hid (∀ j, dd L n1 g j = if n1 = 0 then 0 else g (j % n1) 0 % (9007199254740992 - (at_ L j).x)) := Lib.hid (fun j => rfl)
  obtain ⟨m, hm⟩ : ∃ m, L.length = m := ⟨_, rfl⟩
  have hLm := Lib.hid hm
  rw [hm] at TH hbl HLE HMO ⊢
  generalize dd L n1 g = d at *
  clear hr hf K2 T0 hok hy hm h1
  have h0 : Hid (SLay W W.heap.size W (.slice none 0 0) (lon L d 0)) := Lib.hid (Lay.nil W _ (Kept.refl W))
  go_wp2_with fail
  go_loopw [5, 6] (fun s5 s6 wr => ∃ i : Nat, i ≤ m ∧ s6 = .int .i64 i ∧ Hid (SLay W W.heap.size wr s5 (lon L d i))) (fun _ s6 _ => m - (intOf s6).toNat)
  case atStart => exact ⟨0, Nat.zero_le _, rfl, h0⟩
  case round =>
    obtain ⟨i, hi, rfl, HL⟩ := hrel
    clear h0
    by_cases hlt : i < m
    · have hlb := lon_len L d i
      have hi0 : (0 : Int) ≤ (i : Int) := by omega
      have hi1 : (i : Int) < (m : Int) := by omega
      have hw1 : IntKind.i64.wrap ((i : Int) + 1) = (i : Int) + 1 := IntWalk.i64_in _ (by omega)
      obtain ⟨A5, c5, hv, hr5, hf5, hk5⟩ := HL.out
      rw [hlb] at hv
      subst hv
      have HT := TH.out.kept hk5
      have HG5 := Lib.hid (HG.out.kept hk5)
      have hws := hk5.size
      obtain ⟨b, o, rfl, hb, hc⟩ := HT.lies (by omega)
      obtain ⟨e0, e1, e2⟩ := hc i hlt
      have hS := lon_succ L d i
      have hdd := HDD.out i
      have hxo := HOK.out (at_ L i) (at_mem (by rw [hLm.out]; exact hlt))
      clear HT hc hr5 hf5 hk5
      generalize at_ L i = a at *
      generalize hX : lon L d i = X at *
      clear hX
      obtain ⟨x, y, z⟩ := a
      have HX := Lib.hid hS
      clear hS
      have e0 : wr.cell? ⟨b, o + i * 3, none⟩ = some (.int .i64 x) := e0
      have e1 : wr.cell? ⟨b, o + i * 3 + 1, none⟩ = some (.int .i64 y) := e1
      have e2 : wr.cell? ⟨b, o + i * 3 + 2, none⟩ = some (.int .i64 z) := e2
      have hx0 : 0 ≤ x := hxo.1.1
      have hx1 : x ≤ 9007199254740991 := hxo.1.2
      dsimp only at hdd HX
      clear hxo
      by_cases hz : n1 = 0
      · subst hz
        rw [if_pos rfl] at hdd
        rw [hdd, Int.add_zero] at HX
        clear HG5 HG hdd
        go_upto_region 9 with (fail)
        obtain ⟨V, hV, HBX, HK⟩ : ∃ V, V = wr.alloc (.cells #[.int .i64 x, .int .i64 y, .int .i64 z] 24) ∧ Blk V wr.heap.size 24 #[.int .i64 x, .int .i64 y, .int .i64 z] ∧ Kept wr V := ⟨_, rfl, Blk.new _ _ _, (Kept.refl wr).alloc _⟩
        rw [← hV]
        have HLV := Lib.hid (Lay.more HL.out HK)
        have hwsV : W.heap.size ≤ V.heap.size := Nat.le_trans hws HK.size
        have q0 := HBX.cell 0
        have q1 := HBX.cell 1
        have q2 := HBX.cell 2
        clear hV HBX HK e0 e1 e2 HL
        go_wp2_with (at_builtin; refine wpList_lay smE (w := W) (W := V) rfl (.tmp 42) (.tmp 44) rfl (b := W.heap.size) (L := X) ⟨x, y, z⟩ rfl HLV.out rfl (Nat.le_refl _) hwsV (by omega) rfl ?_; intro v' w9 HV hsm; clear hsm; have HV2 := Lib.hid HV.out; clear HV)
        go_roundw
        case rel => exact ⟨i + 1, by omega, by go_num, by rw [HX.out]; exact HV2.out⟩
        case measure => simp [intOf]; omega
      · have hz0 : 0 < n1 := by omega
        rw [if_neg hz] at hdd
        obtain ⟨bg, og, rfl, hbg, hcg⟩ := HG5.out.lies hz0
        have hk : i % n1 < n1 := Nat.mod_lt _ hz0
        have eg := hcg (i % n1) hk 0 (by omega)
        rw [Nat.mul_one, Nat.add_zero] at eg
        have hrem : (i : Int).tmod (n1 : Int) = ((i % n1 : Nat) : Int) := by rw [Int.tmod_eq_emod_of_nonneg (by omega), Int.natCast_emod]
        have hnz : ((n1 : Int) == 0) = false := by simp only [beq_eq_false_iff_ne]; omega
        have hn0 : (0 : Int) < (n1 : Int) := by omega
        generalize hkk : i % n1 = kk at *
        have hk0 : (0 : Int) ≤ (kk : Int) := by omega
        have hk1 : (kk : Int) < (n1 : Int) := by omega
        generalize g kk 0 = gg at *
        have hd0 : 0 ≤ d i := by rw [hdd]; exact Int.emod_nonneg _ (by omega)
        have hd1 : d i < 9007199254740992 - x := by rw [hdd]; exact Int.emod_lt_of_pos _ (by omega)
        have hbr := fun V => bring_any gg (9007199254740992 - x) V (by omega) (by omega)
        rw [← hdd] at hbr
        generalize d i = di at *
        have hw2 : IntKind.i64.wrap (x + di) = x + di := IntWalk.i64_in _ (by omega)
        have hw3 : IntKind.i64.wrap (9007199254740992 - x) = 9007199254740992 - x := IntWalk.i64_in _ (by omega)
        clear hcg hdd HG5 hkk
        go_upto_region 8 with (fail)
        obtain ⟨V, hV, HBX, HK⟩ : ∃ V, V = wr.alloc (.cells #[.int .i64 x, .int .i64 y, .int .i64 z] 24) ∧ Blk V wr.heap.size 24 #[.int .i64 x, .int .i64 y, .int .i64 z] ∧ Kept wr V := ⟨_, rfl, Blk.new _ _ _, (Kept.refl wr).alloc _⟩
        rw [← hV]
        have eg2 := HK.cell eg
        have HBN : Hid (Blk (V.setCell ⟨wr.heap.size, 0, none⟩ (.int .i64 (x + di))) wr.heap.size 24 #[.int .i64 (x + di), .int .i64 y, .int .i64 z]) := Lib.hid (HBX.set_ 0 (.int .i64 (x + di)))
        have HKN : Hid (Kept wr (V.setCell ⟨wr.heap.size, 0, none⟩ (.int .i64 (x + di)))) := Lib.hid (HK.setCell (p := ⟨wr.heap.size, 0, none⟩) (Nat.le_refl _) _)
        have eg3 : V.drew.cell? ⟨bg, og + kk, none⟩ = some (.int .i64 gg) := eg2
        have q0 : V.cell? ⟨wr.heap.size, 0, none⟩ = some (.int .i64 x) := HBX.cell 0
        have q0d : V.drew.cell? ⟨wr.heap.size, 0, none⟩ = some (.int .i64 x) := q0
        have qf : V.frozen? ⟨wr.heap.size, 0, none⟩ = false := HBX.frozen 0
        have qfd : V.drew.frozen? ⟨wr.heap.size, 0, none⟩ = false := qf
        clear hV e0 e1 e2 eg HBX
        go_cut [] (fun wx => Hid (Kept wr wx) ∧ Hid (Blk wx wr.heap.size 24 #[.int .i64 (x + di), .int .i64 y, .int .i64 z]))
        case first =>
          go_region_with (go_at_call 24; (refine (hbr _).mono ?_); rintro e w' ⟨rfl, rfl⟩)
          all_goals
            go_wp2_with fail
            go_meet
            exact ⟨Lib.hid HKN.out.drew, HBN⟩
        case rest =>
          obtain ⟨HKc, HBc⟩ := hcut
          have HLV := Lib.hid (Lay.more HL.out HKc.out)
          have hwsV : W.heap.size ≤ wc.heap.size := Nat.le_trans hws HKc.out.size
          have q0 := HBc.out.cell 0
          have q1 := HBc.out.cell 1
          have q2 := HBc.out.cell 2
          clear eg2 eg3 q0d qf qfd HKN HBN HK
          go_wp2_with (at_builtin; refine wpList_lay smE (w := W) (W := wc) rfl (.tmp 42) (.tmp 44) rfl (b := W.heap.size) (L := X) ⟨x + di, y, z⟩ rfl HLV.out rfl (Nat.le_refl _) hwsV (by omega) rfl ?_; intro v' w9 HV hsm; clear hsm; have HV2 := Lib.hid HV.out; clear HV)
          go_roundw
          case rel => exact ⟨i + 1, by omega, by go_num, by rw [HX.out]; exact HV2.out⟩
          case measure => simp [intOf]; omega
    · obtain rfl : i = m := by omega
      have hz : ¬ ((i : Int) < (i : Int)) := by omega
      obtain ⟨A5, c5, hv, hr5, hf5, hk5⟩ := HL.out
      rw [lon_len] at hv hr5
      subst hv
      have T1 := TH.out.kept hk5
      have T2 := Th.of_row hr5
      have KR := Lib.hid (KW.out.trans hk5)
      have hr1 := run_any T1 HOK.out (by omega)
      have T2' := Lib.hid T2
      have hle := HLE.out
      have h2 := Lib.hid (fun V (hV : Kept wr V) => run_any (T2'.out.kept hV) HMO.out (by omega))
      generalize runs base0 L = R1 at *
      generalize runs base0 (lon L d i) = R2 at *
      obtain ⟨l1, m1, s1, v1, f1⟩ := R1
      obtain ⟨l2, m2, s2, v2, f2⟩ := R2
      have hm12 : m1 ≤ m2 := hle.m
      have hs12 : s1 ≤ s2 := hle.s
      clear hle hf5 hk5 T1 T2
      go_wp2_with fail
      refine hr1.mono ?_
      rintro e w6 ⟨rfl, K6⟩
      have h2' := Lib.hid (h2.out _ (K6.alloc (.cells (rtA ⟨l1, m1, s1, v1, f1⟩) 23)))
      have B6 := Lib.hid (Blk.new w6 23 (rtA ⟨l1, m1, s1, v1, f1⟩))
      have KR6 := Lib.hid ((KR.out.trans K6).alloc (.cells (rtA ⟨l1, m1, s1, v1, f1⟩) 23))
      clear K6 h2 hr1 KR
      go_wp2_with fail
      refine h2'.out.mono ?_
      rintro e w7 ⟨rfl, K7⟩
      have B7 := Lib.hid (B6.out.kept K7)
      have KR7 := Lib.hid (KR6.out.trans K7)
      have y1 : w7.cell? ⟨w6.heap.size, 1, none⟩ = some (.int .i64 m1) := B7.out.cell 1
      have y2 : w7.cell? ⟨w6.heap.size, 2, none⟩ = some (.int .i64 s1) := B7.out.cell 2
      have yl := B7.out.lt
      clear K7 h2' KR6 B6
      go_wp2_with fail
      refine (works_any _).mono ?_
      rintro e w8 ⟨rfl, K8⟩
      go_wp2_with fail
      go_ret
      exact ⟨rfl, (KR7.out.alloc _).trans K8⟩
end Go.Proofs.Ytjmieefbeojkfaa.Law
