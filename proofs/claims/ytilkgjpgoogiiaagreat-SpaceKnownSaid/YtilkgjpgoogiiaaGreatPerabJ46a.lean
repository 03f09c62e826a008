/-
  Contracts of package persist's pairs and Period.
-/
import Derived.Test.YtilkgjpgoogiiaaGreatPerabJ35a
import Derived.Test.YtilkgjpgoogiiaaGreatSpnabJ20a
import Derived.Laws.EntriesVeiled
import Derived.Test.YtilkgjpgoogiiaaGreatPtoabJ34a
import Derived.Test.YtilkgjpgoogiiaaGreatWrdabJ17a
import Derived.Deep.RegionWith
set_option maxRecDepth 100000
set_option maxHeartbeats 16000000
set_option linter.unusedVariables false
set_option linter.unusedSimpArgs false
namespace Go.Proofs.YtilkgjpgoogiiaaGreat.Per
open Go.RowKit SntM Cd Wd LosM PerM
open SpnM (R Rises has)
open Spn (Row SetAt Abs)
open Snt (pkC pkV pkA PRow)
open Los (Src)
attribute [local go_sem] Oper.semAt_some
def ASet (w : World) (P : Option Addr) (L : List R) : Prop := (Abs w P ∧ L = []) ∨ ∃ p A c room, P = some ⟨p, 0, none⟩ ∧ SetAt w p A c room L
section
variable {w w' : World} {P : Option Addr} {L : List R}
theorem ASet.kept (h : ASet w P L) (k : Kept w w') : ASet w' P L := by
  rcases h with ⟨h, e⟩ | ⟨p, A, c, room, e, h⟩
  · exact .inl ⟨h.kept k, e⟩
  · exact .inr ⟨p, A, c, room, e, h.kept k⟩
theorem ASet.rises (h : ASet w P L) : Rises L := by
  rcases h with ⟨h, rfl⟩ | ⟨p, A, c, room, e, h⟩
  · exact SpnM.good_nil
  · exact h.good
theorem ASet.nil (w : World) : ASet w none [] := .inl ⟨Spn.abs_nil w, rfl⟩
theorem ASet.ranges (h : ASet w P L) : Calls Tryz.prog 163 #[.pointer P] w (Spn.Gives L.reverse w) := by
  rcases h with ⟨h, rfl⟩ | ⟨p, A, c, room, rfl, h⟩
  · exact Spn.ranges0 w h
  · exact Spn.ranges_any p c room A L w h
end
theorem pairs_stops (n : Nat) (hn : 2 ≤ n) (b bl br m c m2 c2 : Nat) (A A2 : Option Addr) (l : List Pk) (rs : List R) (w : World)
    (hH : Hold w bl br A A2 m c m2 c2 l rs) (hF : Far b bl br A A2) (hm : m ≤ 256) (hv : ∀ p ∈ l, (0 ≤ p.n ∧ p.n ≤ 9007199254740991) ∧ 0 ≤ p.t ∧ p.t ≤ 9007199254740991) :
    SeqStopsK Fence.wide n Tryz.prog 189 #[.pointer (some ⟨bl, 0, none⟩), .pointer (some ⟨br, 0, none⟩)] encp (Kps b) (fun ys => ys.map (·.1) = pairsL rs l) (fun _ => True) (pairsL rs l).length w := fun ly J Jx W hW hJ hJx hY h0 =>
  pairs1_in n hn ly b bl br m c m2 c2 A A2 l rs J Jx W hJ hY (hH.kept hW) hF hm hv h0
theorem pairs_any (A A2 : Option Addr) (m c m2 c2 : Nat) (w : World) : Calls Tryz.prog 161 #[.slice A m c, .slice A2 m2 c2] w fun e w' =>
    e = .returned (.func (.func 189) #[] #[.pointer (some ⟨w.heap.size, 0, none⟩), .pointer (some ⟨w.heap.size + 1, 0, none⟩)]) ∧ w' = (w.alloc (.cells #[.slice A m c] 42)).alloc (.cells #[.slice A2 m2 c2] 33) := by
  go_enter Tryz.func161, Tryz.ntmps161
  go_wp2
  go_ret
  exact ⟨rfl, rfl⟩
theorem boxed_kept {W W' : World} {B : Nat} {t : TypeId} {v : Value} (h : Boxed W B t v) (k : Kept W W') : Boxed W' B t v := (k.at_ h.lt).trans h
abbrev boxes (w : World) : World := (((w.alloc (.cells #[.int .i64 0] 3)).alloc (.cells #[.int .i64 0] 3)).alloc (.cells #[.int .i64 0] 3)).alloc (.cells #[.bool false] 4)
theorem boxes_kept (w : World) : Kept w (boxes w) := ((((Kept.refl w).alloc _).alloc _).alloc _).alloc _
theorem boxes_size (w : World) : (boxes w).heap.size = w.heap.size + 4 := by simp [boxes]
theorem boxes_none (w : World) : KSt (boxes w) w.heap.size none := by
  have s1 : (w.alloc (.cells #[.int .i64 0] 3)).heap.size = w.heap.size + 1 := by simp
  have s2 : ((w.alloc (.cells #[.int .i64 0] 3)).alloc (.cells #[.int .i64 0] 3)).heap.size = w.heap.size + 2 := by simp
  have s3 : (((w.alloc (.cells #[.int .i64 0] 3)).alloc (.cells #[.int .i64 0] 3)).alloc (.cells #[.int .i64 0] 3)).heap.size = w.heap.size + 3 := by simp
  refine ⟨(((Boxed.new w _ _).alloc _).alloc _).alloc _, ?_, ?_, ?_⟩
  · have := ((Boxed.new (w.alloc (.cells #[.int .i64 0] 3)) 3 (.int .i64 0)).alloc (.cells #[.int .i64 0] 3)).alloc (.cells #[.bool false] 4)
    rw [s1] at this; exact this
  · have := (Boxed.new ((w.alloc (.cells #[.int .i64 0] 3)).alloc (.cells #[.int .i64 0] 3)) 3 (.int .i64 0)).alloc (.cells #[.bool false] 4)
    rw [s2] at this; exact this
  · have := Boxed.new (((w.alloc (.cells #[.int .i64 0] 3)).alloc (.cells #[.int .i64 0] 3)).alloc (.cells #[.int .i64 0] 3)) 4 (.bool false)
    rw [s3] at this; exact this
theorem kst_own {β : Type} (b : Nat) (f : β → St) : Go.Own (fun s W => KSt W b (f s)) := fun s X Y row hs hg hr =>
  ⟨boxed_own b 3 (fun s => .int .i64 (p1 (f s))) s X Y row hs.per hg hr, boxed_own (b + 1) 3 (fun s => .int .i64 (p2 (f s))) s X Y row hs.from_ hg hr,
   boxed_own (b + 2) 3 (fun s => .int .i64 (p3 (f s))) s X Y row hs.to_ hg hr, boxed_own (b + 3) 4 (fun s => .bool (f s).isSome) s X Y row hs.is hg hr⟩
theorem pblk_own {β : Type} (g : Nat) (t : TypeId) (cs : Array Value) : Go.Own (fun (_ : β) W => Blk W g t cs) := fun s X Y row hs hg hr => by
  refine (hg.block g hs.lt (fun e => ?_)).trans hs
  obtain ⟨o, ho, hc⟩ := hr g e.symm
  rw [show X.heap[g]? = _ from hs] at ho
  cases ho; cases hc
theorem four_put {W : World} {b : Nat} {s : St} (h : KSt W b s) (s' : St) :
    KSt ((((W.setCell ⟨b, 0, none⟩ (.int .i64 (p1 s'))).setCell ⟨b + 1, 0, none⟩ (.int .i64 (p2 s'))).setCell ⟨b + 2, 0, none⟩ (.int .i64 (p3 s'))).setCell ⟨b + 3, 0, none⟩ (.bool s'.isSome)) b s' :=
  ⟨(((h.per.set _).other (by omega) _).other (by omega) _).other (by omega) _, (((h.from_.other (by omega) _).set _).other (by omega) _).other (by omega) _,
   (((h.to_.other (by omega) _).other (by omega) _).set _).other (by omega) _, (((h.is.other (by omega) _).other (by omega) _).other (by omega) _).set _⟩
theorem four_kept {w W : World} {b : Nat} (h : Kept w W) (hb : w.heap.size ≤ b) (v1 v2 v3 v4 : Value) :
    Kept w ((((W.setCell ⟨b, 0, none⟩ v1).setCell ⟨b + 1, 0, none⟩ v2).setCell ⟨b + 2, 0, none⟩ v3).setCell ⟨b + 3, 0, none⟩ v4) :=
  (((h.setCell (p := ⟨b, 0, none⟩) hb _).setCell (p := ⟨b + 1, 0, none⟩) (by show _ ≤ b + 1; omega) _).setCell (p := ⟨b + 2, 0, none⟩) (by show _ ≤ b + 2; omega) _).setCell (p := ⟨b + 3, 0, none⟩) (by show _ ≤ b + 3; omega) _
theorem four_others {W : World} {b : Nat} (v1 v2 v3 v4 : Value) :
    KeepsOthers W ((((W.setCell ⟨b, 0, none⟩ v1).setCell ⟨b + 1, 0, none⟩ v2).setCell ⟨b + 2, 0, none⟩ v3).setCell ⟨b + 3, 0, none⟩ v4) :=
  (((KeepsOthers.setCell _ _ _).trans (KeepsOthers.setCell _ _ _)).trans (KeepsOthers.setCell _ _ _)).trans (KeepsOthers.setCell _ _ _)
theorem But.others {W W' : World} {b : Nat} {s : St} (h : But (Four b) W W') (k : KSt W b s) : KeepsOthers W W' := by
  refine ⟨h.size, fun i o hi ho => (h.block i (Array.getElem?_eq_some_iff.1 hi).1 (fun f => ?_)).trans hi⟩
  have : i = b ∨ i = b + 1 ∨ i = b + 2 ∨ i = b + 3 := by unfold Four at f; omega
  rcases this with rfl | rfl | rfl | rfl
  · rw [show W.heap[i]? = _ from k.per] at hi; cases hi; cases ho
  · rw [show W.heap[b + 1]? = _ from k.from_] at hi; cases hi; cases ho
  · rw [show W.heap[b + 2]? = _ from k.to_] at hi; cases hi; cases ho
  · rw [show W.heap[b + 3]? = _ from k.is] at hi; cases hi; cases ho
theorem kept_but {w W W' : World} {b : Nat} (h : Kept w W) (k : But (Four b) W W') (hb : w.heap.size ≤ b) : Kept w W' := h.then_ k (fun i f => by have := f.1; omega)
def Tells (s : St) (w : World) (e : Ending) (w' : World) : Prop := e = .returned (.tuple #[.int .i64 (p1 s), .int .i64 (p2 s), .int .i64 (p3 s), .bool s.isSome]) ∧ Kept w w'
theorem period_in (n : Nat) (hn : 5 ≤ n) (A : Option Addr) (m c : Nat) (l : List Pk) (P : Option Addr) (L : List R) (first : Int) (w : World) (h : Src w A m c l) (hS : ASet w P L) (hc : chkL l = 0) (hf : Sat.isB first = true) :
    CallsIn Fence.wide n Tryz.prog 118 #[.slice A m c, .pointer P, .int .i64 first] w (Tells (per (has L) first l) w) := by
  have h1 : 1 ≤ n := by omega
  have hok := LosM.chkL_zero hc
  have hm : m ≤ 256 := by have := hok.len; have := h.len; omega
  have HO := Lib.hid hok
  clear hok
  have k0 := boxes_kept w
  have HK0 := Lib.hid (boxes_none w)
  have hs0 := boxes_size w
  have c1 := Lib.hid (Los.checkL_is hc (h.kept k0))
  have c2 := Lib.hid (Los.is_is hf)
  have K0 := Lib.hid k0
  have H := Lib.hid h
  have HS := Lib.hid hS
  have hri := Lib.hid hS.rises
  obtain ⟨rs, hrs⟩ : ∃ rs, L.reverse = rs := ⟨_, rfl⟩
  have HRG : Hid (∀ W, Kept w W → Calls Tryz.prog 163 #[.pointer P] W (Spn.Gives rs W)) := Lib.hid fun W k => by rw [← hrs]; exact (hS.kept k).ranges
  have HRS := Lib.hid hrs
  clear hrs
  have hfn1 : Fence.wide.fn 142 := trivial
  have hfn2 : Fence.wide.fn 91 := trivial
  have hfn3 : Fence.wide.fn 162 := trivial
  have hfn4 : Fence.wide.fn 163 := trivial
  have hfn5 : Fence.wide.fn 161 := trivial
  clear k0 h hS hc hf
  refine callsIn_of_wp_marks Tryz.func118 rfl trivial ?_ rfl
  simp only [Tryz.ntmps118, List.size_toArray, List.length_cons, List.length_nil, Nat.reduceAdd, Nat.reduceSub, Array.replicate_succ, Array.replicate_zero, List.push_toArray, List.append_toArray, List.nil_append, List.cons_append]
  gi_wp2_with fail
  change CallsIn _ _ _ _ _ (boxes w) _
  obtain ⟨b, hb⟩ : ∃ b, w.heap.size = b := ⟨_, rfl⟩
  rw [hb] at HK0 hs0 ⊢
  simp only [Nat.add_assoc, Nat.reduceAdd]
  obtain ⟨W0, hW0⟩ : ∃ W0, boxes w = W0 := ⟨_, rfl⟩
  rw [hW0] at HK0 hs0 c1 K0 ⊢
  clear hW0
  refine (callsIn_wide.2 c1.out).mono ?_
  rintro e w1 ⟨rfl, k1⟩
  have K1 := Lib.hid (K0.out.trans k1)
  have HK1 := Lib.hid (HK0.out.kept k1)
  have hs1 := k1.size
  clear k1 K0 HK0 c1
  gi_wp2_with fail
  refine (callsIn_wide.2 (c2.out _)).mono ?_
  rintro e w2 ⟨rfl, rfl⟩
  clear c2
  have bF0 := Boxed.new w1 174 .nilFunc
  have f0 := bF0.cell
  have f1 := bF0.frozen
  obtain ⟨kf, hkf⟩ : ∃ kf, Value.func (.func 160) #[] #[.pointer (some ⟨b + 3, 0, none⟩), .pointer (some ⟨b, 0, none⟩), .pointer (some ⟨b + 1, 0, none⟩), .pointer (some ⟨b + 2, 0, none⟩)] = kf := ⟨_, rfl⟩
  have HKf := Lib.hid hkf
  clear hkf
  have bF := Lib.hid (Boxed.new w1 174 kf)
  have kF := (Kept.refl w1).alloc (.cells #[kf] 174)
  have hsF : (w1.alloc (.cells #[kf] 174)).heap.size = w1.heap.size + 1 := by simp
  have KF := Lib.hid kF
  clear bF0 kF
  gi_wp2_with fail
  rw [HKf.out]
  obtain ⟨q, hq⟩ : ∃ q, w1.heap.size = q := ⟨_, rfl⟩
  rw [hq] at bF hsF ⊢
  obtain ⟨w2, hw2⟩ : ∃ w2, w1.alloc (.cells #[kf] 174) = w2 := ⟨_, rfl⟩
  rw [hw2] at bF hsF KF ⊢
  have K2 := Lib.hid (K1.out.trans KF.out)
  have HK2 := Lib.hid (HK1.out.kept KF.out)
  have hbq : b + 4 ≤ q := by omega
  clear f0 f1 hw2 KF K1 HK1
  refine (callsIn_wide.2 (counting_any A m c l first w2 (H.out.kept K2.out) hm)).mono ?_
  rintro e w3 ⟨v, rfl, A3, c3, rfl, hr3, hf3, k3⟩
  have bF3 := Lib.hid (boxed_kept bF.out k3)
  have K3 := Lib.hid (K2.out.trans k3)
  have HK3 := Lib.hid (HK2.out.kept k3)
  have R3 := Lib.hid hr3
  have hs3 := k3.size
  have F3 := Lib.hid hf3
  clear bF HK2 hr3 hf3 k3
  gi_wp2_with fail
  refine (callsIn_wide.2 (HRG.out _ K3.out)).mono ?_
  rintro e w4 ⟨A4, c4, rfl, hr4, k4, hf4⟩
  have bF4 := Lib.hid (boxed_kept bF3.out k4)
  have K4 := Lib.hid (K3.out.trans k4)
  have HK4 := Lib.hid (HK3.out.kept k4)
  have R4 := Lib.hid (R3.out.kept k4)
  have S4 := Lib.hid hr4
  have hs4 := k4.size
  have F4 := Lib.hid hf4
  clear bF3 HK3 R3 hr4 hf4 k4
  gi_wp2_with fail
  refine (callsIn_wide.2 (pairs_any A3 A4 _ c3 _ c4 w4)).mono ?_
  rintro e w5 ⟨rfl, rfl⟩
  dsimp only
  have b1 := Blk.new w4 42 #[.slice A3 (l.filter (cntB first)).length c3]
  have b2 := Blk.new (w4.alloc (.cells #[.slice A3 (l.filter (cntB first)).length c3] 42)) 33 #[.slice A4 rs.length c4]
  rw [World.size_alloc] at b2
  have b1' := b1.kept ((Kept.refl _).alloc (.cells #[.slice A4 rs.length c4] 33))
  have k5 := ((Kept.refl w4).alloc (.cells #[.slice A3 (l.filter (cntB first)).length c3] 42)).alloc (.cells #[.slice A4 rs.length c4] 33)
  have hs5 : ((w4.alloc (.cells #[.slice A3 (l.filter (cntB first)).length c3] 42)).alloc (.cells #[.slice A4 rs.length c4] 33)).heap.size = w4.heap.size + 2 := by simp
  obtain ⟨w5, hw5⟩ : ∃ w5, (w4.alloc (.cells #[.slice A3 (l.filter (cntB first)).length c3] 42)).alloc (.cells #[.slice A4 rs.length c4] 33) = w5 := ⟨_, rfl⟩
  rw [hw5] at b1' b2 k5 hs5 ⊢
  obtain ⟨l', hl'⟩ : ∃ l', l.filter (cntB first) = l' := ⟨_, rfl⟩
  rw [hl'] at b1' R4 ⊢
  obtain ⟨g, hg⟩ : ∃ g, w4.heap.size = g := ⟨_, rfl⟩
  rw [hg] at b1' b2 hs5 hs4 ⊢
  have HH := Lib.hid (show Hold w5 g (g + 1) A3 A4 l'.length c3 rs.length c4 l' rs from ⟨b1', b2, R4.out.kept k5, S4.out.kept k5⟩)
  have HFar : Hid (Far b g (g + 1) A3 A4) := Lib.hid ⟨by omega, by omega, fun k e => by have := F3.out k e; omega, fun k e => by have := F4.out k e; omega⟩
  have bF5 := Lib.hid (boxed_kept bF4.out k5)
  have K5 := Lib.hid (K4.out.trans k5)
  have HK5 := Lib.hid (HK4.out.kept k5)
  clear b1 b1' b2 k5 hw5 R4 S4 F3 F4 bF4 K4 HK4 K3 K2
  have HV' : ∀ p ∈ l', (0 ≤ p.n ∧ p.n ≤ 9007199254740991) ∧ 0 ≤ p.t ∧ p.t ≤ 9007199254740991 := fun p hp => by
    rw [← hl'] at hp
    have := HO.out.val p (List.mem_filter.1 hp).1
    unfold valid SntM.M at this
    omega
  have hlm : l'.length ≤ 256 := by rw [← hl']; have h1 := List.length_filter_le (cntB first) l; have h2 := HO.out.len; omega
  have HSeq := Lib.hid (pairs_stops (n - 1) (by omega) b g (g + 1) l'.length c3 rs.length c4 A3 A4 l' rs w5 HH.out HFar.out hlm HV')
  have hall := Lib.hid (show foldB (pairsL rs l') = per (has L) first l from by
    rw [← hl', ← HRS.out]
    exact fold_per hri.out first HO.out.rise (fun y hy => (HO.out.val y hy).2.1))
  gi_wp2_with fail
  refine wpIn_rangeFunc_ownH rfl h1 (gf := 189) (lb := #[.pointer (some ⟨g, 0, none⟩), .pointer (some ⟨g + 1, 0, none⟩)]) rfl trivial (enters_of Tryz.func189 (by kernel_rfl) rfl)
    HSeq.out Kps.trans (fun W l o o' _ h hc _ => Kps.put o' h hc) (Below.refl _ _) (fun _ => rfl)
    (fun pre W => (KSt W b (foldB (pre.map (·.1))) ∧ Boxed W q 174 kf) ∧ Below w.heap.size w W)
    (fun _ _ _ => False)
    (OwnFrom.and (Own.from (fun s X Y row hs hg hr => ⟨kst_own b (fun (pre : List PP) => foldB (pre.map (·.1))) s X Y row hs.1 hg hr, boxed_own q _ (fun _ => kf) s X Y row hs.2 hg hr⟩) _) (ownFrom_below (Nat.le_refl _) (by omega)))
    (fun _ _ _ _ _ hs _ _ => hs)
    ⟨⟨HK5.out, bF5.out⟩, K5.out⟩
    (fun x a' W => ∃ Bx, q < Bx ∧ Blk W Bx 32 (pkA x.1.1) ∧ Blk W (Bx + 1) 32 (pkA x.1.2) ∧ a' = { tmps := #[.slice A m c, .pointer P, .int .i64 first, undef, undef, undef, .pointer (some ⟨b, 0, none⟩), .pointer (some ⟨b + 1, 0, none⟩), .pointer (some ⟨b + 2, 0, none⟩), .pointer (some ⟨b + 3, 0, none⟩), .pointer (some ⟨q, 0, none⟩), .pointer (some ⟨Bx, 0, none⟩), .pointer (some ⟨Bx + 1, 0, none⟩), .slice A m c, .int .i64 0, .bool false, .bool false, .int .i64 first, .bool true, .bool false, .bool false, kf, .slice A m c, .int .i64 first, .slice A3 l'.length c3, .pointer P, .slice A4 rs.length c4,
      .func (.func 189) #[] #[.pointer (some ⟨g, 0, none⟩), .pointer (some ⟨g + 1, 0, none⟩)], pkV x.1.1, pkV x.1.2, undef, undef, undef, undef, undef, undef, undef, undef], defers := [] })
    (fun x a' _ X Y row hs hg hr => by obtain ⟨Bx, g1, g2, g3, g4⟩ := hs; exact ⟨Bx, g1, pblk_own Bx _ _ () X Y row g2 hg (fun r e => (hr r e).2), pblk_own (Bx + 1) _ _ () X Y row g3 hg (fun r e => (hr r e).2), g4⟩)
    ?assign ?body ?done ?stop
  case assign =>
    rintro ly pre x W K ⟨⟨hk, hb⟩, hB1⟩ hK
    simp only [encp]
    have k1 := (Kept.refl W).alloc (.cells (pkA x.1.1) 32)
    have k2 := k1.alloc (.cells (pkA x.1.2) 32)
    have x1 := (Blk.new W 32 (pkA x.1.1)).kept ((Kept.refl _).alloc (.cells (pkA x.1.2) 32))
    have x2 := Blk.new (W.alloc (.cells (pkA x.1.1) 32)) 32 (pkA x.1.2)
    rw [World.size_alloc] at x2
    gi_wp2
    exact hK _ _ (((KeepsOthers.alloc _ _).trans (KeepsOthers.alloc _ _)).from _) (Kps.of_but (k2.but _)) ⟨⟨hk.kept k2, boxed_kept hb k2⟩, (show Kept w W from hB1).trans k2⟩ ⟨W.heap.size, hb.lt, x1, x2, rfl⟩
  case body =>
    rintro ly pre x a' W hl ⟨r, hr⟩ ⟨⟨hk, hb⟩, hB1⟩ ⟨Bx, hBx, bX, bY, rfl⟩ hlt
    have hkf := hb.cell
    rw [← HKf.out] at hkf
    have x0 : W.cell? ⟨Bx, 0, none⟩ = some (.int .i64 x.1.1.n) := bX.cell 0
    have x1 : W.cell? ⟨Bx, 1, none⟩ = some (.int .i64 x.1.1.t) := bX.cell 1
    have x2 : W.cell? ⟨Bx, 2, none⟩ = some (.int .i64 x.1.1.s) := bX.cell 2
    have x3 : W.cell? ⟨Bx, 3, none⟩ = some (.bool x.1.1.e) := bX.cell 3
    have x4 : W.cell? ⟨Bx, 4, none⟩ = some (.bool x.1.1.f) := bX.cell 4
    have x5 : W.cell? ⟨Bx, 5, none⟩ = some (.bool x.1.1.c) := bX.cell 5
    have y0 : W.cell? ⟨Bx + 1, 0, none⟩ = some (.int .i64 x.1.2.n) := bY.cell 0
    have y1 : W.cell? ⟨Bx + 1, 1, none⟩ = some (.int .i64 x.1.2.t) := bY.cell 1
    have y2 : W.cell? ⟨Bx + 1, 2, none⟩ = some (.int .i64 x.1.2.s) := bY.cell 2
    have y3 : W.cell? ⟨Bx + 1, 3, none⟩ = some (.bool x.1.2.e) := bY.cell 3
    have y4 : W.cell? ⟨Bx + 1, 4, none⟩ = some (.bool x.1.2.f) := bY.cell 4
    have y5 : W.cell? ⟨Bx + 1, 5, none⟩ = some (.bool x.1.2.c) := bY.cell 5
    have hc := Lib.hid (keep_any x.1.1 x.1.2 b _ W hk x.2.1 x.2.2)
    have HX := Lib.hid (foldB_snoc (pre.map (·.1)) x.1)
    have hkk := Lib.hid hk
    have hbb := Lib.hid hb
    have hB := Lib.hid hB1
    have hfn : Fence.wide.fn 160 := trivial
    clear hk hb hB1 bX bY
    gi_wp2_with fail
    refine ⟨fun _ => by omega, ?_⟩
    refine (CallsIn.inRound ly (callsIn_wide.2 hc.out)).mono ?_
    rintro e W2 ⟨rfl, hk2, hb2⟩
    have hq2 := (hb2.block q hbb.out.lt (not_four hbq)).trans hbb.out
    have H2 := Lib.hid hk2
    have B2 := Lib.hid hb2
    have Q2 : Hid (Boxed W2 q _ kf) := Lib.hid hq2
    clear hk2 hb2 hq2 x0 x1 x2 x3 x4 x5 y0 y1 y2 y3 y4 y5 hkf
    gi_wp2_with fail
    exact ⟨(But.others B2.out hkk.out).from _, Kps.of_but B2.out, ⟨by rw [List.map_append, List.map_singleton, HX.out]; exact H2.out, Q2.out⟩, kept_but hB.out B2.out (by omega)⟩
  case done =>
    rintro D ys W hD hys ⟨⟨hk, hb⟩, hB1⟩ hK
    rw [hys, hall.out] at hk
    obtain ⟨s, hs⟩ : ∃ s, per (has L) first l = s := ⟨_, rfl⟩
    rw [hs] at hk
    have c0 := hk.per.cell
    have c1 := hk.from_.cell
    have c2 := hk.to_.cell
    have c3 := hk.is.cell
    have f0 := hk.per.frozen
    have f1 := hk.from_.frozen
    have f2 := hk.to_.frozen
    have f3 := hk.is.frozen
    have H2 := Lib.hid (four_put hk s)
    have K2 := Lib.hid (four_kept (b := b) hB1 (by omega) (.int .i64 (p1 s)) (.int .i64 (p2 s)) (.int .i64 (p3 s)) (.bool s.isSome))
    have O2 := Lib.hid ((four_others (b := b) (.int .i64 (p1 s)) (.int .i64 (p2 s)) (.int .i64 (p3 s)) (.bool s.isSome)).same D _ hK rfl)
    have hDD : w.heap.size ≤ D := by omega
    have HSs := Lib.hid hs
    clear hk hb hB1 hK hys hs
    gi_wp2_with fail
    gi_region
    all_goals
      gi_wp2_with fail
      obtain ⟨X, hX, hk, hkept, hd⟩ : ∃ X, X = ((((W.setCell ⟨b, 0, none⟩ (.int .i64 (p1 s))).setCell ⟨b + 1, 0, none⟩ (.int .i64 (p2 s))).setCell ⟨b + 2, 0, none⟩ (.int .i64 (p3 s))).setCell ⟨b + 3, 0, none⟩ (.bool s.isSome)).drew ∧ KSt X b s ∧ Kept w X ∧ X.heap[D]? = some (.deferred (some [])) :=
        ⟨_, rfl, H2.out.kept (Kept.refl _).drew, K2.out.drew, O2.out⟩
      rw [← hX, HSs.out]
      have d0 := cell_kept hk.per.cell (grownBy_putObj' _ D (.deferred none)) (fun r e => by cases e; exact ⟨_, hd, rfl⟩)
      have d1 := cell_kept hk.from_.cell (grownBy_putObj' _ D (.deferred none)) (fun r e => by cases e; exact ⟨_, hd, rfl⟩)
      have d2 := cell_kept hk.to_.cell (grownBy_putObj' _ D (.deferred none)) (fun r e => by cases e; exact ⟨_, hd, rfl⟩)
      have d3 := cell_kept hk.is.cell (grownBy_putObj' _ D (.deferred none)) (fun r e => by cases e; exact ⟨_, hd, rfl⟩)
      refine ⟨by simp, .inl ⟨_, _, rfl, run_takeDeferred hd, ?_⟩⟩
      refine ⟨.tuple #[.int .i64 (p1 s), .int .i64 (p2 s), .int .i64 (p3 s), .bool s.isSome], ?_, rfl, Below.trans hkept (belowK_b (w := w) (Nat.le_refl _) X D _ _ hDD hd rfl rfl)⟩
      simp [results, Tryz.f118, go_sem, d0, d1, d2, d3]
  case stop =>
    rintro D c pre W _ _ h _
    exact h.elim
theorem period_ok {A : Option Addr} {m c : Nat} {l : List Pk} {P : Option Addr} {L : List R} {first : Int} {w : World} (h : Src w A m c l) (hS : ASet w P L) (hc : chkL l = 0) (hf : Sat.isB first = true) :
    Calls Tryz.prog 118 #[.slice A m c, .pointer P, .int .i64 first] w (Tells (per (has L) first l) w) := callsIn_wide.1 (period_in 5 (Nat.le_refl _) A m c l P L first w h hS hc hf)
theorem period_bad {A : Option Addr} {m c : Nat} {l : List Pk} {P : Option Addr} {first : Int} {w : World} (h : Src w A m c l) (hc : chkL l = 0 → Sat.isB first = false) :
    Calls Tryz.prog 118 #[.slice A m c, .pointer P, .int .i64 first] w (Tells none w) := by
  have k0 := boxes_kept w
  have hs0 := boxes_size w
  have HK0 := Lib.hid (boxes_none w)
  obtain ⟨E, hE⟩ : ∃ E, chkL l = E := ⟨_, rfl⟩
  have c1 := Lib.hid (Los.checkL_is hE (h.kept k0))
  have K0 := Lib.hid k0
  have HE := Lib.hid hE
  rw [hE] at hc
  clear k0 h hE
  obtain ⟨v, hv⟩ : ∃ v, Sat.isB first = v := ⟨_, rfl⟩
  have c2 := Lib.hid (Los.is_is hv)
  rw [hv] at hc
  clear hv
  go_enter Tryz.func118, Tryz.ntmps118
  go_wp2_with fail
  change Calls _ _ _ (boxes w) _
  obtain ⟨b, hb⟩ : ∃ b, w.heap.size = b := ⟨_, rfl⟩
  rw [hb] at HK0 hs0 ⊢
  simp only [Nat.add_assoc, Nat.reduceAdd]
  obtain ⟨W0, hW0⟩ : ∃ W0, boxes w = W0 := ⟨_, rfl⟩
  rw [hW0] at HK0 hs0 c1 K0 ⊢
  clear hW0
  refine c1.out.mono ?_
  rintro e w1 ⟨rfl, k1⟩
  have K1 := Lib.hid (K0.out.trans k1)
  have HK1 := Lib.hid (HK0.out.kept k1)
  clear k1 K0 HK0 c1
  have e0 := HK1.out.per.cell
  have e1 := HK1.out.from_.cell
  have e2 := HK1.out.to_.cell
  have e3 := HK1.out.is.cell
  have f0 := HK1.out.per.frozen
  have f1 := HK1.out.from_.frozen
  have f2 := HK1.out.to_.frozen
  have f3 := HK1.out.is.frozen
  have H2 := Lib.hid (four_put HK1.out none)
  have K2 := Lib.hid (four_kept (b := b) K1.out (by omega) (.int .i64 0) (.int .i64 0) (.int .i64 0) (.bool false))
  by_cases hz : E = 0
  · subst hz
    have hv := hc rfl
    subst hv
    go_wp2_with fail
    refine (c2.out _).mono ?_
    rintro e w2 ⟨rfl, rfl⟩
    go_wp2_with fail
    have d0 := H2.out.per.cell
    have d1 := H2.out.from_.cell
    have d2 := H2.out.to_.cell
    have d3 := H2.out.is.cell
    simp only [p1, p2, p3, Option.isSome] at d0 d1 d2 d3
    exact bodyPost_ret (v := .tuple #[.int .i64 0, .int .i64 0, .int .i64 0, .bool false]) (by simp [results, Tryz.results118, go_sem, d0, d1, d2, d3]) rfl ⟨rfl, K2.out⟩
  · have hz1 : (E != 0) = true := by simpa using hz
    have hz2 : (E == 0) = false := by simpa using hz
    go_wp2_with fail
    have d0 := H2.out.per.cell
    have d1 := H2.out.from_.cell
    have d2 := H2.out.to_.cell
    have d3 := H2.out.is.cell
    simp only [p1, p2, p3, Option.isSome] at d0 d1 d2 d3
    exact bodyPost_ret (v := .tuple #[.int .i64 0, .int .i64 0, .int .i64 0, .bool false]) (by simp [results, Tryz.results118, go_sem, d0, d1, d2, d3]) rfl ⟨rfl, K2.out⟩
theorem isB_iff (a : Int) : Sat.isB a = true ↔ 0 ≤ a ∧ a ≤ 9007199254740991 := by unfold Sat.isB; simp
theorem period_any {A : Option Addr} {m c : Nat} {l : List Pk} {P : Option Addr} {L : List R} {first : Int} {w : World} (h : Src w A m c l) (hS : ASet w P L) :
    Calls Tryz.prog 118 #[.slice A m c, .pointer P, .int .i64 first] w (Tells (perOf (has L) l first) w) := by
  unfold perOf
  by_cases hc : chkL l = 0
  · rw [if_pos hc]
    by_cases hf : 0 ≤ first ∧ first ≤ 9007199254740991
    · rw [if_pos hf]; exact period_ok h hS hc ((isB_iff _).2 hf)
    · rw [if_neg hf]
      exact period_bad h (fun _ => by
        cases hb : Sat.isB first with
        | false => rfl
        | true => exact absurd ((isB_iff _).1 hb) hf)
  · rw [if_neg hc]; exact period_bad h (fun h0 => absurd h0 hc)
theorem period_is {A : Option Addr} {m c : Nat} {l : List Pk} {P : Option Addr} {L : List R} {first : Int} {w : World} {s : St} (hs : perOf (has L) l first = s) (h : Src w A m c l) (hS : ASet w P L) :
    Calls Tryz.prog 118 #[.slice A m c, .pointer P, .int .i64 first] w (Tells s w) := by rw [← hs]; exact period_any h hS
end Go.Proofs.YtilkgjpgoogiiaaGreat.Per
namespace Go.Proofs.YtilkgjpgoogiiaaGreat.Per
open Go.RowKit SntM Cd Wd LosM PerM
open SpnM (R Rises has addTo addErr)
open Spn (Row SetAt Abs Mine)
open Snt (pkC pkV pkA PRow)
open Los (Src)
open RttM (Rt chk)
open Rtt (rtV rtA Gives Same GBool)
open PtoM (pers)
def mk (n t : Int) : Pk := ⟨n, t, 100, true, true, false⟩
def longer (s : St) (D : Int) : Bool := match s with | none => false | some p => decide (D < p.1)
def isT (S : Int → Bool) (l : List Pk) (r : Rt) (d : Int) : Bool := if chk r = 0 then longer (perOf S l r.f) (pers r d) else false
theorem isT_any {A : Option Addr} {m c : Nat} {l : List Pk} {P : Option Addr} {L : List R} (r : Rt) (d : Int) (w : World) (h : Src w A m c l) (hS : ASet w P L) :
    Calls Tryz.prog 84 #[.slice A m c, .pointer P, rtV r, .int .i64 d] w (Snt.GBool (isT (has L) l r d) w) := by
  have B0 := Blk.new w 38 (rtA r)
  have k0 := (Kept.refl w).alloc (.cells (rtA r) 38)
  obtain ⟨s, hs⟩ : ∃ s, perOf (has L) l r.f = s := ⟨_, rfl⟩
  obtain ⟨E, hE⟩ : ∃ E, chk r = E := ⟨_, rfl⟩
  obtain ⟨D, hD⟩ : ∃ D, pers r d = D := ⟨_, rfl⟩
  have hT : Hid (isT (has L) l r d = if E = 0 then longer s D else false) := Lib.hid (by unfold isT; rw [hs, hE, hD])
  have H1 : Hid (∀ W, Kept w W → Calls Tryz.prog 118 #[.slice A m c, .pointer P, .int .i64 r.f] W (Tells s W)) := Lib.hid fun W k => period_is hs (h.kept k) (hS.kept k)
  have H2 : Hid (∀ W, Calls Tryz.prog 119 #[rtV r, .int .i64 d] W (Gives (.int .i64 D) W)) := Lib.hid fun W => by rw [← hD]; exact Pto.persist_any r d W
  have H3 : Hid (∀ W, Calls Tryz.prog 117 #[rtV r] W (Gives (.int .i64 E) W)) := Lib.hid fun W => by rw [← hE]; exact Rtt.check_any r W
  obtain ⟨T, hT'⟩ : ∃ T, isT (has L) l r d = T := ⟨_, rfl⟩
  rw [hT'] at hT ⊢
  clear hT' hs hE hD h hS
  have B := Lib.hid B0
  have K0 := Lib.hid k0
  clear B0 k0
  go_enter Tryz.func84, Tryz.ntmps84
  go_wp2_with fail
  refine (H3.out _).mono ?_
  rintro e w1 ⟨rfl, k1⟩
  have B1 := Lib.hid (B.out.kept k1)
  have K1 := Lib.hid (K0.out.trans k1)
  have b0 : w1.cell? ⟨w.heap.size, 0, none⟩ = some (.int .i64 r.l) := B1.out.cell 0
  have b1 : w1.cell? ⟨w.heap.size, 1, none⟩ = some (.int .i64 r.m) := B1.out.cell 1
  have b2 : w1.cell? ⟨w.heap.size, 2, none⟩ = some (.int .i64 r.s) := B1.out.cell 2
  have b3 : w1.cell? ⟨w.heap.size, 3, none⟩ = some (.int .i64 r.v) := B1.out.cell 3
  have b4 : w1.cell? ⟨w.heap.size, 4, none⟩ = some (.int .i64 r.f) := B1.out.cell 4
  clear k1 K0 B
  by_cases hz : E = 0
  · subst hz
    rw [if_pos rfl] at hT
    go_wp2_with fail
    refine (H1.out _ K1.out).mono ?_
    rintro e w2 ⟨rfl, k2⟩
    have B2 := Lib.hid (B1.out.kept k2)
    have K2 := Lib.hid (K1.out.trans k2)
    clear k2 b0 b1 b2 b3 b4
    have b0 : w2.cell? ⟨w.heap.size, 0, none⟩ = some (.int .i64 r.l) := B2.out.cell 0
    have b1 : w2.cell? ⟨w.heap.size, 1, none⟩ = some (.int .i64 r.m) := B2.out.cell 1
    have b2 : w2.cell? ⟨w.heap.size, 2, none⟩ = some (.int .i64 r.s) := B2.out.cell 2
    have b3 : w2.cell? ⟨w.heap.size, 3, none⟩ = some (.int .i64 r.v) := B2.out.cell 3
    have b4 : w2.cell? ⟨w.heap.size, 4, none⟩ = some (.int .i64 r.f) := B2.out.cell 4
    cases s with
    | none =>
      simp only [p1, p2, p3, Option.isSome]
      go_wp2_with fail
      go_ret
      exact ⟨ret_bool hT.out.symm, K2.out⟩
    | some p =>
      obtain ⟨x, y, z⟩ := p
      simp only [p1, p2, p3, Option.isSome]
      go_wp2_with fail
      refine (H2.out _).mono ?_
      rintro e w3 ⟨rfl, k3⟩
      have K3 := Lib.hid (K2.out.trans k3)
      clear k3
      go_wp2_with fail
      go_ret
      exact ⟨ret_bool hT.out.symm, K3.out⟩
  · have hz1 : (E != 0) = true := by simpa using hz
    have hz2 : (E == 0) = false := by simpa using hz
    rw [if_neg hz] at hT
    go_wp2_with fail
    go_ret
    exact ⟨ret_bool hT.out.symm, K1.out⟩
end Go.Proofs.YtilkgjpgoogiiaaGreat.Per
