/-
  Contract of the law's bits.
-/
import Derived.Test.YtabchdolafplnaaSpnSM
import Derived.Test.YtabchdolafplnaaSpnTQ
import Derived.Test.YtabchdolafplnaaNum
import Derived.Deep.MidRow
import Derived.Deep.CutBlock
import Derived.Deep.DeepCutAuto
namespace Go.Proofs.Ytabchdolafplnaa.Spn
open Go.RowKit SpnM Wd Num
set_option linter.unusedVariables false
set_option linter.unusedSimpArgs false

/-- A block that holds just these numbers. -/
def Nb (V : World) (Y : Nat) (t : TypeId) (L : List Int) : Prop := Blk V Y t (L.map (Value.int .i64)).toArray
def gt_ (L : List Int) (k : Nat) : Int := L.getD k 0
theorem Nb.cell {V : World} {Y : Nat} {t : TypeId} {L : List Int} (h : Nb V Y t L) {k : Nat} (hk : k < L.length) : V.cell? ⟨Y, k, none⟩ = some (.int .i64 (gt_ L k)) := by
  rw [Blk.cell h k]; simp [gt_, List.getD, hk]
theorem Nb.frozen {V : World} {Y : Nat} {t : TypeId} {L : List Int} (h : Nb V Y t L) (k : Nat) : V.frozen? ⟨Y, k, none⟩ = false := Blk.frozen h k
theorem Nb.kept {V V' : World} {Y : Nat} {t : TypeId} {L : List Int} (h : Nb V Y t L) (k : Kept V V') : Nb V' Y t L := Blk.kept h k
theorem Nb.set {V : World} {Y : Nat} {t : TypeId} {L : List Int} (h : Nb V Y t L) (k : Nat) (x : Int) : Nb (V.setCell ⟨Y, k, none⟩ (.int .i64 x)) Y t (L.set k x) := by
  have := Blk.set_ h k (.int .i64 x)
  unfold Nb
  rw [List.map_set]
  simpa using this
theorem Nb.far {V : World} {Y Z : Nat} {t : TypeId} {L : List Int} (h : Nb V Y t L) (hne : Y ≠ Z) (k : Nat) (v : Value) : Nb (V.setCell ⟨Z, k, none⟩ v) Y t L := Blk.far h (p := ⟨Z, k, none⟩) hne v
/-- The numbers below 101 of which P holds, each told by itself. -/
def wt (P : Nat → Bool) : List Int := (List.range 101).map (fun m => if P m = true then 1 else 0)
theorem wt_len (P : Nat → Bool) : (wt P).length = 101 := by simp [wt]
theorem wt_at (P : Nat → Bool) {k : Nat} (h : k < 101) : gt_ (wt P) k = if P k = true then 1 else 0 := by
  unfold gt_ wt List.getD; simp [h]
theorem wt_congr {P Q : Nat → Bool} (h : ∀ k, k < 101 → P k = Q k) : wt P = wt Q := by
  unfold wt
  apply List.map_congr_left
  intro k hk
  rw [List.mem_range] at hk
  rw [h k hk]
theorem wt_set (P : Nat → Bool) (b : Bool) (k : Nat) : (wt P).set k (if b = true then 1 else 0) = wt (fun m => if m = k then b else P m) := by
  apply List.ext_getElem?
  intro m
  rw [List.getElem?_set]
  unfold wt
  simp only [List.length_map, List.length_range, List.getElem?_map]
  by_cases hm : m < 101
  · by_cases e : k = m
    · subst e; simp [hm]
    · rw [if_neg e]; simp [hm, show ¬ m = k from fun h => e h.symm]
  · by_cases e : k = m
    · subst e; simp [hm]
    · rw [if_neg e]; simp [hm]
theorem wt_none : (wt (fun _ => false)).map (Value.int .i64) = List.replicate 101 (.int .i64 0) := rfl
/-- The rows' ranges. -/
def rws (f : Nat → Nat → Int) (n : Nat) : List R := (List.range n).map (fun j => (rlo (f j 0), rhi (f j 0) (f j 1)))
theorem rws_len (f : Nat → Nat → Int) (n : Nat) : (rws f n).length = n := by simp [rws]
theorem rws_succ (f : Nat → Nat → Int) (n : Nat) : rws f (n + 1) = rws f n ++ [(rlo (f n 0), rhi (f n 0) (f n 1))] := by unfold rws; rw [List.range_succ, List.map_append]; rfl
theorem rws_ok (f : Nat → Nat → Int) (n : Nat) : oks (rws f n) := by
  intro r hr
  unfold rws at hr
  rw [List.mem_map] at hr
  obtain ⟨j, _, rfl⟩ := hr
  have := row_bd (f j 0) (f j 1)
  exact ⟨this.1, this.2.1, by unfold M; have := this.2.2; show rhi _ _ ≤ _; omega⟩
def inR (l : List R) (x : Nat) : Bool := l.any (fun r => decide (r.1 ≤ (x : Int) ∧ (x : Int) ≤ r.2))
theorem inR_snoc (l : List R) (r : R) (x : Nat) : inR (l ++ [r]) x = (inR l x || decide (r.1 ≤ (x : Int) ∧ (x : Int) ≤ r.2)) := by simp [inR]

/-- What lies there in the midst of bits. -/
structure Bw (w W : World) (p q : Nat) (P : Nat → Bool) : Prop where
  a : Blk W p 51 (List.replicate 101 (Value.int .i64 0)).toArray
  b : Nb W q 51 (wt P)
  k : Kept w W
  p0 : w.heap.size ≤ p
  q0 : w.heap.size ≤ q
  ne : p ≠ q
theorem Bw.on {w W W' : World} {p q : Nat} {P : Nat → Bool} (h : Bw w W p q P) (k : Kept W W') : Bw w W' p q P := ⟨h.a.kept k, h.b.kept k, h.k.trans k, h.p0, h.q0, h.ne⟩
theorem Bw.put {w W : World} {p q : Nat} {P Q : Nat → Bool} (h : Bw w W p q P) (b : Bool) (k : Nat) (hQ : ∀ m, m < 101 → Q m = if m = k then b else P m) : Bw w (W.setCell ⟨q, k, none⟩ (.int .i64 (if b = true then 1 else 0))) p q Q := by
  refine ⟨h.a.far (p := ⟨q, k, none⟩) h.ne _, ?_, h.k.setCell (p := ⟨q, k, none⟩) h.q0 _, h.p0, h.q0, h.ne⟩
  have := h.b.set k (if b = true then 1 else 0)
  rw [wt_set, ← wt_congr hQ] at this
  exact this
theorem z51 : Try.zeroCells51 = (List.replicate 101 (Value.int .i64 0)).toArray := by kernel_rfl

/-- What a variable of the result's own holds is handed back. -/
theorem results_cell {P : Program} {fn : Func} {t : Tmp} {ty : TypeId} (h : fn.results = #[.cell t ty]) (tmps : Array Value) (w : World) (ad : Addr) (v : Value) (hp : tmps.getD t undef = .pointer (some ad)) (hl : (loadVar ty ad).run P w = .ok v w) : (results fn tmps).run P w = .ok v w := by
  have hp' : tmps[t]?.getD undef = .pointer (some ad) := by simpa using hp
  simp [results, h, hp', asAddr, hl]
set_option maxRecDepth 100000 in
set_option maxHeartbeats 4000000 in
theorem bits_any (A : Option Addr) (n c : Nat) (f : Nat → Nat → Int) (b : Nat) (w : World) (h : Grid 2 w A n c f) (hb : b ≤ 100) (hn : n ≤ 40) :
    Calls Try.prog 25 #[.slice A n c, .int .i64 b] w (fun e w' => e = .returned (.agg ((wt (fun x => inR (rws f n) x && !(decide (x < b)))).map (Value.int .i64)).toArray) ∧ Kept w w') := by
  have HG := Lib.hid h
  clear h
  go_enter Try.func25, Try.ntmps25
  go_upto_region 2 with (fail)
  have P0 : Hid (Bw w ((w.alloc (.cells Try.zeroCells51 51)).alloc (.cells Try.zeroCells51 51)) w.heap.size (w.heap.size + 1) (fun x => inR (rws f 0) x)) := by
    apply Lib.hid
    refine ⟨?_, ?_, ((Kept.refl w).alloc _).alloc _, Nat.le_refl _, by omega, by omega⟩
    · rw [← z51]; exact (Blk.new w _ _).kept ((Kept.refl _).alloc _)
    · have := Blk.new (w.alloc (.cells Try.zeroCells51 51)) 51 Try.zeroCells51
      rw [World.size_alloc] at this
      unfold Nb
      rw [show (wt (fun x => inR (rws f 0) x)) = wt (fun _ => false) from wt_congr (fun k _ => by simp [rws, inR]), wt_none, ← z51]
      exact this
  generalize (w.alloc (.cells Try.zeroCells51 51)).alloc (.cells Try.zeroCells51 51) = W0 at *
  generalize w.heap.size + 1 = q at *
  generalize hp : w.heap.size = p at *
  go_wp2_with fail
  go_loopw [6] (fun s6 wr => ∃ i : Nat, i ≤ n ∧ s6 = .int .i64 i ∧ Hid (Bw w wr p q (fun x => inR (rws f i) x))) (fun s6 _ => n - (intOf s6).toNat)
  case atStart => exact ⟨0, Nat.zero_le _, rfl, P0⟩
  case round =>
    obtain ⟨i, hi, rfl, HB⟩ := hrel
    clear P0
    by_cases hlt : i < n
    · have hi0 : (0 : Int) ≤ (i : Int) := by omega
      have hi1 : (i : Int) < (n : Int) := by omega
      have hw1 : IntKind.i64.wrap ((i : Int) + 1) = (i : Int) + 1 := IntWalk.i64_in _ (by omega)
      obtain ⟨bb, o, rfl, hbb, hc⟩ := (HG.out.kept HB.out.k).lies (by omega)
      have e0 := hc i hlt 0 (by omega)
      have e1 := hc i hlt 1 (by omega)
      rw [Nat.add_zero] at e0
      have hS := Lib.hid (rws_succ f i)
      have hbd := row_bd (f i 0) (f i 1)
      clear hc
      generalize f i 0 = x at *
      generalize f i 1 = y at *
      go_wp2_with fail
      refine (row_any x y _).mono ?_
      rintro e w2 ⟨rfl, k2⟩
      have HB2 := Lib.hid (HB.out.on k2)
      obtain ⟨lo, hlo⟩ : ∃ lo : Nat, rlo x = (lo : Int) := ⟨(rlo x).toNat, by omega⟩
      obtain ⟨hi2, hhi⟩ : ∃ hi : Nat, rhi x y = (hi : Int) := ⟨(rhi x y).toNat, by omega⟩
      rw [hlo, hhi] at hbd hS ⊢
      clear k2 HB e0 e1 hlo hhi hbb
      go_wp2_with fail
      go_loopw [9] (fun s9 wr => ∃ m : Nat, lo ≤ m ∧ m ≤ hi2 + 1 ∧ s9 = .int .i64 m ∧ Hid (Bw w wr p q (fun x => inR (rws f i) x || (decide (lo ≤ x) && decide (x < m))))) (fun s9 _ => hi2 + 1 - (intOf s9).toNat)
      case atStart => exact ⟨lo, Nat.le_refl _, by omega, rfl, ⟨HB2.out.a, by
        have := HB2.out.b
        rwa [show wt (fun x => inR (rws f i) x) = wt (fun x => inR (rws f i) x || (decide (lo ≤ x) && decide (x < lo))) from wt_congr (fun k _ => by
          by_cases h : lo ≤ k
          · have : ¬ k < lo := by omega
            simp [this]
          · simp [h])] at this, HB2.out.k, HB2.out.p0, HB2.out.q0, HB2.out.ne⟩⟩
      case round =>
        obtain ⟨m, hm1, hm2, rfl, HM⟩ := hrel
        clear HB2
        by_cases hle : m ≤ hi2
        · have hm3 : (m : Int) ≤ (hi2 : Int) := by omega
          have hm0 : (0 : Int) ≤ (m : Int) := by omega
          have hm4 : (m : Int) < 101 := by omega
          have hwm : IntKind.i64.wrap ((m : Int) + 1) = (m : Int) + 1 := IntWalk.i64_in _ (by omega)
          have c0 := HM.out.b.cell (k := m) (by rw [wt_len]; omega)
          have c1 := HM.out.b.frozen m
          generalize gt_ _ m = v0 at c0
          go_wp2_with fail
          go_roundw
          case rel => exact ⟨m + 1, by omega, by omega, by go_num, Lib.hid (HM.out.put true m (fun k _ => by
            by_cases e : k = m
            · subst e; simp [hm1]
            · rw [if_neg e]
              have : (k < m + 1) ↔ (k < m) := by omega
              simp [this]))⟩
          case measure => simp [intOf]; omega
        · obtain rfl : m = hi2 + 1 := by omega
          have hm3 : ¬ (((hi2 + 1 : Nat) : Int) ≤ (hi2 : Int)) := by omega
          go_wp2_with fail
          go_roundw
          case rel => exact ⟨i + 1, by omega, by go_num, Lib.hid ⟨HM.out.a, by
            have := HM.out.b
            rwa [show wt (fun x => inR (rws f i) x || (decide (lo ≤ x) && decide (x < hi2 + 1))) = wt (fun x => inR (rws f (i + 1)) x) from wt_congr (fun k _ => by
              rw [hS.out, inR_snoc]
              congr 1
              rw [Bool.eq_iff_iff]
              simp only [Bool.and_eq_true, decide_eq_true_iff]
              omega)] at this, HM.out.k, HM.out.p0, HM.out.q0, HM.out.ne⟩⟩
          case measure => simp [intOf]; omega
    · obtain rfl : i = n := by omega
      have hz : ¬ ((i : Int) < (i : Int)) := by omega
      go_wp2_with fail
      go_loopw [10] (fun s10 wr => ∃ m : Nat, m ≤ b ∧ s10 = .int .i64 m ∧ Hid (Bw w wr p q (fun x => inR (rws f i) x && !(decide (x < m))))) (fun s10 _ => b - (intOf s10).toNat)
      case atStart => exact ⟨0, Nat.zero_le _, rfl, by simpa using HB⟩
      case round =>
        obtain ⟨m, hm, rfl, HM⟩ := hrel
        clear HB
        by_cases hlt2 : m < b
        · have hm3 : (m : Int) < (b : Int) := by omega
          have hm0 : (0 : Int) ≤ (m : Int) := by omega
          have hm4 : (m : Int) < 101 := by omega
          have hwm : IntKind.i64.wrap ((m : Int) + 1) = (m : Int) + 1 := IntWalk.i64_in _ (by omega)
          have c0 := HM.out.b.cell (k := m) (by rw [wt_len]; omega)
          have c1 := HM.out.b.frozen m
          generalize gt_ _ m = v0 at c0
          go_wp2_with fail
          go_roundw
          case rel => exact ⟨m + 1, by omega, by go_num, Lib.hid (HM.out.put false m (fun k _ => by
            by_cases e : k = m
            · subst e; simp
            · rw [if_neg e]
              have : (k < m + 1) ↔ (k < m) := by omega
              simp [this]))⟩
          case measure => simp [intOf]; omega
        · obtain rfl : m = b := by omega
          have hm3 : ¬ ((m : Int) < (m : Int)) := by omega
          have hR := HM.out.b
          have hP := HM.out.a
          have KM := HM.out.k
          have hp0 := HM.out.p0
          have hW : Hid (wt (fun x => inR (rws f i) x && !(decide (x < m))) = wt (fun x => inR (rws f i) x && !(decide (x < m)))) := Lib.hid rfl
          have hlen : ((wt (fun x => inR (rws f i) x && !(decide (x < m)))).map (Value.int .i64)).length = 101 := by rw [List.length_map, wt_len]
          have hone : ∀ v ∈ (wt (fun x => inR (rws f i) x && !(decide (x < m)))).map (Value.int .i64), v.oneCell' = true := by
            intro v hv
            rw [List.mem_map] at hv
            obtain ⟨z, _, rfl⟩ := hv
            rfl
          unfold Nb at hR
          clear HM hW
          generalize harr : (wt (fun x => inR (rws f i) x && !(decide (x < m)))).map (Value.int .i64) = arr at *
          have HA := Lib.hid harr
          clear harr
          have hinfo : (Try.prog.info? 51).map (·.size) = some arr.length := by rw [hlen]; kernel_rfl
          have hrange : wr.rangeAt q 0 arr := fun j v hj => by rw [Nat.zero_add, hR.cell]; simpa using hj
          have hthere : wr.there p 0 arr.toArray.size := fun j hj => by
            rw [Nat.zero_add]
            refine ⟨?_, hP.frozen j⟩
            rw [hP.cell]
            have : j < 101 := by rw [← hlen]; simpa using hj
            simp [this]
          have h3 := run_loadVar_mid (P := Try.prog) (wr.setCells p 0 arr) p 0 51 arr _ (World.rangeAt_setCells_same wr p 0 arr (by simpa using hthere)) Try.underlying51 rfl hinfo
          have KS : Hid (Kept w (wr.setCells p 0 arr)) := by
            show Kept _ _
            clear h3 hrange hthere hinfo hone hlen hR hP
            revert KM
            have key : ∀ (vs : List Value) (o : Nat) (V : World), Kept w V → Kept w (V.setCells p o vs) := by
              intro vs
              induction vs with
              | nil => intro o V h; exact h
              | cons v vs ih => intro o V h; exact ih _ _ (h.setCell (p := ⟨p, o, none⟩) (by omega) v)
            exact key arr 0 wr
          have hst0 := run_storeCells_cells (P := Try.prog) p 0 arr 0 wr (fun j hj => by simpa using (hthere j (by simpa using hj)).1) (fun j hj => by simpa using (hthere j (by simpa using hj)).2) hone
          have XS : Hid ((storeCells ⟨p, 0, none⟩ arr).run Try.prog wr = .ok () (wr.setCells p 0 arr)) := Lib.hid (by simpa using hst0)
          have XL := Lib.hid hlen
          clear hst0
          have XR := Lib.hid hrange
          have XT := Lib.hid hthere
          have XI := Lib.hid hinfo
          have XO := Lib.hid hone
          have X3 := Lib.hid h3
          clear hrange hthere hinfo hone hlen hR hP KM h3
          go_wp2_with fail
          refine wp_load_mid _ _ rfl q 0 rfl arr _ XR.out Try.underlying51 rfl XI.out ?_
          have hsl := XL.out
          have hst := XS.out
          go_wp2_with fail
          exact bodyPost_ret (v := .agg arr.toArray) (results_cell rfl _ _ ⟨p, 0, none⟩ _ rfl X3.out) rfl ⟨by rw [HA.out], KS.out⟩
end Go.Proofs.Ytabchdolafplnaa.Spn
