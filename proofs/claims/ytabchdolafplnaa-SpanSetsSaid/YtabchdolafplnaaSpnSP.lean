/-
  For the law SpanSets: two sets of the program side by side; rows turned round; what is cut, told number by number; a range of cells in a block.
-/
import Derived.Test.YtabchdolafplnaaSpnSB
import Derived.Test.YtabchdolafplnaaSpnT
import Derived.Test.YtabchdolafplnaaSpnTM
namespace Go.Proofs.Ytabchdolafplnaa.Spn
open Go.RowKit SpnM Wd Num
set_option linter.unusedVariables false
set_option linter.unusedSimpArgs false

/-- What is done to a set, told by its blocks. -/
def DoesS (w W : World) (p : Nat) (A : Option Addr) (room : Nat) (l' : List R) (n : Int) (e : Ending) (W' : World) : Prop :=
  e = .returned (.int .i64 n) ∧ ∃ A' c', Mine w W' p A' c' room l' ∧ But (Foot p A) W W' ∧ ∀ i, Foot p A' i → Foot p A i ∨ W.heap.size ≤ i
theorem doesS_of_did {w W : World} {p c room : Nat} {A : Option Addr} {l l' : List R} {n : Int} (h : Mine w W p A c room l) {e : Ending} {W' : World} (d : Did p A room l' n W e W') : DoesS w W p A room l' n e W' := by
  obtain ⟨h1, A', c', s, b, f⟩ := d
  have hf : ∀ i, Foot p A' i → Foot p A i ∨ W.heap.size ≤ i := by
    rintro i (rfl | e)
    · exact .inl (.inl rfl)
    · rcases f i e with h2 | h2
      · exact .inl (.inr h2)
      · exact .inr h2
  refine ⟨h1, A', c', ⟨s, h.2.1.then_ b h.2.2, fun i hi => ?_⟩, b, hf⟩
  rcases hf i hi with h2 | h2
  · exact h.2.2 i h2
  · exact Nat.le_trans h.2.1.size h2

/-- Two sets in memory of their own, with nothing shared. -/
structure Pr (w W : World) (p : Nat) (A : Option Addr) (c q : Nat) (B : Option Addr) (d : Nat) (l m : List R) : Prop where
  s : Mine w W p A c 256 l
  t : Mine w W q B d 256 m
  ap : ∀ i, Foot p A i → ¬ Foot q B i
section
variable {w W W' : World} {p c q d : Nat} {A B : Option Addr} {l m l' : List R}
theorem Pr.on (h : Pr w W p A c q B d l m) (k : Kept W W') : Pr w W' p A c q B d l m := ⟨h.s.kept k, h.t.kept k, h.ap⟩
theorem Pr.flip (h : Pr w W p A c q B d l m) : Pr w W q B d p A c m l := ⟨h.t, h.s, fun i a b => h.ap i b a⟩
theorem Pr.does (h : Pr w W p A c q B d l m) {A' : Option Addr} {c' : Nat} (hm : Mine w W' p A' c' 256 l') (hb : But (Foot p A) W W') (hf : ∀ i, Foot p A' i → Foot p A i ∨ W.heap.size ≤ i) : Pr w W' p A' c' q B d l' m :=
  ⟨hm, ⟨h.t.1.but hb (fun i hi hp => h.ap i hp hi), hm.2.1, h.t.2.2⟩, fun i hi hq => by
    rcases hf i hi with h1 | h1
    · exact h.ap i h1 hq
    · have := h.t.1.foot i hq; omega⟩
theorem Pr.add (h : Pr w W p A c q B d l m) {lo hi n : Int} (e1 : addErr 256 l lo hi = n) (e2 : addTo 256 l lo hi = l') :
    Calls Try.prog 12 #[.pointer (some ⟨p, 0, none⟩), .int .i64 lo, .int .i64 hi] W fun e W' => e = .returned (.int .i64 n) ∧ ∃ A' c', Hid (Pr w W' p A' c' q B d l' m) := by
  have := add_any p c 256 A l lo hi W h.s.1
  rw [show ((256 : Nat) : Int) = 256 from rfl, e1, e2] at this
  refine this.mono fun e W' x => ?_
  obtain ⟨h1, A', c', hm, hb, hf⟩ := doesS_of_did h.s x
  exact ⟨h1, A', c', h.does hm hb hf⟩
theorem Pr.tadd (h : Pr w W p A c q B d l m) {lo hi n : Int} (e1 : addErr 256 m lo hi = n) (e2 : addTo 256 m lo hi = l') :
    Calls Try.prog 12 #[.pointer (some ⟨q, 0, none⟩), .int .i64 lo, .int .i64 hi] W fun e W' => e = .returned (.int .i64 n) ∧ ∃ B' d', Hid (Pr w W' p A c q B' d' l l') :=
  (h.flip.add e1 e2).mono fun e W' ⟨h1, B', d', h2⟩ => ⟨h1, B', d', h2.out.flip⟩
theorem Pr.cut_ (h : Pr w W p A c q B d l m) {b n : Int} (e1 : cutErr b = n) (e2 : cutTo l b = l') :
    Calls Try.prog 14 #[.pointer (some ⟨p, 0, none⟩), .int .i64 b] W fun e W' => e = .returned (.int .i64 n) ∧ ∃ A' c', Hid (Pr w W' p A' c' q B d l' m) := by
  have := cut_any p c 256 A l b W h.s.1
  rw [e1, e2] at this
  refine this.mono fun e W' x => ?_
  obtain ⟨h1, A', c', hm, hb, hf⟩ := doesS_of_did h.s x
  exact ⟨h1, A', c', h.does hm hb hf⟩
theorem Pr.tcut (h : Pr w W p A c q B d l m) {b n : Int} (e1 : cutErr b = n) (e2 : cutTo m b = l') :
    Calls Try.prog 14 #[.pointer (some ⟨q, 0, none⟩), .int .i64 b] W fun e W' => e = .returned (.int .i64 n) ∧ ∃ B' d', Hid (Pr w W' p A c q B' d' l l') :=
  (h.flip.cut_ e1 e2).mono fun e W' ⟨h1, B', d', h2⟩ => ⟨h1, B', d', h2.out.flip⟩
theorem Pr.same_ (h : Pr w W p A c q B d l l) :
    Calls Try.prog 18 #[.pointer (some ⟨p, 0, none⟩), .pointer (some ⟨q, 0, none⟩)] W fun e W' => e = .returned (.bool true) ∧ Hid (Kept W W') := same_mine true (by simp [same_self]) h.s h.t
end
theorem pr_new {w W W' : World} {p q : Nat} (h : Mine w W p none 0 256 []) (s : SetAt W' q none 0 256 []) (hq : W.heap.size ≤ q) (k : Kept W W') : Pr w W' p none 0 q none 0 [] [] := by
  refine ⟨h.kept k, ⟨s, h.2.1.trans k, ?_⟩, ?_⟩
  · rintro i (rfl | e)
    · exact Nat.le_trans h.2.1.size hq
    · cases e
  · intro i hi hj
    have h1 := h.1.foot i hi
    rcases hj with rfl | e
    · omega
    · cases e

/-- Rows that are turned round are the same rows. -/
theorem rot_mem (f : Nat → Nat → Int) {N k : Nat} (hk : k ≤ N) (r : R) : r ∈ rws f N ↔ r ∈ rws (fun m => f ((m + k) % N)) N := by
  unfold rws
  rw [List.mem_map, List.mem_map]
  constructor
  · rintro ⟨j, hj, rfl⟩
    rw [List.mem_range] at hj
    refine ⟨(j + (N - k)) % N, List.mem_range.2 (Nat.mod_lt _ (by omega)), ?_⟩
    have : ((j + (N - k)) % N + k) % N = j := by
      rw [Nat.mod_add_mod, show j + (N - k) + k = j + N by omega, Nat.add_mod_right, Nat.mod_eq_of_lt hj]
    simp only [this]
  · rintro ⟨j, hj, rfl⟩
    rw [List.mem_range] at hj
    exact ⟨(j + k) % N, List.mem_range.2 (Nat.mod_lt _ (by omega)), rfl⟩
theorem rot_adds (f : Nat → Nat → Int) {N k : Nat} (hk : k ≤ N) : adds (rws (fun m => f ((m + k) % N)) N) = adds (rws f N) :=
  adds_eq (rws_ok _ N) (rws_ok f N) (fun r => (rot_mem f hk r).symm)
/-- What is added to rows of which there are few. -/
theorem rws_add (f : Nat → Nat → Int) {i : Nat} (hi : i < 40) : addErr 256 (adds (rws f i)) (rlo (f i 0)) (rhi (f i 0) (f i 1)) = 0 ∧ addTo 256 (adds (rws f i)) (rlo (f i 0)) (rhi (f i 0) (f i 1)) = adds (rws f (i + 1)) := by
  have hb := row_bd (f i 0) (f i 1)
  have hl := adds_len (rws_ok f i)
  rw [rws_len] at hl
  have h := add_room (room := 256) (adds_good (rws_ok f i)) hb.1 hb.2.1 (by unfold M; omega) (by omega)
  exact ⟨h.1, by rw [h.2, rws_succ, adds_snoc]⟩
theorem rws_again (f : Nat → Nat → Int) {i : Nat} (hi : i < 40) : addErr 256 (adds (rws f (i + 1))) (rlo (f i 0)) (rlo (f i 0)) = 0 ∧ addTo 256 (adds (rws f (i + 1))) (rlo (f i 0)) (rlo (f i 0)) = adds (rws f (i + 1)) := by
  have hb := row_bd (f i 0) (f i 1)
  have hl := adds_len (rws_ok f (i + 1))
  rw [rws_len] at hl
  refine addTo_there (room := 256) (adds_good (rws_ok f (i + 1))) (by omega) hb.1 (Int.le_refl _) (by unfold M; omega) (fun n h1 h2 => ?_)
  rw [mem_adds (rws_ok f (i + 1)), rws_succ]
  exact ⟨_, List.mem_append_right _ (List.mem_singleton.2 rfl), h1, by show n ≤ rhi _ _; omega⟩
/-- What is cut, told number by number. -/
theorem cut_wt (f : Nat → Nat → Int) (N b : Nat) (hb : b ≤ 100) : wt (fun x => inR (rws f N) x && !(decide (x < b))) = wt (fun x => has (cutTo (adds (rws f N)) b) (x : Int)) := by
  apply wt_congr
  intro k _
  have hnum : num (b : Int) := ⟨by omega, by unfold M; omega⟩
  rw [Bool.eq_iff_iff, has_iff]
  unfold cutTo
  rw [if_pos hnum, mem_cut (adds_good (rws_ok f N)), mem_adds (rws_ok f N)]
  unfold inR
  simp only [Bool.and_eq_true, List.any_eq_true, decide_eq_true_iff, Bool.not_eq_true', decide_eq_false_iff_not]
  constructor
  · rintro ⟨h1, h2⟩; exact ⟨h1, by omega⟩
  · rintro ⟨h1, h2⟩; exact ⟨h1, by omega⟩
theorem cut_99 (f : Nat → Nat → Int) (N b : Nat) (hb : b ≤ 100) : cutErr (b : Int) = 0 ∧ Rises (cutTo (adds (rws f N)) b) ∧ ∀ r ∈ cutTo (adds (rws f N)) b, r.2 ≤ 99 := by
  have hnum : num (b : Int) := ⟨by omega, by unfold M; omega⟩
  have hg := cutTo_good (adds_good (rws_ok f N)) (b : Int)
  refine ⟨if_pos hnum, hg, fun r hr => ?_⟩
  have hm : mem (cutTo (adds (rws f N)) b) r.2 := ⟨r, hr, (hg.1 r hr).2.1, Int.le_refl _⟩
  unfold cutTo at hm
  rw [if_pos hnum, mem_cut (adds_good (rws_ok f N)), mem_adds (rws_ok f N)] at hm
  obtain ⟨⟨s, hs, h1, h2⟩, _⟩ := hm
  unfold rws at hs
  rw [List.mem_map] at hs
  obtain ⟨j, _, rfl⟩ := hs
  have := (row_bd (f j 0) (f j 1)).2.2
  exact Int.le_trans h2 this

/-- Cells in a block, one behind the other. -/
structure Rg (V : World) (p : Nat) (arr : List Value) : Prop where
  r : V.rangeAt p 0 arr
  lt : p < V.heap.size
theorem Rg.kept {V V' : World} {p : Nat} {arr : List Value} (h : Rg V p arr) (k : Kept V V') : Rg V' p arr :=
  ⟨fun j v hj => (Below.cell k (p := ⟨p, 0 + j, none⟩) h.lt).trans (h.r j v hj), Nat.lt_of_lt_of_le h.lt k.size⟩
theorem Rg.cell {V : World} {p : Nat} {L : List Int} (h : Rg V p (L.map (Value.int .i64))) {k : Nat} (hk : k < L.length) : V.cell? ⟨p, k, none⟩ = some (.int .i64 (gt_ L k)) := by
  have := h.r k (.int .i64 (gt_ L k)) (by simp [gt_, List.getD, hk])
  rwa [Nat.zero_add] at this

theorem size_two (w : World) : (sizeOf 50).run Try.prog w = .ok 2 w := by kernel_rfl
theorem run_upto2 (A : Option Addr) (n c k : Nat) (hk : k ≤ c) (w : World) : (Instr.slice 47 (.slice A n c) none (some (.int .i64 (k : Int))) none).run Try.prog w = .ok (.slice A k c) w := by
  rw [run_slice_h (P := Try.prog) w 47 A n c Try.underlying47 .i64 (k : Int) (by omega) (by omega)]
  show ((sizeOf 50).run Try.prog w).andThen _ = _
  rw [size_two]
  simp [sliced]
  cases A <;> simp [Addr.add]

theorem z51c : Try.zeroCells51 = (List.replicate 101 (Value.int .i64 0)).toArray := by kernel_rfl
/-- A row of 101 numbers stored in a new variable. -/
theorem laid (W : World) (L : List Int) (hlen : L.length = 101) :
    (storeCells ⟨W.heap.size, 0, none⟩ (L.map (Value.int .i64))).run Try.prog (W.alloc (.cells Try.zeroCells51 51)) = .ok () ((W.alloc (.cells Try.zeroCells51 51)).setCells W.heap.size 0 (L.map (Value.int .i64))) ∧
    Rg ((W.alloc (.cells Try.zeroCells51 51)).setCells W.heap.size 0 (L.map (Value.int .i64))) W.heap.size (L.map (Value.int .i64)) ∧
    Kept W ((W.alloc (.cells Try.zeroCells51 51)).setCells W.heap.size 0 (L.map (Value.int .i64))) := by
  have hP : Blk (W.alloc (.cells Try.zeroCells51 51)) W.heap.size 51 (List.replicate 101 (Value.int .i64 0)).toArray := by
    have := Blk.new W 51 Try.zeroCells51
    rwa [z51c] at this ⊢
  have hone : ∀ v ∈ L.map (Value.int .i64), v.oneCell' = true := by
    intro v hv
    rw [List.mem_map] at hv
    obtain ⟨z, _, rfl⟩ := hv
    rfl
  have hl2 : (L.map (Value.int .i64)).length = 101 := by rw [List.length_map, hlen]
  have k0 : Kept W (W.alloc (.cells Try.zeroCells51 51)) := (Kept.refl W).alloc _
  generalize W.alloc (.cells Try.zeroCells51 51) = V at *
  generalize L.map (Value.int .i64) = arr at *
  have hlt := hP.lt
  generalize hp : W.heap.size = p at *
  have hthere : V.there p 0 arr.toArray.size := fun j hj => by
    rw [Nat.zero_add]
    refine ⟨?_, hP.frozen j⟩
    rw [hP.cell]
    have : j < 101 := by rw [← hl2]; simpa using hj
    simp [this]
  have hst0 := run_storeCells_cells (P := Try.prog) p 0 arr 0 V (fun j hj => by simpa using (hthere j (by simpa using hj)).1) (fun j hj => by simpa using (hthere j (by simpa using hj)).2) hone
  have KS : Kept W (V.setCells p 0 arr) := by
    have key : ∀ (vs : List Value) (o : Nat) (V : World), Kept W V → Kept W (V.setCells p o vs) := by
      intro vs
      induction vs with
      | nil => intro o V h; exact h
      | cons v vs ih => intro o V h; exact ih _ _ (h.setCell (p := ⟨p, o, none⟩) (by show W.heap.size ≤ p; omega) v)
    exact key arr 0 V k0
  have hsz : ∀ (vs : List Value) (o : Nat) (V : World), (V.setCells p o vs).heap.size = V.heap.size := by
    intro vs
    induction vs with
    | nil => intro o V; rfl
    | cons v vs ih => intro o V; exact (ih _ _).trans (by simp)
  refine ⟨by simpa using hst0, ⟨World.rangeAt_setCells_same V p 0 arr (by simpa using hthere), by rw [hsz]; exact hlt⟩, KS⟩
end Go.Proofs.Ytabchdolafplnaa.Spn
