/-
  The program's log and the document's side by side; contract of the law's same.
-/
import Derived.Test.YtfbhmfkjpfbleaaSntZ
import Derived.Test.YtfbhmfkjpfbleaaSntQ
namespace Go.Proofs.Ytfbhmfkjpfbleaa.Snt
open Go.RowKit SntM Cd Wd
set_option linter.unusedVariables false
set_option linter.unusedSimpArgs false

/-- The two logs, with the same packets; all of their blocks were laid since w. -/
structure Two (w W : World) (p g room : Nat) (last : Int) (l : List Pk) (p2 : Nat) (A : Option Addr) (c : Nat) : Prop where
  log : LogIs W p g room last l
  ref : RefAt W p2 room last l A c
  ag : ∀ i, own A = some i → i ≠ g
  since : Kept w W
  hp : w.heap.size ≤ p
  hg : w.heap.size ≤ g
  hp2 : w.heap.size ≤ p2
  ha : ∀ i, own A = some i → w.heap.size ≤ i
namespace Two
variable {w W W' : World} {p g room p2 c : Nat} {last last' : Int} {l l' : List Pk} {A : Option Addr}
theorem kept (h : Two w W p g room last l p2 A c) (k : Kept W W') : Two w W' p g room last l p2 A c := ⟨h.log.kept k, h.ref.kept k, h.ag, h.since.trans k, h.hp, h.hg, h.hp2, h.ha⟩
theorem ne (h : Two w W p g room last l p2 A c) : p ≠ p2 ∧ g ≠ p2 ∧ ∀ i, own A = some i → i ≠ p := by
  obtain ⟨d, s, X, es, h1, _⟩ := h.log
  refine ⟨h1.blk.ne_ h.ref.blk (by decide), ?_, fun i e => ?_⟩
  · rcases h1.row.form with ⟨e, _⟩ | ⟨g', cur, e, hb, _⟩
    · cases e
    · obtain rfl : g = g' := by injection e with e; injection e
      exact hb.ne_ h.ref.blk (by decide)
  · rcases h.ref.row.form with ⟨e1, _⟩ | ⟨g', cur, e1, hb, _⟩
    · rw [e1] at e; cases e
    · rw [e1] at e; injection e with e; subst e
      exact hb.ne_ h1.blk (by decide)
end Two

structure Fr (W : World) (Y1 Y2 Y3 Y4 p2 : Nat) (Z O : Pk) (last : Int) (A : Option Addr) (n c : Nat) : Prop where
  b1 : Blk W Y1 31 (pkA Z)
  b2 : Blk W Y2 31 (pkA Z)
  b3 : Blk W Y3 31 (pkA O)
  b4 : Blk W Y4 31 (pkA O)
  r1 : W.cell? ⟨p2, 1, none⟩ = some (.int .i64 last)
  r2 : W.cell? ⟨p2, 2, none⟩ = some (.slice A n c)
theorem Fr.kept {W W' : World} {Y1 Y2 Y3 Y4 p2 n c : Nat} {Z O : Pk} {last : Int} {A : Option Addr} (h : Fr W Y1 Y2 Y3 Y4 p2 Z O last A n c) (k : Kept W W') : Fr W' Y1 Y2 Y3 Y4 p2 Z O last A n c :=
  ⟨h.b1.kept k, h.b2.kept k, h.b3.kept k, h.b4.kept k, k.cell h.r1, k.cell h.r2⟩
theorem Fr.cells {W : World} {Y1 Y2 Y3 Y4 p2 n c : Nat} {Z O : Pk} {last : Int} {A : Option Addr} (h : Fr W Y1 Y2 Y3 Y4 p2 Z O last A n c) :
    W.cell? ⟨Y1, 0, none⟩ = some (.int .i64 Z.n) ∧ W.cell? ⟨Y1, 1, none⟩ = some (.int .i64 Z.t) ∧ W.cell? ⟨Y1, 2, none⟩ = some (.int .i64 Z.s) ∧ W.cell? ⟨Y1, 3, none⟩ = some (.bool Z.e) ∧ W.cell? ⟨Y1, 4, none⟩ = some (.bool Z.f) ∧ W.cell? ⟨Y1, 5, none⟩ = some (.bool Z.c) ∧ W.cell? ⟨Y2, 0, none⟩ = some (.int .i64 Z.n) ∧ W.cell? ⟨Y2, 1, none⟩ = some (.int .i64 Z.t) ∧ W.cell? ⟨Y2, 2, none⟩ = some (.int .i64 Z.s) ∧ W.cell? ⟨Y2, 3, none⟩ = some (.bool Z.e) ∧ W.cell? ⟨Y2, 4, none⟩ = some (.bool Z.f) ∧ W.cell? ⟨Y2, 5, none⟩ = some (.bool Z.c) ∧ W.cell? ⟨Y3, 0, none⟩ = some (.int .i64 O.n) ∧ W.cell? ⟨Y3, 1, none⟩ = some (.int .i64 O.t) ∧ W.cell? ⟨Y3, 2, none⟩ = some (.int .i64 O.s) ∧ W.cell? ⟨Y3, 3, none⟩ = some (.bool O.e) ∧ W.cell? ⟨Y3, 4, none⟩ = some (.bool O.f) ∧ W.cell? ⟨Y3, 5, none⟩ = some (.bool O.c) ∧ W.cell? ⟨Y4, 0, none⟩ = some (.int .i64 O.n) ∧ W.cell? ⟨Y4, 1, none⟩ = some (.int .i64 O.t) ∧ W.cell? ⟨Y4, 2, none⟩ = some (.int .i64 O.s) ∧ W.cell? ⟨Y4, 3, none⟩ = some (.bool O.e) ∧ W.cell? ⟨Y4, 4, none⟩ = some (.bool O.f) ∧ W.cell? ⟨Y4, 5, none⟩ = some (.bool O.c) ∧ W.cell? ⟨p2, 1, none⟩ = some (.int .i64 last) ∧ W.cell? ⟨p2, 2, none⟩ = some (.slice A n c) :=
  ⟨h.b1.cell 0, h.b1.cell 1, h.b1.cell 2, h.b1.cell 3, h.b1.cell 4, h.b1.cell 5, h.b2.cell 0, h.b2.cell 1, h.b2.cell 2, h.b2.cell 3, h.b2.cell 4, h.b2.cell 5, h.b3.cell 0, h.b3.cell 1, h.b3.cell 2, h.b3.cell 3, h.b3.cell 4, h.b3.cell 5, h.b4.cell 0, h.b4.cell 1, h.b4.cell 2, h.b4.cell 3, h.b4.cell 4, h.b4.cell 5, h.r1, h.r2⟩

set_option maxHeartbeats 8000000 in
set_option maxRecDepth 100000 in
theorem same_any {w W : World} {p g room p2 c : Nat} {last : Int} {l : List Pk} {A : Option Addr} (h : Two w W p g room last l p2 A c) (n : Int) :
    Calls Try.prog 20 #[.pointer (some ⟨p, 0, none⟩), .pointer (some ⟨p2, 0, none⟩), .int .i64 n] W (GBool true W) := by
  have hg1 := get_is h.log n
  have H := Lib.hid h
  clear h
  generalize hZ : getP l n = Z at *
  generalize hB : getB l n = B at *
  generalize hO : at_ l 0 = O at *
  generalize hE : decide (0 < l.length) = E at *
  have HZ := Lib.hid (⟨hZ, hB, hO, hE⟩ : _ ∧ _ ∧ _ ∧ _)
  clear hZ hB hO hE
  go_enter Try.func20, Try.ntmps20
  go_wp2_with fail
  refine hg1.mono ?_
  rintro e w1 ⟨rfl, k1⟩
  have K1 := Lib.hid k1
  clear k1 hg1
  go_upto_region 2 with (fail)
  change Code.wp _ _ _ _ (w1.alloc (.cells (pkA Z) 31))
  have B1 := Lib.hid (Blk.new w1 31 (pkA Z))
  have K2 := Lib.hid (K1.out.alloc (.cells (pkA Z) 31))
  generalize w1.heap.size = Y1 at *
  generalize w1.alloc (.cells (pkA Z) 31) = w2 at *
  clear K1
  have hg2 := rget_at (H.out.ref.kept K2.out) n
  rw [HZ.out.1, HZ.out.2.1] at hg2
  go_wp2_with fail
  refine hg2.mono ?_
  rintro e w3 ⟨rfl, k3⟩
  have B13 := Lib.hid (B1.out.kept k3)
  have K3 := Lib.hid (K2.out.trans k3)
  clear k3 hg2 B1 K2
  go_upto_region 3 with (fail)
  change Code.wp _ _ _ _ (w3.alloc (.cells (pkA Z) 31))
  have B2 := Lib.hid (Blk.new w3 31 (pkA Z))
  have B14 := Lib.hid (B13.out.kept ((Kept.refl w3).alloc (.cells (pkA Z) 31)))
  have K4 := Lib.hid (K3.out.alloc (.cells (pkA Z) 31))
  generalize w3.heap.size = Y2 at *
  generalize w3.alloc (.cells (pkA Z) 31) = w4 at *
  clear K3 B13
  have hg3 := oldest_is (H.out.log.kept K4.out)
  rw [HZ.out.2.2.1, HZ.out.2.2.2] at hg3
  go_wp2_with fail
  refine hg3.mono ?_
  rintro e w5 ⟨rfl, k5⟩
  have B15 := Lib.hid (B14.out.kept k5)
  have B25 := Lib.hid (B2.out.kept k5)
  have K5 := Lib.hid (K4.out.trans k5)
  clear k5 hg3 B14 B2 K4
  go_upto_region 4 with (fail)
  change Code.wp _ _ _ _ (w5.alloc (.cells (pkA O) 31))
  have B3 := Lib.hid (Blk.new w5 31 (pkA O))
  have B16 := Lib.hid (B15.out.kept ((Kept.refl w5).alloc (.cells (pkA O) 31)))
  have B26 := Lib.hid (B25.out.kept ((Kept.refl w5).alloc (.cells (pkA O) 31)))
  have K6 := Lib.hid (K5.out.alloc (.cells (pkA O) 31))
  generalize w5.heap.size = Y3 at *
  generalize w5.alloc (.cells (pkA O) 31) = w6 at *
  clear K5 B15 B25
  have hg4 := roldest_at (H.out.ref.kept K6.out)
  rw [HZ.out.2.2.1, HZ.out.2.2.2] at hg4
  go_wp2_with fail
  refine hg4.mono ?_
  rintro e w7 ⟨rfl, k7⟩
  have B17 := Lib.hid (B16.out.kept k7)
  have B27 := Lib.hid (B26.out.kept k7)
  have B37 := Lib.hid (B3.out.kept k7)
  have K7 := Lib.hid (K6.out.trans k7)
  clear k7 hg4 B16 B26 B3 K6
  go_upto_region 5 with (fail)
  change Code.wp _ _ _ _ (w7.alloc (.cells (pkA O) 31))
  have kk := Lib.hid ((Kept.refl w7).alloc (.cells (pkA O) 31))
  have B4 := Lib.hid (Blk.new w7 31 (pkA O))
  have K8 := Lib.hid (K7.out.alloc (.cells (pkA O) 31))
  have HF : Hid (Fr (w7.alloc (.cells (pkA O) 31)).drew Y1 Y2 Y3 w7.heap.size p2 Z O last A l.length c) := by
    have hr := H.out.ref.kept K8.out
    have f : Fr (w7.alloc (.cells (pkA O) 31)) Y1 Y2 Y3 w7.heap.size p2 Z O last A l.length c := ⟨B17.out.kept kk.out, B27.out.kept kk.out, B37.out.kept kk.out, B4.out, hr.last_, hr.list_⟩
    exact f.kept ((Kept.refl _).drew)
  have HT : Hid (Two w (w7.alloc (.cells (pkA O) 31)).drew p g room last l p2 A c) := (H.out.kept K8.out).kept ((Kept.refl _).drew)
  have KW : Hid (Kept W (w7.alloc (.cells (pkA O) 31)).drew) := K8.out.drew
  generalize w7.heap.size = Y4 at *
  generalize w7.alloc (.cells (pkA O) 31) = w8 at *
  have hgp := guard_pk
  have hq1 := eql_pk Z Z
  have hq2 := eql_pk O O
  rw [decide_eq_true rfl] at hq1 hq2
  have hpl2 := HT.out.ref.plt
  have hsm := HT.out.ref.small
  clear B17 B27 B37 B4 K7 K8 kk H HZ
  go_region_held3 (fun W => W.cell? ⟨Y1, 0, none⟩ = some (.int .i64 Z.n) ∧ W.cell? ⟨Y1, 1, none⟩ = some (.int .i64 Z.t) ∧ W.cell? ⟨Y1, 2, none⟩ = some (.int .i64 Z.s) ∧ W.cell? ⟨Y1, 3, none⟩ = some (.bool Z.e) ∧ W.cell? ⟨Y1, 4, none⟩ = some (.bool Z.f) ∧ W.cell? ⟨Y1, 5, none⟩ = some (.bool Z.c) ∧ W.cell? ⟨Y2, 0, none⟩ = some (.int .i64 Z.n) ∧ W.cell? ⟨Y2, 1, none⟩ = some (.int .i64 Z.t) ∧ W.cell? ⟨Y2, 2, none⟩ = some (.int .i64 Z.s) ∧ W.cell? ⟨Y2, 3, none⟩ = some (.bool Z.e) ∧ W.cell? ⟨Y2, 4, none⟩ = some (.bool Z.f) ∧ W.cell? ⟨Y2, 5, none⟩ = some (.bool Z.c) ∧ W.cell? ⟨Y3, 0, none⟩ = some (.int .i64 O.n) ∧ W.cell? ⟨Y3, 1, none⟩ = some (.int .i64 O.t) ∧ W.cell? ⟨Y3, 2, none⟩ = some (.int .i64 O.s) ∧ W.cell? ⟨Y3, 3, none⟩ = some (.bool O.e) ∧ W.cell? ⟨Y3, 4, none⟩ = some (.bool O.f) ∧ W.cell? ⟨Y3, 5, none⟩ = some (.bool O.c) ∧ W.cell? ⟨Y4, 0, none⟩ = some (.int .i64 O.n) ∧ W.cell? ⟨Y4, 1, none⟩ = some (.int .i64 O.t) ∧ W.cell? ⟨Y4, 2, none⟩ = some (.int .i64 O.s) ∧ W.cell? ⟨Y4, 3, none⟩ = some (.bool O.e) ∧ W.cell? ⟨Y4, 4, none⟩ = some (.bool O.f) ∧ W.cell? ⟨Y4, 5, none⟩ = some (.bool O.c) ∧ W.cell? ⟨p2, 1, none⟩ = some (.int .i64 last) ∧ W.cell? ⟨p2, 2, none⟩ = some (.slice A l.length c))
    (exact HF.out.cells)
    ((first
      | (go_at_call 30; refine (last_is HT.out.log).mono ?_; rintro e w' ⟨rfl, rfl⟩)
      | (go_at_call 28; refine (len_is HT.out.log).mono ?_; rintro e w' ⟨rfl, rfl⟩)
      | (go_at_call 26; refine (flight_is HT.out.log).mono ?_; rintro e w' ⟨rfl, rfl⟩)
      | (go_at_call 48; refine (rflight_at HT.out.ref).mono ?_; rintro e w' ⟨rfl, rfl⟩)
      | (go_at_call 27; refine (eliciting_is HT.out.log).mono ?_; rintro e w' ⟨rfl, rfl⟩)
      | (go_at_call 49; refine (reliciting_at HT.out.ref).mono ?_; rintro e w' ⟨rfl, rfl⟩)
      | (go_at_call 29; refine (all_is HT.out.log).mono ?_; rintro e w' ⟨v, rfl, A9, c9, rfl, r9, f9, k9⟩; have HT := Lib.hid (HT.out.kept k9); have HF := Lib.hid (HF.out.kept k9); have KW := Lib.hid (KW.out.trans k9); have R9 := Lib.hid r9; clear r9 f9 k9)
      | (go_at_call 21; refine (equal_any _ _ _ _ _ _ _ _ _ R9.out HT.out.ref.row (by omega) (by omega)).mono ?_; rw [decide_eq_true rfl]; rintro e w' ⟨rfl, k9⟩; have HT := Lib.hid (HT.out.kept k9); have HF := Lib.hid (HF.out.kept k9); have KW := Lib.hid (KW.out.trans k9); clear k9)))
  all_goals
    go_wp2_with fail
    go_ret
    exact ⟨rfl, KW.out⟩

end Go.Proofs.Ytfbhmfkjpfbleaa.Snt
