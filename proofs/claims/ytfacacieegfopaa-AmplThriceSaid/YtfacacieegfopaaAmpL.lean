/-
  The contracts of both limits over a row of boxes.
-/
import Derived.Test.YtfacacieegfopaaAmpR
namespace Go.Proofs.Ytfacacieegfopaa.Amp
open Go.RowKit AmpM Wd Bxs
set_option linter.unusedVariables false
set_option linter.unusedSimpArgs false

/-- What a call hands back, and the boxes behind it. -/
def To (v : Value) (w : World) (L : List Ent) (e : Ending) (W : World) : Prop := e = .returned v ∧ Bx w L W
section
variable {w V : World} {L : List Ent} {g : Nat} {x : Lm}
theorem got_bx (h : Bx w L V) (i : Nat) (hi : L[i]? = some (g, 48, laA x)) (n : Int) : Calls Try.prog 12 #[ptr g, .int .i64 n] V (To (.int .i64 (gotE n)) w (L.set i (g, 48, laA (AmpM.got x n)))) :=
  (got_any (h.get i hi) n).mono fun _ _ ⟨a, b, c⟩ => ⟨a, h.set_ i hi b c⟩
theorem sent_bx (h : Bx w L V) (i : Nat) (hi : L[i]? = some (g, 48, laA x)) (n : Int) : Calls Try.prog 14 #[ptr g, .int .i64 n] V (To (.int .i64 (sentE x n)) w (L.set i (g, 48, laA (AmpM.sent x n)))) :=
  (sent_any (h.get i hi) n).mono fun _ _ ⟨a, b, c⟩ => ⟨a, h.set_ i hi b c⟩
theorem validate_bx (h : Bx w L V) (i : Nat) (hi : L[i]? = some (g, 48, laA x)) : Calls Try.prog 19 #[ptr g] V (To (.int .i64 0) w (L.set i (g, 48, laA (valid x)))) :=
  (validate_any (h.get i hi)).mono fun _ _ ⟨a, b, c⟩ => ⟨a, h.set_ i hi b c⟩
theorem left_bx (h : Bx w L V) (i : Nat) (hi : L[i]? = some (g, 48, laA x)) : Calls Try.prog 23 #[ptr g] V (To (.int .i64 (lft x)) w L) :=
  (left_any (h.get i hi)).mono fun _ _ ⟨a, k⟩ => ⟨a, h.on k⟩
theorem can_bx (h : Bx w L V) (i : Nat) (hi : L[i]? = some (g, 48, laA x)) (n : Int) : Calls Try.prog 25 #[ptr g, .int .i64 n] V (To (.bool (can x n)) w L) :=
  (can_any (h.get i hi) n).mono fun _ _ ⟨a, k⟩ => ⟨a, h.on k⟩
theorem valid_bx (h : Bx w L V) (i : Nat) (hi : L[i]? = some (g, 48, laA x)) : Calls Try.prog 26 #[ptr g] V (To (.bool x.v) w L) :=
  (valid_any (h.get i hi)).mono fun _ _ ⟨a, k⟩ => ⟨a, k ▸ h⟩
theorem totals_bx (h : Bx w L V) (i : Nat) (hi : L[i]? = some (g, 48, laA x)) : Calls Try.prog 22 #[ptr g] V (To (.tuple #[.int .i64 x.i, .int .i64 x.o]) w L) :=
  (totals_any (h.get i hi)).mono fun _ _ ⟨a, k⟩ => ⟨a, h.on k⟩
theorem copy_bx (h : Bx w L V) (i : Nat) (hi : L[i]? = some (g, 48, laA x)) : Calls Try.prog 17 #[ptr g] V (fun e W => ∃ b, e = .returned (ptr b) ∧ Bx w ((b, 48, laA x) :: L) W) :=
  (copy_any (h.get i hi)).mono fun _ _ ⟨a, k⟩ => ⟨_, a, k ▸ Bx.lay h _ _⟩
theorem rgot_bx (h : Bx w L V) (i : Nat) (hi : L[i]? = some (g, 50, rlA x)) (n : Int) : Calls Try.prog 13 #[ptr g, .int .i64 n] V (To (.int .i64 (gotE n)) w (L.set i (g, 50, rlA (AmpM.got x n)))) :=
  (rgot_any (h.get i hi) n).mono fun _ _ ⟨a, b, c⟩ => ⟨a, h.set_ i hi b c⟩
theorem rsent_bx (h : Bx w L V) (i : Nat) (hi : L[i]? = some (g, 50, rlA x)) (n : Int) : Calls Try.prog 15 #[ptr g, .int .i64 n] V (To (.int .i64 (sentE x n)) w (L.set i (g, 50, rlA (AmpM.sent x n)))) :=
  (rsent_any (h.get i hi) n).mono fun _ _ ⟨a, b, c⟩ => ⟨a, h.set_ i hi b c⟩
theorem rvalidate_bx (h : Bx w L V) (i : Nat) (hi : L[i]? = some (g, 50, rlA x)) : Calls Try.prog 20 #[ptr g] V (To (.int .i64 0) w (L.set i (g, 50, rlA (valid x)))) :=
  (rvalidate_any (h.get i hi)).mono fun _ _ ⟨a, b, c⟩ => ⟨a, h.set_ i hi b c⟩
theorem rleft_bx (h : Bx w L V) (i : Nat) (hi : L[i]? = some (g, 50, rlA x)) : Calls Try.prog 32 #[ptr g] V (To (.int .i64 (lft x)) w L) :=
  (rleft_any (h.get i hi)).mono fun _ _ ⟨a, k⟩ => ⟨a, h.on k⟩
theorem rcan_bx (h : Bx w L V) (i : Nat) (hi : L[i]? = some (g, 50, rlA x)) (n : Int) : Calls Try.prog 34 #[ptr g, .int .i64 n] V (To (.bool (can x n)) w L) :=
  (rcan_any (h.get i hi) n).mono fun _ _ ⟨a, k⟩ => ⟨a, h.on k⟩
theorem rcopy_bx (h : Bx w L V) (i : Nat) (hi : L[i]? = some (g, 50, rlA x)) : Calls Try.prog 16 #[ptr g] V (fun e W => ∃ b, e = .returned (ptr b) ∧ Bx w ((b, 50, rlA x) :: L) W) :=
  (rcopy_any (h.get i hi)).mono fun _ _ ⟨a, k⟩ => ⟨_, a, k ▸ Bx.lay h _ _⟩
theorem rnew_bx (h : Bx w L V) (v : Bool) : Calls Try.prog 10 #[.bool v] V (fun e W => ∃ b, e = .returned (ptr b) ∧ Bx w ((b, 50, rlA (AmpM.new v)) :: L) W) :=
  (rnew_any v V).mono fun _ _ ⟨a, k⟩ => ⟨_, a, k ▸ Bx.lay h _ _⟩
/-- A block that was made since then is one more box. -/
theorem Bx.more {W : World} {t : TypeId} {cs : Array Value} (h : Bx w L V) (hk : Kept V W) (hb : Blk W V.heap.size t cs) : Bx w ((V.heap.size, t, cs) :: L) W := by
  obtain ⟨k, ha, hp⟩ := Bx.iff.1 h
  refine Bx.iff.2 ⟨k.trans hk, fun e he => ?_, List.pairwise_cons.2 ⟨fun e he => ?_, hp⟩⟩
  · rcases List.mem_cons.1 he with rfl | he
    · exact ⟨hb, k.size⟩
    · exact ⟨(ha e he).1.kept hk, (ha e he).2⟩
  · exact (Nat.ne_of_lt (ha e he).1.lt).symm
theorem new_bx (h : Bx w L V) (v : Bool) : Calls Try.prog 9 #[.bool v] V (fun e W => ∃ b, e = .returned (ptr b) ∧ Bx w ((b, 48, laA (AmpM.new v)) :: L) W) :=
  (new_any v V).mono fun _ _ ⟨a, b, k⟩ => ⟨_, a, Bx.more h k b⟩
theorem size_any (n : Int) (w : World) : Calls Try.prog 24 #[.int .i64 n] w (Same (.int .i64 (n % 65536)) w) := by
  have k0 := Lib.hid (fun W => bring_any n 65536 W (by decide) (by decide))
  generalize n % 65536 = N at *
  go_enter Try.func24, Try.ntmps24
  go_wp2_with fail
  refine (k0.out _).mono ?_
  rintro e w' ⟨rfl, rfl⟩
  go_wp2_with fail
  go_ret
  exact ⟨rfl, rfl⟩
end
end Go.Proofs.Ytfacacieegfopaa.Amp
