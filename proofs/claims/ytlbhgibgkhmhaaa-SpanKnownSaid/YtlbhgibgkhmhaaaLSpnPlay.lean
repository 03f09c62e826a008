/-
  The law SpanPlays walked, whatever the room.
-/
import Derived.Test.YtlbhgibgkhmhaaaLSpnPlays
namespace Go.Proofs.Ytlbhgibgkhmhaaa.Law
open Go.RowKit SpnM Wd Spn Num
theorem spanPlays_any (room : Int) (A : Option Addr) (n c : Nat) (f : Nat → Nat → Int) (w : World) (hg : Grid 3 w A n c f) : Calls Try.prog 3 #[.int .i64 room, .slice A n c] w (GBool true w) := by
  by_cases h : room < 1 ∨ 256 < room
  · exact plays_bad room A n c f w hg h
  · obtain ⟨R, rfl⟩ : ∃ R : Nat, room = (R : Int) := ⟨room.toNat, by omega⟩
    exact plays_good R A n c f w hg (by omega) (by omega)

end Go.Proofs.Ytlbhgibgkhmhaaa.Law
