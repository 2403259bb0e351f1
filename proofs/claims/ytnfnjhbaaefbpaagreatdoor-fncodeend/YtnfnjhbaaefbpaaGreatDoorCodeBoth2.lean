/- What both CodeOf answer, in one form. -/
import Derived.Test.YtnfnjhbaaefbpaaGreatDoorCodeBoth
import Derived.Test.YtnfnjhbaaefbpaaGreatDoorEmitAll
namespace Go.Proofs.YtnfnjhbaaefbpaaGreatDoor
open Go.ChangeShapes Go.WideShapes Go.ChangeAt Go.RowKit

/-- How many instructions CodeOf answers, and which. -/
def codeN (L : SL) : Nat := if okP L then L.lenC + 1 else 0
def codeX (L : SL) : List Int := if okP L then codeP L else []
theorem codeX_len (L : SL) : (codeX L).length = codeN L * 4 := by
  unfold codeX codeN
  cases okP L
  · rfl
  · exact codeP_len L
theorem codeN_le (L : SL) : codeN L ≤ 29 := by
  unfold codeN
  cases h : okP L
  · simp
  · have := lenC_le L
    have := (okP_size h).1
    simp only [if_true]; omega
theorem specCode {L : SL} {A : Option Addr} {n c M : Nat} {w : World} (hs : Sl w M L A n c) (hM : M ≤ w.heap.size) (hL : L.size ≤ 1048576) :
    Calls Tryz.prog 9 #[.slice A n c] w fun e w' => ∃ v, e = .returned v ∧ w'.ownsRow w.heap.size 34 4 v (codeN L) (ints (codeX L)) ∧ Below w.heap.size w w' := specCodeOf L hL A n c M w hs hM
theorem implCode {L : SL} {A : Option Addr} {n c M : Nat} {w : World} (hs : Sl w M L A n c) (hM : M ≤ w.heap.size) (h0 : 0 < w.heap.size) (hop : Ops w) :
    Calls Tryz.prog 7 #[.slice A n c] w fun e w' => ∃ v, e = .returned v ∧ w'.ownsRow w.heap.size 34 4 v (codeN L) (ints (codeX L)) ∧ Below w.heap.size w w' := codeOf L A n c M w hs hM h0 hop
end Go.Proofs.YtnfnjhbaaefbpaaGreatDoor
