/- WholeOk of the program, whatever comes in; the walk of laws.FnExactWholeOk. -/
import Derived.Test.YtoinagefhbpakaaOwnImplC
import Derived.Test.YtoinagefhbpakaaOwnWalk
namespace Go.Proofs.Ytoinagefhbpakaa
open Go.ChangeShapes Go.WideShapes Go.ChangeAt Go.RowKit

theorem implWholeOk : WholeSays := fun Ls A n c N o B b c' S w hs hN ho => by
  refine (callsIn_wide (n := 6)).1 ?_
  cases hp : okPr Ls
  · exact implWhole_a Ls A n c N o B b c' S w hs hN ho hp
  · cases hr : roomsB o
    · exact implWhole_b Ls A n c N o B b c' S w hs hN ho hp hr
    · exact implWhole_c Ls A n c N o B b c' S w hs hN ho hp hr

theorem wFnExactWholeOk (L : List SL) (A : Option Addr) (n c : Nat) (xs : List Int) (B : Option Addr) (b c' : Nat) (w : World) (hs : Ps w w.heap.size L A n c) (ht : Fl w (fun _ => True) 1 xs B b c') :
    Calls Try.prog 9 #[.slice A n c, .slice B b c'] w fun e w' => e = .returned (.bool true) ∧ Below w.heap.size w w' :=
  walkWholeOk implWholeOk L A n c xs B b c' w hs ht
end Go.Proofs.Ytoinagefhbpakaa
