/- The program's WholeOk where the program or the owners are not right; the rest is under way. -/
import Derived.Test.YtoinagefhbpakaaOwnLeave
import Derived.Test.YtoinagefhbpakaaOwnRooms
import Derived.Test.YtoinagefhbpakaaOwnWalk
import Derived.Test.YtoinagefhbpakaaShape
namespace Go.Proofs.Ytoinagefhbpakaa
open Go.ChangeShapes Go.WideShapes Go.ChangeAt Go.RowKit Go.Shelf

attribute [local go_sem] Oper.semAt_some

theorem wideFn (k : Nat) : Fence.wide.fn k ↔ True := ⟨fun _ => trivial, fun _ => trivial⟩
attribute [local go_sem] wideFn

set_option maxRecDepth 100000 in
set_option maxHeartbeats 4000000 in
theorem implWhole_a (Ls : List SL) (A : Option Addr) (n c N : Nat) (o : List Int) (B : Option Addr) (b c' : Nat) (S : Nat → Prop) (w : World) (hs : Ps w N Ls A n c) (hN : N ≤ w.heap.size) (_ : Fl w S 1 o B b c') (hno : okPr Ls = false) :
    CallsIn Fence.wide 6 Try.prog 30 #[.slice A n c, .slice B b c'] w fun e w' => e = .returned (.bool (wholeB Ls o)) ∧ Below w.heap.size w w' := by
  have hW : wholeB Ls o = false := by unfold wholeB; rw [hno]; rfl
  rw [hW]
  have HNO := Lib.hid hno
  clear hno hW
  have bz : Below w.heap.size w ((w.alloc (.cells #[.slice B b c'] 22)).alloc (.cells #[.bool false] 4)) := ((Below.refl _ _).alloc (Nat.le_refl _) _).alloc (by simp) _
  have R0 := Lib.hid (row_second w #[.slice B b c'] #[.bool false] 22 4)
  refine callsIn_of_wp_marks Try.func30 rfl trivial ?_ rfl
  simp only [Try.ntmps30, List.size_toArray, List.length_cons, List.length_nil, Nat.reduceAdd, Nat.reduceSub, Array.replicate_succ, Array.replicate_zero, List.push_toArray, List.append_toArray, List.nil_append, List.cons_append]
  gi_wp2_with (gi_at_call 44; refine ((callsIn_wide (n := _)).2 (progOk Ls A n c N _ (hs.below (bz.mono hN)) (by simp; omega))).mono ?_; rintro e w1 ⟨rfl, hb1⟩; rw [HNO.out]; have R1 := (hb1.block (w.heap.size + 1) (by simp)).trans R0.out; have b1 := bz.trans (hb1.mono bz.size); have cr : w1.cell? ⟨w.heap.size + 1, 0, none⟩ = some (.bool false) := (by rw [row_cell R1]; rfl); have fr := row_frozen R1 0; have R2 := Lib.hid R1; clear R1 hb1)
  exact leave_marks _ rfl false [] _ List.nodup_nil (by simp) (by rw [row_set R2.out]; rfl) (b1.setCell (p := ⟨w.heap.size + 1, 0, none⟩) (by simp) _)
set_option maxRecDepth 100000 in
set_option maxHeartbeats 4000000 in
theorem implWhole_b (Ls : List SL) (A : Option Addr) (n c N : Nat) (o : List Int) (B : Option Addr) (b c' : Nat) (S : Nat → Prop) (w : World) (hs : Ps w N Ls A n c) (hN : N ≤ w.heap.size) (ho : Fl w S 1 o B b c') (hok : okPr Ls = true) (hno : roomsB o = false) :
    CallsIn Fence.wide 6 Try.prog 30 #[.slice A n c, .slice B b c'] w fun e w' => e = .returned (.bool (wholeB Ls o)) ∧ Below w.heap.size w w' := by
  have hW : wholeB Ls o = false := by unfold wholeB; rw [hno]; simp
  rw [hW]
  have HNO := Lib.hid hno
  have HOK := Lib.hid hok
  have HO := Lib.hid ho
  clear hno hW hok ho
  have R9 := Lib.hid (row_first w #[.slice B b c'] #[.bool false] 22 4)
  have bz : Below w.heap.size w ((w.alloc (.cells #[.slice B b c'] 22)).alloc (.cells #[.bool false] 4)) := ((Below.refl _ _).alloc (Nat.le_refl _) _).alloc (by simp) _
  have R0 := Lib.hid (row_second w #[.slice B b c'] #[.bool false] 22 4)
  refine callsIn_of_wp_marks Try.func30 rfl trivial ?_ rfl
  simp only [Try.ntmps30, List.size_toArray, List.length_cons, List.length_nil, Nat.reduceAdd, Nat.reduceSub, Array.replicate_succ, Array.replicate_zero, List.push_toArray, List.append_toArray, List.nil_append, List.cons_append]
  gi_wp2_with (first
    | (gi_at_call 44; refine ((callsIn_wide (n := _)).2 (progOk Ls A n c N _ (hs.below (bz.mono hN)) (by simp; omega))).mono ?_; rintro e w1 ⟨rfl, hb1⟩; rw [HOK.out]; have R1 := (hb1.block (w.heap.size + 1) (by simp)).trans R0.out; have Q1 := (hb1.block w.heap.size (by simp; omega)).trans R9.out; have b1 := bz.trans (hb1.mono bz.size); have z1 := hb1.size; have co : w1.cell? ⟨w.heap.size, 0, none⟩ = some (.slice B b c') := (by rw [row_cell Q1]; rfl); have R2 := Lib.hid R1; clear R1 hb1 Q1)
    | (gi_at_call 45; refine ((callsIn_wide (n := _)).2 (isOwnership_ (HO.out.later b1))).mono ?_; rintro e w2 ⟨rfl, hb2⟩; rw [HNO.out]; simp only [World.size_alloc] at z1; have R3 := (hb2.block (w.heap.size + 1) (by omega)).trans R2.out; have b2 := b1.trans (hb2.mono b1.size); have cr : w2.cell? ⟨w.heap.size + 1, 0, none⟩ = some (.bool false) := (by rw [row_cell R3]; rfl); have fr := row_frozen R3 0; have R4 := Lib.hid R3; clear R3 hb2))
  exact leave_marks _ rfl false [] _ List.nodup_nil (by simp) (by rw [row_set R4.out]; rfl) (b2.setCell (p := ⟨w.heap.size + 1, 0, none⟩) (by simp) _)
end Go.Proofs.Ytoinagefhbpakaa
