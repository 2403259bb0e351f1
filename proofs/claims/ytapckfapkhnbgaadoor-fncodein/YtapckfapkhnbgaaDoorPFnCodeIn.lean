/- PROVED: laws.FnCodeIn returns true for every input, and its argument and the table that it reads read as before, where the table holds what the program's text lays there (the card ties it). -/
import Derived.Test.YtapckfapkhnbgaaDoorSlots
import Derived.Test.YtapckfapkhnbgaaDoorNumOk
import Derived.Deep.RegionHeld3
import Derived.Deep.RegionWith
import Derived.Test.YtapckfapkhnbgaaDoorApp
import Derived.Deep.LoopGhost
import Derived.Test.YtapckfapkhnbgaaDoorDrawCode
import Derived.Test.YtapckfapkhnbgaaDoorCodePass
import Derived.Test.YtapckfapkhnbgaaDoorRows
import Derived.WalkKit
import Derived.ProofKit
import Derived.OpenShut
import Derived.Below
import Derived.Carry
import Derived.Test.YtapckfapkhnbgaaDoorOpen
import Derived.Test.YtapckfapkhnbgaaDoorEmitStmts
import Derived.LaidMore
import Derived.ChangeVars
import Derived.Stop.Joined
import Derived.Test.YtapckfapkhnbgaaDoorTie
import Derived.Test.YtapckfapkhnbgaaDoorCards
import Derived.SevenTiedAt
/- Whether an instruction's own numbers are right, as the program asks. -/
namespace Go.Proofs.YtapckfapkhnbgaaDoor
open Go.ChangeShapes Go.WideShapes Go.ChangeAt Go.RowKit

theorem below_drewN' {B : Nat} {a w : World} (h : Below B a w) (n : Nat) : Below B a (w.drewN n) := ⟨h.os, h.tape, h.output, h.size, h.block⟩
/-- What a function value of a field answers; without one it is to be nought. -/
def Says (w : World) : Option (Nat × Array Value) → (Int → Bool) → Prop
  | none, φ => ∀ x, φ x = decide (x = 0)
  | some (F, cs), φ => (cs = #[] ∨ ∃ p, cs = #[p]) ∧ ∀ (x : Int) (W : World), Below w.heap.size w W → Calls Tryd.prog F (#[.int .i64 x] ++ cs) W fun e W' => e = .returned (.bool (φ x)) ∧ ∃ k, W' = W.drewN k

theorem nilEq (W : World) : (binOp .eql 58 .nilFunc .nilFunc).run Tryd.prog W = .ok (.bool true) W := by kernel_rfl
theorem nilNe (W : World) : (binOp .neq 58 .nilFunc .nilFunc).run Tryd.prog W = .ok (.bool false) W := by kernel_rfl
theorem fnEq (F : Nat) (cs : Array Value) (W : World) : (binOp .eql 58 (.func (Fn.func F) #[] cs) .nilFunc).run Tryd.prog W = .ok (.bool false) W := by kernel_rfl
theorem fnNe (F : Nat) (cs : Array Value) (W : World) : (binOp .neq 58 (.func (Fn.func F) #[] cs) .nilFunc).run Tryd.prog W = .ok (.bool true) W := by kernel_rfl
theorem ix0 (p0 p1 p2 f0 f1 f2 : Value) (W : World) : (Instr.index 68 (.agg #[p0, f0, p1, f1, p2, f2]) (.int .i64 0)).run Tryd.prog W = .ok (.agg #[p0, f0]) W := by kernel_rfl
theorem ix1 (p0 p1 p2 f0 f1 f2 : Value) (W : World) : (Instr.index 68 (.agg #[p0, f0, p1, f1, p2, f2]) (.int .i64 1)).run Tryd.prog W = .ok (.agg #[p1, f1]) W := by kernel_rfl
theorem ix2 (p0 p1 p2 f0 f1 f2 : Value) (W : World) : (Instr.index 68 (.agg #[p0, f0, p1, f1, p2, f2]) (.int .i64 2)).run Tryd.prog W = .ok (.agg #[p2, f2]) W := by kernel_rfl

set_option maxRecDepth 100000 in
set_option maxHeartbeats 4000000 in
theorem fits_of (k : Nat) (a b t : Int) (g : Nat) (s : ByteArray) (o0 o1 o2 o3 : Option (Nat × Array Value)) (φ0 φ1 φ2 : Int → Bool) (w : World) (hk0k : 1 ≤ k) (hk : k ≤ 13)
    (c0 : w.cell? ⟨g, k * 5, none⟩ = some (.string s)) (c1 : w.cell? ⟨g, k * 5 + 1, none⟩ = some (fo o0)) (c2 : w.cell? ⟨g, k * 5 + 2, none⟩ = some (fo o1)) (c3 : w.cell? ⟨g, k * 5 + 3, none⟩ = some (fo o2)) (c4 : w.cell? ⟨g, k * 5 + 4, none⟩ = some (fo o3))
    (s0 : Says w o0 φ0) (s1 : Says w o1 φ1) (s2 : Says w o2 φ2)
    (hk0 : o0 = none ∨ o0 = some (32, #[]) ∨ o0 = some (35, #[]) ∨ o0 = some (36, #[]) ∨ o0 = some (39, #[])) (hk1 : o1 = none ∨ o1 = some (32, #[]) ∨ o1 = some (35, #[]))
    (hk2 : o2 = none ∨ o2 = some (33, #[]) ∨ o2 = some (34, #[]) ∨ ∃ p, o2 = some (31, #[p])) :
    Calls Tryd.prog 20 #[.pointer (some ⟨g, 0, none⟩), .agg #[.int .i64 k, .int .i64 a, .int .i64 b, .int .i64 t]] w fun e w' => e = .returned (.bool (φ0 a && φ1 b && φ2 t)) ∧ Below w.heap.size w w' := by
  have HK := Lib.hid (And.intro hk0 (And.intro hk1 hk2))
  clear hk0 hk1 hk2
  have S0 := Lib.hid s0
  have S1 := Lib.hid s1
  have S2 := Lib.hid s2
  clear s0 s1 s2
  have hg : g < w.heap.size := World.block_lt_of_cell? _ _ c0
  have HSL := Lib.hid (fun p W => slots o0 o1 o2 (fo o3) p s W)
  generalize h0 : fo o0 = f0 at *
  generalize h1 : fo o1 = f1 at *
  generalize h2 : fo o2 = f2 at *
  generalize h3 : fo o3 = f3 at *
  have H0 := Lib.hid h0
  have H1 := Lib.hid h1
  have H2 := Lib.hid h2
  clear h0 h1 h2 h3
  go_enter Tryd.func20, Tryd.ntmps20
  go_wp2_with fail
  have nr := (MapKept.heap_alloc w (.cells #[.int .i64 k, .int .i64 a, .int .i64 b, .int .i64 t] 32)).1
  have bA : Below w.heap.size w (w.alloc (.cells #[.int .i64 k, .int .i64 a, .int .i64 b, .int .i64 t] 32)) := (Below.refl _ _).alloc (Nat.le_refl _) _
  generalize hwA : w.alloc (.cells #[.int .i64 k, .int .i64 a, .int .i64 b, .int .i64 t] 32) = wA at *
  have zA : wA.heap.size = w.heap.size + 1 := by rw [← hwA]; simp
  clear hwA
  have i0 : wA.cell? ⟨w.heap.size, 0, none⟩ = some (.int .i64 k) := by simp [World.cell?, nr]
  have i1 : wA.cell? ⟨w.heap.size, 1, none⟩ = some (.int .i64 a) := by simp [World.cell?, nr]
  have i2 : wA.cell? ⟨w.heap.size, 2, none⟩ = some (.int .i64 b) := by simp [World.cell?, nr]
  have i3 : wA.cell? ⟨w.heap.size, 3, none⟩ = some (.int .i64 t) := by simp [World.cell?, nr]
  have ks : ∀ W, Below wA.heap.size wA W → (W.cell? ⟨w.heap.size, 0, none⟩ = some (.int .i64 k) ∧ W.cell? ⟨g, k * 5, none⟩ = some (.string s) ∧ W.cell? ⟨g, k * 5 + 1, none⟩ = some f0 ∧ W.cell? ⟨g, k * 5 + 2, none⟩ = some f1 ∧ W.cell? ⟨g, k * 5 + 3, none⟩ = some f2 ∧ W.cell? ⟨g, k * 5 + 4, none⟩ = some f3 ∧ Below wA.heap.size wA W) := fun W hW => by
    have hc : ∀ o : Nat, W.cell? ⟨g, o, none⟩ = w.cell? ⟨g, o, none⟩ := fun o => (hW.cell (p := ⟨g, o, none⟩) (show g < wA.heap.size by omega)).trans (bA.cell (p := ⟨g, o, none⟩) hg)
    exact ⟨(hW.cell (p := ⟨w.heap.size, 0, none⟩) (show w.heap.size < wA.heap.size by omega)).trans i0, (hc _).trans c0, (hc _).trans c1, (hc _).trans c2, (hc _).trans c3, (hc _).trans c4, hW⟩
  have KS := Lib.hid ks
  have hk14 : k < 14 := by omega
  have hk14' : (k : Int) < 14 := by omega
  have hk0' : (0 : Int) ≤ (k : Int) := by omega
  have hc : ∀ o : Nat, wA.cell? ⟨g, o, none⟩ = w.cell? ⟨g, o, none⟩ := fun o => bA.cell (p := ⟨g, o, none⟩) hg
  rw [← hc] at c0 c1 c2 c3 c4
  clear ks hc nr
  go_region_held3 (fun W => W.cell? ⟨w.heap.size, 0, none⟩ = some (.int .i64 k) ∧ W.cell? ⟨g, k * 5, none⟩ = some (.string s) ∧ W.cell? ⟨g, k * 5 + 1, none⟩ = some f0 ∧ W.cell? ⟨g, k * 5 + 2, none⟩ = some f1 ∧ W.cell? ⟨g, k * 5 + 3, none⟩ = some f2 ∧ W.cell? ⟨g, k * 5 + 4, none⟩ = some f3 ∧ Below wA.heap.size wA W)
    (first | exact KS.out _ (by assumption) | exact KS.out _ (Below.refl _ _) | exact KS.out _ (Below.refl _ _).drew)
    (first
      | (go_at_call 42; refine (HSL.out _ _).mono ?_; rintro e w1 ⟨rfl, hb1⟩
         have hb1' : Below wA.heap.size wA w1 := (Below.refl wA.heap.size wA).drew.trans hb1))
  go_wp2_with fail
  go_loopw [22] (fun i wr => ∃ j : Nat, j ≤ 3 ∧ i = .int .i64 j ∧ (0 < j → φ0 a = true) ∧ (1 < j → φ1 b = true) ∧ (2 < j → φ2 t = true) ∧ Below wA.heap.size wA wr) (fun i _ => 3 - (intOf i).toNat)
  case atStart => exact ⟨0, by omega, rfl, fun h => by omega, fun h => by omega, fun h => by omega, hb1'⟩
  case round =>
    obtain ⟨j, hj, rfl, p0, p1, p2, hb⟩ := hrel
    have hzr := hb.size
    have P0 := Lib.hid (And.intro p0 (And.intro p1 p2))
    clear p0 p1 p2
    by_cases hlt : j < 3
    · obtain ⟨hk0, hk1, hk2⟩ := HK.out
      rcases (by omega : j = 0 ∨ j = 1 ∨ j = 2) with rfl | rfl | rfl
      · have cx := (hb.cell (p := ⟨w.heap.size, 1, none⟩) (show w.heap.size < wA.heap.size by omega)).trans i1
        have hs0 := S0.out
        have hf0 := H0.out
        have bw : w.heap.size < wr.heap.size := by omega
        have hix := @ix0
        rcases hk0 with rfl | rfl | rfl | rfl | rfl
        · have hph : φ0 a = decide (a = 0) := hs0 a
          simp only [fo] at hf0
          subst hf0
          clear hs0 c0 c1 c2 c3 c4 i0 i1 i2 i3 hb1 KS
          have hfe := nilEq
          have hfn := nilNe
          by_cases hx0 : a = 0
          · rw [decide_eq_true hx0] at hph
            have HPH := Lib.hid hph
            have P1 := Lib.hid (show (0 < 1 → φ0 a = true) ∧ (1 < 1 → φ1 b = true) ∧ (2 < 1 → φ2 t = true) from ⟨fun _ => HPH.out, fun h => by omega, fun h => by omega⟩)
            rw [hx0] at cx
            clear hph hx0
            go_wp2_with fail
            have nr := (MapKept.heap_alloc wr (.cells #[.pointer (some ⟨w.heap.size, 1, none⟩), .nilFunc] 67)).1
            have bB : Below wr.heap.size wr (wr.alloc (.cells #[.pointer (some ⟨w.heap.size, 1, none⟩), .nilFunc] 67)) := (Below.refl _ _).alloc (Nat.le_refl _) _
            generalize hwB : wr.alloc (.cells #[.pointer (some ⟨w.heap.size, 1, none⟩), .nilFunc] 67) = wB at *
            have zB : wB.heap.size = wr.heap.size + 1 := by rw [← hwB]; simp
            clear hwB
            have q0 : wB.cell? ⟨wr.heap.size, 0, none⟩ = some (.pointer (some ⟨w.heap.size, 1, none⟩)) := by simp [World.cell?, nr]
            have q1 : wB.cell? ⟨wr.heap.size, 1, none⟩ = some (.nilFunc) := by simp [World.cell?, nr]
            have q2 : wB.cell? ⟨w.heap.size, 1, none⟩ = some (.int .i64 0) := (bB.cell (p := ⟨w.heap.size, 1, none⟩) (show w.heap.size < wr.heap.size by omega)).trans cx
            clear nr cx
            go_region
            all_goals (try go_wp2)
            have hbz : Below wA.heap.size wA wB.drew := hb.trans (bB.mono hzr).drew
            exact ⟨⟨1, by omega, rfl, by first | exact P1.out.1 | exact fun _ => trivial, by first | exact P1.out.2.1 | exact fun _ => trivial, by first | exact P1.out.2.2 | exact fun _ => trivial, hbz⟩, by simp [intOf]⟩
          · rw [decide_eq_false hx0] at hph
            have HPH := Lib.hid hph
            have hx1 : (a != 0) = true := by simpa using hx0
            have hx2 : (a == 0) = false := by simpa using hx0
            clear hph hx0
            go_wp2_with fail
            have nr := (MapKept.heap_alloc wr (.cells #[.pointer (some ⟨w.heap.size, 1, none⟩), .nilFunc] 67)).1
            have bB : Below wr.heap.size wr (wr.alloc (.cells #[.pointer (some ⟨w.heap.size, 1, none⟩), .nilFunc] 67)) := (Below.refl _ _).alloc (Nat.le_refl _) _
            generalize hwB : wr.alloc (.cells #[.pointer (some ⟨w.heap.size, 1, none⟩), .nilFunc] 67) = wB at *
            have zB : wB.heap.size = wr.heap.size + 1 := by rw [← hwB]; simp
            clear hwB
            have q0 : wB.cell? ⟨wr.heap.size, 0, none⟩ = some (.pointer (some ⟨w.heap.size, 1, none⟩)) := by simp [World.cell?, nr]
            have q1 : wB.cell? ⟨wr.heap.size, 1, none⟩ = some (.nilFunc) := by simp [World.cell?, nr]
            have q2 : wB.cell? ⟨w.heap.size, 1, none⟩ = some (.int .i64 a) := (bB.cell (p := ⟨w.heap.size, 1, none⟩) (show w.heap.size < wr.heap.size by omega)).trans cx
            clear nr cx
            go_region
            all_goals (try go_wp2)
            have bz : Below w.heap.size w wB.drew := (bA.trans (hb.mono (by omega))).trans (bB.mono (by omega)).drew
            go_ret
            exact ⟨by rw [HPH.out]; simp, bz⟩
        · obtain ⟨hcs, hcall⟩ := hs0
          have HC := Lib.hid (hcall a)
          clear hcall hcs c0 c1 c2 c3 c4 i0 i1 i2 i3 hb1 KS
          simp only [fo] at hf0
          subst hf0
          have hcc := fun (W : World) (hW : Below w.heap.size w W) => HC.out W hW
          have hfe := fnEq
          have hfn := fnNe
          cases hph : φ0 a
          · rw [hph] at hcc
            have HPH := Lib.hid hph
            have HCC := Lib.hid hcc
            clear hph hcc HC
            go_wp2_with fail
            have nr := (MapKept.heap_alloc wr (.cells #[.pointer (some ⟨w.heap.size, 1, none⟩), .func (Fn.func 32) #[] #[]] 67)).1
            have bB : Below wr.heap.size wr (wr.alloc (.cells #[.pointer (some ⟨w.heap.size, 1, none⟩), .func (Fn.func 32) #[] #[]] 67)) := (Below.refl _ _).alloc (Nat.le_refl _) _
            generalize hwB : wr.alloc (.cells #[.pointer (some ⟨w.heap.size, 1, none⟩), .func (Fn.func 32) #[] #[]] 67) = wB at *
            have zB : wB.heap.size = wr.heap.size + 1 := by rw [← hwB]; simp
            clear hwB
            have q0 : wB.cell? ⟨wr.heap.size, 0, none⟩ = some (.pointer (some ⟨w.heap.size, 1, none⟩)) := by simp [World.cell?, nr]
            have q1 : wB.cell? ⟨wr.heap.size, 1, none⟩ = some (.func (Fn.func 32) #[] #[]) := by simp [World.cell?, nr]
            have q2 : wB.cell? ⟨w.heap.size, 1, none⟩ = some (.int .i64 a) := (bB.cell (p := ⟨w.heap.size, 1, none⟩) (show w.heap.size < wr.heap.size by omega)).trans cx
            clear nr cx
            have hBW : ∀ W, Below wB.heap.size wB W → Below w.heap.size w W := fun W hW => (bA.trans (hb.mono (by omega))).trans ((bB.mono (by omega)).trans (hW.mono (by omega)))
            have HBW := Lib.hid hBW
            clear hBW
            go_quiet (first
              | (go_at_call 32; exact Calls.quiet_of (HCC.out _ (HBW.out _ (below_drewN' (Below.refl _ _) _)))))
            all_goals (try go_wp2)
            all_goals
             have bz := HBW.out _ (below_drewN' (Below.refl _ _) nq)
             go_ret
             exact ⟨by rw [HPH.out]; simp, bz⟩
          · rw [hph] at hcc
            have HPH := Lib.hid hph
            have HCC := Lib.hid hcc
            have P1 := Lib.hid (show (0 < 1 → φ0 a = true) ∧ (1 < 1 → φ1 b = true) ∧ (2 < 1 → φ2 t = true) from ⟨fun _ => HPH.out, fun h => by omega, fun h => by omega⟩)
            clear hph hcc HC
            go_wp2_with fail
            have nr := (MapKept.heap_alloc wr (.cells #[.pointer (some ⟨w.heap.size, 1, none⟩), .func (Fn.func 32) #[] #[]] 67)).1
            have bB : Below wr.heap.size wr (wr.alloc (.cells #[.pointer (some ⟨w.heap.size, 1, none⟩), .func (Fn.func 32) #[] #[]] 67)) := (Below.refl _ _).alloc (Nat.le_refl _) _
            generalize hwB : wr.alloc (.cells #[.pointer (some ⟨w.heap.size, 1, none⟩), .func (Fn.func 32) #[] #[]] 67) = wB at *
            have zB : wB.heap.size = wr.heap.size + 1 := by rw [← hwB]; simp
            clear hwB
            have q0 : wB.cell? ⟨wr.heap.size, 0, none⟩ = some (.pointer (some ⟨w.heap.size, 1, none⟩)) := by simp [World.cell?, nr]
            have q1 : wB.cell? ⟨wr.heap.size, 1, none⟩ = some (.func (Fn.func 32) #[] #[]) := by simp [World.cell?, nr]
            have q2 : wB.cell? ⟨w.heap.size, 1, none⟩ = some (.int .i64 a) := (bB.cell (p := ⟨w.heap.size, 1, none⟩) (show w.heap.size < wr.heap.size by omega)).trans cx
            clear nr cx
            have hBW : ∀ W, Below wB.heap.size wB W → Below w.heap.size w W := fun W hW => (bA.trans (hb.mono (by omega))).trans ((bB.mono (by omega)).trans (hW.mono (by omega)))
            have HBW := Lib.hid hBW
            clear hBW
            go_quiet (first
              | (go_at_call 32; exact Calls.quiet_of (HCC.out _ (HBW.out _ (below_drewN' (Below.refl _ _) _)))))
            all_goals (try go_wp2)
            all_goals
             have hbz : Below wA.heap.size wA (wB.drewN nq) := hb.trans (below_drewN' (bB.mono hzr) nq)
             exact ⟨⟨1, by omega, rfl, by first | exact P1.out.1 | exact fun _ => trivial, by first | exact P1.out.2.1 | exact fun _ => trivial, by first | exact P1.out.2.2 | exact fun _ => trivial, hbz⟩, by simp [intOf]⟩
        · obtain ⟨hcs, hcall⟩ := hs0
          have HC := Lib.hid (hcall a)
          clear hcall hcs c0 c1 c2 c3 c4 i0 i1 i2 i3 hb1 KS
          simp only [fo] at hf0
          subst hf0
          have hcc := fun (W : World) (hW : Below w.heap.size w W) => HC.out W hW
          have hfe := fnEq
          have hfn := fnNe
          cases hph : φ0 a
          · rw [hph] at hcc
            have HPH := Lib.hid hph
            have HCC := Lib.hid hcc
            clear hph hcc HC
            go_wp2_with fail
            have nr := (MapKept.heap_alloc wr (.cells #[.pointer (some ⟨w.heap.size, 1, none⟩), .func (Fn.func 35) #[] #[]] 67)).1
            have bB : Below wr.heap.size wr (wr.alloc (.cells #[.pointer (some ⟨w.heap.size, 1, none⟩), .func (Fn.func 35) #[] #[]] 67)) := (Below.refl _ _).alloc (Nat.le_refl _) _
            generalize hwB : wr.alloc (.cells #[.pointer (some ⟨w.heap.size, 1, none⟩), .func (Fn.func 35) #[] #[]] 67) = wB at *
            have zB : wB.heap.size = wr.heap.size + 1 := by rw [← hwB]; simp
            clear hwB
            have q0 : wB.cell? ⟨wr.heap.size, 0, none⟩ = some (.pointer (some ⟨w.heap.size, 1, none⟩)) := by simp [World.cell?, nr]
            have q1 : wB.cell? ⟨wr.heap.size, 1, none⟩ = some (.func (Fn.func 35) #[] #[]) := by simp [World.cell?, nr]
            have q2 : wB.cell? ⟨w.heap.size, 1, none⟩ = some (.int .i64 a) := (bB.cell (p := ⟨w.heap.size, 1, none⟩) (show w.heap.size < wr.heap.size by omega)).trans cx
            clear nr cx
            have hBW : ∀ W, Below wB.heap.size wB W → Below w.heap.size w W := fun W hW => (bA.trans (hb.mono (by omega))).trans ((bB.mono (by omega)).trans (hW.mono (by omega)))
            have HBW := Lib.hid hBW
            clear hBW
            go_quiet (first
              | (go_at_call 35; exact Calls.quiet_of (HCC.out _ (HBW.out _ (below_drewN' (Below.refl _ _) _)))))
            all_goals (try go_wp2)
            all_goals
             have bz := HBW.out _ (below_drewN' (Below.refl _ _) nq)
             go_ret
             exact ⟨by rw [HPH.out]; simp, bz⟩
          · rw [hph] at hcc
            have HPH := Lib.hid hph
            have HCC := Lib.hid hcc
            have P1 := Lib.hid (show (0 < 1 → φ0 a = true) ∧ (1 < 1 → φ1 b = true) ∧ (2 < 1 → φ2 t = true) from ⟨fun _ => HPH.out, fun h => by omega, fun h => by omega⟩)
            clear hph hcc HC
            go_wp2_with fail
            have nr := (MapKept.heap_alloc wr (.cells #[.pointer (some ⟨w.heap.size, 1, none⟩), .func (Fn.func 35) #[] #[]] 67)).1
            have bB : Below wr.heap.size wr (wr.alloc (.cells #[.pointer (some ⟨w.heap.size, 1, none⟩), .func (Fn.func 35) #[] #[]] 67)) := (Below.refl _ _).alloc (Nat.le_refl _) _
            generalize hwB : wr.alloc (.cells #[.pointer (some ⟨w.heap.size, 1, none⟩), .func (Fn.func 35) #[] #[]] 67) = wB at *
            have zB : wB.heap.size = wr.heap.size + 1 := by rw [← hwB]; simp
            clear hwB
            have q0 : wB.cell? ⟨wr.heap.size, 0, none⟩ = some (.pointer (some ⟨w.heap.size, 1, none⟩)) := by simp [World.cell?, nr]
            have q1 : wB.cell? ⟨wr.heap.size, 1, none⟩ = some (.func (Fn.func 35) #[] #[]) := by simp [World.cell?, nr]
            have q2 : wB.cell? ⟨w.heap.size, 1, none⟩ = some (.int .i64 a) := (bB.cell (p := ⟨w.heap.size, 1, none⟩) (show w.heap.size < wr.heap.size by omega)).trans cx
            clear nr cx
            have hBW : ∀ W, Below wB.heap.size wB W → Below w.heap.size w W := fun W hW => (bA.trans (hb.mono (by omega))).trans ((bB.mono (by omega)).trans (hW.mono (by omega)))
            have HBW := Lib.hid hBW
            clear hBW
            go_quiet (first
              | (go_at_call 35; exact Calls.quiet_of (HCC.out _ (HBW.out _ (below_drewN' (Below.refl _ _) _)))))
            all_goals (try go_wp2)
            all_goals
             have hbz : Below wA.heap.size wA (wB.drewN nq) := hb.trans (below_drewN' (bB.mono hzr) nq)
             exact ⟨⟨1, by omega, rfl, by first | exact P1.out.1 | exact fun _ => trivial, by first | exact P1.out.2.1 | exact fun _ => trivial, by first | exact P1.out.2.2 | exact fun _ => trivial, hbz⟩, by simp [intOf]⟩
        · obtain ⟨hcs, hcall⟩ := hs0
          have HC := Lib.hid (hcall a)
          clear hcall hcs c0 c1 c2 c3 c4 i0 i1 i2 i3 hb1 KS
          simp only [fo] at hf0
          subst hf0
          have hcc := fun (W : World) (hW : Below w.heap.size w W) => HC.out W hW
          have hfe := fnEq
          have hfn := fnNe
          cases hph : φ0 a
          · rw [hph] at hcc
            have HPH := Lib.hid hph
            have HCC := Lib.hid hcc
            clear hph hcc HC
            go_wp2_with fail
            have nr := (MapKept.heap_alloc wr (.cells #[.pointer (some ⟨w.heap.size, 1, none⟩), .func (Fn.func 36) #[] #[]] 67)).1
            have bB : Below wr.heap.size wr (wr.alloc (.cells #[.pointer (some ⟨w.heap.size, 1, none⟩), .func (Fn.func 36) #[] #[]] 67)) := (Below.refl _ _).alloc (Nat.le_refl _) _
            generalize hwB : wr.alloc (.cells #[.pointer (some ⟨w.heap.size, 1, none⟩), .func (Fn.func 36) #[] #[]] 67) = wB at *
            have zB : wB.heap.size = wr.heap.size + 1 := by rw [← hwB]; simp
            clear hwB
            have q0 : wB.cell? ⟨wr.heap.size, 0, none⟩ = some (.pointer (some ⟨w.heap.size, 1, none⟩)) := by simp [World.cell?, nr]
            have q1 : wB.cell? ⟨wr.heap.size, 1, none⟩ = some (.func (Fn.func 36) #[] #[]) := by simp [World.cell?, nr]
            have q2 : wB.cell? ⟨w.heap.size, 1, none⟩ = some (.int .i64 a) := (bB.cell (p := ⟨w.heap.size, 1, none⟩) (show w.heap.size < wr.heap.size by omega)).trans cx
            clear nr cx
            have hBW : ∀ W, Below wB.heap.size wB W → Below w.heap.size w W := fun W hW => (bA.trans (hb.mono (by omega))).trans ((bB.mono (by omega)).trans (hW.mono (by omega)))
            have HBW := Lib.hid hBW
            clear hBW
            go_quiet (first
              | (go_at_call 36; exact Calls.quiet_of (HCC.out _ (HBW.out _ (below_drewN' (Below.refl _ _) _)))))
            all_goals (try go_wp2)
            all_goals
             have bz := HBW.out _ (below_drewN' (Below.refl _ _) nq)
             go_ret
             exact ⟨by rw [HPH.out]; simp, bz⟩
          · rw [hph] at hcc
            have HPH := Lib.hid hph
            have HCC := Lib.hid hcc
            have P1 := Lib.hid (show (0 < 1 → φ0 a = true) ∧ (1 < 1 → φ1 b = true) ∧ (2 < 1 → φ2 t = true) from ⟨fun _ => HPH.out, fun h => by omega, fun h => by omega⟩)
            clear hph hcc HC
            go_wp2_with fail
            have nr := (MapKept.heap_alloc wr (.cells #[.pointer (some ⟨w.heap.size, 1, none⟩), .func (Fn.func 36) #[] #[]] 67)).1
            have bB : Below wr.heap.size wr (wr.alloc (.cells #[.pointer (some ⟨w.heap.size, 1, none⟩), .func (Fn.func 36) #[] #[]] 67)) := (Below.refl _ _).alloc (Nat.le_refl _) _
            generalize hwB : wr.alloc (.cells #[.pointer (some ⟨w.heap.size, 1, none⟩), .func (Fn.func 36) #[] #[]] 67) = wB at *
            have zB : wB.heap.size = wr.heap.size + 1 := by rw [← hwB]; simp
            clear hwB
            have q0 : wB.cell? ⟨wr.heap.size, 0, none⟩ = some (.pointer (some ⟨w.heap.size, 1, none⟩)) := by simp [World.cell?, nr]
            have q1 : wB.cell? ⟨wr.heap.size, 1, none⟩ = some (.func (Fn.func 36) #[] #[]) := by simp [World.cell?, nr]
            have q2 : wB.cell? ⟨w.heap.size, 1, none⟩ = some (.int .i64 a) := (bB.cell (p := ⟨w.heap.size, 1, none⟩) (show w.heap.size < wr.heap.size by omega)).trans cx
            clear nr cx
            have hBW : ∀ W, Below wB.heap.size wB W → Below w.heap.size w W := fun W hW => (bA.trans (hb.mono (by omega))).trans ((bB.mono (by omega)).trans (hW.mono (by omega)))
            have HBW := Lib.hid hBW
            clear hBW
            go_quiet (first
              | (go_at_call 36; exact Calls.quiet_of (HCC.out _ (HBW.out _ (below_drewN' (Below.refl _ _) _)))))
            all_goals (try go_wp2)
            all_goals
             have hbz : Below wA.heap.size wA (wB.drewN nq) := hb.trans (below_drewN' (bB.mono hzr) nq)
             exact ⟨⟨1, by omega, rfl, by first | exact P1.out.1 | exact fun _ => trivial, by first | exact P1.out.2.1 | exact fun _ => trivial, by first | exact P1.out.2.2 | exact fun _ => trivial, hbz⟩, by simp [intOf]⟩
        · obtain ⟨hcs, hcall⟩ := hs0
          have HC := Lib.hid (hcall a)
          clear hcall hcs c0 c1 c2 c3 c4 i0 i1 i2 i3 hb1 KS
          simp only [fo] at hf0
          subst hf0
          have hcc := fun (W : World) (hW : Below w.heap.size w W) => HC.out W hW
          have hfe := fnEq
          have hfn := fnNe
          cases hph : φ0 a
          · rw [hph] at hcc
            have HPH := Lib.hid hph
            have HCC := Lib.hid hcc
            clear hph hcc HC
            go_wp2_with fail
            have nr := (MapKept.heap_alloc wr (.cells #[.pointer (some ⟨w.heap.size, 1, none⟩), .func (Fn.func 39) #[] #[]] 67)).1
            have bB : Below wr.heap.size wr (wr.alloc (.cells #[.pointer (some ⟨w.heap.size, 1, none⟩), .func (Fn.func 39) #[] #[]] 67)) := (Below.refl _ _).alloc (Nat.le_refl _) _
            generalize hwB : wr.alloc (.cells #[.pointer (some ⟨w.heap.size, 1, none⟩), .func (Fn.func 39) #[] #[]] 67) = wB at *
            have zB : wB.heap.size = wr.heap.size + 1 := by rw [← hwB]; simp
            clear hwB
            have q0 : wB.cell? ⟨wr.heap.size, 0, none⟩ = some (.pointer (some ⟨w.heap.size, 1, none⟩)) := by simp [World.cell?, nr]
            have q1 : wB.cell? ⟨wr.heap.size, 1, none⟩ = some (.func (Fn.func 39) #[] #[]) := by simp [World.cell?, nr]
            have q2 : wB.cell? ⟨w.heap.size, 1, none⟩ = some (.int .i64 a) := (bB.cell (p := ⟨w.heap.size, 1, none⟩) (show w.heap.size < wr.heap.size by omega)).trans cx
            clear nr cx
            have hBW : ∀ W, Below wB.heap.size wB W → Below w.heap.size w W := fun W hW => (bA.trans (hb.mono (by omega))).trans ((bB.mono (by omega)).trans (hW.mono (by omega)))
            have HBW := Lib.hid hBW
            clear hBW
            go_quiet (first
              | (go_at_call 39; exact Calls.quiet_of (HCC.out _ (HBW.out _ (below_drewN' (Below.refl _ _) _)))))
            all_goals (try go_wp2)
            all_goals
             have bz := HBW.out _ (below_drewN' (Below.refl _ _) nq)
             go_ret
             exact ⟨by rw [HPH.out]; simp, bz⟩
          · rw [hph] at hcc
            have HPH := Lib.hid hph
            have HCC := Lib.hid hcc
            have P1 := Lib.hid (show (0 < 1 → φ0 a = true) ∧ (1 < 1 → φ1 b = true) ∧ (2 < 1 → φ2 t = true) from ⟨fun _ => HPH.out, fun h => by omega, fun h => by omega⟩)
            clear hph hcc HC
            go_wp2_with fail
            have nr := (MapKept.heap_alloc wr (.cells #[.pointer (some ⟨w.heap.size, 1, none⟩), .func (Fn.func 39) #[] #[]] 67)).1
            have bB : Below wr.heap.size wr (wr.alloc (.cells #[.pointer (some ⟨w.heap.size, 1, none⟩), .func (Fn.func 39) #[] #[]] 67)) := (Below.refl _ _).alloc (Nat.le_refl _) _
            generalize hwB : wr.alloc (.cells #[.pointer (some ⟨w.heap.size, 1, none⟩), .func (Fn.func 39) #[] #[]] 67) = wB at *
            have zB : wB.heap.size = wr.heap.size + 1 := by rw [← hwB]; simp
            clear hwB
            have q0 : wB.cell? ⟨wr.heap.size, 0, none⟩ = some (.pointer (some ⟨w.heap.size, 1, none⟩)) := by simp [World.cell?, nr]
            have q1 : wB.cell? ⟨wr.heap.size, 1, none⟩ = some (.func (Fn.func 39) #[] #[]) := by simp [World.cell?, nr]
            have q2 : wB.cell? ⟨w.heap.size, 1, none⟩ = some (.int .i64 a) := (bB.cell (p := ⟨w.heap.size, 1, none⟩) (show w.heap.size < wr.heap.size by omega)).trans cx
            clear nr cx
            have hBW : ∀ W, Below wB.heap.size wB W → Below w.heap.size w W := fun W hW => (bA.trans (hb.mono (by omega))).trans ((bB.mono (by omega)).trans (hW.mono (by omega)))
            have HBW := Lib.hid hBW
            clear hBW
            go_quiet (first
              | (go_at_call 39; exact Calls.quiet_of (HCC.out _ (HBW.out _ (below_drewN' (Below.refl _ _) _)))))
            all_goals (try go_wp2)
            all_goals
             have hbz : Below wA.heap.size wA (wB.drewN nq) := hb.trans (below_drewN' (bB.mono hzr) nq)
             exact ⟨⟨1, by omega, rfl, by first | exact P1.out.1 | exact fun _ => trivial, by first | exact P1.out.2.1 | exact fun _ => trivial, by first | exact P1.out.2.2 | exact fun _ => trivial, hbz⟩, by simp [intOf]⟩
      · have cx := (hb.cell (p := ⟨w.heap.size, 2, none⟩) (show w.heap.size < wA.heap.size by omega)).trans i2
        have hs0 := S1.out
        have hf0 := H1.out
        have bw : w.heap.size < wr.heap.size := by omega
        have hix := @ix1
        rcases hk1 with rfl | rfl | rfl
        · have hph : φ1 b = decide (b = 0) := hs0 b
          simp only [fo] at hf0
          subst hf0
          clear hs0 c0 c1 c2 c3 c4 i0 i1 i2 i3 hb1 KS
          have hfe := nilEq
          have hfn := nilNe
          by_cases hx0 : b = 0
          · rw [decide_eq_true hx0] at hph
            have HPH := Lib.hid hph
            have P1 := Lib.hid (show (0 < 2 → φ0 a = true) ∧ (1 < 2 → φ1 b = true) ∧ (2 < 2 → φ2 t = true) from ⟨fun _ => P0.out.1 (by omega), fun _ => HPH.out, fun h => by omega⟩)
            rw [hx0] at cx
            clear hph hx0
            go_wp2_with fail
            have nr := (MapKept.heap_alloc wr (.cells #[.pointer (some ⟨w.heap.size, 2, none⟩), .nilFunc] 67)).1
            have bB : Below wr.heap.size wr (wr.alloc (.cells #[.pointer (some ⟨w.heap.size, 2, none⟩), .nilFunc] 67)) := (Below.refl _ _).alloc (Nat.le_refl _) _
            generalize hwB : wr.alloc (.cells #[.pointer (some ⟨w.heap.size, 2, none⟩), .nilFunc] 67) = wB at *
            have zB : wB.heap.size = wr.heap.size + 1 := by rw [← hwB]; simp
            clear hwB
            have q0 : wB.cell? ⟨wr.heap.size, 0, none⟩ = some (.pointer (some ⟨w.heap.size, 2, none⟩)) := by simp [World.cell?, nr]
            have q1 : wB.cell? ⟨wr.heap.size, 1, none⟩ = some (.nilFunc) := by simp [World.cell?, nr]
            have q2 : wB.cell? ⟨w.heap.size, 2, none⟩ = some (.int .i64 0) := (bB.cell (p := ⟨w.heap.size, 2, none⟩) (show w.heap.size < wr.heap.size by omega)).trans cx
            clear nr cx
            go_region
            all_goals (try go_wp2)
            have hbz : Below wA.heap.size wA wB.drew := hb.trans (bB.mono hzr).drew
            exact ⟨⟨2, by omega, rfl, by first | exact P1.out.1 | exact fun _ => trivial, by first | exact P1.out.2.1 | exact fun _ => trivial, by first | exact P1.out.2.2 | exact fun _ => trivial, hbz⟩, by simp [intOf]⟩
          · rw [decide_eq_false hx0] at hph
            have HPH := Lib.hid hph
            have hx1 : (b != 0) = true := by simpa using hx0
            have hx2 : (b == 0) = false := by simpa using hx0
            clear hph hx0
            go_wp2_with fail
            have nr := (MapKept.heap_alloc wr (.cells #[.pointer (some ⟨w.heap.size, 2, none⟩), .nilFunc] 67)).1
            have bB : Below wr.heap.size wr (wr.alloc (.cells #[.pointer (some ⟨w.heap.size, 2, none⟩), .nilFunc] 67)) := (Below.refl _ _).alloc (Nat.le_refl _) _
            generalize hwB : wr.alloc (.cells #[.pointer (some ⟨w.heap.size, 2, none⟩), .nilFunc] 67) = wB at *
            have zB : wB.heap.size = wr.heap.size + 1 := by rw [← hwB]; simp
            clear hwB
            have q0 : wB.cell? ⟨wr.heap.size, 0, none⟩ = some (.pointer (some ⟨w.heap.size, 2, none⟩)) := by simp [World.cell?, nr]
            have q1 : wB.cell? ⟨wr.heap.size, 1, none⟩ = some (.nilFunc) := by simp [World.cell?, nr]
            have q2 : wB.cell? ⟨w.heap.size, 2, none⟩ = some (.int .i64 b) := (bB.cell (p := ⟨w.heap.size, 2, none⟩) (show w.heap.size < wr.heap.size by omega)).trans cx
            clear nr cx
            go_region
            all_goals (try go_wp2)
            have bz : Below w.heap.size w wB.drew := (bA.trans (hb.mono (by omega))).trans (bB.mono (by omega)).drew
            go_ret
            exact ⟨by rw [HPH.out]; simp, bz⟩
        · obtain ⟨hcs, hcall⟩ := hs0
          have HC := Lib.hid (hcall b)
          clear hcall hcs c0 c1 c2 c3 c4 i0 i1 i2 i3 hb1 KS
          simp only [fo] at hf0
          subst hf0
          have hcc := fun (W : World) (hW : Below w.heap.size w W) => HC.out W hW
          have hfe := fnEq
          have hfn := fnNe
          cases hph : φ1 b
          · rw [hph] at hcc
            have HPH := Lib.hid hph
            have HCC := Lib.hid hcc
            clear hph hcc HC
            go_wp2_with fail
            have nr := (MapKept.heap_alloc wr (.cells #[.pointer (some ⟨w.heap.size, 2, none⟩), .func (Fn.func 32) #[] #[]] 67)).1
            have bB : Below wr.heap.size wr (wr.alloc (.cells #[.pointer (some ⟨w.heap.size, 2, none⟩), .func (Fn.func 32) #[] #[]] 67)) := (Below.refl _ _).alloc (Nat.le_refl _) _
            generalize hwB : wr.alloc (.cells #[.pointer (some ⟨w.heap.size, 2, none⟩), .func (Fn.func 32) #[] #[]] 67) = wB at *
            have zB : wB.heap.size = wr.heap.size + 1 := by rw [← hwB]; simp
            clear hwB
            have q0 : wB.cell? ⟨wr.heap.size, 0, none⟩ = some (.pointer (some ⟨w.heap.size, 2, none⟩)) := by simp [World.cell?, nr]
            have q1 : wB.cell? ⟨wr.heap.size, 1, none⟩ = some (.func (Fn.func 32) #[] #[]) := by simp [World.cell?, nr]
            have q2 : wB.cell? ⟨w.heap.size, 2, none⟩ = some (.int .i64 b) := (bB.cell (p := ⟨w.heap.size, 2, none⟩) (show w.heap.size < wr.heap.size by omega)).trans cx
            clear nr cx
            have hBW : ∀ W, Below wB.heap.size wB W → Below w.heap.size w W := fun W hW => (bA.trans (hb.mono (by omega))).trans ((bB.mono (by omega)).trans (hW.mono (by omega)))
            have HBW := Lib.hid hBW
            clear hBW
            go_quiet (first
              | (go_at_call 32; exact Calls.quiet_of (HCC.out _ (HBW.out _ (below_drewN' (Below.refl _ _) _)))))
            all_goals (try go_wp2)
            all_goals
             have bz := HBW.out _ (below_drewN' (Below.refl _ _) nq)
             go_ret
             exact ⟨by rw [HPH.out]; simp, bz⟩
          · rw [hph] at hcc
            have HPH := Lib.hid hph
            have HCC := Lib.hid hcc
            have P1 := Lib.hid (show (0 < 2 → φ0 a = true) ∧ (1 < 2 → φ1 b = true) ∧ (2 < 2 → φ2 t = true) from ⟨fun _ => P0.out.1 (by omega), fun _ => HPH.out, fun h => by omega⟩)
            clear hph hcc HC
            go_wp2_with fail
            have nr := (MapKept.heap_alloc wr (.cells #[.pointer (some ⟨w.heap.size, 2, none⟩), .func (Fn.func 32) #[] #[]] 67)).1
            have bB : Below wr.heap.size wr (wr.alloc (.cells #[.pointer (some ⟨w.heap.size, 2, none⟩), .func (Fn.func 32) #[] #[]] 67)) := (Below.refl _ _).alloc (Nat.le_refl _) _
            generalize hwB : wr.alloc (.cells #[.pointer (some ⟨w.heap.size, 2, none⟩), .func (Fn.func 32) #[] #[]] 67) = wB at *
            have zB : wB.heap.size = wr.heap.size + 1 := by rw [← hwB]; simp
            clear hwB
            have q0 : wB.cell? ⟨wr.heap.size, 0, none⟩ = some (.pointer (some ⟨w.heap.size, 2, none⟩)) := by simp [World.cell?, nr]
            have q1 : wB.cell? ⟨wr.heap.size, 1, none⟩ = some (.func (Fn.func 32) #[] #[]) := by simp [World.cell?, nr]
            have q2 : wB.cell? ⟨w.heap.size, 2, none⟩ = some (.int .i64 b) := (bB.cell (p := ⟨w.heap.size, 2, none⟩) (show w.heap.size < wr.heap.size by omega)).trans cx
            clear nr cx
            have hBW : ∀ W, Below wB.heap.size wB W → Below w.heap.size w W := fun W hW => (bA.trans (hb.mono (by omega))).trans ((bB.mono (by omega)).trans (hW.mono (by omega)))
            have HBW := Lib.hid hBW
            clear hBW
            go_quiet (first
              | (go_at_call 32; exact Calls.quiet_of (HCC.out _ (HBW.out _ (below_drewN' (Below.refl _ _) _)))))
            all_goals (try go_wp2)
            all_goals
             have hbz : Below wA.heap.size wA (wB.drewN nq) := hb.trans (below_drewN' (bB.mono hzr) nq)
             exact ⟨⟨2, by omega, rfl, by first | exact P1.out.1 | exact fun _ => trivial, by first | exact P1.out.2.1 | exact fun _ => trivial, by first | exact P1.out.2.2 | exact fun _ => trivial, hbz⟩, by simp [intOf]⟩
        · obtain ⟨hcs, hcall⟩ := hs0
          have HC := Lib.hid (hcall b)
          clear hcall hcs c0 c1 c2 c3 c4 i0 i1 i2 i3 hb1 KS
          simp only [fo] at hf0
          subst hf0
          have hcc := fun (W : World) (hW : Below w.heap.size w W) => HC.out W hW
          have hfe := fnEq
          have hfn := fnNe
          cases hph : φ1 b
          · rw [hph] at hcc
            have HPH := Lib.hid hph
            have HCC := Lib.hid hcc
            clear hph hcc HC
            go_wp2_with fail
            have nr := (MapKept.heap_alloc wr (.cells #[.pointer (some ⟨w.heap.size, 2, none⟩), .func (Fn.func 35) #[] #[]] 67)).1
            have bB : Below wr.heap.size wr (wr.alloc (.cells #[.pointer (some ⟨w.heap.size, 2, none⟩), .func (Fn.func 35) #[] #[]] 67)) := (Below.refl _ _).alloc (Nat.le_refl _) _
            generalize hwB : wr.alloc (.cells #[.pointer (some ⟨w.heap.size, 2, none⟩), .func (Fn.func 35) #[] #[]] 67) = wB at *
            have zB : wB.heap.size = wr.heap.size + 1 := by rw [← hwB]; simp
            clear hwB
            have q0 : wB.cell? ⟨wr.heap.size, 0, none⟩ = some (.pointer (some ⟨w.heap.size, 2, none⟩)) := by simp [World.cell?, nr]
            have q1 : wB.cell? ⟨wr.heap.size, 1, none⟩ = some (.func (Fn.func 35) #[] #[]) := by simp [World.cell?, nr]
            have q2 : wB.cell? ⟨w.heap.size, 2, none⟩ = some (.int .i64 b) := (bB.cell (p := ⟨w.heap.size, 2, none⟩) (show w.heap.size < wr.heap.size by omega)).trans cx
            clear nr cx
            have hBW : ∀ W, Below wB.heap.size wB W → Below w.heap.size w W := fun W hW => (bA.trans (hb.mono (by omega))).trans ((bB.mono (by omega)).trans (hW.mono (by omega)))
            have HBW := Lib.hid hBW
            clear hBW
            go_quiet (first
              | (go_at_call 35; exact Calls.quiet_of (HCC.out _ (HBW.out _ (below_drewN' (Below.refl _ _) _)))))
            all_goals (try go_wp2)
            all_goals
             have bz := HBW.out _ (below_drewN' (Below.refl _ _) nq)
             go_ret
             exact ⟨by rw [HPH.out]; simp, bz⟩
          · rw [hph] at hcc
            have HPH := Lib.hid hph
            have HCC := Lib.hid hcc
            have P1 := Lib.hid (show (0 < 2 → φ0 a = true) ∧ (1 < 2 → φ1 b = true) ∧ (2 < 2 → φ2 t = true) from ⟨fun _ => P0.out.1 (by omega), fun _ => HPH.out, fun h => by omega⟩)
            clear hph hcc HC
            go_wp2_with fail
            have nr := (MapKept.heap_alloc wr (.cells #[.pointer (some ⟨w.heap.size, 2, none⟩), .func (Fn.func 35) #[] #[]] 67)).1
            have bB : Below wr.heap.size wr (wr.alloc (.cells #[.pointer (some ⟨w.heap.size, 2, none⟩), .func (Fn.func 35) #[] #[]] 67)) := (Below.refl _ _).alloc (Nat.le_refl _) _
            generalize hwB : wr.alloc (.cells #[.pointer (some ⟨w.heap.size, 2, none⟩), .func (Fn.func 35) #[] #[]] 67) = wB at *
            have zB : wB.heap.size = wr.heap.size + 1 := by rw [← hwB]; simp
            clear hwB
            have q0 : wB.cell? ⟨wr.heap.size, 0, none⟩ = some (.pointer (some ⟨w.heap.size, 2, none⟩)) := by simp [World.cell?, nr]
            have q1 : wB.cell? ⟨wr.heap.size, 1, none⟩ = some (.func (Fn.func 35) #[] #[]) := by simp [World.cell?, nr]
            have q2 : wB.cell? ⟨w.heap.size, 2, none⟩ = some (.int .i64 b) := (bB.cell (p := ⟨w.heap.size, 2, none⟩) (show w.heap.size < wr.heap.size by omega)).trans cx
            clear nr cx
            have hBW : ∀ W, Below wB.heap.size wB W → Below w.heap.size w W := fun W hW => (bA.trans (hb.mono (by omega))).trans ((bB.mono (by omega)).trans (hW.mono (by omega)))
            have HBW := Lib.hid hBW
            clear hBW
            go_quiet (first
              | (go_at_call 35; exact Calls.quiet_of (HCC.out _ (HBW.out _ (below_drewN' (Below.refl _ _) _)))))
            all_goals (try go_wp2)
            all_goals
             have hbz : Below wA.heap.size wA (wB.drewN nq) := hb.trans (below_drewN' (bB.mono hzr) nq)
             exact ⟨⟨2, by omega, rfl, by first | exact P1.out.1 | exact fun _ => trivial, by first | exact P1.out.2.1 | exact fun _ => trivial, by first | exact P1.out.2.2 | exact fun _ => trivial, hbz⟩, by simp [intOf]⟩
      · have cx := (hb.cell (p := ⟨w.heap.size, 3, none⟩) (show w.heap.size < wA.heap.size by omega)).trans i3
        have hs0 := S2.out
        have hf0 := H2.out
        have bw : w.heap.size < wr.heap.size := by omega
        have hix := @ix2
        rcases hk2 with rfl | rfl | rfl | ⟨pv, rfl⟩
        · have hph : φ2 t = decide (t = 0) := hs0 t
          simp only [fo] at hf0
          subst hf0
          clear hs0 c0 c1 c2 c3 c4 i0 i1 i2 i3 hb1 KS
          have hfe := nilEq
          have hfn := nilNe
          by_cases hx0 : t = 0
          · rw [decide_eq_true hx0] at hph
            have HPH := Lib.hid hph
            have P1 := Lib.hid (show (0 < 3 → φ0 a = true) ∧ (1 < 3 → φ1 b = true) ∧ (2 < 3 → φ2 t = true) from ⟨fun _ => P0.out.1 (by omega), fun _ => P0.out.2.1 (by omega), fun _ => HPH.out⟩)
            rw [hx0] at cx
            clear hph hx0
            go_wp2_with fail
            have nr := (MapKept.heap_alloc wr (.cells #[.pointer (some ⟨w.heap.size, 3, none⟩), .nilFunc] 67)).1
            have bB : Below wr.heap.size wr (wr.alloc (.cells #[.pointer (some ⟨w.heap.size, 3, none⟩), .nilFunc] 67)) := (Below.refl _ _).alloc (Nat.le_refl _) _
            generalize hwB : wr.alloc (.cells #[.pointer (some ⟨w.heap.size, 3, none⟩), .nilFunc] 67) = wB at *
            have zB : wB.heap.size = wr.heap.size + 1 := by rw [← hwB]; simp
            clear hwB
            have q0 : wB.cell? ⟨wr.heap.size, 0, none⟩ = some (.pointer (some ⟨w.heap.size, 3, none⟩)) := by simp [World.cell?, nr]
            have q1 : wB.cell? ⟨wr.heap.size, 1, none⟩ = some (.nilFunc) := by simp [World.cell?, nr]
            have q2 : wB.cell? ⟨w.heap.size, 3, none⟩ = some (.int .i64 0) := (bB.cell (p := ⟨w.heap.size, 3, none⟩) (show w.heap.size < wr.heap.size by omega)).trans cx
            clear nr cx
            go_region
            all_goals (try go_wp2)
            have hbz : Below wA.heap.size wA wB.drew := hb.trans (bB.mono hzr).drew
            exact ⟨⟨3, by omega, rfl, by first | exact P1.out.1 | exact fun _ => trivial, by first | exact P1.out.2.1 | exact fun _ => trivial, by first | exact P1.out.2.2 | exact fun _ => trivial, hbz⟩, by simp [intOf]⟩
          · rw [decide_eq_false hx0] at hph
            have HPH := Lib.hid hph
            have hx1 : (t != 0) = true := by simpa using hx0
            have hx2 : (t == 0) = false := by simpa using hx0
            clear hph hx0
            go_wp2_with fail
            have nr := (MapKept.heap_alloc wr (.cells #[.pointer (some ⟨w.heap.size, 3, none⟩), .nilFunc] 67)).1
            have bB : Below wr.heap.size wr (wr.alloc (.cells #[.pointer (some ⟨w.heap.size, 3, none⟩), .nilFunc] 67)) := (Below.refl _ _).alloc (Nat.le_refl _) _
            generalize hwB : wr.alloc (.cells #[.pointer (some ⟨w.heap.size, 3, none⟩), .nilFunc] 67) = wB at *
            have zB : wB.heap.size = wr.heap.size + 1 := by rw [← hwB]; simp
            clear hwB
            have q0 : wB.cell? ⟨wr.heap.size, 0, none⟩ = some (.pointer (some ⟨w.heap.size, 3, none⟩)) := by simp [World.cell?, nr]
            have q1 : wB.cell? ⟨wr.heap.size, 1, none⟩ = some (.nilFunc) := by simp [World.cell?, nr]
            have q2 : wB.cell? ⟨w.heap.size, 3, none⟩ = some (.int .i64 t) := (bB.cell (p := ⟨w.heap.size, 3, none⟩) (show w.heap.size < wr.heap.size by omega)).trans cx
            clear nr cx
            go_region
            all_goals (try go_wp2)
            have bz : Below w.heap.size w wB.drew := (bA.trans (hb.mono (by omega))).trans (bB.mono (by omega)).drew
            go_ret
            exact ⟨by rw [HPH.out]; simp, bz⟩
        · obtain ⟨hcs, hcall⟩ := hs0
          have HC := Lib.hid (hcall t)
          clear hcall hcs c0 c1 c2 c3 c4 i0 i1 i2 i3 hb1 KS
          simp only [fo] at hf0
          subst hf0
          have hcc := fun (W : World) (hW : Below w.heap.size w W) => HC.out W hW
          have hfe := fnEq
          have hfn := fnNe
          cases hph : φ2 t
          · rw [hph] at hcc
            have HPH := Lib.hid hph
            have HCC := Lib.hid hcc
            clear hph hcc HC
            go_wp2_with fail
            have nr := (MapKept.heap_alloc wr (.cells #[.pointer (some ⟨w.heap.size, 3, none⟩), .func (Fn.func 33) #[] #[]] 67)).1
            have bB : Below wr.heap.size wr (wr.alloc (.cells #[.pointer (some ⟨w.heap.size, 3, none⟩), .func (Fn.func 33) #[] #[]] 67)) := (Below.refl _ _).alloc (Nat.le_refl _) _
            generalize hwB : wr.alloc (.cells #[.pointer (some ⟨w.heap.size, 3, none⟩), .func (Fn.func 33) #[] #[]] 67) = wB at *
            have zB : wB.heap.size = wr.heap.size + 1 := by rw [← hwB]; simp
            clear hwB
            have q0 : wB.cell? ⟨wr.heap.size, 0, none⟩ = some (.pointer (some ⟨w.heap.size, 3, none⟩)) := by simp [World.cell?, nr]
            have q1 : wB.cell? ⟨wr.heap.size, 1, none⟩ = some (.func (Fn.func 33) #[] #[]) := by simp [World.cell?, nr]
            have q2 : wB.cell? ⟨w.heap.size, 3, none⟩ = some (.int .i64 t) := (bB.cell (p := ⟨w.heap.size, 3, none⟩) (show w.heap.size < wr.heap.size by omega)).trans cx
            clear nr cx
            have hBW : ∀ W, Below wB.heap.size wB W → Below w.heap.size w W := fun W hW => (bA.trans (hb.mono (by omega))).trans ((bB.mono (by omega)).trans (hW.mono (by omega)))
            have HBW := Lib.hid hBW
            clear hBW
            go_quiet (first
              | (go_at_call 33; exact Calls.quiet_of (HCC.out _ (HBW.out _ (below_drewN' (Below.refl _ _) _)))))
            all_goals (try go_wp2)
            all_goals
             have bz := HBW.out _ (below_drewN' (Below.refl _ _) nq)
             go_ret
             exact ⟨by rw [HPH.out]; simp, bz⟩
          · rw [hph] at hcc
            have HPH := Lib.hid hph
            have HCC := Lib.hid hcc
            have P1 := Lib.hid (show (0 < 3 → φ0 a = true) ∧ (1 < 3 → φ1 b = true) ∧ (2 < 3 → φ2 t = true) from ⟨fun _ => P0.out.1 (by omega), fun _ => P0.out.2.1 (by omega), fun _ => HPH.out⟩)
            clear hph hcc HC
            go_wp2_with fail
            have nr := (MapKept.heap_alloc wr (.cells #[.pointer (some ⟨w.heap.size, 3, none⟩), .func (Fn.func 33) #[] #[]] 67)).1
            have bB : Below wr.heap.size wr (wr.alloc (.cells #[.pointer (some ⟨w.heap.size, 3, none⟩), .func (Fn.func 33) #[] #[]] 67)) := (Below.refl _ _).alloc (Nat.le_refl _) _
            generalize hwB : wr.alloc (.cells #[.pointer (some ⟨w.heap.size, 3, none⟩), .func (Fn.func 33) #[] #[]] 67) = wB at *
            have zB : wB.heap.size = wr.heap.size + 1 := by rw [← hwB]; simp
            clear hwB
            have q0 : wB.cell? ⟨wr.heap.size, 0, none⟩ = some (.pointer (some ⟨w.heap.size, 3, none⟩)) := by simp [World.cell?, nr]
            have q1 : wB.cell? ⟨wr.heap.size, 1, none⟩ = some (.func (Fn.func 33) #[] #[]) := by simp [World.cell?, nr]
            have q2 : wB.cell? ⟨w.heap.size, 3, none⟩ = some (.int .i64 t) := (bB.cell (p := ⟨w.heap.size, 3, none⟩) (show w.heap.size < wr.heap.size by omega)).trans cx
            clear nr cx
            have hBW : ∀ W, Below wB.heap.size wB W → Below w.heap.size w W := fun W hW => (bA.trans (hb.mono (by omega))).trans ((bB.mono (by omega)).trans (hW.mono (by omega)))
            have HBW := Lib.hid hBW
            clear hBW
            go_quiet (first
              | (go_at_call 33; exact Calls.quiet_of (HCC.out _ (HBW.out _ (below_drewN' (Below.refl _ _) _)))))
            all_goals (try go_wp2)
            all_goals
             have hbz : Below wA.heap.size wA (wB.drewN nq) := hb.trans (below_drewN' (bB.mono hzr) nq)
             exact ⟨⟨3, by omega, rfl, by first | exact P1.out.1 | exact fun _ => trivial, by first | exact P1.out.2.1 | exact fun _ => trivial, by first | exact P1.out.2.2 | exact fun _ => trivial, hbz⟩, by simp [intOf]⟩
        · obtain ⟨hcs, hcall⟩ := hs0
          have HC := Lib.hid (hcall t)
          clear hcall hcs c0 c1 c2 c3 c4 i0 i1 i2 i3 hb1 KS
          simp only [fo] at hf0
          subst hf0
          have hcc := fun (W : World) (hW : Below w.heap.size w W) => HC.out W hW
          have hfe := fnEq
          have hfn := fnNe
          cases hph : φ2 t
          · rw [hph] at hcc
            have HPH := Lib.hid hph
            have HCC := Lib.hid hcc
            clear hph hcc HC
            go_wp2_with fail
            have nr := (MapKept.heap_alloc wr (.cells #[.pointer (some ⟨w.heap.size, 3, none⟩), .func (Fn.func 34) #[] #[]] 67)).1
            have bB : Below wr.heap.size wr (wr.alloc (.cells #[.pointer (some ⟨w.heap.size, 3, none⟩), .func (Fn.func 34) #[] #[]] 67)) := (Below.refl _ _).alloc (Nat.le_refl _) _
            generalize hwB : wr.alloc (.cells #[.pointer (some ⟨w.heap.size, 3, none⟩), .func (Fn.func 34) #[] #[]] 67) = wB at *
            have zB : wB.heap.size = wr.heap.size + 1 := by rw [← hwB]; simp
            clear hwB
            have q0 : wB.cell? ⟨wr.heap.size, 0, none⟩ = some (.pointer (some ⟨w.heap.size, 3, none⟩)) := by simp [World.cell?, nr]
            have q1 : wB.cell? ⟨wr.heap.size, 1, none⟩ = some (.func (Fn.func 34) #[] #[]) := by simp [World.cell?, nr]
            have q2 : wB.cell? ⟨w.heap.size, 3, none⟩ = some (.int .i64 t) := (bB.cell (p := ⟨w.heap.size, 3, none⟩) (show w.heap.size < wr.heap.size by omega)).trans cx
            clear nr cx
            have hBW : ∀ W, Below wB.heap.size wB W → Below w.heap.size w W := fun W hW => (bA.trans (hb.mono (by omega))).trans ((bB.mono (by omega)).trans (hW.mono (by omega)))
            have HBW := Lib.hid hBW
            clear hBW
            go_quiet (first
              | (go_at_call 34; exact Calls.quiet_of (HCC.out _ (HBW.out _ (below_drewN' (Below.refl _ _) _)))))
            all_goals (try go_wp2)
            all_goals
             have bz := HBW.out _ (below_drewN' (Below.refl _ _) nq)
             go_ret
             exact ⟨by rw [HPH.out]; simp, bz⟩
          · rw [hph] at hcc
            have HPH := Lib.hid hph
            have HCC := Lib.hid hcc
            have P1 := Lib.hid (show (0 < 3 → φ0 a = true) ∧ (1 < 3 → φ1 b = true) ∧ (2 < 3 → φ2 t = true) from ⟨fun _ => P0.out.1 (by omega), fun _ => P0.out.2.1 (by omega), fun _ => HPH.out⟩)
            clear hph hcc HC
            go_wp2_with fail
            have nr := (MapKept.heap_alloc wr (.cells #[.pointer (some ⟨w.heap.size, 3, none⟩), .func (Fn.func 34) #[] #[]] 67)).1
            have bB : Below wr.heap.size wr (wr.alloc (.cells #[.pointer (some ⟨w.heap.size, 3, none⟩), .func (Fn.func 34) #[] #[]] 67)) := (Below.refl _ _).alloc (Nat.le_refl _) _
            generalize hwB : wr.alloc (.cells #[.pointer (some ⟨w.heap.size, 3, none⟩), .func (Fn.func 34) #[] #[]] 67) = wB at *
            have zB : wB.heap.size = wr.heap.size + 1 := by rw [← hwB]; simp
            clear hwB
            have q0 : wB.cell? ⟨wr.heap.size, 0, none⟩ = some (.pointer (some ⟨w.heap.size, 3, none⟩)) := by simp [World.cell?, nr]
            have q1 : wB.cell? ⟨wr.heap.size, 1, none⟩ = some (.func (Fn.func 34) #[] #[]) := by simp [World.cell?, nr]
            have q2 : wB.cell? ⟨w.heap.size, 3, none⟩ = some (.int .i64 t) := (bB.cell (p := ⟨w.heap.size, 3, none⟩) (show w.heap.size < wr.heap.size by omega)).trans cx
            clear nr cx
            have hBW : ∀ W, Below wB.heap.size wB W → Below w.heap.size w W := fun W hW => (bA.trans (hb.mono (by omega))).trans ((bB.mono (by omega)).trans (hW.mono (by omega)))
            have HBW := Lib.hid hBW
            clear hBW
            go_quiet (first
              | (go_at_call 34; exact Calls.quiet_of (HCC.out _ (HBW.out _ (below_drewN' (Below.refl _ _) _)))))
            all_goals (try go_wp2)
            all_goals
             have hbz : Below wA.heap.size wA (wB.drewN nq) := hb.trans (below_drewN' (bB.mono hzr) nq)
             exact ⟨⟨3, by omega, rfl, by first | exact P1.out.1 | exact fun _ => trivial, by first | exact P1.out.2.1 | exact fun _ => trivial, by first | exact P1.out.2.2 | exact fun _ => trivial, hbz⟩, by simp [intOf]⟩
        · obtain ⟨hcs, hcall⟩ := hs0
          have HC := Lib.hid (hcall t)
          clear hcall hcs c0 c1 c2 c3 c4 i0 i1 i2 i3 hb1 KS
          simp only [fo] at hf0
          subst hf0
          have hcc := fun (W : World) (hW : Below w.heap.size w W) => HC.out W hW
          have hfe := fnEq
          have hfn := fnNe
          cases hph : φ2 t
          · rw [hph] at hcc
            have HPH := Lib.hid hph
            have HCC := Lib.hid hcc
            clear hph hcc HC
            go_wp2_with fail
            have nr := (MapKept.heap_alloc wr (.cells #[.pointer (some ⟨w.heap.size, 3, none⟩), .func (Fn.func 31) #[] #[pv]] 67)).1
            have bB : Below wr.heap.size wr (wr.alloc (.cells #[.pointer (some ⟨w.heap.size, 3, none⟩), .func (Fn.func 31) #[] #[pv]] 67)) := (Below.refl _ _).alloc (Nat.le_refl _) _
            generalize hwB : wr.alloc (.cells #[.pointer (some ⟨w.heap.size, 3, none⟩), .func (Fn.func 31) #[] #[pv]] 67) = wB at *
            have zB : wB.heap.size = wr.heap.size + 1 := by rw [← hwB]; simp
            clear hwB
            have q0 : wB.cell? ⟨wr.heap.size, 0, none⟩ = some (.pointer (some ⟨w.heap.size, 3, none⟩)) := by simp [World.cell?, nr]
            have q1 : wB.cell? ⟨wr.heap.size, 1, none⟩ = some (.func (Fn.func 31) #[] #[pv]) := by simp [World.cell?, nr]
            have q2 : wB.cell? ⟨w.heap.size, 3, none⟩ = some (.int .i64 t) := (bB.cell (p := ⟨w.heap.size, 3, none⟩) (show w.heap.size < wr.heap.size by omega)).trans cx
            clear nr cx
            have hBW : ∀ W, Below wB.heap.size wB W → Below w.heap.size w W := fun W hW => (bA.trans (hb.mono (by omega))).trans ((bB.mono (by omega)).trans (hW.mono (by omega)))
            have HBW := Lib.hid hBW
            clear hBW
            go_quiet (first
              | (go_at_call 31; exact Calls.quiet_of (HCC.out _ (HBW.out _ (below_drewN' (Below.refl _ _) _)))))
            all_goals (try go_wp2)
            all_goals
             have bz := HBW.out _ (below_drewN' (Below.refl _ _) nq)
             go_ret
             exact ⟨by rw [HPH.out]; simp, bz⟩
          · rw [hph] at hcc
            have HPH := Lib.hid hph
            have HCC := Lib.hid hcc
            have P1 := Lib.hid (show (0 < 3 → φ0 a = true) ∧ (1 < 3 → φ1 b = true) ∧ (2 < 3 → φ2 t = true) from ⟨fun _ => P0.out.1 (by omega), fun _ => P0.out.2.1 (by omega), fun _ => HPH.out⟩)
            clear hph hcc HC
            go_wp2_with fail
            have nr := (MapKept.heap_alloc wr (.cells #[.pointer (some ⟨w.heap.size, 3, none⟩), .func (Fn.func 31) #[] #[pv]] 67)).1
            have bB : Below wr.heap.size wr (wr.alloc (.cells #[.pointer (some ⟨w.heap.size, 3, none⟩), .func (Fn.func 31) #[] #[pv]] 67)) := (Below.refl _ _).alloc (Nat.le_refl _) _
            generalize hwB : wr.alloc (.cells #[.pointer (some ⟨w.heap.size, 3, none⟩), .func (Fn.func 31) #[] #[pv]] 67) = wB at *
            have zB : wB.heap.size = wr.heap.size + 1 := by rw [← hwB]; simp
            clear hwB
            have q0 : wB.cell? ⟨wr.heap.size, 0, none⟩ = some (.pointer (some ⟨w.heap.size, 3, none⟩)) := by simp [World.cell?, nr]
            have q1 : wB.cell? ⟨wr.heap.size, 1, none⟩ = some (.func (Fn.func 31) #[] #[pv]) := by simp [World.cell?, nr]
            have q2 : wB.cell? ⟨w.heap.size, 3, none⟩ = some (.int .i64 t) := (bB.cell (p := ⟨w.heap.size, 3, none⟩) (show w.heap.size < wr.heap.size by omega)).trans cx
            clear nr cx
            have hBW : ∀ W, Below wB.heap.size wB W → Below w.heap.size w W := fun W hW => (bA.trans (hb.mono (by omega))).trans ((bB.mono (by omega)).trans (hW.mono (by omega)))
            have HBW := Lib.hid hBW
            clear hBW
            go_quiet (first
              | (go_at_call 31; exact Calls.quiet_of (HCC.out _ (HBW.out _ (below_drewN' (Below.refl _ _) _)))))
            all_goals (try go_wp2)
            all_goals
             have hbz : Below wA.heap.size wA (wB.drewN nq) := hb.trans (below_drewN' (bB.mono hzr) nq)
             exact ⟨⟨3, by omega, rfl, by first | exact P1.out.1 | exact fun _ => trivial, by first | exact P1.out.2.1 | exact fun _ => trivial, by first | exact P1.out.2.2 | exact fun _ => trivial, hbz⟩, by simp [intOf]⟩
    · have hj3 : j = 3 := by omega
      subst hj3
      have hall : (φ0 a && φ1 b && φ2 t) = true := by rw [P0.out.1 (by omega), P0.out.2.1 (by omega), P0.out.2.2 (by omega)]; rfl
      have HALL := Lib.hid hall
      have bz : Below w.heap.size w wr := bA.trans (hb.mono (by omega))
      clear hall
      go_wp2_with fail
      go_ret
      exact ⟨by rw [HALL.out]; rfl, bz⟩
end Go.Proofs.YtapckfapkhnbgaaDoor

/- What the functions of the forms answer; whether an instruction is right, as the program asks. -/
namespace Go.Proofs.YtapckfapkhnbgaaDoor
open Go.ChangeShapes Go.WideShapes Go.ChangeAt Go.RowKit

def regB (x : Int) : Bool := decide (0 ≤ x ∧ x < 3)
def twoB (x : Int) : Bool := decide (0 ≤ x ∧ x < 2)
def opB (x : Int) : Bool := decide (1 ≤ x ∧ x ≤ 5)
def idxB (n : Nat) (x : Int) : Bool := decide (0 ≤ x ∧ x < n)
def nilB (x : Int) : Bool := decide (x = 0)

theorem isReg (x : Int) (w : World) : Calls Tryd.prog 32 #[.int .i64 x] w fun e w' => e = .returned (.bool (regB x)) ∧ ∃ k, w' = w.drewN k := by
  go_enter Tryd.func32, Tryd.ntmps32
  go_wp2
  all_goals
    go_ret
    refine ⟨retB ?_, 0, rfl⟩
    rw [Bool.eq_iff_iff]
    simp [regB, *] <;> omega
theorem isCel (x : Int) (w : World) : Calls Tryd.prog 35 #[.int .i64 x] w fun e w' => e = .returned (.bool (regB x)) ∧ ∃ k, w' = w.drewN k := by
  go_enter Tryd.func35, Tryd.ntmps35
  go_wp2
  all_goals
    go_ret
    refine ⟨retB ?_, 0, rfl⟩
    rw [Bool.eq_iff_iff]
    simp [regB, *] <;> omega
theorem isRoo (x : Int) (w : World) : Calls Tryd.prog 36 #[.int .i64 x] w fun e w' => e = .returned (.bool (twoB x)) ∧ ∃ k, w' = w.drewN k := by
  go_enter Tryd.func36, Tryd.ntmps36
  go_wp2
  all_goals
    go_ret
    refine ⟨retB ?_, 0, rfl⟩
    rw [Bool.eq_iff_iff]
    simp [twoB, *] <;> omega
theorem isSig (x : Int) (w : World) : Calls Tryd.prog 39 #[.int .i64 x] w fun e w' => e = .returned (.bool (twoB x)) ∧ ∃ k, w' = w.drewN k := by
  go_enter Tryd.func39, Tryd.ntmps39
  go_wp2
  all_goals
    go_ret
    refine ⟨retB ?_, 0, rfl⟩
    rw [Bool.eq_iff_iff]
    simp [twoB, *] <;> omega
theorem isOpe (x : Int) (w : World) : Calls Tryd.prog 34 #[.int .i64 x] w fun e w' => e = .returned (.bool (opB x)) ∧ ∃ k, w' = w.drewN k := by
  go_enter Tryd.func34, Tryd.ntmps34
  go_wp2
  all_goals
    go_ret
    refine ⟨retB ?_, 0, rfl⟩
    rw [Bool.eq_iff_iff]
    simp [opB, *] <;> omega
theorem isIdx (x : Int) (n b : Nat) (w : World) (hb : w.cell? ⟨b, 0, none⟩ = some (.int .i64 n)) : Calls Tryd.prog 31 #[.int .i64 x, .pointer (some ⟨b, 0, none⟩)] w fun e w' => e = .returned (.bool (idxB n x)) ∧ ∃ k, w' = w.drewN k := by
  go_enter Tryd.func31, Tryd.ntmps31
  go_wp2
  all_goals
    go_ret
    refine ⟨retB ?_, 0, rfl⟩
    rw [Bool.eq_iff_iff]
    simp [idxB, *] <;> omega

theorem sNil (w : World) : Says w none nilB := fun _ => rfl
theorem sReg (w : World) : Says w (some (32, #[])) regB := ⟨.inl rfl, fun x W _ => isReg x W⟩
theorem sCel (w : World) : Says w (some (35, #[])) regB := ⟨.inl rfl, fun x W _ => isCel x W⟩
theorem sRoo (w : World) : Says w (some (36, #[])) twoB := ⟨.inl rfl, fun x W _ => isRoo x W⟩
theorem sSig (w : World) : Says w (some (39, #[])) twoB := ⟨.inl rfl, fun x W _ => isSig x W⟩
theorem sOpe (w : World) : Says w (some (34, #[])) opB := ⟨.inl rfl, fun x W _ => isOpe x W⟩
theorem sNum (w : World) : Says w (some (33, #[])) okB := ⟨.inl rfl, fun x W _ => (numOk x W).mono fun _ _ ⟨h1, h2⟩ => ⟨h1, 0, h2.symm⟩⟩
theorem sIdx (w : World) (n b : Nat) (hb : w.cell? ⟨b, 0, none⟩ = some (.int .i64 n)) (hl : b < w.heap.size) : Says w (some (31, #[.pointer (some ⟨b, 0, none⟩)])) (idxB n) :=
  ⟨.inr ⟨_, rfl⟩, fun x W hW => isIdx x n b W ((hW.cell (p := ⟨b, 0, none⟩) hl).trans hb)⟩

theorem fc1 (b : Nat) : (formsA b)[1 * 5]? = some (.string ⟨#[110, 117, 109]⟩) ∧ (formsA b)[1 * 5 + 1]? = some (fo (some (32, #[]))) ∧ (formsA b)[1 * 5 + 2]? = some (fo none) ∧ (formsA b)[1 * 5 + 3]? = some (fo (some (33, #[]))) ∧ (formsA b)[1 * 5 + 4]? = some (fo none) := ⟨by kernel_rfl, by kernel_rfl, by kernel_rfl, by kernel_rfl, by kernel_rfl⟩
theorem fc2 (b : Nat) : (formsA b)[2 * 5]? = some (.string ⟨#[100, 111]⟩) ∧ (formsA b)[2 * 5 + 1]? = some (fo (some (32, #[]))) ∧ (formsA b)[2 * 5 + 2]? = some (fo (some (32, #[]))) ∧ (formsA b)[2 * 5 + 3]? = some (fo (some (34, #[]))) ∧ (formsA b)[2 * 5 + 4]? = some (fo none) := ⟨by kernel_rfl, by kernel_rfl, by kernel_rfl, by kernel_rfl, by kernel_rfl⟩
theorem fc3 (b : Nat) : (formsA b)[3 * 5]? = some (.string ⟨#[108, 111, 97, 100]⟩) ∧ (formsA b)[3 * 5 + 1]? = some (fo (some (32, #[]))) ∧ (formsA b)[3 * 5 + 2]? = some (fo (some (35, #[]))) ∧ (formsA b)[3 * 5 + 3]? = some (fo none) ∧ (formsA b)[3 * 5 + 4]? = some (fo none) := ⟨by kernel_rfl, by kernel_rfl, by kernel_rfl, by kernel_rfl, by kernel_rfl⟩
theorem fc4 (b : Nat) : (formsA b)[4 * 5]? = some (.string ⟨#[115, 116, 111, 114, 101]⟩) ∧ (formsA b)[4 * 5 + 1]? = some (fo (some (35, #[]))) ∧ (formsA b)[4 * 5 + 2]? = some (fo (some (32, #[]))) ∧ (formsA b)[4 * 5 + 3]? = some (fo none) ∧ (formsA b)[4 * 5 + 4]? = some (fo none) := ⟨by kernel_rfl, by kernel_rfl, by kernel_rfl, by kernel_rfl, by kernel_rfl⟩
theorem fc5 (b : Nat) : (formsA b)[5 * 5]? = some (.string ⟨#[115, 97, 121]⟩) ∧ (formsA b)[5 * 5 + 1]? = some (fo (some (32, #[]))) ∧ (formsA b)[5 * 5 + 2]? = some (fo none) ∧ (formsA b)[5 * 5 + 3]? = some (fo none) ∧ (formsA b)[5 * 5 + 4]? = some (fo none) := ⟨by kernel_rfl, by kernel_rfl, by kernel_rfl, by kernel_rfl, by kernel_rfl⟩
theorem fc6 (b : Nat) : (formsA b)[6 * 5]? = some (.string ⟨#[115, 107, 105, 112]⟩) ∧ (formsA b)[6 * 5 + 1]? = some (fo (some (32, #[]))) ∧ (formsA b)[6 * 5 + 2]? = some (fo none) ∧ (formsA b)[6 * 5 + 3]? = some (fo (some (31, #[.pointer (some ⟨b, 0, none⟩)]))) ∧ (formsA b)[6 * 5 + 4]? = some (fo none) := ⟨by kernel_rfl, by kernel_rfl, by kernel_rfl, by kernel_rfl, by kernel_rfl⟩
theorem fc7 (b : Nat) : (formsA b)[7 * 5]? = some (.string ⟨#[106, 117, 109, 112]⟩) ∧ (formsA b)[7 * 5 + 1]? = some (fo none) ∧ (formsA b)[7 * 5 + 2]? = some (fo none) ∧ (formsA b)[7 * 5 + 3]? = some (fo (some (31, #[.pointer (some ⟨b, 0, none⟩)]))) ∧ (formsA b)[7 * 5 + 4]? = some (fo none) := ⟨by kernel_rfl, by kernel_rfl, by kernel_rfl, by kernel_rfl, by kernel_rfl⟩
theorem fc8 (b : Nat) : (formsA b)[8 * 5]? = some (.string ⟨#[101, 110, 116, 101, 114]⟩) ∧ (formsA b)[8 * 5 + 1]? = some (fo (some (36, #[]))) ∧ (formsA b)[8 * 5 + 2]? = some (fo none) ∧ (formsA b)[8 * 5 + 3]? = some (fo none) ∧ (formsA b)[8 * 5 + 4]? = some (fo (some (37, #[]))) := ⟨by kernel_rfl, by kernel_rfl, by kernel_rfl, by kernel_rfl, by kernel_rfl⟩
theorem fc9 (b : Nat) : (formsA b)[9 * 5]? = some (.string ⟨#[108, 101, 97, 118, 101]⟩) ∧ (formsA b)[9 * 5 + 1]? = some (fo (some (36, #[]))) ∧ (formsA b)[9 * 5 + 2]? = some (fo none) ∧ (formsA b)[9 * 5 + 3]? = some (fo none) ∧ (formsA b)[9 * 5 + 4]? = some (fo (some (38, #[]))) := ⟨by kernel_rfl, by kernel_rfl, by kernel_rfl, by kernel_rfl, by kernel_rfl⟩
theorem fc10 (b : Nat) : (formsA b)[10 * 5]? = some (.string ⟨#[119, 97, 105, 116]⟩) ∧ (formsA b)[10 * 5 + 1]? = some (fo (some (39, #[]))) ∧ (formsA b)[10 * 5 + 2]? = some (fo none) ∧ (formsA b)[10 * 5 + 3]? = some (fo none) ∧ (formsA b)[10 * 5 + 4]? = some (fo (some (40, #[]))) := ⟨by kernel_rfl, by kernel_rfl, by kernel_rfl, by kernel_rfl, by kernel_rfl⟩
theorem fc11 (b : Nat) : (formsA b)[11 * 5]? = some (.string ⟨#[115, 105, 103, 110, 97, 108]⟩) ∧ (formsA b)[11 * 5 + 1]? = some (fo (some (39, #[]))) ∧ (formsA b)[11 * 5 + 2]? = some (fo none) ∧ (formsA b)[11 * 5 + 3]? = some (fo none) ∧ (formsA b)[11 * 5 + 4]? = some (fo none) := ⟨by kernel_rfl, by kernel_rfl, by kernel_rfl, by kernel_rfl, by kernel_rfl⟩
theorem fc12 (b : Nat) : (formsA b)[12 * 5]? = some (.string ⟨#[121, 105, 101, 108, 100]⟩) ∧ (formsA b)[12 * 5 + 1]? = some (fo none) ∧ (formsA b)[12 * 5 + 2]? = some (fo none) ∧ (formsA b)[12 * 5 + 3]? = some (fo none) ∧ (formsA b)[12 * 5 + 4]? = some (fo none) := ⟨by kernel_rfl, by kernel_rfl, by kernel_rfl, by kernel_rfl, by kernel_rfl⟩
theorem fc13 (b : Nat) : (formsA b)[13 * 5]? = some (.string ⟨#[101, 110, 100]⟩) ∧ (formsA b)[13 * 5 + 1]? = some (fo none) ∧ (formsA b)[13 * 5 + 2]? = some (fo none) ∧ (formsA b)[13 * 5 + 3]? = some (fo none) ∧ (formsA b)[13 * 5 + 4]? = some (fo (some (41, #[]))) := ⟨by kernel_rfl, by kernel_rfl, by kernel_rfl, by kernel_rfl, by kernel_rfl⟩

theorem fe1 (a b t : Int) (n : Nat) : (regB a && nilB b && okB t) = insB 1 a b t n := by
  rw [Bool.eq_iff_iff]
  simp [insB, leafB, regB, nilB, okB]
  try omega
theorem fe2 (a b t : Int) (n : Nat) : (regB a && regB b && opB t) = insB 2 a b t n := by
  rw [Bool.eq_iff_iff]
  simp [insB, leafB, regB, opB]
  try omega
theorem fe3 (a b t : Int) (n : Nat) : (regB a && regB b && nilB t) = insB 3 a b t n := by
  rw [Bool.eq_iff_iff]
  simp [insB, leafB, regB, nilB]
  try omega
theorem fe4 (a b t : Int) (n : Nat) : (regB a && regB b && nilB t) = insB 4 a b t n := by
  rw [Bool.eq_iff_iff]
  simp [insB, leafB, regB, nilB]
  try omega
theorem fe5 (a b t : Int) (n : Nat) : (regB a && nilB b && nilB t) = insB 5 a b t n := by
  rw [Bool.eq_iff_iff]
  simp [insB, leafB, regB, nilB]
  try omega
theorem fe6 (a b t : Int) (n : Nat) : (regB a && nilB b && (idxB n) t) = insB 6 a b t n := by
  rw [Bool.eq_iff_iff]
  simp [insB, regB, idxB, nilB]
  try omega
theorem fe7 (a b t : Int) (n : Nat) : (nilB a && nilB b && (idxB n) t) = insB 7 a b t n := by
  rw [Bool.eq_iff_iff]
  simp [insB, idxB, nilB]
  try omega
theorem fe8 (a b t : Int) (n : Nat) : (twoB a && nilB b && nilB t) = insB 8 a b t n := by
  rw [Bool.eq_iff_iff]
  simp [insB, twoB, nilB]
  try omega
theorem fe9 (a b t : Int) (n : Nat) : (twoB a && nilB b && nilB t) = insB 9 a b t n := by
  rw [Bool.eq_iff_iff]
  simp [insB, twoB, nilB]
  try omega
theorem fe10 (a b t : Int) (n : Nat) : (twoB a && nilB b && nilB t) = insB 10 a b t n := by
  rw [Bool.eq_iff_iff]
  simp [insB, twoB, nilB]
  try omega
theorem fe11 (a b t : Int) (n : Nat) : (twoB a && nilB b && nilB t) = insB 11 a b t n := by
  rw [Bool.eq_iff_iff]
  simp [insB, twoB, nilB]
  try omega
theorem fe12 (a b t : Int) (n : Nat) : (nilB a && nilB b && nilB t) = insB 12 a b t n := by
  rw [Bool.eq_iff_iff]
  simp [insB, nilB]
  try omega
theorem fe13 (a b t : Int) (n : Nat) : (nilB a && nilB b && nilB t) = insB 13 a b t n := by
  rw [Bool.eq_iff_iff]
  simp [insB, nilB]
  try omega

theorem Forms.cell {w : World} {n g b : Nat} (h : Forms w n g b) (j : Nat) : w.cell? ⟨g, j, none⟩ = (formsA b)[j]? := by
  simp [World.cell?, h.1]
theorem Forms.below {w w' : World} {n g b N : Nat} (h : Forms w n g b) (hb : Below N w w') (hg : g < N) (hbN : b < N) : Forms w' n g b :=
  ⟨(hb.block g hg).trans h.1, (hb.cell (p := ⟨b, 0, none⟩) hbN).trans h.2.1, Nat.lt_of_lt_of_le h.2.2 hb.size⟩

set_option maxRecDepth 100000 in
set_option maxHeartbeats 8000000 in
/-- Whether an instruction is right. -/
theorem fits (o a b t : Int) (n g bb : Nat) (w : World) (hf : Forms w n g bb) :
    Calls Tryd.prog 20 #[.pointer (some ⟨g, 0, none⟩), .agg #[.int .i64 o, .int .i64 a, .int .i64 b, .int .i64 t]] w fun e w' => e = .returned (.bool (insB o a b t n)) ∧ Below w.heap.size w w' := by
  have hI := sIdx w n bb hf.2.1 hf.2.2
  by_cases ho : 1 ≤ o ∧ o ≤ 13
  · have key : ∀ (k : Nat) (s : ByteArray) (o0 o1 o2 o3 : Option (Nat × Array Value)) (φ0 φ1 φ2 : Int → Bool), o = (k : Int) → 1 ≤ k → k ≤ 13 →
        (formsA bb)[k * 5]? = some (.string s) → (formsA bb)[k * 5 + 1]? = some (fo o0) → (formsA bb)[k * 5 + 2]? = some (fo o1) → (formsA bb)[k * 5 + 3]? = some (fo o2) → (formsA bb)[k * 5 + 4]? = some (fo o3) →
        Says w o0 φ0 → Says w o1 φ1 → Says w o2 φ2 →
        (o0 = none ∨ o0 = some (32, #[]) ∨ o0 = some (35, #[]) ∨ o0 = some (36, #[]) ∨ o0 = some (39, #[])) → (o1 = none ∨ o1 = some (32, #[]) ∨ o1 = some (35, #[])) →
        (o2 = none ∨ o2 = some (33, #[]) ∨ o2 = some (34, #[]) ∨ ∃ p, o2 = some (31, #[p])) → (φ0 a && φ1 b && φ2 t) = insB o a b t n →
        Calls Tryd.prog 20 #[.pointer (some ⟨g, 0, none⟩), .agg #[.int .i64 o, .int .i64 a, .int .i64 b, .int .i64 t]] w fun e w' => e = .returned (.bool (insB o a b t n)) ∧ Below w.heap.size w w' := by
      intro k s o0 o1 o2 o3 φ0 φ1 φ2 hk k1 k2 q0 q1 q2 q3 q4 s0 s1 s2 h0 h1 h2 he
      subst hk
      have := fits_of k a b t g s o0 o1 o2 o3 φ0 φ1 φ2 w k1 k2 ((hf.cell _).trans q0) ((hf.cell _).trans q1) ((hf.cell _).trans q2) ((hf.cell _).trans q3) ((hf.cell _).trans q4) s0 s1 s2 h0 h1 h2
      rw [he] at this
      exact this
    have hk : o = 1 ∨ o = 2 ∨ o = 3 ∨ o = 4 ∨ o = 5 ∨ o = 6 ∨ o = 7 ∨ o = 8 ∨ o = 9 ∨ o = 10 ∨ o = 11 ∨ o = 12 ∨ o = 13 := by omega
    rcases hk with rfl | rfl | rfl | rfl | rfl | rfl | rfl | rfl | rfl | rfl | rfl | rfl | rfl
    · obtain ⟨q0, q1, q2, q3, q4⟩ := fc1 bb
      exact key 1 ⟨#[110, 117, 109]⟩ (some (32, #[])) none (some (33, #[])) none regB nilB okB rfl (by omega) (by omega) q0 q1 q2 q3 q4 (sReg w) (sNil w) (sNum w) (.inr (.inl rfl)) (.inl rfl) (.inr (.inl rfl)) (fe1 a b t n)
    · obtain ⟨q0, q1, q2, q3, q4⟩ := fc2 bb
      exact key 2 ⟨#[100, 111]⟩ (some (32, #[])) (some (32, #[])) (some (34, #[])) none regB regB opB rfl (by omega) (by omega) q0 q1 q2 q3 q4 (sReg w) (sReg w) (sOpe w) (.inr (.inl rfl)) (.inr (.inl rfl)) (.inr (.inr (.inl rfl))) (fe2 a b t n)
    · obtain ⟨q0, q1, q2, q3, q4⟩ := fc3 bb
      exact key 3 ⟨#[108, 111, 97, 100]⟩ (some (32, #[])) (some (35, #[])) none none regB regB nilB rfl (by omega) (by omega) q0 q1 q2 q3 q4 (sReg w) (sCel w) (sNil w) (.inr (.inl rfl)) (.inr (.inr rfl)) (.inl rfl) (fe3 a b t n)
    · obtain ⟨q0, q1, q2, q3, q4⟩ := fc4 bb
      exact key 4 ⟨#[115, 116, 111, 114, 101]⟩ (some (35, #[])) (some (32, #[])) none none regB regB nilB rfl (by omega) (by omega) q0 q1 q2 q3 q4 (sCel w) (sReg w) (sNil w) (.inr (.inr (.inl rfl))) (.inr (.inl rfl)) (.inl rfl) (fe4 a b t n)
    · obtain ⟨q0, q1, q2, q3, q4⟩ := fc5 bb
      exact key 5 ⟨#[115, 97, 121]⟩ (some (32, #[])) none none none regB nilB nilB rfl (by omega) (by omega) q0 q1 q2 q3 q4 (sReg w) (sNil w) (sNil w) (.inr (.inl rfl)) (.inl rfl) (.inl rfl) (fe5 a b t n)
    · obtain ⟨q0, q1, q2, q3, q4⟩ := fc6 bb
      exact key 6 ⟨#[115, 107, 105, 112]⟩ (some (32, #[])) none (some (31, #[.pointer (some ⟨bb, 0, none⟩)])) none regB nilB (idxB n) rfl (by omega) (by omega) q0 q1 q2 q3 q4 (sReg w) (sNil w) hI (.inr (.inl rfl)) (.inl rfl) (.inr (.inr (.inr ⟨_, rfl⟩))) (fe6 a b t n)
    · obtain ⟨q0, q1, q2, q3, q4⟩ := fc7 bb
      exact key 7 ⟨#[106, 117, 109, 112]⟩ none none (some (31, #[.pointer (some ⟨bb, 0, none⟩)])) none nilB nilB (idxB n) rfl (by omega) (by omega) q0 q1 q2 q3 q4 (sNil w) (sNil w) hI (.inl rfl) (.inl rfl) (.inr (.inr (.inr ⟨_, rfl⟩))) (fe7 a b t n)
    · obtain ⟨q0, q1, q2, q3, q4⟩ := fc8 bb
      exact key 8 ⟨#[101, 110, 116, 101, 114]⟩ (some (36, #[])) none none (some (37, #[])) twoB nilB nilB rfl (by omega) (by omega) q0 q1 q2 q3 q4 (sRoo w) (sNil w) (sNil w) (.inr (.inr (.inr (.inl rfl)))) (.inl rfl) (.inl rfl) (fe8 a b t n)
    · obtain ⟨q0, q1, q2, q3, q4⟩ := fc9 bb
      exact key 9 ⟨#[108, 101, 97, 118, 101]⟩ (some (36, #[])) none none (some (38, #[])) twoB nilB nilB rfl (by omega) (by omega) q0 q1 q2 q3 q4 (sRoo w) (sNil w) (sNil w) (.inr (.inr (.inr (.inl rfl)))) (.inl rfl) (.inl rfl) (fe9 a b t n)
    · obtain ⟨q0, q1, q2, q3, q4⟩ := fc10 bb
      exact key 10 ⟨#[119, 97, 105, 116]⟩ (some (39, #[])) none none (some (40, #[])) twoB nilB nilB rfl (by omega) (by omega) q0 q1 q2 q3 q4 (sSig w) (sNil w) (sNil w) (.inr (.inr (.inr (.inr rfl)))) (.inl rfl) (.inl rfl) (fe10 a b t n)
    · obtain ⟨q0, q1, q2, q3, q4⟩ := fc11 bb
      exact key 11 ⟨#[115, 105, 103, 110, 97, 108]⟩ (some (39, #[])) none none none twoB nilB nilB rfl (by omega) (by omega) q0 q1 q2 q3 q4 (sSig w) (sNil w) (sNil w) (.inr (.inr (.inr (.inr rfl)))) (.inl rfl) (.inl rfl) (fe11 a b t n)
    · obtain ⟨q0, q1, q2, q3, q4⟩ := fc12 bb
      exact key 12 ⟨#[121, 105, 101, 108, 100]⟩ none none none none nilB nilB nilB rfl (by omega) (by omega) q0 q1 q2 q3 q4 (sNil w) (sNil w) (sNil w) (.inl rfl) (.inl rfl) (.inl rfl) (fe12 a b t n)
    · obtain ⟨q0, q1, q2, q3, q4⟩ := fc13 bb
      exact key 13 ⟨#[101, 110, 100]⟩ none none none (some (41, #[])) nilB nilB nilB rfl (by omega) (by omega) q0 q1 q2 q3 q4 (sNil w) (sNil w) (sNil w) (.inl rfl) (.inl rfl) (.inl rfl) (fe13 a b t n)
  · have hn : insB o a b t n = false := by
      cases hb : insB o a b t n
      · rfl
      · exact absurd (insB_op hb) ho
    rw [hn]
    have ho' : o < 1 ∨ 13 < o := by omega
    clear hn ho hI hf
    rcases ho' with h | h
    · go_enter Tryd.func20, Tryd.ntmps20
      go_wp2
      go_ret
      exact ⟨rfl, (Below.refl _ _).alloc (Nat.le_refl _) _⟩
    · have h1 : ¬ o < 1 := by omega
      go_enter Tryd.func20, Tryd.ntmps20
      go_wp2
      go_ret
      exact ⟨rfl, (Below.refl _ _).alloc (Nat.le_refl _) _⟩
end Go.Proofs.YtapckfapkhnbgaaDoor

/- The room behind an instruction, and where one goes from it, as the program asks. -/
namespace Go.Proofs.YtapckfapkhnbgaaDoor
open Go.ChangeShapes Go.WideShapes Go.ChangeAt Go.RowKit

theorem nilPass (W : World) : (binOp .eql 59 .nilFunc .nilFunc).run Tryd.prog W = .ok (.bool true) W := by kernel_rfl
theorem fnPass (F : Nat) (cs : Array Value) (W : World) : (binOp .eql 59 (.func (Fn.func F) #[] cs) .nilFunc).run Tryd.prog W = .ok (.bool false) W := by kernel_rfl

/-- What passed answers. -/
def PassPost (o a r : Int) (w : World) (e : Ending) (w' : World) : Prop := (∃ z, e = .returned (.tuple #[.int .i64 z, .bool (heldO o a r).isSome]) ∧ ∀ r', heldO o a r = some r' → z = r') ∧ Below w.heap.size w w'

set_option maxRecDepth 100000 in
set_option maxHeartbeats 2000000 in
theorem passed_nil (s : ByteArray) (v0 v1 v2 : Value) (o a b t r : Int) (w : World) (ho : o ≠ 8 ∧ o ≠ 9 ∧ o ≠ 10 ∧ o ≠ 13) :
    Calls Tryd.prog 43 #[.agg #[.string s, v0, v1, v2, .nilFunc], .agg #[.int .i64 o, .int .i64 a, .int .i64 b, .int .i64 t], .int .i64 r] w (PassPost o a r w) := by
  have hh : heldO o a r = some r := by unfold heldO; rw [if_neg ho.1, if_neg ho.2.1, if_neg ho.2.2.1, if_neg ho.2.2.2]
  have HH := Lib.hid hh
  have hn := nilPass
  clear hh ho
  go_enter Tryd.func43, Tryd.ntmps43
  go_wp2_with fail
  go_ret2
  exact ⟨⟨r, by rw [HH.out]; rfl, fun r' h => by rw [HH.out] at h; injection h⟩, ((Below.refl _ _).alloc (Nat.le_refl _) _).alloc (by simp) _⟩

set_option maxRecDepth 100000 in
set_option maxHeartbeats 2000000 in
theorem passEnter (a b t r : Int) (w : World) (hr : r = -1 ∨ r = 0 ∨ r = 1) :
    Calls Tryd.prog 37 #[.agg #[.int .i64 8, .int .i64 a, .int .i64 b, .int .i64 t], .int .i64 r] w (PassPost 8 a r w) := by
  have fin : ∀ (W : World) (z : Int) (v : Bool), Below w.heap.size w W → v = (heldO 8 a r).isSome → (∀ r', heldO 8 a r = some r' → z = r') → PassPost 8 a r w (.returned (.tuple #[.int .i64 z, .bool v])) W := fun W z v hb hv hz => ⟨⟨z, by rw [hv], hz⟩, hb⟩
  have FIN := Lib.hid fin
  clear fin
  rcases hr with rfl | rfl | rfl
  all_goals
    go_enter Tryd.func37, Tryd.ntmps37
    go_wp2
    all_goals (try (go_region; all_goals (try go_wp2)))
    all_goals
      go_ret2
      refine FIN.out _ _ _ ?_ ?_ ?_
      · repeat' (first | exact Below.refl _ _ | refine Below.drew ?_ | (refine Below.alloc ?_ (by first | exact Nat.le_refl _ | (simp; done) | (simp; omega)) _))
      · unfold heldO
        rw [Bool.eq_iff_iff]
        simp [*] <;> omega
      · intro r' h
        unfold heldO at h
        simp [*] at h <;> omega

set_option maxRecDepth 100000 in
set_option maxHeartbeats 2000000 in
theorem passed_passEnter (s : ByteArray) (v0 v1 v2 : Value) (a b t r : Int) (w : World) (hr : r = -1 ∨ r = 0 ∨ r = 1) :
    Calls Tryd.prog 43 #[.agg #[.string s, v0, v1, v2, .func (Fn.func 37) #[] #[]], .agg #[.int .i64 8, .int .i64 a, .int .i64 b, .int .i64 t], .int .i64 r] w (PassPost 8 a r w) := by
  have HP := Lib.hid (fun W => passEnter a b t r W hr)
  have hn := fnPass
  clear hr
  go_enter Tryd.func43, Tryd.ntmps43
  go_wp2_with fail
  refine (HP.out _).mono ?_
  rintro e w1 ⟨⟨z, rfl, hz⟩, hb1⟩
  have HZ := Lib.hid hz
  have b1 : Below w.heap.size w w1 := (((Below.refl _ _).alloc (Nat.le_refl _) _).alloc (by simp) _).trans (hb1.mono (by simp; omega))
  clear hz
  go_wp2_with fail
  go_ret2
  exact ⟨⟨z, rfl, HZ.out⟩, b1⟩

set_option maxRecDepth 100000 in
set_option maxHeartbeats 2000000 in
theorem passLeave (a b t r : Int) (w : World) (hr : r = -1 ∨ r = 0 ∨ r = 1) :
    Calls Tryd.prog 38 #[.agg #[.int .i64 9, .int .i64 a, .int .i64 b, .int .i64 t], .int .i64 r] w (PassPost 9 a r w) := by
  have fin : ∀ (W : World) (z : Int) (v : Bool), Below w.heap.size w W → v = (heldO 9 a r).isSome → (∀ r', heldO 9 a r = some r' → z = r') → PassPost 9 a r w (.returned (.tuple #[.int .i64 z, .bool v])) W := fun W z v hb hv hz => ⟨⟨z, by rw [hv], hz⟩, hb⟩
  have FIN := Lib.hid fin
  clear fin
  rcases hr with rfl | rfl | rfl
  all_goals
    go_enter Tryd.func38, Tryd.ntmps38
    go_wp2
    all_goals (try (go_region; all_goals (try go_wp2)))
    all_goals
      go_ret2
      refine FIN.out _ _ _ ?_ ?_ ?_
      · repeat' (first | exact Below.refl _ _ | refine Below.drew ?_ | (refine Below.alloc ?_ (by first | exact Nat.le_refl _ | (simp; done) | (simp; omega)) _))
      · unfold heldO
        rw [Bool.eq_iff_iff]
        simp [*] <;> omega
      · intro r' h
        unfold heldO at h
        simp [*] at h <;> omega

set_option maxRecDepth 100000 in
set_option maxHeartbeats 2000000 in
theorem passed_passLeave (s : ByteArray) (v0 v1 v2 : Value) (a b t r : Int) (w : World) (hr : r = -1 ∨ r = 0 ∨ r = 1) :
    Calls Tryd.prog 43 #[.agg #[.string s, v0, v1, v2, .func (Fn.func 38) #[] #[]], .agg #[.int .i64 9, .int .i64 a, .int .i64 b, .int .i64 t], .int .i64 r] w (PassPost 9 a r w) := by
  have HP := Lib.hid (fun W => passLeave a b t r W hr)
  have hn := fnPass
  clear hr
  go_enter Tryd.func43, Tryd.ntmps43
  go_wp2_with fail
  refine (HP.out _).mono ?_
  rintro e w1 ⟨⟨z, rfl, hz⟩, hb1⟩
  have HZ := Lib.hid hz
  have b1 : Below w.heap.size w w1 := (((Below.refl _ _).alloc (Nat.le_refl _) _).alloc (by simp) _).trans (hb1.mono (by simp; omega))
  clear hz
  go_wp2_with fail
  go_ret2
  exact ⟨⟨z, rfl, HZ.out⟩, b1⟩

set_option maxRecDepth 100000 in
set_option maxHeartbeats 2000000 in
theorem passWait (a b t r : Int) (w : World) (hr : r = -1 ∨ r = 0 ∨ r = 1) :
    Calls Tryd.prog 40 #[.agg #[.int .i64 10, .int .i64 a, .int .i64 b, .int .i64 t], .int .i64 r] w (PassPost 10 a r w) := by
  have fin : ∀ (W : World) (z : Int) (v : Bool), Below w.heap.size w W → v = (heldO 10 a r).isSome → (∀ r', heldO 10 a r = some r' → z = r') → PassPost 10 a r w (.returned (.tuple #[.int .i64 z, .bool v])) W := fun W z v hb hv hz => ⟨⟨z, by rw [hv], hz⟩, hb⟩
  have FIN := Lib.hid fin
  clear fin
  rcases hr with rfl | rfl | rfl
  all_goals
    go_enter Tryd.func40, Tryd.ntmps40
    go_wp2
    all_goals (try (go_region; all_goals (try go_wp2)))
    all_goals
      go_ret2
      refine FIN.out _ _ _ ?_ ?_ ?_
      · repeat' (first | exact Below.refl _ _ | refine Below.drew ?_ | (refine Below.alloc ?_ (by first | exact Nat.le_refl _ | (simp; done) | (simp; omega)) _))
      · unfold heldO
        rw [Bool.eq_iff_iff]
        simp [*] <;> omega
      · intro r' h
        unfold heldO at h
        simp [*] at h <;> omega

set_option maxRecDepth 100000 in
set_option maxHeartbeats 2000000 in
theorem passed_passWait (s : ByteArray) (v0 v1 v2 : Value) (a b t r : Int) (w : World) (hr : r = -1 ∨ r = 0 ∨ r = 1) :
    Calls Tryd.prog 43 #[.agg #[.string s, v0, v1, v2, .func (Fn.func 40) #[] #[]], .agg #[.int .i64 10, .int .i64 a, .int .i64 b, .int .i64 t], .int .i64 r] w (PassPost 10 a r w) := by
  have HP := Lib.hid (fun W => passWait a b t r W hr)
  have hn := fnPass
  clear hr
  go_enter Tryd.func43, Tryd.ntmps43
  go_wp2_with fail
  refine (HP.out _).mono ?_
  rintro e w1 ⟨⟨z, rfl, hz⟩, hb1⟩
  have HZ := Lib.hid hz
  have b1 : Below w.heap.size w w1 := (((Below.refl _ _).alloc (Nat.le_refl _) _).alloc (by simp) _).trans (hb1.mono (by simp; omega))
  clear hz
  go_wp2_with fail
  go_ret2
  exact ⟨⟨z, rfl, HZ.out⟩, b1⟩

set_option maxRecDepth 100000 in
set_option maxHeartbeats 2000000 in
theorem passEnd (a b t r : Int) (w : World) (hr : r = -1 ∨ r = 0 ∨ r = 1) :
    Calls Tryd.prog 41 #[.agg #[.int .i64 13, .int .i64 a, .int .i64 b, .int .i64 t], .int .i64 r] w (PassPost 13 a r w) := by
  have fin : ∀ (W : World) (z : Int) (v : Bool), Below w.heap.size w W → v = (heldO 13 a r).isSome → (∀ r', heldO 13 a r = some r' → z = r') → PassPost 13 a r w (.returned (.tuple #[.int .i64 z, .bool v])) W := fun W z v hb hv hz => ⟨⟨z, by rw [hv], hz⟩, hb⟩
  have FIN := Lib.hid fin
  clear fin
  rcases hr with rfl | rfl | rfl
  all_goals
    go_enter Tryd.func41, Tryd.ntmps41
    go_wp2
    all_goals (try (go_region; all_goals (try go_wp2)))
    all_goals
      go_ret2
      refine FIN.out _ _ _ ?_ ?_ ?_
      · repeat' (first | exact Below.refl _ _ | refine Below.drew ?_ | (refine Below.alloc ?_ (by first | exact Nat.le_refl _ | (simp; done) | (simp; omega)) _))
      · unfold heldO
        rw [Bool.eq_iff_iff]
        simp [*] <;> omega
      · intro r' h
        unfold heldO at h
        simp [*] at h <;> omega

set_option maxRecDepth 100000 in
set_option maxHeartbeats 2000000 in
theorem passed_passEnd (s : ByteArray) (v0 v1 v2 : Value) (a b t r : Int) (w : World) (hr : r = -1 ∨ r = 0 ∨ r = 1) :
    Calls Tryd.prog 43 #[.agg #[.string s, v0, v1, v2, .func (Fn.func 41) #[] #[]], .agg #[.int .i64 13, .int .i64 a, .int .i64 b, .int .i64 t], .int .i64 r] w (PassPost 13 a r w) := by
  have HP := Lib.hid (fun W => passEnd a b t r W hr)
  have hn := fnPass
  clear hr
  go_enter Tryd.func43, Tryd.ntmps43
  go_wp2_with fail
  refine (HP.out _).mono ?_
  rintro e w1 ⟨⟨z, rfl, hz⟩, hb1⟩
  have HZ := Lib.hid hz
  have b1 : Below w.heap.size w w1 := (((Below.refl _ _).alloc (Nat.le_refl _) _).alloc (by simp) _).trans (hb1.mono (by simp; omega))
  clear hz
  go_wp2_with fail
  go_ret2
  exact ⟨⟨z, rfl, HZ.out⟩, b1⟩

set_option maxRecDepth 100000 in
set_option maxHeartbeats 4000000 in
theorem followers {xs : List Int} {n : Nat} (hr : Right xs n) (i : Nat) (hi : i < n) (w : World) :
    Calls Tryd.prog 44 #[.agg #[.int .i64 (xs.getD (i * 4) 0), .int .i64 (xs.getD (i * 4 + 1) 0), .int .i64 (xs.getD (i * 4 + 2) 0), .int .i64 (xs.getD (i * 4 + 3) 0)], .int .i64 i] w fun e w' => ∃ v, e = .returned v ∧ w'.ownsRow w.heap.size 3 1 v (nextX xs i).length (ints ((nextX xs i).map fun (j : Nat) => (j : Int))) ∧ Below w.heap.size w w' := by
  have hn := hr.hi
  have ho := hr.op hi
  have hto := fun h => insB_to (hr.ins i hi) h
  have e0 : opC xs i = xs.getD (i * 4) 0 := rfl
  have e3 : toC xs i = xs.getD (i * 4 + 3) 0 := rfl
  have hnx : nextX xs i = nextO (xs.getD (i * 4) 0) (xs.getD (i * 4 + 3) 0) i := rfl
  rw [hnx]
  rw [e0] at ho hto
  rw [e3] at hto
  generalize xs.getD (i * 4) 0 = o at ho hto ⊢
  generalize xs.getD (i * 4 + 1) 0 = x1
  generalize xs.getD (i * 4 + 2) 0 = x2
  generalize xs.getD (i * 4 + 3) 0 = t at hto ⊢
  clear hnx e0 e3 hr
  have fin : ∀ (cs : List Int) (W : World), Below w.heap.size w W → cs = ((nextO o t i).map fun (j : Nat) => (j : Int)) → cs.length ≤ 2 →
      ∃ v, Ending.returned (Value.slice (some ⟨W.heap.size, 0, none⟩) cs.length cs.length) = .returned v ∧ (W.alloc (.cells (ints cs).toArray 3)).ownsRow w.heap.size 3 1 v (nextO o t i).length (ints ((nextO o t i).map fun (j : Nat) => (j : Int))) ∧ Below w.heap.size w (W.alloc (.cells (ints cs).toArray 3)) := by
    intro cs W hb hc hl
    refine ⟨_, rfl, ?_, hb.alloc hb.size _⟩
    have := World.ownsRow_lit (base := w.heap.size) (e := 3) (size := 1) W (ints cs).toArray cs.length hb.size (by unfold maxLen; omega) (by simp [ints])
    rw [hc] at this ⊢
    simpa using this
  have FIN := Lib.hid fin
  clear fin
  have hk : o = 6 ∨ o = 7 ∨ o = 13 ∨ (o ≠ 6 ∧ o ≠ 7 ∧ o ≠ 13) := by omega
  have ba : Below w.heap.size w (w.alloc (.cells #[.int .i64 o, .int .i64 x1, .int .i64 x2, .int .i64 t] 32)) := (Below.refl _ _).alloc (Nat.le_refl _) _
  rcases hk with rfl | rfl | rfl | ⟨h6, h7, h13⟩
  · obtain ⟨t0, t1⟩ := hto (.inl rfl)
    clear hto
    go_enter Tryd.func44, Tryd.ntmps44
    go_wp2_with fail
    go_ret
    have := FIN.out [(i : Int) + 1, t] _ ba (by simp [nextO]; omega) (by simp)
    rw [World.size_alloc] at this
    exact this
  · obtain ⟨t0, t1⟩ := hto (.inr rfl)
    clear hto
    go_enter Tryd.func44, Tryd.ntmps44
    go_wp2_with fail
    go_ret
    have := FIN.out [t] _ ba (by simp [nextO]; omega) (by simp)
    rw [World.size_alloc] at this
    exact this
  · clear hto
    go_enter Tryd.func44, Tryd.ntmps44
    go_wp2_with fail
    go_ret
    exact ⟨_, rfl, World.ownsRow_nil _ _ _ _, ba⟩
  · clear hto
    go_enter Tryd.func44, Tryd.ntmps44
    go_wp2_with fail
    go_ret
    have := FIN.out [(i : Int) + 1] _ ba (by simp [nextO, h6, h7, h13]) (by simp)
    rw [World.size_alloc] at this
    exact this
end Go.Proofs.YtapckfapkhnbgaaDoor

/- The program's search of the rooms of code. -/
namespace Go.Proofs.YtapckfapkhnbgaaDoor
open Go.ChangeShapes Go.WideShapes Go.ChangeAt Go.RowKit

theorem infoBool : (Tryd.prog.info? 4).map (fun i => (i.zero, i.size, i.bytes)) = some (some (.bool false), 1, 1) := by kernel_rfl
theorem infoInt : (Tryd.prog.info? 3).map (fun i => (i.zero, i.size, i.bytes)) = some (some (.int .i64 0), 1, 8) := by kernel_rfl
theorem infoVis : (Tryd.prog.info? 74).map (fun i => (i.zero, i.size, i.bytes)) = some (some (.agg #[.int .i64 0, .int .i64 0]), 2, 16) := by kernel_rfl
theorem makeBools (n : Nat) (hn : n ≤ 60) (w : World) : (Instr.makeSlice 71 (.int .i64 (n : Int)) (.int .i64 (n : Int))).run Tryd.prog w =
    .ok (.slice (some ⟨w.heap.size, 0, none⟩) n n) (w.alloc (.cells (madeCells #[.bool false] n) 4)) := by
  obtain ⟨i, hi0, e0, e1, e2⟩ := info_parts infoBool
  have h := run_make (P := Tryd.prog) w 71 4 i _ Tryd.underlying71 hi0 e0 .i64 .i64 (n : Int) (n : Int) (by omega) (by omega) (by rw [e2]; omega) (by omega)
  rw [e1] at h
  simp only [Int.toNat_natCast, Nat.mul_one] at h
  exact h
theorem makeInts (n : Nat) (hn : n ≤ 60) (w : World) : (Instr.makeSlice 72 (.int .i64 (n : Int)) (.int .i64 (n : Int))).run Tryd.prog w =
    .ok (.slice (some ⟨w.heap.size, 0, none⟩) n n) (w.alloc (.cells (madeCells #[.int .i64 0] n) 3)) := by
  obtain ⟨i, hi0, e0, e1, e2⟩ := info_parts infoInt
  have h := run_make (P := Tryd.prog) w 72 3 i _ Tryd.underlying72 hi0 e0 .i64 .i64 (n : Int) (n : Int) (by omega) (by omega) (by rw [e2]; omega) (by omega)
  rw [e1] at h
  simp only [Int.toNat_natCast, Nat.mul_one] at h
  exact h

/-- Yes and no as cells. -/
def bls (M : List Bool) : List Value := M.map Value.bool
theorem bls_get {M : List Bool} {j : Nat} (h : j < M.length) : (bls M)[j]? = some (.bool (M.getD j false)) := by simp [bls, List.getD, h]
theorem bls_set (M : List Bool) (j : Nat) (x : Bool) : (bls M).set j (.bool x) = bls (M.set j x) := by simp [bls, List.map_set]
theorem madeB (n : Nat) : (madeCells #[.bool false] n).toList = bls (List.replicate n false) := by
  apply List.ext_getElem?
  intro j
  by_cases hj : j < n <;> simp [madeCells, hj, bls, Nat.mod_one]
theorem madeI (n : Nat) : (madeCells #[.int .i64 0] n).toList = ints (List.replicate n 0) := by
  apply List.ext_getElem?
  intro j
  by_cases hj : j < n <;> simp [madeCells, hj, ints, Nat.mod_one]

/-- Visits as numbers. -/
def flatV : List (Nat × Int) → List Int
  | [] => []
  | (v, r) :: t => (v : Int) :: r :: flatV t
theorem flatV_app (V U : List (Nat × Int)) : flatV (V ++ U) = flatV V ++ flatV U := by
  induction V with
  | nil => rfl
  | cons p V ih => obtain ⟨v, r⟩ := p; simp [flatV, ih]
theorem flatV_len (V : List (Nat × Int)) : (flatV V).length = V.length * 2 := by
  induction V with
  | nil => rfl
  | cons p V ih => obtain ⟨v, r⟩ := p; simp [flatV, ih]; omega
theorem own_cut {w : World} {base : Nat} {e : TypeId} {g cap n : Nat} {xs ys : List Value} (h : w.ownsRow base e 2 (.slice (some ⟨g, 0, none⟩) (n + 1) cap) (n + 1) (xs ++ ys)) (hx : xs.length = n * 2) : w.ownsRow base e 2 (.slice (some ⟨g, 0, none⟩) n cap) n xs := by
  obtain ⟨hl, ⟨h0, _⟩ | ⟨g', cap', cur, hv, hb, hr, h1, h2, h3, h4⟩⟩ := h
  · cases h0
  · simp only [Value.slice.injEq, Option.some.injEq, Addr.mk.injEq, and_true, true_and] at hv
    obtain ⟨rfl, rfl⟩ := hv
    refine ⟨hx, .inr ⟨g, cap, cur, rfl, hb, hr, by omega, h2, h3, ?_⟩⟩
    have : cur.toList.take (n * 2) = (cur.toList.take ((n + 1) * 2)).take (n * 2) := by rw [List.take_take, Nat.min_eq_left (by omega)]
    rw [this, h4, ← hx, List.take_left]

theorem own_slc' {w : World} {N z m : Nat} {e : TypeId} {v : Value} {fs : List Value} (ho : w.ownsRow N e z v m fs) : ∃ A c, v = .slice A m c := by
  obtain ⟨_, ⟨rfl, rfl⟩ | ⟨g, cap, cur, rfl, _⟩⟩ := ho
  · exact ⟨_, _, rfl⟩
  · exact ⟨_, _, rfl⟩
theorem own_some' {w : World} {base : Nat} {e : TypeId} {z : Nat} {v : Value} {n : Nat} {xs : List Value} (ho : w.ownsRow base e z v n xs) (h : 0 < n) : ∃ g cap, v = .slice (some ⟨g, 0, none⟩) n cap ∧ n ≤ cap ∧ cap ≤ maxLen := by
  obtain ⟨_, ⟨_, h0⟩ | ⟨g, cap, cur, h, _, _, h1, h2, _⟩⟩ := ho
  · omega
  · exact ⟨g, cap, h, h1, h2⟩
/-- What an op's form passes, wherever the table lies. -/
theorem passOf {w : World} {n g b : Nat} (hf : Forms w n g b) (k : Nat) (h1 : 1 ≤ k) (h2 : k ≤ 13) : ∃ (s : ByteArray) (u0 u1 u2 u3 : Value),
    w.cell? ⟨g, k * 5, none⟩ = some (.string s) ∧ w.cell? ⟨g, k * 5 + 1, none⟩ = some u0 ∧ w.cell? ⟨g, k * 5 + 2, none⟩ = some u1 ∧ w.cell? ⟨g, k * 5 + 3, none⟩ = some u2 ∧ w.cell? ⟨g, k * 5 + 4, none⟩ = some u3 ∧
    ∀ (a b t r : Int) (W : World), (r = -1 ∨ r = 0 ∨ r = 1) → Calls Tryd.prog 43 #[.agg #[.string s, u0, u1, u2, u3], .agg #[.int .i64 k, .int .i64 a, .int .i64 b, .int .i64 t], .int .i64 r] W (PassPost k a r W) := by
  have hk : k = 1 ∨ k = 2 ∨ k = 3 ∨ k = 4 ∨ k = 5 ∨ k = 6 ∨ k = 7 ∨ k = 8 ∨ k = 9 ∨ k = 10 ∨ k = 11 ∨ k = 12 ∨ k = 13 := by omega
  rcases hk with rfl | rfl | rfl | rfl | rfl | rfl | rfl | rfl | rfl | rfl | rfl | rfl | rfl
  · obtain ⟨q0, q1, q2, q3, q4⟩ := fc1 b
    exact ⟨_, _, _, _, _, (hf.cell _).trans q0, (hf.cell _).trans q1, (hf.cell _).trans q2, (hf.cell _).trans q3, (hf.cell _).trans q4, fun a b t r W hr => passed_nil _ _ _ _ 1 a b t r W (by omega)⟩
  · obtain ⟨q0, q1, q2, q3, q4⟩ := fc2 b
    exact ⟨_, _, _, _, _, (hf.cell _).trans q0, (hf.cell _).trans q1, (hf.cell _).trans q2, (hf.cell _).trans q3, (hf.cell _).trans q4, fun a b t r W hr => passed_nil _ _ _ _ 2 a b t r W (by omega)⟩
  · obtain ⟨q0, q1, q2, q3, q4⟩ := fc3 b
    exact ⟨_, _, _, _, _, (hf.cell _).trans q0, (hf.cell _).trans q1, (hf.cell _).trans q2, (hf.cell _).trans q3, (hf.cell _).trans q4, fun a b t r W hr => passed_nil _ _ _ _ 3 a b t r W (by omega)⟩
  · obtain ⟨q0, q1, q2, q3, q4⟩ := fc4 b
    exact ⟨_, _, _, _, _, (hf.cell _).trans q0, (hf.cell _).trans q1, (hf.cell _).trans q2, (hf.cell _).trans q3, (hf.cell _).trans q4, fun a b t r W hr => passed_nil _ _ _ _ 4 a b t r W (by omega)⟩
  · obtain ⟨q0, q1, q2, q3, q4⟩ := fc5 b
    exact ⟨_, _, _, _, _, (hf.cell _).trans q0, (hf.cell _).trans q1, (hf.cell _).trans q2, (hf.cell _).trans q3, (hf.cell _).trans q4, fun a b t r W hr => passed_nil _ _ _ _ 5 a b t r W (by omega)⟩
  · obtain ⟨q0, q1, q2, q3, q4⟩ := fc6 b
    exact ⟨_, _, _, _, _, (hf.cell _).trans q0, (hf.cell _).trans q1, (hf.cell _).trans q2, (hf.cell _).trans q3, (hf.cell _).trans q4, fun a b t r W hr => passed_nil _ _ _ _ 6 a b t r W (by omega)⟩
  · obtain ⟨q0, q1, q2, q3, q4⟩ := fc7 b
    exact ⟨_, _, _, _, _, (hf.cell _).trans q0, (hf.cell _).trans q1, (hf.cell _).trans q2, (hf.cell _).trans q3, (hf.cell _).trans q4, fun a b t r W hr => passed_nil _ _ _ _ 7 a b t r W (by omega)⟩
  · obtain ⟨q0, q1, q2, q3, q4⟩ := fc8 b
    exact ⟨_, _, _, _, _, (hf.cell _).trans q0, (hf.cell _).trans q1, (hf.cell _).trans q2, (hf.cell _).trans q3, (hf.cell _).trans q4, fun a b t r W hr => passed_passEnter _ _ _ _ a b t r W hr⟩
  · obtain ⟨q0, q1, q2, q3, q4⟩ := fc9 b
    exact ⟨_, _, _, _, _, (hf.cell _).trans q0, (hf.cell _).trans q1, (hf.cell _).trans q2, (hf.cell _).trans q3, (hf.cell _).trans q4, fun a b t r W hr => passed_passLeave _ _ _ _ a b t r W hr⟩
  · obtain ⟨q0, q1, q2, q3, q4⟩ := fc10 b
    exact ⟨_, _, _, _, _, (hf.cell _).trans q0, (hf.cell _).trans q1, (hf.cell _).trans q2, (hf.cell _).trans q3, (hf.cell _).trans q4, fun a b t r W hr => passed_passWait _ _ _ _ a b t r W hr⟩
  · obtain ⟨q0, q1, q2, q3, q4⟩ := fc11 b
    exact ⟨_, _, _, _, _, (hf.cell _).trans q0, (hf.cell _).trans q1, (hf.cell _).trans q2, (hf.cell _).trans q3, (hf.cell _).trans q4, fun a b t r W hr => passed_nil _ _ _ _ 11 a b t r W (by omega)⟩
  · obtain ⟨q0, q1, q2, q3, q4⟩ := fc12 b
    exact ⟨_, _, _, _, _, (hf.cell _).trans q0, (hf.cell _).trans q1, (hf.cell _).trans q2, (hf.cell _).trans q3, (hf.cell _).trans q4, fun a b t r W hr => passed_nil _ _ _ _ 12 a b t r W (by omega)⟩
  · obtain ⟨q0, q1, q2, q3, q4⟩ := fc13 b
    exact ⟨_, _, _, _, _, (hf.cell _).trans q0, (hf.cell _).trans q1, (hf.cell _).trans q2, (hf.cell _).trans q3, (hf.cell _).trans q4, fun a b t r W hr => passed_passEnd _ _ _ _ a b t r W hr⟩

/-- While the visits that follow are laid. -/
def PushRel (w : World) (n gm gr : Nat) (M : List Bool) (R : List Int) (V : List (Nat × Int)) (N : List Nat) (z : Int) (B : Nat) (vN lv i : Value) (wr : World) : Prop :=
  ∃ q : Nat, i = .int .i64 q ∧ q ≤ N.length ∧ wr.ownsRow w.heap.size 4 1 (.slice (some ⟨gm, 0, none⟩) n n) n (bls M) ∧ wr.ownsRow w.heap.size 3 1 (.slice (some ⟨gr, 0, none⟩) n n) n (ints R) ∧
    wr.ownsRow w.heap.size 74 2 lv (V.length + q) (ints (flatV (V ++ (N.take q).map fun j => (j, z)))) ∧ wr.ownsRow B 3 1 vN N.length (ints (N.map fun (j : Nat) => (j : Int))) ∧
    lv.ownBlock ≠ some gm ∧ lv.ownBlock ≠ some gr ∧ (∀ b, vN.ownBlock = some b → lv.ownBlock ≠ some b) ∧ Below w.heap.size w wr

/-- At a round's head. -/
def LeftRel (xs : List Int) (n : Nat) (w : World) (gm gr : Nat) (k : Nat) (lv : Value) (wr : World) : Prop :=
  ∃ (M : List Bool) (R : List Int) (V : List (Nat × Int)), k = 3 * unm M + V.length ∧ k ≤ 3 * n + 1 ∧ Dfs xs n M R V ∧ wr.ownsRow w.heap.size 4 1 (.slice (some ⟨gm, 0, none⟩) n n) n (bls M) ∧ wr.ownsRow w.heap.size 3 1 (.slice (some ⟨gr, 0, none⟩) n n) n (ints R) ∧
    wr.ownsRow w.heap.size 74 2 lv V.length (ints (flatV V)) ∧ lv.ownBlock ≠ some gm ∧ lv.ownBlock ≠ some gr ∧ Below w.heap.size w wr

set_option maxRecDepth 100000 in
set_option maxHeartbeats 4000000 in
theorem hasRooms {xs : List Int} {A : Option Addr} {n c g b : Nat} {S : Nat → Prop} {w : World} (hs : Fl w S 4 xs A n c) (hr : Right xs n) (hf : Forms w n g b) :
    Calls Tryd.prog 21 #[.slice A n c, .pointer (some ⟨g, 0, none⟩)] w fun e w' => e = .returned (.bool (roomsB xs n)) ∧ Below w.heap.size w w' := by
  have hn60 := hr.hi
  have hn1 := hr.lo
  have hmb := fun W => makeBools n hn60 W
  have hmi := fun W => makeInts n hn60 W
  have HR := Lib.hid hr
  have HF := Lib.hid hf
  clear hr hf
  go_enter Tryd.func21, Tryd.ntmps21
  go_wp2_with fail
  go_loopg [7] (3 * n + 1) (fun k lv wr => LeftRel xs n w w.heap.size (w.heap.size + 1) k lv wr)
  case atStart =>
    have o1 := World.ownsRow_lit (base := w.heap.size) (e := 4) (size := 1) w (madeCells #[.bool false] n) n (Nat.le_refl _) (by unfold maxLen; omega) (by rw [size_madeCells]; omega)
    rw [madeB] at o1
    have o2 := World.ownsRow_lit (base := w.heap.size) (e := 3) (size := 1) (w.alloc (.cells (madeCells #[.bool false] n) 4)) (madeCells #[.int .i64 0] n) n (by simp) (by unfold maxLen; omega) (by rw [size_madeCells]; omega)
    rw [madeI, World.size_alloc] at o2
    have o3 := World.ownsRow_lit (base := w.heap.size) (e := 74) (size := 2) ((w.alloc (.cells (madeCells #[.bool false] n) 4)).alloc (.cells (madeCells #[.int .i64 0] n) 3)) #[.int .i64 0, .int .i64 (-1)] 1 (by simp; omega) (by unfold maxLen; omega) rfl
    rw [World.size_alloc, World.size_alloc] at o3
    exact ⟨_, _, _, by rw [unm_rep]; simp, Nat.le_refl _, Dfs.start HR.out, (o1.alloc _).alloc _, o2.alloc _, o3, by simp [Value.ownBlock]; omega, by simp [Value.ownBlock], (((Below.refl _ _).alloc (Nat.le_refl _) _).alloc (by simp) _).alloc (by simp; omega) _⟩
  case round =>
    clear hmb hmi
    obtain ⟨M, R, V, rfl, hk, dfs, oM, oR, oL, nM, nR, hb⟩ := hrel
    have hsz := hb.size
    have hML := dfs.mlen
    have hRL := dfs.rlen
    have hcat : V = [] ∨ ∃ V' p, V = V' ++ [p] := by
      rcases List.eq_nil_or_concat V with h | ⟨V', p, h⟩
      · exact .inl h
      · exact .inr ⟨V', p, by rw [h, List.concat_eq_append]⟩
    rcases hcat with rfl | ⟨V, ⟨v, r⟩, rfl⟩
    · have hend := dfs.end HR.out
      have HE := Lib.hid hend
      obtain ⟨AL, cL, hlv⟩ := own_slc' oL
      subst hlv
      clear hend dfs oM oR oL
      simp only [List.length_nil] at *
      go_wp2_with fail
      go_ret
      exact ⟨by rw [HE.out]; rfl, hb⟩
    · obtain ⟨gl, cap, rfl, hc1, hc2⟩ := own_some' oL (by simp)
      have hlen : (V ++ [(v, r)]).length = V.length + 1 := by simp
      obtain ⟨v1, v2, v3, v4⟩ := dfs.vis (v, r) (by simp)
      simp only at v1 v2 v3 v4
      rw [hlen, flatV_app, ints_app] at oL
      have hfl : (ints (flatV V)).length = V.length * 2 := by rw [ints_len, flatV_len]
      have q0 : wr.cell? ⟨gl, V.length * 2, none⟩ = some (.int .i64 v) := by
        rw [oL.cellAt (V.length * 2) (by omega), List.getElem?_append_right (by omega), hfl, Nat.sub_self]; rfl
      have q1 : wr.cell? ⟨gl, V.length * 2 + 1, none⟩ = some (.int .i64 r) := by
        rw [oL.cellAt (V.length * 2 + 1) (by omega), List.getElem?_append_right (by omega), hfl, show V.length * 2 + 1 - V.length * 2 = 1 from by omega]; rfl
      have oL' := own_cut oL hfl
      have m0 := oM.cellAt v (by omega)
      rw [bls_get (by omega)] at m0
      have r0 := oR.cellAt v (by omega)
      rw [ints_get (by omega)] at r0
      have hgl := own_at oL (b := gl) rfl
      have hgm := own_at oM (b := w.heap.size) rfl
      have hgr := own_at oR (b := w.heap.size + 1) rfl
      rw [hlen] at hk hc1 ⊢
      unfold maxLen at hc2
      have DF := Lib.hid dfs
      have OM := Lib.hid oM
      have OR := Lib.hid oR
      have OL := Lib.hid oL'
      clear dfs oM oR oL oL' hfl
      generalize hm : V.length = m at *
      have g0 : (0 : Int) ≤ (m : Int) := by omega
      have g1 : (m : Int) < (m : Int) + 1 := by omega
      cases hmet : M.getD v false
      · rw [hmet] at m0
        have zm := OM.out.frozenAt v
        have zr := OR.out.frozenAt v
        obtain ⟨a, rfl⟩ := hs.some (by omega)
        obtain ⟨c0, c1, c2, c3⟩ := (hs.later hb).four v v1
        have HMET := Lib.hid hmet
        clear hmet
        generalize hy : R.getD v 0 = y at r0
        clear hy
        go_wp2_with fail
        have s1 := OM.out.stored v (.bool true)
        rw [bls_set] at s1
        have oR1 := own_block OR.out (w' := wr.setCell ⟨w.heap.size, v, none⟩ (.bool true)) fun bb hb' => s1.2.block bb (own_at OR.out hb').2 (fun e => by simp only [Value.ownBlock, Option.some.injEq] at hb' e; omega)
        have s2 := oR1.stored v (.int .i64 r)
        rw [ints_set] at s2
        have z12 : (wr.setCell ⟨w.heap.size, v, none⟩ (.bool true)).heap.size = wr.heap.size := by simp
        have oM2 := own_block s1.1 (w' := (wr.setCell ⟨w.heap.size, v, none⟩ (.bool true)).setCell ⟨w.heap.size + 1, v, none⟩ (.int .i64 r)) fun bb hb' => s2.2.block bb (own_at s1.1 hb').2 (fun e => by simp only [Value.ownBlock, Option.some.injEq] at hb' e; omega)
        have oL1 := own_block OL.out (w' := wr.setCell ⟨w.heap.size, v, none⟩ (.bool true)) fun bb hb' => s1.2.block bb (own_at OL.out hb').2 (fun e => by simp only [Value.ownBlock, Option.some.injEq] at hb' e; exact nM (by simp only [Value.ownBlock]; rw [hb', e]))
        have oL2 := own_block oL1 (w' := (wr.setCell ⟨w.heap.size, v, none⟩ (.bool true)).setCell ⟨w.heap.size + 1, v, none⟩ (.int .i64 r)) fun bb hb' => s2.2.block bb (own_at oL1 hb').2 (fun e => by simp only [Value.ownBlock, Option.some.injEq] at hb' e; exact nR (by simp only [Value.ownBlock]; rw [hb', e]))
        have bS : Below w.heap.size w ((wr.setCell ⟨w.heap.size, v, none⟩ (.bool true)).setCell ⟨w.heap.size + 1, v, none⟩ (.int .i64 r)) := (hb.setCell (p := ⟨w.heap.size, v, none⟩) (Nat.le_refl _) _).setCell (p := ⟨w.heap.size + 1, v, none⟩) (by show w.heap.size ≤ w.heap.size + 1; omega) _
        have zS : ((wr.setCell ⟨w.heap.size, v, none⟩ (.bool true)).setCell ⟨w.heap.size + 1, v, none⟩ (.int .i64 r)).heap.size = wr.heap.size := by simp
        have HO := Lib.hid (And.intro oM2 (And.intro s2.1 (And.intro oL2 bS)))
        have HZ := Lib.hid zS
        clear s1 oR1 s2 z12 oM2 oL1 oL2 bS zS
        go_region
        obtain ⟨oM2, oR2, oL2, bS⟩ := HO.out
        have zS := HZ.out
        clear HO HZ m0 r0 zm zr q0 q1 c0 c1 c2 c3
        generalize (wr.setCell ⟨w.heap.size, v, none⟩ (.bool true)).setCell ⟨w.heap.size + 1, v, none⟩ (.int .i64 r) = wS at *
        have bD : Below wS.heap.size wS ((wS.alloc (.cells #[.int .i64 v, .int .i64 r] 74)).drew) := ((Below.refl _ _).alloc (Nat.le_refl _) _).drew
        have nr : ((wS.alloc (.cells #[.int .i64 v, .int .i64 r] 74)).drew).heap[wS.heap.size]? = some (.cells #[.int .i64 v, .int .i64 r] 74 (0, 0)) := (MapKept.heap_alloc wS (.cells #[.int .i64 v, .int .i64 r] 74)).1
        have zD : ((wS.alloc (.cells #[.int .i64 v, .int .i64 r] 74)).drew).heap.size = wS.heap.size + 1 := by show (wS.alloc _).heap.size = _; simp
        generalize (wS.alloc (.cells #[.int .i64 v, .int .i64 r] 74)).drew = wD at *
        have oM3 := own_below oM2 bD
        have oR3 := own_below oR2 bD
        have oL3 := own_below oL2 bD
        have b3 : Below w.heap.size w wD := bS.trans (bD.mono (by omega))
        rw [zS] at nr zD
        have i0 : wD.cell? ⟨wr.heap.size, 0, none⟩ = some (.int .i64 v) := by simp [World.cell?, nr]
        have i1 : wD.cell? ⟨wr.heap.size, 1, none⟩ = some (.int .i64 r) := by simp [World.cell?, nr]
        obtain ⟨c0, c1, c2, c3⟩ := (hs.later b3).four v v1
        have HO3 := Lib.hid (And.intro oM3 (And.intro oR3 (And.intro oL3 b3)))
        clear nr oM2 oR2 oL2 oM3 oR3 oL3 bS bD
        obtain ⟨k, hk0⟩ : ∃ k : Nat, xs.getD (v * 4) 0 = (k : Int) := ⟨(xs.getD (v * 4) 0).toNat, by have : opC xs v = xs.getD (v * 4) 0 := rfl; have := HR.out.op v1; omega⟩
        have hk1 : 1 ≤ k ∧ k ≤ 13 := by have : opC xs v = xs.getD (v * 4) 0 := rfl; have := HR.out.op v1; omega
        have hfD : Forms wD n g b := HF.out.below b3 (by have := (Array.getElem?_eq_some_iff.1 HF.out.1).1; exact this) HF.out.2.2
        obtain ⟨s, u0, u1, u2, u3, p0, p1, p2, p3, p4, hps⟩ := passOf hfD k hk1.1 hk1.2
        have hgD : g < wD.heap.size := (Array.getElem?_eq_some_iff.1 hfD.1).1
        have hrv : r = -1 ∨ r = 0 ∨ r = 1 := by omega
        have hheld : heldX xs v r = heldO (k : Int) (xs.getD (v * 4 + 1) 0) r := by rw [← hk0]; rfl
        have hfol := fun W => followers HR.out v v1 W
        rw [hk0] at c0 hfol
        have hps' := fun W => hps (xs.getD (v * 4 + 1) 0) (xs.getD (v * 4 + 2) 0) (xs.getD (v * 4 + 3) 0) r W hrv
        generalize xs.getD (v * 4 + 1) 0 = x1 at c1 hps' hheld hfol
        generalize xs.getD (v * 4 + 2) 0 = x2 at c2 hps' hfol
        generalize xs.getD (v * 4 + 3) 0 = x3 at c3 hps' hfol
        have HPS := Lib.hid hps'
        have HFOL := Lib.hid hfol
        have HHELD := Lib.hid hheld
        have hk14 : (k : Int) < 14 := by omega
        have hk00 : (0 : Int) ≤ (k : Int) := by omega
        clear hps hps' hfol hheld hfD hk0
        go_wp2_with fail
        have nr := (MapKept.heap_alloc wD (.cells #[.int .i64 k, .int .i64 x1, .int .i64 x2, .int .i64 x3] 32)).1
        have bI : Below wD.heap.size wD (wD.alloc (.cells #[.int .i64 k, .int .i64 x1, .int .i64 x2, .int .i64 x3] 32)) := (Below.refl _ _).alloc (Nat.le_refl _) _
        generalize hwI : wD.alloc (.cells #[.int .i64 k, .int .i64 x1, .int .i64 x2, .int .i64 x3] 32) = wI at *
        have zI : wI.heap.size = wD.heap.size + 1 := by rw [← hwI]; simp
        clear hwI c0 c1 c2 c3
        rw [zD] at nr
        have j0 : wI.cell? ⟨wr.heap.size + 1, 0, none⟩ = some (.int .i64 k) := by simp [World.cell?, nr]
        have j1 : wI.cell? ⟨wr.heap.size + 1, 1, none⟩ = some (.int .i64 x1) := by simp [World.cell?, nr]
        have j2 : wI.cell? ⟨wr.heap.size + 1, 2, none⟩ = some (.int .i64 x2) := by simp [World.cell?, nr]
        have j3 : wI.cell? ⟨wr.heap.size + 1, 3, none⟩ = some (.int .i64 x3) := by simp [World.cell?, nr]
        have hcI : ∀ (bb o : Nat), bb < wD.heap.size → wI.cell? ⟨bb, o, none⟩ = wD.cell? ⟨bb, o, none⟩ := fun bb o h => bI.cell (p := ⟨bb, o, none⟩) h
        rw [← hcI g _ hgD] at p0 p1 p2 p3 p4
        rw [← hcI _ _ (by omega)] at i0 i1
        have ks : ∀ W, Below wI.heap.size wI W → (W.cell? ⟨wr.heap.size + 1, 0, none⟩ = some (.int .i64 k) ∧ W.cell? ⟨wr.heap.size + 1, 1, none⟩ = some (.int .i64 x1) ∧ W.cell? ⟨wr.heap.size + 1, 2, none⟩ = some (.int .i64 x2) ∧ W.cell? ⟨wr.heap.size + 1, 3, none⟩ = some (.int .i64 x3) ∧
            W.cell? ⟨g, k * 5, none⟩ = some (.string s) ∧ W.cell? ⟨g, k * 5 + 1, none⟩ = some u0 ∧ W.cell? ⟨g, k * 5 + 2, none⟩ = some u1 ∧ W.cell? ⟨g, k * 5 + 3, none⟩ = some u2 ∧ W.cell? ⟨g, k * 5 + 4, none⟩ = some u3 ∧ W.cell? ⟨wr.heap.size, 0, none⟩ = some (.int .i64 v) ∧ W.cell? ⟨wr.heap.size, 1, none⟩ = some (.int .i64 r) ∧ Below wI.heap.size wI W) := fun W hW => by
          have h : ∀ (bb o : Nat), bb < wI.heap.size → W.cell? ⟨bb, o, none⟩ = wI.cell? ⟨bb, o, none⟩ := fun bb o h => hW.cell (p := ⟨bb, o, none⟩) h
          exact ⟨(h _ _ (by omega)).trans j0, (h _ _ (by omega)).trans j1, (h _ _ (by omega)).trans j2, (h _ _ (by omega)).trans j3, (h _ _ (by omega)).trans p0, (h _ _ (by omega)).trans p1, (h _ _ (by omega)).trans p2, (h _ _ (by omega)).trans p3, (h _ _ (by omega)).trans p4, (h _ _ (by omega)).trans i0, (h _ _ (by omega)).trans i1, hW⟩
        have KS := Lib.hid ks
        clear ks nr hcI
        go_region_held3 (fun W => W.cell? ⟨wr.heap.size + 1, 0, none⟩ = some (.int .i64 k) ∧ W.cell? ⟨wr.heap.size + 1, 1, none⟩ = some (.int .i64 x1) ∧ W.cell? ⟨wr.heap.size + 1, 2, none⟩ = some (.int .i64 x2) ∧ W.cell? ⟨wr.heap.size + 1, 3, none⟩ = some (.int .i64 x3) ∧
            W.cell? ⟨g, k * 5, none⟩ = some (.string s) ∧ W.cell? ⟨g, k * 5 + 1, none⟩ = some u0 ∧ W.cell? ⟨g, k * 5 + 2, none⟩ = some u1 ∧ W.cell? ⟨g, k * 5 + 3, none⟩ = some u2 ∧ W.cell? ⟨g, k * 5 + 4, none⟩ = some u3 ∧ W.cell? ⟨wr.heap.size, 0, none⟩ = some (.int .i64 v) ∧ W.cell? ⟨wr.heap.size, 1, none⟩ = some (.int .i64 r) ∧ Below wI.heap.size wI W)
          (first | exact KS.out _ (by assumption) | exact KS.out _ (Below.refl _ _) | exact KS.out _ (Below.refl _ _).drew)
          (first
            | (go_at_call 43; refine (HPS.out _).mono ?_; rintro e w1 ⟨⟨z, rfl, hz⟩, hb1⟩
               have hb1' : Below wI.heap.size wI w1 := (Below.refl wI.heap.size wI).drew.trans hb1))
        obtain ⟨k0, k1, k2, k3, _, _, _, _, _, k4, k5, _⟩ := KS.out w1 hb1'
        rw [← HHELD.out] at hz ⊢
        have z1 := hb1'.size
        have bw1 : Below wD.heap.size wD w1 := bI.trans (hb1'.mono (by omega))
        obtain ⟨oM3, oR3, oL3, _⟩ := HO3.out
        have oM4 := own_below oM3 bw1
        have oR4 := own_below oR3 bw1
        have oL4 := own_below oL3 bw1
        have b4 : Below w.heap.size w w1 := b3.trans (bw1.mono (by omega))
        clear oM3 oR3 oL3 HO3 HPS KS p0 p1 p2 p3 p4 i0 i1 j0 j1 j2 j3 bI hb1
        cases hh : heldX xs v r with
        | none =>
          have hfl := DF.out.fail1 hh
          have HFL := Lib.hid hfl
          clear hfl hz hh oM4 oR4 oL4
          simp only [Option.isSome_none]
          go_wp2_with fail
          go_ret
          exact ⟨by rw [HFL.out]; rfl, b4⟩
        | some r' =>
          obtain rfl := hz r' hh
          have hpush := DF.out.push HR.out HMET.out hh
          have hrb := HR.out.held v1 (by omega) (by omega) hh
          have hunm := unm_set (M := M) (i := v) (by omega) HMET.out
          have HPU := Lib.hid hpush
          have HO4 := Lib.hid (And.intro oM4 (And.intro oR4 oL4))
          clear hpush hz hh oM4 oR4 oL4
          simp only [Option.isSome_some]
          go_wp2_with fail
          refine (HFOL.out w1).mono ?_
          rintro e w2 ⟨vN, rfl, oN, hb2⟩
          have z2 := hb2.size
          have b5 := b4.trans (hb2.mono (by omega))
          obtain ⟨oM4, oR4, oL4⟩ := HO4.out
          have hnv : ∀ bb, vN.ownBlock = some bb → (Value.slice (some ⟨gl, 0, none⟩) m cap).ownBlock ≠ some bb := fun bb h1 h2 => by have := (own_at oN h1).1; have := (own_at oL4 h2).2; omega
          have hnl : (nextX xs v).length ≤ 2 := by
            unfold nextX nextO
            repeat' split
            all_goals simp
          have hNM := fun bb (h : vN.ownBlock = some bb) => own_at oN h
          obtain ⟨AN, cN, rfl⟩ := own_slc' oN
          have RE := Lib.hid (show PushRel w n w.heap.size (w.heap.size + 1) (M.set v true) (R.set v r) V (nextX xs v) z w1.heap.size (.slice AN (nextX xs v).length cN) (.slice (some ⟨gl, 0, none⟩) m cap) (.int .i64 (0 : Nat)) w2 from
            ⟨0, rfl, Nat.zero_le _, own_below oM4 hb2, own_below oR4 hb2, by simpa [hm] using own_below oL4 hb2, oN, nM, nR, hnv, b5⟩)
          clear HO4 oM4 oR4 oL4 oN hnv HFOL HHELD k0 k1 k2 k3 k4 k5 hb2 DF OM OR OL
          generalize hNl : (nextX xs v).length = ln at *
          have hbv : ∀ bb, (Value.slice AN ln cN).ownBlock = some bb → w.heap.size + 1 < bb := fun bb h => by have := (hNM bb h).1; omega
          obtain ⟨i0, hi, hz0, hz1, hz2⟩ := info_parts infoVis
          clear hNM
          go_wp2_with fail
          go_loopw [7, 84] (fun lv i wr => PushRel w n w.heap.size (w.heap.size + 1) (M.set v true) (R.set v r) V (nextX xs v) z w1.heap.size (.slice AN ln cN) lv i wr) (fun _ i _ => ln - (intOf i).toNat)
          case atStart => exact RE.out
          case round =>
            clear RE
            obtain ⟨q, rfl, hq, oM, oR, oL, oN, eM, eR, eN, hbq⟩ := hrel
            rw [hNl] at hq oN
            rw [hm] at oL
            have hszq := hbq.size
            obtain ⟨AL, cL, rfl⟩ := own_slc' oL
            by_cases hlt : q < ln
            · obtain ⟨gn, capN, hvn, _, _⟩ := own_some' oN (by omega)
              simp only [Value.slice.injEq, true_and] at hvn
              obtain ⟨rfl, rfl⟩ := hvn
              have cn := oN.cellAt q (by omega)
              rw [ints_get (by simp; omega)] at cn
              have hjj : ((nextX xs v).map fun (j : Nat) => (j : Int)).getD q 0 = (((nextX xs v).getD q 0 : Nat) : Int) := by simp [List.getD, show q < (nextX xs v).length from by omega]
              rw [hjj] at cn
              have htk : (nextX xs v).take (q + 1) = (nextX xs v).take q ++ [(nextX xs v).getD q 0] := by
                rw [List.take_add_one]; congr 1; simp [List.getD, show q < (nextX xs v).length from by omega]
              have e1 : ints (flatV (V ++ ((nextX xs v).take q).map fun j => (j, z))) ++ [.int .i64 (((nextX xs v).getD q 0 : Nat) : Int), .int .i64 z] = ints (flatV (V ++ ((nextX xs v).take (q + 1)).map fun j => (j, z))) := by
                rw [htk, List.map_append, ← List.append_assoc, flatV_app (V ++ _), ints_app]; rfl
              have E1 := Lib.hid e1
              have hgn := own_at oN (b := gn) rfl
              have hbn := hbv gn rfl
              clear htk hjj e1
              generalize (nextX xs v).getD q 0 = j at *
              have OL := Lib.hid oL
              have OM := Lib.hid oM
              have OR := Lib.hid oR
              have ON := Lib.hid oN
              clear oL oM oR oN
              go_wp2_with (first | (at_builtin; refine wpList_append_at _ rfl _ _ 75 rfl w.heap.size 74 i0 (.agg #[.int .i64 0, .int .i64 0]) 2 16 Tryd.underlying75 hi hz0 hz1 hz2 rfl (by decide) _ _ _ rfl (OL.out.alloc _) ⟨wr.heap.size, 0, none⟩ 1 1 [.int .i64 j, .int .i64 z] rfl rfl ?c1 ?c2 ?c3 ?c4 ?c5 (by decide) ?_) | fail)
              case c1 =>
                intro i u hj'
                match i, hj' with
                | 0, hj' => simp at hj'; subst hj'; simp [Addr.add]
                | 1, hj' => simp at hj'; subst hj'; simp [Addr.add]
              case c2 => intro u hu; simp at hu; rcases hu with rfl | rfl <;> rfl
              case c3 => unfold maxLen; omega
              case c4 => omega
              case c5 => simp; omega
              intro v' w3 hown' hgrow hat
              rw [← List.map_take, E1.out, show m + q + 1 = m + (q + 1) from by omega] at hown'
              have kp : ∀ bb, bb < wr.heap.size → (Value.slice AL (m + q) cL).ownBlock ≠ some bb → w3.heap[bb]? = wr.heap[bb]? := fun bb h1 h2 => by
                rw [hgrow.block bb (by simp; omega) (fun e => h2 e.symm), Below.heap_alloc _ _ _ h1]
              have oM3 := own_block OM.out (w' := w3) fun bb hb' => kp bb (own_at OM.out hb').2 (fun e => by simp only [Value.ownBlock, Option.some.injEq] at hb'; rw [← hb'] at e; exact eM e)
              have oR3 := own_block OR.out (w' := w3) fun bb hb' => kp bb (own_at OR.out hb').2 (fun e => by simp only [Value.ownBlock, Option.some.injEq] at hb'; rw [← hb'] at e; exact eR e)
              have oN3 := own_block ON.out (w' := w3) fun bb hb' => kp bb (own_at ON.out hb').2 (eN bb hb')
              have hb3 : Below w.heap.size w w3 := (hbq.alloc hszq _).grown hgrow (by simp; omega) (fun bb hb' => (own_at OL.out hb').1)
              have eM3 : v'.ownBlock ≠ some w.heap.size := fun e => by
                rcases hat with h | h
                · rw [h] at e; exact eM e
                · rw [h] at e; injection e; omega
              have eR3 : v'.ownBlock ≠ some (w.heap.size + 1) := fun e => by
                rcases hat with h | h
                · rw [h] at e; exact eR e
                · rw [h] at e; injection e; have := (own_at OR.out (b := w.heap.size + 1) rfl).2; omega
              have eN3 : ∀ bb, (Value.slice (some ⟨gn, 0, none⟩) ln cN).ownBlock = some bb → v'.ownBlock ≠ some bb := fun bb hb' e => by
                rcases hat with h | h
                · rw [h] at e; exact eN bb hb' e
                · rw [h] at e; injection e; have := (own_at ON.out hb').2; omega
              have RR := Lib.hid (show PushRel w n w.heap.size (w.heap.size + 1) (M.set v true) (R.set v r) V (nextX xs v) z w1.heap.size (.slice (some ⟨gn, 0, none⟩) ln cN) v' (.int .i64 ((q : Int) + 1)) w3 from
                ⟨q + 1, by go_num, by omega, oM3, oR3, by rw [hm]; exact hown', by rw [hNl]; exact oN3, eM3, eR3, eN3, hb3⟩)
              obtain ⟨AL', cL', rfl⟩ := own_slc' hown'
              clear hown' oM3 oR3 oN3 kp hgrow hat eM3 eR3 eN3 OL OM OR ON cn E1
              go_wp2_with fail
              go_roundw
              case rel => exact RR.out
              case measure => simp [intOf]; omega
            · obtain rfl : q = ln := by omega
              have hall : (nextX xs v).take q = nextX xs v := List.take_of_length_le (by omega)
              rw [hall] at oL
              have hfin := HPU.out
              have OL := Lib.hid oL
              have OM := Lib.hid oM
              have OR := Lib.hid oR
              clear oL oM oR oN hall hfin
              go_wp2_with fail
              go_roundg (3 * unm (M.set v true) + (m + q))
              case measure => omega
              case rel =>
                exact ⟨M.set v true, R.set v r, V ++ (nextX xs v).map fun j => (j, z), by simp [hm, hNl], by omega, HPU.out, OM.out, OR.out, by simpa [hm, hNl] using OL.out, eM, eR, hbq⟩
      · rw [hmet] at m0
        by_cases hrr : R.getD v 0 = r
        · rw [hrr] at r0
          have HD := Lib.hid (DF.out.skip hmet hrr)
          clear hmet hrr
          go_wp2_with fail
          go_region
          all_goals (try go_wp2)
          go_roundg (3 * unm M + m)
          case measure => omega
          case rel =>
            have bz : Below wr.heap.size wr ((wr.alloc (.cells #[.int .i64 v, .int .i64 r] 74)).drew) := ((Below.refl _ _).alloc (Nat.le_refl _) _).drew
            exact ⟨M, R, V, by rw [hm], by omega, HD.out, own_below OM.out bz, own_below OR.out bz, by rw [hm]; exact own_below OL.out bz, nM, nR, hb.trans (bz.mono hsz)⟩
        · have HF0 := Lib.hid (DF.out.fail0 hmet hrr)
          generalize R.getD v 0 = y at r0 hrr
          have hne : (y == r) = false := by simpa using hrr
          have bz : Below wr.heap.size wr ((wr.alloc (.cells #[.int .i64 v, .int .i64 r] 74)).drew) := ((Below.refl _ _).alloc (Nat.le_refl _) _).drew
          clear hmet hrr
          go_wp2_with fail
          go_region
          all_goals (try go_wp2)
          go_ret
          exact ⟨by rw [HF0.out]; rfl, hb.trans (bz.mono hsz)⟩
end Go.Proofs.YtapckfapkhnbgaaDoor

/- CodeOk of the program. -/
namespace Go.Proofs.YtapckfapkhnbgaaDoor
open Go.ChangeShapes Go.WideShapes Go.ChangeAt Go.RowKit

set_option maxRecDepth 100000 in
set_option maxHeartbeats 4000000 in
theorem codeOk {xs : List Int} {A : Option Addr} {n c : Nat} {S : Nat → Prop} {w : World} (hs : Fl w S 4 xs A n c) :
    Calls Tryd.prog 9 #[.slice A n c] w fun e w' => e = .returned (.bool (codeB xs n)) ∧ Below w.heap.size w w' := by
  have hmax : n ≤ 9223372036854775807 := by have := hs.le; have := hs.top; unfold maxLen at this; omega
  by_cases hn : 1 ≤ n ∧ n ≤ 60
  · obtain ⟨hn1, hn60⟩ := hn
    have HL := Lib.hid hs.len
    go_enter Tryd.func9, Tryd.ntmps9
    go_wp2_with fail
    refine (formsOf n w).mono ?_
    rintro e w1 ⟨⟨g, b, rfl, hg, hbb, hf⟩, hb1⟩
    have HF := Lib.hid hf
    have z1 := hb1.size
    have hgl : g < w1.heap.size := (Array.getElem?_eq_some_iff.1 hf.1).1
    clear hf
    go_wp2_with fail
    go_loopw [19] (fun i wr => ∃ k : Nat, k ≤ n ∧ i = .int .i64 k ∧ (∀ j, j < k → insB (opC xs j) (aC xs j) (bC xs j) (toC xs j) n = true ∧ (opC xs j = 13 ↔ j + 1 = n)) ∧ Below w1.heap.size w1 wr) (fun i _ => n - (intOf i).toNat)
    case atStart => exact ⟨0, Nat.zero_le _, rfl, fun j hj => by omega, Below.refl _ _⟩
    case round =>
      obtain ⟨k, hk, rfl, hd, hb⟩ := hrel
      have HD := Lib.hid hd
      have hsz := hb.size
      clear hd
      by_cases hlt : k < n
      · obtain ⟨a, rfl⟩ := hs.some (by omega)
        obtain ⟨c0, c1, c2, c3⟩ := ((hs.later hb1).later hb).four k hlt
        have hin := fun (W : World) (hW : Below wr.heap.size wr W) => fits (xs.getD (k * 4) 0) (xs.getD (k * 4 + 1) 0) (xs.getD (k * 4 + 2) 0) (xs.getD (k * 4 + 3) 0) n g b W ((HF.out.below hb hgl HF.out.2.2).below hW (by omega) (by have := HF.out.2.2; omega))
        have e0 : opC xs k = xs.getD (k * 4) 0 := rfl
        have e1 : insB (opC xs k) (aC xs k) (bC xs k) (toC xs k) n = insB (xs.getD (k * 4) 0) (xs.getD (k * 4 + 1) 0) (xs.getD (k * 4 + 2) 0) (xs.getD (k * 4 + 3) 0) n := rfl
        generalize hbb' : insB (xs.getD (k * 4) 0) (xs.getD (k * 4 + 1) 0) (xs.getD (k * 4 + 2) 0) (xs.getD (k * 4 + 3) 0) n = bb at hin e1
        clear hbb'
        generalize xs.getD (k * 4) 0 = x0 at c0 hin e0
        generalize xs.getD (k * 4 + 1) 0 = x1 at c1 hin
        generalize xs.getD (k * 4 + 2) 0 = x2 at c2 hin
        generalize xs.getD (k * 4 + 3) 0 = x3 at c3 hin
        cases bb
        · have hf : codeB xs n = false := codeB_not hlt (fun h => by rw [e1] at h; cases h.1)
          have HFL := Lib.hid hf
          have HI := Lib.hid hin
          clear hf hin e0 e1
          go_wp2_with fail
          refine (HI.out _ ((Below.refl _ _).alloc (Nat.le_refl _) _)).mono ?_
          rintro e w2 ⟨rfl, hb2⟩
          have b2 : Below wr.heap.size wr w2 := ((Below.refl _ _).alloc (Nat.le_refl _) _).trans (hb2.mono (by simp))
          have d0 : w2.cell? ⟨wr.heap.size, 0, none⟩ = some (.int .i64 x0) := by
            rw [hb2.cell (p := ⟨wr.heap.size, 0, none⟩) (by simp)]
            simp
          have bz : Below w.heap.size w w2 := (hb1.trans (hb.mono (by omega))).trans (b2.mono (by omega))
          have bz1 : Below w1.heap.size w1 w2 := hb.trans (b2.mono hsz)
          clear c0 c1 c2 c3 hb2
          go_wp2_with fail
          go_ret
          exact ⟨by rw [HFL.out]; rfl, bz⟩
        · have HI := Lib.hid hin
          have E1 := Lib.hid e1
          clear hin e1
          by_cases hiff : (opC xs k = 13 ↔ k + 1 = n)
          · have hnn : ∀ j, j < k + 1 → insB (opC xs j) (aC xs j) (bC xs j) (toC xs j) n = true ∧ (opC xs j = 13 ↔ j + 1 = n) := fun j hj => by
              by_cases e : j = k
              · subst e; exact ⟨E1.out, hiff⟩
              · exact HD.out j (by omega)
            have HN := Lib.hid hnn
            have hq : (x0 == 13) = ((k : Int) == (n : Int) - 1) := by
              rw [Bool.eq_iff_iff]
              simp only [beq_iff_eq]
              rw [← e0, hiff]; omega
            generalize hx : (x0 == 13) = p at *
            have hq' : ((k : Int) == (n : Int) - 1) = p := hq.symm
            clear hnn e0 hiff hq
            go_wp2_with fail
            refine (HI.out _ ((Below.refl _ _).alloc (Nat.le_refl _) _)).mono ?_
            rintro e w2 ⟨rfl, hb2⟩
            have b2 : Below wr.heap.size wr w2 := ((Below.refl _ _).alloc (Nat.le_refl _) _).trans (hb2.mono (by simp))
            have d0 : w2.cell? ⟨wr.heap.size, 0, none⟩ = some (.int .i64 x0) := by
              rw [hb2.cell (p := ⟨wr.heap.size, 0, none⟩) (by simp)]
              simp
            have bz : Below w.heap.size w w2 := (hb1.trans (hb.mono (by omega))).trans (b2.mono (by omega))
            have bz1 : Below w1.heap.size w1 w2 := hb.trans (b2.mono hsz)
            clear c0 c1 c2 c3 hb2
            go_wp2_with fail
            go_roundw
            case rel => exact ⟨k + 1, by omega, by go_num, HN.out, bz1⟩
            case measure => simp [intOf]; omega
          · have hf : codeB xs n = false := codeB_not hlt (fun h => hiff h.2)
            have HFL := Lib.hid hf
            have hq : (x0 == 13) = !((k : Int) == (n : Int) - 1) := by
              rw [e0] at hiff
              cases hp : (x0 == 13) <;> cases hp' : ((k : Int) == (n : Int) - 1) <;> simp only [beq_iff_eq, beq_eq_false_iff_ne, ne_eq] at hp hp' <;> first | rfl | (exfalso; apply hiff; constructor <;> intro h <;> omega)
            generalize hx : ((k : Int) == (n : Int) - 1) = p at *
            clear hf e0 hiff
            go_wp2_with fail
            refine (HI.out _ ((Below.refl _ _).alloc (Nat.le_refl _) _)).mono ?_
            rintro e w2 ⟨rfl, hb2⟩
            have b2 : Below wr.heap.size wr w2 := ((Below.refl _ _).alloc (Nat.le_refl _) _).trans (hb2.mono (by simp))
            have d0 : w2.cell? ⟨wr.heap.size, 0, none⟩ = some (.int .i64 x0) := by
              rw [hb2.cell (p := ⟨wr.heap.size, 0, none⟩) (by simp)]
              simp
            have bz : Below w.heap.size w w2 := (hb1.trans (hb.mono (by omega))).trans (b2.mono (by omega))
            have bz1 : Below w1.heap.size w1 w2 := hb.trans (b2.mono hsz)
            clear c0 c1 c2 c3 hb2
            go_wp2_with fail
            go_ret
            exact ⟨by rw [HFL.out]; rfl, bz⟩
      · have hright : Right xs n := ⟨HL.out, hn1, hn60, fun i hi => (HD.out i (by omega)).1, fun i hi => (HD.out i (by omega)).2⟩
        have hc := codeB_right hright
        have hro := hasRooms ((hs.later hb1).later hb) hright (HF.out.below hb hgl HF.out.2.2)
        have HC := Lib.hid hc
        have HRO := Lib.hid hro
        have bw : Below w.heap.size w wr := hb1.trans (hb.mono (by omega))
        clear hc hro hright
        go_wp2_with fail
        refine HRO.out.mono ?_
        rintro e w2 ⟨rfl, hb2⟩
        go_wp2_with fail
        go_ret
        exact ⟨by rw [HC.out]; rfl, bw.trans (hb2.mono (by omega))⟩
  · rw [codeB_few hn]
    have hn' : n < 1 ∨ 60 < n := by omega
    clear hn
    rcases hn' with h | h
    · obtain rfl : n = 0 := by omega
      go_enter Tryd.func9, Tryd.ntmps9
      go_wp2
      go_ret
      exact ⟨rfl, Below.refl _ _⟩
    · go_enter Tryd.func9, Tryd.ntmps9
      go_wp2
      go_ret
      exact ⟨rfl, Below.refl _ _⟩
end Go.Proofs.YtapckfapkhnbgaaDoor

/- The walk of laws.FnCodeIn. -/
namespace Go.Proofs.YtapckfapkhnbgaaDoor
open Go.ChangeShapes Go.WideShapes Go.ChangeAt Go.RowKit

theorem okP_one {L : SL} {i : Nat} {k x y n : Int} {B E R : SL} (h : okP L = true) (hd : L.drop i = .cons k x y n B E R) : okP (.cons k x y n B E .nil) = true := by
  have h1 := (okP_both (okP_both h i).2 1).1
  rw [drop_one hd] at h1
  exact h1

theorem wrapIn (x : Int) (h0 : 0 ≤ x) (h1 : x ≤ 9223372036854775807) : IntKind.i64.wrap x = x := by
  rw [IntKind.wrap_i64]
  omega

set_option maxRecDepth 100000 in
set_option maxHeartbeats 4000000 in
theorem wFnCodeIn (A : Option Addr) (n c : Nat) (w : World) (h : Bytes w A n) (hn : n ≤ c) (hc : c ≤ maxLen) (h0 : 0 < w.heap.size) (hop : Ops w) :
    Calls Tryd.prog 3 #[.slice A n c] w fun e w' => e = .returned (.bool true) ∧ Below w.heap.size w w' := by
  have HOP := Lib.hid hop
  clear hop
  by_cases hl : 1048576 < n
  · go_enter Tryd.func3, Tryd.ntmps3
    go_wp2
    go_ret
    exact ⟨rfl, Below.refl _ _⟩
  · go_enter Tryd.func3, Tryd.ntmps3
    go_wp2_with fail
    refine (drawCodeOf A n c _ h hn hc).mono ?_
    rintro e w1 ⟨L, a, c1, rfl, s1, hL, b1⟩
    have z1 := b1.size
    have lL : L.size ≤ 1048576 := by omega
    have s1' : Sl w1 w1.heap.size L (some a) L.len c1 := s1.sl fun b hb => hb.2
    clear s1
    obtain ⟨m, hm⟩ : ∃ m, codeN L = m := ⟨_, rfl⟩
    obtain ⟨xs, hx⟩ : ∃ xs, codeX L = xs := ⟨_, rfl⟩
    have hm29 : m ≤ 29 := hm ▸ codeN_le L
    have hSC := fun (A : Option Addr) (n c M : Nat) (w : World) (hs : Sl w M L A n c) (hM : M ≤ w.heap.size) => specCode hs hM lL
    have hIC := fun (A : Option Addr) (n c M : Nat) (w : World) (hs : Sl w M L A n c) (hM : M ≤ w.heap.size) (h0 : 0 < w.heap.size) (hop : Ops w) => implCode hs hM h0 hop
    rw [hm, hx] at hSC hIC
    have HSC := Lib.hid hSC
    have HIC := Lib.hid hIC
    clear hSC hIC hm hx
    have HST := Lib.hid (fun (W : World) (hs : Sl W W.heap.size L (some a) L.len c1) => specStmtsOk L lL (some a) L.len c1 W.heap.size W hs (Nat.le_refl _))
    go_wp2_with fail
    refine (HIC.out _ _ _ w1.heap.size w1 s1' (Nat.le_refl _) (by omega) (HOP.out.below b1 h0)).mono ?_
    rintro e w2 ⟨vc, rfl, oc2, hb2⟩
    have z2 := hb2.size
    have b2 := b1.trans (hb2.mono z1)
    have s2 := s1'.later hb2 hb2.size
    clear s1' hb2
    obtain ⟨AC, cC, rfl⟩ := own_slice oc2
    go_wp2_with fail
    refine (HSC.out _ _ _ w2.heap.size w2 s2 (Nat.le_refl _)).mono ?_
    rintro e w3 ⟨vw, rfl, ow3, hb3⟩
    have z3 := hb3.size
    have b3 := b2.trans (hb3.mono (by omega))
    have oc3 := own_below oc2 hb3
    have s3 := s2.later hb3 hb3.size
    clear oc2 s2 hb3
    obtain ⟨AW, cW, rfl⟩ := own_slice ow3
    go_wp2_with fail
    refine (codeSame (own_flat oc3) (own_flat ow3)).mono ?_
    rintro e w4 ⟨rfl, hb4⟩
    have z4 := hb4.size
    have b4 := b3.trans (hb4.mono (by omega))
    have oc4 := own_below oc3 hb4
    have s4 := s3.later hb4 hb4.size
    clear oc3 ow3 hb4 s3 HIC
    rw [decide_eq_true rfl]
    go_wp2_with fail
    refine (HST.out w4 s4).mono ?_
    rintro e w5 ⟨rfl, hb5⟩
    have z5 := hb5.size
    have b5 := b4.trans (hb5.mono (by omega))
    have oc5 := own_below oc4 hb5
    have s5 := s4.later hb5 hb5.size
    clear oc4 s4 hb5 HST
    cases hok : okP L
    · clear hok
      go_wp2_with fail
      refine (HSC.out _ _ _ w5.heap.size w5 s5 (Nat.le_refl _)).mono ?_
      rintro e w6 ⟨vw, rfl, ow6, hb6⟩
      have z6 := hb6.size
      have b6 := b5.trans (hb6.mono (by omega))
      have oc6 := own_below oc5 hb6
      clear oc5 s5 hb6
      obtain ⟨AV, cV, rfl⟩ := own_slice ow6
      go_wp2_with fail
      refine (codeSame (own_flat oc6) (own_flat ow6)).mono ?_
      rintro e w7 ⟨rfl, hb7⟩
      have b7 := b6.trans (hb7.mono (by omega))
      clear oc6 ow6 hb7
      rw [decide_eq_true rfl]
      go_wp2_with fail
      go_ret
      exact ⟨rfl, b7⟩
    · have HOK := Lib.hid hok
      clear hok oc5 HSC
      have hlen := L.len_le
      have hle := s5.le
      have htop := s5.top
      unfold maxLen at htop
      go_wp2_with fail
      go_loopw [5] (fun i wr => ∃ k : Nat, k ≤ L.len ∧ i = .int .i64 k ∧ Below w5.heap.size w5 wr) (fun i _ => L.len - (intOf i).toNat)
      case atStart => exact ⟨0, Nat.zero_le _, rfl, Below.refl _ _⟩
      case round =>
        obtain ⟨k, hk, rfl, hb⟩ := hrel
        have hzr := hb.size
        have bw := b5.trans (hb.mono (by omega))
        by_cases hkm : k < L.len
        · obtain ⟨o, x, y, v, B, E, R, hd⟩ := SL.drop_cons hkm
          have sr := s5.later hb hzr
          have hA := (sr.at_ a rfl).drop k
          have hone := okP_one HOK.out hd
          have ht1 := drop_one hd
          rw [hd] at hA ht1
          have hT := hA.take 1
          rw [ht1] at hT
          obtain ⟨p0, c0, ca, cb, cn, AB, cB, AE, cE, c4, c5, sB, sE, _⟩ := hA.first
          have sX : Sl wr wr.heap.size (.cons o x y v B E .nil) (some (a.add (k * 6))) 1 (c1 - k) := ⟨rfl, by omega, by unfold maxLen; omega, (fun h => by cases h), fun p hp => by injection hp with hp; subst hp; exact hT⟩
          have HBO := Lib.hid (fun (h : okP B = true) => code_pass h)
          clear hd ht1 hA hT sr cb cn c5 sE
          by_cases h8 : o = 8
          · subst h8
            obtain ⟨q, hq, g0, g1, g2⟩ := room_code hone
            have hps := code_pass hone
            obtain ⟨zs, hzs⟩ : ∃ zs, codeX (.cons 8 x y v B E .nil) = zs := ⟨_, rfl⟩
            have HIX := Lib.hid (implCode sX (Nat.le_refl _) (by omega) (HOP.out.below bw h0))
            rw [hzs] at g0 g1 g2 hps HIX
            rw [hq] at hps HIX
            have hq29 : q + 3 ≤ 29 := hq ▸ codeN_le _
            have HPS := Lib.hid hps
            have HG := Lib.hid (And.intro g0 (And.intro g1 g2))
            clear hps hzs hq g0 g1 g2 hone sX
            go_wp2_with fail
            refine HIX.out.mono ?_
            rintro e w6 ⟨vx, rfl, ox6, hb6⟩
            have z6 := hb6.size
            have da := (hb6.cell (p := ⟨(a.add (k * 6)).block, (a.add (k * 6)).off + 1, none⟩) p0).trans ca
            have d4 := (hb6.cell (p := ⟨(a.add (k * 6)).block, (a.add (k * 6)).off + 4, none⟩) p0).trans c4
            have t6 := sB.later hb6 z6
            have b6 := bw.trans (hb6.mono (by omega))
            have bb6 : Below w5.heap.size w5 w6 := hb.trans (hb6.mono hzr)
            obtain ⟨AX, cX, rfl⟩ := own_slice ox6
            have f6 := own_flat ox6
            obtain ⟨ax, rfl⟩ := f6.some (by omega)
            obtain ⟨x0, x1, _, _⟩ := f6.four 0 (by omega)
            obtain ⟨x2, _, _, _⟩ := f6.four (q + 1) (by omega)
            rw [HG.out.1] at x0
            rw [HG.out.2.1] at x1
            have eax : ax.add (0 * 4) = ax := by unfold Addr.add; split <;> simp_all
            rw [eax] at x0 x1
            rw [HG.out.2.2] at x2
            have q0 := World.block_lt_of_cell? _ _ x0
            have ks : ∀ W, Below w6.heap.size w6 W → (W.cell? ax = some (.int .i64 8) ∧ W.cell? ⟨ax.block, ax.off + 1, none⟩ = some (.int .i64 x) ∧ W.cell? (ax.add ((q + 1) * 4)) = some (.int .i64 9) ∧ W.cell? ⟨(a.add (k * 6)).block, (a.add (k * 6)).off + 1, none⟩ = some (.int .i64 x) ∧ Below w6.heap.size w6 W) := fun W hW =>
              ⟨(hW.cell q0).trans x0, (hW.cell (p := ⟨ax.block, _, none⟩) q0).trans x1, (hW.cell (World.block_lt_of_cell? _ _ x2)).trans x2, (hW.cell (p := ⟨(a.add (k * 6)).block, _, none⟩) (by show (a.add (k * 6)).block < _; omega)).trans da, hW⟩
            have KS := Lib.hid ks
            have HCO := Lib.hid (show ∀ W, Below w6.heap.size w6 W → Calls Tryd.prog 9 #[.slice (some ax) (q + 3) cX] W fun e w' => e = .returned (.bool true) ∧ Below w6.heap.size w6 w' from fun W hW =>
              (codeOk (f6.later hW)).mono fun e w' ⟨he, hb⟩ => ⟨by rw [he, HPS.out], hW.trans (hb.mono hW.size)⟩)
            have g1 : decide (((q + 3 : Nat) : Int) < 3) = false := decide_eq_false (by omega)
            have g2 : decide ((q : Int) + 3 < 3) = false := decide_eq_false (by omega)
            have g3 : IntKind.i64.wrap (((q + 3 : Nat) : Int) - 2) = ((q + 1 : Nat) : Int) := by rw [show ((q + 3 : Nat) : Int) - 2 = ((q + 1 : Nat) : Int) by omega]; exact wrapIn _ (by omega) (by omega)
            have g4 : IntKind.i64.wrap ((q : Int) + 3 - 2) = ((q + 1 : Nat) : Int) := by rw [show (q : Int) + 3 - 2 = ((q + 1 : Nat) : Int) by omega]; exact wrapIn _ (by omega) (by omega)
            have g5 : (0 : Int) < ((q + 3 : Nat) : Int) := by omega
            have g6 : (0 : Int) < (q : Int) + 3 := by omega
            have g7 : ((q + 1 : Nat) : Int) < ((q + 3 : Nat) : Int) := by omega
            have g8 : (0 : Int) ≤ ((q + 1 : Nat) : Int) := by omega
            have g9 : (q : Int) + 1 < (q : Int) + 3 := by omega
            have g10 : (0 : Int) ≤ (q : Int) + 1 := by omega
            have g11 : (k : Int) < (L.len : Int) := by omega
            have g12 : (0 : Int) ≤ (k : Int) := by omega
            clear HIX HG ca c0 c4 sB hb6 ks eax
            go_wp2_with fail
            go_region_held3 (fun W => W.cell? ax = some (.int .i64 8) ∧ W.cell? ⟨ax.block, ax.off + 1, none⟩ = some (.int .i64 x) ∧ W.cell? (ax.add ((q + 1) * 4)) = some (.int .i64 9) ∧ W.cell? ⟨(a.add (k * 6)).block, (a.add (k * 6)).off + 1, none⟩ = some (.int .i64 x) ∧ Below w6.heap.size w6 W)
              (first | exact KS.out _ (by assumption) | exact KS.out _ (Below.refl _ _) | exact KS.out _ (Below.refl _ _).drew)
              (first
                | (go_at_call 9; refine (HCO.out _ (Below.refl w6.heap.size w6).drew).mono ?_; rintro e w7 ⟨rfl, b7⟩))
            have z7 := b7.size
            have d7 := (b7.cell (p := ⟨(a.add (k * 6)).block, (a.add (k * 6)).off + 4, none⟩) (by show (a.add (k * 6)).block < _; omega)).trans d4
            have t7 := t6.later b7 z7
            have bw7 := b6.trans (b7.mono (by omega))
            have bb7 : Below w5.heap.size w5 w7 := bb6.trans (b7.mono (by omega))
            clear b7 d4 t6 KS HCO HPS x0 x1 x2 da ox6 f6 g1 g2 g3 g4 g5 g6 g7 g8 g9 g10
            go_wp2_with fail
            refine (stmtsOk B _ _ _ w7.heap.size w7 t7 (Nat.le_refl _)).mono ?_
            rintro e w8 ⟨rfl, b8⟩
            have z8 := b8.size
            have d8 := (b8.cell (p := ⟨(a.add (k * 6)).block, (a.add (k * 6)).off + 4, none⟩) (by show (a.add (k * 6)).block < _; omega)).trans d7
            have t8 := t7.later b8 z8
            have bw8 := bw7.trans (b8.mono (by omega))
            have bb8 : Below w5.heap.size w5 w8 := bb7.trans (b8.mono (by omega))
            clear b8 d7 t7
            cases hoB : okP B
            · clear hoB
              go_wp2_with fail
              go_roundw
              case rel => exact ⟨k + 1, by omega, by go_num, bb8⟩
              case measure => simp [intOf]; omega
            · have HPB := Lib.hid (HBO.out hoB)
              clear hoB HBO
              go_wp2_with fail
              refine (implCode t8 (Nat.le_refl _) (by omega) (HOP.out.below bw8 h0)).mono ?_
              rintro e w9 ⟨vb, rfl, ob9, b9⟩
              have z9 := b9.size
              have bw9 := bw8.trans (b9.mono (by omega))
              have bb9 : Below w5.heap.size w5 w9 := bb8.trans (b9.mono (by omega))
              obtain ⟨AZ, cZ, rfl⟩ := own_slice ob9
              have f9 := own_flat ob9
              clear b9 d8 t8 ob9
              go_wp2_with fail
              refine (codeOk f9).mono ?_
              rintro e w10 ⟨rfl, b10⟩
              rw [HPB.out]
              have bb10 : Below w5.heap.size w5 w10 := bb9.trans (b10.mono (by omega))
              clear f9 b10
              go_wp2_with fail
              go_roundw
              case rel => exact ⟨k + 1, by omega, by go_num, bb10⟩
              case measure => simp [intOf]; omega
          · go_wp2_with fail
            go_roundw
            case rel => exact ⟨k + 1, by omega, by go_num, hb⟩
            case measure => simp [intOf]; omega
        · go_wp2_with fail
          go_ret
          exact ⟨rfl, bw⟩
end Go.Proofs.YtapckfapkhnbgaaDoor

/- From a walk to the statement: the row's last step where nothing old has turned, whatever came in. -/
namespace Go.Proofs.YtapckfapkhnbgaaDoor
open Go.ChangeShapes Go.WideShapes Go.ChangeAt Go.RowKit

theorem own : ownKnob Tryd.prog.godebug = none := by kernel_rfl
theorem laidOut : laidOutB Tryd.prog = true := by kernel_rfl

section
variable {H : Type} {enc : TypeId × Value → H}

variable {P : Program}
/-- The row's last step where below the heap's old size nothing has turned. -/
theorem post_below {f : Func} {s : ChangeSpec} {apart fresh handsOn again : Bool} {W W' : World} {args : Array Value} {v : Value} {ds gs : List (DataW H)} {before pa pv : List MemPlace}
    (hW : DataW.Whole enc P f.params.toList s.vars apart W args.toList ds gs before)
    (hres : ∀ (b : Nat) (sp : Nat → Bool) (hd : Bool), DataW.TrodAll enc P W' b sp hd f.resultTypes.toList (v.resultList f.resultTypes.size) (s.fn H (ds ++ gs)).results [])
    (hargs : ∀ sp : Nat → Bool, (∀ p ∈ before, sp p.block = true) → DataW.TrodAll enc P W' 0 sp true f.params.toList args.toList (s.fn H (ds ++ gs)).args pa)
    (hvars : ∀ sp : Nat → Bool, (∀ p ∈ before, sp p.block = true) → DataW.TrodVars enc P W' sp s.vars (s.fn H (ds ++ gs)).vars pv)
    (hps : before = pa ++ pv) (hb : Below W.heap.size W W')
    (hok : ∀ (j : Nat) (t : TypeId) (r : Value), f.resultTypes[j]? = some t → (v.resultList f.resultTypes.size)[j]? = some r → Value.okWide P W' .any 0 t r) :
    s.post enc P f apart fresh handsOn again W args v W' := by
  have lt : ∀ p ∈ before, p.block < W.heap.size := fun p hp => hW.lt p hp
  have old : ∀ p ∈ before, (fun b => decide (b < W.heap.size)) p.block = true := fun p hp => decide_eq_true (lt p hp)
  have frame : W.keptBut W' (fun p => p ∈ before ∧ (p ∈ ([] : List MemPlace) ∨ p ∈ pa ∨ p ∈ pv)) :=
    World.keptBut_mono (fun p hp => ⟨hp, Or.inr (by rw [hps] at hp; simpa using hp)⟩) (hb.frame (· ∈ before))
  obtain ⟨_, _, _, _, _, hz, hn⟩ := id hW
  refine ⟨ds, gs, before, [], pa, pv, hW, hres _ _ _, hargs _ old, hvars _ old, by simpa using frame, fun _ => ?_⟩
  refine ⟨hok, _, _, ([] ++ pa) ++ pv, ⟨[] ++ pa, pv, trodAll_append (hargs _ (fun _ _ => rfl)) (hres _ _ _), hvars _ (fun _ _ => rfl), rfl, fun b off hp => ?_, fun ha => ?_⟩, fun p hp _ => ?_⟩
  · have hin : MemPlace.cell b off ∈ before := by rw [hps]; simpa using hp
    rw [hb.frozen (lt _ hin)]
    exact hz b off hin
  · have := hn ha
    rw [hps] at this
    simpa using this
  · rw [hps]
    simpa using hp

/-- An argument reads behind the call as it did, whatever counts as spare. -/
theorem arg_kept {t : TypeId} (hl : laidOutB P = true) (hr : P.readableRec t = true) (hrow : t < P.types.size) {W W' : World} {v : Value} {d : DataW H} {ps : List MemPlace} {sp : Nat → Bool}
    (h : DataW.Trod enc P W 0 (fun _ => true) true t v d ps) (hb : Below W.heap.size W W') (hlt : ∀ x ∈ ps, x.block < W.heap.size) (hsp : ∀ x ∈ ps, sp x.block = true) : DataW.Trod enc P W' 0 sp true t v d ps :=
  WideElems.Trod_stays hl hr hrow h (fun x hx => hb.same (hlt x hx)) (fun x hx => hsp x hx)
end
end Go.Proofs.YtapckfapkhnbgaaDoor

/- From a walk to the statement: what a slice of bytes that comes in gives a walk, and the row's last step where nothing old has turned. -/
namespace Go.Proofs.YtapckfapkhnbgaaDoor
open Go.ChangeShapes Go.WideShapes Go.ChangeAt Go.RowKit

theorem cellsU8 : Tryd.prog.cellsOf 5 = 1 := by kernel_rfl

section
variable {H : Type} {enc : TypeId × Value → H}

set_option maxRecDepth 100000 in
/-- A slice of bytes that came in: its length fits, and each of its bytes can be read. -/
theorem open_code {W : World} {base : Nat} {v : Value} {d : DataW H} {ps : List MemPlace} (hval : Value.okWide Tryd.prog W .any base 22 v) (h : DataW.Trod enc Tryd.prog W 0 (fun _ => true) true 22 v d ps) :
    ∃ (A : Option Addr) (n c : Nat), v = .slice A n c ∧ n ≤ c ∧ c ≤ maxLen ∧ Bytes W A n := by
  obtain ⟨A, n, c, rfl⟩ := okWide_slice Tryd.underlying22 hval
  obtain ⟨fuel, hf⟩ := h
  rcases open_ints Tryd.underlying22 Tryd.underlying5 cellsU8 hf with ⟨hcs, _⟩ | ⟨a, n', c', zs, hcs, _, hl, hm, hz, _, hcell, hwz⟩
  · simp [Value.cells] at hcs
    obtain ⟨rfl, rfl, rfl⟩ := hcs
    exact ⟨none, 0, 0, rfl, Nat.le_refl _, Nat.zero_le _, fun h => absurd h (by omega)⟩
  · simp [Value.cells] at hcs
    obtain ⟨rfl, rfl, rfl⟩ := hcs
    simp only [if_true] at hz
    refine ⟨_, _, _, rfl, hl, hm, fun h0 => ⟨a, rfl, ?_, fun i hi => ?_⟩⟩
    · have := World.block_lt_of_cell? _ _ (hcell 0 (by omega))
      rwa [add_block] at this
    · have hb := range_u8 hwz i
      exact ⟨zs.getD i 0, by simpa [List.getD] using hb.1, by simpa [List.getD] using hb.2, hcell i (by omega)⟩

end
end Go.Proofs.YtapckfapkhnbgaaDoor

/- The table of the ops of plain statements: what the row's condition on it gives a walk; a start that fits; that it reads behind the call as before. -/
namespace Go.Proofs.YtapckfapkhnbgaaDoor
open Go.ChangeShapes Go.WideShapes Go.ChangeAt Go.WideMaps Go.WideElems Go.RowKit

abbrev opsName : String := "loop.example/changeringer/impl.plainOps"
theorem gOps : Tryd.prog.globalNamed opsName = some 0 := by kernel_rfl
theorem tOps : (Tryd.prog.globals[0]?).map (·.type) = some 92 := by kernel_rfl

theorem cellsI : Tryd.prog.cellsOf 3 = 1 := by kernel_rfl

/-- What the condition gives: the table's cells. -/
theorem ops_of_laid {W : World} (h : laidMetH Tryd.prog [(opsName, Rows.laid_loop_example_changeringer_impl_plainOps)] W) : Ops W ∧ 0 < W.heap.size := by
  rw [MakeChecks.laidMetH_plain _ _ _ (by kernel_rfl)] at h
  obtain ⟨ps, ⟨g0, t0, cs0, f0, p0, q0, hg0, ht0, hv0, hd0, _, _⟩, _, _⟩ := h
  obtain rfl := Option.some.inj (gOps.symm.trans hg0)
  obtain rfl := Option.some.inj (tOps.symm.trans ht0)
  obtain ⟨xs, m1, rfl, hx1, hlen, hn3, hel⟩ := DataW.trod_array Tryd.underlying92 hd0
  simp only [Prod.mk.injEq, Rows.laid_loop_example_changeringer_impl_plainOps, DataW.agg.injEq] at hx1
  have key : ∀ (j : Nat) (v : Int), j < 12 → (xs.map (·.1))[j]? = some (.lit (.int .i64 v)) → W.cell? ⟨0, j, none⟩ = some (.int .i64 v) := by
    intro j v hj hv
    have h0 := hel j hj
    rw [cellsI, Nat.mul_one] at h0
    rw [List.getElem?_map] at hv
    obtain ⟨x, hx, hxv⟩ := Option.map_eq_some_iff.1 hv
    rw [hx] at h0
    obtain ⟨k, e1, e2, _⟩ := DataW.trod_int Tryd.underlying3 h0
    have hk : k = v := by rw [e2] at hxv; simpa using hxv
    subst hk
    rw [World.var?_cell hg0 hv0]
    have e3 := congrArg (·[0]?) e1
    simpa [List.getElem?_take, List.getElem?_drop] using e3
  rw [← hx1.1] at key
  have k1 := key 1 1 (by omega) rfl
  refine ⟨⟨k1, key 2 2 (by omega) rfl, key 3 3 (by omega) rfl, key 4 4 (by omega) rfl, key 5 5 (by omega) rfl, key 9 10 (by omega) rfl, key 10 11 (by omega) rfl, key 11 12 (by omega) rfl⟩, ?_⟩
  apply Classical.byContradiction
  intro hn
  have : W.heap[0]? = none := Array.getElem?_eq_none (by omega)
  simp [World.cell?, this] at k1

theorem opsRead : Tryd.prog.readableRec 92 = true := by kernel_rfl
theorem opsRow : 92 < Tryd.prog.types.size := of_decide_eq_true (by kernel_rfl)

/-- The table reads behind the call as before. -/
theorem ops_kept {H : Type} {enc : TypeId × Value → H} {W W' : World} {gs : List (DataW H)} {ps : List MemPlace} {sp : Nat → Bool} (h : DataW.TrodVars enc Tryd.prog W (fun _ => true) [opsName] gs ps)
    (hb : Below W.heap.size W W') (hlt : ∀ x ∈ ps, x.block < W.heap.size) (hsp : ∀ x ∈ ps, sp x.block = true) : DataW.TrodVars enc Tryd.prog W' sp [opsName] gs ps := by
  obtain ⟨g, t, cs, fuel, d, p, rfl, h1, h2, h3, h4, rfl⟩ := trodVars_one h
  obtain rfl := Option.some.inj (gOps.symm.trans h1)
  obtain rfl := Option.some.inj (tOps.symm.trans h2)
  have h3' : W'.var? Tryd.prog opsName = some cs := by
    unfold World.var? at h3 ⊢
    rw [h1] at h3 ⊢
    simp only [Option.bind_some] at h3 ⊢
    have hg : 0 < W.heap.size := by
      apply Classical.byContradiction
      intro hn
      have : W.heap[0]? = none := Array.getElem?_eq_none (by omega)
      rw [this] at h3; cases h3
    rw [hb.block 0 hg]; exact h3
  exact trodVars_mk1 h1 h2 h3' (DataW.trod_stays (kids_book laidOut opsRead) (book_sized opsRead) (fun h => by cases h) ⟨opsRow, book_self _⟩ h4 (fun x hx => hb.same (hlt x (by simp [hx]))) (fun x hx => hsp x (by simp [hx])))
end Go.Proofs.YtapckfapkhnbgaaDoor

namespace Go.Proofs.YtapckfapkhnbgaaDoor.pFnCodeIn
open Go.ChangeShapes Go.WideShapes Go.ChangeAt Go.RowKit

theorem door_met (os : Os) (args : Array Value) : laidMetH Tryd.prog Rows.fnCodeInRow.laid ((World.doorLaid Tryd.prog 400 os).forCall (fun _ _ => 0) ⟨#[], args, []⟩).memory :=
  laidMetH_of_parts3 (fuel := 8) (laidMet_of_run' 8 (by kernel_rfl) (by kernel_rfl)) (by kernel_rfl) (by kernel_rfl)

set_option maxRecDepth 100000 in
theorem lifted (os : Os) (started : os.Started) (H : Type) (enc : TypeId × Value → H) :
    ReturnsInHanded {} Tryd.checked os 3 .any (fun w args => (Rows.fnCodeInSpec.pre enc Tryd.prog Tryd.f3 [] false w args ∧ laidMetH Tryd.prog Rows.fnCodeInRow.laid w) ∧ sizedMet enc Tryd.prog Tryd.f3 (OpenSpec.ofChange Rows.fnCodeInSpec) false w args) (Rows.fnCodeInSpec.post enc Tryd.prog Tryd.f3 false true false false) := by
  refine returnsInHanded_of_change_and (C := Tryd.checked) (X := fun w _ => laidMetH Tryd.prog Rows.fnCodeInRow.laid w) (fun _ _ _ hh h => h.of_heap hh) own started (by kernel_rfl) Tryd.func3
    (ChangeSpec.witness_shaped (enc := enc) (C := Tryd.checked) (os := os) (X := fun w _ => laidMetH Tryd.prog Rows.fnCodeInRow.laid w) false (World.doorLaid Tryd.prog 400 os) #[.slice none 0 0] 8 rfl (World.shaped_of_RefB (by kernel_rfl) (by kernel_rfl)) (by kernel_rfl) (by kernel_rfl) (by kernel_rfl) (door_met os _)) ?_
  intro W base args ds gs before hval0 hW _ _ hL _
  have hval : ∀ (j : Nat) t v, Tryd.f3.params[j]? = some t → args[j]? = some v → Value.okWide Tryd.prog W .any base t v := hval0
  have hW' := hW
  obtain ⟨p, q, hA0, hV, rfl, _, _⟩ := hW
  have hA : DataW.TrodAll enc Tryd.prog W 0 (fun _ => true) true Tryd.f3.params.toList args.toList ds p := hA0
  rw [Tryd.params3] at hA hval
  obtain ⟨v0, vs0, d0, ds0, p0, q0, hargs, rfl, rfl, h0, r0⟩ := trodAll_cons hA
  obtain ⟨rfl, rfl, rfl⟩ := trodAll_nil r0
  obtain rfl : args = #[v0] := by cases args; simp_all
  obtain ⟨_, _, _, _, g, _, rfl, _, _, _, _, _⟩ := trodVars_one hV
  obtain ⟨A0, n0, c0, rfl, l0, m0, b0⟩ := open_code (hval 0 22 v0 rfl rfl) h0
  obtain ⟨hop, hpos⟩ := ops_of_laid hL
  clear hA0 hval0
  simp only [List.append_nil] at hW'
  refine (wFnCodeIn A0 n0 c0 W b0 l0 m0 hpos hop).mono fun e W' ⟨he, hb⟩ => ?_
  subst he
  have lt0 : ∀ x ∈ p0 ++ q, x.block < W.heap.size := fun x hx => hW'.lt x (hx)
  have hargs' : ∀ sp : Nat → Bool, (∀ x ∈ p0, sp x.block = true) → DataW.TrodAll enc Tryd.prog W' 0 sp true [22] [.slice A0 n0 c0] [d0] (p0) := fun sp hsp => by
    have h : DataW.TrodAll enc Tryd.prog W' 0 sp true _ _ _ _ := (trodAll_cons_mk (arg_kept laidOut (by kernel_rfl) (of_decide_eq_true (by kernel_rfl)) h0 hb (fun x hx => lt0 x (by simp [hx])) (fun x hx => hsp x (hx))) trodAll_mk0)
    simpa only [List.append_nil] using h
  exact ⟨_, rfl, post_below (pa := p0) (pv := q) hW' (fun _ _ _ => (trodAll_cons_mk (shut_bool Tryd.underlying4 _) trodAll_mk0)) (fun sp hsp => hargs' sp (fun x hx => hsp x (by simp [hx]))) (fun sp hsp => ops_kept hV hb (fun x hx => lt0 x (by simp [hx])) (fun x hx => hsp x (by simp [hx]))) rfl
    hb (ok_one (by kernel_rfl) rfl (okWide_bool_mk Tryd.underlying4 _))⟩

theorem row : Rows.FnCodeInSaid :=
  OpenClaim.holds_of_wide 3 Tryd.f3 rfl rfl rfl rfl rfl rfl rfl ⟨rfl, rfl, rfl, rfl, rfl⟩ rfl rfl rfl rfl rfl (by kernel_rfl) Tryd.func3 (by kernel_rfl)
    (of_decide_eq_true (by kernel_rfl)) (by unfold Func.isWrapper; first | (rw [if_pos (by decide +kernel)]; kernel_rfl) | (rw [if_neg (by decide +kernel)]; exact ⟨rfl, rfl⟩))
    (fun os started H enc _ => lifted os started H enc)

/-- THE STATEMENT: the tied card. -/
theorem proved : Rows.FnCodeInCardSaid :=
  Claim7.holds_tied_plain_at .later [] [.data] true Rows.fnCodeInCard.stood.harness false
    row (fun _ h => by cases h) (by kernel_rfl) (fun _ h => by cases h) fnCodeIn_row_tie rfl ⟨rfl, rfl⟩ (by kernel_rfl) rfl
    (fun f fn hf hfn => by
      obtain rfl : f = 3 := Option.some.inj ((show Tryd.prog.funcNamed "loop.example/changeringer/laws.FnCodeIn" = some 3 by kernel_rfl).symm.trans hf) |>.symm
      obtain rfl : fn = Tryd.f3 := (Option.some.inj (Tryd.func3.symm.trans hfn)).symm
      exact ⟨by kernel_rfl, fun j t ht => by
        rw [Tryd.params3] at ht
        have hm : t ∈ [22] := by simpa using Array.mem_of_getElem? ht
        have hall : ([22].all fun u => !Tryd.prog.wantsStandIn u) = true := by kernel_rfl
        exact (show Tryd.prog.wantsStandIn t = false by simpa using List.all_eq_true.1 hall t hm)⟩)
    (by kernel_rfl)
#print axioms proved
end Go.Proofs.YtapckfapkhnbgaaDoor.pFnCodeIn
