/- Whether an instruction's own numbers are right, as the program asks. -/
import Derived.Test.YtnfnjhbaaefbpaaGreatDoorSlots
import Derived.Test.YtnfnjhbaaefbpaaGreatDoorNumOk
import Derived.Deep.RegionHeld3
import Derived.Deep.RegionWith
namespace Go.Proofs.YtnfnjhbaaefbpaaGreatDoor
open Go.ChangeShapes Go.WideShapes Go.ChangeAt Go.RowKit

theorem below_drewN' {B : Nat} {a w : World} (h : Below B a w) (n : Nat) : Below B a (w.drewN n) := ⟨h.os, h.tape, h.output, h.size, h.block⟩
/-- What a function value of a field answers; without one it is to be nought. -/
def Says (w : World) : Option (Nat × Array Value) → (Int → Bool) → Prop
  | none, φ => ∀ x, φ x = decide (x = 0)
  | some (F, cs), φ => (cs = #[] ∨ ∃ p, cs = #[p]) ∧ ∀ (x : Int) (W : World), Below w.heap.size w W → Calls Tryz.prog F (#[.int .i64 x] ++ cs) W fun e W' => e = .returned (.bool (φ x)) ∧ ∃ k, W' = W.drewN k

theorem nilEq (W : World) : (binOp .eql 64 .nilFunc .nilFunc).run Tryz.prog W = .ok (.bool true) W := by kernel_rfl
theorem nilNe (W : World) : (binOp .neq 64 .nilFunc .nilFunc).run Tryz.prog W = .ok (.bool false) W := by kernel_rfl
theorem fnEq (F : Nat) (cs : Array Value) (W : World) : (binOp .eql 64 (.func (Fn.func F) #[] cs) .nilFunc).run Tryz.prog W = .ok (.bool false) W := by kernel_rfl
theorem fnNe (F : Nat) (cs : Array Value) (W : World) : (binOp .neq 64 (.func (Fn.func F) #[] cs) .nilFunc).run Tryz.prog W = .ok (.bool true) W := by kernel_rfl
theorem ix0 (p0 p1 p2 f0 f1 f2 : Value) (W : World) : (Instr.index 74 (.agg #[p0, f0, p1, f1, p2, f2]) (.int .i64 0)).run Tryz.prog W = .ok (.agg #[p0, f0]) W := by kernel_rfl
theorem ix1 (p0 p1 p2 f0 f1 f2 : Value) (W : World) : (Instr.index 74 (.agg #[p0, f0, p1, f1, p2, f2]) (.int .i64 1)).run Tryz.prog W = .ok (.agg #[p1, f1]) W := by kernel_rfl
theorem ix2 (p0 p1 p2 f0 f1 f2 : Value) (W : World) : (Instr.index 74 (.agg #[p0, f0, p1, f1, p2, f2]) (.int .i64 2)).run Tryz.prog W = .ok (.agg #[p2, f2]) W := by kernel_rfl

set_option maxRecDepth 100000 in
set_option maxHeartbeats 4000000 in
theorem fits_of (k : Nat) (a b t : Int) (g : Nat) (s : ByteArray) (o0 o1 o2 o3 : Option (Nat × Array Value)) (φ0 φ1 φ2 : Int → Bool) (w : World) (hk0k : 1 ≤ k) (hk : k ≤ 13)
    (c0 : w.cell? ⟨g, k * 5, none⟩ = some (.string s)) (c1 : w.cell? ⟨g, k * 5 + 1, none⟩ = some (fo o0)) (c2 : w.cell? ⟨g, k * 5 + 2, none⟩ = some (fo o1)) (c3 : w.cell? ⟨g, k * 5 + 3, none⟩ = some (fo o2)) (c4 : w.cell? ⟨g, k * 5 + 4, none⟩ = some (fo o3))
    (s0 : Says w o0 φ0) (s1 : Says w o1 φ1) (s2 : Says w o2 φ2)
    (hk0 : o0 = none ∨ o0 = some (40, #[]) ∨ o0 = some (43, #[]) ∨ o0 = some (44, #[]) ∨ o0 = some (47, #[])) (hk1 : o1 = none ∨ o1 = some (40, #[]) ∨ o1 = some (43, #[]))
    (hk2 : o2 = none ∨ o2 = some (41, #[]) ∨ o2 = some (42, #[]) ∨ ∃ p, o2 = some (39, #[p])) :
    Calls Tryz.prog 25 #[.pointer (some ⟨g, 0, none⟩), .agg #[.int .i64 k, .int .i64 a, .int .i64 b, .int .i64 t]] w fun e w' => e = .returned (.bool (φ0 a && φ1 b && φ2 t)) ∧ Below w.heap.size w w' := by
  have HK := Lib.hid (And.intro hk0 (And.intro hk1 hk2))
  clear hk0 hk1 hk2
  have S0 := Lib.hid s0
  have S1 := Lib.hid s1
  have S2 := Lib.hid s2
  clear s0 s1 s2
  have hg : g < w.heap.size := World.block_lt_of_cell? _ _ c0
  have HSL := Lib.hid (fun p W => slots o0 o1 o2 (fo o3) p s W)
  generalize h0 : fo o0 = f0 at *
  generalize h1 : fo o1 = f1 at *
  generalize h2 : fo o2 = f2 at *
  generalize h3 : fo o3 = f3 at *
  have H0 := Lib.hid h0
  have H1 := Lib.hid h1
  have H2 := Lib.hid h2
  clear h0 h1 h2 h3
  go_enter Tryz.func25, Tryz.ntmps25
  go_wp2_with fail
  have nr := (MapKept.heap_alloc w (.cells #[.int .i64 k, .int .i64 a, .int .i64 b, .int .i64 t] 34)).1
  have bA : Below w.heap.size w (w.alloc (.cells #[.int .i64 k, .int .i64 a, .int .i64 b, .int .i64 t] 34)) := (Below.refl _ _).alloc (Nat.le_refl _) _
  generalize hwA : w.alloc (.cells #[.int .i64 k, .int .i64 a, .int .i64 b, .int .i64 t] 34) = wA at *
  have zA : wA.heap.size = w.heap.size + 1 := by rw [← hwA]; simp
  clear hwA
  have i0 : wA.cell? ⟨w.heap.size, 0, none⟩ = some (.int .i64 k) := by simp [World.cell?, nr]
  have i1 : wA.cell? ⟨w.heap.size, 1, none⟩ = some (.int .i64 a) := by simp [World.cell?, nr]
  have i2 : wA.cell? ⟨w.heap.size, 2, none⟩ = some (.int .i64 b) := by simp [World.cell?, nr]
  have i3 : wA.cell? ⟨w.heap.size, 3, none⟩ = some (.int .i64 t) := by simp [World.cell?, nr]
  have ks : ∀ W, Below wA.heap.size wA W → (W.cell? ⟨w.heap.size, 0, none⟩ = some (.int .i64 k) ∧ W.cell? ⟨g, k * 5, none⟩ = some (.string s) ∧ W.cell? ⟨g, k * 5 + 1, none⟩ = some f0 ∧ W.cell? ⟨g, k * 5 + 2, none⟩ = some f1 ∧ W.cell? ⟨g, k * 5 + 3, none⟩ = some f2 ∧ W.cell? ⟨g, k * 5 + 4, none⟩ = some f3 ∧ Below wA.heap.size wA W) := fun W hW => by
    have hc : ∀ o : Nat, W.cell? ⟨g, o, none⟩ = w.cell? ⟨g, o, none⟩ := fun o => (hW.cell (p := ⟨g, o, none⟩) (show g < wA.heap.size by omega)).trans (bA.cell (p := ⟨g, o, none⟩) hg)
    exact ⟨(hW.cell (p := ⟨w.heap.size, 0, none⟩) (show w.heap.size < wA.heap.size by omega)).trans i0, (hc _).trans c0, (hc _).trans c1, (hc _).trans c2, (hc _).trans c3, (hc _).trans c4, hW⟩
  have KS := Lib.hid ks
  have hk14 : k < 14 := by omega
  have hk14' : (k : Int) < 14 := by omega
  have hk0' : (0 : Int) ≤ (k : Int) := by omega
  have hc : ∀ o : Nat, wA.cell? ⟨g, o, none⟩ = w.cell? ⟨g, o, none⟩ := fun o => bA.cell (p := ⟨g, o, none⟩) hg
  rw [← hc] at c0 c1 c2 c3 c4
  clear ks hc nr
  go_region_held3 (fun W => W.cell? ⟨w.heap.size, 0, none⟩ = some (.int .i64 k) ∧ W.cell? ⟨g, k * 5, none⟩ = some (.string s) ∧ W.cell? ⟨g, k * 5 + 1, none⟩ = some f0 ∧ W.cell? ⟨g, k * 5 + 2, none⟩ = some f1 ∧ W.cell? ⟨g, k * 5 + 3, none⟩ = some f2 ∧ W.cell? ⟨g, k * 5 + 4, none⟩ = some f3 ∧ Below wA.heap.size wA W)
    (first | exact KS.out _ (by assumption) | exact KS.out _ (Below.refl _ _) | exact KS.out _ (Below.refl _ _).drew)
    (first
      | (go_at_call 50; refine (HSL.out _ _).mono ?_; rintro e w1 ⟨rfl, hb1⟩
         have hb1' : Below wA.heap.size wA w1 := (Below.refl wA.heap.size wA).drew.trans hb1))
  go_wp2_with fail
  go_loopw [22] (fun i wr => ∃ j : Nat, j ≤ 3 ∧ i = .int .i64 j ∧ (0 < j → φ0 a = true) ∧ (1 < j → φ1 b = true) ∧ (2 < j → φ2 t = true) ∧ Below wA.heap.size wA wr) (fun i _ => 3 - (intOf i).toNat)
  case atStart => exact ⟨0, by omega, rfl, fun h => by omega, fun h => by omega, fun h => by omega, hb1'⟩
  case round =>
    obtain ⟨j, hj, rfl, p0, p1, p2, hb⟩ := hrel
    have hzr := hb.size
    have P0 := Lib.hid (And.intro p0 (And.intro p1 p2))
    clear p0 p1 p2
    by_cases hlt : j < 3
    · obtain ⟨hk0, hk1, hk2⟩ := HK.out
      rcases (by omega : j = 0 ∨ j = 1 ∨ j = 2) with rfl | rfl | rfl
      · have cx := (hb.cell (p := ⟨w.heap.size, 1, none⟩) (show w.heap.size < wA.heap.size by omega)).trans i1
        have hs0 := S0.out
        have hf0 := H0.out
        have bw : w.heap.size < wr.heap.size := by omega
        have hix := @ix0
        rcases hk0 with rfl | rfl | rfl | rfl | rfl
        · have hph : φ0 a = decide (a = 0) := hs0 a
          simp only [fo] at hf0
          subst hf0
          clear hs0 c0 c1 c2 c3 c4 i0 i1 i2 i3 hb1 KS
          have hfe := nilEq
          have hfn := nilNe
          by_cases hx0 : a = 0
          · rw [decide_eq_true hx0] at hph
            have HPH := Lib.hid hph
            have P1 := Lib.hid (show (0 < 1 → φ0 a = true) ∧ (1 < 1 → φ1 b = true) ∧ (2 < 1 → φ2 t = true) from ⟨fun _ => HPH.out, fun h => by omega, fun h => by omega⟩)
            rw [hx0] at cx
            clear hph hx0
            go_wp2_with fail
            have nr := (MapKept.heap_alloc wr (.cells #[.pointer (some ⟨w.heap.size, 1, none⟩), .nilFunc] 73)).1
            have bB : Below wr.heap.size wr (wr.alloc (.cells #[.pointer (some ⟨w.heap.size, 1, none⟩), .nilFunc] 73)) := (Below.refl _ _).alloc (Nat.le_refl _) _
            generalize hwB : wr.alloc (.cells #[.pointer (some ⟨w.heap.size, 1, none⟩), .nilFunc] 73) = wB at *
            have zB : wB.heap.size = wr.heap.size + 1 := by rw [← hwB]; simp
            clear hwB
            have q0 : wB.cell? ⟨wr.heap.size, 0, none⟩ = some (.pointer (some ⟨w.heap.size, 1, none⟩)) := by simp [World.cell?, nr]
            have q1 : wB.cell? ⟨wr.heap.size, 1, none⟩ = some (.nilFunc) := by simp [World.cell?, nr]
            have q2 : wB.cell? ⟨w.heap.size, 1, none⟩ = some (.int .i64 0) := (bB.cell (p := ⟨w.heap.size, 1, none⟩) (show w.heap.size < wr.heap.size by omega)).trans cx
            clear nr cx
            go_region
            all_goals (try go_wp2)
            have hbz : Below wA.heap.size wA wB.drew := hb.trans (bB.mono hzr).drew
            exact ⟨⟨1, by omega, rfl, by first | exact P1.out.1 | exact fun _ => trivial, by first | exact P1.out.2.1 | exact fun _ => trivial, by first | exact P1.out.2.2 | exact fun _ => trivial, hbz⟩, by simp [intOf]⟩
          · rw [decide_eq_false hx0] at hph
            have HPH := Lib.hid hph
            have hx1 : (a != 0) = true := by simpa using hx0
            have hx2 : (a == 0) = false := by simpa using hx0
            clear hph hx0
            go_wp2_with fail
            have nr := (MapKept.heap_alloc wr (.cells #[.pointer (some ⟨w.heap.size, 1, none⟩), .nilFunc] 73)).1
            have bB : Below wr.heap.size wr (wr.alloc (.cells #[.pointer (some ⟨w.heap.size, 1, none⟩), .nilFunc] 73)) := (Below.refl _ _).alloc (Nat.le_refl _) _
            generalize hwB : wr.alloc (.cells #[.pointer (some ⟨w.heap.size, 1, none⟩), .nilFunc] 73) = wB at *
            have zB : wB.heap.size = wr.heap.size + 1 := by rw [← hwB]; simp
            clear hwB
            have q0 : wB.cell? ⟨wr.heap.size, 0, none⟩ = some (.pointer (some ⟨w.heap.size, 1, none⟩)) := by simp [World.cell?, nr]
            have q1 : wB.cell? ⟨wr.heap.size, 1, none⟩ = some (.nilFunc) := by simp [World.cell?, nr]
            have q2 : wB.cell? ⟨w.heap.size, 1, none⟩ = some (.int .i64 a) := (bB.cell (p := ⟨w.heap.size, 1, none⟩) (show w.heap.size < wr.heap.size by omega)).trans cx
            clear nr cx
            go_region
            all_goals (try go_wp2)
            have bz : Below w.heap.size w wB.drew := (bA.trans (hb.mono (by omega))).trans (bB.mono (by omega)).drew
            go_ret
            exact ⟨by rw [HPH.out]; simp, bz⟩
        · obtain ⟨hcs, hcall⟩ := hs0
          have HC := Lib.hid (hcall a)
          clear hcall hcs c0 c1 c2 c3 c4 i0 i1 i2 i3 hb1 KS
          simp only [fo] at hf0
          subst hf0
          have hcc := fun (W : World) (hW : Below w.heap.size w W) => HC.out W hW
          have hfe := fnEq
          have hfn := fnNe
          cases hph : φ0 a
          · rw [hph] at hcc
            have HPH := Lib.hid hph
            have HCC := Lib.hid hcc
            clear hph hcc HC
            go_wp2_with fail
            have nr := (MapKept.heap_alloc wr (.cells #[.pointer (some ⟨w.heap.size, 1, none⟩), .func (Fn.func 40) #[] #[]] 73)).1
            have bB : Below wr.heap.size wr (wr.alloc (.cells #[.pointer (some ⟨w.heap.size, 1, none⟩), .func (Fn.func 40) #[] #[]] 73)) := (Below.refl _ _).alloc (Nat.le_refl _) _
            generalize hwB : wr.alloc (.cells #[.pointer (some ⟨w.heap.size, 1, none⟩), .func (Fn.func 40) #[] #[]] 73) = wB at *
            have zB : wB.heap.size = wr.heap.size + 1 := by rw [← hwB]; simp
            clear hwB
            have q0 : wB.cell? ⟨wr.heap.size, 0, none⟩ = some (.pointer (some ⟨w.heap.size, 1, none⟩)) := by simp [World.cell?, nr]
            have q1 : wB.cell? ⟨wr.heap.size, 1, none⟩ = some (.func (Fn.func 40) #[] #[]) := by simp [World.cell?, nr]
            have q2 : wB.cell? ⟨w.heap.size, 1, none⟩ = some (.int .i64 a) := (bB.cell (p := ⟨w.heap.size, 1, none⟩) (show w.heap.size < wr.heap.size by omega)).trans cx
            clear nr cx
            have hBW : ∀ W, Below wB.heap.size wB W → Below w.heap.size w W := fun W hW => (bA.trans (hb.mono (by omega))).trans ((bB.mono (by omega)).trans (hW.mono (by omega)))
            have HBW := Lib.hid hBW
            clear hBW
            go_quiet (first
              | (go_at_call 40; exact Calls.quiet_of (HCC.out _ (HBW.out _ (below_drewN' (Below.refl _ _) _)))))
            all_goals (try go_wp2)
            all_goals
             have bz := HBW.out _ (below_drewN' (Below.refl _ _) nq)
             go_ret
             exact ⟨by rw [HPH.out]; simp, bz⟩
          · rw [hph] at hcc
            have HPH := Lib.hid hph
            have HCC := Lib.hid hcc
            have P1 := Lib.hid (show (0 < 1 → φ0 a = true) ∧ (1 < 1 → φ1 b = true) ∧ (2 < 1 → φ2 t = true) from ⟨fun _ => HPH.out, fun h => by omega, fun h => by omega⟩)
            clear hph hcc HC
            go_wp2_with fail
            have nr := (MapKept.heap_alloc wr (.cells #[.pointer (some ⟨w.heap.size, 1, none⟩), .func (Fn.func 40) #[] #[]] 73)).1
            have bB : Below wr.heap.size wr (wr.alloc (.cells #[.pointer (some ⟨w.heap.size, 1, none⟩), .func (Fn.func 40) #[] #[]] 73)) := (Below.refl _ _).alloc (Nat.le_refl _) _
            generalize hwB : wr.alloc (.cells #[.pointer (some ⟨w.heap.size, 1, none⟩), .func (Fn.func 40) #[] #[]] 73) = wB at *
            have zB : wB.heap.size = wr.heap.size + 1 := by rw [← hwB]; simp
            clear hwB
            have q0 : wB.cell? ⟨wr.heap.size, 0, none⟩ = some (.pointer (some ⟨w.heap.size, 1, none⟩)) := by simp [World.cell?, nr]
            have q1 : wB.cell? ⟨wr.heap.size, 1, none⟩ = some (.func (Fn.func 40) #[] #[]) := by simp [World.cell?, nr]
            have q2 : wB.cell? ⟨w.heap.size, 1, none⟩ = some (.int .i64 a) := (bB.cell (p := ⟨w.heap.size, 1, none⟩) (show w.heap.size < wr.heap.size by omega)).trans cx
            clear nr cx
            have hBW : ∀ W, Below wB.heap.size wB W → Below w.heap.size w W := fun W hW => (bA.trans (hb.mono (by omega))).trans ((bB.mono (by omega)).trans (hW.mono (by omega)))
            have HBW := Lib.hid hBW
            clear hBW
            go_quiet (first
              | (go_at_call 40; exact Calls.quiet_of (HCC.out _ (HBW.out _ (below_drewN' (Below.refl _ _) _)))))
            all_goals (try go_wp2)
            all_goals
             have hbz : Below wA.heap.size wA (wB.drewN nq) := hb.trans (below_drewN' (bB.mono hzr) nq)
             exact ⟨⟨1, by omega, rfl, by first | exact P1.out.1 | exact fun _ => trivial, by first | exact P1.out.2.1 | exact fun _ => trivial, by first | exact P1.out.2.2 | exact fun _ => trivial, hbz⟩, by simp [intOf]⟩
        · obtain ⟨hcs, hcall⟩ := hs0
          have HC := Lib.hid (hcall a)
          clear hcall hcs c0 c1 c2 c3 c4 i0 i1 i2 i3 hb1 KS
          simp only [fo] at hf0
          subst hf0
          have hcc := fun (W : World) (hW : Below w.heap.size w W) => HC.out W hW
          have hfe := fnEq
          have hfn := fnNe
          cases hph : φ0 a
          · rw [hph] at hcc
            have HPH := Lib.hid hph
            have HCC := Lib.hid hcc
            clear hph hcc HC
            go_wp2_with fail
            have nr := (MapKept.heap_alloc wr (.cells #[.pointer (some ⟨w.heap.size, 1, none⟩), .func (Fn.func 43) #[] #[]] 73)).1
            have bB : Below wr.heap.size wr (wr.alloc (.cells #[.pointer (some ⟨w.heap.size, 1, none⟩), .func (Fn.func 43) #[] #[]] 73)) := (Below.refl _ _).alloc (Nat.le_refl _) _
            generalize hwB : wr.alloc (.cells #[.pointer (some ⟨w.heap.size, 1, none⟩), .func (Fn.func 43) #[] #[]] 73) = wB at *
            have zB : wB.heap.size = wr.heap.size + 1 := by rw [← hwB]; simp
            clear hwB
            have q0 : wB.cell? ⟨wr.heap.size, 0, none⟩ = some (.pointer (some ⟨w.heap.size, 1, none⟩)) := by simp [World.cell?, nr]
            have q1 : wB.cell? ⟨wr.heap.size, 1, none⟩ = some (.func (Fn.func 43) #[] #[]) := by simp [World.cell?, nr]
            have q2 : wB.cell? ⟨w.heap.size, 1, none⟩ = some (.int .i64 a) := (bB.cell (p := ⟨w.heap.size, 1, none⟩) (show w.heap.size < wr.heap.size by omega)).trans cx
            clear nr cx
            have hBW : ∀ W, Below wB.heap.size wB W → Below w.heap.size w W := fun W hW => (bA.trans (hb.mono (by omega))).trans ((bB.mono (by omega)).trans (hW.mono (by omega)))
            have HBW := Lib.hid hBW
            clear hBW
            go_quiet (first
              | (go_at_call 43; exact Calls.quiet_of (HCC.out _ (HBW.out _ (below_drewN' (Below.refl _ _) _)))))
            all_goals (try go_wp2)
            all_goals
             have bz := HBW.out _ (below_drewN' (Below.refl _ _) nq)
             go_ret
             exact ⟨by rw [HPH.out]; simp, bz⟩
          · rw [hph] at hcc
            have HPH := Lib.hid hph
            have HCC := Lib.hid hcc
            have P1 := Lib.hid (show (0 < 1 → φ0 a = true) ∧ (1 < 1 → φ1 b = true) ∧ (2 < 1 → φ2 t = true) from ⟨fun _ => HPH.out, fun h => by omega, fun h => by omega⟩)
            clear hph hcc HC
            go_wp2_with fail
            have nr := (MapKept.heap_alloc wr (.cells #[.pointer (some ⟨w.heap.size, 1, none⟩), .func (Fn.func 43) #[] #[]] 73)).1
            have bB : Below wr.heap.size wr (wr.alloc (.cells #[.pointer (some ⟨w.heap.size, 1, none⟩), .func (Fn.func 43) #[] #[]] 73)) := (Below.refl _ _).alloc (Nat.le_refl _) _
            generalize hwB : wr.alloc (.cells #[.pointer (some ⟨w.heap.size, 1, none⟩), .func (Fn.func 43) #[] #[]] 73) = wB at *
            have zB : wB.heap.size = wr.heap.size + 1 := by rw [← hwB]; simp
            clear hwB
            have q0 : wB.cell? ⟨wr.heap.size, 0, none⟩ = some (.pointer (some ⟨w.heap.size, 1, none⟩)) := by simp [World.cell?, nr]
            have q1 : wB.cell? ⟨wr.heap.size, 1, none⟩ = some (.func (Fn.func 43) #[] #[]) := by simp [World.cell?, nr]
            have q2 : wB.cell? ⟨w.heap.size, 1, none⟩ = some (.int .i64 a) := (bB.cell (p := ⟨w.heap.size, 1, none⟩) (show w.heap.size < wr.heap.size by omega)).trans cx
            clear nr cx
            have hBW : ∀ W, Below wB.heap.size wB W → Below w.heap.size w W := fun W hW => (bA.trans (hb.mono (by omega))).trans ((bB.mono (by omega)).trans (hW.mono (by omega)))
            have HBW := Lib.hid hBW
            clear hBW
            go_quiet (first
              | (go_at_call 43; exact Calls.quiet_of (HCC.out _ (HBW.out _ (below_drewN' (Below.refl _ _) _)))))
            all_goals (try go_wp2)
            all_goals
             have hbz : Below wA.heap.size wA (wB.drewN nq) := hb.trans (below_drewN' (bB.mono hzr) nq)
             exact ⟨⟨1, by omega, rfl, by first | exact P1.out.1 | exact fun _ => trivial, by first | exact P1.out.2.1 | exact fun _ => trivial, by first | exact P1.out.2.2 | exact fun _ => trivial, hbz⟩, by simp [intOf]⟩
        · obtain ⟨hcs, hcall⟩ := hs0
          have HC := Lib.hid (hcall a)
          clear hcall hcs c0 c1 c2 c3 c4 i0 i1 i2 i3 hb1 KS
          simp only [fo] at hf0
          subst hf0
          have hcc := fun (W : World) (hW : Below w.heap.size w W) => HC.out W hW
          have hfe := fnEq
          have hfn := fnNe
          cases hph : φ0 a
          · rw [hph] at hcc
            have HPH := Lib.hid hph
            have HCC := Lib.hid hcc
            clear hph hcc HC
            go_wp2_with fail
            have nr := (MapKept.heap_alloc wr (.cells #[.pointer (some ⟨w.heap.size, 1, none⟩), .func (Fn.func 44) #[] #[]] 73)).1
            have bB : Below wr.heap.size wr (wr.alloc (.cells #[.pointer (some ⟨w.heap.size, 1, none⟩), .func (Fn.func 44) #[] #[]] 73)) := (Below.refl _ _).alloc (Nat.le_refl _) _
            generalize hwB : wr.alloc (.cells #[.pointer (some ⟨w.heap.size, 1, none⟩), .func (Fn.func 44) #[] #[]] 73) = wB at *
            have zB : wB.heap.size = wr.heap.size + 1 := by rw [← hwB]; simp
            clear hwB
            have q0 : wB.cell? ⟨wr.heap.size, 0, none⟩ = some (.pointer (some ⟨w.heap.size, 1, none⟩)) := by simp [World.cell?, nr]
            have q1 : wB.cell? ⟨wr.heap.size, 1, none⟩ = some (.func (Fn.func 44) #[] #[]) := by simp [World.cell?, nr]
            have q2 : wB.cell? ⟨w.heap.size, 1, none⟩ = some (.int .i64 a) := (bB.cell (p := ⟨w.heap.size, 1, none⟩) (show w.heap.size < wr.heap.size by omega)).trans cx
            clear nr cx
            have hBW : ∀ W, Below wB.heap.size wB W → Below w.heap.size w W := fun W hW => (bA.trans (hb.mono (by omega))).trans ((bB.mono (by omega)).trans (hW.mono (by omega)))
            have HBW := Lib.hid hBW
            clear hBW
            go_quiet (first
              | (go_at_call 44; exact Calls.quiet_of (HCC.out _ (HBW.out _ (below_drewN' (Below.refl _ _) _)))))
            all_goals (try go_wp2)
            all_goals
             have bz := HBW.out _ (below_drewN' (Below.refl _ _) nq)
             go_ret
             exact ⟨by rw [HPH.out]; simp, bz⟩
          · rw [hph] at hcc
            have HPH := Lib.hid hph
            have HCC := Lib.hid hcc
            have P1 := Lib.hid (show (0 < 1 → φ0 a = true) ∧ (1 < 1 → φ1 b = true) ∧ (2 < 1 → φ2 t = true) from ⟨fun _ => HPH.out, fun h => by omega, fun h => by omega⟩)
            clear hph hcc HC
            go_wp2_with fail
            have nr := (MapKept.heap_alloc wr (.cells #[.pointer (some ⟨w.heap.size, 1, none⟩), .func (Fn.func 44) #[] #[]] 73)).1
            have bB : Below wr.heap.size wr (wr.alloc (.cells #[.pointer (some ⟨w.heap.size, 1, none⟩), .func (Fn.func 44) #[] #[]] 73)) := (Below.refl _ _).alloc (Nat.le_refl _) _
            generalize hwB : wr.alloc (.cells #[.pointer (some ⟨w.heap.size, 1, none⟩), .func (Fn.func 44) #[] #[]] 73) = wB at *
            have zB : wB.heap.size = wr.heap.size + 1 := by rw [← hwB]; simp
            clear hwB
            have q0 : wB.cell? ⟨wr.heap.size, 0, none⟩ = some (.pointer (some ⟨w.heap.size, 1, none⟩)) := by simp [World.cell?, nr]
            have q1 : wB.cell? ⟨wr.heap.size, 1, none⟩ = some (.func (Fn.func 44) #[] #[]) := by simp [World.cell?, nr]
            have q2 : wB.cell? ⟨w.heap.size, 1, none⟩ = some (.int .i64 a) := (bB.cell (p := ⟨w.heap.size, 1, none⟩) (show w.heap.size < wr.heap.size by omega)).trans cx
            clear nr cx
            have hBW : ∀ W, Below wB.heap.size wB W → Below w.heap.size w W := fun W hW => (bA.trans (hb.mono (by omega))).trans ((bB.mono (by omega)).trans (hW.mono (by omega)))
            have HBW := Lib.hid hBW
            clear hBW
            go_quiet (first
              | (go_at_call 44; exact Calls.quiet_of (HCC.out _ (HBW.out _ (below_drewN' (Below.refl _ _) _)))))
            all_goals (try go_wp2)
            all_goals
             have hbz : Below wA.heap.size wA (wB.drewN nq) := hb.trans (below_drewN' (bB.mono hzr) nq)
             exact ⟨⟨1, by omega, rfl, by first | exact P1.out.1 | exact fun _ => trivial, by first | exact P1.out.2.1 | exact fun _ => trivial, by first | exact P1.out.2.2 | exact fun _ => trivial, hbz⟩, by simp [intOf]⟩
        · obtain ⟨hcs, hcall⟩ := hs0
          have HC := Lib.hid (hcall a)
          clear hcall hcs c0 c1 c2 c3 c4 i0 i1 i2 i3 hb1 KS
          simp only [fo] at hf0
          subst hf0
          have hcc := fun (W : World) (hW : Below w.heap.size w W) => HC.out W hW
          have hfe := fnEq
          have hfn := fnNe
          cases hph : φ0 a
          · rw [hph] at hcc
            have HPH := Lib.hid hph
            have HCC := Lib.hid hcc
            clear hph hcc HC
            go_wp2_with fail
            have nr := (MapKept.heap_alloc wr (.cells #[.pointer (some ⟨w.heap.size, 1, none⟩), .func (Fn.func 47) #[] #[]] 73)).1
            have bB : Below wr.heap.size wr (wr.alloc (.cells #[.pointer (some ⟨w.heap.size, 1, none⟩), .func (Fn.func 47) #[] #[]] 73)) := (Below.refl _ _).alloc (Nat.le_refl _) _
            generalize hwB : wr.alloc (.cells #[.pointer (some ⟨w.heap.size, 1, none⟩), .func (Fn.func 47) #[] #[]] 73) = wB at *
            have zB : wB.heap.size = wr.heap.size + 1 := by rw [← hwB]; simp
            clear hwB
            have q0 : wB.cell? ⟨wr.heap.size, 0, none⟩ = some (.pointer (some ⟨w.heap.size, 1, none⟩)) := by simp [World.cell?, nr]
            have q1 : wB.cell? ⟨wr.heap.size, 1, none⟩ = some (.func (Fn.func 47) #[] #[]) := by simp [World.cell?, nr]
            have q2 : wB.cell? ⟨w.heap.size, 1, none⟩ = some (.int .i64 a) := (bB.cell (p := ⟨w.heap.size, 1, none⟩) (show w.heap.size < wr.heap.size by omega)).trans cx
            clear nr cx
            have hBW : ∀ W, Below wB.heap.size wB W → Below w.heap.size w W := fun W hW => (bA.trans (hb.mono (by omega))).trans ((bB.mono (by omega)).trans (hW.mono (by omega)))
            have HBW := Lib.hid hBW
            clear hBW
            go_quiet (first
              | (go_at_call 47; exact Calls.quiet_of (HCC.out _ (HBW.out _ (below_drewN' (Below.refl _ _) _)))))
            all_goals (try go_wp2)
            all_goals
             have bz := HBW.out _ (below_drewN' (Below.refl _ _) nq)
             go_ret
             exact ⟨by rw [HPH.out]; simp, bz⟩
          · rw [hph] at hcc
            have HPH := Lib.hid hph
            have HCC := Lib.hid hcc
            have P1 := Lib.hid (show (0 < 1 → φ0 a = true) ∧ (1 < 1 → φ1 b = true) ∧ (2 < 1 → φ2 t = true) from ⟨fun _ => HPH.out, fun h => by omega, fun h => by omega⟩)
            clear hph hcc HC
            go_wp2_with fail
            have nr := (MapKept.heap_alloc wr (.cells #[.pointer (some ⟨w.heap.size, 1, none⟩), .func (Fn.func 47) #[] #[]] 73)).1
            have bB : Below wr.heap.size wr (wr.alloc (.cells #[.pointer (some ⟨w.heap.size, 1, none⟩), .func (Fn.func 47) #[] #[]] 73)) := (Below.refl _ _).alloc (Nat.le_refl _) _
            generalize hwB : wr.alloc (.cells #[.pointer (some ⟨w.heap.size, 1, none⟩), .func (Fn.func 47) #[] #[]] 73) = wB at *
            have zB : wB.heap.size = wr.heap.size + 1 := by rw [← hwB]; simp
            clear hwB
            have q0 : wB.cell? ⟨wr.heap.size, 0, none⟩ = some (.pointer (some ⟨w.heap.size, 1, none⟩)) := by simp [World.cell?, nr]
            have q1 : wB.cell? ⟨wr.heap.size, 1, none⟩ = some (.func (Fn.func 47) #[] #[]) := by simp [World.cell?, nr]
            have q2 : wB.cell? ⟨w.heap.size, 1, none⟩ = some (.int .i64 a) := (bB.cell (p := ⟨w.heap.size, 1, none⟩) (show w.heap.size < wr.heap.size by omega)).trans cx
            clear nr cx
            have hBW : ∀ W, Below wB.heap.size wB W → Below w.heap.size w W := fun W hW => (bA.trans (hb.mono (by omega))).trans ((bB.mono (by omega)).trans (hW.mono (by omega)))
            have HBW := Lib.hid hBW
            clear hBW
            go_quiet (first
              | (go_at_call 47; exact Calls.quiet_of (HCC.out _ (HBW.out _ (below_drewN' (Below.refl _ _) _)))))
            all_goals (try go_wp2)
            all_goals
             have hbz : Below wA.heap.size wA (wB.drewN nq) := hb.trans (below_drewN' (bB.mono hzr) nq)
             exact ⟨⟨1, by omega, rfl, by first | exact P1.out.1 | exact fun _ => trivial, by first | exact P1.out.2.1 | exact fun _ => trivial, by first | exact P1.out.2.2 | exact fun _ => trivial, hbz⟩, by simp [intOf]⟩
      · have cx := (hb.cell (p := ⟨w.heap.size, 2, none⟩) (show w.heap.size < wA.heap.size by omega)).trans i2
        have hs0 := S1.out
        have hf0 := H1.out
        have bw : w.heap.size < wr.heap.size := by omega
        have hix := @ix1
        rcases hk1 with rfl | rfl | rfl
        · have hph : φ1 b = decide (b = 0) := hs0 b
          simp only [fo] at hf0
          subst hf0
          clear hs0 c0 c1 c2 c3 c4 i0 i1 i2 i3 hb1 KS
          have hfe := nilEq
          have hfn := nilNe
          by_cases hx0 : b = 0
          · rw [decide_eq_true hx0] at hph
            have HPH := Lib.hid hph
            have P1 := Lib.hid (show (0 < 2 → φ0 a = true) ∧ (1 < 2 → φ1 b = true) ∧ (2 < 2 → φ2 t = true) from ⟨fun _ => P0.out.1 (by omega), fun _ => HPH.out, fun h => by omega⟩)
            rw [hx0] at cx
            clear hph hx0
            go_wp2_with fail
            have nr := (MapKept.heap_alloc wr (.cells #[.pointer (some ⟨w.heap.size, 2, none⟩), .nilFunc] 73)).1
            have bB : Below wr.heap.size wr (wr.alloc (.cells #[.pointer (some ⟨w.heap.size, 2, none⟩), .nilFunc] 73)) := (Below.refl _ _).alloc (Nat.le_refl _) _
            generalize hwB : wr.alloc (.cells #[.pointer (some ⟨w.heap.size, 2, none⟩), .nilFunc] 73) = wB at *
            have zB : wB.heap.size = wr.heap.size + 1 := by rw [← hwB]; simp
            clear hwB
            have q0 : wB.cell? ⟨wr.heap.size, 0, none⟩ = some (.pointer (some ⟨w.heap.size, 2, none⟩)) := by simp [World.cell?, nr]
            have q1 : wB.cell? ⟨wr.heap.size, 1, none⟩ = some (.nilFunc) := by simp [World.cell?, nr]
            have q2 : wB.cell? ⟨w.heap.size, 2, none⟩ = some (.int .i64 0) := (bB.cell (p := ⟨w.heap.size, 2, none⟩) (show w.heap.size < wr.heap.size by omega)).trans cx
            clear nr cx
            go_region
            all_goals (try go_wp2)
            have hbz : Below wA.heap.size wA wB.drew := hb.trans (bB.mono hzr).drew
            exact ⟨⟨2, by omega, rfl, by first | exact P1.out.1 | exact fun _ => trivial, by first | exact P1.out.2.1 | exact fun _ => trivial, by first | exact P1.out.2.2 | exact fun _ => trivial, hbz⟩, by simp [intOf]⟩
          · rw [decide_eq_false hx0] at hph
            have HPH := Lib.hid hph
            have hx1 : (b != 0) = true := by simpa using hx0
            have hx2 : (b == 0) = false := by simpa using hx0
            clear hph hx0
            go_wp2_with fail
            have nr := (MapKept.heap_alloc wr (.cells #[.pointer (some ⟨w.heap.size, 2, none⟩), .nilFunc] 73)).1
            have bB : Below wr.heap.size wr (wr.alloc (.cells #[.pointer (some ⟨w.heap.size, 2, none⟩), .nilFunc] 73)) := (Below.refl _ _).alloc (Nat.le_refl _) _
            generalize hwB : wr.alloc (.cells #[.pointer (some ⟨w.heap.size, 2, none⟩), .nilFunc] 73) = wB at *
            have zB : wB.heap.size = wr.heap.size + 1 := by rw [← hwB]; simp
            clear hwB
            have q0 : wB.cell? ⟨wr.heap.size, 0, none⟩ = some (.pointer (some ⟨w.heap.size, 2, none⟩)) := by simp [World.cell?, nr]
            have q1 : wB.cell? ⟨wr.heap.size, 1, none⟩ = some (.nilFunc) := by simp [World.cell?, nr]
            have q2 : wB.cell? ⟨w.heap.size, 2, none⟩ = some (.int .i64 b) := (bB.cell (p := ⟨w.heap.size, 2, none⟩) (show w.heap.size < wr.heap.size by omega)).trans cx
            clear nr cx
            go_region
            all_goals (try go_wp2)
            have bz : Below w.heap.size w wB.drew := (bA.trans (hb.mono (by omega))).trans (bB.mono (by omega)).drew
            go_ret
            exact ⟨by rw [HPH.out]; simp, bz⟩
        · obtain ⟨hcs, hcall⟩ := hs0
          have HC := Lib.hid (hcall b)
          clear hcall hcs c0 c1 c2 c3 c4 i0 i1 i2 i3 hb1 KS
          simp only [fo] at hf0
          subst hf0
          have hcc := fun (W : World) (hW : Below w.heap.size w W) => HC.out W hW
          have hfe := fnEq
          have hfn := fnNe
          cases hph : φ1 b
          · rw [hph] at hcc
            have HPH := Lib.hid hph
            have HCC := Lib.hid hcc
            clear hph hcc HC
            go_wp2_with fail
            have nr := (MapKept.heap_alloc wr (.cells #[.pointer (some ⟨w.heap.size, 2, none⟩), .func (Fn.func 40) #[] #[]] 73)).1
            have bB : Below wr.heap.size wr (wr.alloc (.cells #[.pointer (some ⟨w.heap.size, 2, none⟩), .func (Fn.func 40) #[] #[]] 73)) := (Below.refl _ _).alloc (Nat.le_refl _) _
            generalize hwB : wr.alloc (.cells #[.pointer (some ⟨w.heap.size, 2, none⟩), .func (Fn.func 40) #[] #[]] 73) = wB at *
            have zB : wB.heap.size = wr.heap.size + 1 := by rw [← hwB]; simp
            clear hwB
            have q0 : wB.cell? ⟨wr.heap.size, 0, none⟩ = some (.pointer (some ⟨w.heap.size, 2, none⟩)) := by simp [World.cell?, nr]
            have q1 : wB.cell? ⟨wr.heap.size, 1, none⟩ = some (.func (Fn.func 40) #[] #[]) := by simp [World.cell?, nr]
            have q2 : wB.cell? ⟨w.heap.size, 2, none⟩ = some (.int .i64 b) := (bB.cell (p := ⟨w.heap.size, 2, none⟩) (show w.heap.size < wr.heap.size by omega)).trans cx
            clear nr cx
            have hBW : ∀ W, Below wB.heap.size wB W → Below w.heap.size w W := fun W hW => (bA.trans (hb.mono (by omega))).trans ((bB.mono (by omega)).trans (hW.mono (by omega)))
            have HBW := Lib.hid hBW
            clear hBW
            go_quiet (first
              | (go_at_call 40; exact Calls.quiet_of (HCC.out _ (HBW.out _ (below_drewN' (Below.refl _ _) _)))))
            all_goals (try go_wp2)
            all_goals
             have bz := HBW.out _ (below_drewN' (Below.refl _ _) nq)
             go_ret
             exact ⟨by rw [HPH.out]; simp, bz⟩
          · rw [hph] at hcc
            have HPH := Lib.hid hph
            have HCC := Lib.hid hcc
            have P1 := Lib.hid (show (0 < 2 → φ0 a = true) ∧ (1 < 2 → φ1 b = true) ∧ (2 < 2 → φ2 t = true) from ⟨fun _ => P0.out.1 (by omega), fun _ => HPH.out, fun h => by omega⟩)
            clear hph hcc HC
            go_wp2_with fail
            have nr := (MapKept.heap_alloc wr (.cells #[.pointer (some ⟨w.heap.size, 2, none⟩), .func (Fn.func 40) #[] #[]] 73)).1
            have bB : Below wr.heap.size wr (wr.alloc (.cells #[.pointer (some ⟨w.heap.size, 2, none⟩), .func (Fn.func 40) #[] #[]] 73)) := (Below.refl _ _).alloc (Nat.le_refl _) _
            generalize hwB : wr.alloc (.cells #[.pointer (some ⟨w.heap.size, 2, none⟩), .func (Fn.func 40) #[] #[]] 73) = wB at *
            have zB : wB.heap.size = wr.heap.size + 1 := by rw [← hwB]; simp
            clear hwB
            have q0 : wB.cell? ⟨wr.heap.size, 0, none⟩ = some (.pointer (some ⟨w.heap.size, 2, none⟩)) := by simp [World.cell?, nr]
            have q1 : wB.cell? ⟨wr.heap.size, 1, none⟩ = some (.func (Fn.func 40) #[] #[]) := by simp [World.cell?, nr]
            have q2 : wB.cell? ⟨w.heap.size, 2, none⟩ = some (.int .i64 b) := (bB.cell (p := ⟨w.heap.size, 2, none⟩) (show w.heap.size < wr.heap.size by omega)).trans cx
            clear nr cx
            have hBW : ∀ W, Below wB.heap.size wB W → Below w.heap.size w W := fun W hW => (bA.trans (hb.mono (by omega))).trans ((bB.mono (by omega)).trans (hW.mono (by omega)))
            have HBW := Lib.hid hBW
            clear hBW
            go_quiet (first
              | (go_at_call 40; exact Calls.quiet_of (HCC.out _ (HBW.out _ (below_drewN' (Below.refl _ _) _)))))
            all_goals (try go_wp2)
            all_goals
             have hbz : Below wA.heap.size wA (wB.drewN nq) := hb.trans (below_drewN' (bB.mono hzr) nq)
             exact ⟨⟨2, by omega, rfl, by first | exact P1.out.1 | exact fun _ => trivial, by first | exact P1.out.2.1 | exact fun _ => trivial, by first | exact P1.out.2.2 | exact fun _ => trivial, hbz⟩, by simp [intOf]⟩
        · obtain ⟨hcs, hcall⟩ := hs0
          have HC := Lib.hid (hcall b)
          clear hcall hcs c0 c1 c2 c3 c4 i0 i1 i2 i3 hb1 KS
          simp only [fo] at hf0
          subst hf0
          have hcc := fun (W : World) (hW : Below w.heap.size w W) => HC.out W hW
          have hfe := fnEq
          have hfn := fnNe
          cases hph : φ1 b
          · rw [hph] at hcc
            have HPH := Lib.hid hph
            have HCC := Lib.hid hcc
            clear hph hcc HC
            go_wp2_with fail
            have nr := (MapKept.heap_alloc wr (.cells #[.pointer (some ⟨w.heap.size, 2, none⟩), .func (Fn.func 43) #[] #[]] 73)).1
            have bB : Below wr.heap.size wr (wr.alloc (.cells #[.pointer (some ⟨w.heap.size, 2, none⟩), .func (Fn.func 43) #[] #[]] 73)) := (Below.refl _ _).alloc (Nat.le_refl _) _
            generalize hwB : wr.alloc (.cells #[.pointer (some ⟨w.heap.size, 2, none⟩), .func (Fn.func 43) #[] #[]] 73) = wB at *
            have zB : wB.heap.size = wr.heap.size + 1 := by rw [← hwB]; simp
            clear hwB
            have q0 : wB.cell? ⟨wr.heap.size, 0, none⟩ = some (.pointer (some ⟨w.heap.size, 2, none⟩)) := by simp [World.cell?, nr]
            have q1 : wB.cell? ⟨wr.heap.size, 1, none⟩ = some (.func (Fn.func 43) #[] #[]) := by simp [World.cell?, nr]
            have q2 : wB.cell? ⟨w.heap.size, 2, none⟩ = some (.int .i64 b) := (bB.cell (p := ⟨w.heap.size, 2, none⟩) (show w.heap.size < wr.heap.size by omega)).trans cx
            clear nr cx
            have hBW : ∀ W, Below wB.heap.size wB W → Below w.heap.size w W := fun W hW => (bA.trans (hb.mono (by omega))).trans ((bB.mono (by omega)).trans (hW.mono (by omega)))
            have HBW := Lib.hid hBW
            clear hBW
            go_quiet (first
              | (go_at_call 43; exact Calls.quiet_of (HCC.out _ (HBW.out _ (below_drewN' (Below.refl _ _) _)))))
            all_goals (try go_wp2)
            all_goals
             have bz := HBW.out _ (below_drewN' (Below.refl _ _) nq)
             go_ret
             exact ⟨by rw [HPH.out]; simp, bz⟩
          · rw [hph] at hcc
            have HPH := Lib.hid hph
            have HCC := Lib.hid hcc
            have P1 := Lib.hid (show (0 < 2 → φ0 a = true) ∧ (1 < 2 → φ1 b = true) ∧ (2 < 2 → φ2 t = true) from ⟨fun _ => P0.out.1 (by omega), fun _ => HPH.out, fun h => by omega⟩)
            clear hph hcc HC
            go_wp2_with fail
            have nr := (MapKept.heap_alloc wr (.cells #[.pointer (some ⟨w.heap.size, 2, none⟩), .func (Fn.func 43) #[] #[]] 73)).1
            have bB : Below wr.heap.size wr (wr.alloc (.cells #[.pointer (some ⟨w.heap.size, 2, none⟩), .func (Fn.func 43) #[] #[]] 73)) := (Below.refl _ _).alloc (Nat.le_refl _) _
            generalize hwB : wr.alloc (.cells #[.pointer (some ⟨w.heap.size, 2, none⟩), .func (Fn.func 43) #[] #[]] 73) = wB at *
            have zB : wB.heap.size = wr.heap.size + 1 := by rw [← hwB]; simp
            clear hwB
            have q0 : wB.cell? ⟨wr.heap.size, 0, none⟩ = some (.pointer (some ⟨w.heap.size, 2, none⟩)) := by simp [World.cell?, nr]
            have q1 : wB.cell? ⟨wr.heap.size, 1, none⟩ = some (.func (Fn.func 43) #[] #[]) := by simp [World.cell?, nr]
            have q2 : wB.cell? ⟨w.heap.size, 2, none⟩ = some (.int .i64 b) := (bB.cell (p := ⟨w.heap.size, 2, none⟩) (show w.heap.size < wr.heap.size by omega)).trans cx
            clear nr cx
            have hBW : ∀ W, Below wB.heap.size wB W → Below w.heap.size w W := fun W hW => (bA.trans (hb.mono (by omega))).trans ((bB.mono (by omega)).trans (hW.mono (by omega)))
            have HBW := Lib.hid hBW
            clear hBW
            go_quiet (first
              | (go_at_call 43; exact Calls.quiet_of (HCC.out _ (HBW.out _ (below_drewN' (Below.refl _ _) _)))))
            all_goals (try go_wp2)
            all_goals
             have hbz : Below wA.heap.size wA (wB.drewN nq) := hb.trans (below_drewN' (bB.mono hzr) nq)
             exact ⟨⟨2, by omega, rfl, by first | exact P1.out.1 | exact fun _ => trivial, by first | exact P1.out.2.1 | exact fun _ => trivial, by first | exact P1.out.2.2 | exact fun _ => trivial, hbz⟩, by simp [intOf]⟩
      · have cx := (hb.cell (p := ⟨w.heap.size, 3, none⟩) (show w.heap.size < wA.heap.size by omega)).trans i3
        have hs0 := S2.out
        have hf0 := H2.out
        have bw : w.heap.size < wr.heap.size := by omega
        have hix := @ix2
        rcases hk2 with rfl | rfl | rfl | ⟨pv, rfl⟩
        · have hph : φ2 t = decide (t = 0) := hs0 t
          simp only [fo] at hf0
          subst hf0
          clear hs0 c0 c1 c2 c3 c4 i0 i1 i2 i3 hb1 KS
          have hfe := nilEq
          have hfn := nilNe
          by_cases hx0 : t = 0
          · rw [decide_eq_true hx0] at hph
            have HPH := Lib.hid hph
            have P1 := Lib.hid (show (0 < 3 → φ0 a = true) ∧ (1 < 3 → φ1 b = true) ∧ (2 < 3 → φ2 t = true) from ⟨fun _ => P0.out.1 (by omega), fun _ => P0.out.2.1 (by omega), fun _ => HPH.out⟩)
            rw [hx0] at cx
            clear hph hx0
            go_wp2_with fail
            have nr := (MapKept.heap_alloc wr (.cells #[.pointer (some ⟨w.heap.size, 3, none⟩), .nilFunc] 73)).1
            have bB : Below wr.heap.size wr (wr.alloc (.cells #[.pointer (some ⟨w.heap.size, 3, none⟩), .nilFunc] 73)) := (Below.refl _ _).alloc (Nat.le_refl _) _
            generalize hwB : wr.alloc (.cells #[.pointer (some ⟨w.heap.size, 3, none⟩), .nilFunc] 73) = wB at *
            have zB : wB.heap.size = wr.heap.size + 1 := by rw [← hwB]; simp
            clear hwB
            have q0 : wB.cell? ⟨wr.heap.size, 0, none⟩ = some (.pointer (some ⟨w.heap.size, 3, none⟩)) := by simp [World.cell?, nr]
            have q1 : wB.cell? ⟨wr.heap.size, 1, none⟩ = some (.nilFunc) := by simp [World.cell?, nr]
            have q2 : wB.cell? ⟨w.heap.size, 3, none⟩ = some (.int .i64 0) := (bB.cell (p := ⟨w.heap.size, 3, none⟩) (show w.heap.size < wr.heap.size by omega)).trans cx
            clear nr cx
            go_region
            all_goals (try go_wp2)
            have hbz : Below wA.heap.size wA wB.drew := hb.trans (bB.mono hzr).drew
            exact ⟨⟨3, by omega, rfl, by first | exact P1.out.1 | exact fun _ => trivial, by first | exact P1.out.2.1 | exact fun _ => trivial, by first | exact P1.out.2.2 | exact fun _ => trivial, hbz⟩, by simp [intOf]⟩
          · rw [decide_eq_false hx0] at hph
            have HPH := Lib.hid hph
            have hx1 : (t != 0) = true := by simpa using hx0
            have hx2 : (t == 0) = false := by simpa using hx0
            clear hph hx0
            go_wp2_with fail
            have nr := (MapKept.heap_alloc wr (.cells #[.pointer (some ⟨w.heap.size, 3, none⟩), .nilFunc] 73)).1
            have bB : Below wr.heap.size wr (wr.alloc (.cells #[.pointer (some ⟨w.heap.size, 3, none⟩), .nilFunc] 73)) := (Below.refl _ _).alloc (Nat.le_refl _) _
            generalize hwB : wr.alloc (.cells #[.pointer (some ⟨w.heap.size, 3, none⟩), .nilFunc] 73) = wB at *
            have zB : wB.heap.size = wr.heap.size + 1 := by rw [← hwB]; simp
            clear hwB
            have q0 : wB.cell? ⟨wr.heap.size, 0, none⟩ = some (.pointer (some ⟨w.heap.size, 3, none⟩)) := by simp [World.cell?, nr]
            have q1 : wB.cell? ⟨wr.heap.size, 1, none⟩ = some (.nilFunc) := by simp [World.cell?, nr]
            have q2 : wB.cell? ⟨w.heap.size, 3, none⟩ = some (.int .i64 t) := (bB.cell (p := ⟨w.heap.size, 3, none⟩) (show w.heap.size < wr.heap.size by omega)).trans cx
            clear nr cx
            go_region
            all_goals (try go_wp2)
            have bz : Below w.heap.size w wB.drew := (bA.trans (hb.mono (by omega))).trans (bB.mono (by omega)).drew
            go_ret
            exact ⟨by rw [HPH.out]; simp, bz⟩
        · obtain ⟨hcs, hcall⟩ := hs0
          have HC := Lib.hid (hcall t)
          clear hcall hcs c0 c1 c2 c3 c4 i0 i1 i2 i3 hb1 KS
          simp only [fo] at hf0
          subst hf0
          have hcc := fun (W : World) (hW : Below w.heap.size w W) => HC.out W hW
          have hfe := fnEq
          have hfn := fnNe
          cases hph : φ2 t
          · rw [hph] at hcc
            have HPH := Lib.hid hph
            have HCC := Lib.hid hcc
            clear hph hcc HC
            go_wp2_with fail
            have nr := (MapKept.heap_alloc wr (.cells #[.pointer (some ⟨w.heap.size, 3, none⟩), .func (Fn.func 41) #[] #[]] 73)).1
            have bB : Below wr.heap.size wr (wr.alloc (.cells #[.pointer (some ⟨w.heap.size, 3, none⟩), .func (Fn.func 41) #[] #[]] 73)) := (Below.refl _ _).alloc (Nat.le_refl _) _
            generalize hwB : wr.alloc (.cells #[.pointer (some ⟨w.heap.size, 3, none⟩), .func (Fn.func 41) #[] #[]] 73) = wB at *
            have zB : wB.heap.size = wr.heap.size + 1 := by rw [← hwB]; simp
            clear hwB
            have q0 : wB.cell? ⟨wr.heap.size, 0, none⟩ = some (.pointer (some ⟨w.heap.size, 3, none⟩)) := by simp [World.cell?, nr]
            have q1 : wB.cell? ⟨wr.heap.size, 1, none⟩ = some (.func (Fn.func 41) #[] #[]) := by simp [World.cell?, nr]
            have q2 : wB.cell? ⟨w.heap.size, 3, none⟩ = some (.int .i64 t) := (bB.cell (p := ⟨w.heap.size, 3, none⟩) (show w.heap.size < wr.heap.size by omega)).trans cx
            clear nr cx
            have hBW : ∀ W, Below wB.heap.size wB W → Below w.heap.size w W := fun W hW => (bA.trans (hb.mono (by omega))).trans ((bB.mono (by omega)).trans (hW.mono (by omega)))
            have HBW := Lib.hid hBW
            clear hBW
            go_quiet (first
              | (go_at_call 41; exact Calls.quiet_of (HCC.out _ (HBW.out _ (below_drewN' (Below.refl _ _) _)))))
            all_goals (try go_wp2)
            all_goals
             have bz := HBW.out _ (below_drewN' (Below.refl _ _) nq)
             go_ret
             exact ⟨by rw [HPH.out]; simp, bz⟩
          · rw [hph] at hcc
            have HPH := Lib.hid hph
            have HCC := Lib.hid hcc
            have P1 := Lib.hid (show (0 < 3 → φ0 a = true) ∧ (1 < 3 → φ1 b = true) ∧ (2 < 3 → φ2 t = true) from ⟨fun _ => P0.out.1 (by omega), fun _ => P0.out.2.1 (by omega), fun _ => HPH.out⟩)
            clear hph hcc HC
            go_wp2_with fail
            have nr := (MapKept.heap_alloc wr (.cells #[.pointer (some ⟨w.heap.size, 3, none⟩), .func (Fn.func 41) #[] #[]] 73)).1
            have bB : Below wr.heap.size wr (wr.alloc (.cells #[.pointer (some ⟨w.heap.size, 3, none⟩), .func (Fn.func 41) #[] #[]] 73)) := (Below.refl _ _).alloc (Nat.le_refl _) _
            generalize hwB : wr.alloc (.cells #[.pointer (some ⟨w.heap.size, 3, none⟩), .func (Fn.func 41) #[] #[]] 73) = wB at *
            have zB : wB.heap.size = wr.heap.size + 1 := by rw [← hwB]; simp
            clear hwB
            have q0 : wB.cell? ⟨wr.heap.size, 0, none⟩ = some (.pointer (some ⟨w.heap.size, 3, none⟩)) := by simp [World.cell?, nr]
            have q1 : wB.cell? ⟨wr.heap.size, 1, none⟩ = some (.func (Fn.func 41) #[] #[]) := by simp [World.cell?, nr]
            have q2 : wB.cell? ⟨w.heap.size, 3, none⟩ = some (.int .i64 t) := (bB.cell (p := ⟨w.heap.size, 3, none⟩) (show w.heap.size < wr.heap.size by omega)).trans cx
            clear nr cx
            have hBW : ∀ W, Below wB.heap.size wB W → Below w.heap.size w W := fun W hW => (bA.trans (hb.mono (by omega))).trans ((bB.mono (by omega)).trans (hW.mono (by omega)))
            have HBW := Lib.hid hBW
            clear hBW
            go_quiet (first
              | (go_at_call 41; exact Calls.quiet_of (HCC.out _ (HBW.out _ (below_drewN' (Below.refl _ _) _)))))
            all_goals (try go_wp2)
            all_goals
             have hbz : Below wA.heap.size wA (wB.drewN nq) := hb.trans (below_drewN' (bB.mono hzr) nq)
             exact ⟨⟨3, by omega, rfl, by first | exact P1.out.1 | exact fun _ => trivial, by first | exact P1.out.2.1 | exact fun _ => trivial, by first | exact P1.out.2.2 | exact fun _ => trivial, hbz⟩, by simp [intOf]⟩
        · obtain ⟨hcs, hcall⟩ := hs0
          have HC := Lib.hid (hcall t)
          clear hcall hcs c0 c1 c2 c3 c4 i0 i1 i2 i3 hb1 KS
          simp only [fo] at hf0
          subst hf0
          have hcc := fun (W : World) (hW : Below w.heap.size w W) => HC.out W hW
          have hfe := fnEq
          have hfn := fnNe
          cases hph : φ2 t
          · rw [hph] at hcc
            have HPH := Lib.hid hph
            have HCC := Lib.hid hcc
            clear hph hcc HC
            go_wp2_with fail
            have nr := (MapKept.heap_alloc wr (.cells #[.pointer (some ⟨w.heap.size, 3, none⟩), .func (Fn.func 42) #[] #[]] 73)).1
            have bB : Below wr.heap.size wr (wr.alloc (.cells #[.pointer (some ⟨w.heap.size, 3, none⟩), .func (Fn.func 42) #[] #[]] 73)) := (Below.refl _ _).alloc (Nat.le_refl _) _
            generalize hwB : wr.alloc (.cells #[.pointer (some ⟨w.heap.size, 3, none⟩), .func (Fn.func 42) #[] #[]] 73) = wB at *
            have zB : wB.heap.size = wr.heap.size + 1 := by rw [← hwB]; simp
            clear hwB
            have q0 : wB.cell? ⟨wr.heap.size, 0, none⟩ = some (.pointer (some ⟨w.heap.size, 3, none⟩)) := by simp [World.cell?, nr]
            have q1 : wB.cell? ⟨wr.heap.size, 1, none⟩ = some (.func (Fn.func 42) #[] #[]) := by simp [World.cell?, nr]
            have q2 : wB.cell? ⟨w.heap.size, 3, none⟩ = some (.int .i64 t) := (bB.cell (p := ⟨w.heap.size, 3, none⟩) (show w.heap.size < wr.heap.size by omega)).trans cx
            clear nr cx
            have hBW : ∀ W, Below wB.heap.size wB W → Below w.heap.size w W := fun W hW => (bA.trans (hb.mono (by omega))).trans ((bB.mono (by omega)).trans (hW.mono (by omega)))
            have HBW := Lib.hid hBW
            clear hBW
            go_quiet (first
              | (go_at_call 42; exact Calls.quiet_of (HCC.out _ (HBW.out _ (below_drewN' (Below.refl _ _) _)))))
            all_goals (try go_wp2)
            all_goals
             have bz := HBW.out _ (below_drewN' (Below.refl _ _) nq)
             go_ret
             exact ⟨by rw [HPH.out]; simp, bz⟩
          · rw [hph] at hcc
            have HPH := Lib.hid hph
            have HCC := Lib.hid hcc
            have P1 := Lib.hid (show (0 < 3 → φ0 a = true) ∧ (1 < 3 → φ1 b = true) ∧ (2 < 3 → φ2 t = true) from ⟨fun _ => P0.out.1 (by omega), fun _ => P0.out.2.1 (by omega), fun _ => HPH.out⟩)
            clear hph hcc HC
            go_wp2_with fail
            have nr := (MapKept.heap_alloc wr (.cells #[.pointer (some ⟨w.heap.size, 3, none⟩), .func (Fn.func 42) #[] #[]] 73)).1
            have bB : Below wr.heap.size wr (wr.alloc (.cells #[.pointer (some ⟨w.heap.size, 3, none⟩), .func (Fn.func 42) #[] #[]] 73)) := (Below.refl _ _).alloc (Nat.le_refl _) _
            generalize hwB : wr.alloc (.cells #[.pointer (some ⟨w.heap.size, 3, none⟩), .func (Fn.func 42) #[] #[]] 73) = wB at *
            have zB : wB.heap.size = wr.heap.size + 1 := by rw [← hwB]; simp
            clear hwB
            have q0 : wB.cell? ⟨wr.heap.size, 0, none⟩ = some (.pointer (some ⟨w.heap.size, 3, none⟩)) := by simp [World.cell?, nr]
            have q1 : wB.cell? ⟨wr.heap.size, 1, none⟩ = some (.func (Fn.func 42) #[] #[]) := by simp [World.cell?, nr]
            have q2 : wB.cell? ⟨w.heap.size, 3, none⟩ = some (.int .i64 t) := (bB.cell (p := ⟨w.heap.size, 3, none⟩) (show w.heap.size < wr.heap.size by omega)).trans cx
            clear nr cx
            have hBW : ∀ W, Below wB.heap.size wB W → Below w.heap.size w W := fun W hW => (bA.trans (hb.mono (by omega))).trans ((bB.mono (by omega)).trans (hW.mono (by omega)))
            have HBW := Lib.hid hBW
            clear hBW
            go_quiet (first
              | (go_at_call 42; exact Calls.quiet_of (HCC.out _ (HBW.out _ (below_drewN' (Below.refl _ _) _)))))
            all_goals (try go_wp2)
            all_goals
             have hbz : Below wA.heap.size wA (wB.drewN nq) := hb.trans (below_drewN' (bB.mono hzr) nq)
             exact ⟨⟨3, by omega, rfl, by first | exact P1.out.1 | exact fun _ => trivial, by first | exact P1.out.2.1 | exact fun _ => trivial, by first | exact P1.out.2.2 | exact fun _ => trivial, hbz⟩, by simp [intOf]⟩
        · obtain ⟨hcs, hcall⟩ := hs0
          have HC := Lib.hid (hcall t)
          clear hcall hcs c0 c1 c2 c3 c4 i0 i1 i2 i3 hb1 KS
          simp only [fo] at hf0
          subst hf0
          have hcc := fun (W : World) (hW : Below w.heap.size w W) => HC.out W hW
          have hfe := fnEq
          have hfn := fnNe
          cases hph : φ2 t
          · rw [hph] at hcc
            have HPH := Lib.hid hph
            have HCC := Lib.hid hcc
            clear hph hcc HC
            go_wp2_with fail
            have nr := (MapKept.heap_alloc wr (.cells #[.pointer (some ⟨w.heap.size, 3, none⟩), .func (Fn.func 39) #[] #[pv]] 73)).1
            have bB : Below wr.heap.size wr (wr.alloc (.cells #[.pointer (some ⟨w.heap.size, 3, none⟩), .func (Fn.func 39) #[] #[pv]] 73)) := (Below.refl _ _).alloc (Nat.le_refl _) _
            generalize hwB : wr.alloc (.cells #[.pointer (some ⟨w.heap.size, 3, none⟩), .func (Fn.func 39) #[] #[pv]] 73) = wB at *
            have zB : wB.heap.size = wr.heap.size + 1 := by rw [← hwB]; simp
            clear hwB
            have q0 : wB.cell? ⟨wr.heap.size, 0, none⟩ = some (.pointer (some ⟨w.heap.size, 3, none⟩)) := by simp [World.cell?, nr]
            have q1 : wB.cell? ⟨wr.heap.size, 1, none⟩ = some (.func (Fn.func 39) #[] #[pv]) := by simp [World.cell?, nr]
            have q2 : wB.cell? ⟨w.heap.size, 3, none⟩ = some (.int .i64 t) := (bB.cell (p := ⟨w.heap.size, 3, none⟩) (show w.heap.size < wr.heap.size by omega)).trans cx
            clear nr cx
            have hBW : ∀ W, Below wB.heap.size wB W → Below w.heap.size w W := fun W hW => (bA.trans (hb.mono (by omega))).trans ((bB.mono (by omega)).trans (hW.mono (by omega)))
            have HBW := Lib.hid hBW
            clear hBW
            go_quiet (first
              | (go_at_call 39; exact Calls.quiet_of (HCC.out _ (HBW.out _ (below_drewN' (Below.refl _ _) _)))))
            all_goals (try go_wp2)
            all_goals
             have bz := HBW.out _ (below_drewN' (Below.refl _ _) nq)
             go_ret
             exact ⟨by rw [HPH.out]; simp, bz⟩
          · rw [hph] at hcc
            have HPH := Lib.hid hph
            have HCC := Lib.hid hcc
            have P1 := Lib.hid (show (0 < 3 → φ0 a = true) ∧ (1 < 3 → φ1 b = true) ∧ (2 < 3 → φ2 t = true) from ⟨fun _ => P0.out.1 (by omega), fun _ => P0.out.2.1 (by omega), fun _ => HPH.out⟩)
            clear hph hcc HC
            go_wp2_with fail
            have nr := (MapKept.heap_alloc wr (.cells #[.pointer (some ⟨w.heap.size, 3, none⟩), .func (Fn.func 39) #[] #[pv]] 73)).1
            have bB : Below wr.heap.size wr (wr.alloc (.cells #[.pointer (some ⟨w.heap.size, 3, none⟩), .func (Fn.func 39) #[] #[pv]] 73)) := (Below.refl _ _).alloc (Nat.le_refl _) _
            generalize hwB : wr.alloc (.cells #[.pointer (some ⟨w.heap.size, 3, none⟩), .func (Fn.func 39) #[] #[pv]] 73) = wB at *
            have zB : wB.heap.size = wr.heap.size + 1 := by rw [← hwB]; simp
            clear hwB
            have q0 : wB.cell? ⟨wr.heap.size, 0, none⟩ = some (.pointer (some ⟨w.heap.size, 3, none⟩)) := by simp [World.cell?, nr]
            have q1 : wB.cell? ⟨wr.heap.size, 1, none⟩ = some (.func (Fn.func 39) #[] #[pv]) := by simp [World.cell?, nr]
            have q2 : wB.cell? ⟨w.heap.size, 3, none⟩ = some (.int .i64 t) := (bB.cell (p := ⟨w.heap.size, 3, none⟩) (show w.heap.size < wr.heap.size by omega)).trans cx
            clear nr cx
            have hBW : ∀ W, Below wB.heap.size wB W → Below w.heap.size w W := fun W hW => (bA.trans (hb.mono (by omega))).trans ((bB.mono (by omega)).trans (hW.mono (by omega)))
            have HBW := Lib.hid hBW
            clear hBW
            go_quiet (first
              | (go_at_call 39; exact Calls.quiet_of (HCC.out _ (HBW.out _ (below_drewN' (Below.refl _ _) _)))))
            all_goals (try go_wp2)
            all_goals
             have hbz : Below wA.heap.size wA (wB.drewN nq) := hb.trans (below_drewN' (bB.mono hzr) nq)
             exact ⟨⟨3, by omega, rfl, by first | exact P1.out.1 | exact fun _ => trivial, by first | exact P1.out.2.1 | exact fun _ => trivial, by first | exact P1.out.2.2 | exact fun _ => trivial, hbz⟩, by simp [intOf]⟩
    · have hj3 : j = 3 := by omega
      subst hj3
      have hall : (φ0 a && φ1 b && φ2 t) = true := by rw [P0.out.1 (by omega), P0.out.2.1 (by omega), P0.out.2.2 (by omega)]; rfl
      have HALL := Lib.hid hall
      have bz : Below w.heap.size w wr := bA.trans (hb.mono (by omega))
      clear hall
      go_wp2_with fail
      go_ret
      exact ⟨by rw [HALL.out]; rfl, bz⟩
end Go.Proofs.YtnfnjhbaaefbpaaGreatDoor
