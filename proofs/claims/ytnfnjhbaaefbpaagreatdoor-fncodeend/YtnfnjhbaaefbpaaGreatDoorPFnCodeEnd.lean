/- PROVED: laws.FnCodeEnd returns true for every input, and its argument and the table that it reads read as before, where the table holds what the program's text lays there (the card ties it). -/
import Derived.Test.YtnfnjhbaaefbpaaGreatDoorFitsAll
import Derived.Test.YtnfnjhbaaefbpaaGreatDoorApp
import Derived.Deep.RegionHeld3
import Derived.Test.YtnfnjhbaaefbpaaGreatDoorCodeOkPure
import Derived.Test.YtnfnjhbaaefbpaaGreatDoorIns
import Derived.Test.YtnfnjhbaaefbpaaGreatDoorReachP
import Derived.Test.YtnfnjhbaaefbpaaGreatDoorSeqStopG
import Derived.Test.YtnfnjhbaaefbpaaGreatDoorAppRow
import Derived.Sort.LoopGhostIn
import Derived.ControlIn
import Derived.Test.YtnfnjhbaaefbpaaGreatDoorFl
import Derived.Maps.OwnIn
import Derived.Maps.OwnSet
import Derived.RangeFuncOwn
import Derived.Test.YtnfnjhbaaefbpaaGreatDoorRows
import Derived.Sort.BigQuietIn
import Derived.CallsIn
import Derived.RangeFuncCalls
import Derived.Lib.QuietBelowIn
import Derived.RangeFuncLeaves
import Derived.Shelf.Abstract
import Derived.Test.YtnfnjhbaaefbpaaGreatDoorDrawC
import Derived.Test.YtnfnjhbaaefbpaaGreatDoorCodeBoth2
import Derived.Test.YtnfnjhbaaefbpaaGreatDoorCodeSame
import Derived.WalkKit
import Derived.ProofKit
import Derived.OpenShut
import Derived.Below
import Derived.Carry
import Derived.Test.YtnfnjhbaaefbpaaGreatDoorOpen
import Derived.Test.YtnfnjhbaaefbpaaGreatDoorEmitStmts
import Derived.LaidMore
import Derived.ChangeVars
import Derived.Stop.Joined
import Derived.Test.YtnfnjhbaaefbpaaGreatDoorTie
import Derived.Test.YtnfnjhbaaefbpaaGreatDoorCards
import Derived.SevenTiedAt
/- The room behind an instruction, and where one goes from it, as the program asks. -/
namespace Go.Proofs.YtnfnjhbaaefbpaaGreatDoor
open Go.ChangeShapes Go.WideShapes Go.ChangeAt Go.RowKit

theorem nilPass (W : World) : (binOp .eql 65 .nilFunc .nilFunc).run Tryz.prog W = .ok (.bool true) W := by kernel_rfl
theorem fnPass (F : Nat) (cs : Array Value) (W : World) : (binOp .eql 65 (.func (Fn.func F) #[] cs) .nilFunc).run Tryz.prog W = .ok (.bool false) W := by kernel_rfl

/-- What it passes on as a room, whether or not one may be there. -/
def zO (o a r : Int) : Int := if o = 8 then a else if o = 9 then -1 else r
theorem zO_held {o a r r' : Int} (h : heldO o a r = some r') : zO o a r = r' := by
  unfold heldO at h
  unfold zO
  by_cases h8 : o = 8
  · rw [if_pos h8] at h ⊢; split at h <;> first | (injection h with h) | cases h
  · rw [if_neg h8] at h ⊢
    by_cases h9 : o = 9
    · rw [if_pos h9] at h ⊢; split at h <;> first | (injection h with h) | cases h
    · rw [if_neg h9] at h ⊢
      split at h
      · split at h <;> first | (injection h with h) | cases h
      · split at h
        · split at h
          · rename_i e; injection h with h; rw [e, h]
          · cases h
        · injection h with h
/-- What passed answers. -/
def PassPost (o a r : Int) (w : World) (e : Ending) (w' : World) : Prop := e = .returned (.tuple #[.int .i64 (zO o a r), .bool (heldO o a r).isSome]) ∧ Below w.heap.size w w'

set_option maxRecDepth 100000 in
set_option maxHeartbeats 2000000 in
theorem passed_nil (s : ByteArray) (v0 v1 v2 : Value) (o a b t r : Int) (w : World) (ho : o ≠ 8 ∧ o ≠ 9 ∧ o ≠ 10 ∧ o ≠ 13) :
    Calls Tryz.prog 52 #[.agg #[.string s, v0, v1, v2, .nilFunc], .agg #[.int .i64 o, .int .i64 a, .int .i64 b, .int .i64 t], .int .i64 r] w (PassPost o a r w) := by
  have hh : heldO o a r = some r := by unfold heldO; rw [if_neg ho.1, if_neg ho.2.1, if_neg ho.2.2.1, if_neg ho.2.2.2]
  have HH := Lib.hid hh
  have HZ := Lib.hid (show zO o a r = r from by unfold zO; rw [if_neg ho.1, if_neg ho.2.1])
  have hn := nilPass
  clear hh ho
  go_enter Tryz.func52, Tryz.ntmps52
  go_wp2_with fail
  go_ret2
  exact ⟨by rw [HH.out, HZ.out]; rfl, ((Below.refl _ _).alloc (Nat.le_refl _) _).alloc (by simp) _⟩

set_option maxRecDepth 100000 in
set_option maxHeartbeats 2000000 in
theorem passEnter (a b t r : Int) (w : World) (hr : r = -1 ∨ r = 0 ∨ r = 1) :
    Calls Tryz.prog 45 #[.agg #[.int .i64 8, .int .i64 a, .int .i64 b, .int .i64 t], .int .i64 r] w (PassPost 8 a r w) := by
  have fin : ∀ (W : World) (z : Int) (v : Bool), Below w.heap.size w W → v = (heldO 8 a r).isSome → z = zO 8 a r → PassPost 8 a r w (.returned (.tuple #[.int .i64 z, .bool v])) W := fun W z v hb hv hz => ⟨by rw [hv, hz], hb⟩
  have FIN := Lib.hid fin
  clear fin
  rcases hr with rfl | rfl | rfl
  all_goals
    go_enter Tryz.func45, Tryz.ntmps45
    go_wp2
    all_goals (try (go_region; all_goals (try go_wp2)))
    all_goals
      go_ret2
      refine FIN.out _ _ _ ?_ ?_ ?_
      · repeat' (first | exact Below.refl _ _ | refine Below.drew ?_ | (refine Below.alloc ?_ (by first | exact Nat.le_refl _ | (simp; done) | (simp; omega)) _))
      · unfold heldO
        rw [Bool.eq_iff_iff]
        simp [*] <;> omega
      · simp [zO]

set_option maxRecDepth 100000 in
set_option maxHeartbeats 2000000 in
theorem passed_passEnter (s : ByteArray) (v0 v1 v2 : Value) (a b t r : Int) (w : World) (hr : r = -1 ∨ r = 0 ∨ r = 1) :
    Calls Tryz.prog 52 #[.agg #[.string s, v0, v1, v2, .func (Fn.func 45) #[] #[]], .agg #[.int .i64 8, .int .i64 a, .int .i64 b, .int .i64 t], .int .i64 r] w (PassPost 8 a r w) := by
  have HP := Lib.hid (fun W => passEnter a b t r W hr)
  have hn := fnPass
  clear hr
  go_enter Tryz.func52, Tryz.ntmps52
  go_wp2_with fail
  refine (HP.out _).mono ?_
  rintro e w1 ⟨rfl, hb1⟩
  have b1 : Below w.heap.size w w1 := (((Below.refl _ _).alloc (Nat.le_refl _) _).alloc (by simp) _).trans (hb1.mono (by simp; omega))
  go_wp2_with fail
  go_ret2
  exact ⟨rfl, b1⟩

set_option maxRecDepth 100000 in
set_option maxHeartbeats 2000000 in
theorem passLeave (a b t r : Int) (w : World) (hr : r = -1 ∨ r = 0 ∨ r = 1) :
    Calls Tryz.prog 46 #[.agg #[.int .i64 9, .int .i64 a, .int .i64 b, .int .i64 t], .int .i64 r] w (PassPost 9 a r w) := by
  have fin : ∀ (W : World) (z : Int) (v : Bool), Below w.heap.size w W → v = (heldO 9 a r).isSome → z = zO 9 a r → PassPost 9 a r w (.returned (.tuple #[.int .i64 z, .bool v])) W := fun W z v hb hv hz => ⟨by rw [hv, hz], hb⟩
  have FIN := Lib.hid fin
  clear fin
  rcases hr with rfl | rfl | rfl
  all_goals
    go_enter Tryz.func46, Tryz.ntmps46
    go_wp2
    all_goals (try (go_region; all_goals (try go_wp2)))
    all_goals
      go_ret2
      refine FIN.out _ _ _ ?_ ?_ ?_
      · repeat' (first | exact Below.refl _ _ | refine Below.drew ?_ | (refine Below.alloc ?_ (by first | exact Nat.le_refl _ | (simp; done) | (simp; omega)) _))
      · unfold heldO
        rw [Bool.eq_iff_iff]
        simp [*] <;> omega
      · simp [zO]

set_option maxRecDepth 100000 in
set_option maxHeartbeats 2000000 in
theorem passed_passLeave (s : ByteArray) (v0 v1 v2 : Value) (a b t r : Int) (w : World) (hr : r = -1 ∨ r = 0 ∨ r = 1) :
    Calls Tryz.prog 52 #[.agg #[.string s, v0, v1, v2, .func (Fn.func 46) #[] #[]], .agg #[.int .i64 9, .int .i64 a, .int .i64 b, .int .i64 t], .int .i64 r] w (PassPost 9 a r w) := by
  have HP := Lib.hid (fun W => passLeave a b t r W hr)
  have hn := fnPass
  clear hr
  go_enter Tryz.func52, Tryz.ntmps52
  go_wp2_with fail
  refine (HP.out _).mono ?_
  rintro e w1 ⟨rfl, hb1⟩
  have b1 : Below w.heap.size w w1 := (((Below.refl _ _).alloc (Nat.le_refl _) _).alloc (by simp) _).trans (hb1.mono (by simp; omega))
  go_wp2_with fail
  go_ret2
  exact ⟨rfl, b1⟩

set_option maxRecDepth 100000 in
set_option maxHeartbeats 2000000 in
theorem passWait (a b t r : Int) (w : World) (hr : r = -1 ∨ r = 0 ∨ r = 1) :
    Calls Tryz.prog 48 #[.agg #[.int .i64 10, .int .i64 a, .int .i64 b, .int .i64 t], .int .i64 r] w (PassPost 10 a r w) := by
  have fin : ∀ (W : World) (z : Int) (v : Bool), Below w.heap.size w W → v = (heldO 10 a r).isSome → z = zO 10 a r → PassPost 10 a r w (.returned (.tuple #[.int .i64 z, .bool v])) W := fun W z v hb hv hz => ⟨by rw [hv, hz], hb⟩
  have FIN := Lib.hid fin
  clear fin
  rcases hr with rfl | rfl | rfl
  all_goals
    go_enter Tryz.func48, Tryz.ntmps48
    go_wp2
    all_goals (try (go_region; all_goals (try go_wp2)))
    all_goals
      go_ret2
      refine FIN.out _ _ _ ?_ ?_ ?_
      · repeat' (first | exact Below.refl _ _ | refine Below.drew ?_ | (refine Below.alloc ?_ (by first | exact Nat.le_refl _ | (simp; done) | (simp; omega)) _))
      · unfold heldO
        rw [Bool.eq_iff_iff]
        simp [*] <;> omega
      · simp [zO]

set_option maxRecDepth 100000 in
set_option maxHeartbeats 2000000 in
theorem passed_passWait (s : ByteArray) (v0 v1 v2 : Value) (a b t r : Int) (w : World) (hr : r = -1 ∨ r = 0 ∨ r = 1) :
    Calls Tryz.prog 52 #[.agg #[.string s, v0, v1, v2, .func (Fn.func 48) #[] #[]], .agg #[.int .i64 10, .int .i64 a, .int .i64 b, .int .i64 t], .int .i64 r] w (PassPost 10 a r w) := by
  have HP := Lib.hid (fun W => passWait a b t r W hr)
  have hn := fnPass
  clear hr
  go_enter Tryz.func52, Tryz.ntmps52
  go_wp2_with fail
  refine (HP.out _).mono ?_
  rintro e w1 ⟨rfl, hb1⟩
  have b1 : Below w.heap.size w w1 := (((Below.refl _ _).alloc (Nat.le_refl _) _).alloc (by simp) _).trans (hb1.mono (by simp; omega))
  go_wp2_with fail
  go_ret2
  exact ⟨rfl, b1⟩

set_option maxRecDepth 100000 in
set_option maxHeartbeats 2000000 in
theorem passEnd (a b t r : Int) (w : World) (hr : r = -1 ∨ r = 0 ∨ r = 1) :
    Calls Tryz.prog 49 #[.agg #[.int .i64 13, .int .i64 a, .int .i64 b, .int .i64 t], .int .i64 r] w (PassPost 13 a r w) := by
  have fin : ∀ (W : World) (z : Int) (v : Bool), Below w.heap.size w W → v = (heldO 13 a r).isSome → z = zO 13 a r → PassPost 13 a r w (.returned (.tuple #[.int .i64 z, .bool v])) W := fun W z v hb hv hz => ⟨by rw [hv, hz], hb⟩
  have FIN := Lib.hid fin
  clear fin
  rcases hr with rfl | rfl | rfl
  all_goals
    go_enter Tryz.func49, Tryz.ntmps49
    go_wp2
    all_goals (try (go_region; all_goals (try go_wp2)))
    all_goals
      go_ret2
      refine FIN.out _ _ _ ?_ ?_ ?_
      · repeat' (first | exact Below.refl _ _ | refine Below.drew ?_ | (refine Below.alloc ?_ (by first | exact Nat.le_refl _ | (simp; done) | (simp; omega)) _))
      · unfold heldO
        rw [Bool.eq_iff_iff]
        simp [*] <;> omega
      · simp [zO]

set_option maxRecDepth 100000 in
set_option maxHeartbeats 2000000 in
theorem passed_passEnd (s : ByteArray) (v0 v1 v2 : Value) (a b t r : Int) (w : World) (hr : r = -1 ∨ r = 0 ∨ r = 1) :
    Calls Tryz.prog 52 #[.agg #[.string s, v0, v1, v2, .func (Fn.func 49) #[] #[]], .agg #[.int .i64 13, .int .i64 a, .int .i64 b, .int .i64 t], .int .i64 r] w (PassPost 13 a r w) := by
  have HP := Lib.hid (fun W => passEnd a b t r W hr)
  have hn := fnPass
  clear hr
  go_enter Tryz.func52, Tryz.ntmps52
  go_wp2_with fail
  refine (HP.out _).mono ?_
  rintro e w1 ⟨rfl, hb1⟩
  have b1 : Below w.heap.size w w1 := (((Below.refl _ _).alloc (Nat.le_refl _) _).alloc (by simp) _).trans (hb1.mono (by simp; omega))
  go_wp2_with fail
  go_ret2
  exact ⟨rfl, b1⟩

set_option maxRecDepth 100000 in
set_option maxHeartbeats 4000000 in
theorem followers {xs : List Int} {n : Nat} (hr : Right xs n) (i : Nat) (hi : i < n) (w : World) :
    Calls Tryz.prog 53 #[.agg #[.int .i64 (xs.getD (i * 4) 0), .int .i64 (xs.getD (i * 4 + 1) 0), .int .i64 (xs.getD (i * 4 + 2) 0), .int .i64 (xs.getD (i * 4 + 3) 0)], .int .i64 i] w fun e w' => ∃ v, e = .returned v ∧ w'.ownsRow w.heap.size 3 1 v (nextX xs i).length (ints ((nextX xs i).map fun (j : Nat) => (j : Int))) ∧ Below w.heap.size w w' := by
  have hn := hr.hi
  have ho := hr.op hi
  have hto := fun h => insB_to (hr.ins i hi) h
  have e0 : opC xs i = xs.getD (i * 4) 0 := rfl
  have e3 : toC xs i = xs.getD (i * 4 + 3) 0 := rfl
  have hnx : nextX xs i = nextO (xs.getD (i * 4) 0) (xs.getD (i * 4 + 3) 0) i := rfl
  rw [hnx]
  rw [e0] at ho hto
  rw [e3] at hto
  generalize xs.getD (i * 4) 0 = o at ho hto ⊢
  generalize xs.getD (i * 4 + 1) 0 = x1
  generalize xs.getD (i * 4 + 2) 0 = x2
  generalize xs.getD (i * 4 + 3) 0 = t at hto ⊢
  clear hnx e0 e3 hr
  have fin : ∀ (cs : List Int) (W : World), Below w.heap.size w W → cs = ((nextO o t i).map fun (j : Nat) => (j : Int)) → cs.length ≤ 2 →
      ∃ v, Ending.returned (Value.slice (some ⟨W.heap.size, 0, none⟩) cs.length cs.length) = .returned v ∧ (W.alloc (.cells (ints cs).toArray 3)).ownsRow w.heap.size 3 1 v (nextO o t i).length (ints ((nextO o t i).map fun (j : Nat) => (j : Int))) ∧ Below w.heap.size w (W.alloc (.cells (ints cs).toArray 3)) := by
    intro cs W hb hc hl
    refine ⟨_, rfl, ?_, hb.alloc hb.size _⟩
    have := World.ownsRow_lit (base := w.heap.size) (e := 3) (size := 1) W (ints cs).toArray cs.length hb.size (by unfold maxLen; omega) (by simp [ints])
    rw [hc] at this ⊢
    simpa using this
  have FIN := Lib.hid fin
  clear fin
  have hk : o = 6 ∨ o = 7 ∨ o = 13 ∨ (o ≠ 6 ∧ o ≠ 7 ∧ o ≠ 13) := by omega
  have ba : Below w.heap.size w (w.alloc (.cells #[.int .i64 o, .int .i64 x1, .int .i64 x2, .int .i64 t] 34)) := (Below.refl _ _).alloc (Nat.le_refl _) _
  rcases hk with rfl | rfl | rfl | ⟨h6, h7, h13⟩
  · obtain ⟨t0, t1⟩ := hto (.inl rfl)
    clear hto
    go_enter Tryz.func53, Tryz.ntmps53
    go_wp2_with fail
    go_ret
    have := FIN.out [(i : Int) + 1, t] _ ba (by simp [nextO]; omega) (by simp)
    rw [World.size_alloc] at this
    exact this
  · obtain ⟨t0, t1⟩ := hto (.inr rfl)
    clear hto
    go_enter Tryz.func53, Tryz.ntmps53
    go_wp2_with fail
    go_ret
    have := FIN.out [t] _ ba (by simp [nextO]; omega) (by simp)
    rw [World.size_alloc] at this
    exact this
  · clear hto
    go_enter Tryz.func53, Tryz.ntmps53
    go_wp2_with fail
    go_ret
    exact ⟨_, rfl, World.ownsRow_nil _ _ _ _, ba⟩
  · clear hto
    go_enter Tryz.func53, Tryz.ntmps53
    go_wp2_with fail
    go_ret
    have := FIN.out [(i : Int) + 1] _ ba (by simp [nextO, h6, h7, h13]) (by simp)
    rw [World.size_alloc] at this
    exact this
end Go.Proofs.YtnfnjhbaaefbpaaGreatDoor

/- Rows of yes and no, of numbers; what an op's form passes wherever the table lies. -/
namespace Go.Proofs.YtnfnjhbaaefbpaaGreatDoor
open Go.ChangeShapes Go.WideShapes Go.ChangeAt Go.RowKit

theorem infoBool : (Tryz.prog.info? 4).map (fun i => (i.zero, i.size, i.bytes)) = some (some (.bool false), 1, 1) := by kernel_rfl
theorem infoInt : (Tryz.prog.info? 3).map (fun i => (i.zero, i.size, i.bytes)) = some (some (.int .i64 0), 1, 8) := by kernel_rfl
theorem makeBools (n : Nat) (hn : n ≤ 60) (w : World) : (Instr.makeSlice 102 (.int .i64 (n : Int)) (.int .i64 (n : Int))).run Tryz.prog w =
    .ok (.slice (some ⟨w.heap.size, 0, none⟩) n n) (w.alloc (.cells (madeCells #[.bool false] n) 4)) := by
  obtain ⟨i, hi0, e0, e1, e2⟩ := info_parts infoBool
  have h := run_make (P := Tryz.prog) w 102 4 i _ Tryz.underlying102 hi0 e0 .i64 .i64 (n : Int) (n : Int) (by omega) (by omega) (by rw [e2]; omega) (by omega)
  rw [e1] at h
  simp only [Int.toNat_natCast, Nat.mul_one] at h
  exact h
theorem makeInts (n : Nat) (hn : n ≤ 60) (w : World) : (Instr.makeSlice 55 (.int .i64 (n : Int)) (.int .i64 (n : Int))).run Tryz.prog w =
    .ok (.slice (some ⟨w.heap.size, 0, none⟩) n n) (w.alloc (.cells (madeCells #[.int .i64 0] n) 3)) := by
  obtain ⟨i, hi0, e0, e1, e2⟩ := info_parts infoInt
  have h := run_make (P := Tryz.prog) w 55 3 i _ Tryz.underlying55 hi0 e0 .i64 .i64 (n : Int) (n : Int) (by omega) (by omega) (by rw [e2]; omega) (by omega)
  rw [e1] at h
  simp only [Int.toNat_natCast, Nat.mul_one] at h
  exact h

/-- Yes and no as cells. -/
def bls (M : List Bool) : List Value := M.map Value.bool
theorem bls_get {M : List Bool} {j : Nat} (h : j < M.length) : (bls M)[j]? = some (.bool (M.getD j false)) := by simp [bls, List.getD, h]
theorem bls_set (M : List Bool) (j : Nat) (x : Bool) : (bls M).set j (.bool x) = bls (M.set j x) := by simp [bls, List.map_set]
theorem madeB (n : Nat) : (madeCells #[.bool false] n).toList = bls (List.replicate n false) := by
  apply List.ext_getElem?
  intro j
  by_cases hj : j < n <;> simp [madeCells, hj, bls, Nat.mod_one]
theorem madeI (n : Nat) : (madeCells #[.int .i64 0] n).toList = ints (List.replicate n 0) := by
  apply List.ext_getElem?
  intro j
  by_cases hj : j < n <;> simp [madeCells, hj, ints, Nat.mod_one]

theorem own_slc' {w : World} {N z m : Nat} {e : TypeId} {v : Value} {fs : List Value} (ho : w.ownsRow N e z v m fs) : ∃ A c, v = .slice A m c := by
  obtain ⟨_, ⟨rfl, rfl⟩ | ⟨g, cap, cur, rfl, _⟩⟩ := ho
  · exact ⟨_, _, rfl⟩
  · exact ⟨_, _, rfl⟩
theorem own_some' {w : World} {base : Nat} {e : TypeId} {z : Nat} {v : Value} {n : Nat} {xs : List Value} (ho : w.ownsRow base e z v n xs) (h : 0 < n) : ∃ g cap, v = .slice (some ⟨g, 0, none⟩) n cap ∧ n ≤ cap ∧ cap ≤ maxLen := by
  obtain ⟨_, ⟨_, h0⟩ | ⟨g, cap, cur, h, _, _, h1, h2, _⟩⟩ := ho
  · omega
  · exact ⟨g, cap, h, h1, h2⟩
/-- What an op's form passes, wherever the table lies. -/
theorem passOf {w : World} {n g b : Nat} (hf : Forms w n g b) (k : Nat) (h1 : 1 ≤ k) (h2 : k ≤ 13) : ∃ (s : ByteArray) (u0 u1 u2 u3 : Value),
    w.cell? ⟨g, k * 5, none⟩ = some (.string s) ∧ w.cell? ⟨g, k * 5 + 1, none⟩ = some u0 ∧ w.cell? ⟨g, k * 5 + 2, none⟩ = some u1 ∧ w.cell? ⟨g, k * 5 + 3, none⟩ = some u2 ∧ w.cell? ⟨g, k * 5 + 4, none⟩ = some u3 ∧
    ∀ (a b t r : Int) (W : World), (r = -1 ∨ r = 0 ∨ r = 1) → Calls Tryz.prog 52 #[.agg #[.string s, u0, u1, u2, u3], .agg #[.int .i64 k, .int .i64 a, .int .i64 b, .int .i64 t], .int .i64 r] W (PassPost k a r W) := by
  have hk : k = 1 ∨ k = 2 ∨ k = 3 ∨ k = 4 ∨ k = 5 ∨ k = 6 ∨ k = 7 ∨ k = 8 ∨ k = 9 ∨ k = 10 ∨ k = 11 ∨ k = 12 ∨ k = 13 := by omega
  rcases hk with rfl | rfl | rfl | rfl | rfl | rfl | rfl | rfl | rfl | rfl | rfl | rfl | rfl
  · obtain ⟨q0, q1, q2, q3, q4⟩ := fc1 b
    exact ⟨_, _, _, _, _, (hf.cell _).trans q0, (hf.cell _).trans q1, (hf.cell _).trans q2, (hf.cell _).trans q3, (hf.cell _).trans q4, fun a b t r W hr => passed_nil _ _ _ _ 1 a b t r W (by omega)⟩
  · obtain ⟨q0, q1, q2, q3, q4⟩ := fc2 b
    exact ⟨_, _, _, _, _, (hf.cell _).trans q0, (hf.cell _).trans q1, (hf.cell _).trans q2, (hf.cell _).trans q3, (hf.cell _).trans q4, fun a b t r W hr => passed_nil _ _ _ _ 2 a b t r W (by omega)⟩
  · obtain ⟨q0, q1, q2, q3, q4⟩ := fc3 b
    exact ⟨_, _, _, _, _, (hf.cell _).trans q0, (hf.cell _).trans q1, (hf.cell _).trans q2, (hf.cell _).trans q3, (hf.cell _).trans q4, fun a b t r W hr => passed_nil _ _ _ _ 3 a b t r W (by omega)⟩
  · obtain ⟨q0, q1, q2, q3, q4⟩ := fc4 b
    exact ⟨_, _, _, _, _, (hf.cell _).trans q0, (hf.cell _).trans q1, (hf.cell _).trans q2, (hf.cell _).trans q3, (hf.cell _).trans q4, fun a b t r W hr => passed_nil _ _ _ _ 4 a b t r W (by omega)⟩
  · obtain ⟨q0, q1, q2, q3, q4⟩ := fc5 b
    exact ⟨_, _, _, _, _, (hf.cell _).trans q0, (hf.cell _).trans q1, (hf.cell _).trans q2, (hf.cell _).trans q3, (hf.cell _).trans q4, fun a b t r W hr => passed_nil _ _ _ _ 5 a b t r W (by omega)⟩
  · obtain ⟨q0, q1, q2, q3, q4⟩ := fc6 b
    exact ⟨_, _, _, _, _, (hf.cell _).trans q0, (hf.cell _).trans q1, (hf.cell _).trans q2, (hf.cell _).trans q3, (hf.cell _).trans q4, fun a b t r W hr => passed_nil _ _ _ _ 6 a b t r W (by omega)⟩
  · obtain ⟨q0, q1, q2, q3, q4⟩ := fc7 b
    exact ⟨_, _, _, _, _, (hf.cell _).trans q0, (hf.cell _).trans q1, (hf.cell _).trans q2, (hf.cell _).trans q3, (hf.cell _).trans q4, fun a b t r W hr => passed_nil _ _ _ _ 7 a b t r W (by omega)⟩
  · obtain ⟨q0, q1, q2, q3, q4⟩ := fc8 b
    exact ⟨_, _, _, _, _, (hf.cell _).trans q0, (hf.cell _).trans q1, (hf.cell _).trans q2, (hf.cell _).trans q3, (hf.cell _).trans q4, fun a b t r W hr => passed_passEnter _ _ _ _ a b t r W hr⟩
  · obtain ⟨q0, q1, q2, q3, q4⟩ := fc9 b
    exact ⟨_, _, _, _, _, (hf.cell _).trans q0, (hf.cell _).trans q1, (hf.cell _).trans q2, (hf.cell _).trans q3, (hf.cell _).trans q4, fun a b t r W hr => passed_passLeave _ _ _ _ a b t r W hr⟩
  · obtain ⟨q0, q1, q2, q3, q4⟩ := fc10 b
    exact ⟨_, _, _, _, _, (hf.cell _).trans q0, (hf.cell _).trans q1, (hf.cell _).trans q2, (hf.cell _).trans q3, (hf.cell _).trans q4, fun a b t r W hr => passed_passWait _ _ _ _ a b t r W hr⟩
  · obtain ⟨q0, q1, q2, q3, q4⟩ := fc11 b
    exact ⟨_, _, _, _, _, (hf.cell _).trans q0, (hf.cell _).trans q1, (hf.cell _).trans q2, (hf.cell _).trans q3, (hf.cell _).trans q4, fun a b t r W hr => passed_nil _ _ _ _ 11 a b t r W (by omega)⟩
  · obtain ⟨q0, q1, q2, q3, q4⟩ := fc12 b
    exact ⟨_, _, _, _, _, (hf.cell _).trans q0, (hf.cell _).trans q1, (hf.cell _).trans q2, (hf.cell _).trans q3, (hf.cell _).trans q4, fun a b t r W hr => passed_nil _ _ _ _ 12 a b t r W (by omega)⟩
  · obtain ⟨q0, q1, q2, q3, q4⟩ := fc13 b
    exact ⟨_, _, _, _, _, (hf.cell _).trans q0, (hf.cell _).trans q1, (hf.cell _).trans q2, (hf.cell _).trans q3, (hf.cell _).trans q4, fun a b t r W hr => passed_passEnd _ _ _ _ a b t r W hr⟩

end Go.Proofs.YtnfnjhbaaefbpaaGreatDoor

/- The model's checks of one instruction: l4Held, l4Next. -/
namespace Go.Proofs.YtnfnjhbaaefbpaaGreatDoor
open Go.ChangeShapes Go.WideShapes Go.ChangeAt Go.RowKit

set_option maxRecDepth 100000 in
set_option maxHeartbeats 4000000 in
theorem specHeld (o a b t r : Int) (w : World) (hr : r = -1 ∨ r = 0 ∨ r = 1) (ha0 : -1000 ≤ a) (ha1 : a ≤ 1000) :
    Calls Tryz.prog 59 #[.agg #[.int .i64 o, .int .i64 a, .int .i64 b, .int .i64 t], .int .i64 (r + 1)] w fun e w' => (∃ z, e = .returned (.tuple #[.int .i64 z, .bool (heldO o a r).isSome]) ∧ ∀ r', heldO o a r = some r' → z = r' + 1) ∧ Below w.heap.size w w' := by
  have hk : o = 8 ∨ o = 9 ∨ o = 10 ∨ o = 13 ∨ (o ≠ 8 ∧ o ≠ 9 ∧ o ≠ 10 ∧ o ≠ 13) := by omega
  have fin : ∀ (W : World) (z : Int) (v : Bool), Below w.heap.size w W → v = (heldO o a r).isSome → (∀ r', heldO o a r = some r' → z = r' + 1) →
      (∃ z', Ending.returned (.tuple #[.int .i64 z, .bool v]) = .returned (.tuple #[.int .i64 z', .bool (heldO o a r).isSome]) ∧ ∀ r', heldO o a r = some r' → z' = r' + 1) ∧ Below w.heap.size w W := fun W z v hb hv hz => ⟨⟨z, by rw [hv], hz⟩, hb⟩
  have FIN := Lib.hid fin
  clear fin
  rcases hk with rfl | rfl | rfl | rfl | ⟨h8, h9, h10, h13⟩ <;> rcases hr with rfl | rfl | rfl
  all_goals
    go_enter Tryz.func59, Tryz.ntmps59
    go_wp2
    all_goals (try (go_region; all_goals (try go_wp2)))
    all_goals
      refine bodyPost_ret (by simp [results, Tryz.results59, go_sem]; exact rfl) rfl ?_
      refine FIN.out _ _ _ ?_ ?_ ?_
      · repeat' (first | exact Below.refl _ _ | refine Below.drew ?_ | (refine Below.alloc ?_ (by first | exact Nat.le_refl _ | (simp; done) | (simp; omega)) _))
      · unfold heldO
        rw [Bool.eq_iff_iff]
        simp [*] <;> omega
      · intro r' h
        unfold heldO at h
        simp [*] at h <;> omega

/-- What l4Next gives. -/
theorem ints_nats (l : List Nat) : (ints (l.map fun (j : Nat) => (j : Int))).length = l.length := by simp [ints]

set_option maxRecDepth 100000 in
set_option maxHeartbeats 4000000 in
theorem specNext {xs : List Int} {A : Option Addr} {n c : Nat} {S : Nat → Prop} {w : World} (hs : Fl w S 4 xs A n c) (hr : Right xs n) (i : Nat) (hi : i < n) :
    Calls Tryz.prog 60 #[.slice A n c, .int .i64 i] w fun e w' => ∃ v, e = .returned v ∧ w'.ownsRow w.heap.size 3 1 v (nextX xs i).length (ints ((nextX xs i).map fun (j : Nat) => (j : Int))) ∧ Below w.heap.size w w' := by
  have hn := hr.hi
  have ho := hr.op hi
  have hto := fun h => insB_to (hr.ins i hi) h
  obtain ⟨a, rfl⟩ := hs.some (by omega)
  obtain ⟨c0, c1, c2, c3⟩ := hs.four i hi
  have e0 : opC xs i = xs.getD (i * 4) 0 := rfl
  have e3 : toC xs i = xs.getD (i * 4 + 3) 0 := rfl
  have hnx : nextX xs i = nextO (xs.getD (i * 4) 0) (xs.getD (i * 4 + 3) 0) i := rfl
  rw [hnx]
  rw [e0] at ho hto
  rw [e3] at hto
  generalize xs.getD (i * 4) 0 = o at c0 ho hto ⊢
  generalize xs.getD (i * 4 + 1) 0 = x1 at c1
  generalize xs.getD (i * 4 + 2) 0 = x2 at c2
  generalize xs.getD (i * 4 + 3) 0 = t at c3 hto ⊢
  clear hnx e0 e3 hs hr
  have fin : ∀ (cs : List Int) (W : World), Below w.heap.size w W → cs = ((nextO o t i).map fun (j : Nat) => (j : Int)) → cs.length ≤ 2 →
      ∃ v, Ending.returned (Value.slice (some ⟨W.heap.size, 0, none⟩) cs.length cs.length) = .returned v ∧ (W.alloc (.cells (ints cs).toArray 3)).ownsRow w.heap.size 3 1 v (nextO o t i).length (ints ((nextO o t i).map fun (j : Nat) => (j : Int))) ∧ Below w.heap.size w (W.alloc (.cells (ints cs).toArray 3)) := by
    intro cs W hb hc hl
    refine ⟨_, rfl, ?_, hb.alloc hb.size _⟩
    have := World.ownsRow_lit (base := w.heap.size) (e := 3) (size := 1) W (ints cs).toArray cs.length hb.size (by unfold maxLen; omega) (by simp [ints])
    rw [hc] at this ⊢
    simpa using this
  have FIN := Lib.hid fin
  clear fin
  have hk : o = 6 ∨ o = 7 ∨ o = 13 ∨ (o ≠ 6 ∧ o ≠ 7 ∧ o ≠ 13) := by omega
  rcases hk with rfl | rfl | rfl | ⟨h6, h7, h13⟩
  · obtain ⟨t0, t1⟩ := hto (.inl rfl)
    clear hto
    go_enter Tryz.func60, Tryz.ntmps60
    go_wp2_with fail
    go_ret
    exact FIN.out [(i : Int) + 1, t] w (Below.refl _ _) (by simp [nextO]; omega) (by simp)
  · obtain ⟨t0, t1⟩ := hto (.inr rfl)
    clear hto
    go_enter Tryz.func60, Tryz.ntmps60
    go_wp2_with fail
    go_ret
    exact FIN.out [t] w (Below.refl _ _) (by simp [nextO]; omega) (by simp)
  · clear hto
    go_enter Tryz.func60, Tryz.ntmps60
    go_wp2_with fail
    go_ret
    exact FIN.out [] w (Below.refl _ _) (by simp [nextO]) (by simp)
  · clear hto
    go_enter Tryz.func60, Tryz.ntmps60
    go_wp2_with fail
    go_ret
    exact FIN.out [(i : Int) + 1] w (Below.refl _ _) (by simp [nextO, h6, h7, h13]) (by simp)
end Go.Proofs.YtnfnjhbaaefbpaaGreatDoor

/- The model's search of the rooms of code. -/
namespace Go.Proofs.YtnfnjhbaaefbpaaGreatDoor
open Go.ChangeShapes Go.WideShapes Go.ChangeAt Go.RowKit

theorem info_int : (Tryz.prog.info? 3).map (fun i => (i.zero, i.size, i.bytes)) = some (some (.int .i64 0), 1, 8) := by kernel_rfl

theorem own_slc {w : World} {N z m : Nat} {e : TypeId} {v : Value} {fs : List Value} (ho : w.ownsRow N e z v m fs) : ∃ A c, v = .slice A m c := by
  obtain ⟨_, ⟨rfl, rfl⟩ | ⟨g, cap, cur, rfl, _⟩⟩ := ho
  · exact ⟨_, _, rfl⟩
  · exact ⟨_, _, rfl⟩
theorem new_one (W : World) (u : Value) (e : TypeId) (s : Nat) (hs : W.heap.size = s) : (W.alloc (.cells #[u] e)).cell? ((⟨s, 0, none⟩ : Addr).add 0) = some u := by
  subst hs; simp [Addr.add]
theorem own_someR {w : World} {base : Nat} {e : TypeId} {z : Nat} {v : Value} {n : Nat} {xs : List Value} (ho : w.ownsRow base e z v n xs) (h : 0 < n) : ∃ g cap, v = .slice (some ⟨g, 0, none⟩) n cap := by
  obtain ⟨_, ⟨_, h0⟩ | ⟨g, cap, cur, h, _⟩⟩ := ho
  · omega
  · exact ⟨g, cap, h⟩
/-- Numbers of places. -/
def nats (l : List Nat) : List Int := l.map fun (j : Nat) => (j : Int)
theorem nats_len (l : List Nat) : (nats l).length = l.length := by simp [nats]
theorem nats_get (l : List Nat) (k : Nat) : (nats l).getD k 0 = ((l.getD k 0 : Nat) : Int) := by
  unfold nats
  by_cases h : k < l.length <;> simp [List.getD, h]

theorem insB_a {o a b t : Int} {m : Nat} (h : insB o a b t m = true) : 0 ≤ a ∧ a < 3 := by
  have ho := insB_op h
  by_cases h5 : o ≤ 5
  · have e : insB o a b t m = leafB o a b t (-1) := by unfold insB; rw [if_pos (by omega)]
    rw [e] at h
    have : o = 1 ∨ o = 2 ∨ o = 3 ∨ o = 4 ∨ o = 5 := by omega
    rcases this with rfl | rfl | rfl | rfl | rfl <;> simp [leafB] at h <;> omega
  · unfold insB at h
    rw [if_neg (by omega)] at h
    split at h
    · have := of_decide_eq_true h; omega
    split at h
    · have := of_decide_eq_true h; omega
    split at h
    · have := of_decide_eq_true h; omega
    split at h
    · have := of_decide_eq_true h; omega
    cases h

/-- At a round's head of the search from one place. -/
def NextRel (xs : List Int) (n : Nat) (w : World) (g cap k v : Nat) (r r' : Int) (B : Nat) (vN : Value) (tv i : Value) (wr : World) : Prop :=
  ∃ (R : List Int) (T : List Nat) (q : Nat), i = .int .i64 q ∧ q ≤ (nextX xs v).length ∧ k < T.length ∧ T.getD k 0 = v ∧ R.getD v 0 = r + 1 ∧ Bfs xs n R T k ∧ (∀ j ∈ (nextX xs v).take q, R.getD j 0 = r' + 1) ∧
    wr.ownsRow w.heap.size 3 1 (.slice (some ⟨g, 0, none⟩) n cap) n (ints R) ∧ wr.ownsRow w.heap.size 3 1 tv T.length (ints (nats T)) ∧ wr.ownsRow B 3 1 vN (nextX xs v).length (ints (nats (nextX xs v))) ∧
    tv.ownBlock ≠ some g ∧ (∀ b, vN.ownBlock = some b → tv.ownBlock ≠ some b) ∧ Below w.heap.size w wr

/-- At a round's head of the search. -/
def RoomsRel (xs : List Int) (n : Nat) (w : World) (g cap : Nat) (tv i : Value) (wr : World) : Prop :=
  ∃ (R : List Int) (T : List Nat) (k : Nat), i = .int .i64 k ∧ k ≤ T.length ∧ Bfs xs n R T k ∧ wr.ownsRow w.heap.size 3 1 (.slice (some ⟨g, 0, none⟩) n cap) n (ints R) ∧ wr.ownsRow w.heap.size 3 1 tv T.length (ints (nats T)) ∧ tv.ownBlock ≠ some g ∧ Below w.heap.size w wr

/-- What the model's rooms are, where they fit. -/
def RoomsRow (xs : List Int) (n N : Nat) (v : Value) (w : World) : Prop := ∃ R, w.ownsRow N 3 1 v n (ints R) ∧ ∀ i, i < n → (0 ≤ R.getD i 0 ↔ Come xs i)

set_option maxRecDepth 100000 in
set_option maxHeartbeats 4000000 in
theorem specRoomsR {xs : List Int} {A : Option Addr} {n c : Nat} {S : Nat → Prop} {w : World} (hs : Fl w S 4 xs A n c) (hr : Right xs n) :
    Calls Tryz.prog 32 #[.slice A n c] w fun e w' => (∃ v, e = .returned (.tuple #[v, .bool (roomsB xs n)]) ∧ (roomsB xs n = true → RoomsRow xs n w.heap.size v w')) ∧ Below w.heap.size w w' := by
  obtain ⟨i0, hi, hz0, hz1, hz2⟩ := info_parts info_int
  have hn60 := hr.hi
  have hn1 := hr.lo
  have HR := Lib.hid hr
  clear hr
  go_enter Tryz.func32, Tryz.ntmps32
  go_wp2_with fail
  go_loopw [4, 5] (fun v i wr => ∃ k : Nat, k ≤ n ∧ i = .int .i64 k ∧ wr.ownsRow w.heap.size 3 1 v k (ints (List.replicate k (-1))) ∧ Below w.heap.size w wr) (fun _ i _ => n - (intOf i).toNat)
  case atStart =>
    refine ⟨0, Nat.zero_le _, rfl, ?_, (Below.refl _ _).alloc (Nat.le_refl _) _⟩
    exact World.ownsRow_lit (base := w.heap.size) (e := 3) (size := 1) w #[] 0 (Nat.le_refl _) (Nat.zero_le _) rfl
  case round =>
    obtain ⟨k, hk, rfl, hown, hb⟩ := hrel
    have hsz := hb.size
    by_cases hlt : k < n
    · go_wp2_with (first | (at_builtin; refine wpList_append_own _ rfl _ _ 55 rfl w.heap.size 3 i0 (.int .i64 0) 1 8 Tryz.underlying55 hi hz0 hz1 hz2 rfl (by decide) _ _ _ rfl (hown.alloc _) ⟨wr.heap.size, 0, none⟩ 1 1 [.int .i64 (-1)] rfl rfl ?c1 ?c2 ?c3 ?c4 ?c5 ?_) | fail)
      case c1 =>
        intro j u hj
        match j, hj with
        | 0, hj => simp at hj; subst hj; simp [Addr.add]
      case c2 => intro u hu; simp at hu; subst hu; rfl
      case c3 => unfold maxLen; omega
      case c4 => omega
      case c5 => simp; omega
      intro v' w1 hown' hgrow _
      have hbw : Below w.heap.size w w1 := (hb.alloc hsz _).grown hgrow (by simp; omega) (fun b hb' => (own_at hown hb').1)
      have e1 : ints (List.replicate k (-1)) ++ [Value.int .i64 (-1)] = ints (List.replicate (k + 1) (-1)) := by rw [List.replicate_succ', ints_app]; rfl
      rw [e1] at hown'
      have HO := Lib.hid hown'
      clear hown' hown hgrow e1
      go_wp2_with fail
      go_roundw
      case rel => exact ⟨k + 1, by omega, by go_num, HO.out, hbw⟩
      case measure => simp [intOf]; omega
    · have hkn : n = k := by omega
      subst hkn
      obtain ⟨g, cap, rfl⟩ := own_someR hown (by omega)
      have q0 := hown.cellAt 0 (by omega)
      rw [ints_get (by simp; omega)] at q0
      have z0 := hown.frozenAt 0
      have s1 := hown.stored 0 (.int .i64 0)
      rw [ints_set] at s1
      have hgl := own_at hown (b := g) rfl
      have hB := hb.setCell (p := ⟨g, 0, none⟩) hgl.1 (.int .i64 0)
      have st := Bfs.start HR.out
      generalize hR0 : (List.replicate n (-1 : Int)).set 0 0 = R0 at s1 st
      have S1 := Lib.hid s1
      have HB := Lib.hid hB
      have ST := Lib.hid st
      clear s1 hown st hR0 hB
      go_wp2_with fail
      go_loopw [6, 7] (fun tv i wr => RoomsRel xs n w g cap tv i wr) (fun _ i _ => n - (intOf i).toNat)
      case atStart =>
        refine ⟨R0, [0], 0, rfl, Nat.zero_le _, ST.out, S1.out.1.alloc _, ?_, ?_, HB.out.alloc (by simp; omega) _⟩
        · have := World.ownsRow_lit (base := w.heap.size) (e := 3) (size := 1) (wr.setCell ⟨g, 0, none⟩ (.int .i64 0)) #[.int .i64 0] 1 (by simp; omega) (by unfold maxLen; omega) rfl
          simpa [nats, ints] using this
        · simp [Value.ownBlock]; omega
      case round =>
        clear S1 HB ST hb q0 z0 hgl hsz
        obtain ⟨R, T, k, rfl, hkT, bfs, oR, oT, hne, hb⟩ := hrel
        have hsz := hb.size
        have hfew := bfs.few
        by_cases hlt : k < T.length
        · obtain ⟨gt, capT, rfl⟩ := own_someR oT (by omega)
          obtain ⟨v1, v2⟩ := bfs.at hlt
          have ct := oT.cellAt k (by omega)
          rw [ints_get (by rw [nats_len]; omega), nats_get] at ct
          have hRl := bfs.rlen
          have cr := oR.cellAt (T.getD k 0) (by omega)
          rw [ints_get (by omega)] at cr
          obtain ⟨a, rfl⟩ := hs.some (by omega)
          obtain ⟨c0, c1, c2, c3⟩ := (hs.later hb).four (T.getD k 0) v1
          have hbd := bfs.bd _ v1
          obtain ⟨r, hrr⟩ : ∃ r, R.getD (T.getD k 0) 0 = r + 1 := ⟨R.getD (T.getD k 0) 0 - 1, by omega⟩
          have hrv : r = -1 ∨ r = 0 ∨ r = 1 := by omega
          rw [hrr] at cr
          have hNX := fun (W : World) (hW : Below wr.heap.size wr W) => specNext ((hs.later hb).later hW) HR.out (T.getD k 0) v1
          have HNX := Lib.hid hNX
          have ha3 := insB_a (HR.out.ins _ v1)
          have hheld : heldX xs (T.getD k 0) r = heldO (xs.getD (T.getD k 0 * 4) 0) (xs.getD (T.getD k 0 * 4 + 1) 0) r := rfl
          have hac : aC xs (T.getD k 0) = xs.getD (T.getD k 0 * 4 + 1) 0 := rfl
          clear hNX
          generalize hv : T.getD k 0 = v at *
          rw [hac] at ha3
          have hhd := fun W => specHeld (xs.getD (v * 4) 0) (xs.getD (v * 4 + 1) 0) (xs.getD (v * 4 + 2) 0) (xs.getD (v * 4 + 3) 0) r W hrv (by omega) (by omega)
          rw [← hheld] at hhd
          generalize xs.getD (v * 4) 0 = x0 at c0 hhd hheld
          generalize xs.getD (v * 4 + 1) 0 = x1 at c1 hhd hheld ha3 hac
          generalize xs.getD (v * 4 + 2) 0 = x2 at c2 hhd
          generalize xs.getD (v * 4 + 3) 0 = x3 at c3 hhd
          clear hheld hac
          have HHD := Lib.hid hhd
          have HBF := Lib.hid bfs
          have OR := Lib.hid oR
          have OT := Lib.hid oT
          clear hhd bfs oR oT
          have hr1 : 0 ≤ r + 1 := by omega
          have ba := World.block_lt_of_cell? _ _ c0
          have bg := (own_at OR.out (b := g) rfl).2
          have ks : ∀ W, Below wr.heap.size wr W → (W.cell? (a.add (v * 4)) = some (.int .i64 x0) ∧ W.cell? ⟨(a.add (v * 4)).block, (a.add (v * 4)).off + 1, none⟩ = some (.int .i64 x1) ∧ W.cell? ⟨(a.add (v * 4)).block, (a.add (v * 4)).off + 2, none⟩ = some (.int .i64 x2) ∧ W.cell? ⟨(a.add (v * 4)).block, (a.add (v * 4)).off + 3, none⟩ = some (.int .i64 x3) ∧ W.cell? ⟨g, v, none⟩ = some (.int .i64 (r + 1)) ∧ Below wr.heap.size wr W) := fun W hW =>
            ⟨(hW.cell ba).trans c0, (hW.cell (p := ⟨(a.add (v * 4)).block, _, none⟩) ba).trans c1, (hW.cell (p := ⟨(a.add (v * 4)).block, _, none⟩) ba).trans c2, (hW.cell (p := ⟨(a.add (v * 4)).block, _, none⟩) ba).trans c3, (hW.cell (p := ⟨g, v, none⟩) bg).trans cr, hW⟩
          have KS := Lib.hid ks
          clear ks
          go_wp2_with fail
          go_region_held3 (fun X => X.cell? (a.add (v * 4)) = some (.int .i64 x0) ∧ X.cell? ⟨(a.add (v * 4)).block, (a.add (v * 4)).off + 1, none⟩ = some (.int .i64 x1) ∧ X.cell? ⟨(a.add (v * 4)).block, (a.add (v * 4)).off + 2, none⟩ = some (.int .i64 x2) ∧ X.cell? ⟨(a.add (v * 4)).block, (a.add (v * 4)).off + 3, none⟩ = some (.int .i64 x3) ∧ X.cell? ⟨g, v, none⟩ = some (.int .i64 (r + 1)) ∧ Below wr.heap.size wr X)
            (first | exact KS.out _ (by assumption) | exact KS.out _ (Below.refl _ _) | exact KS.out _ (Below.refl _ _).drew)
            (first
              | (go_at_call 59; refine (HHD.out _).mono ?_; rintro e w1 ⟨⟨z, rfl, hz⟩, hb1⟩
                 have hb1' : Below wr.heap.size wr w1 := (Below.refl wr.heap.size wr).drew.trans hb1))
          clear hb1 HHD KS c0 c1 c2 c3
          cases hh : heldX xs v r with
          | none =>
            have hfl : roomsB xs n = false := HBF.out.fail hlt (by rw [hv, hrr, show r + 1 - 1 = r from by omega]; exact hh)
            have HF := Lib.hid hfl
            clear hfl hz hh
            have bx := hb.trans (hb1'.mono hsz)
            simp only [Option.isSome_none]
            go_wp2_with fail
            go_ret2
            exact ⟨⟨_, by rw [HF.out]; rfl, fun h => by rw [HF.out] at h; cases h⟩, bx⟩
          | some r' =>
            obtain rfl := hz r' hh
            have HH := Lib.hid hh
            have hr'b := HR.out.held v1 (by omega) (by omega) hh
            clear hz hh
            simp only [Option.isSome_some]
            have z1 := hb1'.size
            have bx := hb.trans (hb1'.mono hsz)
            go_wp2_with fail
            refine (HNX.out w1 hb1').mono ?_
            rintro e w2 ⟨vN, rfl, oN, hb2⟩
            have z2 := hb2.size
            have b2 := bx.trans (hb2.mono (by omega))
            have oR2 := own_below (own_below OR.out hb1') hb2
            have oT2 := own_below (own_below OT.out hb1') hb2
            have hnv : ∀ b, vN.ownBlock = some b → (Value.slice (some ⟨gt, 0, none⟩) T.length capT).ownBlock ≠ some b := fun b h1 h2 => by have := (own_at oN h1).1; have := (own_at OT.out h2).2; omega
            have hnl : (nextX xs v).length ≤ 2 := by unfold nextX nextO; repeat' split
                                                     all_goals simp
            obtain ⟨AN, cN, rfl⟩ := own_slc oN
            have RE := Lib.hid (show NextRel xs n w g cap k v r r' w1.heap.size (.slice AN (nextX xs v).length cN) (.slice (some ⟨gt, 0, none⟩) T.length capT) (.int .i64 (0 : Nat)) w2 from
              ⟨R, T, 0, rfl, Nat.zero_le _, hlt, hv, hrr, HBF.out, fun j hj => by simp at hj, oR2, oT2, oN, hne, hnv, b2⟩)
            clear OR OT oN oR2 oT2 hnv hb2 HBF HNX hb1' ct cr hs
            generalize hNl : (nextX xs v).length = ln at *
            go_wp2_with fail
            go_loopw [6, 12] (fun tv i wr => NextRel xs n w g cap k v r r' w1.heap.size (.slice AN ln cN) tv i wr) (fun _ i _ => ln - (intOf i).toNat)
            case atStart => exact RE.out
            case round =>
              clear RE
              obtain ⟨R, T, q, rfl, hq, hkT, hTv, hRv, bfs, hdone, oR, oT, oN, hne, hnv, hb⟩ := hrel
              rw [hNl] at hq oN
              have hsz := hb.size
              have hfew := bfs.few
              obtain ⟨gt, capT, rfl⟩ := own_someR oT (by omega)
              have HBF := Lib.hid bfs
              have HD := Lib.hid hdone
              clear bfs hdone
              by_cases hlt : q < ln
              · obtain ⟨gn, capN, hvn⟩ := own_someR oN (by omega)
                simp only [Value.slice.injEq, true_and] at hvn
                obtain ⟨rfl, rfl⟩ := hvn
                have hjm : (nextX xs v).getD q 0 ∈ nextX xs v := mem_getD (by omega)
                have hjn := HR.out.next v1 _ hjm
                have cn := oN.cellAt q (by omega)
                rw [ints_get (by rw [nats_len]; omega), nats_get] at cn
                have hRl := HBF.out.rlen
                have cr := oR.cellAt ((nextX xs v).getD q 0) (by omega)
                rw [ints_get (by omega)] at cr
                have hbd := HBF.out.bd _ hjn
                have hfj : ∀ ρ, Lab xs n ρ → ρ ((nextX xs v).getD q 0) = some r' := HBF.out.push hkT (by rw [hTv, hRv, show r + 1 - 1 = r from by omega]; exact HH.out) (by rw [hTv]; exact hjm)
                have HFJ := Lib.hid hfj
                have htk : (nextX xs v).take (q + 1) = (nextX xs v).take q ++ [(nextX xs v).getD q 0] := by
                  rw [List.take_add_one]; congr 1; simp [List.getD, show q < (nextX xs v).length from by omega]
                have HTK := Lib.hid htk
                clear hfj htk
                generalize hj : (nextX xs v).getD q 0 = j at *
                have hgn := own_at oN (b := gn) rfl
                have hgt := own_at oT (b := gt) rfl
                have hgg := own_at oR (b := g) rfl
                have hgne : gn ≠ g := by omega
                have htg : gt ≠ g := fun e => hne (by rw [e]; rfl)
                have htn : gt ≠ gn := fun e => hnv gn rfl (by rw [e]; rfl)
                by_cases hneg : R.getD j 0 < 0
                · have zf := oR.frozenAt j
                  have hst := oR.stored j (.int .i64 (r' + 1))
                  rw [ints_set] at hst
                  have hset := HBF.out.set HR.out hjn hneg hr'b.1 hr'b.2 HFJ.out (by omega)
                  have hgs : ∀ i, (R.set j (r' + 1)).getD i 0 = if i = j then r' + 1 else R.getD i 0 := fun i => getD_set R i j _ 0 (by omega)
                  have cr' := hst.1.cellAt j (by omega)
                  rw [ints_get (by simp; omega), hgs, if_pos rfl] at cr'
                  have cn' : (wr.setCell ⟨g, j, none⟩ (.int .i64 (r' + 1))).cell? ⟨gn, q, none⟩ = some (.int .i64 j) := by
                    rw [World.cell?_of_block (hst.2.block gn (by omega) (by simp; omega))]; exact cn
                  have oTs := own_block oT (w' := wr.setCell ⟨g, j, none⟩ (.int .i64 (r' + 1))) fun b hb' => hst.2.block b (own_at oT hb').2 (fun e => by simp only [Value.ownBlock, Option.some.injEq] at hb' e; omega)
                  have oNs := own_block oN (w' := wr.setCell ⟨g, j, none⟩ (.int .i64 (r' + 1))) fun b hb' => hst.2.block b (own_at oN hb').2 (fun e => by simp only [Value.ownBlock, Option.some.injEq] at hb' e; omega)
                  have hbs : Below w.heap.size w (wr.setCell ⟨g, j, none⟩ (.int .i64 (r' + 1))) := hb.setCell (p := ⟨g, j, none⟩) hgg.1 _
                  have hx : ∀ i ∈ (nextX xs v).take (q + 1), (R.set j (r' + 1)).getD i 0 = r' + 1 := fun i hi => by
                    rw [hgs]
                    rw [HTK.out] at hi
                    rcases List.mem_append.1 hi with hi | hi
                    · by_cases e : i = j
                      · rw [if_pos e]
                      · rw [if_neg e]; exact HD.out i hi
                    · simp at hi; rw [if_pos hi]
                  have hvj : v ≠ j := fun e => by rw [← e, hRv] at hneg; omega
                  have hRv' : (R.set j (r' + 1)).getD v 0 = r + 1 := by rw [hgs, if_neg hvj]; exact hRv
                  have hTv' : (T ++ [j]).getD k 0 = v := by rw [← hTv]; simp [List.getD, List.getElem?_append_left hkT]
                  have HX := Lib.hid (And.intro hx (And.intro hRv' (And.intro hTv' hset)))
                  have OR := Lib.hid hst.1
                  have OT := Lib.hid oTs
                  have ON := Lib.hid oNs
                  generalize hy : R.getD j 0 = y at cr hneg
                  clear hx hRv' hTv' hset hst oTs oNs oR oT oN hgs hy HD HBF hbd
                  go_wp2_with (first | (at_builtin; refine wpList_append_at _ rfl _ _ 55 rfl w.heap.size 3 i0 (.int .i64 0) 1 8 Tryz.underlying55 hi hz0 hz1 hz2 rfl (by decide) _ _ _ rfl (OT.out.alloc _) ⟨wr.heap.size, 0, none⟩ 1 1 [.int .i64 j] rfl rfl ?c1 ?c2 ?c3 ?c4 ?c5 (by decide) ?_) | fail)
                  case c1 =>
                    intro i u hj'
                    match i, hj' with
                    | 0, hj' => simp at hj'; subst hj'; exact new_one _ _ _ _ (by simp)
                  case c2 => intro u hu; simp at hu; subst hu; rfl
                  case c3 => unfold maxLen; omega
                  case c4 => omega
                  case c5 => simp; omega
                  intro v' w3 hown' hgrow hat
                  have e1 : ints (nats T) ++ [Value.int .i64 j] = ints (nats (T ++ [j])) := by simp [ints, nats]
                  have e2 : T.length + 1 = (T ++ [j]).length := by simp
                  rw [e1, e2] at hown'
                  have hzs : (wr.setCell ⟨g, j, none⟩ (.int .i64 (r' + 1))).heap.size = wr.heap.size := by simp
                  have kp : ∀ b, b < wr.heap.size → b ≠ gt → w3.heap[b]? = (wr.setCell ⟨g, j, none⟩ (.int .i64 (r' + 1))).heap[b]? := fun b hb1 hb2 => by
                    rw [hgrow.block b (by simp; omega) (by simp [Value.ownBlock]; exact hb2), Below.heap_alloc _ _ _ (by rw [hzs]; exact hb1)]
                  have oR3 := own_block OR.out (w' := w3) fun b hb' => kp b (by simp only [Value.ownBlock, Option.some.injEq] at hb'; omega) (by simp only [Value.ownBlock, Option.some.injEq] at hb'; omega)
                  have oN3 := own_block ON.out (w' := w3) fun b hb' => kp b (by simp only [Value.ownBlock, Option.some.injEq] at hb'; omega) (by simp only [Value.ownBlock, Option.some.injEq] at hb'; omega)
                  have cr3 : w3.cell? ⟨g, j, none⟩ = some (.int .i64 (r' + 1)) := (World.cell?_of_block (kp g hgg.2 (fun e => htg e.symm))).trans cr'
                  have cn3 : w3.cell? ⟨gn, q, none⟩ = some (.int .i64 j) := (World.cell?_of_block (kp gn hgn.2 (fun e => htn e.symm))).trans cn'
                  have hb3 : Below w.heap.size w w3 := (hbs.alloc (by rw [hzs]; exact hsz) _).grown hgrow (by simp; omega) (fun b hb' => by simp only [Value.ownBlock, Option.some.injEq] at hb'; omega)
                  have hne3 : v'.ownBlock ≠ some g := fun e => by
                    rcases hat with h | h
                    · rw [h] at e; exact hne e
                    · rw [h] at e; injection e; omega
                  have hnv3 : ∀ b, (Value.slice (some ⟨gn, 0, none⟩) ln cN).ownBlock = some b → v'.ownBlock ≠ some b := fun b hb' e => by
                    simp only [Value.ownBlock, Option.some.injEq] at hb'
                    rcases hat with h | h
                    · rw [h] at e; simp only [Value.ownBlock, Option.some.injEq] at e; omega
                    · rw [h] at e; injection e; omega
                  have RR := Lib.hid (show NextRel xs n w g cap k v r r' w1.heap.size (.slice (some ⟨gn, 0, none⟩) ln cN) v' (.int .i64 ((q : Int) + 1)) w3 from
                    ⟨R.set j (r' + 1), T ++ [j], q + 1, by go_num, by omega, by simp; omega, HX.out.2.2.1, HX.out.2.1, HX.out.2.2.2, HX.out.1, oR3, hown', by rw [hNl]; exact oN3, hne3, hnv3, hb3⟩)
                  obtain ⟨AT', cT', rfl⟩ := own_slc hown'
                  clear hown' oR3 oN3 kp hgrow e1 e2 cn cr cn' cr' OR ON OT HX
                  go_wp2_with fail
                  go_roundw
                  case rel => exact RR.out
                  case measure => simp [intOf]; omega
                · by_cases heq : R.getD j 0 = r' + 1
                  · rw [heq] at cr
                    have hr0 : ¬ r' + 1 < 0 := by omega
                    have hx : ∀ i ∈ (nextX xs v).take (q + 1), R.getD i 0 = r' + 1 := fun i hi => by
                      rw [HTK.out] at hi
                      rcases List.mem_append.1 hi with hi | hi
                      · exact HD.out i hi
                      · simp at hi; subst hi; exact heq
                    have HX := Lib.hid hx
                    have OR := Lib.hid oR
                    have OT := Lib.hid oT
                    have ON := Lib.hid oN
                    clear hx oR oT oN heq
                    go_wp2_with fail
                    go_roundw
                    case rel => exact ⟨R, T, q + 1, by go_num, by omega, hkT, hTv, hRv, HBF.out, HX.out, OR.out, OT.out, by rw [hNl]; exact ON.out, hne, hnv, hb⟩
                    case measure => simp [intOf]; omega
                  · have hf := HBF.out.other hjn (by omega) HFJ.out heq
                    have HF := Lib.hid hf
                    generalize R.getD j 0 = y at *
                    have hyr : (y == r' + 1) = false := by simpa using heq
                    clear hf oR oT oN heq
                    go_wp2_with fail
                    go_ret2
                    exact ⟨⟨_, by rw [HF.out]; rfl, fun h => by rw [HF.out] at h; cases h⟩, hb⟩
              · obtain rfl : q = ln := by omega
                have hall : ∀ j ∈ nextX xs v, R.getD j 0 = r' + 1 := fun j hj => HD.out j (by rw [List.take_of_length_le (by omega)]; exact hj)
                have hstep := HBF.out.step (by rw [hTv, hRv, show r + 1 - 1 = r from by omega]; exact HH.out) (by rw [hTv]; exact hall)
                have RR := Lib.hid (show RoomsRel xs n w g cap (.slice (some ⟨gt, 0, none⟩) T.length capT) (.int .i64 ((k : Int) + 1)) wr from ⟨R, T, k + 1, by go_num, by omega, hstep, oR, oT, hne, hb⟩)
                obtain ⟨AN', cN', hvN⟩ := own_slc oN
                clear hall hstep oR oT oN HBF HD
                go_wp2_with fail
                go_roundw
                case rel => exact RR.out
                case measure => simp [intOf]; omega
        · have hend := Bfs.end HR.out bfs (by omega)
          have HE := Lib.hid hend
          have HRR := Lib.hid (show RoomsRow xs n w.heap.size (.slice (some ⟨g, 0, none⟩) n cap) wr from ⟨R, oR, Bfs.come HR.out bfs (by omega)⟩)
          obtain ⟨AT, cT, rfl⟩ := own_slc oT
          clear hend oR oT bfs
          go_wp2_with fail
          go_ret2
          exact ⟨⟨_, by rw [HE.out]; rfl, fun _ => HRR.out⟩, hb⟩

theorem specRooms {xs : List Int} {A : Option Addr} {n c : Nat} {S : Nat → Prop} {w : World} (hs : Fl w S 4 xs A n c) (hr : Right xs n) :
    Calls Tryz.prog 32 #[.slice A n c] w fun e w' => (∃ v, e = .returned (.tuple #[v, .bool (roomsB xs n)])) ∧ Below w.heap.size w w' :=
  (specRoomsR hs hr).mono fun _ _ ⟨⟨v, h, _⟩, hb⟩ => ⟨⟨v, h⟩, hb⟩
end Go.Proofs.YtnfnjhbaaefbpaaGreatDoor

/- The contract of what visits the places to which one may come in code. -/
namespace Go.Proofs.YtnfnjhbaaefbpaaGreatDoor
open Go.ChangeShapes Go.WideShapes Go.ChangeAt Go.RowKit

theorem wideFnR (k : Nat) : Fence.wide.fn k ↔ True := ⟨fun _ => trivial, fun _ => trivial⟩
attribute [local go_sem] Oper.semAt_some wideFnR

theorem heapLt {w : World} {b : Nat} {o : Obj} (h : w.heap[b]? = some o) : b < w.heap.size := (Array.getElem?_eq_some_iff.1 h).1
theorem boxCell {w : World} {b : Nat} {v : Value} {t : TypeId} (h : w.heap[b]? = some (.cells #[v] t (0, 0))) : w.cell? ⟨b, 0, none⟩ = some v := by simp [World.cell?, h]

theorem grownSet (W : World) (p : Addr) (v : Value) : W.grownBy (W.setCell p v) (some p.block) := ⟨rfl, rfl, rfl, (KeepsWalks.setCell W _ v).size, fun k _ hk => Below.heap_setCell _ _ _ k (fun e => hk (by rw [e]))⟩

/-- What it reads: the code, its own box, its own two rows. -/
structure ReachRd (w0 : World) (wb : Nat) (A : Option Addr) (n c : Nat) (B : Nat) (s : List Bool × List Nat × Nat × Value) (W : World) : Prop where
  below : Below w0.heap.size w0 W
  box : W.heap[wb]? = some (.cells #[.slice A n c] 25 (0, 0))
  met : W.ownsRow B 4 1 (.slice (some ⟨s.2.2.1, 0, none⟩) n n) n (bls s.1)
  left : W.ownsRow B 3 1 s.2.2.2 s.2.1.length (ints (nats s.2.1))
  ne : s.2.2.2.ownBlock ≠ some s.2.2.1

theorem ReachRd.kept {w0 W W' : World} {wb : Nat} {A : Option Addr} {n c B X : Nat} {s : List Bool × List Nat × Nat × Value} (h : ReachRd w0 wb A n c B s W) (hX : X < B) (hXb : X ≠ wb) (hb : Below w0.heap.size w0 W') (hk : ∀ k o, k ≠ X → W.heap[k]? = some o → o.isCells = true → W'.heap[k]? = some o) : ReachRd w0 wb A n c B s W' := by
  have row : ∀ {e : TypeId} {v : Value} {m : Nat} {xs : List Value}, W.ownsRow B e 1 v m xs → W'.ownsRow B e 1 v m xs := by
    rintro e v m xs ⟨h1, h2 | ⟨g, cap, cur, q1, q2, q3, q4⟩⟩
    · exact ⟨h1, .inl h2⟩
    · exact ⟨h1, .inr ⟨g, cap, cur, q1, q2, hk g _ (by omega) q3 rfl, q4⟩⟩
  exact ⟨hb, hk wb _ (fun e => hXb e.symm) h.box rfl, row h.met, row h.left, h.ne⟩

theorem ReachRd.put {w0 W : World} {wb : Nat} {A : Option Addr} {n c B l : Nat} {o : Obj} {s : List Bool × List Nat × Nat × Value} {o' : Obj} {N : Nat} (hl : N ≤ l) (h : ReachRd w0 wb A n c B s W) (ho : W.heap[l]? = some o) (hc : o.isCells = false) (hw : wb < N) (h0 : w0.heap.size ≤ N) : ReachRd w0 wb A n c B s (W.putObj l o') := by
  have hlt := heapLt ho
  have hg := grownBy_putObj' W l o'
  have row : ∀ {e : TypeId} {v : Value} {m : Nat} {xs : List Value}, W.ownsRow B e 1 v m xs → (W.putObj l o').ownsRow B e 1 v m xs := by
    intro e v m xs hr
    exact ownsRow_putObj hr o' ho hc
  exact ⟨h.below.trans ((Below.refl _ _).grown hg (by have := h.below.size; omega) (fun k e => by cases e; omega)), (hg.block wb (heapLt h.box) (by simp; omega)).trans h.box, row h.met, row h.left, h.ne⟩
theorem own_cut1 {w : World} {base : Nat} {e : TypeId} {g cap n : Nat} {zs xs ys : List Value} (h : w.ownsRow base e 1 (.slice (some ⟨g, 0, none⟩) (n + 1) cap) (n + 1) zs) (hz : zs = xs ++ ys) (hx : xs.length = n) : w.ownsRow base e 1 (.slice (some ⟨g, 0, none⟩) n cap) n xs := by
  subst hz
  obtain ⟨hl, ⟨h0, _⟩ | ⟨g', cap', cur, hv, hb, hr, h1, h2, h3, h4⟩⟩ := h
  · cases h0
  · simp only [Value.slice.injEq, Option.some.injEq, Addr.mk.injEq, and_true, true_and] at hv
    obtain ⟨rfl, rfl⟩ := hv
    refine ⟨by omega, .inr ⟨g, cap, cur, rfl, hb, hr, by omega, h2, h3, ?_⟩⟩
    have : cur.toList.take (n * 1) = (cur.toList.take ((n + 1) * 1)).take n := by rw [List.take_take, Nat.min_eq_left (by omega), Nat.mul_one]
    rw [this, h4, ← hx, List.take_left]

set_option maxRecDepth 100000 in
set_option maxHeartbeats 4000000 in
theorem reach_gs {xs : List Int} {A : Option Addr} {n c wb B : Nat} {S : Nat → Prop} {w0 w : World} (k : Nat) (hs : Fl w0 S 4 xs A n c) (hr : Right xs n) (hw : Below w0.heap.size w0 w) (hbx : w.heap[wb]? = some (.cells #[.slice A n c] 25 (0, 0))) (hB0 : w0.heap.size ≤ B) (hBw : wb < B) :
    SeqStopG Fence.wide k Tryz.prog 68 #[.pointer (some ⟨wb, 0, none⟩)] (fun x : Nat => #[.int .i64 x]) (ReachRd w0 wb A n c B) (fun pre x _ => ROk xs n pre x) (RAll xs) (fun _ => True) B w := by
  intro l J Jx W hB hbW hJ hY h0
  obtain ⟨i0, hi, hz0, hz1, hz2⟩ := info_parts infoInt
  have hn60 := hr.hi
  have hn1 := hr.lo
  have hmb := fun W => makeBools n hn60 W
  have HJ := Lib.hid hJ
  have HY := Lib.hid hY
  have HS := Lib.hid hs
  have HR := Lib.hid hr
  have H0 := Lib.hid h0
  have hbx' : W.heap[wb]? = some (.cells #[.slice A n c] 25 (0, 0)) := (hbW.block wb (heapLt hbx)).trans hbx
  have hwW : Below w0.heap.size w0 W := hw.trans (hbW.mono hw.size)
  have cb := boxCell hbx'
  clear hJ hY hs hr h0 hbx hw hbW
  refine callsIn_of_wp Tryz.func68 rfl trivial ?_ rfl
  simp only [Tryz.ntmps68, List.size_toArray, List.length_cons, List.length_nil, Nat.reduceAdd, Nat.reduceSub, Array.replicate_succ, Array.replicate_zero, List.push_toArray, List.append_toArray, List.nil_append, List.cons_append]
  have hdd : ∀ k : Nat, (Fence.wide.depth.isSome = true → 1 ≤ k) := fun k h => by cases h
  gi_wp2_with fail
  gi_loopg [4] (3 * n + 1) (fun k lv wr => ∃ (pre : List Nat) (M : List Bool) (L : List Nat), k = 3 * unm M + L.length ∧ k ≤ 3 * n + 1 ∧ RS xs n pre M L ∧ J pre wr ∧ ReachRd w0 wb A n c B (M, L, W.heap.size, lv) wr ∧ B ≤ wr.heap.size)
  case atStart =>
    have o1 := World.ownsRow_lit (base := B) (e := 4) (size := 1) W (madeCells #[.bool false] n) n hB (by unfold maxLen; omega) (by rw [size_madeCells]; omega)
    rw [madeB] at o1
    have o2 := World.ownsRow_lit (base := B) (e := 3) (size := 1) (W.alloc (.cells (madeCells #[.bool false] n) 4)) #[.int .i64 0] 1 (by simp; omega) (by unfold maxLen; omega) rfl
    rw [World.size_alloc] at o2
    have b1 : Below W.heap.size W ((W.alloc (.cells (madeCells #[.bool false] n) 4)).alloc (.cells #[.int .i64 0] 3)) := ((Below.refl _ _).alloc (Nat.le_refl _) _).alloc (by simp) _
    refine ⟨[], _, [0], by rw [unm_rep]; simp, Nat.le_refl _, RS.start HR.out, HJ.out _ _ _ H0.out (b1.mono hB), ⟨hwW.trans (b1.mono hwW.size), (b1.block wb (heapLt hbx')).trans hbx', o1.alloc _, ?_, by simp [Value.ownBlock]⟩, by simp; omega⟩
    simpa [nats, ints] using o2
  case round =>
    obtain ⟨pre, M, L, rfl, hk, hrs, hj, hrd, hBr⟩ := hrel
    clear hmb cb hbx' H0
    have hML := hrs.mlen
    have hleft : wr.ownsRow B 3 1 u4 L.length (ints (nats L)) := hrd.left
    have hmet : wr.ownsRow B 4 1 (.slice (some ⟨W.heap.size, 0, none⟩) n n) n (bls M) := hrd.met
    have hne : u4.ownBlock ≠ some W.heap.size := hrd.ne
    have hbel : Below w0.heap.size w0 wr := hrd.below
    have hbox := hrd.box
    clear hrd
    by_cases hlt : 0 < L.length
    · obtain ⟨L', v, rfl⟩ : ∃ L' v, L = L' ++ [v] := ⟨L.dropLast, L.getLast (fun e => by rw [e] at hlt; cases hlt), (List.dropLast_concat_getLast _).symm⟩
      obtain ⟨m, hm⟩ : ∃ m, L'.length = m := ⟨_, rfl⟩
      have hll : (L' ++ [v]).length = m + 1 := by simp [hm]
      rw [hll] at hleft hlt hk
      obtain ⟨gl, cap, rfl, hcap1, hcap2⟩ := own_some' hleft hlt
      have hm60 : m ≤ 181 := by omega
      have cl := hleft.cellAt m (by omega)
      rw [ints_get (by rw [nats_len]; simp; omega), nats_get] at cl
      have hvv : (L' ++ [v]).getD m 0 = v := by simp [List.getD, ← hm]
      rw [hvv] at cl
      have cut := own_cut1 (n := m) hleft (ys := [Value.int .i64 v]) (xs := ints (nats L')) (by simp [nats, ints]) (by simp [ints, nats, hm])
      have hv := hrs.stk v (by simp)
      have cm := hmet.cellAt v (by have := hv.1; omega)
      rw [bls_get (by omega)] at cm
      have fm := hmet.frozenAt v
      have hv1 := hv.1
      have CUT := Lib.hid cut
      have HRS := Lib.hid hrs
      have HJJ := Lib.hid hj
      have HMET := Lib.hid hmet
      clear cut hrs hj hv hleft hvv hmet
      cases hmv : M.getD v false
      · rw [hmv] at cm
        have smet := HMET.out.stored v (.bool true)
        rw [bls_set] at smet
        have hgs := grownSet wr ⟨W.heap.size, v, none⟩ (.bool true)
        have hb1 : Below B wr (wr.setCell ⟨W.heap.size, v, none⟩ (.bool true)) := (Below.refl B wr).grown hgs hBr (fun b e => by cases e; exact hB)
        have hrd1 : ReachRd w0 wb A n c B (M.set v true, L', W.heap.size, .slice (some ⟨gl, 0, none⟩) m cap) (wr.setCell ⟨W.heap.size, v, none⟩ (.bool true)) :=
          ⟨hbel.trans (hb1.mono hB0), (hb1.block wb hBw).trans hbox, smet.1, by rw [hm]; exact CUT.out.kept hgs (.inr (by simpa [Value.ownBlock] using hne)), by simpa [Value.ownBlock] using hne⟩
        have hj1 := HJ.out _ _ _ HJJ.out hb1
        obtain ⟨fn, tmps, assign, body, hy, hR⟩ := HY.out pre v _ _ (HRS.out.ok hmv) hj1 hrd1
        have HR1 := Lib.hid hR
        have GO := Lib.hid (HRS.out.go HR.out hmv)
        have hun := unm_set (M := M) (i := v) (by omega) hmv
        clear smet hj1 hrd1 hb1 hgs hR HRS HJJ HMET CUT hne
        gi_wp2_with fail
        refine ⟨hdd _, HR1.out.mono ?_⟩
        clear HR1 hy
        rintro e w5 (⟨rfl, hJ5, hR5⟩ | ⟨rfl, hX5⟩)
        · obtain ⟨a, rfl⟩ := HS.out.some (by omega)
          obtain ⟨c0, c1, c2, c3⟩ := (HS.out.later hR5.below).four v hv1
          have cb5 := boxCell hR5.box
          have HFO := Lib.hid (fun W => followers HR.out v hv1 W)
          have hl5 := hR5.left
          have hB5 : B ≤ gl ∧ gl < w5.heap.size := own_at hl5 (b := gl) rfl
          have HL5 := Lib.hid hl5
          have HR5 := Lib.hid hR5
          have HJ5 := Lib.hid hJ5
          have hnl : (nextX xs v).length ≤ 2 := by
            unfold nextX nextO
            repeat' split
            all_goals simp
          clear hl5 hR5 hJ5 cl cm fm
          generalize xs.getD (v * 4) 0 = x0 at *
          generalize xs.getD (v * 4 + 1) 0 = x1 at *
          generalize xs.getD (v * 4 + 2) 0 = x2 at *
          generalize xs.getD (v * 4 + 3) 0 = x3 at *
          gi_wp2_with (first
            | ((try refine ⟨hdd _, ?_⟩); gi_at_call 53; refine ((callsIn_wide (n := _)).2 (HFO.out _)).mono ?_; rintro e w6 ⟨vN, rfl, oN, hb6⟩; have OL6 := Lib.hid (own_below HL5.out hb6); have hz6 := hb6.size; have HB6 := Lib.hid hb6; have ON := Lib.hid oN; clear hb6 oN)
            | (gi_at_builtin; refine wpListIn_append_row rfl _ _ 55 rfl B w5.heap.size 3 i0 (.int .i64 0) 1 8 Tryz.underlying55 hi hz0 hz1 hz2 rfl (by decide) _ _ _ rfl OL6.out _ _ _ rfl ON.out ?c1 ?c2 ?c3 ?c4 ?_))
          case c1 => intro u hu; obtain ⟨q, _, rfl⟩ := List.mem_map.1 hu; rfl
          case c2 => unfold maxLen; omega
          case c3 => omega
          case c4 => omega
          intro v' w7 hown' hgrow hloc
          obtain ⟨ln, hln⟩ : ∃ ln, (nextX xs v).length = ln := ⟨_, rfl⟩
          have hB5' : B ≤ w5.heap.size := by omega
          have hb7 : Below B w6 w7 := (Below.refl B w6).grown hgrow (by omega) (fun b hb' => by simp only [Value.ownBlock, Option.some.injEq] at hb'; omega)
          have hb57 : Below B w5 w7 := (HB6.out.mono hB5').trans hb7
          have hW5 : W.heap.size < w5.heap.size := (own_at HR5.out.met (b := W.heap.size) rfl).2
          have hne5 : gl ≠ W.heap.size := fun e => HR5.out.ne (by simp [Value.ownBlock, e])
          have hrd7 : ReachRd w0 wb (some a) n c B (M.set v true, L' ++ nextX xs v, W.heap.size, v') w7 :=
            ⟨HR5.out.below.trans (hb57.mono hB0), (hb57.block wb hBw).trans HR5.out.box, (own_below HR5.out.met HB6.out).kept hgrow (.inr (by simp only [Value.ownBlock, ne_eq, Option.some.injEq]; omega)),
              by rw [List.length_append, show nats (L' ++ nextX xs v) = nats L' ++ (nextX xs v).map (fun (j : Nat) => (j : Int)) from by simp [nats], ints_app, hm]; exact hown',
              fun e => by
                change v'.ownBlock = some W.heap.size at e
                rcases hloc with h | h
                · rw [h] at e; simp only [Value.ownBlock, Option.some.injEq] at e; omega
                · rw [h] at e; injection e; omega⟩
          have hj7 := HJ.out _ _ _ HJ5.out hb57
          have RR := Lib.hid (And.intro hrd7 (And.intro hj7 (show B ≤ w7.heap.size from Nat.le_trans hB5' hb57.size)))
          obtain ⟨AL', cL', rfl⟩ := own_slc' hown'
          clear hown' hgrow hloc hb7 hb57 hrd7 hj7 ON OL6 HB6 HR5 HJ5 HL5 HFO
          gi_wp2_with fail
          gi_roundg (3 * unm (M.set v true) + (m + ln))
          case measure => rw [hll]; omega
          case rel => exact ⟨pre ++ [v], M.set v true, L' ++ nextX xs v, by rw [List.length_append, hm, hln], by omega, GO.out, RR.out.2.1, RR.out.1, RR.out.2.2⟩
        · gi_wp2_with fail
          refine bodyPost_ret (results_none rfl _ _ _) rfl ?_
          exact ⟨⟨_, rfl⟩, .inr ⟨_, trivial, hX5⟩⟩
      · rw [hmv] at cm
        have SK := Lib.hid (HRS.out.skip hmv)
        clear hmv
        gi_wp2_with fail
        gi_roundg (3 * unm M + m)
        case measure => omega
        case rel => exact ⟨pre, M, L', by rw [hm], by omega, SK.out, HJJ.out, ⟨hbel, hbox, HMET.out, by rw [hm]; exact CUT.out, hne⟩, hBr⟩
    · obtain rfl : L = [] := List.eq_nil_of_length_eq_zero (by omega)
      have ALL := Lib.hid hrs.all
      have HJJ := Lib.hid hj
      obtain ⟨AL, cL, rfl⟩ := own_slc' hleft
      clear hj hrs hmet hleft
      gi_wp2_with fail
      go_end0
      exact ⟨⟨_, rfl⟩, .inl ⟨pre, ALL.out, HJJ.out⟩⟩

/-- What it hands back: a function over a box of its own. -/
theorem eachReachable (k : Nat) (A : Option Addr) (n c : Nat) (w : World) :
    CallsIn Fence.wide k Tryz.prog 51 #[.slice A n c] w fun e w' => e = .returned (.func (.func 68) #[] #[.pointer (some ⟨w.heap.size, 0, none⟩)]) ∧ w' = w.alloc (.cells #[.slice A n c] 25) := by
  refine callsIn_of_wp Tryz.func51 rfl trivial ?_ rfl
  simp only [Tryz.ntmps51, List.size_toArray, List.length_cons, List.length_nil, Nat.reduceAdd, Nat.reduceSub, Array.replicate_succ, Array.replicate_zero, List.push_toArray, List.append_toArray, List.nil_append, List.cons_append]
  gi_wp2
  go_ret
  exact ⟨rfl, rfl⟩
end Go.Proofs.YtnfnjhbaaefbpaaGreatDoor

/- A map from places to rooms that the call makes: what it holds as a plain function; its operations inside a fence. -/
namespace Go.Proofs.YtnfnjhbaaefbpaaGreatDoor
open Go.RowKit Go.Maps

abbrev keyN (k : Nat) : Lit := .int .i64 (k : Int)
abbrev litN (r : Int) : DataW Unit := .lit (.int .i64 r)

theorem keyedInt : Keyed Tryz.prog 3 := int_keyed Tryz.underlying3
theorem wfN {r : Int} (h0 : -1 ≤ r) (h1 : r ≤ 1000) : (Lit.int .i64 r).wf = true := by
  have a : IntKind.i64.min = -9223372036854775808 := by kernel_rfl
  have b : IntKind.i64.max = 9223372036854775807 := by kernel_rfl
  simp [Lit.wf, a, b]; omega
theorem keyN_of {k : Nat} (hk : k ≤ 100) : keyOf Tryz.prog 3 (.int .i64 (k : Int)) = some (keyN k) := keyOf_int_mk Tryz.underlying3 (wfN (by omega) (by omega))
theorem keyN_ne {i j : Nat} (h : i ≠ j) : keyN i ≠ keyN j := fun e => h (by simp at e; omega)
theorem keyN_key (k : Nat) : WideAt.IsKeyLit (keyN k) := trivial
theorem zeroI (w : World) : (zeroValue 3).run Tryz.prog w = .ok (.int .i64 0) w := by kernel_rfl

/-- Block b is a map of at most m entries, which holds ρ. -/
def MapIs (w : World) (b m : Nat) (ρ : Nat → Option Int) : Prop :=
  ∃ D : DataW Unit, w.ownsMap Tryz.prog 3 (plainElem Tryz.prog 3) b m D ∧ IsMap D ∧ ∀ k : Nat, Maps.has D (keyN k) = (ρ k).isSome ∧ ∀ r, ρ k = some r → ∀ z, D.atKey (keyN k) z = litN r

theorem MapIs.kept {w w' : World} {b m : Nat} {ρ : Nat → Option Int} (h : MapIs w b m ρ) {row : Option Nat} (hg : w.grownBy w' row) (hne : some b ≠ row) : MapIs w' b m ρ := by
  obtain ⟨D, h1, h2, h3⟩ := h
  exact ⟨D, h1.kept hg hne, h2, h3⟩
theorem MapIs.alloc {w : World} {b m : Nat} {ρ : Nat → Option Int} (h : MapIs w b m ρ) (o : Obj) : MapIs (w.alloc o) b m ρ := h.kept (World.grownBy_alloc w o none) (by simp)
theorem MapIs.mono {w : World} {b m m' : Nat} {ρ : Nat → Option Int} (h : MapIs w b m ρ) (hm : m ≤ m') : MapIs w b m' ρ := by
  obtain ⟨D, h1, h2, h3⟩ := h
  exact ⟨D, h1.mono hm, h2, h3⟩
theorem MapIs.made (w : World) : MapIs (w.alloc (.map #[] 0)) w.heap.size 0 (fun _ => none) :=
  ⟨.map [], World.ownsMap_made w Tryz.prog 3 _, isMap_empty, fun k => ⟨rfl, fun r h => by cases h⟩⟩
theorem MapIs.block {w w' : World} {b m : Nat} {ρ : Nat → Option Int} (h : MapIs w b m ρ) (hb : w'.heap[b]? = w.heap[b]?) : MapIs w' b m ρ := by
  obtain ⟨D, ⟨es, clock, a1, a2⟩, h2, h3⟩ := h
  exact ⟨D, ⟨es, clock, by rw [hb]; exact a1, a2⟩, h2, h3⟩
theorem MapIs.lt {w : World} {b m : Nat} {ρ : Nat → Option Int} (h : MapIs w b m ρ) : b < w.heap.size := by
  obtain ⟨D, h1, _⟩ := h
  exact h1.lt
theorem MapIs.notCells {w : World} {b m : Nat} {ρ : Nat → Option Int} (h : MapIs w b m ρ) {o : Obj} (ho : w.heap[b]? = some o) : o.isCells = false := by
  obtain ⟨D, ⟨es, clock, a1, _⟩, _⟩ := h
  rw [a1] at ho; injection ho with ho; subst ho; rfl
theorem put_upd {D : DataW Unit} {ρ : Nat → Option Int} (hD : IsMap D) (h : ∀ k : Nat, Maps.has D (keyN k) = (ρ k).isSome ∧ ∀ r, ρ k = some r → ∀ z, D.atKey (keyN k) z = litN r) (j : Nat) (r : Int) :
    ∀ k : Nat, Maps.has (D.put (keyN j) (litN r)) (keyN k) = (upd ρ j r k).isSome ∧ ∀ q, upd ρ j r k = some q → ∀ z, (D.put (keyN j) (litN r)).atKey (keyN k) z = litN q := by
  intro k
  by_cases e : k = j
  · subst e
    rw [upd_at]
    exact ⟨by rw [has_put_same hD (keyN_key _)]; rfl, fun q hq z => by injection hq with hq; subst hq; exact atKey_put_same hD (keyN_key _) _ _⟩
  · have hu : upd ρ j r k = ρ k := by unfold upd; rw [if_neg e]
    rw [hu, has_put_other (keyN_ne e)]
    exact ⟨(h k).1, fun q hq z => by rw [atKey_put_other (keyN_ne e)]; exact (h k).2 q hq z⟩

section
variable {F : Fence} {nF : Nat} {w : World} {ops : Array Oper} {rest : List Oper} {o : Oper} {a : Act} {Q : Exit → Act → World → Prop}

theorem wpListIn_put (hg : o.guard = none) (m x v : Operand) (hop : o.op = Op.mapUpdate 77 m x v ∨ o.op = Op.insert 77 m x v) (b n : Nat) (ρ : Nat → Option Int)
    (hm : a.eval m = .map (some b)) (hown : MapIs w b n ρ) (hn : n < 1000) (k : Nat) (r : Int) (hx : a.eval x = .int .i64 k) (hv : a.eval v = .int .i64 r) (hk : k ≤ 100) (h0 : -1 ≤ r) (h1 : r ≤ 1000)
    (hK : ∀ w', MapIs w' b (n + 1) (upd ρ k r) → w.grownBy w' (some b) → wpListIn F nF Tryz.prog ops Q rest (a.put o.dst undef) w') :
    wpListIn F nF Tryz.prog ops Q (o :: rest) a w := by
  obtain ⟨D, d1, d2, d3⟩ := hown
  obtain ⟨w', hrun, r1, r2⟩ := d1.update keyedInt Tryz.underlying77 (by unfold maxLen; omega) (keyN_of hk) (plainElem_int (H := Unit) Tryz.underlying3 (wfN h0 h1))
  have hK' := hK w' ⟨_, r1, d2.put _ _, put_upd d2 d3 k r⟩ r2
  refine wpListIn_plain hg fun K' hK2 => ?_
  unfold Oper.wpIn
  rcases hop with hop | hop
  · refine ⟨by simp [Oper.about, hop], ?_⟩
    rw [Oper.semAt_plain F _ _ (by rw [hop]; intro c hc'; cases hc')]
    simp [execOp, hop, hm, hx, hv, hrun, Result.andThen]
    exact hK2 _ _ hK'
  · refine ⟨by simp [Oper.about, hop], ?_⟩
    rw [Oper.semAt_plain F _ _ (by rw [hop]; intro c hc'; cases hc')]
    simp [execOp, hop, hm, hx, hv, hrun, Result.andThen]
    exact hK2 _ _ hK'

theorem wpListIn_look (hg : o.guard = none) (m x : Operand) (hop : o.op = Op.lookup 77 m x true) (b n : Nat) (ρ : Nat → Option Int)
    (hm : a.eval m = .map (some b)) (hown : MapIs w b n ρ) (k : Nat) (hx : a.eval x = .int .i64 k) (hk : k ≤ 100) (bs : Bool) (hbs : (ρ k).isSome = bs)
    (hK : ∀ c : Int, (∀ r, ρ k = some r → c = r) → wpListIn F nF Tryz.prog ops Q rest (a.put o.dst (.tuple #[.int .i64 c, .bool bs])) w) :
    wpListIn F nF Tryz.prog ops Q (o :: rest) a w := by
  obtain ⟨D, d1, d2, d3⟩ := hown
  refine wpListIn_lookup_own_ok_int w hg m x _ hop 3 3 .i64 keyedInt Tryz.underlying77 Tryz.underlying3 (zeroI w) b n D hm d1 _ _ hx (keyN_of hk) ?_
  intro c hat _
  rw [(d3 k).1, hbs]
  exact hK c fun r hr => by
    rw [(d3 k).2 r hr] at hat
    simpa using hat.symm

/-- What a look-up reads. -/
theorem MapIs.run {b n : Nat} {ρ : Nat → Option Int} (h : MapIs w b n ρ) {k : Nat} (hk : k ≤ 100) {r : Int} (hr : ρ k = some r) : (Instr.lookup 77 (.map (some b)) (.int .i64 k) false).run Tryz.prog w = .ok (.int .i64 r) w := by
  obtain ⟨D, d1, d2, d3⟩ := h
  obtain ⟨c, hrun, hat, _⟩ := d1.lookup_int keyedInt Tryz.underlying77 Tryz.underlying3 (zeroI w) (keyN_of hk)
  rw [(d3 k).2 r hr] at hat
  have : c = r := by simpa using hat.symm
  subst this
  exact hrun
end
end Go.Proofs.YtnfnjhbaaefbpaaGreatDoor

/- A region that draws its order, in a round of a range over a function: one walk of the order of the text, at a class of worlds of our own. -/
namespace Go.Proofs.YtnfnjhbaaefbpaaGreatDoor

section
variable {F : Fence} {n : Nat} {P : Program} {ops : Array Oper} {md : Region.Mode}

/-- An operation that is no defer statement does in a round what it does elsewhere. -/
theorem opIn_round (l : Nat) {o : Oper} {a : Act} {w : World} {K : Act → World → Prop} {Q : Exit → Act → World → Prop} (hd : ∀ c, o.op ≠ .defer c) (h : o.wpIn F n P a w K Q) : o.wpIn (F.inRound l) n P a w K Q := by
  unfold Oper.wpIn at *
  refine ⟨h.1, ?_⟩
  have h2 := h.2
  rw [Oper.semAt_eq _ _ _ hd] at h2 ⊢
  exact h2
theorem wpOpIn_round (l : Nat) {i : Nat} {a : Act} {w : World} {K : Act → World → Prop} {Q : Exit → Act → World → Prop} (hd : ∀ o : Oper, ops[i]? = some o → ∀ c, o.op ≠ .defer c) (h : wpOpIn F n P ops Q i K a w) : wpOpIn (F.inRound l) n P ops Q i K a w := by
  unfold wpOpIn at *
  split
  · rename_i ho; simp only [ho] at h; exact h
  · rename_i o ho
    simp only [ho] at h
    split
    · rename_i hw; simp only [hw, if_true] at h; exact opIn_round l (hd o ho) h
    · rename_i hw; simp only [hw] at h; exact h
theorem wpAnyIn_round (l : Nat) {Q : Exit → Act → World → Prop} (hd : ∀ (i : Nat) (o : Oper), ops[i]? = some o → ∀ c, o.op ≠ .defer c) : ∀ (fuel : Nat) (listed : Array Bool) (a : Act) (w : World), wpAnyIn F n P md ops Q fuel listed a w → wpAnyIn (F.inRound l) n P md ops Q fuel listed a w
  | 0, _, _, _, h => h
  | fuel + 1, listed, _, _, h => ⟨h.1, fun i hi => wpOpIn_round l (hd i) (wpOpIn_mono (fun a w h => wpAnyIn_round l hd fuel (listed.setIfInBounds i true) a w h) (h.2 i hi))⟩

/-- No operation is a defer statement. -/
def noDefer (ops : Array Oper) : Bool := ops.all fun o => match o.op with | .defer _ => false | _ => true
theorem noDefer_spec {ops : Array Oper} (h : noDefer ops = true) : ∀ (i : Nat) (o : Oper), ops[i]? = some o → ∀ c, o.op ≠ .defer c := by
  intro i o ho c hc
  obtain ⟨hi, he⟩ := Array.getElem?_eq_some_iff.1 ho
  have := (Array.all_eq_true.1 h) i hi
  rw [he, hc] at this
  cases this

theorem region_quiet_round {C : World → Prop} {id l : Nat} {Q : Exit → Act → World → Prop} {a : Act} {w : World} {os : List Oper} (hro : F.round = none) (hm : P.follows .mixedOrders = true) (hB : Region.lexB .any os.toArray = true) (hn : noDefer os.toArray = true) (hC : C w.drew)
    (h : wpQuietIn F n P os.toArray C (fun a' => ∀ w', C w' → Q .normal a' w') os a) : (Code.region id os.toArray true).wpIn (F.inRound l) n P Q a w := by
  simp only [Region.lexB, Bool.and_eq_true] at hB
  refine wpIn_region_any hm (wpAnyIn_round l (noDefer_spec hn) _ _ _ _ (wpAnyIn_of_quiet (Q := fun a' => ∀ w', C w' → Q .normal a' w') hro (fun _ w' hw' h => h w' hw') _ _ _ _ hC ?_))
  have := wpAnyQIn_lex (F := F) (n := n) (C := C) (md := .any) hB.1 os 0 (Array.replicate os.toArray.size false) a (by simp) (by simpa using hB.2) h
  simpa using this
end
end Go.Proofs.YtnfnjhbaaefbpaaGreatDoor

/- The program's search of the rooms of code. -/
namespace Go.Proofs.YtnfnjhbaaefbpaaGreatDoor
open Go.ChangeShapes Go.WideShapes Go.ChangeAt Go.RowKit Go.Sort Go.Shelf

attribute [local go_sem] Oper.semAt_some wideFnR

/-- What the search keeps between two rounds. -/
structure RoomsI (xs : List Int) (n : Nat) (A : Option Addr) (c g : Nat) (w : World) (mb : Nat) (pre : List Nat) (V : World) : Prop where
  code : V.heap[w.heap.size]? = some (.cells #[.slice A n c] 25 (0, 0))
  forms : V.heap[w.heap.size + 1]? = some (.cells #[.pointer (some ⟨g, 0, none⟩)] 46 (0, 0))
  res : V.heap[w.heap.size + 2]? = some (.cells #[.bool false] 4 (0, 0))
  mbox : V.heap[mb]? = some (.cells #[.map (some (w.heap.size + 3))] 77 (0, 0))
  below : Below w.heap.size w V
  few : pre.length ≤ n
  map : ∃ (ρ : Nat → Option Int) (m : Nat), MapIs V (w.heap.size + 3) m ρ ∧ RInv xs n pre ρ ∧ m ≤ 1 + 2 * pre.length

/-- A function that leaves with the mark of one range over a function, its one result in a box: the mark's block is shut. -/
theorem leave_cell {F : Fence} {k N g D : Nat} {w0 W : World} (tmps : Array Value) (ht : tmps[4]? = some (.pointer (some ⟨g, 0, none⟩))) (v : Bool) (hND : N ≤ D) (hD : W.heap[D]? = some (.deferred (some []))) (hg : W.heap[g]? = some (.cells #[.bool v] 4 (0, 0))) (hb : Below N w0 W) :
    LeavesInM F k Tryz.prog Tryz.f26 tmps (fun e W' => e = .returned (.bool v) ∧ Below N w0 W') [{ target := .collected D, args := #[] }] .returning W := by
  refine ⟨by simp, .inl ⟨D, _, rfl, run_takeDeferred hD, ?_⟩⟩
  have hgD : g ≠ D := fun e => by subst e; rw [hD] at hg; cases hg
  have hg2 : (W.putObj D (.deferred none)).heap[g]? = some (.cells #[.bool v] 4 (0, 0)) := by rw [World.putObj_heap_other hgD]; exact hg
  have hc := boxCell hg2
  refine ⟨.bool v, ?_, rfl, hb.trans ((Below.refl N W).grown (grownBy_putObj' W D _) (by have := heapLt hD; omega) (fun k e => by cases e; omega))⟩
  simp [results, Tryz.results26, ht, go_sem, hc]

/-- While the rooms of the places that follow are laid. -/
def RoomsQ (xs : List Int) (n N x : Nat) (r r' : Int) (V : World) (B : Nat) (vN : Value) (pre : List Nat) (m : Nat) (i : Value) (wr : World) : Prop :=
  ∃ (q : Nat) (ρ : Nat → Option Int) (m' : Nat), i = .int .i64 q ∧ q ≤ (nextX xs x).length ∧ V.grownBy wr (some (N + 3)) ∧ MapIs wr (N + 3) m' ρ ∧ RInv xs n pre ρ ∧ m' ≤ m + q ∧ (∀ j ∈ (nextX xs x).take q, ρ j = some r') ∧ ρ x = some r ∧
    wr.ownsRow B 3 1 vN (nextX xs x).length (ints ((nextX xs x).map fun (j : Nat) => (j : Int)))

theorem RoomsI.same {xs : List Int} {n : Nat} {A : Option Addr} {c g : Nat} {w : World} {mb N : Nat} {pre : List Nat} {V V' : World} (h : RoomsI xs n A c g w mb pre V) (hmb : mb < N) (hN : w.heap.size + 4 ≤ N) (hb : Below N V V') : RoomsI xs n A c g w mb pre V' := by
  obtain ⟨ρ, m, h1, h2, h3⟩ := h.map
  exact ⟨(hb.block _ (by omega)).trans h.code, (hb.block _ (by omega)).trans h.forms, (hb.block _ (by omega)).trans h.res, (hb.block _ hmb).trans h.mbox, h.below.trans (hb.mono (by omega)), h.few, ρ, m, h1.block (hb.block _ (by omega)), h2, h3⟩

theorem roomsI_start {xs : List Int} {n : Nat} (hr : Right xs n) {A : Option Addr} {c g : Nat} {w W3 w5 : World} (z3 : W3.heap.size = w.heap.size + 3) (b3 : Below w.heap.size w W3) (p0 : W3.heap[w.heap.size]? = some (.cells #[.slice A n c] 25 (0, 0))) (p1 : W3.heap[w.heap.size + 1]? = some (.cells #[.pointer (some ⟨g, 0, none⟩)] 46 (0, 0))) (p2 : W3.heap[w.heap.size + 2]? = some (.cells #[.bool false] 4 (0, 0)))
    (hm : MapIs w5 (w.heap.size + 3) (0 + 1) (upd (fun _ => none) 0 (-1))) (hg : (W3.alloc (.map #[] 0)).grownBy w5 (some (w.heap.size + 3))) : RoomsI xs n A c g w w5.heap.size [] (w5.alloc (.cells #[.map (some (w.heap.size + 3))] 77)) := by
  have z5 := hg.size
  rw [World.size_alloc, z3] at z5
  have k : ∀ j, j < w.heap.size + 3 → (w5.alloc (.cells #[.map (some (w.heap.size + 3))] 77)).heap[j]? = W3.heap[j]? := fun j hj =>
    (Below.heap_alloc _ _ _ (by omega)).trans ((hg.block j (by rw [World.size_alloc]; omega) (by simp; omega)).trans (Below.heap_alloc _ _ _ (by omega)))
  refine ⟨(k _ (by omega)).trans p0, (k _ (by omega)).trans p1, (k _ (by omega)).trans p2, World.alloc_heap_new _ _, ?_, Nat.zero_le _, _, _, hm.alloc _, RInv.start hr, Nat.le_refl _⟩
  have hb := (((Below.refl w.heap.size W3).alloc (by omega) (.map #[] 0)).grown hg (by rw [World.size_alloc]; omega) (fun b e => by cases e; omega)).alloc (by omega) (.cells #[.map (some (w.heap.size + 3))] 77)
  exact b3.trans hb

theorem keepsGrown {V V' : World} {N X : Nat} (hg : V.grownBy V' (some X)) (hX : X < N) : KeepsFrom N V V' := ⟨hg.size, fun k _ hk ho _ => (hg.block k (heapLt ho) (by simp; omega)).trans ho⟩
theorem grown_trans {A B C : World} {r : Option Nat} (h : A.grownBy B r) (k : B.grownBy C r) : A.grownBy C r :=
  ⟨k.os.trans h.os, k.tape.trans h.tape, k.output.trans h.output, Nat.le_trans h.size k.size, fun j hj hn => (k.block j (Nat.lt_of_lt_of_le hj h.size) hn).trans (h.block j hj hn)⟩
theorem grownB9 {A B : World} {r : Option Nat} (h : Below A.heap.size A B) : A.grownBy B r := ⟨h.os, h.tape, h.output, h.size, fun j hj _ => h.block j hj⟩
theorem RoomsI.go {xs : List Int} {n : Nat} {A : Option Addr} {c g : Nat} {w : World} {mb x m : Nat} {ρ : Nat → Option Int} {pre : List Nat} {V V' : World} (h : RoomsI xs n A c g w mb pre V) (hg : V.grownBy V' (some (w.heap.size + 3))) (hmb : w.heap.size + 4 ≤ mb) (hm : MapIs V' (w.heap.size + 3) m ρ) (hr : RInv xs n (pre ++ [x]) ρ) (hm3 : m ≤ 1 + 2 * (pre.length + 1)) (hf : pre.length < n) : RoomsI xs n A c g w mb (pre ++ [x]) V' :=
  ⟨(hg.block _ (heapLt h.code) (by simp)).trans h.code, (hg.block _ (heapLt h.forms) (by simp)).trans h.forms, (hg.block _ (heapLt h.res) (by simp)).trans h.res, (hg.block _ (heapLt h.mbox) (by simp; omega)).trans h.mbox,
    h.below.grown hg (by have := h.below.size; omega) (fun b e => by cases e; omega), by simp; omega, ρ, m, hm, hr, by simp; omega⟩
theorem boxFree {w : World} {b : Nat} {v : Value} {t : TypeId} (h : w.heap[b]? = some (.cells #[v] t (0, 0))) : w.frozen? ⟨b, 0, none⟩ = false := by simp [World.frozen?, h]

set_option maxRecDepth 100000 in
set_option maxHeartbeats 4000000 in
theorem hasRoomsI {xs : List Int} {A : Option Addr} {n c g b : Nat} {S : Nat → Prop} {w : World} (hs : Fl w S 4 xs A n c) (hr : Right xs n) (hf : Forms w n g b) :
    CallsIn Fence.wide 6 Tryz.prog 26 #[.slice A n c, .pointer (some ⟨g, 0, none⟩)] w fun e w' => e = .returned (.bool (roomsB xs n)) ∧ Below w.heap.size w w' := by
  have hn60 := hr.hi
  have hn1 := hr.lo
  obtain ⟨a, rfl⟩ := hs.some (by omega)
  have HS := Lib.hid hs
  have HR := Lib.hid hr
  have HF := Lib.hid hf
  clear hs hr hf
  refine callsIn_of_wp_marks Tryz.func26 rfl trivial ?_ rfl
  simp only [Tryz.ntmps26, List.size_toArray, List.length_cons, List.length_nil, Nat.reduceAdd, Nat.reduceSub, Array.replicate_succ, Array.replicate_zero, List.push_toArray, List.append_toArray, List.nil_append, List.cons_append]
  have hdd : ∀ k : Nat, (Fence.wide.depth.isSome = true → 1 ≤ k) := fun k h => by cases h
  obtain ⟨W3, hW3⟩ : ∃ W3, ((w.alloc (.cells #[.slice (some a) n c] 25)).alloc (.cells #[.pointer (some ⟨g, 0, none⟩)] 46)).alloc (.cells #[.bool false] 4) = W3 := ⟨_, rfl⟩
  have z3 : W3.heap.size = w.heap.size + 3 := by rw [← hW3]; simp
  have mk := MapIs.made W3
  have hmk : (Instr.makeMap 77 none).run Tryz.prog W3 = .ok (.map (some (w.heap.size + 3))) (W3.alloc (.map #[] 0)) := by rw [← z3]; kernel_rfl
  rw [z3] at mk
  have b3 : Below w.heap.size w W3 := by rw [← hW3]; exact (((Below.refl _ _).alloc (Nat.le_refl _) _).alloc (by simp) _).alloc (by simp; omega) _
  have p0 : W3.heap[w.heap.size]? = some (.cells #[.slice (some a) n c] 25 (0, 0)) := by
    rw [← hW3]; exact (Below.heap_alloc _ _ _ (by simp; omega)).trans ((Below.heap_alloc _ _ _ (by simp)).trans (World.alloc_heap_new w _))
  have p1 : W3.heap[w.heap.size + 1]? = some (.cells #[.pointer (some ⟨g, 0, none⟩)] 46 (0, 0)) := by
    rw [← hW3]; refine (Below.heap_alloc _ _ _ (by simp)).trans ?_
    have := World.alloc_heap_new (w.alloc (.cells #[.slice (some a) n c] 25)) (.cells #[.pointer (some ⟨g, 0, none⟩)] 46)
    rwa [World.size_alloc] at this
  have p2 : W3.heap[w.heap.size + 2]? = some (.cells #[.bool false] 4 (0, 0)) := by
    rw [← hW3]
    have := World.alloc_heap_new ((w.alloc (.cells #[.slice (some a) n c] 25)).alloc (.cells #[.pointer (some ⟨g, 0, none⟩)] 46)) (.cells #[.bool false] 4)
    rwa [World.size_alloc, World.size_alloc] at this
  have P := Lib.hid (And.intro b3 (And.intro p0 (And.intro p1 p2)))
  clear b3 p0 p1 p2
  gi_wp2_with (first
    | ((try refine ⟨hdd _, ?_⟩); gi_at_call 51; refine (eachReachable _ (some a) n c _).mono ?_; rintro e w6 ⟨rfl, rfl⟩)
    | (refine wpListIn_put rfl _ _ _ (.inr rfl) (w.heap.size + 3) 0 _ rfl mk (by omega) 0 (-1) rfl rfl (by omega) (by omega) (by omega) ?_
       intro w5 hm5 hg5
       have i5 : RoomsI xs n (some a) c g w w5.heap.size [] (w5.alloc (.cells #[.map (some (w.heap.size + 3))] 77)) := roomsI_start HR.out z3 P.out.1 P.out.2.1 P.out.2.2.1 P.out.2.2.2 hm5 hg5
       have z5 : w.heap.size + 4 ≤ w5.heap.size := by have := hg5.size; rw [World.size_alloc, z3] at this; exact this
       have cc := boxCell i5.code
       have I5 := Lib.hid i5
       clear i5 hm5 hg5 mk hmk z3 P hW3))
  clear cc
  have hbx := World.alloc_heap_new (w5.alloc (.cells #[.map (some (w.heap.size + 3))] 77)) (.cells #[.slice (some a) n c] 25)
  rw [World.size_alloc] at hbx
  have iW : RoomsI xs n (some a) c g w w5.heap.size [] ((w5.alloc (.cells #[.map (some (w.heap.size + 3))] 77)).alloc (.cells #[.slice (some a) n c] 25)) :=
    I5.out.same (N := w5.heap.size + 1) (by omega) (by omega) ((Below.refl _ _).alloc (by simp) _)
  have zW : ((w5.alloc (.cells #[.map (some (w.heap.size + 3))] 77)).alloc (.cells #[.slice (some a) n c] 25)).heap.size = w5.heap.size + 2 := by simp
  generalize hWW : ((w5.alloc (.cells #[.map (some (w.heap.size + 3))] 77)).alloc (.cells #[.slice (some a) n c] 25)) = W at *
  have hseq := reach_gs (w0 := w) (w := W) (wb := w5.heap.size + 1) (B := W.heap.size + 2) 5 HS.out HR.out iW.below hbx (by omega) (by omega)
  clear hWW I5 hbx
  refine wpIn_rangeFunc_gs rfl (by omega) (gf := 68) (lb := #[.pointer (some ⟨w5.heap.size + 1, 0, none⟩)]) rfl trivial (enters_of Tryz.func68 (by kernel_rfl) rfl)
    hseq (Below.refl _ _) (fun _ => rfl) (RoomsI xs n (some a) c g w w5.heap.size) (fun cd _ V => cd = .ret ∧ V.heap[w.heap.size + 2]? = some (.cells #[.bool false] 4 (0, 0)) ∧ Below w.heap.size w V ∧ roomsB xs n = false)
    ?ia ?ip ?rp ?xp ?im iW (fun x : Nat => { tmps := #[.slice (some a) n c, .pointer (some ⟨g, 0, none⟩), .pointer (some ⟨w.heap.size, 0, none⟩), .pointer (some ⟨w.heap.size + 1, 0, none⟩), .pointer (some ⟨w.heap.size + 1 + 1, 0, none⟩), .pointer (some ⟨w5.heap.size, 0, none⟩), .int .i64 (x : Int), undef, undef, undef, undef, undef, undef, .map (some (w.heap.size + 3)), .map (some (w.heap.size + 3)), .slice (some a) n c, .func (.func 68) #[] #[.pointer (some ⟨w5.heap.size + 1, 0, none⟩)], .int .i64 (x : Int), undef, undef, undef, undef, undef, undef, undef, undef, undef, undef, undef, undef, undef, undef, undef, undef, undef, undef, undef, undef, undef, undef, undef, undef, undef, undef, undef, undef, undef, undef, undef, undef, undef, undef, undef, undef, undef, undef, undef, undef, undef, undef, undef, undef, undef, undef, undef, undef, undef], defers := [] }) ?assign ?body ?done ?stop
  case ia => exact fun ys V o h => h.same (N := V.heap.size) (heapLt h.mbox) (by obtain ⟨_, _, hq, _⟩ := h.map; have := hq.lt; omega) ((Below.refl _ _).alloc (Nat.le_refl _) _)
  case ip => exact fun ys V l o o' hl h ho hc => h.same (N := W.heap.size) (by omega) (by omega) ((Below.refl _ _).grown (grownBy_putObj' V l o') (by have := heapLt ho; omega) (fun k e => by cases e; omega))
  case rp => exact fun s V l o o' hl h ho hc => h.put hl ho hc (by omega) (by have := iW.below.size; omega)
  case xp => exact fun cd ys V l o o' hl ⟨h1, h2, h3, h4⟩ ho hc => ⟨h1, (World.putObj_heap_other (by omega)).trans h2, h3.grown (grownBy_putObj' V l o') (by have := heapLt ho; omega) (fun k e => by cases e; omega), h4⟩
  case im => exact fun ys V V' h hb => h.same (N := W.heap.size + 2) (by omega) (by omega) hb
  case assign =>
    intro l x V K hK
    have HK := Lib.hid hK
    clear hK
    simp only [List.zip_toArray, List.zip_cons_cons, List.zip_nil_right, List.size_toArray, List.foldl_toArray', List.foldl_cons, List.foldl_nil, List.setIfInBounds_toArray, List.set_cons_succ, List.set_cons_zero]
    gi_wp2
    exact HK.out
  case body =>
    intro l pre x s V hok hI hR
    obtain ⟨ρ, m, hm, hri, hm3⟩ := hI.map
    obtain ⟨r, hr1, hr2, hr3⟩ := hri.at hok
    have hx : x < n := hok.1
    obtain ⟨c0, c1, c2, c3⟩ := (HS.out.later hR.below).four x hx
    obtain ⟨k, hk0⟩ : ∃ k : Nat, xs.getD (x * 4) 0 = (k : Int) := ⟨(xs.getD (x * 4) 0).toNat, by have : opC xs x = xs.getD (x * 4) 0 := rfl; have := HR.out.op hx; omega⟩
    have hk1 : 1 ≤ k ∧ k ≤ 13 := by have : opC xs x = xs.getD (x * 4) 0 := rfl; have := HR.out.op hx; omega
    have hfD : Forms V n g b := HF.out.below hR.below (by have := (Array.getElem?_eq_some_iff.1 HF.out.1).1; exact this) HF.out.2.2
    obtain ⟨st, u0, u1, u2, u3, p0, p1, p2, p3, p4, hps⟩ := passOf hfD k hk1.1 hk1.2
    have hrv : r = -1 ∨ r = 0 ∨ r = 1 := by omega
    have hheld : heldX xs x r = heldO (k : Int) (xs.getD (x * 4 + 1) 0) r := by rw [← hk0]; rfl
    have hfol := fun W => followers HR.out x hx W
    rw [hk0] at c0 hfol
    have hps' := fun W => hps (xs.getD (x * 4 + 1) 0) (xs.getD (x * 4 + 2) 0) (xs.getD (x * 4 + 3) 0) r W hrv
    generalize xs.getD (x * 4 + 1) 0 = x1 at c1 hps' hheld hfol
    generalize xs.getD (x * 4 + 2) 0 = x2 at c2 hps' hfol
    generalize xs.getD (x * 4 + 3) 0 = x3 at c3 hps' hfol
    have HFOL := Lib.hid hfol
    have HHELD := Lib.hid hheld
    have cP : ∀ d os, CallsIn Fence.wide 3 Tryz.prog 52 #[.agg #[.string st, u0, u1, u2, u3], .agg #[.int .i64 k, .int .i64 x1, .int .i64 x2, .int .i64 x3], .int .i64 r] (grow (redrawn V d) os) fun e w'' => e = .returned (.tuple #[.int .i64 (zO k x1 r), .bool (heldO k x1 r).isSome]) ∧ ∃ p : Regrown, w'' = grow (redrawn V p.d) p.os :=
      fun d os => CallsIn.regrown_of (callsIn_wide.2 (hps' _))
    have lk : ∀ d os, (Instr.lookup 77 (.map (some (w.heap.size + 3))) (.int .i64 x) false).run Tryz.prog (grow (redrawn V d) os) = .ok (.int .i64 r) (grow (redrawn V d) os) :=
      fun d os => (hm.block ((below_regrown V d os).block _ hm.lt)).run (by omega) hr1
    have cc := cell_regrown (boxCell hI.code)
    have cf := cell_regrown (boxCell hI.forms)
    have cm := cell_regrown (boxCell hI.mbox)
    have e0 := cell_regrown c0
    have e1 := cell_regrown c1
    have e2 := cell_regrown c2
    have e3 := cell_regrown c3
    have f0 := cell_regrown p0
    have f1 := cell_regrown p1
    have f2 := cell_regrown p2
    have f3 := cell_regrown p3
    have f4 := cell_regrown p4
    have hk14 : (k : Int) < 14 := by omega
    have hk00 : (0 : Int) ≤ (k : Int) := by omega
    have HRI := Lib.hid hri
    have HM := Lib.hid hm
    have HI := Lib.hid hI
    have HRD := Lib.hid hR
    clear hps hps' hfol hheld hfD hk0 hri hm hI hR c0 c1 c2 c3 p0 p1 p2 p3 p4 hseq iW
    gi_wp2_with fail
    refine region_quiet_round (C := fun w' => ∃ p : Regrown, w' = grow (redrawn V p.d) p.os) rfl (by kernel_rfl) (by kernel_rfl) (by kernel_rfl) ⟨⟨V.drawn + 1, #[]⟩, by rw [grow_empty]; rfl⟩ ?_
    repeat (quiet_step_in (first | exact ⟨hdd _, cP _ _⟩ | exact cP _ _))
    refine wpQuietIn_nil ?_
    rintro V1 ⟨⟨dq, osq⟩, rfl⟩
    have b1 := below_regrown V dq osq
    have d0 := e0 dq osq
    have d1 := e1 dq osq
    have d2 := e2 dq osq
    have d3 := e3 dq osq
    have cc1 := cc dq osq
    have cm1 := cm dq osq
    have hr0 : V.heap[w.heap.size + 1 + 1]? = some (.cells #[.bool false] 4 (0, 0)) := HI.out.res
    have r1 := (b1.block _ (heapLt hr0)).trans hr0
    have cr1 := boxCell r1
    have fr1 := boxFree r1
    have m1 := HM.out.block (b1.block _ HM.out.lt)
    have g1 : V.grownBy (grow (redrawn V dq) osq) (some (w.heap.size + 3)) := ⟨b1.os, b1.tape, b1.output, b1.size, fun j hj _ => b1.block j hj⟩
    clear cc cf cm e0 e1 e2 e3 f0 f1 f2 f3 f4 cP lk hr0
    generalize grow (redrawn V dq) osq = V1 at *
    rw [← HHELD.out]
    cases hh : heldX xs x r with
    | none =>
      have HFL := Lib.hid (HRI.out.fail hx hr1 hh)
      have M1 := Lib.hid (And.intro r1 g1)
      clear m1 r1 g1 b1
      simp only [Option.isSome_none]
      gi_wp2_with fail
      have hg1 := M1.out.2
      have hb1 : Below w.heap.size w V1 := HI.out.below.grown hg1 (by have := HI.out.below.size; omega) (fun b e => by cases e; omega)
      refine ⟨⟨Nat.le_trans hg1.size (grownSet V1 ⟨w.heap.size + 1 + 1, 0, none⟩ (.bool false)).size, fun j o hj ho _ => (Below.heap_setCell _ _ _ j (by simp; omega)).trans ((hg1.block j (heapLt ho) (by simp; omega)).trans ho)⟩, rfl, Boxed.set (W := V1) (B := w.heap.size + 1 + 1) (t := 4) (v := .bool false) (.bool false) M1.out.1, hb1.setCell (p := ⟨w.heap.size + 1 + 1, 0, none⟩) (by simp; omega) _, HFL.out⟩
    | some r' =>
      have hz : zO k x1 r = r' := zO_held (by rw [← HHELD.out]; exact hh)
      have hrb := HR.out.held hx (by omega) (by omega) hh
      have HPU := Lib.hid (fun j (hj : j ∈ nextX xs x) => HRI.out.push hx hr1 hh hj)
      have HHH := Lib.hid hh
      have hnl : (nextX xs x).length ≤ 2 := by
        unfold nextX nextO
        repeat' split
        all_goals simp
      have hpl : pre.length < n := hok.2.2.2
      have hnx := fun j (hj : j ∈ nextX xs x) => HR.out.next hx j hj
      have HNX := Lib.hid hnx
      rw [hz]
      clear hz hh hnx
      simp only [Option.isSome_some]
      gi_wp2_with ((try refine ⟨hdd _, ?_⟩); gi_at_call 53; refine (CallsIn.inRound l ((callsIn_wide (n := _)).2 (HFOL.out _))).mono ?_; rintro e w2 ⟨vN, rfl, oN, hb2⟩
                   obtain ⟨AN, cN, rfl⟩ := own_slc' oN
                   have RE := Lib.hid (show RoomsQ xs n w.heap.size x r r' V V1.heap.size (.slice AN (nextX xs x).length cN) pre m (.int .i64 (0 : Nat)) w2 from
                     ⟨0, ρ, m, rfl, Nat.zero_le _, grown_trans g1 (grownB9 hb2), m1.block (hb2.block _ m1.lt), HRI.out, Nat.le_refl _, fun j hj => by simp at hj, hr1, oN⟩))
      have hX := m1.lt
      have HMB := Lib.hid HI.out.mbox
      have HRES : Go.RowKit.Hid (V.heap[w.heap.size + 1 + 1]? = some (.cells #[.bool false] 4 (0, 0))) := Lib.hid HI.out.res
      clear oN hb2 m1 g1 b1 r1 cr1 fr1 d0 d1 d2 d3 cc1 cm1 HM HFOL HRI hk1 hk14 hk00 hrv HHELD
      gi_loopw [47] (fun i wr => RoomsQ xs n w.heap.size x r r' V V1.heap.size (.slice AN (nextX xs x).length cN) pre m i wr) (fun i _ => (nextX xs x).length - (intOf i).toNat)
      case atStart => exact RE.out
      case round =>
        clear RE
        obtain ⟨q, ρq, m', rfl, hq, hgw, hmw, hriq, hm', hdn, hrx, oq⟩ := hrel
        by_cases hlt : q < (nextX xs x).length
        · obtain ⟨gn, capN, hvn, _, _⟩ := own_some' oq (by omega)
          simp only [Value.slice.injEq, true_and] at hvn
          obtain ⟨rfl, rfl⟩ := hvn
          have cn := oq.cellAt q (by omega)
          rw [ints_get (by simp; omega)] at cn
          have hjj : ((nextX xs x).map fun (j : Nat) => (j : Int)).getD q 0 = (((nextX xs x).getD q 0 : Nat) : Int) := by simp [List.getD, hlt]
          rw [hjj] at cn
          have htk : (nextX xs x).take (q + 1) = (nextX xs x).take q ++ [(nextX xs x).getD q 0] := by
            rw [List.take_add_one]; congr 1; simp [List.getD, hlt]
          have hjm : (nextX xs x).getD q 0 ∈ nextX xs x := mem_getD hlt
          have hgn := (own_at oq (b := gn) rfl).1
          have hj60 := HNX.out _ hjm
          have HF' := Lib.hid (HPU.out _ hjm)
          have HTK := Lib.hid htk
          clear hjj htk hjm
          generalize (nextX xs x).getD q 0 = j at *
          have cmr := boxCell ((hgw.block _ (heapLt HMB.out) (by simp; omega)).trans HMB.out)
          have rr := (hgw.block _ (heapLt HRES.out) (by simp)).trans HRES.out
          have crr := boxCell rr
          have frr := boxFree rr
          have hm1000 : m' < 1000 := by omega
          have HDN := Lib.hid hdn
          have HRQ := Lib.hid hriq
          have HRR := Lib.hid rr
          have HOQ := Lib.hid oq
          have fin : ∀ w4, (ρq j = none ∨ ρq j = some r') → MapIs w4 (w.heap.size + 3) (m' + 1) (upd ρq j r') → wr.grownBy w4 (some (w.heap.size + 3)) → RoomsQ xs n w.heap.size x r r' V V1.heap.size (.slice (some ⟨gn, 0, none⟩) (nextX xs x).length cN) pre m (.int .i64 ((q : Int) + 1)) w4 := fun w4 hk hm4 hg4 =>
            ⟨q + 1, upd ρq j r', m' + 1, by go_num, by omega, grown_trans hgw hg4, hm4, HRQ.out.put hj60 hrb.1 hrb.2 HF'.out hk, by omega, fun i hi => by
              rw [HTK.out] at hi
              rcases List.mem_append.1 hi with hi | hi
              · exact upd_keep hk (HDN.out i hi)
              · simp at hi; subst hi; exact upd_at _ _ _, upd_keep hk hrx, HOQ.out.kept hg4 (.inr (by simp only [Value.ownBlock, ne_eq, Option.some.injEq]; omega))⟩
          have FIN := Lib.hid fin
          clear fin hdn hriq rr oq
          cases hj : ρq j with
          | none =>
            gi_wp2_with (first
              | (gi_at_lookup; refine wpListIn_look rfl _ _ rfl (w.heap.size + 3) m' ρq rfl hmw j rfl (by omega) false (by rw [hj]; rfl) ?_; intro cv hcv)
              | (gi_at_mapUpdate; refine wpListIn_put rfl _ _ _ (.inl rfl) (w.heap.size + 3) m' ρq rfl hmw hm1000 j r' rfl rfl (by omega) hrb.1 (by omega) ?_; intro w4 hm4 hg4; have RR := Lib.hid (FIN.out w4 (.inl hj) hm4 hg4); clear hm4 hg4))
            go_roundw
            case rel => exact RR.out
            case measure => simp [intOf]; omega
          | some kn =>
            by_cases hkn : kn = r'
            · subst hkn
              gi_wp2_with (first
                | (gi_at_lookup; refine wpListIn_look rfl _ _ rfl (w.heap.size + 3) m' ρq rfl hmw j rfl (by omega) true (by rw [hj]; rfl) ?_; intro cv hcv; obtain rfl := hcv _ hj)
                | (gi_at_mapUpdate; refine wpListIn_put rfl _ _ _ (.inl rfl) (w.heap.size + 3) m' ρq rfl hmw hm1000 j _ rfl rfl (by omega) hrb.1 (by omega) ?_; intro w4 hm4 hg4; have RR := Lib.hid (FIN.out w4 (.inr hj) hm4 hg4); clear hm4 hg4))
              go_roundw
              case rel => exact RR.out
              case measure => simp [intOf]; omega
            · have hne : (kn != r') = true := by simpa using hkn
              gi_wp2_with (gi_at_lookup; refine wpListIn_look rfl _ _ rfl (w.heap.size + 3) m' ρq rfl hmw j rfl (by omega) true (by rw [hj]; rfl) ?_; intro cv hcv; obtain rfl := hcv _ hj)
              have hg9 := hgw
              have HFL := Lib.hid (HRQ.out.other hj HF'.out hkn)
              have hb1 : Below w.heap.size w wr := HI.out.below.grown hgw (by have := HI.out.below.size; omega) (fun b e => by cases e; omega)
              refine ⟨⟨Nat.le_trans hgw.size (grownSet wr ⟨w.heap.size + 1 + 1, 0, none⟩ (.bool false)).size, fun i o hi ho _ => (Below.heap_setCell _ _ _ i (by simp; omega)).trans ((hgw.block i (heapLt ho) (by simp; omega)).trans ho)⟩, rfl, Boxed.set (W := wr) (B := w.heap.size + 1 + 1) (t := 4) (v := .bool false) (.bool false) HRR.out, hb1.setCell (p := ⟨w.heap.size + 1 + 1, 0, none⟩) (by simp; omega) _, HFL.out⟩
        · obtain rfl : q = (nextX xs x).length := by omega
          have hall : ∀ j ∈ nextX xs x, ρq j = some r' := fun j hj => hdn j (by rw [List.take_of_length_le (Nat.le_refl _)]; exact hj)
          have HRM := Lib.hid (hriq.more hrx HHH.out hall)
          clear hall hdn hriq oq
          have hg9 := hgw
          gi_wp2_with fail
          refine ⟨keepsGrown hg9 (by omega), HI.out.go hg9 z5 hmw HRM.out (by omega) hpl, HRD.out.kept (X := w.heap.size + 3) (by omega) (by omega) (HI.out.below.grown hg9 (by have := HI.out.below.size; omega) (fun b e => by cases e; omega)) (fun i o hi ho _ => (hg9.block i (heapLt ho) (by simp; omega)).trans ho)⟩
  case done =>
    intro D ys V hD hys hI hV
    have HT : Go.RowKit.Hid (roomsB xs n = true) := Lib.hid (by obtain ⟨ρ, m, _, h2, _⟩ := hI.map; exact h2.end hys)
    have hr2 : V.heap[w.heap.size + 1 + 1]? = some (.cells #[.bool false] 4 (0, 0)) := hI.res
    have crr := boxCell hr2
    have frr := boxFree hr2
    have hb := hI.below
    clear hseq iW hI
    gi_wp2
    rw [HT.out]
    exact leave_cell _ rfl true (by omega) (by rw [show (V.setCell ⟨w.heap.size + 1 + 1, 0, none⟩ (.bool true)).heap[D]? = V.heap[D]? from Below.heap_setCell _ _ _ D (by simp; omega)]; exact hV) (Boxed.set (W := V) (B := w.heap.size + 1 + 1) (t := 4) (v := .bool false) (.bool true) hr2) (hb.setCell (p := ⟨w.heap.size + 1 + 1, 0, none⟩) (by simp; omega) _)
  case stop =>
    intro D cd ys V hD _ hX hV
    obtain ⟨rfl, hr2, hb, hf⟩ := hX
    have HT := Lib.hid hf
    clear hseq iW hf
    gi_wp2
    rw [HT.out]
    exact leave_cell _ rfl false (by omega) hV hr2 hb

/-- The program's search, outside a fence. -/
theorem hasRooms {xs : List Int} {A : Option Addr} {n c g b : Nat} {S : Nat → Prop} {w : World} (hs : Fl w S 4 xs A n c) (hr : Right xs n) (hf : Forms w n g b) :
    Calls Tryz.prog 26 #[.slice A n c, .pointer (some ⟨g, 0, none⟩)] w fun e w' => e = .returned (.bool (roomsB xs n)) ∧ Below w.heap.size w w' :=
  (callsIn_wide (n := 6)).1 (hasRoomsI hs hr hf)
end Go.Proofs.YtnfnjhbaaefbpaaGreatDoor

/- CodeOk of the program. -/
namespace Go.Proofs.YtnfnjhbaaefbpaaGreatDoor
open Go.ChangeShapes Go.WideShapes Go.ChangeAt Go.RowKit

set_option maxRecDepth 100000 in
set_option maxHeartbeats 4000000 in
theorem codeOk {xs : List Int} {A : Option Addr} {n c : Nat} {S : Nat → Prop} {w : World} (hs : Fl w S 4 xs A n c) :
    Calls Tryz.prog 11 #[.slice A n c] w fun e w' => e = .returned (.bool (codeB xs n)) ∧ Below w.heap.size w w' := by
  have hmax : n ≤ 9223372036854775807 := by have := hs.le; have := hs.top; unfold maxLen at this; omega
  by_cases hn : 1 ≤ n ∧ n ≤ 60
  · obtain ⟨hn1, hn60⟩ := hn
    have HL := Lib.hid hs.len
    go_enter Tryz.func11, Tryz.ntmps11
    go_wp2_with fail
    refine (formsOf n w).mono ?_
    rintro e w1 ⟨⟨g, b, rfl, hg, hbb, hf⟩, hb1⟩
    have HF := Lib.hid hf
    have z1 := hb1.size
    have hgl : g < w1.heap.size := (Array.getElem?_eq_some_iff.1 hf.1).1
    clear hf
    go_wp2_with fail
    go_loopw [19] (fun i wr => ∃ k : Nat, k ≤ n ∧ i = .int .i64 k ∧ (∀ j, j < k → insB (opC xs j) (aC xs j) (bC xs j) (toC xs j) n = true ∧ (opC xs j = 13 ↔ j + 1 = n)) ∧ Below w1.heap.size w1 wr) (fun i _ => n - (intOf i).toNat)
    case atStart => exact ⟨0, Nat.zero_le _, rfl, fun j hj => by omega, Below.refl _ _⟩
    case round =>
      obtain ⟨k, hk, rfl, hd, hb⟩ := hrel
      have HD := Lib.hid hd
      have hsz := hb.size
      clear hd
      by_cases hlt : k < n
      · obtain ⟨a, rfl⟩ := hs.some (by omega)
        obtain ⟨c0, c1, c2, c3⟩ := ((hs.later hb1).later hb).four k hlt
        have hin := fun (W : World) (hW : Below wr.heap.size wr W) => fits (xs.getD (k * 4) 0) (xs.getD (k * 4 + 1) 0) (xs.getD (k * 4 + 2) 0) (xs.getD (k * 4 + 3) 0) n g b W ((HF.out.below hb hgl HF.out.2.2).below hW (by omega) (by have := HF.out.2.2; omega))
        have e0 : opC xs k = xs.getD (k * 4) 0 := rfl
        have e1 : insB (opC xs k) (aC xs k) (bC xs k) (toC xs k) n = insB (xs.getD (k * 4) 0) (xs.getD (k * 4 + 1) 0) (xs.getD (k * 4 + 2) 0) (xs.getD (k * 4 + 3) 0) n := rfl
        generalize hbb' : insB (xs.getD (k * 4) 0) (xs.getD (k * 4 + 1) 0) (xs.getD (k * 4 + 2) 0) (xs.getD (k * 4 + 3) 0) n = bb at hin e1
        clear hbb'
        generalize xs.getD (k * 4) 0 = x0 at c0 hin e0
        generalize xs.getD (k * 4 + 1) 0 = x1 at c1 hin
        generalize xs.getD (k * 4 + 2) 0 = x2 at c2 hin
        generalize xs.getD (k * 4 + 3) 0 = x3 at c3 hin
        cases bb
        · have hf : codeB xs n = false := codeB_not hlt (fun h => by rw [e1] at h; cases h.1)
          have HFL := Lib.hid hf
          have HI := Lib.hid hin
          clear hf hin e0 e1
          go_wp2_with fail
          refine (HI.out _ ((Below.refl _ _).alloc (Nat.le_refl _) _)).mono ?_
          rintro e w2 ⟨rfl, hb2⟩
          have b2 : Below wr.heap.size wr w2 := ((Below.refl _ _).alloc (Nat.le_refl _) _).trans (hb2.mono (by simp))
          have d0 : w2.cell? ⟨wr.heap.size, 0, none⟩ = some (.int .i64 x0) := by
            rw [hb2.cell (p := ⟨wr.heap.size, 0, none⟩) (by simp)]
            simp
          have bz : Below w.heap.size w w2 := (hb1.trans (hb.mono (by omega))).trans (b2.mono (by omega))
          have bz1 : Below w1.heap.size w1 w2 := hb.trans (b2.mono hsz)
          clear c0 c1 c2 c3 hb2
          go_wp2_with fail
          go_ret
          exact ⟨by rw [HFL.out]; rfl, bz⟩
        · have HI := Lib.hid hin
          have E1 := Lib.hid e1
          clear hin e1
          by_cases hiff : (opC xs k = 13 ↔ k + 1 = n)
          · have hnn : ∀ j, j < k + 1 → insB (opC xs j) (aC xs j) (bC xs j) (toC xs j) n = true ∧ (opC xs j = 13 ↔ j + 1 = n) := fun j hj => by
              by_cases e : j = k
              · subst e; exact ⟨E1.out, hiff⟩
              · exact HD.out j (by omega)
            have HN := Lib.hid hnn
            have hq : (x0 == 13) = ((k : Int) == (n : Int) - 1) := by
              rw [Bool.eq_iff_iff]
              simp only [beq_iff_eq]
              rw [← e0, hiff]; omega
            generalize hx : (x0 == 13) = p at *
            have hq' : ((k : Int) == (n : Int) - 1) = p := hq.symm
            clear hnn e0 hiff hq
            go_wp2_with fail
            refine (HI.out _ ((Below.refl _ _).alloc (Nat.le_refl _) _)).mono ?_
            rintro e w2 ⟨rfl, hb2⟩
            have b2 : Below wr.heap.size wr w2 := ((Below.refl _ _).alloc (Nat.le_refl _) _).trans (hb2.mono (by simp))
            have d0 : w2.cell? ⟨wr.heap.size, 0, none⟩ = some (.int .i64 x0) := by
              rw [hb2.cell (p := ⟨wr.heap.size, 0, none⟩) (by simp)]
              simp
            have bz : Below w.heap.size w w2 := (hb1.trans (hb.mono (by omega))).trans (b2.mono (by omega))
            have bz1 : Below w1.heap.size w1 w2 := hb.trans (b2.mono hsz)
            clear c0 c1 c2 c3 hb2
            go_wp2_with fail
            go_roundw
            case rel => exact ⟨k + 1, by omega, by go_num, HN.out, bz1⟩
            case measure => simp [intOf]; omega
          · have hf : codeB xs n = false := codeB_not hlt (fun h => hiff h.2)
            have HFL := Lib.hid hf
            have hq : (x0 == 13) = !((k : Int) == (n : Int) - 1) := by
              rw [e0] at hiff
              cases hp : (x0 == 13) <;> cases hp' : ((k : Int) == (n : Int) - 1) <;> simp only [beq_iff_eq, beq_eq_false_iff_ne, ne_eq] at hp hp' <;> first | rfl | (exfalso; apply hiff; constructor <;> intro h <;> omega)
            generalize hx : ((k : Int) == (n : Int) - 1) = p at *
            clear hf e0 hiff
            go_wp2_with fail
            refine (HI.out _ ((Below.refl _ _).alloc (Nat.le_refl _) _)).mono ?_
            rintro e w2 ⟨rfl, hb2⟩
            have b2 : Below wr.heap.size wr w2 := ((Below.refl _ _).alloc (Nat.le_refl _) _).trans (hb2.mono (by simp))
            have d0 : w2.cell? ⟨wr.heap.size, 0, none⟩ = some (.int .i64 x0) := by
              rw [hb2.cell (p := ⟨wr.heap.size, 0, none⟩) (by simp)]
              simp
            have bz : Below w.heap.size w w2 := (hb1.trans (hb.mono (by omega))).trans (b2.mono (by omega))
            have bz1 : Below w1.heap.size w1 w2 := hb.trans (b2.mono hsz)
            clear c0 c1 c2 c3 hb2
            go_wp2_with fail
            go_ret
            exact ⟨by rw [HFL.out]; rfl, bz⟩
      · have hright : Right xs n := ⟨HL.out, hn1, hn60, fun i hi => (HD.out i (by omega)).1, fun i hi => (HD.out i (by omega)).2⟩
        have hc := codeB_right hright
        have hro := hasRooms ((hs.later hb1).later hb) hright (HF.out.below hb hgl HF.out.2.2)
        have HC := Lib.hid hc
        have HRO := Lib.hid hro
        have bw : Below w.heap.size w wr := hb1.trans (hb.mono (by omega))
        clear hc hro hright
        go_wp2_with fail
        refine HRO.out.mono ?_
        rintro e w2 ⟨rfl, hb2⟩
        go_wp2_with fail
        go_ret
        exact ⟨by rw [HC.out]; rfl, bw.trans (hb2.mono (by omega))⟩
  · rw [codeB_few hn]
    have hn' : n < 1 ∨ 60 < n := by omega
    clear hn
    rcases hn' with h | h
    · obtain rfl : n = 0 := by omega
      go_enter Tryz.func11, Tryz.ntmps11
      go_wp2
      go_ret
      exact ⟨rfl, Below.refl _ _⟩
    · go_enter Tryz.func11, Tryz.ntmps11
      go_wp2
      go_ret
      exact ⟨rfl, Below.refl _ _⟩
end Go.Proofs.YtnfnjhbaaefbpaaGreatDoor

/- The model's checks of one instruction: l4Ins. -/
namespace Go.Proofs.YtnfnjhbaaefbpaaGreatDoor
open Go.ChangeShapes Go.WideShapes Go.ChangeAt Go.RowKit

set_option maxRecDepth 100000 in
set_option maxHeartbeats 8000000 in
theorem specIns (o a b t : Int) (m : Nat) (w : World) :
    Calls Tryz.prog 31 #[.agg #[.int .i64 o, .int .i64 a, .int .i64 b, .int .i64 t], .int .i64 m] w fun e w' => e = .returned (.bool (insB o a b t m)) ∧ Below w.heap.size w w' := by
  have hb : ∀ i : Int, o = i → (1 ≤ i ∧ i ≤ 5) → insB o a b t m = leafB o a b t (-1) := fun i h1 h2 => by unfold insB; rw [if_pos (by omega)]
  have hk : (o = 1 ∨ o = 2 ∨ o = 3 ∨ o = 4 ∨ o = 5) ∨ o = 6 ∨ o = 7 ∨ o = 8 ∨ o = 9 ∨ o = 10 ∨ o = 11 ∨ o = 12 ∨ o = 13 ∨ (o ≠ 1 ∧ o ≠ 2 ∧ o ≠ 3 ∧ o ≠ 4 ∧ o ≠ 5 ∧ o ≠ 6 ∧ o ≠ 7 ∧ o ≠ 8 ∧ o ≠ 9 ∧ o ≠ 10 ∧ o ≠ 11 ∧ o ≠ 12 ∧ o ≠ 13) := by omega
  rcases hk with h5 | hk
  · have hl : insB o a b t m = leafB o a b t (-1) := by unfold insB; rw [if_pos (by omega)]
    rw [hl]
    clear hb hl
    have HL := Lib.hid (fun W => specLeaf o a b t (-1) (.slice none 0 0) (.slice none 0 0) W)
    rcases h5 with rfl | rfl | rfl | rfl | rfl
    all_goals
      go_enter Tryz.func31, Tryz.ntmps31
      go_wp2_with (go_at_call 58; refine (HL.out _).mono ?_; rintro e w' ⟨rfl, hb1⟩)
      all_goals
        go_ret
        refine ⟨rfl, ?_⟩
        first
          | exact ((Below.refl _ _).alloc (Nat.le_refl _) _).trans (hb1.mono (by simp))
          | exact hb1
  · clear hb
    rcases hk with rfl | rfl | rfl | rfl | rfl | rfl | rfl | rfl | ⟨h1, h2, h3, h4, h5, h6, h7, h8, h9, h10, h11, h12, h13⟩
    case inr.inr.inr.inr.inr.inr.inr.inr =>
      have hf : insB o a b t m = false := by unfold insB; rw [if_neg (by omega), if_neg h6, if_neg h7, if_neg (by omega), if_neg (by omega)]
      rw [hf]
      clear hf
      go_enter Tryz.func31, Tryz.ntmps31
      go_wp2
      all_goals
        go_ret
        refine ⟨rfl, ?_⟩
        repeat' (first | exact Below.refl _ _ | (refine Below.alloc ?_ (by first | exact Nat.le_refl _ | (simp; done) | (simp; omega)) _))
    all_goals
      go_enter Tryz.func31, Tryz.ntmps31
      go_wp2
      all_goals
        go_ret
        refine ⟨retB ?_, ?_⟩
        · rw [Bool.eq_iff_iff]
          simp [insB, *] <;> omega
        · repeat' (first | exact Below.refl _ _ | (refine Below.alloc ?_ (by first | exact Nat.le_refl _ | (simp; done) | (simp; omega)) _))
end Go.Proofs.YtnfnjhbaaefbpaaGreatDoor

/- CodeOk of the model. -/
namespace Go.Proofs.YtnfnjhbaaefbpaaGreatDoor
open Go.ChangeShapes Go.WideShapes Go.ChangeAt Go.RowKit

set_option maxRecDepth 100000 in
set_option maxHeartbeats 4000000 in
theorem specCodeOk {xs : List Int} {A : Option Addr} {n c : Nat} {S : Nat → Prop} {w : World} (hs : Fl w S 4 xs A n c) :
    Calls Tryz.prog 14 #[.slice A n c] w fun e w' => e = .returned (.bool (codeB xs n)) ∧ Below w.heap.size w w' := by
  have hmax : n ≤ 9223372036854775807 := by have := hs.le; have := hs.top; unfold maxLen at this; omega
  by_cases hn : 1 ≤ n ∧ n ≤ 60
  · obtain ⟨hn1, hn60⟩ := hn
    have hl := hs.len
    obtain ⟨a, rfl⟩ := hs.some (by omega)
    by_cases hend : opC xs (n - 1) = 13
    · have ce := (hs.four (n - 1) (by omega)).1
      rw [show xs.getD ((n - 1) * 4) 0 = 13 from hend] at ce
      obtain ⟨m, rfl⟩ : ∃ m, n = m + 1 := ⟨n - 1, by omega⟩
      rw [show m + 1 - 1 = m from rfl] at ce hend
      have HEND := Lib.hid hend
      have HL := Lib.hid hl
      clear hend hl hn1
      go_enter Tryz.func14, Tryz.ntmps14
      go_wp2_with fail
      go_loopw [4] (fun i wr => ∃ k : Nat, k ≤ m + 1 ∧ i = .int .i64 k ∧ (∀ j, j < k → insB (opC xs j) (aC xs j) (bC xs j) (toC xs j) (m + 1) = true ∧ (opC xs j = 13 → j = m)) ∧ Below w.heap.size w wr) (fun i _ => m + 1 - (intOf i).toNat)
      case atStart => exact ⟨0, Nat.zero_le _, rfl, fun j hj => by omega, Below.refl _ _⟩
      case round =>
        obtain ⟨k, hk, rfl, hd, hb⟩ := hrel
        have HD := Lib.hid hd
        have hsz := hb.size
        clear hd ce
        by_cases hlt : k < m + 1
        · obtain ⟨c0, c1, c2, c3⟩ := (hs.later hb).four k hlt
          have hin := fun W => specIns (xs.getD (k * 4) 0) (xs.getD (k * 4 + 1) 0) (xs.getD (k * 4 + 2) 0) (xs.getD (k * 4 + 3) 0) (m + 1) W
          have e0 : opC xs k = xs.getD (k * 4) 0 := rfl
          have e1 : insB (opC xs k) (aC xs k) (bC xs k) (toC xs k) (m + 1) = insB (xs.getD (k * 4) 0) (xs.getD (k * 4 + 1) 0) (xs.getD (k * 4 + 2) 0) (xs.getD (k * 4 + 3) 0) (m + 1) := rfl
          generalize hbb : insB (xs.getD (k * 4) 0) (xs.getD (k * 4 + 1) 0) (xs.getD (k * 4 + 2) 0) (xs.getD (k * 4 + 3) 0) (m + 1) = bb at hin e1
          clear hbb
          generalize xs.getD (k * 4) 0 = x0 at c0 hin e0
          generalize xs.getD (k * 4 + 1) 0 = x1 at c1 hin
          generalize xs.getD (k * 4 + 2) 0 = x2 at c2 hin
          generalize xs.getD (k * 4 + 3) 0 = x3 at c3 hin
          have ba := World.block_lt_of_cell? _ _ c0
          have C0 := Lib.hid (fun (W : World) (hW : Below wr.heap.size wr W) => (hW.cell ba).trans c0)
          cases bb
          · have hf : codeB xs (m + 1) = false := codeB_not hlt (fun h => by rw [e1] at h; cases h.1)
            have HF := Lib.hid hf
            have HI := Lib.hid hin
            clear hf hin e0 e1
            go_wp2_with fail
            refine (HI.out _).mono ?_
            rintro e w1 ⟨rfl, hb1⟩
            go_wp2_with fail
            go_ret
            exact ⟨by rw [HF.out]; rfl, hb.trans (hb1.mono hsz)⟩
          · have HI := Lib.hid hin
            have E1 := Lib.hid e1
            clear hin e1
            by_cases h13 : x0 = 13
            · by_cases hkl : k = m
              · have hn : ∀ j, j < k + 1 → insB (opC xs j) (aC xs j) (bC xs j) (toC xs j) (m + 1) = true ∧ (opC xs j = 13 → j = m) := fun j hj => by
                  by_cases e : j = k
                  · subst e; exact ⟨E1.out, fun _ => by omega⟩
                  · exact HD.out j (by omega)
                have HN := Lib.hid hn
                have hge : ¬ (k : Int) < (m : Int) := by omega
                subst h13
                clear hn e0 hkl
                go_wp2_with fail
                refine (HI.out _).mono ?_
                rintro e w1 ⟨rfl, hb1⟩
                have d0 := C0.out w1 hb1
                clear c0 c1 c2 c3
                go_wp2_with fail
                go_roundw
                case rel => exact ⟨k + 1, by omega, by go_num, HN.out, hb.trans (hb1.mono hsz)⟩
                case measure => simp [intOf]; omega
              · have hf : codeB xs (m + 1) = false := codeB_not hlt (fun h => by have := h.2.1 (e0.trans h13); omega)
                have HF := Lib.hid hf
                subst h13
                clear hf e0
                have hkm : (k : Int) < (m : Int) := by omega
                go_wp2_with fail
                refine (HI.out _).mono ?_
                rintro e w1 ⟨rfl, hb1⟩
                have d0 := C0.out w1 hb1
                clear c0 c1 c2 c3
                go_wp2_with fail
                go_ret
                exact ⟨by rw [HF.out]; rfl, hb.trans (hb1.mono hsz)⟩
            · have hn : ∀ j, j < k + 1 → insB (opC xs j) (aC xs j) (bC xs j) (toC xs j) (m + 1) = true ∧ (opC xs j = 13 → j = m) := fun j hj => by
                by_cases e : j = k
                · subst e; exact ⟨E1.out, fun h => absurd (e0.symm.trans h) h13⟩
                · exact HD.out j (by omega)
              have HN := Lib.hid hn
              have h13' : (x0 == 13) = false := by simpa using h13
              clear hn e0 h13
              go_wp2_with fail
              refine (HI.out _).mono ?_
              rintro e w1 ⟨rfl, hb1⟩
              have d0 := C0.out w1 hb1
              clear c0 c1 c2 c3
              go_wp2_with fail
              go_roundw
              case rel => exact ⟨k + 1, by omega, by go_num, HN.out, hb.trans (hb1.mono hsz)⟩
              case measure => simp [intOf]; omega
        · have hright : Right xs (m + 1) := by
            refine ⟨HL.out, by omega, hn60, fun i hi => (HD.out i (by omega)).1, fun i hi => ⟨fun h => by have := (HD.out i (by omega)).2 h; omega, fun h => ?_⟩⟩
            obtain rfl : i = m := by omega
            exact HEND.out
          have hc := codeB_right hright
          have hro := specRooms (hs.later hb) hright
          have HC := Lib.hid hc
          have HRO := Lib.hid hro
          clear hc hro hright
          go_wp2_with fail
          refine HRO.out.mono ?_
          rintro e w1 ⟨⟨v, rfl⟩, hb1⟩
          go_wp2_with fail
          go_ret
          exact ⟨by rw [HC.out]; rfl, hb.trans (hb1.mono hsz)⟩
    · have hf : codeB xs n = false := codeB_not (i := n - 1) (by omega) (fun h => hend (h.2.2 (by omega)))
      rw [hf]
      have ce := (hs.four (n - 1) (by omega)).1
      have hx : opC xs (n - 1) = xs.getD ((n - 1) * 4) 0 := rfl
      rw [hx] at hend
      obtain ⟨m, rfl⟩ : ∃ m, n = m + 1 := ⟨n - 1, by omega⟩
      rw [show m + 1 - 1 = m from rfl] at ce hend
      clear hf hx hl hn1
      generalize xs.getD (m * 4) 0 = y at ce hend
      have hy : (y != 13) = true := by simpa using hend
      have hg1 : decide ((m : Int) + 1 < 1) = false := decide_eq_false (by omega)
      have hg2 : decide ((60 : Int) < (m : Int) + 1) = false := decide_eq_false (by omega)
      clear hend
      go_enter Tryz.func14, Tryz.ntmps14
      go_wp2_with fail
      go_ret
      exact ⟨rfl, Below.refl _ _⟩
  · rw [codeB_few hn]
    have hn' : n < 1 ∨ 60 < n := by omega
    clear hn
    rcases hn' with h | h
    · obtain rfl : n = 0 := by omega
      go_enter Tryz.func14, Tryz.ntmps14
      go_wp2
      go_ret
      exact ⟨rfl, Below.refl _ _⟩
    · go_enter Tryz.func14, Tryz.ntmps14
      go_wp2
      go_ret
      exact ⟨rfl, Below.refl _ _⟩
end Go.Proofs.YtnfnjhbaaefbpaaGreatDoor

/- The walk of laws.FnCodeEnd. -/
namespace Go.Proofs.YtnfnjhbaaefbpaaGreatDoor
open Go.ChangeShapes Go.WideShapes Go.ChangeAt Go.RowKit

theorem codeB_last {xs : List Int} {n : Nat} (h : codeB xs n = true) : (1 ≤ n ∧ n ≤ 60) ∧ ∀ i, i < n → insB (opC xs i) (aC xs i) (bC xs i) (toC xs i) n = true ∧ (opC xs i = 13 ↔ i + 1 = n) := by
  unfold codeB at h
  rw [Bool.and_eq_true, Bool.and_eq_true] at h
  exact ⟨of_decide_eq_true h.1.1, of_decide_eq_true h.1.2⟩

theorem implNil (w : World) (h0 : 0 < w.heap.size) (hop : Ops w) :
    Calls Tryz.prog 7 #[.slice none 0 0] w fun e w' => ∃ A c, e = .returned (.slice A 1 c) ∧ Fl w' (fun _ => True) 4 [13, 0, 0, 0] A 1 c ∧ Below w.heap.size w w' := by
  refine (implCode (L := .nil) (Sl.none w w.heap.size 0 (Nat.zero_le _)) (Nat.le_refl _) h0 hop).mono ?_
  rintro e w' ⟨v, rfl, ho, hb⟩
  have ho' : w'.ownsRow w.heap.size 34 4 v 1 (ints [13, 0, 0, 0]) := ho
  obtain ⟨A, c, rfl⟩ := own_slice4 ho'
  exact ⟨A, c, rfl, own_fl4 ho', hb⟩

set_option maxRecDepth 100000 in
set_option maxHeartbeats 4000000 in
theorem wFnCodeEnd (A : Option Addr) (n c : Nat) (w : World) (h : Bytes w A n) (hn : n ≤ c) (hc : c ≤ maxLen) (h0 : 0 < w.heap.size) (hop : Ops w) :
    Calls Tryz.prog 4 #[.slice A n c] w fun e w' => e = .returned (.bool true) ∧ Below w.heap.size w w' := by
  have HOP := Lib.hid hop
  clear hop
  by_cases hl : 1048576 < n
  · go_enter Tryz.func4, Tryz.ntmps4
    go_wp2
    go_ret
    exact ⟨rfl, Below.refl _ _⟩
  · go_enter Tryz.func4, Tryz.ntmps4
    go_wp2_with fail
    refine (drawCodeOk A n c _ h hn hc).mono ?_
    rintro e w1 ⟨ys, m, AC, cC, rfl, o1, hm, b1⟩
    have z1 := b1.size
    have f1 := own_fl4 o1
    clear o1
    go_wp2_with fail
    refine (codeOk f1).mono ?_
    rintro e w2 ⟨rfl, hb2⟩
    have z2 := hb2.size
    have b2 := b1.trans (hb2.mono z1)
    have f2 := f1.later hb2
    clear f1 hb2
    obtain ⟨d, hd⟩ : ∃ d, codeB ys m = d := ⟨_, rfl⟩
    have HSP := Lib.hid (fun (W : World) (f : Fl W (fun _ => True) 4 ys AC m cC) => hd ▸ specCodeOk f)
    rw [hd]
    have HD := Lib.hid hd
    clear hd
    go_wp2_with fail
    refine (HSP.out w2 f2).mono ?_
    rintro e w3 ⟨rfl, hb3⟩
    have z3 := hb3.size
    have b3 := b2.trans (hb3.mono (by omega))
    have f3 := f2.later hb3
    clear f2 hb3
    have hdd : (d != d) = false := by simp
    go_wp2_with fail
    refine (implNil w3 (by omega) (HOP.out.below b3 h0)).mono ?_
    rintro e w4 ⟨A4, c4, rfl, g4, hb4⟩
    have z4 := hb4.size
    have b4 := b3.trans (hb4.mono (by omega))
    have f4 := f3.later hb4
    clear f3 hb4
    go_wp2_with fail
    have bn : Below w4.heap.size w4 (w4.alloc (.cells #[.int .i64 13, .int .i64 0, .int .i64 0, .int .i64 0] 34)) := (Below.refl _ _).alloc (Nat.le_refl _) _
    refine (codeSame (g4.later bn) (one4 (new_row w4 _ _))).mono ?_
    rintro e w5 ⟨rfl, hb5⟩
    have z5 := hb5.size
    have b5 := (b4.trans (bn.mono (by omega))).trans (hb5.mono (by simp; omega))
    have f5 := (f4.later bn).later hb5
    have z45 : w4.heap.size ≤ w5.heap.size := by simp at z5; omega
    rw [decide_eq_true rfl]
    clear f4 g4 hb5 bn z5
    cases d
    · go_wp2_with fail
      refine (HSP.out w5 f5).mono ?_
      rintro e w6 ⟨rfl, hb6⟩
      have z6 := hb6.size
      have b6 := b5.trans (hb6.mono (by omega))
      clear hb6
      go_wp2_with fail
      refine (implNil w6 (by omega) (HOP.out.below b6 h0)).mono ?_
      rintro e w7 ⟨A7, c7, rfl, g7, hb7⟩
      have z7 := hb7.size
      have b7 := b6.trans (hb7.mono (by omega))
      clear hb7
      go_wp2_with fail
      have bn : Below w7.heap.size w7 (w7.alloc (.cells #[.int .i64 13, .int .i64 0, .int .i64 0, .int .i64 0] 34)) := (Below.refl _ _).alloc (Nat.le_refl _) _
      refine (codeSame (g7.later bn) (one4 (new_row w7 _ _))).mono ?_
      rintro e w8 ⟨rfl, hb8⟩
      have b8 := (b7.trans (bn.mono (by omega))).trans (hb8.mono (by simp; omega))
      rw [decide_eq_true rfl]
      clear g7 hb8 bn
      go_wp2_with fail
      go_ret
      exact ⟨rfl, b8⟩
    · have HL := Lib.hid (codeB_last HD.out).2
      go_wp2_with fail
      go_loopw [5] (fun i wr => ∃ k : Nat, k ≤ m ∧ i = .int .i64 k ∧ w5 = wr) (fun i _ => m - (intOf i).toNat)
      case atStart => exact ⟨0, Nat.zero_le _, rfl, rfl⟩
      case round =>
        obtain ⟨k, hk, rfl, rfl⟩ := hrel
        by_cases hkm : k < m
        · obtain ⟨a, rfl⟩ := f5.some (by omega)
          obtain ⟨c0, _, _, _⟩ := f5.four k hkm
          have hiff : (ys.getD (k * 4) 0 = 13 ↔ k + 1 = m) := (HL.out k hkm).2
          generalize ys.getD (k * 4) 0 = x at c0 hiff
          by_cases hx : x = 13
          · have h2 := hiff.1 hx
            have e2 : ((k : Int) == (m : Int) - 1) = true := by rw [beq_iff_eq]; omega
            subst hx
            clear hiff
            go_wp2_with fail
            go_roundw
            case rel => exact ⟨k + 1, by omega, by go_num, trivial⟩
            case measure => simp [intOf]; omega
          · have h2 : ¬ k + 1 = m := fun e => hx (hiff.2 e)
            have e1 : (x == 13) = false := by simp [hx]
            have e2 : ((k : Int) == (m : Int) - 1) = false := by rw [beq_eq_false_iff_ne]; omega
            clear hiff hx
            go_wp2_with fail
            go_roundw
            case rel => exact ⟨k + 1, by omega, by go_num, trivial⟩
            case measure => simp [intOf]; omega
        · go_wp2_with fail
          go_ret
          exact ⟨rfl, b5⟩
end Go.Proofs.YtnfnjhbaaefbpaaGreatDoor

/- From a walk to the statement: the row's last step where nothing old has turned, whatever came in. -/
namespace Go.Proofs.YtnfnjhbaaefbpaaGreatDoor
open Go.ChangeShapes Go.WideShapes Go.ChangeAt Go.RowKit

theorem own : ownKnob Tryz.prog.godebug = none := by kernel_rfl
theorem laidOut : laidOutB Tryz.prog = true := by kernel_rfl

section
variable {H : Type} {enc : TypeId × Value → H}

variable {P : Program}
/-- The row's last step where below the heap's old size nothing has turned. -/
theorem post_below {f : Func} {s : ChangeSpec} {apart fresh handsOn again : Bool} {W W' : World} {args : Array Value} {v : Value} {ds gs : List (DataW H)} {before pa pv : List MemPlace}
    (hW : DataW.Whole enc P f.params.toList s.vars apart W args.toList ds gs before)
    (hres : ∀ (b : Nat) (sp : Nat → Bool) (hd : Bool), DataW.TrodAll enc P W' b sp hd f.resultTypes.toList (v.resultList f.resultTypes.size) (s.fn H (ds ++ gs)).results [])
    (hargs : ∀ sp : Nat → Bool, (∀ p ∈ before, sp p.block = true) → DataW.TrodAll enc P W' 0 sp true f.params.toList args.toList (s.fn H (ds ++ gs)).args pa)
    (hvars : ∀ sp : Nat → Bool, (∀ p ∈ before, sp p.block = true) → DataW.TrodVars enc P W' sp s.vars (s.fn H (ds ++ gs)).vars pv)
    (hps : before = pa ++ pv) (hb : Below W.heap.size W W')
    (hok : ∀ (j : Nat) (t : TypeId) (r : Value), f.resultTypes[j]? = some t → (v.resultList f.resultTypes.size)[j]? = some r → Value.okWide P W' .any 0 t r) :
    s.post enc P f apart fresh handsOn again W args v W' := by
  have lt : ∀ p ∈ before, p.block < W.heap.size := fun p hp => hW.lt p hp
  have old : ∀ p ∈ before, (fun b => decide (b < W.heap.size)) p.block = true := fun p hp => decide_eq_true (lt p hp)
  have frame : W.keptBut W' (fun p => p ∈ before ∧ (p ∈ ([] : List MemPlace) ∨ p ∈ pa ∨ p ∈ pv)) :=
    World.keptBut_mono (fun p hp => ⟨hp, Or.inr (by rw [hps] at hp; simpa using hp)⟩) (hb.frame (· ∈ before))
  obtain ⟨_, _, _, _, _, hz, hn⟩ := id hW
  refine ⟨ds, gs, before, [], pa, pv, hW, hres _ _ _, hargs _ old, hvars _ old, by simpa using frame, fun _ => ?_⟩
  refine ⟨hok, _, _, ([] ++ pa) ++ pv, ⟨[] ++ pa, pv, trodAll_append (hargs _ (fun _ _ => rfl)) (hres _ _ _), hvars _ (fun _ _ => rfl), rfl, fun b off hp => ?_, fun ha => ?_⟩, fun p hp _ => ?_⟩
  · have hin : MemPlace.cell b off ∈ before := by rw [hps]; simpa using hp
    rw [hb.frozen (lt _ hin)]
    exact hz b off hin
  · have := hn ha
    rw [hps] at this
    simpa using this
  · rw [hps]
    simpa using hp

/-- An argument reads behind the call as it did, whatever counts as spare. -/
theorem arg_kept {t : TypeId} (hl : laidOutB P = true) (hr : P.readableRec t = true) (hrow : t < P.types.size) {W W' : World} {v : Value} {d : DataW H} {ps : List MemPlace} {sp : Nat → Bool}
    (h : DataW.Trod enc P W 0 (fun _ => true) true t v d ps) (hb : Below W.heap.size W W') (hlt : ∀ x ∈ ps, x.block < W.heap.size) (hsp : ∀ x ∈ ps, sp x.block = true) : DataW.Trod enc P W' 0 sp true t v d ps :=
  WideElems.Trod_stays hl hr hrow h (fun x hx => hb.same (hlt x hx)) (fun x hx => hsp x hx)
end
end Go.Proofs.YtnfnjhbaaefbpaaGreatDoor

/- From a walk to the statement: what a slice of bytes that comes in gives a walk, and the row's last step where nothing old has turned. -/
namespace Go.Proofs.YtnfnjhbaaefbpaaGreatDoor
open Go.ChangeShapes Go.WideShapes Go.ChangeAt Go.RowKit

theorem cellsU8 : Tryz.prog.cellsOf 5 = 1 := by kernel_rfl

section
variable {H : Type} {enc : TypeId × Value → H}

set_option maxRecDepth 100000 in
/-- A slice of bytes that came in: its length fits, and each of its bytes can be read. -/
theorem open_code {W : World} {base : Nat} {v : Value} {d : DataW H} {ps : List MemPlace} (hval : Value.okWide Tryz.prog W .any base 22 v) (h : DataW.Trod enc Tryz.prog W 0 (fun _ => true) true 22 v d ps) :
    ∃ (A : Option Addr) (n c : Nat), v = .slice A n c ∧ n ≤ c ∧ c ≤ maxLen ∧ Bytes W A n := by
  obtain ⟨A, n, c, rfl⟩ := okWide_slice Tryz.underlying22 hval
  obtain ⟨fuel, hf⟩ := h
  rcases open_ints Tryz.underlying22 Tryz.underlying5 cellsU8 hf with ⟨hcs, _⟩ | ⟨a, n', c', zs, hcs, _, hl, hm, hz, _, hcell, hwz⟩
  · simp [Value.cells] at hcs
    obtain ⟨rfl, rfl, rfl⟩ := hcs
    exact ⟨none, 0, 0, rfl, Nat.le_refl _, Nat.zero_le _, fun h => absurd h (by omega)⟩
  · simp [Value.cells] at hcs
    obtain ⟨rfl, rfl, rfl⟩ := hcs
    simp only [if_true] at hz
    refine ⟨_, _, _, rfl, hl, hm, fun h0 => ⟨a, rfl, ?_, fun i hi => ?_⟩⟩
    · have := World.block_lt_of_cell? _ _ (hcell 0 (by omega))
      rwa [add_block] at this
    · have hb := range_u8 hwz i
      exact ⟨zs.getD i 0, by simpa [List.getD] using hb.1, by simpa [List.getD] using hb.2, hcell i (by omega)⟩

end
end Go.Proofs.YtnfnjhbaaefbpaaGreatDoor

/- The table of the ops of plain statements: what the row's condition on it gives a walk; a start that fits; that it reads behind the call as before. -/
namespace Go.Proofs.YtnfnjhbaaefbpaaGreatDoor
open Go.ChangeShapes Go.WideShapes Go.ChangeAt Go.WideMaps Go.WideElems Go.RowKit

abbrev opsName : String := "loop.example/changeringer/impl.plainOps"
theorem gOps : Tryz.prog.globalNamed opsName = some 0 := by kernel_rfl
theorem tOps : (Tryz.prog.globals[0]?).map (·.type) = some 99 := by kernel_rfl

theorem cellsI : Tryz.prog.cellsOf 3 = 1 := by kernel_rfl

/-- What the condition gives: the table's cells. -/
theorem ops_of_laid {W : World} (h : laidMetH Tryz.prog [(opsName, Rows.laid_loop_example_changeringer_impl_plainOps)] W) : Ops W ∧ 0 < W.heap.size := by
  rw [MakeChecks.laidMetH_plain _ _ _ (by kernel_rfl)] at h
  obtain ⟨ps, ⟨g0, t0, cs0, f0, p0, q0, hg0, ht0, hv0, hd0, _, _⟩, _, _⟩ := h
  obtain rfl := Option.some.inj (gOps.symm.trans hg0)
  obtain rfl := Option.some.inj (tOps.symm.trans ht0)
  obtain ⟨xs, m1, rfl, hx1, hlen, hn3, hel⟩ := DataW.trod_array Tryz.underlying99 hd0
  simp only [Prod.mk.injEq, Rows.laid_loop_example_changeringer_impl_plainOps, DataW.agg.injEq] at hx1
  have key : ∀ (j : Nat) (v : Int), j < 12 → (xs.map (·.1))[j]? = some (.lit (.int .i64 v)) → W.cell? ⟨0, j, none⟩ = some (.int .i64 v) := by
    intro j v hj hv
    have h0 := hel j hj
    rw [cellsI, Nat.mul_one] at h0
    rw [List.getElem?_map] at hv
    obtain ⟨x, hx, hxv⟩ := Option.map_eq_some_iff.1 hv
    rw [hx] at h0
    obtain ⟨k, e1, e2, _⟩ := DataW.trod_int Tryz.underlying3 h0
    have hk : k = v := by rw [e2] at hxv; simpa using hxv
    subst hk
    rw [World.var?_cell hg0 hv0]
    have e3 := congrArg (·[0]?) e1
    simpa [List.getElem?_take, List.getElem?_drop] using e3
  rw [← hx1.1] at key
  have k1 := key 1 1 (by omega) rfl
  refine ⟨⟨k1, key 2 2 (by omega) rfl, key 3 3 (by omega) rfl, key 4 4 (by omega) rfl, key 5 5 (by omega) rfl, key 9 10 (by omega) rfl, key 10 11 (by omega) rfl, key 11 12 (by omega) rfl⟩, ?_⟩
  apply Classical.byContradiction
  intro hn
  have : W.heap[0]? = none := Array.getElem?_eq_none (by omega)
  simp [World.cell?, this] at k1

theorem opsRead : Tryz.prog.readableRec 99 = true := by kernel_rfl
theorem opsRow : 99 < Tryz.prog.types.size := of_decide_eq_true (by kernel_rfl)

/-- The table reads behind the call as before. -/
theorem ops_kept {H : Type} {enc : TypeId × Value → H} {W W' : World} {gs : List (DataW H)} {ps : List MemPlace} {sp : Nat → Bool} (h : DataW.TrodVars enc Tryz.prog W (fun _ => true) [opsName] gs ps)
    (hb : Below W.heap.size W W') (hlt : ∀ x ∈ ps, x.block < W.heap.size) (hsp : ∀ x ∈ ps, sp x.block = true) : DataW.TrodVars enc Tryz.prog W' sp [opsName] gs ps := by
  obtain ⟨g, t, cs, fuel, d, p, rfl, h1, h2, h3, h4, rfl⟩ := trodVars_one h
  obtain rfl := Option.some.inj (gOps.symm.trans h1)
  obtain rfl := Option.some.inj (tOps.symm.trans h2)
  have h3' : W'.var? Tryz.prog opsName = some cs := by
    unfold World.var? at h3 ⊢
    rw [h1] at h3 ⊢
    simp only [Option.bind_some] at h3 ⊢
    have hg : 0 < W.heap.size := by
      apply Classical.byContradiction
      intro hn
      have : W.heap[0]? = none := Array.getElem?_eq_none (by omega)
      rw [this] at h3; cases h3
    rw [hb.block 0 hg]; exact h3
  exact trodVars_mk1 h1 h2 h3' (DataW.trod_stays (kids_book laidOut opsRead) (book_sized opsRead) (fun h => by cases h) ⟨opsRow, book_self _⟩ h4 (fun x hx => hb.same (hlt x (by simp [hx]))) (fun x hx => hsp x (by simp [hx])))
end Go.Proofs.YtnfnjhbaaefbpaaGreatDoor

namespace Go.Proofs.YtnfnjhbaaefbpaaGreatDoor.pFnCodeEnd
open Go.ChangeShapes Go.WideShapes Go.ChangeAt Go.RowKit

theorem door_met (os : Os) (args : Array Value) : laidMetH Tryz.prog Rows.fnCodeEndRow.laid ((World.doorLaid Tryz.prog 400 os).forCall (fun _ _ => 0) ⟨#[], args, []⟩).memory :=
  laidMetH_of_parts3 (fuel := 8) (laidMet_of_run' 8 (by kernel_rfl) (by kernel_rfl)) (by kernel_rfl) (by kernel_rfl)

set_option maxRecDepth 100000 in
theorem lifted (os : Os) (started : os.Started) (H : Type) (enc : TypeId × Value → H) :
    ReturnsInHanded {} Tryz.checked os 4 .any (fun w args => (Rows.fnCodeEndSpec.pre enc Tryz.prog Tryz.f4 [] false w args ∧ laidMetH Tryz.prog Rows.fnCodeEndRow.laid w) ∧ sizedMet enc Tryz.prog Tryz.f4 (OpenSpec.ofChange Rows.fnCodeEndSpec) false w args) (Rows.fnCodeEndSpec.post enc Tryz.prog Tryz.f4 false true false false) := by
  refine returnsInHanded_of_change_and (C := Tryz.checked) (X := fun w _ => laidMetH Tryz.prog Rows.fnCodeEndRow.laid w) (fun _ _ _ hh h => h.of_heap hh) own started (by kernel_rfl) Tryz.func4
    (ChangeSpec.witness_shaped (enc := enc) (C := Tryz.checked) (os := os) (X := fun w _ => laidMetH Tryz.prog Rows.fnCodeEndRow.laid w) false (World.doorLaid Tryz.prog 400 os) #[.slice none 0 0] 8 rfl (World.shaped_of_RefB (by kernel_rfl) (by kernel_rfl)) (by kernel_rfl) (by kernel_rfl) (by kernel_rfl) (door_met os _)) ?_
  intro W base args ds gs before hval0 hW _ _ hL _
  have hval : ∀ (j : Nat) t v, Tryz.f4.params[j]? = some t → args[j]? = some v → Value.okWide Tryz.prog W .any base t v := hval0
  have hW' := hW
  obtain ⟨p, q, hA0, hV, rfl, _, _⟩ := hW
  have hA : DataW.TrodAll enc Tryz.prog W 0 (fun _ => true) true Tryz.f4.params.toList args.toList ds p := hA0
  rw [Tryz.params4] at hA hval
  obtain ⟨v0, vs0, d0, ds0, p0, q0, hargs, rfl, rfl, h0, r0⟩ := trodAll_cons hA
  obtain ⟨rfl, rfl, rfl⟩ := trodAll_nil r0
  obtain rfl : args = #[v0] := by cases args; simp_all
  obtain ⟨_, _, _, _, g, _, rfl, _, _, _, _, _⟩ := trodVars_one hV
  obtain ⟨A0, n0, c0, rfl, l0, m0, b0⟩ := open_code (hval 0 22 v0 rfl rfl) h0
  obtain ⟨hop, hpos⟩ := ops_of_laid hL
  clear hA0 hval0
  simp only [List.append_nil] at hW'
  refine (wFnCodeEnd A0 n0 c0 W b0 l0 m0 hpos hop).mono fun e W' ⟨he, hb⟩ => ?_
  subst he
  have lt0 : ∀ x ∈ p0 ++ q, x.block < W.heap.size := fun x hx => hW'.lt x (hx)
  have hargs' : ∀ sp : Nat → Bool, (∀ x ∈ p0, sp x.block = true) → DataW.TrodAll enc Tryz.prog W' 0 sp true [22] [.slice A0 n0 c0] [d0] (p0) := fun sp hsp => by
    have h : DataW.TrodAll enc Tryz.prog W' 0 sp true _ _ _ _ := (trodAll_cons_mk (arg_kept laidOut (by kernel_rfl) (of_decide_eq_true (by kernel_rfl)) h0 hb (fun x hx => lt0 x (by simp [hx])) (fun x hx => hsp x (hx))) trodAll_mk0)
    simpa only [List.append_nil] using h
  exact ⟨_, rfl, post_below (pa := p0) (pv := q) hW' (fun _ _ _ => (trodAll_cons_mk (shut_bool Tryz.underlying4 _) trodAll_mk0)) (fun sp hsp => hargs' sp (fun x hx => hsp x (by simp [hx]))) (fun sp hsp => ops_kept hV hb (fun x hx => lt0 x (by simp [hx])) (fun x hx => hsp x (by simp [hx]))) rfl
    hb (ok_one (by kernel_rfl) rfl (okWide_bool_mk Tryz.underlying4 _))⟩

theorem row : Rows.FnCodeEndSaid :=
  OpenClaim.holds_of_wide 4 Tryz.f4 rfl rfl rfl rfl rfl rfl rfl ⟨rfl, rfl, rfl, rfl, rfl⟩ rfl rfl rfl rfl rfl (by kernel_rfl) Tryz.func4 (by kernel_rfl)
    (of_decide_eq_true (by kernel_rfl)) (by unfold Func.isWrapper; first | (rw [if_pos (by decide +kernel)]; kernel_rfl) | (rw [if_neg (by decide +kernel)]; exact ⟨rfl, rfl⟩))
    (fun os started H enc _ => lifted os started H enc)

/-- THE STATEMENT: the tied card. -/
theorem proved : Rows.FnCodeEndCardSaid :=
  Claim7.holds_tied_plain_at .later [] [.data] true Rows.fnCodeEndCard.stood.harness false
    row (fun _ h => by cases h) (by kernel_rfl) (fun _ h => by cases h) fnCodeEnd_row_tie rfl ⟨rfl, rfl⟩ (by kernel_rfl) rfl
    (fun f fn hf hfn => by
      obtain rfl : f = 4 := Option.some.inj ((show Tryz.prog.funcNamed "loop.example/changeringer/laws.FnCodeEnd" = some 4 by kernel_rfl).symm.trans hf) |>.symm
      obtain rfl : fn = Tryz.f4 := (Option.some.inj (Tryz.func4.symm.trans hfn)).symm
      exact ⟨by kernel_rfl, fun j t ht => by
        rw [Tryz.params4] at ht
        have hm : t ∈ [22] := by simpa using Array.mem_of_getElem? ht
        have hall : ([22].all fun u => !Tryz.prog.wantsStandIn u) = true := by kernel_rfl
        exact (show Tryz.prog.wantsStandIn t = false by simpa using List.all_eq_true.1 hall t hm)⟩)
    (by kernel_rfl)
#print axioms proved
end Go.Proofs.YtnfnjhbaaefbpaaGreatDoor.pFnCodeEnd
