/- The room behind an instruction, and where one goes from it, as the program asks. -/
import Derived.Test.YtogpfagdpkjmmaaFitsAll
namespace Go.Proofs.Ytogpfagdpkjmmaa
open Go.ChangeShapes Go.WideShapes Go.ChangeAt Go.RowKit

theorem nilPass (W : World) : (binOp .eql 75 .nilFunc .nilFunc).run Try.prog W = .ok (.bool true) W := by kernel_rfl
theorem fnPass (F : Nat) (cs : Array Value) (W : World) : (binOp .eql 75 (.func (Fn.func F) #[] cs) .nilFunc).run Try.prog W = .ok (.bool false) W := by kernel_rfl

/-- What it passes on as a room, whether or not one may be there. -/
def zO (o a r : Int) : Int := if o = 8 then a else if o = 9 then -1 else r
theorem zO_held {o a r r' : Int} (h : heldO o a r = some r') : zO o a r = r' := by
  unfold heldO at h
  unfold zO
  by_cases h8 : o = 8
  · rw [if_pos h8] at h ⊢; split at h <;> first | (injection h with h) | cases h
  · rw [if_neg h8] at h ⊢
    by_cases h9 : o = 9
    · rw [if_pos h9] at h ⊢; split at h <;> first | (injection h with h) | cases h
    · rw [if_neg h9] at h ⊢
      split at h
      · split at h <;> first | (injection h with h) | cases h
      · split at h
        · split at h
          · rename_i e; injection h with h; rw [e, h]
          · cases h
        · injection h with h
/-- What passed answers. -/
def PassPost (o a r : Int) (w : World) (e : Ending) (w' : World) : Prop := e = .returned (.tuple #[.int .i64 (zO o a r), .bool (heldO o a r).isSome]) ∧ Below w.heap.size w w'

set_option maxRecDepth 100000 in
set_option maxHeartbeats 2000000 in
theorem passed_nil (s : ByteArray) (v0 v1 v2 : Value) (o a b t r : Int) (w : World) (ho : o ≠ 8 ∧ o ≠ 9 ∧ o ≠ 10 ∧ o ≠ 13) :
    Calls Try.prog 77 #[.agg #[.string s, v0, v1, v2, .nilFunc], .agg #[.int .i64 o, .int .i64 a, .int .i64 b, .int .i64 t], .int .i64 r] w (PassPost o a r w) := by
  have hh : heldO o a r = some r := by unfold heldO; rw [if_neg ho.1, if_neg ho.2.1, if_neg ho.2.2.1, if_neg ho.2.2.2]
  have HH := Lib.hid hh
  have HZ := Lib.hid (show zO o a r = r from by unfold zO; rw [if_neg ho.1, if_neg ho.2.1])
  have hn := nilPass
  clear hh ho
  go_enter Try.func77, Try.ntmps77
  go_wp2_with fail
  go_ret2
  exact ⟨by rw [HH.out, HZ.out]; rfl, ((Below.refl _ _).alloc (Nat.le_refl _) _).alloc (by simp) _⟩

set_option maxRecDepth 100000 in
set_option maxHeartbeats 2000000 in
theorem passEnter (a b t r : Int) (w : World) (hr : r = -1 ∨ r = 0 ∨ r = 1) :
    Calls Try.prog 71 #[.agg #[.int .i64 8, .int .i64 a, .int .i64 b, .int .i64 t], .int .i64 r] w (PassPost 8 a r w) := by
  have fin : ∀ (W : World) (z : Int) (v : Bool), Below w.heap.size w W → v = (heldO 8 a r).isSome → z = zO 8 a r → PassPost 8 a r w (.returned (.tuple #[.int .i64 z, .bool v])) W := fun W z v hb hv hz => ⟨by rw [hv, hz], hb⟩
  have FIN := Lib.hid fin
  clear fin
  rcases hr with rfl | rfl | rfl
  all_goals
    go_enter Try.func71, Try.ntmps71
    go_wp2
    all_goals (try (go_region; all_goals (try go_wp2)))
    all_goals
      go_ret2
      refine FIN.out _ _ _ ?_ ?_ ?_
      · repeat' (first | exact Below.refl _ _ | refine Below.drew ?_ | (refine Below.alloc ?_ (by first | exact Nat.le_refl _ | (simp; done) | (simp; omega)) _))
      · unfold heldO
        rw [Bool.eq_iff_iff]
        simp [*] <;> omega
      · simp [zO]

set_option maxRecDepth 100000 in
set_option maxHeartbeats 2000000 in
theorem passed_passEnter (s : ByteArray) (v0 v1 v2 : Value) (a b t r : Int) (w : World) (hr : r = -1 ∨ r = 0 ∨ r = 1) :
    Calls Try.prog 77 #[.agg #[.string s, v0, v1, v2, .func (Fn.func 71) #[] #[]], .agg #[.int .i64 8, .int .i64 a, .int .i64 b, .int .i64 t], .int .i64 r] w (PassPost 8 a r w) := by
  have HP := Lib.hid (fun W => passEnter a b t r W hr)
  have hn := fnPass
  clear hr
  go_enter Try.func77, Try.ntmps77
  go_wp2_with fail
  refine (HP.out _).mono ?_
  rintro e w1 ⟨rfl, hb1⟩
  have b1 : Below w.heap.size w w1 := (((Below.refl _ _).alloc (Nat.le_refl _) _).alloc (by simp) _).trans (hb1.mono (by simp; omega))
  go_wp2_with fail
  go_ret2
  exact ⟨rfl, b1⟩

set_option maxRecDepth 100000 in
set_option maxHeartbeats 2000000 in
theorem passLeave (a b t r : Int) (w : World) (hr : r = -1 ∨ r = 0 ∨ r = 1) :
    Calls Try.prog 72 #[.agg #[.int .i64 9, .int .i64 a, .int .i64 b, .int .i64 t], .int .i64 r] w (PassPost 9 a r w) := by
  have fin : ∀ (W : World) (z : Int) (v : Bool), Below w.heap.size w W → v = (heldO 9 a r).isSome → z = zO 9 a r → PassPost 9 a r w (.returned (.tuple #[.int .i64 z, .bool v])) W := fun W z v hb hv hz => ⟨by rw [hv, hz], hb⟩
  have FIN := Lib.hid fin
  clear fin
  rcases hr with rfl | rfl | rfl
  all_goals
    go_enter Try.func72, Try.ntmps72
    go_wp2
    all_goals (try (go_region; all_goals (try go_wp2)))
    all_goals
      go_ret2
      refine FIN.out _ _ _ ?_ ?_ ?_
      · repeat' (first | exact Below.refl _ _ | refine Below.drew ?_ | (refine Below.alloc ?_ (by first | exact Nat.le_refl _ | (simp; done) | (simp; omega)) _))
      · unfold heldO
        rw [Bool.eq_iff_iff]
        simp [*] <;> omega
      · simp [zO]

set_option maxRecDepth 100000 in
set_option maxHeartbeats 2000000 in
theorem passed_passLeave (s : ByteArray) (v0 v1 v2 : Value) (a b t r : Int) (w : World) (hr : r = -1 ∨ r = 0 ∨ r = 1) :
    Calls Try.prog 77 #[.agg #[.string s, v0, v1, v2, .func (Fn.func 72) #[] #[]], .agg #[.int .i64 9, .int .i64 a, .int .i64 b, .int .i64 t], .int .i64 r] w (PassPost 9 a r w) := by
  have HP := Lib.hid (fun W => passLeave a b t r W hr)
  have hn := fnPass
  clear hr
  go_enter Try.func77, Try.ntmps77
  go_wp2_with fail
  refine (HP.out _).mono ?_
  rintro e w1 ⟨rfl, hb1⟩
  have b1 : Below w.heap.size w w1 := (((Below.refl _ _).alloc (Nat.le_refl _) _).alloc (by simp) _).trans (hb1.mono (by simp; omega))
  go_wp2_with fail
  go_ret2
  exact ⟨rfl, b1⟩

set_option maxRecDepth 100000 in
set_option maxHeartbeats 2000000 in
theorem passWait (a b t r : Int) (w : World) (hr : r = -1 ∨ r = 0 ∨ r = 1) :
    Calls Try.prog 74 #[.agg #[.int .i64 10, .int .i64 a, .int .i64 b, .int .i64 t], .int .i64 r] w (PassPost 10 a r w) := by
  have fin : ∀ (W : World) (z : Int) (v : Bool), Below w.heap.size w W → v = (heldO 10 a r).isSome → z = zO 10 a r → PassPost 10 a r w (.returned (.tuple #[.int .i64 z, .bool v])) W := fun W z v hb hv hz => ⟨by rw [hv, hz], hb⟩
  have FIN := Lib.hid fin
  clear fin
  rcases hr with rfl | rfl | rfl
  all_goals
    go_enter Try.func74, Try.ntmps74
    go_wp2
    all_goals (try (go_region; all_goals (try go_wp2)))
    all_goals
      go_ret2
      refine FIN.out _ _ _ ?_ ?_ ?_
      · repeat' (first | exact Below.refl _ _ | refine Below.drew ?_ | (refine Below.alloc ?_ (by first | exact Nat.le_refl _ | (simp; done) | (simp; omega)) _))
      · unfold heldO
        rw [Bool.eq_iff_iff]
        simp [*] <;> omega
      · simp [zO]

set_option maxRecDepth 100000 in
set_option maxHeartbeats 2000000 in
theorem passed_passWait (s : ByteArray) (v0 v1 v2 : Value) (a b t r : Int) (w : World) (hr : r = -1 ∨ r = 0 ∨ r = 1) :
    Calls Try.prog 77 #[.agg #[.string s, v0, v1, v2, .func (Fn.func 74) #[] #[]], .agg #[.int .i64 10, .int .i64 a, .int .i64 b, .int .i64 t], .int .i64 r] w (PassPost 10 a r w) := by
  have HP := Lib.hid (fun W => passWait a b t r W hr)
  have hn := fnPass
  clear hr
  go_enter Try.func77, Try.ntmps77
  go_wp2_with fail
  refine (HP.out _).mono ?_
  rintro e w1 ⟨rfl, hb1⟩
  have b1 : Below w.heap.size w w1 := (((Below.refl _ _).alloc (Nat.le_refl _) _).alloc (by simp) _).trans (hb1.mono (by simp; omega))
  go_wp2_with fail
  go_ret2
  exact ⟨rfl, b1⟩

set_option maxRecDepth 100000 in
set_option maxHeartbeats 2000000 in
theorem passEnd (a b t r : Int) (w : World) (hr : r = -1 ∨ r = 0 ∨ r = 1) :
    Calls Try.prog 75 #[.agg #[.int .i64 13, .int .i64 a, .int .i64 b, .int .i64 t], .int .i64 r] w (PassPost 13 a r w) := by
  have fin : ∀ (W : World) (z : Int) (v : Bool), Below w.heap.size w W → v = (heldO 13 a r).isSome → z = zO 13 a r → PassPost 13 a r w (.returned (.tuple #[.int .i64 z, .bool v])) W := fun W z v hb hv hz => ⟨by rw [hv, hz], hb⟩
  have FIN := Lib.hid fin
  clear fin
  rcases hr with rfl | rfl | rfl
  all_goals
    go_enter Try.func75, Try.ntmps75
    go_wp2
    all_goals (try (go_region; all_goals (try go_wp2)))
    all_goals
      go_ret2
      refine FIN.out _ _ _ ?_ ?_ ?_
      · repeat' (first | exact Below.refl _ _ | refine Below.drew ?_ | (refine Below.alloc ?_ (by first | exact Nat.le_refl _ | (simp; done) | (simp; omega)) _))
      · unfold heldO
        rw [Bool.eq_iff_iff]
        simp [*] <;> omega
      · simp [zO]

set_option maxRecDepth 100000 in
set_option maxHeartbeats 2000000 in
theorem passed_passEnd (s : ByteArray) (v0 v1 v2 : Value) (a b t r : Int) (w : World) (hr : r = -1 ∨ r = 0 ∨ r = 1) :
    Calls Try.prog 77 #[.agg #[.string s, v0, v1, v2, .func (Fn.func 75) #[] #[]], .agg #[.int .i64 13, .int .i64 a, .int .i64 b, .int .i64 t], .int .i64 r] w (PassPost 13 a r w) := by
  have HP := Lib.hid (fun W => passEnd a b t r W hr)
  have hn := fnPass
  clear hr
  go_enter Try.func77, Try.ntmps77
  go_wp2_with fail
  refine (HP.out _).mono ?_
  rintro e w1 ⟨rfl, hb1⟩
  have b1 : Below w.heap.size w w1 := (((Below.refl _ _).alloc (Nat.le_refl _) _).alloc (by simp) _).trans (hb1.mono (by simp; omega))
  go_wp2_with fail
  go_ret2
  exact ⟨rfl, b1⟩

set_option maxRecDepth 100000 in
set_option maxHeartbeats 4000000 in
theorem followers {xs : List Int} {n : Nat} (hr : Right xs n) (i : Nat) (hi : i < n) (w : World) :
    Calls Try.prog 78 #[.agg #[.int .i64 (xs.getD (i * 4) 0), .int .i64 (xs.getD (i * 4 + 1) 0), .int .i64 (xs.getD (i * 4 + 2) 0), .int .i64 (xs.getD (i * 4 + 3) 0)], .int .i64 i] w fun e w' => ∃ v, e = .returned v ∧ w'.ownsRow w.heap.size 3 1 v (nextX xs i).length (ints ((nextX xs i).map fun (j : Nat) => (j : Int))) ∧ Below w.heap.size w w' := by
  have hn := hr.hi
  have ho := hr.op hi
  have hto := fun h => insB_to (hr.ins i hi) h
  have e0 : opC xs i = xs.getD (i * 4) 0 := rfl
  have e3 : toC xs i = xs.getD (i * 4 + 3) 0 := rfl
  have hnx : nextX xs i = nextO (xs.getD (i * 4) 0) (xs.getD (i * 4 + 3) 0) i := rfl
  rw [hnx]
  rw [e0] at ho hto
  rw [e3] at hto
  generalize xs.getD (i * 4) 0 = o at ho hto ⊢
  generalize xs.getD (i * 4 + 1) 0 = x1
  generalize xs.getD (i * 4 + 2) 0 = x2
  generalize xs.getD (i * 4 + 3) 0 = t at hto ⊢
  clear hnx e0 e3 hr
  have fin : ∀ (cs : List Int) (W : World), Below w.heap.size w W → cs = ((nextO o t i).map fun (j : Nat) => (j : Int)) → cs.length ≤ 2 →
      ∃ v, Ending.returned (Value.slice (some ⟨W.heap.size, 0, none⟩) cs.length cs.length) = .returned v ∧ (W.alloc (.cells (ints cs).toArray 3)).ownsRow w.heap.size 3 1 v (nextO o t i).length (ints ((nextO o t i).map fun (j : Nat) => (j : Int))) ∧ Below w.heap.size w (W.alloc (.cells (ints cs).toArray 3)) := by
    intro cs W hb hc hl
    refine ⟨_, rfl, ?_, hb.alloc hb.size _⟩
    have := World.ownsRow_lit (base := w.heap.size) (e := 3) (size := 1) W (ints cs).toArray cs.length hb.size (by unfold maxLen; omega) (by simp [ints])
    rw [hc] at this ⊢
    simpa using this
  have FIN := Lib.hid fin
  clear fin
  have hk : o = 6 ∨ o = 7 ∨ o = 13 ∨ (o ≠ 6 ∧ o ≠ 7 ∧ o ≠ 13) := by omega
  have ba : Below w.heap.size w (w.alloc (.cells #[.int .i64 o, .int .i64 x1, .int .i64 x2, .int .i64 t] 40)) := (Below.refl _ _).alloc (Nat.le_refl _) _
  rcases hk with rfl | rfl | rfl | ⟨h6, h7, h13⟩
  · obtain ⟨t0, t1⟩ := hto (.inl rfl)
    clear hto
    go_enter Try.func78, Try.ntmps78
    go_wp2_with fail
    go_ret
    have := FIN.out [(i : Int) + 1, t] _ ba (by simp [nextO]; omega) (by simp)
    rw [World.size_alloc] at this
    exact this
  · obtain ⟨t0, t1⟩ := hto (.inr rfl)
    clear hto
    go_enter Try.func78, Try.ntmps78
    go_wp2_with fail
    go_ret
    have := FIN.out [t] _ ba (by simp [nextO]; omega) (by simp)
    rw [World.size_alloc] at this
    exact this
  · clear hto
    go_enter Try.func78, Try.ntmps78
    go_wp2_with fail
    go_ret
    exact ⟨_, rfl, World.ownsRow_nil _ _ _ _, ba⟩
  · clear hto
    go_enter Try.func78, Try.ntmps78
    go_wp2_with fail
    go_ret
    have := FIN.out [(i : Int) + 1] _ ba (by simp [nextO, h6, h7, h13]) (by simp)
    rw [World.size_alloc] at this
    exact this
end Go.Proofs.Ytogpfagdpkjmmaa
