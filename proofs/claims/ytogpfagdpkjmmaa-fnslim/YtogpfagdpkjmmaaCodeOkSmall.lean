/- The model's checks of one instruction: l4Held, l4Next. -/
import Derived.Test.YtogpfagdpkjmmaaCodeOkPure
import Derived.Test.YtogpfagdpkjmmaaIns
namespace Go.Proofs.Ytogpfagdpkjmmaa
open Go.ChangeShapes Go.WideShapes Go.ChangeAt Go.RowKit

set_option maxRecDepth 100000 in
set_option maxHeartbeats 4000000 in
theorem specHeld (o a b t r : Int) (w : World) (hr : r = -1 ∨ r = 0 ∨ r = 1) (ha0 : -1000 ≤ a) (ha1 : a ≤ 1000) :
    Calls Try.prog 63 #[.agg #[.int .i64 o, .int .i64 a, .int .i64 b, .int .i64 t], .int .i64 (r + 1)] w fun e w' => (∃ z, e = .returned (.tuple #[.int .i64 z, .bool (heldO o a r).isSome]) ∧ ∀ r', heldO o a r = some r' → z = r' + 1) ∧ Below w.heap.size w w' := by
  have hk : o = 8 ∨ o = 9 ∨ o = 10 ∨ o = 13 ∨ (o ≠ 8 ∧ o ≠ 9 ∧ o ≠ 10 ∧ o ≠ 13) := by omega
  have fin : ∀ (W : World) (z : Int) (v : Bool), Below w.heap.size w W → v = (heldO o a r).isSome → (∀ r', heldO o a r = some r' → z = r' + 1) →
      (∃ z', Ending.returned (.tuple #[.int .i64 z, .bool v]) = .returned (.tuple #[.int .i64 z', .bool (heldO o a r).isSome]) ∧ ∀ r', heldO o a r = some r' → z' = r' + 1) ∧ Below w.heap.size w W := fun W z v hb hv hz => ⟨⟨z, by rw [hv], hz⟩, hb⟩
  have FIN := Lib.hid fin
  clear fin
  rcases hk with rfl | rfl | rfl | rfl | ⟨h8, h9, h10, h13⟩ <;> rcases hr with rfl | rfl | rfl
  all_goals
    go_enter Try.func63, Try.ntmps63
    go_wp2
    all_goals (try (go_region; all_goals (try go_wp2)))
    all_goals
      refine bodyPost_ret (by simp [results, Try.results63, go_sem]; exact rfl) rfl ?_
      refine FIN.out _ _ _ ?_ ?_ ?_
      · repeat' (first | exact Below.refl _ _ | refine Below.drew ?_ | (refine Below.alloc ?_ (by first | exact Nat.le_refl _ | (simp; done) | (simp; omega)) _))
      · unfold heldO
        rw [Bool.eq_iff_iff]
        simp [*] <;> omega
      · intro r' h
        unfold heldO at h
        simp [*] at h <;> omega

/-- What l4Next gives. -/
theorem ints_nats (l : List Nat) : (ints (l.map fun (j : Nat) => (j : Int))).length = l.length := by simp [ints]

set_option maxRecDepth 100000 in
set_option maxHeartbeats 4000000 in
theorem specNext {xs : List Int} {A : Option Addr} {n c : Nat} {S : Nat → Prop} {w : World} (hs : Fl w S 4 xs A n c) (hr : Right xs n) (i : Nat) (hi : i < n) :
    Calls Try.prog 64 #[.slice A n c, .int .i64 i] w fun e w' => ∃ v, e = .returned v ∧ w'.ownsRow w.heap.size 3 1 v (nextX xs i).length (ints ((nextX xs i).map fun (j : Nat) => (j : Int))) ∧ Below w.heap.size w w' := by
  have hn := hr.hi
  have ho := hr.op hi
  have hto := fun h => insB_to (hr.ins i hi) h
  obtain ⟨a, rfl⟩ := hs.some (by omega)
  obtain ⟨c0, c1, c2, c3⟩ := hs.four i hi
  have e0 : opC xs i = xs.getD (i * 4) 0 := rfl
  have e3 : toC xs i = xs.getD (i * 4 + 3) 0 := rfl
  have hnx : nextX xs i = nextO (xs.getD (i * 4) 0) (xs.getD (i * 4 + 3) 0) i := rfl
  rw [hnx]
  rw [e0] at ho hto
  rw [e3] at hto
  generalize xs.getD (i * 4) 0 = o at c0 ho hto ⊢
  generalize xs.getD (i * 4 + 1) 0 = x1 at c1
  generalize xs.getD (i * 4 + 2) 0 = x2 at c2
  generalize xs.getD (i * 4 + 3) 0 = t at c3 hto ⊢
  clear hnx e0 e3 hs hr
  have fin : ∀ (cs : List Int) (W : World), Below w.heap.size w W → cs = ((nextO o t i).map fun (j : Nat) => (j : Int)) → cs.length ≤ 2 →
      ∃ v, Ending.returned (Value.slice (some ⟨W.heap.size, 0, none⟩) cs.length cs.length) = .returned v ∧ (W.alloc (.cells (ints cs).toArray 3)).ownsRow w.heap.size 3 1 v (nextO o t i).length (ints ((nextO o t i).map fun (j : Nat) => (j : Int))) ∧ Below w.heap.size w (W.alloc (.cells (ints cs).toArray 3)) := by
    intro cs W hb hc hl
    refine ⟨_, rfl, ?_, hb.alloc hb.size _⟩
    have := World.ownsRow_lit (base := w.heap.size) (e := 3) (size := 1) W (ints cs).toArray cs.length hb.size (by unfold maxLen; omega) (by simp [ints])
    rw [hc] at this ⊢
    simpa using this
  have FIN := Lib.hid fin
  clear fin
  have hk : o = 6 ∨ o = 7 ∨ o = 13 ∨ (o ≠ 6 ∧ o ≠ 7 ∧ o ≠ 13) := by omega
  rcases hk with rfl | rfl | rfl | ⟨h6, h7, h13⟩
  · obtain ⟨t0, t1⟩ := hto (.inl rfl)
    clear hto
    go_enter Try.func64, Try.ntmps64
    go_wp2_with fail
    go_ret
    exact FIN.out [(i : Int) + 1, t] w (Below.refl _ _) (by simp [nextO]; omega) (by simp)
  · obtain ⟨t0, t1⟩ := hto (.inr rfl)
    clear hto
    go_enter Try.func64, Try.ntmps64
    go_wp2_with fail
    go_ret
    exact FIN.out [t] w (Below.refl _ _) (by simp [nextO]; omega) (by simp)
  · clear hto
    go_enter Try.func64, Try.ntmps64
    go_wp2_with fail
    go_ret
    exact FIN.out [] w (Below.refl _ _) (by simp [nextO]) (by simp)
  · clear hto
    go_enter Try.func64, Try.ntmps64
    go_wp2_with fail
    go_ret
    exact FIN.out [(i : Int) + 1] w (Below.refl _ _) (by simp [nextO, h6, h7, h13]) (by simp)
end Go.Proofs.Ytogpfagdpkjmmaa
