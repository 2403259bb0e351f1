/- The reader of codes: pick returns some number from 0 to n-1 and moves the reader on by one. -/
import Derived.Test.YtnfnjhbaaefbpaaGreatDoorRows
import Derived.WalkKit
import Derived.ProofKit
import Derived.OpenShut
import Derived.BigQuiet
import Derived.Deep.QuietTactic
import Derived.Below
import Derived.Lib.Hide
import Derived.Laws.BitsAllLaws
import Derived.Laws.BitsLemmas
import Derived.OwnWalk
import Derived.Maps.AppendAt
import Derived.Deep.AppendLies
import Derived.Deep.Draws
namespace Go.Proofs.YtnfnjhbaaefbpaaGreatDoor
open Go.ChangeShapes Go.WideShapes Go.ChangeAt Go.RowKit

theorem pick_none (g : Nat) (A : Option Addr) (c : Nat) (p n : Int) (w : World) (h0 : w.cell? ⟨g, 0, none⟩ = some (.slice A 0 c)) (h1 : w.cell? ⟨g, 1, none⟩ = some (.int .i64 p)) (hf : w.frozen? ⟨g, 1, none⟩ = false)
    (hp : 0 ≤ p) (hp' : p ≤ 1000000000000) (hn : 1 ≤ n) :
    Calls Tryz.prog 55 #[.pointer (some ⟨g, 0, none⟩), .int .i64 n] w fun e w' => e = .returned (.int .i64 0) ∧ w.setCell ⟨g, 1, none⟩ (.int .i64 (p + 1)) = w' := by
  have hn' : ¬ n < 1 := by omega
  go_enter Tryz.func55, Tryz.ntmps55
  go_wp2
  go_ret
  exact ⟨rfl, rfl⟩

theorem cell_apart {w : World} {g o : Nat} {u : Value} {a : Addr} (k : Nat) (h : a.block ≠ g) : (w.setCell ⟨g, o, none⟩ u).cell? (a.add k) = w.cell? (a.add k) :=
  World.cell?_setCell_other w _ _ u (fun e => h (by
    have e' : g = (a.add k).block := congrArg Addr.block e
    rw [e']; unfold Addr.add; split <;> rfl))

theorem pick_near (g : Nat) (a : Addr) (len c : Nat) (p n x : Int) (w : World) (h0 : w.cell? ⟨g, 0, none⟩ = some (.slice (some a) len c)) (h1 : w.cell? ⟨g, 1, none⟩ = some (.int .i64 p)) (hf : w.frozen? ⟨g, 1, none⟩ = false)
    (hp : 0 ≤ p) (hp' : p ≤ 1000000000000) (hn : 1 ≤ n) (hlt : p < len) (hag : a.block ≠ g) (hx : w.cell? (a.add p.toNat) = some (.int .u8 x)) (hx0 : 0 ≤ x) (hx1 : x ≤ 255) :
    Calls Tryz.prog 55 #[.pointer (some ⟨g, 0, none⟩), .int .i64 n] w fun e w' => e = .returned (.int .i64 (x % n)) ∧ w.setCell ⟨g, 1, none⟩ (.int .i64 (p + 1)) = w' := by
  have hn' : ¬ n < 1 := by omega
  have hl : ((len : Int) == 0) = false := beq_eq_false_iff_ne.2 (by omega)
  have hx' : (w.setCell ⟨g, 1, none⟩ (.int .i64 (p + 1))).cell? (a.add p.toNat) = some (.int .u8 x) := by rw [cell_apart _ hag]; exact hx
  clear hx
  go_enter Tryz.func55, Tryz.ntmps55
  go_wp2
  go_ret
  exact ⟨rfl, rfl⟩

theorem xor_bd (X : Int) (h : 0 ≤ X) (h' : X ≤ 4000000000000000) : 0 ≤ bits .xor .i64 X (X / 64) := by
  obtain ⟨x, rfl⟩ := Int.eq_ofNat_of_zero_le h
  have e : ((x : Int) / 64) = ((x / 64 : Nat) : Int) := by omega
  rw [e]
  have e1 : (BitVec.ofInt 64 (x : Int)).toNat = x := by rw [BitVec.ofInt_natCast, BitVec.toNat_ofNat]; exact Nat.mod_eq_of_lt (by omega)
  have e2 : (BitVec.ofInt 64 ((x / 64 : Nat) : Int)).toNat = x / 64 := by rw [BitVec.ofInt_natCast, BitVec.toNat_ofNat]; exact Nat.mod_eq_of_lt (by omega)
  have hx : x ^^^ (x / 64) < 2 ^ 63 := Nat.xor_lt_two_pow (by omega) (by omega)
  show 0 ≤ IntKind.i64.wrap ((BitVec.ofInt 64 (x : Int) ^^^ BitVec.ofInt 64 ((x / 64 : Nat) : Int)).toNat : Int)
  rw [BitVec.toNat_xor, e1, e2, IntKind.wrap_i64]
  omega

theorem pick_far (g : Nat) (a : Addr) (len c : Nat) (p n x y : Int) (w : World) (h0 : w.cell? ⟨g, 0, none⟩ = some (.slice (some a) len c)) (h1 : w.cell? ⟨g, 1, none⟩ = some (.int .i64 p)) (hf : w.frozen? ⟨g, 1, none⟩ = false)
    (hp : 0 ≤ p) (hp' : p ≤ 1000000000000) (hn : 1 ≤ n) (hl0 : 0 < len) (hlm : len ≤ 2000) (hlt : ¬ p < len) (hag : a.block ≠ g)
    (hx : w.cell? (a.add (p % len).toNat) = some (.int .u8 x)) (hx0 : 0 ≤ x) (hx1 : x ≤ 255)
    (hy : w.cell? (a.add ((p * 7 + 3) % len).toNat) = some (.int .u8 y)) (hy0 : 0 ≤ y) (hy1 : y ≤ 255) :
    Calls Tryz.prog 55 #[.pointer (some ⟨g, 0, none⟩), .int .i64 n] w fun e w' => (∃ k : Int, 0 ≤ k ∧ k < n ∧ e = .returned (.int .i64 k)) ∧ ∃ m, w' = (w.setCell ⟨g, 1, none⟩ (.int .i64 (p + 1))).drewN m := by
  have hn' : ¬ n < 1 := by omega
  have hl : ((len : Int) == 0) = false := beq_eq_false_iff_ne.2 (by omega)
  have hx' : (w.setCell ⟨g, 1, none⟩ (.int .i64 (p + 1))).cell? (a.add (p % len).toNat) = some (.int .u8 x) := by rw [cell_apart _ hag]; exact hx
  have hy' : (w.setCell ⟨g, 1, none⟩ (.int .i64 (p + 1))).cell? (a.add ((p * 7 + 3) % len).toNat) = some (.int .u8 y) := by rw [cell_apart _ hag]; exact hy
  have q0 : 0 ≤ p % (len : Int) := Int.emod_nonneg _ (by omega)
  have q1 : p % (len : Int) < len := Int.emod_lt_of_pos _ (by omega)
  have r0 : 0 ≤ (p * 7 + 3) % (len : Int) := Int.emod_nonneg _ (by omega)
  have r1 : (p * 7 + 3) % (len : Int) < len := Int.emod_lt_of_pos _ (by omega)
  clear hx hy
  have s0 : 0 ≤ p / (len : Int) := Int.ediv_nonneg hp (by omega)
  have s1 : p / (len : Int) ≤ 1000000000000 := Int.le_trans (Int.ediv_le_self _ hp) hp'
  go_enter Tryz.func55, Tryz.ntmps55
  go_wp2
  go_quiet (fail)
  have v0 : 0 ≤ x * 131 + y * 1117 + p * 29 + p / (len : Int) * 53 := by omega
  have v1 : x * 131 + y * 1117 + p * 29 + p / (len : Int) * 53 ≤ 4000000000000000 := by omega
  generalize x * 131 + y * 1117 + p * 29 + p / (len : Int) * 53 = X at *
  have v2 := xor_bd X v0 v1
  go_wp2
  go_ret
  exact ⟨⟨_, Int.emod_nonneg _ (by omega), Int.emod_lt_of_pos _ (by omega), rfl⟩, nq, rfl⟩

/-- The reader at block g stands at place p: its bytes lie below it. -/
def Rd (w : World) (g : Nat) (p : Int) : Prop :=
  ∃ (A : Option Addr) (n c : Nat), n ≤ 2000 ∧ w.heap[g]? = some (.cells #[.slice A n c, .int .i64 p] 87 (0, 0)) ∧
    (0 < n → ∃ a : Addr, A = some a ∧ a.block < g ∧ ∀ i, i < n → ∃ x : Int, 0 ≤ x ∧ x ≤ 255 ∧ w.cell? (a.add i) = some (.int .u8 x))

theorem add_block (a : Addr) (k : Nat) : (a.add k).block = a.block := by unfold Addr.add; split <;> rfl

theorem Rd.lt {w : World} {g : Nat} {p : Int} (h : Rd w g p) : g < w.heap.size := by
  obtain ⟨A, n, c, _, hg, _⟩ := h
  exact (Array.getElem?_eq_some_iff.1 hg).1

/-- The reader stands where it stood if all up to it is as it was. -/
theorem Rd.keep {w w' : World} {g : Nat} {p : Int} (h : Rd w g p) (hk : ∀ k, k ≤ g → w'.heap[k]? = w.heap[k]?) : Rd w' g p := by
  obtain ⟨A, n, c, hn, hg, hb⟩ := h
  refine ⟨A, n, c, hn, by rw [hk g (Nat.le_refl _)]; exact hg, fun h0 => ?_⟩
  obtain ⟨a, rfl, ha, hx⟩ := hb h0
  refine ⟨a, rfl, ha, fun i hi => ?_⟩
  obtain ⟨x, x0, x1, hc⟩ := hx i hi
  exact ⟨x, x0, x1, by rw [World.cell?_of_block (w := w) (by rw [add_block]; exact hk _ (by omega))]; exact hc⟩

theorem Rd.below {w w' : World} {g B : Nat} {p : Int} (h : Rd w g p) (hb : Below B w w') (hB : g < B) : Rd w' g p := h.keep fun k hk => hb.block k (by omega)
theorem Rd.grown {w w' : World} {g : Nat} {p : Int} {row : Option Nat} (h : Rd w g p) (hb : w.grownBy w' row) (hr : ∀ k, row = some k → g < k) : Rd w' g p :=
  h.keep fun k hk => hb.block k (by have := h.lt; omega) (fun e => by have := hr k e.symm; omega)

theorem Rd.move {w : World} {g : Nat} {p q : Int} (h : Rd w g p) (m : Nat) : Rd ((w.setCell ⟨g, 1, none⟩ (.int .i64 q)).drewN m) g q := by
  obtain ⟨A, n, c, hn, hg, hb⟩ := h
  refine ⟨A, n, c, hn, ?_, fun h0 => ?_⟩
  · show (w.setCell ⟨g, 1, none⟩ (.int .i64 q)).heap[g]? = _
    simp [World.setCell, Array.getElem?_modify, hg]
  · obtain ⟨a, rfl, ha, hx⟩ := hb h0
    refine ⟨a, rfl, ha, fun i hi => ?_⟩
    obtain ⟨x, x0, x1, hc⟩ := hx i hi
    refine ⟨x, x0, x1, ?_⟩
    show (w.setCell ⟨g, 1, none⟩ (.int .i64 q)).cell? _ = _
    rw [cell_apart _ (by omega)]; exact hc

theorem move_grown (w : World) (g : Nat) (v : Value) (m : Nat) : w.grownBy ((w.setCell ⟨g, 1, none⟩ v).drewN m) (some g) :=
  ⟨rfl, rfl, rfl, by simp [World.setCell, World.drewN], fun i _ hne => Below.heap_setCell w _ v i (fun e => hne (by rw [e]))⟩

/-- PICK: some number from 0 to n-1; only the reader has turned. -/
theorem pick (g : Nat) (p n : Int) (w : World) (h : Rd w g p) (hp : 0 ≤ p) (hp' : p ≤ 1000000000000) (hn : 1 ≤ n) :
    Calls Tryz.prog 55 #[.pointer (some ⟨g, 0, none⟩), .int .i64 n] w fun e w' => ∃ k : Int, 0 ≤ k ∧ k < n ∧ e = .returned (.int .i64 k) ∧ Rd w' g (p + 1) ∧ w.grownBy w' (some g) := by
  obtain ⟨A, len, c, hlen, hg, hb⟩ := id h
  have h0 : w.cell? ⟨g, 0, none⟩ = some (.slice A len c) := by rw [cell_of_row w g 0 _ _ _ hg]; rfl
  have h1 : w.cell? ⟨g, 1, none⟩ = some (.int .i64 p) := by rw [cell_of_row w g 1 _ _ _ hg]; rfl
  have hf : w.frozen? ⟨g, 1, none⟩ = false := by simp [World.frozen?, hg]
  by_cases hl : len = 0
  · subst hl
    refine (pick_none g A c p n w h0 h1 hf hp hp' hn).mono ?_
    rintro e w' ⟨rfl, rfl⟩
    exact ⟨0, by omega, by omega, rfl, h.move (q := p + 1) 0, move_grown w g _ 0⟩
  · obtain ⟨a, rfl, ha, hx⟩ := hb (by omega)
    by_cases hlt : p < len
    · obtain ⟨x, x0, x1, hc⟩ := hx p.toNat (by omega)
      refine (pick_near g a len c p n x w h0 h1 hf hp hp' hn hlt (by omega) hc x0 x1).mono ?_
      rintro e w' ⟨rfl, rfl⟩
      exact ⟨_, Int.emod_nonneg _ (by omega), Int.emod_lt_of_pos _ (by omega), rfl, h.move (q := p + 1) 0, move_grown w g _ 0⟩
    · have q0 : 0 ≤ p % (len : Int) := Int.emod_nonneg _ (by omega)
      have q1 : p % (len : Int) < len := Int.emod_lt_of_pos _ (by omega)
      have r0 : 0 ≤ (p * 7 + 3) % (len : Int) := Int.emod_nonneg _ (by omega)
      have r1 : (p * 7 + 3) % (len : Int) < len := Int.emod_lt_of_pos _ (by omega)
      obtain ⟨x, x0, x1, hc⟩ := hx (p % len).toNat (by omega)
      obtain ⟨y, y0, y1, hd⟩ := hx ((p * 7 + 3) % len).toNat (by omega)
      refine (pick_far g a len c p n x y w h0 h1 hf hp hp' hn (by omega) hlen hlt (by omega) hc x0 x1 hd y0 y1).mono ?_
      rintro e w' ⟨⟨k, k0, k1, rfl⟩, m, rfl⟩
      exact ⟨k, k0, k1, rfl, h.move (q := p + 1) m, move_grown w g _ m⟩

end Go.Proofs.YtnfnjhbaaefbpaaGreatDoor
