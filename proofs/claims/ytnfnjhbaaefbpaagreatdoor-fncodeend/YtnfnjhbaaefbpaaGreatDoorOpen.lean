/- The reader of codes: opening it, and one of a list of numbers. -/
import Derived.Test.YtnfnjhbaaefbpaaGreatDoorPick
namespace Go.Proofs.YtnfnjhbaaefbpaaGreatDoor
open Go.ChangeShapes Go.WideShapes Go.ChangeAt Go.RowKit

/-- A slice of bytes that can be read. -/
def Bytes (w : World) (A : Option Addr) (n : Nat) : Prop :=
  0 < n → ∃ a : Addr, A = some a ∧ a.block < w.heap.size ∧ ∀ i, i < n → ∃ x : Int, 0 ≤ x ∧ x ≤ 255 ∧ w.cell? (a.add i) = some (.int .u8 x)

theorem Bytes.below {w w' : World} {A : Option Addr} {n : Nat} (h : Bytes w A n) (hb : Below w.heap.size w w') : Bytes w' A n := fun h0 => by
  obtain ⟨a, rfl, ha, hx⟩ := h h0
  refine ⟨a, rfl, Nat.lt_of_lt_of_le ha hb.size, fun i hi => ?_⟩
  obtain ⟨x, x0, x1, hc⟩ := hx i hi
  exact ⟨x, x0, x1, by rw [hb.cell (by rw [add_block]; exact ha)]; exact hc⟩

theorem Bytes.le {w : World} {A : Option Addr} {n m : Nat} (h : Bytes w A n) (hm : m ≤ n) : Bytes w A m := fun h0 => by
  obtain ⟨a, rfl, ha, hx⟩ := h (by omega)
  exact ⟨a, rfl, ha, fun i hi => hx i (by omega)⟩

theorem rd_new {w : World} {A : Option Addr} {n c : Nat} (h : Bytes w A n) (hn : n ≤ 2000) : Rd (w.alloc (.cells #[.slice A n c, .int .i64 0] 87)) w.heap.size 0 := by
  refine ⟨A, n, c, hn, by show (w.heap.push _)[w.heap.size]? = _; simp, fun h0 => ?_⟩
  obtain ⟨a, rfl, ha, hx⟩ := h h0
  refine ⟨a, rfl, ha, fun i hi => ?_⟩
  obtain ⟨x, x0, x1, hc⟩ := hx i hi
  exact ⟨x, x0, x1, by rw [World.cell?_of_block (w := w) (by rw [add_block]; exact Below.heap_alloc w _ _ ha)]; exact hc⟩

theorem l11Open (A : Option Addr) (n c : Nat) (w : World) (h : Bytes w A n) (hn : n ≤ c) (hc : c ≤ maxLen) :
    Calls Tryz.prog 28 #[.slice A n c] w fun e w' => e = .returned (.pointer (some ⟨w.heap.size, 0, none⟩)) ∧ Rd w' w.heap.size 0 ∧ Below w.heap.size w w' := by
  unfold maxLen at hc
  by_cases hl : n ≤ 2000
  · have hl' : ¬ 2000 < n := by omega
    have hR := rd_new (c := c) h hl
    go_enter Tryz.func28, Tryz.ntmps28
    go_wp2
    go_ret
    exact ⟨rfl, hR, (Below.refl _ _).alloc (Nat.le_refl _) _⟩
  · have hl' : 2000 < n := by omega
    have hR := rd_new (c := c) (h.le (m := 2000) (by omega)) (Nat.le_refl _)
    go_enter Tryz.func28, Tryz.ntmps28
    go_wp2
    go_ret
    exact ⟨rfl, hR, (Below.refl _ _).alloc (Nat.le_refl _) _⟩

theorem num (g : Nat) (p : Int) (a : Addr) (len cap : Nat) (w : World) (h : Rd w g p) (hp : 0 ≤ p) (hp' : p ≤ 1000000000000) (hl : 1 ≤ len) (hl' : len ≤ 1000000) (hag : a.block ≠ g)
    (hx : ∀ i, i < len → ∃ x : Int, w.cell? (a.add i) = some (.int .i64 x)) :
    Calls Tryz.prog 56 #[.pointer (some ⟨g, 0, none⟩), .slice (some a) len cap] w fun e w' => ∃ (k : Nat) (x : Int), k < len ∧ w.cell? (a.add k) = some (.int .i64 x) ∧ e = .returned (.int .i64 x) ∧ Rd w' g (p + 1) ∧ w.grownBy w' (some g) := by
  have Hx := Lib.hid hx
  clear hx
  go_enter Tryz.func56, Tryz.ntmps56
  go_wp2_with fail
  refine (pick g p _ _ h hp hp' (by omega)).mono ?_
  rintro e w' ⟨k, k0, k1, rfl, hR, hg⟩
  obtain ⟨x, hc⟩ := Hx.out k.toNat (by omega)
  have hc' : w'.cell? (a.add k.toNat) = some (.int .i64 x) := hg.cell hc (by rw [add_block]; intro e; exact hag (by injection e))
  have HC := Lib.hid hc
  clear hc
  go_wp2_with fail
  go_ret
  exact ⟨k.toNat, x, by omega, HC.out, rfl, hR, hg⟩

theorem add_off (b k : Nat) : (⟨b, 0, none⟩ : Addr).add k = ⟨b, k, none⟩ := by unfold Addr.add; split <;> simp_all

theorem ints_new (w : World) (zs : List Int) (vs : Array Value) (t : TypeId) (h : vs = (zs.map (Value.int .i64)).toArray) : ∀ i, i < zs.length → ∃ x : Int, (w.alloc (.cells vs t)).cell? ((⟨w.heap.size, 0, none⟩ : Addr).add i) = some (.int .i64 x) := by
  intro i hi
  refine ⟨zs[i], ?_⟩
  rw [add_off, cell_of_row _ w.heap.size i vs t (0, 0) (by show (w.heap.push _)[w.heap.size]? = _; simp), h]
  simp [hi]

theorem ints_val (w : World) (zs : List Int) (vs : Array Value) (t : TypeId) (h : vs = (zs.map (Value.int .i64)).toArray) (i : Nat) (x : Int) (hi : i < zs.length)
    (hc : (w.alloc (.cells vs t)).cell? ((⟨w.heap.size, 0, none⟩ : Addr).add i) = some (.int .i64 x)) : x ∈ zs := by
  rw [add_off, cell_of_row _ w.heap.size i vs t (0, 0) (by show (w.heap.push _)[w.heap.size]? = _; simp), h] at hc
  simp [hi] at hc
  rw [← hc]; exact List.getElem_mem hi

theorem Rd.alloc {w : World} {g : Nat} {p : Int} (h : Rd w g p) (o : Obj) : Rd (w.alloc o) g p := h.keep fun k hk => Below.heap_alloc w o k (by have := h.lt; omega)

theorem Below.of_grown {w w' : World} {g B : Nat} (h : w.grownBy w' (some g)) (hB : B ≤ g) (hg : g < w.heap.size) : Below B w w' :=
  ⟨h.os, h.tape, h.output, h.size, fun k hk => h.block k (by omega) (fun e => by injection e; omega)⟩

/-- One of a list that has just been written out. -/
theorem num_new (g : Nat) (p : Int) (w : World) (zs : List Int) (vs : Array Value) (t : TypeId) (n : Nat) (h : Rd w g p) (hp : 0 ≤ p) (hp' : p ≤ 1000000000000) (hvs : vs = (zs.map (Value.int .i64)).toArray) (hn : zs.length = n) (hl : 1 ≤ n) (hl' : n ≤ 1000000) :
    Calls Tryz.prog 56 #[.pointer (some ⟨g, 0, none⟩), .slice (some ⟨w.heap.size, 0, none⟩) n n] (w.alloc (.cells vs t)) fun e w' => ∃ x : Int, x ∈ zs ∧ e = .returned (.int .i64 x) ∧ Rd w' g (p + 1) ∧ w.grownBy w' (some g) := by
  subst hn
  refine (num g p _ _ _ _ (h.alloc _) hp hp' hl hl' (by have := h.lt; show w.heap.size ≠ g; omega) (ints_new w zs vs t hvs)).mono ?_
  rintro e w' ⟨k, x, hk, hc, rfl, hR, hg⟩
  exact ⟨x, ints_val w zs vs t hvs k x hk hc, rfl, hR, (World.grownBy_alloc w _ (some g)).trans hg⟩
end Go.Proofs.YtnfnjhbaaefbpaaGreatDoor
