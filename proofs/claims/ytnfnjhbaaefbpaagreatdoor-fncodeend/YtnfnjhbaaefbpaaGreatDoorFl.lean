/- Slices of numbers and of structs of numbers: when one in memory reads as a plain list of numbers; rows that the call owns; marks. -/
import Derived.Test.YtnfnjhbaaefbpaaGreatDoorRows
import Derived.WalkKit
import Derived.ProofKit
import Derived.OpenShut
import Derived.BigQuiet
import Derived.Deep.QuietTactic
import Derived.Deep.Slices
import Derived.Below
import Derived.Lib.Hide
import Derived.OwnWalk
import Derived.Laws.OwnMore
namespace Go.Proofs.YtnfnjhbaaefbpaaGreatDoor
open Go.ChangeShapes Go.WideShapes Go.ChangeAt Go.RowKit

/-- The slice of n elements, each of z numbers, at A reads as xs; it lies in a block of S. -/
structure Fl (w : World) (S : Nat → Prop) (z : Nat) (xs : List Int) (A : Option Addr) (n c : Nat) : Prop where
  len : xs.length = n * z
  le : n ≤ c
  top : c ≤ maxLen
  nil : A = none → n = 0
  at_ : ∀ a, A = some a → ∀ j, j < xs.length → S a.block ∧ w.cell? (a.add j) = some (.int .i64 (xs.getD j 0))

theorem add_bl (a : Addr) (j : Nat) : (a.add j).block = a.block := by unfold Addr.add; split <;> rfl
theorem add_ad (a : Addr) (m n : Nat) : (a.add m).add n = a.add (m + n) := Go.Deep.add_add a m n

theorem Fl.keep {w w' : World} {S : Nat → Prop} {z : Nat} {xs : List Int} {A : Option Addr} {n c : Nat} (h : Fl w S z xs A n c) (hc : ∀ p : Addr, S p.block → w'.cell? p = w.cell? p) : Fl w' S z xs A n c :=
  ⟨h.len, h.le, h.top, h.nil, fun a ha j hj => by
    obtain ⟨h1, h2⟩ := h.at_ a ha j hj
    exact ⟨h1, by rw [hc _ (by rw [add_bl]; exact h1)]; exact h2⟩⟩
theorem Fl.mono {w : World} {S T : Nat → Prop} {z : Nat} {xs : List Int} {A : Option Addr} {n c : Nat} (h : Fl w S z xs A n c) (hT : ∀ b, S b → T b) : Fl w T z xs A n c :=
  ⟨h.len, h.le, h.top, h.nil, fun a ha j hj => by
    obtain ⟨h1, h2⟩ := h.at_ a ha j hj
    exact ⟨hT _ h1, h2⟩⟩
theorem Fl.below {w w' : World} {N : Nat} {S : Nat → Prop} {z : Nat} {xs : List Int} {A : Option Addr} {n c : Nat} (h : Fl w S z xs A n c) (hb : Below N w w') (hS : ∀ b, S b → b < N) : Fl w' S z xs A n c :=
  h.keep fun _ hp => hb.cell (hS _ hp)
theorem Fl.some {w : World} {S : Nat → Prop} {z : Nat} {xs : List Int} {A : Option Addr} {n c : Nat} (h : Fl w S z xs A n c) (h0 : 0 < n) : ∃ a, A = some a := by
  cases A with
  | none => have := h.nil rfl; omega
  | some a => exact ⟨a, rfl⟩
/-- Every block that it lies in is there. -/
theorem Fl.real {w : World} {S : Nat → Prop} {z : Nat} {xs : List Int} {A : Option Addr} {n c : Nat} (h : Fl w S z xs A n c) : Fl w (fun b => S b ∧ b < w.heap.size) z xs A n c :=
  ⟨h.len, h.le, h.top, h.nil, fun a ha j hj => by
    obtain ⟨h1, h2⟩ := h.at_ a ha j hj
    have := World.block_lt_of_cell? _ _ h2
    rw [add_bl] at this
    exact ⟨⟨h1, this⟩, h2⟩⟩
theorem Fl.later {w w' : World} {S : Nat → Prop} {z : Nat} {xs : List Int} {A : Option Addr} {n c : Nat} (h : Fl w S z xs A n c) (hb : Below w.heap.size w w') : Fl w' S z xs A n c :=
  (h.real.below hb fun _ h => h.2).mono fun _ h => h.1

/-- Of a slice of single numbers the k-th. -/
theorem Fl.one {w : World} {S : Nat → Prop} {xs : List Int} {a : Addr} {n c : Nat} (h : Fl w S 1 xs (Option.some a) n c) (k : Nat) (hk : k < n) : w.cell? (a.add k) = Option.some (.int .i64 (xs.getD k 0)) :=
  (h.at_ a rfl k (by rw [h.len]; omega)).2
/-- Of a slice of pairs the k-th. -/
theorem Fl.two {w : World} {S : Nat → Prop} {xs : List Int} {a : Addr} {n c : Nat} (h : Fl w S 2 xs (Option.some a) n c) (k : Nat) (hk : k < n) :
    w.cell? (a.add (k * 2)) = Option.some (.int .i64 (xs.getD (k * 2) 0)) ∧ w.cell? ⟨(a.add (k * 2)).block, (a.add (k * 2)).off + 1, none⟩ = Option.some (.int .i64 (xs.getD (k * 2 + 1) 0)) := by
  have h1 := (h.at_ a rfl (k * 2 + 1) (by rw [h.len]; omega)).2
  rw [← add_ad] at h1
  exact ⟨(h.at_ a rfl (k * 2) (by rw [h.len]; omega)).2, h1⟩

/-- Numbers as cells. -/
def ints (xs : List Int) : List Value := xs.map (Value.int .i64)
theorem ints_len (xs : List Int) : (ints xs).length = xs.length := by simp [ints]
theorem ints_app (xs ys : List Int) : ints (xs ++ ys) = ints xs ++ ints ys := by simp [ints]
theorem ints_get {xs : List Int} {j : Nat} (h : j < xs.length) : (ints xs)[j]? = some (.int .i64 (xs.getD j 0)) := by
  simp [ints, List.getD, h]
theorem ints_set (xs : List Int) (j : Nat) (x : Int) : (ints xs).set j (.int .i64 x) = ints (xs.set j x) := by simp [ints, List.map_set]

/-- A row that the call owns, read as a slice. -/
theorem own_fl {w : World} {base : Nat} {e : TypeId} {z : Nat} {v : Value} {n : Nat} {xs : List Int} (ho : w.ownsRow base e z v n (ints xs)) :
    ∃ (A : Option Addr) (c : Nat), v = .slice A n c ∧ Fl w (fun b => v.ownBlock = some b) z xs A n c := by
  obtain ⟨hl, hv⟩ := id ho
  rw [ints_len] at hl
  rcases hv with ⟨rfl, h0⟩ | ⟨g, cap, cur, rfl, _, hrow, hnc, hcm, hcs, hcur⟩
  · subst h0
    exact ⟨none, 0, rfl, hl, Nat.le_refl _, Nat.zero_le _, fun _ => rfl, fun a ha => by cases ha⟩
  · refine ⟨some ⟨g, 0, none⟩, cap, rfl, hl, hnc, hcm, (fun h => by cases h), fun a ha j hj => ?_⟩
    obtain rfl : a = ⟨g, 0, none⟩ := by injection ha with h; exact h.symm
    refine ⟨rfl, ?_⟩
    have : (⟨g, 0, none⟩ : Addr).add j = ⟨g, j, none⟩ := by
      unfold Addr.add
      split
      · rename_i h; simp_all
      · simp
    rw [this, ho.cellAt j (by omega), ints_get hj]

theorem own_fl1 {w : World} {base : Nat} {e : TypeId} {z : Nat} {A : Option Addr} {m c n : Nat} {xs : List Int} (ho : w.ownsRow base e z (.slice A m c) n (ints xs)) : Fl w (fun _ => True) z xs A m c := by
  obtain ⟨_, _, h, f⟩ := own_fl ho
  simp only [Value.slice.injEq] at h
  obtain ⟨rfl, rfl, rfl⟩ := h
  exact f.mono fun _ _ => trivial

theorem own_at {w : World} {base : Nat} {e : TypeId} {z : Nat} {v : Value} {n : Nat} {xs : List Value} (ho : w.ownsRow base e z v n xs) {b : Nat} (hb : v.ownBlock = some b) : base ≤ b ∧ b < w.heap.size := by
  obtain ⟨_, ⟨rfl, _⟩ | ⟨g, cap, cur, rfl, hg, hrow, _⟩⟩ := ho
  · simp [Value.ownBlock] at hb
  · simp [Value.ownBlock] at hb
    subst hb
    exact ⟨hg, (Array.getElem?_eq_some_iff.1 hrow).1⟩

theorem own_block {w w' : World} {base : Nat} {e : TypeId} {z : Nat} {v : Value} {n : Nat} {xs : List Value} (ho : w.ownsRow base e z v n xs) (hb : ∀ b, v.ownBlock = some b → w'.heap[b]? = w.heap[b]?) : w'.ownsRow base e z v n xs := by
  obtain ⟨hl, ⟨rfl, h0⟩ | ⟨g, cap, cur, rfl, hg, hrow, h1⟩⟩ := ho
  · exact ⟨hl, .inl ⟨rfl, h0⟩⟩
  · exact ⟨hl, .inr ⟨g, cap, cur, rfl, hg, by rw [hb g rfl]; exact hrow, h1⟩⟩
/-- It stays owned where nothing old turns. -/
theorem own_below {w w' : World} {base : Nat} {e : TypeId} {z : Nat} {v : Value} {n : Nat} {xs : List Value} (ho : w.ownsRow base e z v n xs) (hb : Below w.heap.size w w') : w'.ownsRow base e z v n xs :=
  own_block ho fun _ h => hb.block _ (own_at ho h).2
theorem own_mono {w : World} {base base' : Nat} {e : TypeId} {z : Nat} {v : Value} {n : Nat} {xs : List Value} (ho : w.ownsRow base e z v n xs) (h : base' ≤ base) : w.ownsRow base' e z v n xs := by
  obtain ⟨hl, ⟨rfl, h0⟩ | ⟨g, cap, cur, rfl, hg, hrow, h1⟩⟩ := ho
  · exact ⟨hl, .inl ⟨rfl, h0⟩⟩
  · exact ⟨hl, .inr ⟨g, cap, cur, rfl, by omega, hrow, h1⟩⟩

/-- The world w' is w but for block row. -/
structure But (w w' : World) (row : Option Nat) : Prop where
  os : w'.os = w.os
  tape : w'.tape = w.tape
  output : w'.output = w.output
  size : w.heap.size ≤ w'.heap.size
  block : ∀ k, k < w.heap.size → some k ≠ row → w'.heap[k]? = w.heap[k]?

theorem But.refl (w : World) (row : Option Nat) : But w w row := ⟨rfl, rfl, rfl, Nat.le_refl _, fun _ _ _ => rfl⟩
theorem But.trans {a b c : World} {row : Option Nat} (h : But a b row) (k : But b c row) : But a c row :=
  ⟨k.os.trans h.os, k.tape.trans h.tape, k.output.trans h.output, Nat.le_trans h.size k.size, fun i hi hr => (k.block i (by have := h.size; omega) hr).trans (h.block i hi hr)⟩
theorem But.of_below {w w' : World} {row : Option Nat} (h : Below w.heap.size w w') : But w w' row := ⟨h.os, h.tape, h.output, h.size, fun k hk _ => h.block k hk⟩
theorem But.of_grown {w w' : World} {row : Option Nat} (h : w.grownBy w' row) : But w w' row := ⟨h.os, h.tape, h.output, h.size, fun k hk hr => h.block k hk hr⟩
theorem But.below {w w' : World} {row : Option Nat} {N : Nat} (h : But w w' row) (hN : N ≤ w.heap.size) (hr : ∀ k, row = some k → N ≤ k) : Below N w w' :=
  ⟨h.os, h.tape, h.output, h.size, fun k hk => h.block k (by omega) (fun e => by have := hr k e.symm; omega)⟩
theorem But.own {w w' : World} {row : Option Nat} (h : But w w' row) {base : Nat} {e : TypeId} {z : Nat} {v : Value} {n : Nat} {xs : List Value} (ho : w.ownsRow base e z v n xs) (hne : ∀ b, v.ownBlock = some b → row ≠ some b) : w'.ownsRow base e z v n xs :=
  own_block ho fun b hb => h.block b (own_at ho hb).2 fun e => hne b hb e.symm
theorem But.fl {w w' : World} {row : Option Nat} (h : But w w' row) {S : Nat → Prop} {z : Nat} {xs : List Int} {A : Option Addr} {n c : Nat} (hf : Fl w S z xs A n c) (hne : ∀ b, S b → b < w.heap.size → row ≠ some b) : Fl w' S z xs A n c :=
  (hf.real.keep fun p hp => World.cell?_of_block (h.block p.block hp.2 fun e => hne _ hp.1 hp.2 e.symm)).mono fun _ h => h.1

/-- The first i numbers marked from k on. -/
def put (xs : List Int) (k : Int) (i : Nat) : List Int := (List.range i).map (fun (j : Nat) => k + (j : Int)) ++ xs.drop i
theorem put_zero (xs : List Int) (k : Int) : put xs k 0 = xs := by simp [put]
theorem put_len (xs : List Int) (k : Int) (i : Nat) (h : i ≤ xs.length) : (put xs k i).length = xs.length := by simp [put]; omega
theorem put_set (xs : List Int) (k : Int) (i : Nat) (h : i < xs.length) : (put xs k i).set i (k + i) = put xs k (i + 1) := by
  unfold put
  rw [List.set_append_right _ _ (by simp), List.range_succ, List.map_append, List.append_assoc]
  congr 1
  rw [List.length_map, List.length_range, Nat.sub_self, List.drop_eq_getElem_cons h, List.set_cons_zero]
  simp
theorem put_get (xs : List Int) (k : Int) (i j : Nat) (h : j < i) : (put xs k i).getD j 0 = k + j := by
  unfold put
  rw [List.getD_eq_getElem?_getD, List.getElem?_append_left (by simpa using h)]
  simp [h]
end Go.Proofs.YtnfnjhbaaefbpaaGreatDoor
