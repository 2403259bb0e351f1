/- Lists of statements as plain data (each with the rest of its list behind it), and when a slice in memory reads as one. -/
import Derived.Test.YtnfnjhbaaefbpaaGreatDoorRows
import Derived.WalkKit
import Derived.ProofKit
import Derived.OpenShut
import Derived.BigQuiet
import Derived.Deep.QuietTactic
import Derived.Deep.Slices
import Derived.Below
import Derived.Lib.Hide
namespace Go.Proofs.YtnfnjhbaaefbpaaGreatDoor
open Go.ChangeShapes Go.WideShapes Go.ChangeAt Go.RowKit

/-- A list of statements: the first one's fields, what is in its bodies, the rest. -/
inductive SL where
  | nil
  | cons (k x y n : Int) (B E R : SL)

namespace SL
def len : SL → Nat
  | nil => 0
  | cons _ _ _ _ _ _ R => R.len + 1
/-- How many statements there are, with those in bodies. -/
def size : SL → Nat
  | nil => 0
  | cons _ _ _ _ B E R => 1 + B.size + E.size + R.size
/-- Those in bodies alone. -/
def inner : SL → Nat
  | nil => 0
  | cons _ _ _ _ B E R => B.size + E.size + R.inner
def drop : SL → Nat → SL
  | L, 0 => L
  | nil, _ + 1 => nil
  | cons _ _ _ _ _ _ R, i + 1 => R.drop i

theorem size_eq (L : SL) : L.size = L.len + L.inner := by
  induction L with
  | nil => rfl
  | cons k x y n B E R _ _ ih => simp only [size, len, inner]; omega
theorem len_le (L : SL) : L.len ≤ L.size := by have := L.size_eq; omega
theorem drop_zero (L : SL) : L.drop 0 = L := by cases L <;> rfl
theorem nil_of_len {L : SL} (h : L.len = 0) : L = nil := by cases L <;> simp_all [len]
theorem len_nil : len nil = 0 := rfl
theorem len_cons (k x y n : Int) (B E R : SL) : len (cons k x y n B E R) = R.len + 1 := rfl
end SL

/-- In w the statements of L lie one behind the other from a on, all below block N. -/
def At (w : World) (N : Nat) : SL → Addr → Prop
  | .nil, _ => True
  | .cons k x y n B E R, a => a.block < N ∧ w.cell? a = some (.int .i64 k) ∧ w.cell? (a.add 1) = some (.int .i64 x) ∧ w.cell? (a.add 2) = some (.int .i64 y) ∧ w.cell? (a.add 3) = some (.int .i64 n) ∧
      (∃ (A : Option Addr) (c : Nat), w.cell? (a.add 4) = some (.slice A B.len c) ∧ B.len ≤ c ∧ c ≤ maxLen ∧ (A = none → B = .nil) ∧ ∀ p, A = some p → At w N B p) ∧
      (∃ (A : Option Addr) (c : Nat), w.cell? (a.add 5) = some (.slice A E.len c) ∧ E.len ≤ c ∧ c ≤ maxLen ∧ (A = none → E = .nil) ∧ ∀ p, A = some p → At w N E p) ∧
      At w N R (a.add 6)

/-- The slice of n places at A reads as L. -/
structure Sl (w : World) (N : Nat) (L : SL) (A : Option Addr) (n c : Nat) : Prop where
  len : n = L.len
  le : n ≤ c
  top : c ≤ maxLen
  nil : A = none → L = .nil
  at_ : ∀ p, A = some p → At w N L p

theorem At.keep {N : Nat} {w w' : World} (hc : ∀ p : Addr, p.block < N → w'.cell? p = w.cell? p) {L : SL} : ∀ {a : Addr}, At w N L a → At w' N L a := by
  induction L with
  | nil => intro a _; trivial
  | cons k x y n B E R hB hE hR =>
    rintro a ⟨ha, h0, h1, h2, h3, ⟨A, c, h4, l4, m4, n4, p4⟩, ⟨A', c', h5, l5, m5, n5, p5⟩, h6⟩
    have hk : ∀ j, w'.cell? (a.add j) = w.cell? (a.add j) := fun j => hc _ (by rw [show (a.add j).block = a.block from by unfold Addr.add; split <;> rfl]; exact ha)
    exact ⟨ha, by rw [hc _ ha]; exact h0, by rw [hk]; exact h1, by rw [hk]; exact h2, by rw [hk]; exact h3, ⟨A, c, by rw [hk]; exact h4, l4, m4, n4, fun p hp => hB (p4 p hp)⟩,
      ⟨A', c', by rw [hk]; exact h5, l5, m5, n5, fun p hp => hE (p5 p hp)⟩, hR h6⟩

theorem At.mono {N M : Nat} {w : World} (h : N ≤ M) {L : SL} : ∀ {a : Addr}, At w N L a → At w M L a := by
  induction L with
  | nil => intro a _; trivial
  | cons k x y n B E R hB hE hR =>
    rintro a ⟨ha, h0, h1, h2, h3, ⟨A, c, h4, l4, m4, n4, p4⟩, ⟨A', c', h5, l5, m5, n5, p5⟩, h6⟩
    exact ⟨by omega, h0, h1, h2, h3, ⟨A, c, h4, l4, m4, n4, fun p hp => hB (p4 p hp)⟩, ⟨A', c', h5, l5, m5, n5, fun p hp => hE (p5 p hp)⟩, hR h6⟩

theorem At.below {N : Nat} {w w' : World} {L : SL} {a : Addr} (h : At w N L a) (hb : Below N w w') : At w' N L a := h.keep fun _ hp => hb.cell hp
theorem Sl.below {N : Nat} {w w' : World} {L : SL} {A : Option Addr} {n c : Nat} (h : Sl w N L A n c) (hb : Below N w w') : Sl w' N L A n c := ⟨h.len, h.le, h.top, h.nil, fun p hp => (h.at_ p hp).below hb⟩
theorem Sl.mono {N M : Nat} {w : World} {L : SL} {A : Option Addr} {n c : Nat} (h : Sl w N L A n c) (hm : N ≤ M) : Sl w M L A n c := ⟨h.len, h.le, h.top, h.nil, fun p hp => (h.at_ p hp).mono hm⟩
/-- As it was, in a later world. -/
theorem Sl.later {N M : Nat} {w w' : World} {L : SL} {A : Option Addr} {n c : Nat} (h : Sl w N L A n c) (hb : Below N w w') (hm : N ≤ M) : Sl w' M L A n c := (h.below hb).mono hm
theorem Sl.none (w : World) (N c : Nat) (hc : c ≤ maxLen) : Sl w N .nil Option.none 0 c := ⟨rfl, Nat.zero_le _, hc, fun _ => rfl, fun p hp => by cases hp⟩

/-- The first statement of a list that lies in memory, cell by cell, in the walk's own spelling; its bodies; the rest. -/
theorem At.first {w : World} {N : Nat} {k x y n : Int} {B E R : SL} {a : Addr} (h : At w N (.cons k x y n B E R) a) :
    a.block < N ∧ w.cell? a = some (.int .i64 k) ∧ w.cell? ⟨a.block, a.off + 1, none⟩ = some (.int .i64 x) ∧ w.cell? ⟨a.block, a.off + 2, none⟩ = some (.int .i64 y) ∧ w.cell? ⟨a.block, a.off + 3, none⟩ = some (.int .i64 n) ∧
      ∃ (A : Option Addr) (c : Nat) (A' : Option Addr) (c' : Nat), w.cell? ⟨a.block, a.off + 4, none⟩ = some (.slice A B.len c) ∧ w.cell? ⟨a.block, a.off + 5, none⟩ = some (.slice A' E.len c') ∧ Sl w N B A B.len c ∧ Sl w N E A' E.len c' ∧ At w N R (a.add 6) := by
  obtain ⟨ha, h0, h1, h2, h3, ⟨A, c, h4, l4, m4, n4, p4⟩, ⟨A', c', h5, l5, m5, n5, p5⟩, h6⟩ := h
  exact ⟨ha, h0, h1, h2, h3, A, c, A', c', h4, h5, ⟨rfl, l4, m4, n4, p4⟩, ⟨rfl, l5, m5, n5, p5⟩, h6⟩

theorem At.mk {w : World} {N : Nat} {k x y n : Int} {B E R : SL} {a : Addr} {A : Option Addr} {c : Nat} {A' : Option Addr} {c' : Nat} (ha : a.block < N) (h0 : w.cell? a = some (.int .i64 k)) (h1 : w.cell? (a.add 1) = some (.int .i64 x)) (h2 : w.cell? (a.add 2) = some (.int .i64 y)) (h3 : w.cell? (a.add 3) = some (.int .i64 n))
    (h4 : w.cell? (a.add 4) = some (.slice A B.len c)) (h5 : w.cell? (a.add 5) = some (.slice A' E.len c')) (hB : Sl w N B A B.len c) (hE : Sl w N E A' E.len c') (h6 : At w N R (a.add 6)) : At w N (.cons k x y n B E R) a :=
  ⟨ha, h0, h1, h2, h3, ⟨A, c, h4, hB.le, hB.top, hB.nil, hB.at_⟩, ⟨A', c', h5, hE.le, hE.top, hE.nil, hE.at_⟩, h6⟩

theorem addr_add (a : Addr) (m n : Nat) : (a.add m).add n = a.add (m + n) := Go.Deep.add_add a m n

theorem Sl.some {w : World} {N : Nat} {L : SL} {A : Option Addr} {n c : Nat} (h : Sl w N L A n c) (h0 : 0 < n) : ∃ a, A = some a := by
  cases A with
  | none => have := h.nil rfl; subst this; have := h.len; simp [SL.len] at this; omega
  | some a => exact ⟨a, rfl⟩

/-- From element i on. -/
theorem At.drop {w : World} {N : Nat} {L : SL} : ∀ {a : Addr} (i : Nat), At w N L a → At w N (L.drop i) (a.add (i * 6)) := by
  induction L with
  | nil => intro a i _; cases i <;> trivial
  | cons k x y n B E R _ _ hR =>
    intro a i h
    cases i with
    | zero => simpa [SL.drop, Addr.add] using h
    | succ i =>
      obtain ⟨_, _, _, _, _, _, _, _, _, _, _, _, _, h6⟩ := h.first
      have := hR i h6
      rw [addr_add] at this
      rw [show (i + 1) * 6 = 6 + i * 6 from by omega]
      exact this

theorem SL.drop_succ {L : SL} {i : Nat} {k x y n : Int} {B E R : SL} (h : L.drop i = .cons k x y n B E R) : L.drop (i + 1) = R := by
  induction i generalizing L with
  | zero => cases L with
    | nil => simp [SL.drop] at h
    | cons => simp [SL.drop] at h; simp [SL.drop, h.2.2.2.2.2.2, SL.drop_zero]
  | succ i ih => cases L with
    | nil => simp [SL.drop] at h
    | cons k' x' y' n' B' E' R' => exact ih (L := R') h

theorem SL.drop_len (L : SL) (i : Nat) : (L.drop i).len = L.len - i := by
  induction L generalizing i with
  | nil => cases i <;> simp [SL.drop, SL.len]
  | cons k x y n B E R _ _ ih => cases i with
    | zero => rfl
    | succ i => simp only [SL.drop, SL.len, ih]; omega

theorem SL.drop_cons {L : SL} {i : Nat} (h : i < L.len) : ∃ k x y n B E R, L.drop i = .cons k x y n B E R := by
  have := L.drop_len i
  cases hd : L.drop i with
  | nil => rw [hd] at this; simp [SL.len] at this; omega
  | cons k x y n B E R => exact ⟨_, _, _, _, _, _, _, rfl⟩

theorem SL.drop_end {L : SL} {i : Nat} (h : L.len ≤ i) : L.drop i = .nil := SL.nil_of_len (by rw [SL.drop_len]; omega)

theorem SL.drop_size {L : SL} {i : Nat} {k x y n : Int} {B E R : SL} (h : L.drop i = .cons k x y n B E R) : B.size < L.size ∧ E.size < L.size := by
  induction i generalizing L with
  | zero => rw [SL.drop_zero] at h; subst h; simp only [SL.size]; omega
  | succ i ih => cases L with
    | nil => simp [SL.drop] at h
    | cons k' x' y' n' B' E' R' => have := ih (L := R') h; simp only [SL.size]; omega

theorem SL.drop_size2 {L : SL} {i : Nat} {k x y n : Int} {B E R : SL} (h : L.drop i = .cons k x y n B E R) : B.size + E.size < L.size := by
  induction i generalizing L with
  | zero => rw [SL.drop_zero] at h; subst h; simp only [SL.size]; omega
  | succ i ih => cases L with
    | nil => simp [SL.drop] at h
    | cons k' x' y' n' B' E' R' => have := ih (L := R') h; simp only [SL.size]; omega

theorem bcell {W w1 : World} (hb : Below W.heap.size W w1) : (∀ b o, b < W.heap.size → w1.cell? ⟨b, o, none⟩ = W.cell? ⟨b, o, none⟩) ∧ (∀ b o, b < W.heap.size → w1.frozen? ⟨b, o, none⟩ = W.frozen? ⟨b, o, none⟩) :=
  ⟨fun b o h => hb.cell (p := ⟨b, o, none⟩) h, fun b o h => hb.frozen (p := ⟨b, o, none⟩) h⟩

theorem cell_new {w w1 : World} {vs : Array Value} {t : TypeId} (hb : Below (w.alloc (.cells vs t)).heap.size (w.alloc (.cells vs t)) w1) (j : Nat) : w1.cell? ⟨w.heap.size, j, none⟩ = vs[j]? := by
  rw [hb.cell (by simp), cell_of_row _ w.heap.size j vs t (0, 0) (by show (w.heap.push _)[w.heap.size]? = _; simp)]
end Go.Proofs.YtnfnjhbaaefbpaaGreatDoor
