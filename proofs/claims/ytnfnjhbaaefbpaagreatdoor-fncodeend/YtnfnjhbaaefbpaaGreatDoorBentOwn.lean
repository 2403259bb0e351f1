/- What the laws do to a list that they have drawn: what the call owns, and its frames. -/
import Derived.Test.YtnfnjhbaaefbpaaGreatDoorBent
namespace Go.Proofs.YtnfnjhbaaefbpaaGreatDoor
open Go.ChangeShapes Go.WideShapes Go.ChangeAt Go.RowKit

/-- Some list, behind the reader; so many moves on. -/
def BentPost (G : Nat → Prop) (M : Nat) (n0 : Nat) (g : Nat) (p : Int) (w : World) (e : Ending) (w' : World) : Prop :=
  ∃ (L : SL) (a : Addr) (c : Nat) (q : Int), e = .returned (.slice (some a) L.len c) ∧ SlP w' (fun b => G b ∧ b < w'.heap.size) L (some a) L.len c ∧ L.size ≤ M ∧ n0 ≤ L.len ∧ p ≤ q ∧ q ≤ p + 3 ∧ Rd w' g q ∧ w.grownBy w' (some g)

/-- What is owned lies somewhere. -/
theorem own_some {w : World} {base : Nat} {e : TypeId} {size : Nat} {v : Value} {n : Nat} {xs : List Value} (h : w.ownsRow base e size v n xs) (hv : v ≠ .slice none 0 0) : ∃ r cap, v = .slice (some ⟨r, 0, none⟩) n cap ∧ base ≤ r ∧ r < w.heap.size := by
  obtain ⟨_, ⟨rfl, _⟩ | ⟨r, cap, cur, rfl, hb, hrow, _⟩⟩ := h
  · exact absurd rfl hv
  · exact ⟨r, cap, rfl, hb, (Array.getElem?_eq_some_iff.1 hrow).1⟩

/-- The end of it: what the call owns is what it returns. -/
theorem bent_end {G : Nat → Prop} {M n0 g r cap : Nat} {p q : Int} {w wx : World} {L : SL} (ho : OwnB G w wx (.slice (some ⟨r, 0, none⟩) L.len cap) L) (hgl : Reg G g w) (hM : L.size ≤ M) (hn : n0 ≤ L.len) (h0 : p ≤ q) (h1 : q ≤ p + 3) (hR : Rd wx g q) (hg : w.grownBy wx (some g)) :
    BentPost G M n0 g p w (.returned (.slice (some ⟨r, 0, none⟩) L.len cap)) wx := by
  obtain ⟨A, c, e, hs⟩ := ho.sl hgl
  injection e with e1 e2 e3
  subst e1 e3
  exact ⟨L, _, _, q, rfl, hs, hM, hn, h0, h1, hR, hg⟩

/-- A cell of the call's own list is written. -/
theorem OwnB.store {G : Nat → Prop} {r cap n : Nat} {w wx : World} {L' : SL} {xs : List Value} {j : Nat} {u : Value} (ho : wx.ownsRow w.heap.size 36 6 (.slice (some ⟨r, 0, none⟩) n cap) n xs) (hn : n = L'.len)
    (hd : Dec wx (fun b => G b ∧ b < wx.heap.size ∧ (Value.slice (some ⟨r, 0, none⟩) n cap).ownBlock ≠ some b) L' (xs.set j u)) : OwnB G w (wx.setCell ⟨r, j, none⟩ u) (.slice (some ⟨r, 0, none⟩) L'.len cap) L' := by
  subst hn
  obtain ⟨h1, h2⟩ := ho.stored j u
  refine ⟨_, h1, (hd.keep (grown_keep h2 fun b hb => ⟨hb.2.1, fun e => hb.2.2 (by rw [e]; rfl)⟩)).mono fun b hb => ⟨hb.1, by rw [size_set]; exact hb.2.1, hb.2.2⟩⟩

/-- The reader and the frame behind a store into the call's own list. -/
theorem store_frame {g r j : Nat} {q : Int} {w wx : World} {u : Value} (hR : Rd wx g q) (hg : w.grownBy wx (some g)) (hgl : g < w.heap.size) (hr : w.heap.size ≤ r) : Rd (wx.setCell ⟨r, j, none⟩ u) g q ∧ w.grownBy (wx.setCell ⟨r, j, none⟩ u) (some g) :=
  ⟨hR.keep fun k hk => Below.heap_setCell wx ⟨r, j, none⟩ u k (by show k ≠ r; omega),
    ⟨hg.os, hg.tape, hg.output, by rw [size_set]; exact hg.size, fun k hk hne => (Below.heap_setCell wx ⟨r, j, none⟩ u k (by show k ≠ r; omega)).trans (hg.block k hk hne)⟩⟩

/-- One statement in a new block of its own. -/
theorem one_new (w : World) {S : Nat → Prop} (k x y n : Int) {B E : SL} {A A' : Option Addr} {c c' : Nat} (hB : SlP (w.alloc (.cells #[.int .i64 k, .int .i64 x, .int .i64 y, .int .i64 n, .slice A B.len c, .slice A' E.len c'] 36)) S B A B.len c) (hE : SlP (w.alloc (.cells #[.int .i64 k, .int .i64 x, .int .i64 y, .int .i64 n, .slice A B.len c, .slice A' E.len c'] 36)) S E A' E.len c') (hS : S w.heap.size) :
    SlP (w.alloc (.cells #[.int .i64 k, .int .i64 x, .int .i64 y, .int .i64 n, .slice A B.len c, .slice A' E.len c'] 36)) S (.cons k x y n B E .nil) (some ⟨w.heap.size, 0, none⟩) (SL.cons k x y n B E .nil).len 1 := by
  refine ⟨rfl, Nat.le_refl _, by unfold maxLen; simp, (fun h => by cases h), fun p hp => ?_⟩
  obtain rfl : p = ⟨w.heap.size, 0, none⟩ := by injection hp with h; exact h.symm
  refine Dec.atP hS (xs := [.int .i64 k, .int .i64 x, .int .i64 y, .int .i64 n, .slice A B.len c, .slice A' E.len c']) ⟨A, c, A', c', [], rfl, hB, hE, rfl⟩ fun j hj => ?_
  rw [Nat.zero_add, row_cell (new_row w _ _)]
  simp

/-- While it is made too long. -/
def BendRel (G : Nat → Prop) (L : SL) (g : Nat) (q : Int) (w : World) (v : Value) (wr : World) : Prop :=
  ∃ (L' : SL) (r cap : Nat), v = .slice (some ⟨r, 0, none⟩) L'.len cap ∧ OwnB G w wr (.slice (some ⟨r, 0, none⟩) L'.len cap) L' ∧ L.len ≤ L'.len ∧ (L'.len ≤ L.len ∨ L'.len ≤ 15) ∧ L'.size ≤ L.size + (L'.len - L.len) ∧ Rd wr g q ∧ w.grownBy wr (some g)
def lenV : Value → Nat
  | .slice _ n _ => n
  | _ => 0

theorem OwnB.snoc0 {G : Nat → Prop} {w wr w2 : World} {v v' : Value} {L : SL} {o : Obj} {xs : List Value}
    (hd : Dec wr (fun b => G b ∧ b < wr.heap.size ∧ v.ownBlock ≠ some b) L xs)
    (hw2 : w2.ownsRow w.heap.size 36 6 v' (L.len + 1) (xs ++ [.int .i64 11, .int .i64 0, .int .i64 0, .int .i64 0, .slice none 0 0, .slice none 0 0]))
    (hg2 : (wr.alloc o).grownBy w2 v.ownBlock) (hnew : v'.ownBlock = v.ownBlock ∨ v'.ownBlock = some (wr.heap.size + 1)) : OwnB G w w2 v' (L.app (.cons 11 0 0 0 .nil .nil .nil)) := by
  have hsz : wr.heap.size < w2.heap.size := by have := hg2.size; simp at this; omega
  refine ⟨_, by rw [SL.len_app]; exact hw2, Dec.app ((hd.keep fun p hp => ?_).mono fun b hb => ⟨hb.1, by omega, fun e => ?_⟩) ⟨none, 0, none, 0, [], rfl, none_in _ _, none_in _ _, rfl⟩⟩
  · rw [World.cell?_of_block (hg2.block p.block (by have := hp.2.1; simp; omega) (fun e => hp.2.2 e.symm)), World.cell?_of_block (w := wr) (Below.heap_alloc wr o p.block hp.2.1)]
  · rcases hnew with h | h
    · rw [h] at e; exact hb.2.2 e
    · rw [h] at e; injection e with e; omega
end Go.Proofs.YtnfnjhbaaefbpaaGreatDoor
