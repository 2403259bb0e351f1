/- What the laws do to a list that they have drawn: a copy, one of it bent. -/
import Derived.Test.YtnfnjhbaaefbpaaGreatDoorDrawOne
namespace Go.Proofs.YtnfnjhbaaefbpaaGreatDoor
open Go.ChangeShapes Go.WideShapes Go.ChangeAt Go.RowKit

/-- The cells of a list that lies in memory. -/
theorem AtP.dec {w : World} {S : Nat → Prop} {L : SL} : ∀ {a : Addr}, AtP w S L a → ∃ xs, Dec w S L xs ∧ (∀ j u, xs[j]? = some u → w.cell? (a.add j) = some u) ∧ ∀ u ∈ xs, u.oneCell' = true := by
  induction L with
  | nil => intro a _; exact ⟨[], rfl, fun j u h => by simp at h, fun u h => by simp at h⟩
  | cons k x y n B E R _ _ ih =>
    rintro a ⟨ha, h0, h1, h2, h3, ⟨A, c, h4, l4, m4, n4, p4⟩, ⟨A', c', h5, l5, m5, n5, p5⟩, h6⟩
    obtain ⟨ys, hd, hc, ho⟩ := ih h6
    refine ⟨.int .i64 k :: .int .i64 x :: .int .i64 y :: .int .i64 n :: .slice A B.len c :: .slice A' E.len c' :: ys, ⟨A, c, A', c', ys, rfl, ⟨rfl, l4, m4, n4, p4⟩, ⟨rfl, l5, m5, n5, p5⟩, hd⟩, ?_, ?_⟩
    · intro j u hj
      have e0 : a.add 0 = a := by simp [Addr.add]
      match j, hj with
      | 0, hj => simp at hj; subst hj; rw [e0]; exact h0
      | 1, hj => simp at hj; subst hj; exact h1
      | 2, hj => simp at hj; subst hj; exact h2
      | 3, hj => simp at hj; subst hj; exact h3
      | 4, hj => simp at hj; subst hj; exact h4
      | 5, hj => simp at hj; subst hj; exact h5
      | j + 6, hj =>
        have := hc j u (by simpa using hj)
        rw [addr_add, Nat.add_comm 6 j] at this
        exact this
    · intro u hu
      simp only [List.mem_cons] at hu
      rcases hu with rfl | rfl | rfl | rfl | rfl | rfl | hu
      all_goals first | rfl | exact ho u hu

theorem Dec.setInt {w : World} {S : Nat → Prop} (x : Int) {L : SL} : ∀ {xs : List Value} {k j : Nat}, Dec w S L xs → k < L.len → j < 4 → ∃ L', Dec w S L' (xs.set (k * 6 + j) (.int .i64 x)) ∧ L'.len = L.len ∧ L'.size = L.size := by
  induction L with
  | nil => intro xs k j _ hk _; simp [SL.len] at hk
  | cons a0 a1 a2 a3 B E R _ _ ih =>
    rintro xs k j ⟨A, c, A', c', ys, rfl, hB, hE, hR⟩ hk hj
    cases k with
    | zero =>
      match j, hj with
      | 0, _ => exact ⟨.cons x a1 a2 a3 B E R, ⟨A, c, A', c', ys, rfl, hB, hE, hR⟩, rfl, rfl⟩
      | 1, _ => exact ⟨.cons a0 x a2 a3 B E R, ⟨A, c, A', c', ys, rfl, hB, hE, hR⟩, rfl, rfl⟩
      | 2, _ => exact ⟨.cons a0 a1 x a3 B E R, ⟨A, c, A', c', ys, rfl, hB, hE, hR⟩, rfl, rfl⟩
      | 3, _ => exact ⟨.cons a0 a1 a2 x B E R, ⟨A, c, A', c', ys, rfl, hB, hE, hR⟩, rfl, rfl⟩
    | succ k =>
      obtain ⟨R', hd, hl, hs⟩ := ih (k := k) (j := j) hR (by simp only [SL.len] at hk; omega) hj
      refine ⟨.cons a0 a1 a2 a3 B E R', ⟨A, c, A', c', _, ?_, hB, hE, hd⟩, by simp only [SL.len, hl], by simp only [SL.size, hs]⟩
      rw [show (k + 1) * 6 + j = k * 6 + j + 1 + 1 + 1 + 1 + 1 + 1 from by omega]
      simp only [List.set_cons_succ]

theorem Dec.setBody {w : World} {S : Nat → Prop} {M : SL} {Am : Option Addr} {cm : Nat} (hM : SlP w S M Am M.len cm) {L : SL} : ∀ {xs : List Value} {k j : Nat}, Dec w S L xs → k < L.len → (j = 4 ∨ j = 5) → ∃ L', Dec w S L' (xs.set (k * 6 + j) (.slice Am M.len cm)) ∧ L'.len = L.len ∧ L'.size ≤ L.size + M.size := by
  induction L with
  | nil => intro xs k j _ hk _; simp [SL.len] at hk
  | cons a0 a1 a2 a3 B E R _ _ ih =>
    rintro xs k j ⟨A, c, A', c', ys, rfl, hB, hE, hR⟩ hk hj
    cases k with
    | zero =>
      rcases hj with rfl | rfl
      · exact ⟨.cons a0 a1 a2 a3 M E R, ⟨Am, cm, A', c', ys, rfl, hM, hE, hR⟩, rfl, by simp only [SL.size]; omega⟩
      · exact ⟨.cons a0 a1 a2 a3 B M R, ⟨A, c, Am, cm, ys, rfl, hB, hM, hR⟩, rfl, by simp only [SL.size]; omega⟩
    | succ k =>
      obtain ⟨R', hd, hl, hs⟩ := ih (k := k) (j := j) hR (by simp only [SL.len] at hk; omega) hj
      refine ⟨.cons a0 a1 a2 a3 B E R', ⟨A, c, A', c', _, ?_, hB, hE, hd⟩, by simp only [SL.len, hl], by simp only [SL.size]; omega⟩
      rw [show (k + 1) * 6 + j = k * 6 + j + 1 + 1 + 1 + 1 + 1 + 1 from by omega]
      simp only [List.set_cons_succ]

/-- The six cells of the k-th. -/
theorem Dec.get {w : World} {S : Nat → Prop} {L : SL} : ∀ {xs : List Value} {k : Nat}, Dec w S L xs → k < L.len → ∃ (a0 a1 a2 a3 : Int) (B E : SL) (A : Option Addr) (c : Nat) (A' : Option Addr) (c' : Nat),
    xs[k * 6]? = some (.int .i64 a0) ∧ xs[k * 6 + 1]? = some (.int .i64 a1) ∧ xs[k * 6 + 2]? = some (.int .i64 a2) ∧ xs[k * 6 + 3]? = some (.int .i64 a3) ∧ xs[k * 6 + 4]? = some (.slice A B.len c) ∧ xs[k * 6 + 5]? = some (.slice A' E.len c') ∧
      SlP w S B A B.len c ∧ SlP w S E A' E.len c' ∧ 1 + B.size + E.size ≤ L.size := by
  induction L with
  | nil => intro xs k _ hk; simp [SL.len] at hk
  | cons a0 a1 a2 a3 B E R _ _ ih =>
    rintro xs k ⟨A, c, A', c', ys, rfl, hB, hE, hR⟩ hk
    cases k with
    | zero => exact ⟨a0, a1, a2, a3, B, E, A, c, A', c', rfl, rfl, rfl, rfl, rfl, rfl, hB, hE, by simp only [SL.size]; omega⟩
    | succ k =>
      obtain ⟨b0, b1, b2, b3, B', E', F, f, F', f', h0, h1, h2, h3, h4, h5, hB', hE', hs⟩ := ih (k := k) hR (by simp only [SL.len] at hk; omega)
      have e : ∀ i, (Value.int .i64 a0 :: .int .i64 a1 :: .int .i64 a2 :: .int .i64 a3 :: .slice A B.len c :: .slice A' E.len c' :: ys)[(k + 1) * 6 + i]? = ys[k * 6 + i]? := fun i => by
        rw [show (k + 1) * 6 + i = k * 6 + i + 1 + 1 + 1 + 1 + 1 + 1 from by omega]
        simp only [List.getElem?_cons_succ]
      exact ⟨b0, b1, b2, b3, B', E', F, f, F', f', by have := e 0; simpa using this.trans h0, by rw [e]; exact h1, by rw [e]; exact h2, by rw [e]; exact h3, by rw [e]; exact h4, by rw [e]; exact h5, hB', hE', by simp only [SL.size]; omega⟩

/-- Which blocks lists may lie in: none is the reader's; every new one may. -/
structure Reg (G : Nat → Prop) (g : Nat) (w : World) : Prop where
  old : ∀ b, G b → b ≠ g
  new : ∀ b, w.heap.size ≤ b → G b

/-- A list that the call owns, whose bodies lie in blocks of G. -/
def OwnB (G : Nat → Prop) (w wr : World) (v : Value) (L : SL) : Prop := ∃ xs, wr.ownsRow w.heap.size 36 6 v L.len xs ∧ Dec wr (fun b => G b ∧ b < wr.heap.size ∧ v.ownBlock ≠ some b) L xs

theorem OwnB.sl {G : Nat → Prop} {g : Nat} {w w' : World} {v : Value} {L : SL} (h : OwnB G w w' v L) (hg : Reg G g w) : ∃ (A : Option Addr) (c : Nat), v = .slice A L.len c ∧ SlP w' (fun b => G b ∧ b < w'.heap.size) L A L.len c := by
  obtain ⟨xs, ho, hd⟩ := h
  exact owns_slP ho (hd.mono fun b hb => ⟨hb.1, hb.2.1⟩) (fun b hb => by have := own_blocks ho hb; exact ⟨hg.new b this.1, this.2⟩)

theorem OwnB.kept {G : Nat → Prop} {g : Nat} {w wr w1 : World} {v : Value} {L : SL} (ho : OwnB G w wr v L) (hg : wr.grownBy w1 (some g)) (hgl : g < w.heap.size) (hG : Reg G g w) : OwnB G w w1 v L := by
  obtain ⟨xs, h1, h2⟩ := ho
  have hb := fun b hb => own_blocks h1 (b := b) hb
  refine ⟨xs, h1.kept hg ?_, (h2.keep (grown_keep hg fun b hb => ⟨hb.2.1, fun e => by injection e with e; exact hG.old b hb.1 e⟩)).mono fun b hb => ⟨hb.1, Nat.lt_of_lt_of_le hb.2.1 hg.size, hb.2.2⟩⟩
  cases hv : v.ownBlock with
  | none => exact .inl rfl
  | some b => exact .inr (fun e => by have := hb b hv; injection e; omega)
end Go.Proofs.YtnfnjhbaaefbpaaGreatDoor
