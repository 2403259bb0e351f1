/- Lists of statements in new memory: every block that they lie in is one of a kind. -/
import Derived.Test.YtnfnjhbaaefbpaaGreatDoorSl
namespace Go.Proofs.YtnfnjhbaaefbpaaGreatDoor
open Go.ChangeShapes Go.WideShapes Go.ChangeAt Go.RowKit

/-- As At, each block being one of S. -/
def AtP (w : World) (S : Nat → Prop) : SL → Addr → Prop
  | .nil, _ => True
  | .cons k x y n B E R, a => S a.block ∧ w.cell? a = some (.int .i64 k) ∧ w.cell? (a.add 1) = some (.int .i64 x) ∧ w.cell? (a.add 2) = some (.int .i64 y) ∧ w.cell? (a.add 3) = some (.int .i64 n) ∧
      (∃ (A : Option Addr) (c : Nat), w.cell? (a.add 4) = some (.slice A B.len c) ∧ B.len ≤ c ∧ c ≤ maxLen ∧ (A = none → B = .nil) ∧ ∀ p, A = some p → AtP w S B p) ∧
      (∃ (A : Option Addr) (c : Nat), w.cell? (a.add 5) = some (.slice A E.len c) ∧ E.len ≤ c ∧ c ≤ maxLen ∧ (A = none → E = .nil) ∧ ∀ p, A = some p → AtP w S E p) ∧
      AtP w S R (a.add 6)

structure SlP (w : World) (S : Nat → Prop) (L : SL) (A : Option Addr) (n c : Nat) : Prop where
  len : n = L.len
  le : n ≤ c
  top : c ≤ maxLen
  nil : A = none → L = .nil
  at_ : ∀ p, A = some p → AtP w S L p

theorem AtP.keep {S : Nat → Prop} {w w' : World} (hc : ∀ p : Addr, S p.block → w'.cell? p = w.cell? p) {L : SL} : ∀ {a : Addr}, AtP w S L a → AtP w' S L a := by
  induction L with
  | nil => intro a _; trivial
  | cons k x y n B E R hB hE hR =>
    rintro a ⟨ha, h0, h1, h2, h3, ⟨A, c, h4, l4, m4, n4, p4⟩, ⟨A', c', h5, l5, m5, n5, p5⟩, h6⟩
    have hk : ∀ j, w'.cell? (a.add j) = w.cell? (a.add j) := fun j => hc _ (by rw [show (a.add j).block = a.block from by unfold Addr.add; split <;> rfl]; exact ha)
    exact ⟨ha, by rw [hc _ ha]; exact h0, by rw [hk]; exact h1, by rw [hk]; exact h2, by rw [hk]; exact h3, ⟨A, c, by rw [hk]; exact h4, l4, m4, n4, fun p hp => hB (p4 p hp)⟩,
      ⟨A', c', by rw [hk]; exact h5, l5, m5, n5, fun p hp => hE (p5 p hp)⟩, hR h6⟩

theorem AtP.mono {S T : Nat → Prop} {w : World} (h : ∀ b, S b → T b) {L : SL} : ∀ {a : Addr}, AtP w S L a → AtP w T L a := by
  induction L with
  | nil => intro a _; trivial
  | cons k x y n B E R hB hE hR =>
    rintro a ⟨ha, h0, h1, h2, h3, ⟨A, c, h4, l4, m4, n4, p4⟩, ⟨A', c', h5, l5, m5, n5, p5⟩, h6⟩
    exact ⟨h _ ha, h0, h1, h2, h3, ⟨A, c, h4, l4, m4, n4, fun p hp => hB (p4 p hp)⟩, ⟨A', c', h5, l5, m5, n5, fun p hp => hE (p5 p hp)⟩, hR h6⟩

theorem AtP.at_ {S : Nat → Prop} {N : Nat} {w : World} (h : ∀ b, S b → b < N) {L : SL} : ∀ {a : Addr}, AtP w S L a → At w N L a := by
  induction L with
  | nil => intro a _; trivial
  | cons k x y n B E R hB hE hR =>
    rintro a ⟨ha, h0, h1, h2, h3, ⟨A, c, h4, l4, m4, n4, p4⟩, ⟨A', c', h5, l5, m5, n5, p5⟩, h6⟩
    exact ⟨h _ ha, h0, h1, h2, h3, ⟨A, c, h4, l4, m4, n4, fun p hp => hB (p4 p hp)⟩, ⟨A', c', h5, l5, m5, n5, fun p hp => hE (p5 p hp)⟩, hR h6⟩

theorem SlP.keep {S : Nat → Prop} {w w' : World} {L : SL} {A : Option Addr} {n c : Nat} (h : SlP w S L A n c) (hc : ∀ p : Addr, S p.block → w'.cell? p = w.cell? p) : SlP w' S L A n c := ⟨h.len, h.le, h.top, h.nil, fun p hp => (h.at_ p hp).keep hc⟩
theorem SlP.mono {S T : Nat → Prop} {w : World} {L : SL} {A : Option Addr} {n c : Nat} (h : SlP w S L A n c) (hT : ∀ b, S b → T b) : SlP w T L A n c := ⟨h.len, h.le, h.top, h.nil, fun p hp => (h.at_ p hp).mono hT⟩
theorem SlP.sl {S : Nat → Prop} {N : Nat} {w : World} {L : SL} {A : Option Addr} {n c : Nat} (h : SlP w S L A n c) (hN : ∀ b, S b → b < N) : Sl w N L A n c := ⟨h.len, h.le, h.top, h.nil, fun p hp => (h.at_ p hp).at_ hN⟩

/-- The blocks that came into being between two worlds. -/
def Born (w w' : World) (b : Nat) : Prop := w.heap.size ≤ b ∧ b < w'.heap.size

theorem Born.keep {w w1 w2 : World} (h : Below w1.heap.size w1 w2) : ∀ p : Addr, Born w w1 p.block → w2.cell? p = w1.cell? p := fun _ hp => h.cell hp.2

/-- One statement's six cells in block g from offset o on; its bodies lie in blocks of S. -/
def Elem (w : World) (S : Nat → Prop) (g o : Nat) : SL → Prop
  | .nil => True
  | .cons k x y n B E _ => w.cell? ⟨g, o, none⟩ = some (.int .i64 k) ∧ w.cell? ⟨g, o + 1, none⟩ = some (.int .i64 x) ∧ w.cell? ⟨g, o + 2, none⟩ = some (.int .i64 y) ∧ w.cell? ⟨g, o + 3, none⟩ = some (.int .i64 n) ∧
      ∃ (A : Option Addr) (c : Nat) (A' : Option Addr) (c' : Nat), w.cell? ⟨g, o + 4, none⟩ = some (.slice A B.len c) ∧ w.cell? ⟨g, o + 5, none⟩ = some (.slice A' E.len c') ∧ SlP w S B A B.len c ∧ SlP w S E A' E.len c'

theorem Elem.keep {w w' : World} {S : Nat → Prop} {g o : Nat} {L : SL} (h : Elem w S g o L) (hg : ∀ j, j < 6 → w'.cell? ⟨g, o + j, none⟩ = w.cell? ⟨g, o + j, none⟩) (hc : ∀ p : Addr, S p.block → w'.cell? p = w.cell? p) : Elem w' S g o L := by
  cases L with
  | nil => trivial
  | cons k x y n B E R =>
    obtain ⟨h0, h1, h2, h3, A, c, A', c', h4, h5, sB, sE⟩ := h
    exact ⟨by rw [show o = o + 0 from rfl, hg 0 (by omega)]; exact h0, by rw [hg 1 (by omega)]; exact h1, by rw [hg 2 (by omega)]; exact h2, by rw [hg 3 (by omega)]; exact h3, A, c, A', c', by rw [hg 4 (by omega)]; exact h4, by rw [hg 5 (by omega)]; exact h5, sB.keep hc, sE.keep hc⟩

theorem Elem.mono {w : World} {S T : Nat → Prop} {g o : Nat} {L : SL} (h : Elem w S g o L) (hT : ∀ b, S b → T b) : Elem w T g o L := by
  cases L with
  | nil => trivial
  | cons k x y n B E R =>
    obtain ⟨h0, h1, h2, h3, A, c, A', c', h4, h5, sB, sE⟩ := h
    exact ⟨h0, h1, h2, h3, A, c, A', c', h4, h5, sB.mono hT, sE.mono hT⟩

/-- Where each statement lies in its place, the list lies there. -/
theorem AtP.of_elems {w : World} {S : Nat → Prop} {g : Nat} (hg : S g) {L : SL} : ∀ {o : Nat}, (∀ j, j < L.len → Elem w S g (o + j * 6) (L.drop j)) → AtP w S L ⟨g, o, none⟩ := by
  induction L with
  | nil => intro o _; trivial
  | cons k x y n B E R hB hE hR =>
    intro o h
    obtain ⟨h0, h1, h2, h3, A, c, A', c', h4, h5, sB, sE⟩ : Elem w S g o (.cons k x y n B E R) := by have := h 0 (by simp [SL.len]); simpa [SL.drop] using this
    refine ⟨hg, h0, h1, h2, h3, ⟨A, c, h4, sB.le, sB.top, sB.nil, sB.at_⟩, ⟨A', c', h5, sE.le, sE.top, sE.nil, sE.at_⟩, ?_⟩
    exact hR (o := o + 6) fun j hj => by
      have := h (j + 1) (by simp only [SL.len]; omega)
      rw [show o + (j + 1) * 6 = o + 6 + j * 6 from by omega] at this
      exact this

theorem row_set {w : World} {b i : Nat} {vs : Array Value} {t : TypeId} (h : w.heap[b]? = some (.cells vs t (0, 0))) (v : Value) : (w.setCell ⟨b, i, none⟩ v).heap[b]? = some (.cells (vs.setIfInBounds i v) t (0, 0)) := by
  simp [World.setCell, Array.getElem?_modify, h]
theorem row_other {w : World} {b b' i : Nat} (h : b ≠ b') (v : Value) : (w.setCell ⟨b', i, none⟩ v).heap[b]? = w.heap[b]? := Below.heap_setCell w _ v b h
theorem row_frozen {w : World} {b : Nat} {vs : Array Value} {t : TypeId} (h : w.heap[b]? = some (.cells vs t (0, 0))) (i : Nat) : w.frozen? ⟨b, i, none⟩ = false := by simp [World.frozen?, h]
theorem row_cell {w : World} {b : Nat} {vs : Array Value} {t : TypeId} (h : w.heap[b]? = some (.cells vs t (0, 0))) (i : Nat) : w.cell? ⟨b, i, none⟩ = vs[i]? := cell_of_row w b i vs t (0, 0) h

/-- Behind three new blocks and a call: what they are. -/
theorem blk3 {w w' : World} {us vs ws : Array Value} {t u v : TypeId} (hb : Below (((w.alloc (.cells us t)).alloc (.cells vs u)).alloc (.cells ws v)).heap.size (((w.alloc (.cells us t)).alloc (.cells vs u)).alloc (.cells ws v)) w') :
    w.heap.size + 3 ≤ w'.heap.size ∧ Below w.heap.size w w' ∧ w'.heap[w.heap.size]? = some (.cells us t (0, 0)) ∧ w'.heap[w.heap.size + 1]? = some (.cells vs u (0, 0)) ∧ w'.heap[w.heap.size + 1 + 1]? = some (.cells ws v (0, 0)) := by
  have hz := hb.size
  simp at hz
  refine ⟨by omega, (((Below.refl _ _).alloc (Nat.le_refl _) _).alloc (by simp) _ |>.alloc (by simp; omega) _).trans (hb.mono (by simp; omega)), ?_, ?_, ?_⟩
  · rw [hb.block _ (by simp; omega)]
    show (((w.heap.push _).push _).push _)[w.heap.size]? = _
    rw [Array.getElem?_push, if_neg (by simp; omega), Array.getElem?_push, if_neg (by simp), Array.getElem?_push, if_pos rfl]
  · rw [hb.block _ (by simp)]
    show (((w.heap.push _).push _).push _)[w.heap.size + 1]? = _
    rw [Array.getElem?_push, if_neg (by simp), Array.getElem?_push, if_pos (by simp)]
  · rw [hb.block _ (by simp)]
    show (((w.heap.push _).push _).push _)[w.heap.size + 1 + 1]? = _
    rw [Array.getElem?_push, if_pos (by simp)]

theorem SlP.born {a b w w' : World} {L : SL} {A : Option Addr} {n c : Nat} (h : SlP b (Born a b) L A n c) (hw : w.heap.size ≤ a.heap.size) (hb : Below b.heap.size b w') : SlP w' (Born w w') L A n c :=
  (h.keep (w' := w') (fun _ hp => hb.cell hp.2)).mono fun _ hp => ⟨Nat.le_trans hw hp.1, Nat.lt_of_lt_of_le hp.2 hb.size⟩

theorem SlP.set {S : Nat → Prop} {w : World} {L : SL} {A : Option Addr} {n c : Nat} (h : SlP w S L A n c) {p : Addr} (hp : ¬ S p.block) (v : Value) : SlP (w.setCell p v) S L A n c :=
  h.keep fun q hq => World.cell?_setCell_other _ _ _ _ (fun e => hp (by rw [e]; exact hq))
theorem size_set (w : World) (p : Addr) (v : Value) : (w.setCell p v).heap.size = w.heap.size := by simp [World.setCell]

def set6 (w : World) (g o : Nat) (v0 v1 v2 v3 v4 v5 : Value) : World :=
  (((((w.setCell ⟨g, o, none⟩ v0).setCell ⟨g, o + 1, none⟩ v1).setCell ⟨g, o + 2, none⟩ v2).setCell ⟨g, o + 3, none⟩ v3).setCell ⟨g, o + 4, none⟩ v4).setCell ⟨g, o + 5, none⟩ v5

/-- Six cells of a row, written one after the other. -/
theorem set6_row {w : World} {g o : Nat} {vs : Array Value} {t : TypeId} (h : w.heap[g]? = some (.cells vs t (0, 0))) (v0 v1 v2 v3 v4 v5 : Value) :
    ∃ vs', (set6 w g o v0 v1 v2 v3 v4 v5).heap[g]? = some (.cells vs' t (0, 0)) ∧ vs'.size = vs.size ∧ ∀ q, vs'[q]? = if q < vs.size then (if q = o + 5 then some v5 else if q = o + 4 then some v4 else if q = o + 3 then some v3 else if q = o + 2 then some v2 else if q = o + 1 then some v1 else if q = o then some v0 else vs[q]?) else none := by
  refine ⟨_, row_set (row_set (row_set (row_set (row_set (row_set h v0) v1) v2) v3) v4) v5, by simp, fun q => ?_⟩
  simp only [Array.getElem?_setIfInBounds, Array.size_setIfInBounds]
  by_cases hq : q < vs.size
  · rw [if_pos hq]
    by_cases h5 : q = o + 5
    · subst h5; simp [hq]
    · rw [if_neg (fun e => h5 e.symm), if_neg h5]
      by_cases h4 : q = o + 4
      · subst h4; simp [hq]
      · rw [if_neg (fun e => h4 e.symm), if_neg h4]
        by_cases h3 : q = o + 3
        · subst h3; simp [hq]
        · rw [if_neg (fun e => h3 e.symm), if_neg h3]
          by_cases h2 : q = o + 2
          · subst h2; simp [hq]
          · rw [if_neg (fun e => h2 e.symm), if_neg h2]
            by_cases h1 : q = o + 1
            · subst h1; simp [hq]
            · rw [if_neg (fun e => h1 e.symm), if_neg h1]
              by_cases h0 : q = o
              · subst h0; simp [hq]
              · rw [if_neg (fun e => h0 e.symm), if_neg h0]
  · rw [if_neg hq]
    have : vs[q]? = none := by simp; omega
    simp only [this]
    repeat' split
    all_goals first | rfl | omega

theorem set6_size (w : World) (g o : Nat) (v0 v1 v2 v3 v4 v5 : Value) : (set6 w g o v0 v1 v2 v3 v4 v5).heap.size = w.heap.size := by simp only [set6, size_set]
theorem set6_other {w : World} {g o : Nat} {v0 v1 v2 v3 v4 v5 : Value} {p : Addr} (h : p.block ≠ g) : (set6 w g o v0 v1 v2 v3 v4 v5).cell? p = w.cell? p := by
  have e : ∀ (W : World) (q : Nat) (v : Value), (W.setCell ⟨g, q, none⟩ v).cell? p = W.cell? p := fun W q v => World.cell?_setCell_other _ _ _ _ (fun e => h (by rw [← e]))
  simp only [set6, e]
theorem set6_below {N : Nat} {a w : World} {g o : Nat} (v0 v1 v2 v3 v4 v5 : Value) (h : Below N a w) (hg : N ≤ g) : Below N a (set6 w g o v0 v1 v2 v3 v4 v5) :=
  (((((h.setCell (p := ⟨g, o, none⟩) hg v0).setCell (p := ⟨g, o + 1, none⟩) hg v1).setCell (p := ⟨g, o + 2, none⟩) hg v2).setCell (p := ⟨g, o + 3, none⟩) hg v3).setCell (p := ⟨g, o + 4, none⟩) hg v4).setCell (p := ⟨g, o + 5, none⟩) hg v5

theorem cells6 {w : World} {g : Nat} {t : TypeId} {v0 v1 v2 v3 v4 v5 : Value} (h : w.heap[g]? = some (.cells #[v0, v1, v2, v3, v4, v5] t (0, 0))) :
    w.cell? ⟨g, 0, none⟩ = some v0 ∧ w.cell? ⟨g, 1, none⟩ = some v1 ∧ w.cell? ⟨g, 2, none⟩ = some v2 ∧ w.cell? ⟨g, 3, none⟩ = some v3 ∧ w.cell? ⟨g, 4, none⟩ = some v4 ∧ w.cell? ⟨g, 5, none⟩ = some v5 := by
  refine ⟨?_, ?_, ?_, ?_, ?_, ?_⟩ <;> (rw [row_cell h]; rfl)

theorem new_row (w : World) (vs : Array Value) (t : TypeId) : (w.alloc (.cells vs t)).heap[w.heap.size]? = some (.cells vs t (0, 0)) := by
  show (w.heap.push _)[w.heap.size]? = _
  rw [Array.getElem?_push, if_pos rfl]
end Go.Proofs.YtnfnjhbaaefbpaaGreatDoor
