/- Slices of records in memory as plain lists: a shape says what an element's cells read as; rows that are filled element by element. -/
import Derived.Test.YtoinagefhbpakaaFl
import Derived.Test.YtoinagefhbpakaaNew
namespace Go.Proofs.Ytoinagefhbpakaa
open Go.ChangeShapes Go.WideShapes Go.ChangeAt Go.RowKit

/-- What the z cells of a record say of memory: I w S vs x: the cells vs, with what lies behind them in blocks of S, read as x. -/
structure Shape (α : Type) where
  z : Nat
  I : World → (Nat → Prop) → List Value → α → Prop
  len : ∀ {w : World} {S : Nat → Prop} {vs : List Value} {x : α}, I w S vs x → vs.length = z
  keep : ∀ {w w' : World} {S : Nat → Prop} {vs : List Value} {x : α}, I w S vs x → (∀ p : Addr, S p.block → w'.cell? p = w.cell? p) → I w' S vs x
  mono : ∀ {w : World} {S T : Nat → Prop} {vs : List Value} {x : α}, I w S vs x → (∀ b, S b → T b) → I w T vs x
  real : ∀ {w : World} {S : Nat → Prop} {vs : List Value} {x : α}, I w S vs x → I w (fun b => S b ∧ b < w.heap.size) vs x

/-- The slice of n records at A reads as Ls, in blocks of S. -/
structure Recs {α : Type} (s : Shape α) (w : World) (S : Nat → Prop) (Ls : List α) (A : Option Addr) (n c : Nat) : Prop where
  len : n = Ls.length
  le : n ≤ c
  top : c ≤ maxLen
  at_ : ∀ i (h : i < Ls.length), ∃ (a : Addr) (vs : List Value), A = some a ∧ S a.block ∧ (∀ q, q < s.z → w.cell? ((a.add (i * s.z)).add q) = vs[q]?) ∧ s.I w S vs (Ls[i])

variable {α : Type} {s : Shape α}

theorem Recs.keep {w w' : World} {S : Nat → Prop} {Ls : List α} {A : Option Addr} {n c : Nat} (h : Recs s w S Ls A n c) (hc : ∀ p : Addr, S p.block → w'.cell? p = w.cell? p) : Recs s w' S Ls A n c :=
  ⟨h.len, h.le, h.top, fun i hi => by
    obtain ⟨a, vs, rfl, ha, hq, hI⟩ := h.at_ i hi
    exact ⟨a, vs, rfl, ha, fun q h => by rw [hc _ (by rw [add_bl, add_bl]; exact ha)]; exact hq q h, s.keep hI hc⟩⟩
theorem Recs.mono {w : World} {S T : Nat → Prop} {Ls : List α} {A : Option Addr} {n c : Nat} (h : Recs s w S Ls A n c) (hT : ∀ b, S b → T b) : Recs s w T Ls A n c :=
  ⟨h.len, h.le, h.top, fun i hi => by
    obtain ⟨a, vs, rfl, ha, hq, hI⟩ := h.at_ i hi
    exact ⟨a, vs, rfl, hT _ ha, hq, s.mono hI hT⟩⟩
theorem Recs.real {w : World} {S : Nat → Prop} {Ls : List α} {A : Option Addr} {n c : Nat} (h : Recs s w S Ls A n c) (hz : 0 < s.z) : Recs s w (fun b => S b ∧ b < w.heap.size) Ls A n c :=
  ⟨h.len, h.le, h.top, fun i hi => by
    obtain ⟨a, vs, rfl, ha, hq, hI⟩ := h.at_ i hi
    have h0 := hq 0 hz
    rw [List.getElem?_eq_getElem (by rw [s.len hI]; exact hz)] at h0
    have := World.block_lt_of_cell? _ _ h0
    rw [add_bl, add_bl] at this
    exact ⟨a, vs, rfl, ⟨ha, this⟩, hq, s.real hI⟩⟩
theorem Recs.later {w w' : World} {S : Nat → Prop} {Ls : List α} {A : Option Addr} {n c : Nat} (h : Recs s w S Ls A n c) (hz : 0 < s.z) (hb : Below w.heap.size w w') : Recs s w' S Ls A n c :=
  ((h.real hz).keep fun _ hp => hb.cell hp.2).mono fun _ h => h.1
theorem Recs.max {w : World} {S : Nat → Prop} {Ls : List α} {A : Option Addr} {n c : Nat} (h : Recs s w S Ls A n c) : n ≤ 9223372036854775807 := by
  have := h.le; have := h.top; unfold maxLen at this; omega
theorem Recs.none (w : World) (S : Nat → Prop) (c : Nat) (hc : c ≤ maxLen) : Recs s w S [] Option.none 0 c := ⟨rfl, Nat.zero_le _, hc, fun i hi => by simp at hi⟩

theorem Shape.later (s : Shape α) {w w' : World} {S : Nat → Prop} {vs : List Value} {x : α} (h : s.I w S vs x) (hb : Below w.heap.size w w') : s.I w' S vs x :=
  s.mono (s.keep (s.real h) fun _ hp => hb.cell hp.2) fun _ h => h.1
/-- A cell that is there is there in a later world. -/
theorem cell_later {w w' : World} {p : Addr} {v : Value} (h : w.cell? p = some v) (hb : Below w.heap.size w w') : w'.cell? p = some v := by
  rw [hb.cell (World.block_lt_of_cell? _ _ h)]; exact h

/-- Cells of one row written one after the other. -/
def setCells (w : World) (g : Nat) : Nat → List Value → World
  | _, [] => w
  | o, v :: vs => setCells (w.setCell ⟨g, o, Option.none⟩ v) g (o + 1) vs

theorem setCells_row {g : Nat} {t : TypeId} (us : List Value) : ∀ {w : World} {o : Nat} {vs : Array Value}, w.heap[g]? = some (.cells vs t (0, 0)) →
    ∃ vs' : Array Value, (setCells w g o us).heap[g]? = some (.cells vs' t (0, 0)) ∧ vs'.size = vs.size ∧ (∀ q, q < us.length → o + q < vs.size → vs'[o + q]? = us[q]?) ∧ (∀ q, q < o ∨ o + us.length ≤ q → vs'[q]? = vs[q]?) := by
  induction us with
  | nil => intro w o vs h; exact ⟨vs, h, rfl, fun q hq => by simp at hq, fun _ _ => rfl⟩
  | cons v us ih =>
    intro w o vs h
    obtain ⟨vs', h1, h2, h3, h4⟩ := ih (o := o + 1) (row_set h v)
    rw [Array.size_setIfInBounds] at h2 h3
    refine ⟨vs', h1, h2, fun q hq hs => ?_, fun q hq => ?_⟩
    · cases q with
      | zero => rw [Nat.add_zero, h4 o (by omega), Array.getElem?_setIfInBounds]; simp; simpa using hs
      | succ q => rw [show o + (q + 1) = o + 1 + q from by omega, h3 q (by simpa using hq) (by omega)]; simp
    · rw [h4 q (by simp at hq; omega), Array.getElem?_setIfInBounds, if_neg (by simp at hq; omega)]
theorem setCells_size (us : List Value) : ∀ (w : World) (g o : Nat), (setCells w g o us).heap.size = w.heap.size := by
  induction us with
  | nil => intros; rfl
  | cons v us ih => intro w g o; rw [setCells, ih, size_set]
theorem setCells_other (us : List Value) : ∀ {w : World} {g o : Nat} {p : Addr}, p.block ≠ g → (setCells w g o us).cell? p = w.cell? p := by
  induction us with
  | nil => intros; rfl
  | cons v us ih => intro w g o p h; rw [setCells, ih h]; exact World.cell?_setCell_other _ _ _ _ (fun e => h (by rw [← e]))
theorem setCells_block (us : List Value) : ∀ {w : World} {g o b : Nat}, b ≠ g → (setCells w g o us).heap[b]? = w.heap[b]? := by
  induction us with
  | nil => intros; rfl
  | cons v us ih => intro w g o b h; rw [setCells, ih h]; exact row_other h v
theorem setCells_below (us : List Value) : ∀ {N : Nat} {a w : World} {g o : Nat}, Below N a w → N ≤ g → Below N a (setCells w g o us) := by
  induction us with
  | nil => intro N a w g o h _; exact h
  | cons v us ih => intro N a w g o h hg; exact ih (h.setCell (p := ⟨g, o, Option.none⟩) hg v) hg

/-- A row that is being filled: the first k records are in it. -/
structure Making (s : Shape α) (w0 : World) (t : TypeId) (Ls : List α) (k : Nat) (wr : World) : Prop where
  row : ∃ vs : Array Value, wr.heap[w0.heap.size]? = some (.cells vs t (0, 0)) ∧ vs.size = Ls.length * s.z ∧
    ∀ j (h : j < Ls.length), j < k → ∃ us : List Value, (∀ q, q < s.z → vs[j * s.z + q]? = us[q]?) ∧ s.I wr (fun b => w0.heap.size < b ∧ b < wr.heap.size) us (Ls[j])
  lt : w0.heap.size < wr.heap.size
  below : Below w0.heap.size w0 wr

theorem Making.start (s : Shape α) (w : World) (t : TypeId) (Ls : List α) (zs : Array Value) {n : Nat} (hn : n = Ls.length) : Making s w t Ls 0 (w.alloc (.cells (madeCells zs (n * s.z)) t)) :=
  ⟨⟨madeCells zs (n * s.z), new_row _ _ _, by rw [size_madeCells, hn], fun j _ hj => by omega⟩, by simp, (Below.refl _ _).alloc (Nat.le_refl _) _⟩

theorem Making.next {w0 wr w1 : World} {t : TypeId} {Ls : List α} {k : Nat} {us : List Value} (h : Making s w0 t Ls k wr) (hk : k < Ls.length) (hb : Below wr.heap.size wr w1) (hI : s.I w1 (fun b => wr.heap.size ≤ b ∧ b < w1.heap.size) us (Ls[k])) :
    Making s w0 t Ls (k + 1) (setCells w1 w0.heap.size (k * s.z) us) := by
  obtain ⟨vs, hrow, hvs, hel⟩ := h.row
  have hlt := h.lt
  have hz1 := hb.size
  have hrow1 : w1.heap[w0.heap.size]? = some (.cells vs t (0, 0)) := by rw [hb.block _ hlt]; exact hrow
  obtain ⟨vs', h1, h2, h3, h4⟩ := setCells_row us (o := k * s.z) hrow1
  have hlen := s.len hI
  have hoth : ∀ p : Addr, w0.heap.size < p.block → (setCells w1 w0.heap.size (k * s.z) us).cell? p = w1.cell? p := fun p hp => setCells_other us (by omega)
  have hmul : (k + 1) * s.z ≤ Ls.length * s.z := Nat.mul_le_mul_right _ hk
  rw [Nat.add_mul, Nat.one_mul] at hmul
  refine ⟨⟨vs', h1, by rw [h2, hvs], fun j hj hjk => ?_⟩, by rw [setCells_size]; omega, setCells_below us (h.below.trans (hb.mono (by omega))) (Nat.le_refl _)⟩
  by_cases e : j = k
  · subst e
    exact ⟨us, fun q hq => h3 q (by omega) (by omega), s.mono (s.keep hI fun p hp => hoth p (by omega)) fun b hb => ⟨by omega, by rw [setCells_size]; exact hb.2⟩⟩
  · obtain ⟨us', hq', hI'⟩ := hel j hj (by omega)
    have hmj : (j + 1) * s.z ≤ k * s.z := Nat.mul_le_mul_right _ (by omega)
    rw [Nat.add_mul, Nat.one_mul] at hmj
    exact ⟨us', fun q hq => by rw [h4 _ (.inl (by omega))]; exact hq' q hq, s.mono (s.keep hI' fun p hp => by rw [hoth p hp.1]; exact hb.cell hp.2) fun b hb => ⟨hb.1, by rw [setCells_size]; omega⟩⟩

theorem Making.next' {w0 wr w1 : World} {t : TypeId} {Ls : List α} {k : Nat} {us : List Value} {x : α} (h : Making s w0 t Ls k wr) (hk : k < Ls.length) (hx : Ls[k] = x) (hb : Below wr.heap.size wr w1) (hI : s.I w1 (fun b => wr.heap.size ≤ b ∧ b < w1.heap.size) us x) {m : Nat} (hm : k * s.z = m) :
    Making s w0 t Ls (k + 1) (setCells w1 w0.heap.size m us) := by
  subst hx hm
  exact h.next hk hb hI

/-- The place of the next record can be written. -/
theorem Making.place {w0 wr w1 : World} {t : TypeId} {Ls : List α} {k : Nat} (h : Making s w0 t Ls k wr) (hk : k < Ls.length) (hb : Below wr.heap.size wr w1) (q : Nat) (hq : q < s.z) :
    (∃ v, w1.cell? ⟨w0.heap.size, k * s.z + q, Option.none⟩ = some v) ∧ w1.frozen? ⟨w0.heap.size, k * s.z + q, Option.none⟩ = false := by
  obtain ⟨vs, hrow, hvs, _⟩ := h.row
  have hrow1 : w1.heap[w0.heap.size]? = some (.cells vs t (0, 0)) := by rw [hb.block _ h.lt]; exact hrow
  have hmul : (k + 1) * s.z ≤ Ls.length * s.z := Nat.mul_le_mul_right _ hk
  rw [Nat.add_mul, Nat.one_mul] at hmul
  refine ⟨⟨vs[k * s.z + q]'(by omega), by rw [row_cell hrow1]; exact Array.getElem?_eq_getElem _⟩, row_frozen hrow1 _⟩

theorem Making.done {w0 wr : World} {t : TypeId} {Ls : List α} (h : Making s w0 t Ls Ls.length wr) (hm : Ls.length ≤ maxLen) : Recs s wr (Born w0 wr) Ls (some ⟨w0.heap.size, 0, Option.none⟩) Ls.length Ls.length := by
  obtain ⟨vs, hrow, hvs, hel⟩ := h.row
  refine ⟨rfl, Nat.le_refl _, hm, fun i hi => ?_⟩
  obtain ⟨us, hq, hI⟩ := hel i hi hi
  refine ⟨_, us, rfl, ⟨Nat.le_refl _, h.lt⟩, fun q hq' => ?_, s.mono hI fun b hb => ⟨by omega, hb.2⟩⟩
  rw [add_ad, show (⟨w0.heap.size, 0, Option.none⟩ : Addr).add (i * s.z + q) = ⟨w0.heap.size, i * s.z + q, Option.none⟩ from by unfold Addr.add; split <;> simp_all, row_cell hrow]
  exact hq q hq'

theorem rowk {wi wj : World} {b : Nat} {vs : Array Value} {t : TypeId} (hb : Below wi.heap.size wi wj) (h : wi.heap[b]? = some (.cells vs t (0, 0))) : wj.heap[b]? = some (.cells vs t (0, 0)) := by
  rw [hb.block _ (Array.getElem?_eq_some_iff.1 h).1]; exact h
theorem row_first (w : World) (us vs : Array Value) (t u : TypeId) : ((w.alloc (.cells us t)).alloc (.cells vs u)).heap[w.heap.size]? = some (.cells us t (0, 0)) := by
  show ((w.heap.push _).push _)[w.heap.size]? = _
  rw [Array.getElem?_push, if_neg (by simp), Array.getElem?_push, if_pos rfl]
theorem row_second (w : World) (us vs : Array Value) (t u : TypeId) : ((w.alloc (.cells us t)).alloc (.cells vs u)).heap[w.heap.size + 1]? = some (.cells vs u (0, 0)) := by
  show ((w.heap.push _).push _)[w.heap.size + 1]? = _
  rw [Array.getElem?_push, if_pos (by simp)]
theorem row3_first (w : World) (us vs ws : Array Value) (t u v : TypeId) : (((w.alloc (.cells us t)).alloc (.cells vs u)).alloc (.cells ws v)).heap[w.heap.size]? = some (.cells us t (0, 0)) :=
  (blk3 (Below.refl _ _)).2.2.1
theorem row3_second (w : World) (us vs ws : Array Value) (t u v : TypeId) : (((w.alloc (.cells us t)).alloc (.cells vs u)).alloc (.cells ws v)).heap[w.heap.size + 1]? = some (.cells vs u (0, 0)) :=
  (blk3 (Below.refl _ _)).2.2.2.1
theorem row3_third (w : World) (us vs ws : Array Value) (t u v : TypeId) : (((w.alloc (.cells us t)).alloc (.cells vs u)).alloc (.cells ws v)).heap[w.heap.size + 1 + 1]? = some (.cells ws v (0, 0)) :=
  (blk3 (Below.refl _ _)).2.2.2.2
theorem keepO {w W : World} {m j : Nat} (v : Value) : ∀ p : Addr, (w.heap.size + 3 ≤ p.block ∧ p.block < m) → (W.setCell ⟨w.heap.size + 1 + 1, j, Option.none⟩ v).cell? p = W.cell? p :=
  fun p hp => World.cell?_setCell_other _ _ _ _ (fun e => by have := hp.1; rw [← e] at this; simp at this; omega)
theorem keepR {w W : World} {m j : Nat} (v : Value) : ∀ p : Addr, (w.heap.size + 3 ≤ p.block ∧ p.block < m) → (W.setCell ⟨w.heap.size + 1, j, Option.none⟩ v).cell? p = W.cell? p :=
  fun p hp => World.cell?_setCell_other _ _ _ _ (fun e => by have h := hp.1; rw [← e] at h; have h' : w.heap.size + 3 ≤ w.heap.size + 1 := h; omega)
end Go.Proofs.Ytoinagefhbpakaa
