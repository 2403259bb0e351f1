/- Instructions as function values: what one answers when it is called, and what it needs of memory. -/
import Derived.Test.YtnfnjhbaaefbpaaGreatDoorCodePure
import Derived.Test.YtnfnjhbaaefbpaaGreatDoorNew
import Derived.Test.YtnfnjhbaaefbpaaGreatDoorFl
import Derived.Test.YtnfnjhbaaefbpaaGreatDoorApp
import Derived.Laws.EntriesVeiled
namespace Go.Proofs.YtnfnjhbaaefbpaaGreatDoor
open Go.ChangeShapes Go.WideShapes Go.ChangeAt Go.RowKit

/-- An instruction that is kept whole: its block. -/
def kept1 (g : Nat) : Value := .func (Fn.func 36) #[] #[.pointer (some ⟨g, 0, none⟩)]
/-- A jump whose target is read when it is called. -/
def jump1 (go ga gt : Nat) : Value := .func (Fn.func 76) #[] #[.pointer (some ⟨go, 0, none⟩), .pointer (some ⟨ga, 0, none⟩), .pointer (some ⟨gt, 0, none⟩)]

/-- A jump's own blocks, from s on; p is the block of its target. -/
def EvJ (w : World) (s : Nat) (f : Value) (op a : Int) (p : Nat) : Prop :=
  ∃ go ga gt : Nat, s ≤ go ∧ s ≤ ga ∧ s ≤ gt ∧ f = jump1 go ga gt ∧ w.heap[go]? = some (.cells #[.int .i64 op] 3 (0, 0)) ∧ w.heap[ga]? = some (.cells #[.int .i64 a] 3 (0, 0)) ∧ w.heap[gt]? = some (.cells #[.pointer (some ⟨p, 0, none⟩)] 71 (0, 0))

/-- The function value f, called, answers this instruction; its blocks lie from s on. -/
def EvF (w : World) (s : Nat) (f : Value) (op a b n : Int) : Prop :=
  (∃ g : Nat, s ≤ g ∧ f = kept1 g ∧ w.heap[g]? = some (.cells #[.int .i64 op, .int .i64 a, .int .i64 b, .int .i64 n] 34 (0, 0))) ∨
  (b = 0 ∧ ∃ p : Nat, s ≤ p ∧ EvJ w s f op a p ∧ w.heap[p]? = some (.cells #[.int .i64 n] 3 (0, 0)))

/-- All of them, one after the other. -/
def EvL (w : World) (s : Nat) : List Value → List Int → Prop
  | [], [] => True
  | f :: fs, op :: a :: b :: n :: r => EvF w s f op a b n ∧ EvL w s fs r
  | _, _ => False

/-- Blocks that are no rows of function values, but for cb, are as they were. -/
structure KF (cb : Nat) (w w' : World) : Prop where
  size : w.heap.size ≤ w'.heap.size
  keep : ∀ b vs t z, b ≠ cb → t ≠ 62 → w.heap[b]? = some (.cells vs t z) → w'.heap[b]? = some (.cells vs t z)

theorem KF.refl (cb : Nat) (w : World) : KF cb w w := ⟨Nat.le_refl _, fun _ _ _ _ _ _ h => h⟩
theorem KF.trans {cb : Nat} {a b c : World} (h : KF cb a b) (k : KF cb b c) : KF cb a c := ⟨Nat.le_trans h.size k.size, fun x vs t z h1 h2 h3 => k.keep x vs t z h1 h2 (h.keep x vs t z h1 h2 h3)⟩
theorem KF.alloc (cb : Nat) (w : World) (o : Obj) : KF cb w (w.alloc o) := ⟨by simp, fun b _ _ _ _ _ hc => (Below.heap_alloc w o b (Array.getElem?_eq_some_iff.1 hc).1).trans hc⟩
theorem KF.setCell (cb i : Nat) (w : World) (v : Value) : KF cb w (w.setCell ⟨cb, i, none⟩ v) := ⟨by simp [World.setCell], fun b _ _ _ hb _ hc => (Below.heap_setCell w ⟨cb, i, none⟩ v b hb).trans hc⟩
theorem KF.of_below {cb : Nat} {w w' : World} (h : Below w.heap.size w w') : KF cb w w' := ⟨h.size, fun b _ _ _ _ _ hc => (h.block b (Array.getElem?_eq_some_iff.1 hc).1).trans hc⟩
/-- An append to a row of function values. -/
theorem KF.grown {cb : Nat} {w w' : World} {N : Nat} {v : Value} {m : Nat} {fs : List Value} (h : w.grownBy w' v.ownBlock) (ho : w.ownsRow N 62 1 v m fs) : KF cb w w' :=
  ⟨h.size, fun b vs t z _ ht hc => by
    rw [h.block b (Array.getElem?_eq_some_iff.1 hc).1 ?_]; exact hc
    intro e
    obtain ⟨_, ⟨rfl, _⟩ | ⟨g, cap, cur, rfl, _, hrow, _⟩⟩ := ho
    · simp [Value.ownBlock] at e
    · simp [Value.ownBlock] at e
      subst e
      rw [hrow] at hc
      injection hc with hc
      injection hc with _ h2 _
      exact ht h2.symm⟩

theorem EvJ.keep {w w' : World} {s p : Nat} {f : Value} {op a : Int} (h : EvJ w s f op a p) (hk : ∀ b vs t z, s ≤ b → t ≠ 62 → w.heap[b]? = some (.cells vs t z) → w'.heap[b]? = some (.cells vs t z)) : EvJ w' s f op a p := by
  obtain ⟨go, ga, gt, h1, h2, h3, rfl, h4, h5, h6⟩ := h
  exact ⟨go, ga, gt, h1, h2, h3, rfl, hk _ _ _ _ h1 (by decide) h4, hk _ _ _ _ h2 (by decide) h5, hk _ _ _ _ h3 (by decide) h6⟩
theorem EvF.keep {w w' : World} {s : Nat} {f : Value} {op a b n : Int} (h : EvF w s f op a b n) (hk : ∀ b vs t z, s ≤ b → t ≠ 62 → w.heap[b]? = some (.cells vs t z) → w'.heap[b]? = some (.cells vs t z)) : EvF w' s f op a b n := by
  rcases h with ⟨g, h1, rfl, h2⟩ | ⟨hb, p, h1, h2, h3⟩
  · exact .inl ⟨g, h1, rfl, hk _ _ _ _ h1 (by decide) h2⟩
  · exact .inr ⟨hb, p, h1, h2.keep hk, hk _ _ _ _ h1 (by decide) h3⟩
theorem EvL.keep {w w' : World} {s : Nat} (hk : ∀ b vs t z, s ≤ b → t ≠ 62 → w.heap[b]? = some (.cells vs t z) → w'.heap[b]? = some (.cells vs t z)) : ∀ {fs : List Value} {q : List Int}, EvL w s fs q → EvL w' s fs q
  | [], [], _ => trivial
  | _ :: _, _ :: _ :: _ :: _ :: _, h => ⟨h.1.keep hk, EvL.keep hk h.2⟩
theorem EvJ.mono {w : World} {s s' p : Nat} {f : Value} {op a : Int} (h : EvJ w s f op a p) (hs : s' ≤ s) : EvJ w s' f op a p := by
  obtain ⟨go, ga, gt, h1, h2, h3, h4⟩ := h
  exact ⟨go, ga, gt, by omega, by omega, by omega, h4⟩
theorem EvF.mono {w : World} {s s' : Nat} {f : Value} {op a b n : Int} (h : EvF w s f op a b n) (hs : s' ≤ s) : EvF w s' f op a b n := by
  rcases h with ⟨g, h1, rfl, h2⟩ | ⟨hb, p, h1, h2, h3⟩
  · exact .inl ⟨g, by omega, rfl, h2⟩
  · exact .inr ⟨hb, p, by omega, h2.mono hs, h3⟩
theorem EvL.mono {w : World} {s s' : Nat} (hs : s' ≤ s) : ∀ {fs : List Value} {q : List Int}, EvL w s fs q → EvL w s' fs q
  | [], [], _ => trivial
  | _ :: _, _ :: _ :: _ :: _ :: _, h => ⟨h.1.mono hs, EvL.mono hs h.2⟩
theorem EvL.app {w : World} {s : Nat} : ∀ {fs gs : List Value} {q r : List Int}, EvL w s fs q → EvL w s gs r → EvL w s (fs ++ gs) (q ++ r)
  | [], _, [], _, _, k => k
  | _ :: _, _, _ :: _ :: _ :: _ :: _, _, h, k => ⟨h.1, EvL.app h.2 k⟩
theorem EvL.one {w : World} {s : Nat} {f : Value} {op a b n : Int} (h : EvF w s f op a b n) : EvL w s [f] [op, a, b, n] := ⟨h, trivial⟩
theorem EvL.len {w : World} {s : Nat} : ∀ {fs : List Value} {q : List Int}, EvL w s fs q → q.length = fs.length * 4
  | [], [], _ => rfl
  | _ :: fs, _ :: _ :: _ :: _ :: _, h => by have := EvL.len h.2; simp only [List.length_cons]; omega
theorem EvL.at {w : World} {s : Nat} : ∀ {fs : List Value} {q : List Int} (k : Nat), EvL w s fs q → k < fs.length → ∃ f, fs[k]? = some f ∧ EvF w s f (q.getD (k * 4) 0) (q.getD (k * 4 + 1) 0) (q.getD (k * 4 + 2) 0) (q.getD (k * 4 + 3) 0)
  | [], [], _, _, hk => by simp at hk
  | f :: fs, _ :: _ :: _ :: _ :: r, 0, h, _ => ⟨f, rfl, h.1⟩
  | f :: fs, _ :: _ :: _ :: _ :: r, k + 1, h, hk => by
    obtain ⟨g, h1, h2⟩ := EvL.at k h.2 (by simpa using hk)
    refine ⟨g, by simpa using h1, ?_⟩
    have e : (k + 1) * 4 = k * 4 + 1 + 1 + 1 + 1 := by omega
    rw [e]
    exact h2

/-- Blocks from s on that are no rows of function values are as they were. -/
def KG (s : Nat) (w w' : World) : Prop := ∀ b vs t z, s ≤ b → t ≠ 62 → w.heap[b]? = some (.cells vs t z) → w'.heap[b]? = some (.cells vs t z)
theorem KF.kg {cb s : Nat} {w w' : World} (h : KF cb w w') (hs : cb < s) : KG s w w' := fun b vs t z hb ht hc => h.keep b vs t z (by omega) ht hc
theorem KG.trans {s : Nat} {a b c : World} (h : KG s a b) (k : KG s b c) : KG s a c := fun x vs t z h1 h2 h3 => k x vs t z h1 h2 (h x vs t z h1 h2 h3)
theorem KG.set {s p i : Nat} (w : World) (v : Value) (h : p < s) : KG s w (w.setCell ⟨p, i, none⟩ v) := fun b _ _ _ hb _ hc => (Below.heap_setCell w ⟨p, i, none⟩ v b (fun e => by have : b = p := e; omega)).trans hc
theorem EvL.kg {w w' : World} {s : Nat} {fs : List Value} {q : List Int} (h : EvL w s fs q) (k : KG s w w') : EvL w' s fs q := h.keep k
theorem EvJ.kg {w w' : World} {s p : Nat} {f : Value} {op a : Int} (h : EvJ w s f op a p) (k : KG s w w') : EvJ w' s f op a p := h.keep k

/-- What there is while code is made: the compiler's block holds the row of function values, which the call owns. -/
structure Emit (w : World) (N cb : Nat) (fs : List Value) : Prop where
  row : ∃ v, w.heap[cb]? = some (.cells #[v] 39 (0, 0)) ∧ w.ownsRow N 62 1 v fs.length fs
  low : N ≤ cb

theorem Emit.cells {w : World} {N cb : Nat} {fs : List Value} (h : Emit w N cb fs) : ∃ v, w.cell? ⟨cb, 0, none⟩ = some v ∧ w.frozen? ⟨cb, 0, none⟩ = false ∧ w.heap[cb]? = some (.cells #[v] 39 (0, 0)) ∧ w.ownsRow N 62 1 v fs.length fs ∧ cb < w.heap.size := by
  obtain ⟨v, h1, h2⟩ := h.row
  exact ⟨v, by rw [row_cell h1]; rfl, row_frozen h1 0, h1, h2, (Array.getElem?_eq_some_iff.1 h1).1⟩
/-- It stays where its two blocks do. -/
theorem Emit.below {w w' : World} {N cb : Nat} {fs : List Value} (h : Emit w N cb fs) (hb : Below w.heap.size w w') : Emit w' N cb fs := by
  obtain ⟨v, _, _, h1, h2, h3⟩ := h.cells
  exact ⟨⟨v, by rw [hb.block _ h3]; exact h1, own_below h2 hb⟩, h.low⟩
theorem Emit.set {w : World} {N cb p : Nat} {fs : List Value} (h : Emit w N cb fs) {vs : Array Value} (hp : w.heap[p]? = some (.cells vs 3 (0, 0))) (u : Value) : Emit (w.setCell ⟨p, 0, none⟩ u) N cb fs := by
  obtain ⟨v, _, _, h1, h2, h3⟩ := h.cells
  have hne : cb ≠ p := fun e => by subst e; rw [h1] at hp; simp at hp
  refine ⟨⟨v, by rw [row_other hne]; exact h1, own_block h2 fun b hb => row_other (fun e => ?_) u⟩, h.low⟩
  subst e
  obtain ⟨_, ⟨rfl, _⟩ | ⟨g, cap, cur, rfl, _, hrow, _⟩⟩ := h2
  · simp [Value.ownBlock] at hb
  · simp [Value.ownBlock] at hb
    subst hb
    rw [hrow] at hp
    simp at hp
/-- The compiler's block is no row of function values. -/
theorem own_ne {w : World} {N cb m : Nat} {v u : Value} {fs : List Value} (ho : w.ownsRow N 62 1 v m fs) (h : w.heap[cb]? = some (.cells #[u] 39 (0, 0))) : some cb ≠ v.ownBlock := by
  intro e
  obtain ⟨_, ⟨rfl, _⟩ | ⟨g, cap, cur, rfl, _, hrow, _⟩⟩ := ho
  · simp [Value.ownBlock] at e
  · simp [Value.ownBlock] at e
    subst e
    rw [hrow] at h
    simp at h
theorem own_slice {w : World} {N z m : Nat} {e : TypeId} {v : Value} {fs : List Value} (ho : w.ownsRow N e z v m fs) : ∃ A c, v = .slice A m c := by
  obtain ⟨_, ⟨rfl, h0⟩ | ⟨g, cap, cur, rfl, _⟩⟩ := ho
  · exact ⟨none, 0, by rw [h0]⟩
  · exact ⟨_, _, rfl⟩
theorem info_fn : (Tryz.prog.info? 62).map (fun i => (i.zero, i.size, i.bytes)) = some (some .nilFunc, 1, 8) := by kernel_rfl
end Go.Proofs.YtnfnjhbaaefbpaaGreatDoor
