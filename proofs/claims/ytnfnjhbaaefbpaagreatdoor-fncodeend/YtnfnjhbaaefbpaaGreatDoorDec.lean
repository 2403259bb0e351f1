/- Lists of statements that a call builds by append: the cells of the row that it owns, read as a list. -/
import Derived.Test.YtnfnjhbaaefbpaaGreatDoorNew
import Derived.OwnWalk
import Derived.Laws.OwnMore
namespace Go.Proofs.YtnfnjhbaaefbpaaGreatDoor
open Go.ChangeShapes Go.WideShapes Go.ChangeAt Go.RowKit

/-- One list behind the other. -/
def SL.app : SL → SL → SL
  | .nil, M => M
  | .cons k x y n B E R, M => .cons k x y n B E (R.app M)

theorem SL.len_app (L M : SL) : (L.app M).len = L.len + M.len := by
  induction L with
  | nil => simp [SL.app, SL.len]
  | cons k x y n B E R _ _ ih => simp only [SL.app, SL.len, ih]; omega
theorem SL.size_app (L M : SL) : (L.app M).size = L.size + M.size := by
  induction L with
  | nil => simp [SL.app, SL.size]
  | cons k x y n B E R _ _ ih => simp only [SL.app, SL.size, ih]; omega
theorem SL.app_nil (L : SL) : L.app .nil = L := by
  induction L with
  | nil => rfl
  | cons k x y n B E R _ _ ih => simp only [SL.app, ih]

/-- The cells xs read as L; what is in bodies lies in blocks of S. -/
def Dec (w : World) (S : Nat → Prop) : SL → List Value → Prop
  | .nil, xs => xs = []
  | .cons k x y n B E R, xs => ∃ (A : Option Addr) (c : Nat) (A' : Option Addr) (c' : Nat) (ys : List Value), xs = .int .i64 k :: .int .i64 x :: .int .i64 y :: .int .i64 n :: .slice A B.len c :: .slice A' E.len c' :: ys ∧
      SlP w S B A B.len c ∧ SlP w S E A' E.len c' ∧ Dec w S R ys

theorem Dec.keep {w w' : World} {S : Nat → Prop} (hc : ∀ p : Addr, S p.block → w'.cell? p = w.cell? p) {L : SL} : ∀ {xs : List Value}, Dec w S L xs → Dec w' S L xs := by
  induction L with
  | nil => intro xs h; exact h
  | cons k x y n B E R _ _ ih =>
    rintro xs ⟨A, c, A', c', ys, rfl, hB, hE, hR⟩
    exact ⟨A, c, A', c', ys, rfl, hB.keep hc, hE.keep hc, ih hR⟩
theorem Dec.mono {w : World} {S T : Nat → Prop} (h : ∀ b, S b → T b) {L : SL} : ∀ {xs : List Value}, Dec w S L xs → Dec w T L xs := by
  induction L with
  | nil => intro xs h; exact h
  | cons k x y n B E R _ _ ih =>
    rintro xs ⟨A, c, A', c', ys, rfl, hB, hE, hR⟩
    exact ⟨A, c, A', c', ys, rfl, hB.mono h, hE.mono h, ih hR⟩
theorem Dec.length {w : World} {S : Nat → Prop} {L : SL} : ∀ {xs : List Value}, Dec w S L xs → xs.length = L.len * 6 := by
  induction L with
  | nil => intro xs h; subst h; rfl
  | cons k x y n B E R _ _ ih =>
    rintro xs ⟨A, c, A', c', ys, rfl, _, _, hR⟩
    simp only [List.length_cons, SL.len, ih hR]; omega
theorem Dec.app {w : World} {S : Nat → Prop} {L M : SL} : ∀ {xs ys : List Value}, Dec w S L xs → Dec w S M ys → Dec w S (L.app M) (xs ++ ys) := by
  induction L with
  | nil => intro xs ys h k; subst h; simpa [SL.app] using k
  | cons k x y n B E R _ _ ih =>
    rintro xs ys ⟨A, c, A', c', zs, rfl, hB, hE, hR⟩ hM
    exact ⟨A, c, A', c', zs ++ ys, by simp, hB, hE, ih hR hM⟩

/-- Cells one behind the other in block g, read as a list. -/
theorem Dec.atP {w : World} {S : Nat → Prop} {g : Nat} (hg : S g) {L : SL} : ∀ {o : Nat} {xs : List Value}, Dec w S L xs → (∀ j, j < xs.length → w.cell? ⟨g, o + j, none⟩ = xs[j]?) → AtP w S L ⟨g, o, none⟩ := by
  induction L with
  | nil => intro o xs _ _; trivial
  | cons k x y n B E R _ _ ih =>
    rintro o xs ⟨A, c, A', c', ys, rfl, hB, hE, hR⟩ hc
    have hc0 := hc 0 (by simp)
    have hc1 := hc 1 (by simp)
    have hc2 := hc 2 (by simp)
    have hc3 := hc 3 (by simp)
    have hc4 := hc 4 (by simp)
    have hc5 := hc 5 (by simp)
    simp at hc0 hc1 hc2 hc3 hc4 hc5
    refine ⟨hg, hc0, hc1, hc2, hc3, ⟨A, c, hc4, hB.le, hB.top, hB.nil, hB.at_⟩, ⟨A', c', hc5, hE.le, hE.top, hE.nil, hE.at_⟩, ?_⟩
    exact ih (o := o + 6) hR fun j hj => by
      have := hc (j + 6) (by simp; omega)
      rw [show o + (j + 6) = o + 6 + j from by omega] at this
      simpa using this

/-- A row that the call owns, read as a slice. -/
theorem owns_slP {w : World} {base : Nat} {e : TypeId} {v : Value} {n : Nat} {xs : List Value} {S : Nat → Prop} {L : SL} (ho : w.ownsRow base e 6 v n xs) (hd : Dec w S L xs) (hS : ∀ b, v.ownBlock = some b → S b) :
    ∃ (A : Option Addr) (c : Nat), v = .slice A L.len c ∧ SlP w S L A L.len c := by
  obtain ⟨hl, hv⟩ := ho
  have hn : n = L.len := by have := hd.length; omega
  subst hn
  rcases hv with ⟨rfl, h0⟩ | ⟨g, cap, cur, rfl, _, hrow, hnc, hcm, hcs, hcur⟩
  · obtain rfl := SL.nil_of_len h0
    exact ⟨none, 0, rfl, rfl, Nat.le_refl _, Nat.zero_le _, fun _ => rfl, fun p hp => by cases hp⟩
  · refine ⟨some ⟨g, 0, none⟩, cap, rfl, rfl, hnc, hcm, (fun h => by cases h), fun p hp => ?_⟩
    obtain rfl : p = ⟨g, 0, none⟩ := by injection hp with h; exact h.symm
    refine hd.atP (hS g rfl) fun j hj => ?_
    rw [Nat.zero_add, row_cell hrow, ← hcur, List.getElem?_take, if_pos (by rw [hl] at hj; exact hj), Array.getElem?_toList]

theorem own_blocks {w : World} {base : Nat} {e : TypeId} {size : Nat} {v : Value} {n : Nat} {xs : List Value} (ho : w.ownsRow base e size v n xs) {b : Nat} (hb : v.ownBlock = some b) : base ≤ b ∧ b < w.heap.size := by
  obtain ⟨_, ⟨rfl, _⟩ | ⟨g, cap, cur, rfl, hg, hrow, _⟩⟩ := ho
  · simp [Value.ownBlock] at hb
  · simp [Value.ownBlock] at hb
    subst hb
    exact ⟨hg, (Array.getElem?_eq_some_iff.1 hrow).1⟩

/-- What lies in blocks of S stays where none of these is the one that was written. -/
theorem grown_keep {w w' : World} {row : Option Nat} {S : Nat → Prop} (hg : w.grownBy w' row) (hS : ∀ b, S b → b < w.heap.size ∧ some b ≠ row) : ∀ p : Addr, S p.block → w'.cell? p = w.cell? p :=
  fun p hp => World.cell?_of_block (hg.block p.block (hS _ hp).1 (hS _ hp).2)
end Go.Proofs.YtnfnjhbaaefbpaaGreatDoor
