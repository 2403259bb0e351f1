/- What the round of the program's WholeOk needs: what a statement uses, and what stays where blocks that are no cells turn. -/
import Derived.Test.YtoinagefhbpakaaOwnLeave
import Derived.Test.YtoinagefhbpakaaOwnSpecW
namespace Go.Proofs.Ytoinagefhbpakaa
open Go.ChangeShapes Go.WideShapes Go.ChangeAt Go.RowKit Go.Shelf

/-- What is known of a statement that is visited. -/
def GThing (k x y _n _r : Int) : Prop := (k = 3 → 0 ≤ y ∧ y < 5) ∧ (k = 4 → 0 ≤ x ∧ x < 5) ∧ (k = 9 ∨ k = 10 → 0 ≤ x ∧ x < 2)

theorem atV_cases {k x y n r : Int} (h : GThing k x y n r) :
    (atV k x y = .tuple #[.int .i64 0, .bool false] ∧ ∀ (o : List Int) (r : Int), ownS o k x y r = true) ∨
    (∃ j : Nat, j < 5 ∧ atV k x y = .tuple #[.int .i64 (j : Int), .bool true] ∧ ∀ (o : List Int) (r : Int), ownS o k x y r = decide (o.getD j 0 = r)) := by
  obtain ⟨h3, h4, h9⟩ := h
  by_cases e3 : k = 3
  · subst e3
    obtain ⟨y0, y5⟩ := h3 rfl
    refine .inr ⟨y.toNat, by omega, ?_, fun o r => ?_⟩
    · simp [atV]; omega
    · have e : thing 3 x y = y := by simp [thing]
      unfold ownS
      rw [e, decide_eq_false (by omega), Bool.false_or]
  · by_cases e4 : k = 4
    · subst e4
      obtain ⟨x0, x5⟩ := h4 rfl
      refine .inr ⟨x.toNat, by omega, ?_, fun o r => ?_⟩
      · simp [atV]; omega
      · have e : thing 4 x y = x := by simp [thing]
        unfold ownS
        rw [e, decide_eq_false (by omega), Bool.false_or]
    · by_cases e9 : k = 9 ∨ k = 10
      · obtain ⟨x0, x2⟩ := h9 e9
        refine .inr ⟨(3 + x).toNat, by omega, ?_, fun o r => ?_⟩
        · have e : (((3 + x).toNat : Nat) : Int) = 3 + x := by omega
          rw [e]
          rcases e9 with rfl | rfl <;> simp [atV]
        · have e : thing k x y = 3 + x := by rcases e9 with rfl | rfl <;> simp [thing]
          unfold ownS
          rw [e, decide_eq_false (by omega), Bool.false_or]
      · refine .inl ⟨?_, fun o r => ?_⟩
        · simp only [not_or] at e9
          simp [atV, e3, e4, e9.1, e9.2]
        · have e : thing k x y = -1 := by
            simp only [not_or] at e9
            simp [thing, e3, e4, e9.1, e9.2]
          unfold ownS
          rw [e]; rfl

theorem okL_things (L : SL) : ∀ d r : Int, okL L d r = true → AllG GThing L r := by
  induction L with
  | nil => intro d r _ q hq; cases hq
  | cons k x y n B E R hB hE hR =>
    intro d r h q hq
    simp only [okL, Bool.and_eq_true] at h
    obtain ⟨⟨⟨h1, h2⟩, h3⟩, h4⟩ := h
    rcases List.mem_cons.1 hq with rfl | hq
    · exact thing_ops h1
    · rcases List.mem_append.1 hq with hq | hq
      · rcases List.mem_append.1 hq with hq | hq
        · exact hB _ _ h2 q hq
        · exact hE _ _ h3 q hq
      · exact hR _ _ h4 q hq

theorem okPr_things {Ls : List SL} (h : okPr Ls = true) (k : Nat) (hk : k < Ls.length) : AllG GThing (Ls[k]) (-1) := okL_things _ _ _ (okPr_get h hk)

/-- A block that lay ahead of B stays. -/
theorem ownFrom_at {β : Type} {B : Nat} (k : Nat) (o : Obj) (hk : k < B) : OwnFrom B (fun (_ : β) V => V.heap[k]? = some o) :=
  fun _ _ _ _ hs hg hr => (hg.block k (lt_heap hs) (fun e => by have := (hr k e.symm).1; omega)).trans hs
theorem ownFrom_marks {β : Type} {B : Nat} (Ds : List Nat) (o : Obj) (hk : ∀ D ∈ Ds, D < B) : OwnFrom B (fun (_ : β) V => ∀ D ∈ Ds, V.heap[D]? = some o) :=
  fun s X Y row hs hg hr D hD => ownFrom_at (β := β) D o (hk D hD) s X Y row (hs D hD) hg hr
/-- A row of cells stays. -/
theorem ownFrom_row {β : Type} {B : Nat} (f : β → Nat) (vs : β → Array Value) (t : TypeId) : OwnFrom B (fun (s : β) V => V.heap[f s]? = some (.cells (vs s) t (0, 0))) :=
  fun s X Y row hs hg hr => (hg.block (f s) (lt_heap hs) (fun e => by
    obtain ⟨_, o, ho, hc⟩ := hr _ e.symm
    rw [hs] at ho
    injection ho with ho
    subst ho
    simp [Obj.isCells] at hc)).trans hs

/-- .. also where some blocks are laid. -/
theorem ownFrom_laid {β : Type} {B : Nat} {I : β → World → Prop} (h : OwnFrom B I) {s : β} {w w' : World} (hl : Laid w w') (hs : I s w) : I s w' :=
  hl.prop (p := fun U => I s U) (fun _ q hU => h.alloc q hU) hs

/-- All that came is right. -/
theorem all_own {o : List Int} {L : SL} {ys : List (It GThing)} (h : ys.map It.key = flatL L (-1)) (hr : ∀ x ∈ ys, ownS o x.k x.x x.y x.r = true) : ownL o L (-1) = true := by
  rw [ownL_flat, ← h, List.all_map, List.all_eq_true]
  intro x hx
  exact hr x hx
/-- One that came is not right. -/
theorem not_own {o : List Int} {L : SL} {pre : List (It GThing)} (h : pre.map It.key <+: flatL L (-1)) (hr : ∃ x ∈ pre, ownS o x.k x.x x.y x.r = false) : ownL o L (-1) = false := by
  obtain ⟨x, hx, hf⟩ := hr
  obtain ⟨t, ht⟩ := h
  rw [ownL_flat, List.all_eq_false]
  refine ⟨x.key, ?_, by simp [It.key, hf]⟩
  rw [← ht]
  exact List.mem_append_left _ (List.mem_map.2 ⟨x, hx, rfl⟩)
end Go.Proofs.Ytoinagefhbpakaa
