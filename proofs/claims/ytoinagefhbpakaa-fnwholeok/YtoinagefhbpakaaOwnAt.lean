/- What a statement uses, as the program says it. -/
import Derived.Test.YtoinagefhbpakaaOwnPure
import Derived.Test.YtoinagefhbpakaaRoomIn
import Derived.Test.YtoinagefhbpakaaCount
namespace Go.Proofs.Ytoinagefhbpakaa
open Go.ChangeShapes Go.WideShapes Go.ChangeAt Go.RowKit Go.Shelf

attribute [local go_sem] Oper.semAt_some

/-- The two answers of usedCell, of ownedAt. -/
def useV (k x y : Int) : Value := .tuple #[.int .i64 (if k = 3 then y else if k = 4 then x else 0), .bool (decide (k = 3 ∨ k = 4))]
def atV (k x y : Int) : Value := .tuple #[.int .i64 (if k = 3 then y else if k = 4 then x else if k = 9 ∨ k = 10 then 3 + x else 0), .bool (decide (k = 3 ∨ k = 4 ∨ k = 9 ∨ k = 10))]

theorem usedCell_in (F : Fence) (n : Nat) (h : F.fn 61) (hro : F.round = none) (k x y v : Int) (vB vE : Value) (w : World) :
    CallsIn F n Try.prog 61 #[.agg #[.int .i64 k, .int .i64 x, .int .i64 y, .int .i64 v, vB, vE]] w fun e w' => e = .returned (useV k x y) ∧ w.alloc (.cells #[.int .i64 k, .int .i64 x, .int .i64 y, .int .i64 v, vB, vE] 65) = w' := by
  by_cases h3 : k = 3
  · subst h3
    refine callsIn_of_wp Try.func61 rfl h ?_ hro
    simp only [Try.ntmps61, List.size_toArray, List.length_cons, List.length_nil, Nat.reduceAdd, Nat.reduceSub, Array.replicate_succ, Array.replicate_zero, List.push_toArray, List.append_toArray, List.nil_append, List.cons_append]
    gi_wp2
    go_ret2
    exact ⟨rfl, rfl⟩
  · by_cases h4 : k = 4
    · subst h4
      refine callsIn_of_wp Try.func61 rfl h ?_ hro
      simp only [Try.ntmps61, List.size_toArray, List.length_cons, List.length_nil, Nat.reduceAdd, Nat.reduceSub, Array.replicate_succ, Array.replicate_zero, List.push_toArray, List.append_toArray, List.nil_append, List.cons_append]
      gi_wp2
      go_ret2
      exact ⟨rfl, rfl⟩
    · have H := Lib.hid (show useV k x y = .tuple #[.int .i64 0, .bool false] from by unfold useV; simp [h3, h4])
      refine callsIn_of_wp Try.func61 rfl h ?_ hro
      simp only [Try.ntmps61, List.size_toArray, List.length_cons, List.length_nil, Nat.reduceAdd, Nat.reduceSub, Array.replicate_succ, Array.replicate_zero, List.push_toArray, List.append_toArray, List.nil_append, List.cons_append]
      gi_wp2
      go_ret2
      exact ⟨by rw [H.out]; rfl, rfl⟩

/-- Some blocks are laid, nothing else. -/
inductive Laid : World → World → Prop
  | none (w : World) : Laid w w
  | one {w w' : World} (o : Obj) : Laid (w.alloc o) w' → Laid w w'

theorem Laid.under {N : Nat} {a w w' : World} (h : Laid w w') : Below N a w → N ≤ w.heap.size → Below N a w' := by
  induction h with
  | none w => intro hb _; exact hb
  | one o _ ih => intro hb hN; exact ih (hb.alloc hN o) (by simp; omega)
theorem Laid.prop {p : World → Prop} (hp : ∀ W o, p W → p (W.alloc o)) {w w' : World} (h : Laid w w') : p w → p w' := by
  induction h with
  | none w => exact id
  | one o _ ih => exact fun hw => ih (hp _ o hw)
theorem Laid.keptC (g : Nat) {w w' : World} (h : Laid w w') : KeptC g w w' := by
  induction h with
  | none w => exact KeptC.refl _ _
  | one o _ ih => exact (KeptC.alloc g _ o).trans ih
theorem Laid.heap {w w' : World} (h : Laid w w') : ∀ (b : Nat) (o : Obj), w.heap[b]? = some o → w'.heap[b]? = some o := by
  induction h with
  | none w => intro b o h; exact h
  | one q _ ih => intro b o h; exact ih b o ((Below.heap_alloc _ _ _ (Array.getElem?_eq_some_iff.1 h).1).trans h)
theorem Laid.size {w w' : World} (h : Laid w w') : w.heap.size ≤ w'.heap.size := by
  induction h with
  | none w => exact Nat.le_refl _
  | one o _ ih => simp at ih; omega
theorem Laid.trans {w w1 w2 : World} (h : Laid w w1) (k : Laid w1 w2) : Laid w w2 := by
  induction h with
  | none w => exact k
  | one o _ ih => exact .one o (ih k)
theorem Laid.keepsFrom (B : Nat) {w w' : World} (h : Laid w w') : KeepsFrom B w w' := ⟨h.size, fun k o _ hk _ => h.heap k o hk⟩
theorem Laid.cell {w w' : World} (h : Laid w w') {p : Addr} {v : Value} (hc : w.cell? p = some v) : w'.cell? p = some v := by
  obtain ⟨o, ho, _⟩ := cells_of_cell hc
  rw [World.cell?_of_block (w := w) (by rw [h.heap _ _ ho, ho])]; exact hc

theorem ownedAt_in (F : Fence) (hd : F.depth = none) (n : Nat) (h : F.fn 47) (hu : F.fn 61) (hro : F.round = none) (k x y v : Int) (vB vE : Value) (w : World) (hx : k = 9 ∨ k = 10 → 0 ≤ x ∧ x < 2) :
    CallsIn F n Try.prog 47 #[.agg #[.int .i64 k, .int .i64 x, .int .i64 y, .int .i64 v, vB, vE]] w fun e w' => e = .returned (atV k x y) ∧ Laid w w' := by
  have hdd : ∀ k : Nat, (F.depth.isSome = true → 1 ≤ k) := fun k h => by rw [hd] at h; cases h
  by_cases h9 : k = 9
  · subst h9
    obtain ⟨x0, x1⟩ := hx (.inl rfl)
    clear hx
    refine callsIn_of_wp Try.func47 rfl h ?_ hro
    simp only [Try.ntmps47, List.size_toArray, List.length_cons, List.length_nil, Nat.reduceAdd, Nat.reduceSub, Array.replicate_succ, Array.replicate_zero, List.push_toArray, List.append_toArray, List.nil_append, List.cons_append]
    gi_wp2
    go_ret2
    exact ⟨rfl, .one _ (.none _)⟩
  · by_cases h10 : k = 10
    · subst h10
      obtain ⟨x0, x1⟩ := hx (.inr rfl)
      clear hx
      refine callsIn_of_wp Try.func47 rfl h ?_ hro
      simp only [Try.ntmps47, List.size_toArray, List.length_cons, List.length_nil, Nat.reduceAdd, Nat.reduceSub, Array.replicate_succ, Array.replicate_zero, List.push_toArray, List.append_toArray, List.nil_append, List.cons_append]
      gi_wp2
      go_ret2
      exact ⟨rfl, .one _ (.none _)⟩
    · clear hx
      have H := Lib.hid (show atV k x y = useV k x y from by unfold atV useV; simp [h9, h10])
      rw [H.out]
      clear H
      have k9 : (k == 9) = false := beq_eq_false_iff_ne.2 h9
      have k10 : (k == 10) = false := beq_eq_false_iff_ne.2 h10
      have hcu := fun W => usedCell_in F (n - 1) hu hro k x y v vB vE W
      unfold useV at hcu ⊢
      generalize (if k = 3 then y else if k = 4 then x else 0) = at0 at *
      generalize decide (k = 3 ∨ k = 4) = ok0 at *
      refine callsIn_of_wp Try.func47 rfl h ?_ hro
      simp only [Try.ntmps47, List.size_toArray, List.length_cons, List.length_nil, Nat.reduceAdd, Nat.reduceSub, Array.replicate_succ, Array.replicate_zero, List.push_toArray, List.append_toArray, List.nil_append, List.cons_append]
      gi_wp2_with ((try refine ⟨hdd _, ?_⟩); gi_at_call 61; refine (hcu _).mono ?_; rintro e w' ⟨rfl, rfl⟩)
      go_ret2
      exact ⟨rfl, .one _ (.one _ (.none _))⟩
end Go.Proofs.Ytoinagefhbpakaa
