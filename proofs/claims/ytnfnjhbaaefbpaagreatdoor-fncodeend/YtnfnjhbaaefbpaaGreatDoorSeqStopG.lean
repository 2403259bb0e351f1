/- A range over a function whose iterator changes cells between two rounds, its state going along; the body may leave. -/
import Derived.Test.YtnfnjhbaaefbpaaGreatDoorRows
import Derived.WalkKit
import Derived.ProofKit
import Derived.Below
import Derived.RangeFuncWrites
import Derived.RangeFuncLeaves
import Derived.RangeFuncBox
import Derived.Lib.Hide
namespace Go.Proofs.YtnfnjhbaaefbpaaGreatDoor
open Go.ChangeShapes Go.WideShapes Go.ChangeAt Go.RowKit

section
variable {F : Fence} {n : Nat} {P : Program}

/-- The contract: the iterator is in state s (Rd: what it reads: all of it from B on), and turns nothing below B; a round that goes on leaves its state as it was; one that leaves is the last. -/
def SeqStopG {α σ : Type} (F : Fence) (n : Nat) (P : Program) (g : Nat) (lb : Array Value) (encs : α → Array Value) (Rd : σ → World → Prop) (Ok : List α → α → σ → Prop) (S Sp : List α → Prop) (B : Nat) (w : World) : Prop :=
  ∀ (l : Nat) (J : List α → World → Prop) (Jx : List α → World → Prop) (W : World), B ≤ W.heap.size → Below w.heap.size w W →
    (∀ pre A C, J pre A → Below B A C → J pre C) →
    (∀ pre x s W1, Ok pre x s → J pre W1 → Rd s W1 → YieldAt F (n - 1) P l (encs x) W1 fun e W' => (e = .returned (.bool true) ∧ J (pre ++ [x]) W' ∧ Rd s W') ∨ (e = .returned (.bool false) ∧ Jx (pre ++ [x]) W')) →
    J [] W →
    CallsIn F n P g (#[.func (.yield l) #[] #[]] ++ lb) W fun e W' => (∃ v, e = .returned v) ∧ ((∃ xs, S xs ∧ J xs W') ∨ (∃ xs, Sp xs ∧ Jx xs W'))

/-- What a body leaves. -/
def gsPost {α σ : Type} (B : Nat) (I : List α → World → Prop) (Ix : Code → List α → World → Prop) (Rd : σ → World → Prop) (xs : List α) (s : σ) (W : World) : Exit → Act → World → Prop
  | .normal, _, W' => KeepsFrom B W W' ∧ I xs W' ∧ Rd s W'
  | .ret, _, W' => KeepsFrom B W W' ∧ Ix .ret xs W'
  | .exit id, _, W' => KeepsFrom B W W' ∧ Ix (.exit id) xs W'
  | .goto t, _, W' => KeepsFrom B W W' ∧ Ix (.goto t) xs W'
  | _, _, _ => False

theorem wpIn_rangeFunc_gs {α σ : Type} {g : Operand} {ps : Array Tmp} {assign body : Code} {Q : Exit → Act → World → Prop} {a : Act} {w : World}
    (hro : F.round = none) (h1 : 1 ≤ n) {gf : Nat} {lb : Array Value} (hg : a.eval g = .func (.func gf) #[] lb) (hFg : F.fn gf) (eg : ∀ args w, (callFunc gf args).run P w = .ok (.enter gf args) w)
    {encs : α → Array Value} {Rd : σ → World → Prop} {Ok : List α → α → σ → Prop} {S Sp : List α → Prop} {w0 : World}
    (hseq : SeqStopG F (n - 1) P gf lb encs Rd Ok S Sp (w.heap.size + 2) w0) (hb0 : Below w0.heap.size w0 w) (hps : ∀ x, (encs x).size = ps.size)
    (I : List α → World → Prop) (Ix : Code → List α → World → Prop) (hIA : ∀ xs W o, I xs W → I xs (W.alloc o))
    (hIP : ∀ xs W l o o', w.heap.size ≤ l → I xs W → W.heap[l]? = some o → o.isCells = false → I xs (W.putObj l o')) (hRP : ∀ s W l o o', w.heap.size ≤ l → Rd s W → W.heap[l]? = some o → o.isCells = false → Rd s (W.putObj l o'))
    (hXP : ∀ c xs W l o o', w.heap.size ≤ l → Ix c xs W → W.heap[l]? = some o → o.isCells = false → Ix c xs (W.putObj l o'))
    (hIM : ∀ pre A C, I pre A → Below (w.heap.size + 2) A C → I pre C) (h0 : I [] w) (a₁ : α → Act)
    (hassign : ∀ (l : Nat) (x : α) (W : World) (K : Act → World → Prop), K (a₁ x) W →
      assign.wpIn (F.inRound l) (n - 1 - 1) P (Exit.then K (fun _ _ _ => False)) { tmps := (ps.zip (encs x)).foldl (fun t (p, v) => t.setIfInBounds p v) a.tmps, defers := [] } W)
    (hbody : ∀ (l : Nat) (pre : List α) (x : α) (s : σ) (W : World), Ok pre x s → I pre W → Rd s W → body.wpIn (F.inRound l) (n - 1 - 1) P (gsPost w.heap.size I Ix Rd (pre ++ [x]) s W) (a₁ x) W)
    (hdone : ∀ (D : Nat) (xs : List α) (W : World), w.heap.size ≤ D → S xs → I xs W → W.heap[D]? = some (.deferred (some [])) → Q .normal { a with defers := { target := .collected D, args := #[] } :: a.defers } W)
    (hstop : ∀ (D : Nat) (c : Code) (xs : List α) (W : World), w.heap.size ≤ D → Sp xs → Ix c xs W → W.heap[D]? = some (.deferred (some [])) → c.wpIn F n P Q { a with defers := { target := .collected D, args := #[] } :: a.defers } W) :
    (Code.rangeFunc g ps assign body).wpIn F n P Q a w := by
  refine wpIn_rangeFunc fun fn hfn => ?_
  rw [hro]
  -- the loop's record R, the block for deferred calls C
  generalize hC : w.heap.size = C at *
  let R : LoopState → Option Code → Loop := fun st pe => { state := st, pending := pe, fn, tmps := a.tmps, params := ps, assign, body, defers := C }
  obtain ⟨U, hU⟩ : ∃ U, (w.alloc (.deferred (some []))).alloc (.loop (R .ready none)) = U := ⟨_, rfl⟩
  have hR0 : U.heap[C + 1]? = some (.loop (R .ready none)) := by
    have h := World.alloc_heap_new (w.alloc (.deferred (some []))) (.loop (R .ready none))
    rw [World.size_alloc, hU, hC] at h
    exact h
  have hC0 : U.heap[C]? = some (.deferred (some [])) := by
    rw [← hU]
    refine (Below.heap_alloc _ _ _ (by simp [hC])).trans ?_
    rw [← hC]
    exact World.alloc_heap_new w _
  have hB0 : Below w0.heap.size w0 U := by
    rw [← hU]
    exact (hb0.alloc hb0.size _).alloc (by rw [World.size_alloc]; have := hb0.size; omega) _
  have hI0 : I [] U := by rw [← hU]; exact hIA _ _ _ (hIA _ _ _ h0)
  have hUs : C + 2 ≤ U.heap.size := by rw [← hU]; simp [hC]
  refine ⟨C + 1, [{ target := .collected C, args := #[] }], U, { target := .fn (.func gf) lb, args := #[.func (.yield (C + 1)) #[] #[]] }, U, gf, #[.func (.yield (C + 1)) #[] #[]] ++ lb, U, ?_, ?_, ?_, ?_, fun _ => h1, ?_⟩
  · rw [← hU, ← hC]; subst hC; exact run_enterLoop_outer _ _ _ _ _
  · simp only [resolve, hg]
    simp [go_sem]
  · intro f' hf'
    simp [Target.leads] at hf'
    subst hf'
    exact hFg
  · simp [invoke, go_sem, eg]
  · refine (hseq (C + 1) (fun xs W => I xs W ∧ W.heap[C + 1]? = some (.loop (R .ready none)) ∧ W.heap[C]? = some (.deferred (some [])))
      (fun xs W => ∃ c, Ix c xs W ∧ W.heap[C + 1]? = some (.loop (R .done (some c))) ∧ W.heap[C]? = some (.deferred (some []))) U hUs hB0
      (fun pre A D ⟨hi, hl, hc⟩ hm => ⟨hIM _ _ _ hi hm, (hm.block _ (by omega)).trans hl, (hm.block _ (by omega)).trans hc⟩) ?_ ⟨hI0, hR0, hC0⟩).mono ?_
    · rintro pre x s W hok ⟨hi, hl, hc⟩ hr
      have hlt : C + 1 < W.heap.size := (Array.getElem?_eq_some_iff.1 hl).1
      refine ⟨fn, _, assign, body, run_yield (P := P) (args := encs x) hl (hps x), roundIn_of_wpIn hfn (hassign _ x W _ ⟨_, run_beginRound hl rfl, ?_⟩)⟩
      have hl2 : (W.putObj (C + 1) (.loop (R .busy none))).heap[C + 1]? = some (.loop (R .busy none)) := World.putObj_heap_same hlt
      have hc2 : (W.putObj (C + 1) (.loop (R .busy none))).heap[C]? = some (.deferred (some [])) := (World.putObj_heap_other (by omega)).trans hc
      refine wpIn_mono (hbody _ pre x s _ hok (hIP _ _ _ _ _ (by omega) hi hl rfl) (hRP _ _ _ _ _ (by omega) hr hl rfl)) ?_
      have left : ∀ (c : Code) (W3 : World), KeepsFrom C (W.putObj (C + 1) (.loop (R .busy none))) W3 → Ix c (pre ++ [x]) W3 →
          ∃ v W4, (Instr.endRound (C + 1) (some c)).run P W3 = .ok v W4 ∧ (((v = .bool true) ∧ (I (pre ++ [x]) W4 ∧ W4.heap[C + 1]? = some (.loop (R .ready none)) ∧ W4.heap[C]? = some (.deferred (some []))) ∧ Rd s W4) ∨ (v = .bool false ∧ ∃ c, Ix c (pre ++ [x]) W4 ∧ W4.heap[C + 1]? = some (.loop (R .done (some c))) ∧ W4.heap[C]? = some (.deferred (some [])))) := fun c W3 hk3 hi3 => by
        have hl3 := hk3.same _ _ (by omega) hl2 rfl
        have hl4 : C + 1 < W3.heap.size := (Array.getElem?_eq_some_iff.1 hl3).1
        exact ⟨_, _, run_endRound (P := P) (some c) hl3, .inr ⟨rfl, c, hXP _ _ _ _ _ _ (by omega) hi3 hl3 rfl, World.putObj_heap_same hl4, (World.putObj_heap_other (by omega)).trans (hk3.same _ _ (by omega) hc2 rfl)⟩⟩
      rintro e a3 W3 hp
      cases e with
      | normal =>
        obtain ⟨hk3, hi3, hr3⟩ := hp
        have hl3 := hk3.same _ _ (by omega) hl2 rfl
        have hl4 : C + 1 < W3.heap.size := (Array.getElem?_eq_some_iff.1 hl3).1
        exact ⟨_, _, run_endRound (P := P) none hl3, .inl ⟨rfl, ⟨hIP _ _ _ _ _ (by omega) hi3 hl3 rfl, World.putObj_heap_same hl4, (World.putObj_heap_other (by omega)).trans (hk3.same _ _ (by omega) hc2 rfl)⟩, hRP _ _ _ _ _ (by omega) hr3 hl3 rfl⟩⟩
      | ret =>
        obtain ⟨v, W4, h1, h2⟩ := left .ret W3 hp.1 hp.2
        exact ⟨_, _, h1, h2.imp (fun h => ⟨by rw [h.1], h.2⟩) (fun h => ⟨by rw [h.1], h.2⟩)⟩
      | exit id =>
        obtain ⟨v, W4, h1, h2⟩ := left (.exit id) W3 hp.1 hp.2
        exact ⟨_, _, h1, h2.imp (fun h => ⟨by rw [h.1], h.2⟩) (fun h => ⟨by rw [h.1], h.2⟩)⟩
      | goto t =>
        obtain ⟨v, W4, h1, h2⟩ := left (.goto t) W3 hp.1 hp.2
        exact ⟨_, _, h1, h2.imp (fun h => ⟨by rw [h.1], h.2⟩) (fun h => ⟨by rw [h.1], h.2⟩)⟩
      | _ => exact hp.elim
    · rintro e W2 ⟨⟨v, rfl⟩, ⟨xs, hS, hi, hl, hc⟩ | ⟨xs, hS, c, hi, hl, hc⟩⟩
      · exact ⟨none, _, run_endLoop (P := P) hl (by simp [R]), hdone _ xs _ (Nat.le_refl _) hS (hIP _ _ _ _ _ (by omega) hi hl rfl) ((World.putObj_heap_other (by omega)).trans hc)⟩
      · exact ⟨some c, _, run_endLoop (P := P) hl (by simp [R]), hstop _ c xs _ (Nat.le_refl _) hS (hXP _ _ _ _ _ _ (by omega) hi hl rfl) ((World.putObj_heap_other (by omega)).trans hc)⟩
end
end Go.Proofs.YtnfnjhbaaefbpaaGreatDoor
