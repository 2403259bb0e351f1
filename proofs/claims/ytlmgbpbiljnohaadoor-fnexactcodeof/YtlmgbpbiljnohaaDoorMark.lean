/- The laws' marks in a list of statements no two of whose parts share a block: every number gets a mark of its own, and is found again. -/
import Derived.Test.YtlmgbpbiljnohaaDoorFp
import Derived.Laws.IdiomCopy
namespace Go.Proofs.YtlmgbpbiljnohaaDoor
open Go.ChangeShapes Go.WideShapes Go.ChangeAt Go.RowKit

/-- The list with its numbers marked from k on. -/
def mkL : SL → Int → SL
  | .nil, _ => .nil
  | .cons _ _ _ _ B E R, k => .cons k (k + 1) (k + 2) (k + 3) (mkL B (k + 4)) (mkL E (k + 4 + 4 * B.size)) (mkL R (k + 4 + 4 * B.size + 4 * E.size))
theorem mkL_len (L : SL) : ∀ k, (mkL L k).len = L.len := by
  induction L with
  | nil => intro k; rfl
  | cons k x y n B E R _ _ ih => intro j; simp only [mkL, SL.len, ih]
theorem mkL_size (L : SL) : ∀ k, (mkL L k).size = L.size := by
  induction L with
  | nil => intro k; rfl
  | cons k x y n B E R hB hE hR => intro j; simp only [mkL, SL.size, hB, hE, hR]
theorem mkL_plus (L M : SL) : ∀ k, mkL (L.plus M) k = (mkL L k).plus (mkL M (k + 4 * L.size)) := by
  induction L with
  | nil => intro k; simp [SL.plus, mkL, SL.size]
  | cons k x y n B E R _ _ ih =>
    intro j
    simp only [SL.plus, mkL, ih, SL.size]
    congr 3
    push_cast
    omega

theorem mark_step {wr w5 w6 : World} {g o : Nat} {t K x y v : Int} {B E R B' E' P : SL} {AB AE : Option Addr} {cB cE : Nat} {F1 FB FE FR : List Nat}
    (hp : AtF wr P g 0 F1) (ho : P.len * 6 = o)
    (c0 : wr.cell? ⟨g, o, none⟩ = some (.int .i64 K)) (c1 : wr.cell? ⟨g, o + 1, none⟩ = some (.int .i64 x)) (c2 : wr.cell? ⟨g, o + 2, none⟩ = some (.int .i64 y)) (c3 : wr.cell? ⟨g, o + 3, none⟩ = some (.int .i64 v))
    (f0 : wr.frozen? ⟨g, o, none⟩ = false) (f1 : wr.frozen? ⟨g, o + 1, none⟩ = false) (f2 : wr.frozen? ⟨g, o + 2, none⟩ = false) (f3 : wr.frozen? ⟨g, o + 3, none⟩ = false)
    (c4 : wr.cell? ⟨g, o + 4, none⟩ = some (.slice AB B.len cB)) (c5 : wr.cell? ⟨g, o + 5, none⟩ = some (.slice AE E.len cE))
    (hR : AtF wr R g (o + 6) FR) (hnd : (g :: (F1 ++ (FB ++ (FE ++ FR)))).Nodup) (hlt : ∀ b ∈ g :: (F1 ++ (FB ++ (FE ++ FR))), b < wr.heap.size)
    (lB : B'.len = B.len) (lE : E'.len = E.len)
    (h5 : SlF w5 B' AB cB FB) (b5 : ButF (wr.setCells g o [.int .i64 t, .int .i64 (t + 1), .int .i64 (t + 2), .int .i64 (t + 3)]) w5 FB)
    (h6 : SlF w6 E' AE cE FE) (b6 : ButF w5 w6 FE) :
    AtF w6 (P.plus (.cons t (t + 1) (t + 2) (t + 3) B' E' .nil)) g 0 (F1 ++ (FB ++ FE)) ∧ AtF w6 R g (o + 6) FR ∧ ButF wr w6 (g :: (F1 ++ (FB ++ (FE ++ FR)))) := by
  have hg := hlt g (by simp)
  obtain ⟨hgn, hnd2⟩ := List.nodup_cons.1 hnd
  simp only [List.mem_append, not_or] at hgn
  obtain ⟨g1, gB, gE, gR⟩ := hgn
  have d1 := List.nodup_append.1 hnd2
  have d2 := List.nodup_append.1 d1.2.1
  have d3 := List.nodup_append.1 d2.2.1
  have sz : (wr.setCells g o [.int .i64 t, .int .i64 (t + 1), .int .i64 (t + 2), .int .i64 (t + 3)]).heap.size = wr.heap.size := by simp [World.setCells, World.setCell]
  have oth : ∀ b, b ≠ g → (wr.setCells g o [.int .i64 t, .int .i64 (t + 1), .int .i64 (t + 2), .int .i64 (t + 3)]).heap[b]? = wr.heap[b]? := fun b hb => by
    show ((((wr.setCell _ _).setCell _ _).setCell _ _).setCell _ _).heap[b]? = _
    rw [Below.heap_setCell _ _ _ _ (by exact hb), Below.heap_setCell _ _ _ _ (by exact hb), Below.heap_setCell _ _ _ _ (by exact hb), Below.heap_setCell _ _ _ _ (by exact hb)]
  have z5 := b5.size
  rw [sz] at z5
  have blk6 : ∀ b, b < wr.heap.size → b ≠ g → b ∉ FB → b ∉ FE → w6.heap[b]? = wr.heap[b]? := fun b hb hbg hbB hbE => by
    rw [b6.block b (by omega) hbE, b5.block b (by omega) hbB, oth b hbg]
  have gq : w6.heap[g]? = (wr.setCells g o [.int .i64 t, .int .i64 (t + 1), .int .i64 (t + 2), .int .i64 (t + 3)]).heap[g]? := by rw [b6.block g (by omega) gE, b5.block g (by omega) gB]
  have cq : ∀ i, w6.cell? ⟨g, i, none⟩ = (wr.setCells g o [.int .i64 t, .int .i64 (t + 1), .int .i64 (t + 2), .int .i64 (t + 3)]).cell? ⟨g, i, none⟩ := fun i => World.cell?_of_block (a := ⟨g, i, none⟩) gq
  have fq : ∀ i, w6.frozen? ⟨g, i, none⟩ = wr.frozen? ⟨g, i, none⟩ := fun i => (World.frozen?_of_block (w := wr.setCells g o [.int .i64 t, .int .i64 (t + 1), .int .i64 (t + 2), .int .i64 (t + 3)]) (a := ⟨g, i, none⟩) gq).trans (World.frozen?_setCells _ _ _ _ _)
  have hin : ∀ j, j < 4 → (wr.cell? ⟨g, o + j, none⟩).isSome = true := fun j hj => by
    have : j = 0 ∨ j = 1 ∨ j = 2 ∨ j = 3 := by omega
    rcases this with rfl | rfl | rfl | rfl
    · rw [Nat.add_zero, c0]; rfl
    · rw [c1]; rfl
    · rw [c2]; rfl
    · rw [c3]; rfl
  have out : ∀ i, i < o ∨ o + 4 ≤ i → w6.cell? ⟨g, i, none⟩ = wr.cell? ⟨g, i, none⟩ := fun i hi => (cq i).trans (World.cell?_setCells_out g _ o wr ⟨g, i, none⟩ (fun _ _ => hi))
  have ins := World.cell?_setCells_in g [.int .i64 t, .int .i64 (t + 1), .int .i64 (t + 2), .int .i64 (t + 3)] o wr (fun j hj => hin j hj)
  have n0 := (cq (o + 0)).trans (ins 0 (by simp))
  have n1 := (cq (o + 1)).trans (ins 1 (by simp))
  have n2 := (cq (o + 2)).trans (ins 2 (by simp))
  have n3 := (cq (o + 3)).trans (ins 3 (by simp))
  rw [Nat.add_zero] at n0
  simp only [List.getElem_cons_zero, List.getElem_cons_succ] at n0 n1 n2 n3
  have hP : AtF w6 P g 0 F1 := hp.keep (fun i hi => by rw [Nat.zero_add]; exact ⟨out i (.inl (by omega)), fq i⟩) (fun b hb => blk6 b (hlt b (by simp [hb])) (fun e => g1 (e ▸ hb)) (fun hB => d1.2.2 b hb b (by simp [hB]) rfl) (fun hE => d1.2.2 b hb b (by simp [hE]) rfl))
  have hR6 : AtF w6 R g (o + 6) FR := hR.keep (fun i hi => ⟨out _ (.inr (by omega)), fq _⟩) (fun b hb => blk6 b (hlt b (by simp [hb])) (fun e => gR (e ▸ hb)) (fun hB => d2.2.2 b hB b (by simp [hb]) rfl) (fun hE => d3.2.2 b hE b hb rfl))
  have h56 : SlF w6 B' AB cB FB := h5.keep fun b hb => b6.block b (by have := hlt b (by simp [hb]); omega) (fun hE => d2.2.2 b hb b (by simp [hE]) rfl)
  refine ⟨hP.join ?_, hR6, ?_⟩
  · rw [Nat.zero_add, ho]
    refine AtF.cons_iff.2 ⟨n0, n1, n2, n3, ⟨(fq _).trans f0, (fq _).trans f1, (fq _).trans f2, (fq _).trans f3⟩, AB, cB, AE, cE, FB, FE, [], ?_, ?_, h56, h6, rfl, by simp⟩
    · rw [out _ (.inr (by omega)), c4, lB]
    · rw [out _ (.inr (by omega)), c5, lE]
  · refine ⟨?_, ?_, ?_, ?_, fun b hb hn => ?_⟩
    · rw [b6.os, b5.os]; rfl
    · rw [b6.tape, b5.tape]; rfl
    · rw [b6.output, b5.output]; rfl
    · have := b6.size; omega
    · simp only [List.mem_cons, List.mem_append, not_or] at hn
      exact blk6 b hb hn.1 hn.2.2.1 hn.2.2.2.1
end Go.Proofs.YtlmgbpbiljnohaaDoor
