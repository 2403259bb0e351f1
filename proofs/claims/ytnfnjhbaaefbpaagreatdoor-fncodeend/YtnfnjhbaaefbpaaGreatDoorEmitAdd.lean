/- The program's compiler: one instruction added; a function value called. -/
import Derived.Test.YtnfnjhbaaefbpaaGreatDoorEmitDef
namespace Go.Proofs.YtnfnjhbaaefbpaaGreatDoor
open Go.ChangeShapes Go.WideShapes Go.ChangeAt Go.RowKit

set_option maxRecDepth 100000 in
/-- An instruction that was kept whole, called. -/
theorem callKept (g : Nat) (op a b n : Int) (w : World) (hg : w.heap[g]? = some (.cells #[.int .i64 op, .int .i64 a, .int .i64 b, .int .i64 n] 34 (0, 0))) :
    Calls Tryz.prog 36 #[.pointer (some ⟨g, 0, none⟩)] w fun e w' => e = .returned (.agg #[.int .i64 op, .int .i64 a, .int .i64 b, .int .i64 n]) ∧ Below w.heap.size w w' := by
  have c0 : w.cell? ⟨g, 0, none⟩ = some (.int .i64 op) := by rw [row_cell hg]; rfl
  have c1 : w.cell? ⟨g, 1, none⟩ = some (.int .i64 a) := by rw [row_cell hg]; rfl
  have c2 : w.cell? ⟨g, 2, none⟩ = some (.int .i64 b) := by rw [row_cell hg]; rfl
  have c3 : w.cell? ⟨g, 3, none⟩ = some (.int .i64 n) := by rw [row_cell hg]; rfl
  have hgs : g < w.heap.size := (Array.getElem?_eq_some_iff.1 hg).1
  clear hg
  go_enter Tryz.func36, Tryz.ntmps36
  go_wp2
  refine bodyPost_ret (v := .agg #[.int .i64 op, .int .i64 a, .int .i64 b, .int .i64 n]) (by simp [results, Tryz.results36, go_sem]) rfl ⟨rfl, ?_⟩
  exact (Below.refl _ _).alloc (Nat.le_refl _) _

set_option maxRecDepth 100000 in
/-- A jump, called. -/
theorem callJump (go ga gt p : Nat) (op a n : Int) (w : World) (h0 : w.heap[go]? = some (.cells #[.int .i64 op] 3 (0, 0))) (h1 : w.heap[ga]? = some (.cells #[.int .i64 a] 3 (0, 0))) (h2 : w.heap[gt]? = some (.cells #[.pointer (some ⟨p, 0, none⟩)] 71 (0, 0))) (h3 : w.heap[p]? = some (.cells #[.int .i64 n] 3 (0, 0))) :
    Calls Tryz.prog 76 #[.pointer (some ⟨go, 0, none⟩), .pointer (some ⟨ga, 0, none⟩), .pointer (some ⟨gt, 0, none⟩)] w fun e w' => e = .returned (.agg #[.int .i64 op, .int .i64 a, .int .i64 0, .int .i64 n]) ∧ Below w.heap.size w w' := by
  have c0 : w.cell? ⟨go, 0, none⟩ = some (.int .i64 op) := by rw [row_cell h0]; rfl
  have c1 : w.cell? ⟨ga, 0, none⟩ = some (.int .i64 a) := by rw [row_cell h1]; rfl
  have c2 : w.cell? ⟨gt, 0, none⟩ = some (.pointer (some ⟨p, 0, none⟩)) := by rw [row_cell h2]; rfl
  have c3 : w.cell? ⟨p, 0, none⟩ = some (.int .i64 n) := by rw [row_cell h3]; rfl
  have g0 : go < w.heap.size := (Array.getElem?_eq_some_iff.1 h0).1
  have g1 : ga < w.heap.size := (Array.getElem?_eq_some_iff.1 h1).1
  have g2 : gt < w.heap.size := (Array.getElem?_eq_some_iff.1 h2).1
  have g3 : p < w.heap.size := (Array.getElem?_eq_some_iff.1 h3).1
  clear h0 h1 h2 h3
  go_enter Tryz.func76, Tryz.ntmps76
  go_wp2
  go_region
  all_goals (try go_wp2)
  refine bodyPost_ret (v := .agg #[.int .i64 op, .int .i64 a, .int .i64 0, .int .i64 n]) (by simp [results, Tryz.results76, go_sem]) rfl ⟨rfl, ?_⟩
  exact ((Below.refl _ _).alloc (Nat.le_refl _) _).drew

theorem callJump' (go ga gt p : Nat) (op a b n : Int) (w : World) (hb : b = 0) (h0 : w.heap[go]? = some (.cells #[.int .i64 op] 3 (0, 0))) (h1 : w.heap[ga]? = some (.cells #[.int .i64 a] 3 (0, 0))) (h2 : w.heap[gt]? = some (.cells #[.pointer (some ⟨p, 0, none⟩)] 71 (0, 0))) (h3 : w.heap[p]? = some (.cells #[.int .i64 n] 3 (0, 0))) :
    Calls Tryz.prog 76 #[.pointer (some ⟨go, 0, none⟩), .pointer (some ⟨ga, 0, none⟩), .pointer (some ⟨gt, 0, none⟩)] w fun e w' => e = .returned (.agg #[.int .i64 op, .int .i64 a, .int .i64 b, .int .i64 n]) ∧ Below w.heap.size w w' := by
  subst hb; exact callJump go ga gt p op a n w h0 h1 h2 h3

set_option maxRecDepth 100000 in
theorem emitHere {w : World} {N cb : Nat} {fs : List Value} (he : Emit w N cb fs) :
    Calls Tryz.prog 75 #[.pointer (some ⟨cb, 0, none⟩)] w fun e w' => e = .returned (.int .i64 fs.length) ∧ w' = w := by
  obtain ⟨v, hc, _, _, ho, _⟩ := he.cells
  obtain ⟨A, c, rfl⟩ : ∃ A c, v = .slice A fs.length c := by
    obtain ⟨_, ⟨rfl, h0⟩ | ⟨g, cap, cur, rfl, _⟩⟩ := ho
    · exact ⟨none, 0, by rw [h0]⟩
    · exact ⟨_, _, rfl⟩
  clear ho
  go_enter Tryz.func75, Tryz.ntmps75
  go_wp2
  go_ret
  exact ⟨rfl, rfl⟩

set_option maxRecDepth 100000 in
theorem emitAdd {w : World} {N cb : Nat} {fs : List Value} (he : Emit w N cb fs) (hm : fs.length ≤ 1000) (hN : N ≤ w.heap.size) (op a b n : Int) :
    Calls Tryz.prog 18 #[.pointer (some ⟨cb, 0, none⟩), .agg #[.int .i64 op, .int .i64 a, .int .i64 b, .int .i64 n]] w fun e w' => e = .returned (.tuple #[]) ∧ ∃ f, Emit w' N cb (fs ++ [f]) ∧ EvF w' w.heap.size f op a b n ∧ KF cb w w' ∧ Below N w w' := by
  obtain ⟨v, hc, hz, hrow, ho, hlt⟩ := he.cells
  obtain ⟨i0, hi, hz0, hz1, hz2⟩ := info_parts info_fn
  go_enter Tryz.func18, Tryz.ntmps18
  go_wp2_with (first | (at_builtin; refine wpList_append_own _ rfl _ _ 37 rfl N 62 i0 .nilFunc 1 8 Tryz.underlying37 hi hz0 hz1 hz2 rfl (by decide) _ _ _ rfl ((ho.alloc _).alloc _) ⟨w.heap.size + 1, 0, none⟩ 1 1 [kept1 w.heap.size] rfl rfl ?c1 ?c2 ?c3 ?c4 ?c5 ?_) | fail)
  case c1 =>
    intro j u hj
    match j, hj with
    | 0, hj => simp at hj; subst hj; simp [Addr.add, kept1]
  case c2 => intro u hu; simp at hu; subst hu; rfl
  case c3 => unfold maxLen; omega
  case c4 => omega
  case c5 => simp; omega
  intro v' w1 ho' hg _
  obtain ⟨A', c', rfl⟩ := own_slice ho'
  have hrow2 : ((w.alloc (.cells #[.int .i64 op, .int .i64 a, .int .i64 b, .int .i64 n] 34)).alloc (.cells #[kept1 w.heap.size] 62)).heap[cb]? = some (.cells #[v] 39 (0, 0)) := by
    rw [Below.heap_alloc _ _ _ (by simp <;> omega), Below.heap_alloc _ _ _ hlt]; exact hrow
  have hne := own_ne ho hrow
  have h1 : w1.heap[cb]? = some (.cells #[v] 39 (0, 0)) := (hg.block cb (by simp <;> omega) hne).trans hrow2
  have hc1 : w1.cell? ⟨cb, 0, none⟩ = some v := by rw [row_cell h1]; rfl
  have hz1' : w1.frozen? ⟨cb, 0, none⟩ = false := row_frozen h1 0
  have H1 := Lib.hid h1
  have HO := Lib.hid ho'
  have HG := Lib.hid hg
  clear hrow2 h1 ho' hg hc hz hrow
  go_wp2_with fail
  go_end0
  refine ⟨rfl, kept1 w.heap.size, ⟨⟨_, row_set H1.out _, ?_⟩, he.low⟩, ?_, ?_, ?_⟩
  · rw [List.length_append]
    exact own_block HO.out fun b hb => row_other (fun e => own_ne HO.out H1.out (by rw [hb, e])) _
  · refine .inl ⟨w.heap.size, Nat.le_refl _, rfl, ?_⟩
    rw [row_other (by omega), HG.out.block _ (by simp <;> omega) (fun e => by have := (own_at ho e.symm).2; omega), Below.heap_alloc _ _ _ (by simp), new_row]
  · exact (((KF.alloc cb w _).trans (KF.alloc _ _ _)).trans (KF.grown HG.out ((ho.alloc _).alloc _))).trans (KF.setCell _ _ _ _)
  · exact ((((Below.refl N w).alloc hN _).alloc (by simp <;> omega) _).grown HG.out (by simp <;> omega) (fun b hb => (own_at ho hb).1)).setCell (p := ⟨cb, 0, none⟩) he.low _

set_option maxRecDepth 100000 in
theorem emitJump {w : World} {N cb : Nat} {fs : List Value} (he : Emit w N cb fs) (hm : fs.length ≤ 1000) (hN : N ≤ w.heap.size) (op a : Int) (p : Nat) :
    Calls Tryz.prog 74 #[.pointer (some ⟨cb, 0, none⟩), .int .i64 op, .int .i64 a, .pointer (some ⟨p, 0, none⟩)] w fun e w' => e = .returned (.tuple #[]) ∧ ∃ f, Emit w' N cb (fs ++ [f]) ∧ EvJ w' w.heap.size f op a p ∧ KF cb w w' ∧ Below N w w' := by
  obtain ⟨v, hc, hz, hrow, ho, hlt⟩ := he.cells
  obtain ⟨i0, hi, hz0, hz1, hz2⟩ := info_parts info_fn
  have hc3 : (((w.alloc (.cells #[.int .i64 op] 3)).alloc (.cells #[.int .i64 a] 3)).alloc (.cells #[.pointer (some ⟨p, 0, none⟩)] 71)).cell? ⟨cb, 0, none⟩ = some v := by
    rw [World.cell?_of_block (w := w) (by rw [Below.heap_alloc _ _ _ (by simp <;> omega), Below.heap_alloc _ _ _ (by simp <;> omega), Below.heap_alloc _ _ _ hlt])]; exact hc
  go_enter Tryz.func74, Tryz.ntmps74
  go_wp2_with (first | (at_builtin; refine wpList_append_own _ rfl _ _ 37 rfl N 62 i0 .nilFunc 1 8 Tryz.underlying37 hi hz0 hz1 hz2 rfl (by decide) _ _ _ rfl ((((ho.alloc _).alloc _).alloc _).alloc _) ⟨w.heap.size + 1 + 1 + 1, 0, none⟩ 1 1 [jump1 w.heap.size (w.heap.size + 1) (w.heap.size + 1 + 1)] rfl rfl ?c1 ?c2 ?c3 ?c4 ?c5 ?_) | fail)
  case c1 =>
    intro j u hj
    match j, hj with
    | 0, hj =>
      simp at hj; subst hj
      have hnr := new_row (((w.alloc (.cells #[.int .i64 op] 3)).alloc (.cells #[.int .i64 a] 3)).alloc (.cells #[.pointer (some ⟨p, 0, none⟩)] 71)) #[jump1 w.heap.size (w.heap.size + 1) (w.heap.size + 1 + 1)] 62
      simp only [World.size_alloc] at hnr
      exact row_cell hnr 0
  case c2 => intro u hu; simp at hu; subst hu; rfl
  case c3 => unfold maxLen; omega
  case c4 => omega
  case c5 => simp; omega
  intro v' w1 ho' hg _
  obtain ⟨A', c', rfl⟩ := own_slice ho'
  have hrow2 : ((((w.alloc (.cells #[.int .i64 op] 3)).alloc (.cells #[.int .i64 a] 3)).alloc (.cells #[.pointer (some ⟨p, 0, none⟩)] 71)).alloc (.cells #[jump1 w.heap.size (w.heap.size + 1) (w.heap.size + 1 + 1)] 62)).heap[cb]? = some (.cells #[v] 39 (0, 0)) := by
    rw [Below.heap_alloc _ _ _ (by simp <;> omega), Below.heap_alloc _ _ _ (by simp <;> omega), Below.heap_alloc _ _ _ (by simp <;> omega), Below.heap_alloc _ _ _ hlt]; exact hrow
  have hne := own_ne ho hrow
  have h1 : w1.heap[cb]? = some (.cells #[v] 39 (0, 0)) := (hg.block cb (by simp <;> omega) hne).trans hrow2
  have hc1 : w1.cell? ⟨cb, 0, none⟩ = some v := by rw [row_cell h1]; rfl
  have hz1' : w1.frozen? ⟨cb, 0, none⟩ = false := row_frozen h1 0
  have H1 := Lib.hid h1
  have HO := Lib.hid ho'
  have HG := Lib.hid hg
  clear hrow2 h1 ho' hg hc hz hrow
  go_wp2_with fail
  go_end0
  refine ⟨rfl, jump1 w.heap.size (w.heap.size + 1) (w.heap.size + 1 + 1), ⟨⟨_, row_set H1.out _, ?_⟩, he.low⟩, ?_, ?_, ?_⟩
  · rw [List.length_append]
    exact own_block HO.out fun b hb => row_other (fun e => own_ne HO.out H1.out (by rw [hb, e])) _
  · refine ⟨w.heap.size, w.heap.size + 1, w.heap.size + 1 + 1, Nat.le_refl _, by omega, by omega, rfl, ?_, ?_, ?_⟩
    · rw [row_other (by omega), HG.out.block _ (by simp <;> omega) (fun e => by have := (own_at ho e.symm).2; omega), Below.heap_alloc _ _ _ (by simp <;> omega), Below.heap_alloc _ _ _ (by simp <;> omega), Below.heap_alloc _ _ _ (by simp), new_row]
    · rw [row_other (by omega), HG.out.block _ (by simp <;> omega) (fun e => by have := (own_at ho e.symm).2; omega), Below.heap_alloc _ _ _ (by simp <;> omega), Below.heap_alloc _ _ _ (by simp), show w.heap.size + 1 = (w.alloc (.cells #[.int .i64 op] 3)).heap.size by simp, new_row]
    · rw [row_other (by omega), HG.out.block _ (by simp) (fun e => by have := (own_at ho e.symm).2; omega), Below.heap_alloc _ _ _ (by simp), show w.heap.size + 1 + 1 = ((w.alloc (.cells #[.int .i64 op] 3)).alloc (.cells #[.int .i64 a] 3)).heap.size by simp, new_row]
  · exact (((((KF.alloc cb w _).trans (KF.alloc _ _ _)).trans (KF.alloc _ _ _)).trans (KF.alloc _ _ _)).trans (KF.grown HG.out ((((ho.alloc _).alloc _).alloc _).alloc _))).trans (KF.setCell _ _ _ _)
  · exact ((((((Below.refl N w).alloc hN _).alloc (by simp <;> omega) _).alloc (by simp <;> omega) _).alloc (by simp <;> omega) _).grown HG.out (by simp <;> omega) (fun b hb => (own_at ho hb).1)).setCell (p := ⟨cb, 0, none⟩) he.low _
end Go.Proofs.YtnfnjhbaaefbpaaGreatDoor
