/- Processors that come in: what an argument's reading says of memory. -/
import Derived.Test.YtkiekabfmdcemaaCpuRec
import Derived.Test.YtkiekabfmdcemaaOpenRec
namespace Go.Proofs.Ytkiekabfmdcemaa
open Go.ChangeShapes Go.WideShapes Go.ChangeAt Go.RowKit Go.Deep

theorem cellsCtxR : Try.prog.cellsOf 93 = 5 := by kernel_rfl
theorem cellsSayR : Try.prog.cellsOf 96 = 2 := by kernel_rfl
theorem cellsCpuR : Try.prog.cellsOf 27 = 11 := by kernel_rfl
theorem cellsIssR : Try.prog.cellsOf 24 = 1 := by kernel_rfl
theorem cellsCtxsR : Try.prog.cellsOf 22 = 1 := by kernel_rfl
theorem cellsSaysR : Try.prog.cellsOf 25 = 1 := by kernel_rfl

section
variable {H : Type} {enc : TypeId × Value → H} {w : World} {base : Nat} {spare : Nat → Bool} {held : Bool}

set_option maxRecDepth 100000 in
theorem open_sayF {fuel : Nat} {cs : List Value} {x : DataW H × List MemPlace} (h : DataW.trod enc Try.prog w base spare held fuel 96 cs = some x) :
    ∃ (a b : Int), cs = [.int .i64 a, .int .i64 b] := by
  obtain ⟨xs, f, rfl, _, hl, hxl, hf⟩ := DataW.trod_struct Try.underlying96 h
  rw [cellsSayR] at hl
  match cs, hl with
  | [c0, c1], _ =>
    match xs, hxl with
    | [x0, x1], _ =>
      have g0 := hf 0 _ rfl
      have g1 := hf 1 _ rfl
      simp [cellsIntR] at g0 g1
      obtain ⟨k, e0, _, _⟩ := DataW.trod_int Try.underlying3 g0
      obtain ⟨a, e1, _, _⟩ := DataW.trod_int Try.underlying3 g1
      simp at e0 e1
      subst e0 e1
      exact ⟨k, a, rfl⟩

set_option maxRecDepth 100000 in
theorem open_saysF {fuel : Nat} {v : Value} {x : DataW H × List MemPlace} (h : DataW.trod enc Try.prog w base spare held fuel 25 [v] = some x) :
    ∃ (xs : List Int) (A : Option Addr) (n c : Nat), v = .slice A n c ∧ Fl w (fun _ => True) 2 xs A n c := by
  rcases DataW.trod_slice Try.underlying25 h with ⟨h0, _⟩ | ⟨a, len, cap, elems, rest, f, rfl, h0, _, _, hl, hm, hlen, hel, _, _⟩
  · simp at h0
    subst h0
    exact ⟨[], none, 0, 0, rfl, rfl, Nat.le_refl _, Nat.zero_le _, fun _ => rfl, fun a ha => by cases ha⟩
  · simp at h0
    subst h0
    have key : ∀ m, m ≤ len → ∃ xs : List Int, xs.length = m * 2 ∧ ∀ j, j < xs.length → w.cell? (a.add j) = some (.int .i64 (xs.getD j 0)) := by
      intro m
      induction m with
      | zero => intro _; exact ⟨[], rfl, fun j hj => by simp at hj⟩
      | succ m ih =>
        intro hm'
        obtain ⟨xs, hx, hg⟩ := ih (by omega)
        have h1 := hel m (by omega)
        rw [cellsSayR, List.getElem?_eq_getElem (by omega)] at h1
        obtain ⟨cs, hcs, ht⟩ := Option.bind_eq_some_iff.1 h1
        obtain ⟨_, _, hcell⟩ := World.cells?_some hcs
        obtain ⟨x, y, rfl⟩ := open_sayF ht
        have z0 := hcell 0 (by omega)
        have z1 := hcell 1 (by omega)
        rw [add_ad] at z0 z1
        simp at z0 z1
        refine ⟨xs ++ [x, y], by simp [hx]; omega, fun j hj => ?_⟩
        by_cases e : j < xs.length
        · rw [hg j e]; simp [List.getD, e, List.getElem?_append_left e]
        · have : j = m * 2 ∨ j = m * 2 + 1 := by simp at hj; omega
          rcases this with rfl | rfl
          · rw [z0, ← hx]; simp [List.getD]
          · rw [z1, ← hx]; simp [List.getD]
    obtain ⟨xs, hx, hg⟩ := key len (Nat.le_refl _)
    exact ⟨xs, some a, len, cap, rfl, hx, hl, hm, (fun h => by cases h), fun b hb j hj => by
      obtain rfl : b = a := by injection hb with h; exact h.symm
      exact ⟨trivial, hg j hj⟩⟩

set_option maxRecDepth 100000 in
theorem open_ctx {fuel : Nat} {cs : List Value} {x : DataW H × List MemPlace} (h : DataW.trod enc Try.prog w base spare held fuel 93 cs = some x) :
    ∃ y, ctxShape.I w (fun _ => True) cs y := by
  obtain ⟨xs, f, rfl, _, hl, hxl, hf⟩ := DataW.trod_struct Try.underlying93 h
  rw [cellsCtxR] at hl
  match cs, hl with
  | [c0, c1, c2, c3, c4], _ =>
    match xs, hxl with
    | [x0, x1, x2, x3, x4], _ =>
      have g0 := hf 0 _ rfl
      have g1 := hf 1 _ rfl
      have g2 := hf 2 _ rfl
      have g3 := hf 3 _ rfl
      have g4 := hf 4 _ rfl
      simp [cellsIntR, cellsIntsR] at g0 g1 g2 g3 g4
      obtain ⟨X0, A0, n0, k0, rfl, p0⟩ := open_intsF g0
      obtain rfl := fl_one p0
      obtain ⟨z1, e1, _, _⟩ := DataW.trod_int Try.underlying3 g1
      simp at e1
      subst e1
      obtain ⟨z2, e2, _, _⟩ := DataW.trod_int Try.underlying3 g2
      simp at e2
      subst e2
      obtain ⟨z3, e3, _, _⟩ := DataW.trod_int Try.underlying3 g3
      simp at e3
      subst e3
      obtain ⟨z4, e4, _, _⟩ := DataW.trod_int Try.underlying3 g4
      simp at e4
      subst e4
      exact ⟨⟨X0, z1, z2, z3, z4⟩, A0, k0, rfl, p0⟩

theorem open_ctxs {fuel : Nat} {v : Value} {x : DataW H × List MemPlace} (h : DataW.trod enc Try.prog w base spare held fuel 22 [v] = some x) :
    ∃ (Ls : List CtxP) (A : Option Addr) (n c : Nat), v = .slice A n c ∧ Recs ctxShape w (fun _ => True) Ls A n c :=
  open_recs (s := ctxShape) Try.underlying22 cellsCtxR (fun _ _ _ h => open_ctx h) h

set_option maxRecDepth 100000 in
theorem open_cpu {fuel : Nat} {cs : List Value} {x : DataW H × List MemPlace} (h : DataW.trod enc Try.prog w base spare held fuel 27 cs = some x) :
    ∃ y, cpuShape.I w (fun _ => True) cs y := by
  obtain ⟨xs, f, rfl, _, hl, hxl, hf⟩ := DataW.trod_struct Try.underlying27 h
  rw [cellsCpuR] at hl
  match cs, hl with
  | [c0, c1, c2, c3, c4, c5, c6, c7, c8, c9, c10], _ =>
    match xs, hxl with
    | [x0, x1, x2, x3, x4, x5, x6, x7, x8, x9, x10], _ =>
      have g0 := hf 0 _ rfl
      have g1 := hf 1 _ rfl
      have g2 := hf 2 _ rfl
      have g3 := hf 3 _ rfl
      have g4 := hf 4 _ rfl
      have g5 := hf 5 _ rfl
      have g6 := hf 6 _ rfl
      have g7 := hf 7 _ rfl
      have g8 := hf 8 _ rfl
      have g9 := hf 9 _ rfl
      have g10 := hf 10 _ rfl
      simp [cellsIntR, cellsIntsR, cellsCtxsR, cellsIssR, cellsSaysR] at g0 g1 g2 g3 g4 g5 g6 g7 g8 g9 g10
      obtain ⟨X0, A0, n0, k0, rfl, p0⟩ := open_ctxs g0
      obtain rfl := Recs.len p0
      obtain ⟨X1, A1, n1, k1, rfl, p1⟩ := open_intsF g1
      obtain rfl := fl_one p1
      obtain ⟨X2, A2, n2, k2, rfl, p2⟩ := open_intsF g2
      obtain rfl := fl_one p2
      obtain ⟨X3, A3, n3, k3, rfl, p3⟩ := open_issF g3
      obtain rfl := Recs.len p3
      obtain ⟨X4, A4, n4, k4, rfl, p4⟩ := open_issF g4
      obtain rfl := Recs.len p4
      obtain ⟨X5, A5, n5, k5, rfl, p5⟩ := open_intsF g5
      obtain rfl := fl_one p5
      obtain ⟨z6, e6, _, _⟩ := DataW.trod_int Try.underlying3 g6
      simp at e6
      subst e6
      obtain ⟨z7, e7, _, _⟩ := DataW.trod_int Try.underlying3 g7
      simp at e7
      subst e7
      obtain ⟨X8, A8, n8, k8, rfl, p8⟩ := open_saysF g8
      obtain rfl := fl_two p8
      obtain ⟨X9, A9, n9, k9, rfl, p9⟩ := open_intsF g9
      obtain rfl := fl_one p9
      obtain ⟨X10, A10, n10, k10, rfl, p10⟩ := open_intsF g10
      obtain rfl := fl_one p10
      exact ⟨⟨X0, X1, X2, X3, X4, X5, z6, z7, X8, X9, X10⟩, A0, k0, A1, k1, A2, k2, A3, k3, A4, k4, A5, k5, A8, k8, A9, k9, A10, k10, rfl, p0, p1, p2, p3, p4, p5, p8, p9, p10⟩


set_option maxRecDepth 100000 in
theorem open_cpuA (hl : ∀ {vs : List Value}, vs.length = 11 → ∃ v0 v1 v2 v3 v4 v5 v6 v7 v8 v9 v10 : Value, vs = [v0, v1, v2, v3, v4, v5, v6, v7, v8, v9, v10]) {W : World} {base : Nat} {v : Value} {d : DataW H} {ps : List MemPlace} (hval : Value.okWide Try.prog W .any base 27 v) (h : DataW.Trod enc Try.prog W 0 (fun _ => true) true 27 v d ps) :
    ∃ (v0 v1 v2 v3 v4 v5 v6 v7 v8 v9 v10 : Value) (x : CpuP), v = .agg #[v0, v1, v2, v3, v4, v5, v6, v7, v8, v9, v10] ∧ cpuShape.I W (fun _ => True) [v0, v1, v2, v3, v4, v5, v6, v7, v8, v9, v10] x := by
  obtain ⟨cs, rfl, _⟩ := okWide_struct Try.underlying27 hval
  obtain ⟨fuel, hf⟩ := h
  obtain ⟨l⟩ := cs
  obtain ⟨x, hx⟩ := open_cpu hf
  simp only [Value.cells] at hx
  obtain ⟨v0, v1, v2, v3, v4, v5, v6, v7, v8, v9, v10, rfl⟩ := hl (cpuShape.len hx)
  exact ⟨v0, v1, v2, v3, v4, v5, v6, v7, v8, v9, v10, x, rfl, hx⟩
end
end Go.Proofs.Ytkiekabfmdcemaa