/- Configurations that come in: what an argument's reading says of memory. -/
import Derived.Test.YthamehcfenncaaaWorldRec
import Derived.Test.YthamehcfenncaaaOpenSays
import Derived.Test.YthamehcfenncaaaOpenSt
namespace Go.Proofs.Ythamehcfenncaaa
open Go.ChangeShapes Go.WideShapes Go.ChangeAt Go.RowKit Go.Deep

theorem cellsProcR : Try.prog.cellsOf 124 = 5 := by kernel_rfl
theorem cellsWorldR : Try.prog.cellsOf 60 = 5 := by kernel_rfl
theorem cellsProcsR : Try.prog.cellsOf 56 = 1 := by kernel_rfl
theorem cellsStmtsR : Try.prog.cellsOf 30 = 1 := by kernel_rfl

theorem At.toP {w : World} {N : Nat} {L : SL} : ∀ {a : Addr}, At w N L a → AtP w (fun _ => True) L a := by
  induction L with
  | nil => intro a _; trivial
  | cons k x y n B E R hB hE hR =>
    rintro a ⟨ha, h0, h1, h2, h3, ⟨A, c, h4, l4, m4, n4, p4⟩, ⟨A', c', h5, l5, m5, n5, p5⟩, h6⟩
    exact ⟨trivial, h0, h1, h2, h3, ⟨A, c, h4, l4, m4, n4, fun p hp => hB (p4 p hp)⟩, ⟨A', c', h5, l5, m5, n5, fun p hp => hE (p5 p hp)⟩, hR h6⟩
theorem Sl.toP {w : World} {N : Nat} {L : SL} {A : Option Addr} {n c : Nat} (h : Sl w N L A n c) : SlP w (fun _ => True) L A n c := ⟨h.len, h.le, h.top, h.nil, fun p hp => (h.at_ p hp).toP⟩

section
variable {H : Type} {enc : TypeId × Value → H} {w : World} {base : Nat} {spare : Nat → Bool} {held : Bool}

theorem open_stmtsF {fuel : Nat} {v : Value} {x : DataW H × List MemPlace} (h : DataW.trod enc Try.prog w base spare held fuel 30 [v] = some x) :
    ∃ (L : SL) (A : Option Addr) (n c : Nat), v = .slice A n c ∧ SlP w (fun _ => True) L A n c := by
  obtain ⟨A, n, c, rfl⟩ := slice_of h
  obtain ⟨L, hL⟩ := open_list fuel A n c _ h
  exact ⟨L, A, n, c, rfl, hL.toP⟩

set_option maxRecDepth 100000 in
theorem open_proc {fuel : Nat} {cs : List Value} {x : DataW H × List MemPlace} (h : DataW.trod enc Try.prog w base spare held fuel 124 cs = some x) :
    ∃ y, procShape.I w (fun _ => True) cs y := by
  obtain ⟨xs, f, rfl, _, hl, hxl, hf⟩ := DataW.trod_struct Try.underlying124 h
  rw [cellsProcR] at hl
  match cs, hl with
  | [c0, c1, c2, c3, c4], _ =>
    match xs, hxl with
    | [x0, x1, x2, x3, x4], _ =>
      have g0 := hf 0 _ rfl
      have g1 := hf 1 _ rfl
      have g2 := hf 2 _ rfl
      have g3 := hf 3 _ rfl
      have g4 := hf 4 _ rfl
      simp [cellsIntR, cellsIntsR, cellsStmtsR] at g0 g1 g2 g3 g4
      obtain ⟨X0, A0, n0, k0, rfl, p0⟩ := open_intsF g0
      obtain rfl := fl_one p0
      obtain ⟨X1, A1, n1, k1, rfl, p1⟩ := open_stmtsF g1
      obtain rfl := SlP.len p1
      obtain ⟨z2, e2, _, _⟩ := DataW.trod_int Try.underlying3 g2
      simp at e2
      subst e2
      obtain ⟨z3, e3, _, _⟩ := DataW.trod_int Try.underlying3 g3
      simp at e3
      subst e3
      obtain ⟨z4, e4, _, _⟩ := DataW.trod_int Try.underlying3 g4
      simp at e4
      subst e4
      exact ⟨⟨X0, X1, z2, z3, z4⟩, A0, k0, A1, k1, rfl, p0, p1⟩

theorem open_procs {fuel : Nat} {v : Value} {x : DataW H × List MemPlace} (h : DataW.trod enc Try.prog w base spare held fuel 56 [v] = some x) :
    ∃ (Ls : List ProcP) (A : Option Addr) (n c : Nat), v = .slice A n c ∧ Recs procShape w (fun _ => True) Ls A n c :=
  open_recs (s := procShape) Try.underlying56 cellsProcR (fun _ _ _ h => open_proc h) h

set_option maxRecDepth 100000 in
theorem open_world {fuel : Nat} {cs : List Value} {x : DataW H × List MemPlace} (h : DataW.trod enc Try.prog w base spare held fuel 60 cs = some x) :
    ∃ y, worldShape.I w (fun _ => True) cs y := by
  obtain ⟨xs, f, rfl, _, hl, hxl, hf⟩ := DataW.trod_struct Try.underlying60 h
  rw [cellsWorldR] at hl
  match cs, hl with
  | [c0, c1, c2, c3, c4], _ =>
    match xs, hxl with
    | [x0, x1, x2, x3, x4], _ =>
      have g0 := hf 0 _ rfl
      have g1 := hf 1 _ rfl
      have g2 := hf 2 _ rfl
      have g3 := hf 3 _ rfl
      have g4 := hf 4 _ rfl
      simp [cellsIntsR, cellsProcsR, cellsIssR, cellsSaysR] at g0 g1 g2 g3 g4
      obtain ⟨X0, A0, n0, k0, rfl, p0⟩ := open_procs g0
      obtain rfl := Recs.len p0
      obtain ⟨X1, A1, n1, k1, rfl, p1⟩ := open_intsF g1
      obtain rfl := fl_one p1
      obtain ⟨X2, A2, n2, k2, rfl, p2⟩ := open_intsF g2
      obtain rfl := fl_one p2
      obtain ⟨X3, A3, n3, k3, rfl, p3⟩ := open_issF g3
      obtain rfl := Recs.len p3
      obtain ⟨X4, A4, n4, k4, rfl, p4⟩ := open_saysF g4
      obtain rfl := fl_two p4
      exact ⟨⟨X0, X1, X2, X3, X4⟩, A0, k0, A1, k1, A2, k2, A3, k3, A4, k4, rfl, p0, p1, p2, p3, p4⟩


set_option maxRecDepth 100000 in
theorem open_worldA (hl : ∀ {vs : List Value}, vs.length = 5 → ∃ v0 v1 v2 v3 v4 : Value, vs = [v0, v1, v2, v3, v4]) {W : World} {base : Nat} {v : Value} {d : DataW H} {ps : List MemPlace} (hval : Value.okWide Try.prog W .any base 60 v) (h : DataW.Trod enc Try.prog W 0 (fun _ => true) true 60 v d ps) :
    ∃ (v0 v1 v2 v3 v4 : Value) (x : WorldP), v = .agg #[v0, v1, v2, v3, v4] ∧ worldShape.I W (fun _ => True) [v0, v1, v2, v3, v4] x := by
  obtain ⟨cs, rfl, _⟩ := okWide_struct Try.underlying60 hval
  obtain ⟨fuel, hf⟩ := h
  obtain ⟨l⟩ := cs
  obtain ⟨x, hx⟩ := open_world hf
  simp only [Value.cells] at hx
  obtain ⟨v0, v1, v2, v3, v4, rfl⟩ := hl (worldShape.len hx)
  exact ⟨v0, v1, v2, v3, v4, x, rfl, hx⟩
end
end Go.Proofs.Ythamehcfenncaaa