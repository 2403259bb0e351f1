/- Slices that come in, wherever they stand in an argument: of numbers, of records, of slices of numbers. -/
import Derived.Test.YthamehcfenncaaaShape
import Derived.Test.YthamehcfenncaaaKinds
import Derived.Test.YthamehcfenncaaaShutG
import Derived.Deep.Fields
namespace Go.Proofs.Ythamehcfenncaaa
open Go.ChangeShapes Go.WideShapes Go.ChangeAt Go.RowKit Go.Deep

theorem cellsIntR : Try.prog.cellsOf 3 = 1 := by kernel_rfl
theorem cellsIntsR : Try.prog.cellsOf 24 = 1 := by kernel_rfl

section
variable {H : Type} {enc : TypeId × Value → H} {w : World} {base : Nat} {spare : Nat → Bool} {held : Bool}

theorem open_recs {α : Type} {s : Shape α} {ts te : TypeId} (hu : Try.prog.underlying ts = some (.slice te)) (hc : Try.prog.cellsOf te = s.z)
    (hel : ∀ (fuel : Nat) (cs : List Value) (x : DataW H × List MemPlace), DataW.trod enc Try.prog w base spare held fuel te cs = some x → ∃ y, s.I w (fun _ => True) cs y)
    {fuel : Nat} {v : Value} {x : DataW H × List MemPlace} (h : DataW.trod enc Try.prog w base spare held fuel ts [v] = some x) :
    ∃ (Ls : List α) (A : Option Addr) (n c : Nat), v = .slice A n c ∧ Recs s w (fun _ => True) Ls A n c := by
  rcases DataW.trod_slice hu h with ⟨h0, _⟩ | ⟨a, len, cap, elems, rest, f, rfl, h0, _, _, hl, hm, hlen, hel', _, _⟩
  · simp at h0
    subst h0
    exact ⟨[], none, 0, 0, rfl, Recs.none _ _ _ (Nat.zero_le _)⟩
  · simp at h0
    subst h0
    have key : ∀ m, m ≤ len → ∃ Ls : List α, Ls.length = m ∧ ∀ i (h : i < Ls.length), ∃ vs : List Value, (∀ q, q < s.z → w.cell? ((a.add (i * s.z)).add q) = vs[q]?) ∧ s.I w (fun _ => True) vs (Ls[i]) := by
      intro m
      induction m with
      | zero => intro _; exact ⟨[], rfl, fun i h => by simp at h⟩
      | succ m ih =>
        intro hm'
        obtain ⟨Ls, hL, hg⟩ := ih (by omega)
        have h1 := hel' m (by omega)
        rw [hc, List.getElem?_eq_getElem (by omega)] at h1
        obtain ⟨cs, hcs, ht⟩ := Option.bind_eq_some_iff.1 h1
        obtain ⟨_, hcl, hcell⟩ := World.cells?_some hcs
        obtain ⟨y, hy⟩ := hel _ _ _ ht
        refine ⟨Ls ++ [y], by simp [hL], fun i hi => ?_⟩
        by_cases e : i < Ls.length
        · obtain ⟨vs, g1, g2⟩ := hg i e
          exact ⟨vs, g1, by rw [List.getElem_append_left e]; exact g2⟩
        · have : i = Ls.length := by simp at hi; omega
          subst this
          refine ⟨cs, fun q hq => ?_, by simpa using hy⟩
          rw [hL]
          exact hcell q hq
    obtain ⟨Ls, hL, hg⟩ := key len (Nat.le_refl _)
    exact ⟨Ls, some a, len, cap, rfl, hL.symm, hl, hm, fun i hi => by
      obtain ⟨vs, g1, g2⟩ := hg i hi
      exact ⟨a, vs, rfl, trivial, g1, g2⟩⟩

set_option maxRecDepth 100000 in
theorem open_intsF {fuel : Nat} {v : Value} {x : DataW H × List MemPlace} (h : DataW.trod enc Try.prog w base spare held fuel 24 [v] = some x) :
    ∃ (xs : List Int) (A : Option Addr) (n c : Nat), v = .slice A n c ∧ Fl w (fun _ => True) 1 xs A n c := by
  rcases DataW.trod_slice Try.underlying24 h with ⟨h0, _⟩ | ⟨a, len, cap, elems, rest, f, rfl, h0, _, _, hl, hm, hlen, hel, _, _⟩
  · simp at h0
    subst h0
    exact ⟨[], none, 0, 0, rfl, rfl, Nat.le_refl _, Nat.zero_le _, fun _ => rfl, fun a ha => by cases ha⟩
  · simp at h0
    subst h0
    have key : ∀ m, m ≤ len → ∃ xs : List Int, xs.length = m * 1 ∧ ∀ j, j < xs.length → w.cell? (a.add j) = some (.int .i64 (xs.getD j 0)) := by
      intro m
      induction m with
      | zero => intro _; exact ⟨[], rfl, fun j hj => by simp at hj⟩
      | succ m ih =>
        intro hm'
        obtain ⟨xs, hx, hg⟩ := ih (by omega)
        have h1 := hel m (by omega)
        rw [cellsIntR, List.getElem?_eq_getElem (by omega)] at h1
        obtain ⟨cs, hcs, ht⟩ := Option.bind_eq_some_iff.1 h1
        obtain ⟨_, hcl, hcell⟩ := World.cells?_some hcs
        match cs, hcl with
        | [c0], _ =>
          obtain ⟨x, e0, _, _⟩ := DataW.trod_int Try.underlying3 ht
          simp at e0
          subst e0
          have z0 := hcell 0 (by omega)
          rw [add_ad] at z0
          simp at z0
          refine ⟨xs ++ [x], by simp [hx], fun j hj => ?_⟩
          by_cases e : j < xs.length
          · rw [hg j e]; simp [List.getD, e, List.getElem?_append_left e]
          · have : j = m := by simp at hj; omega
            subst this
            rw [z0]
            simp at hx
            simp [List.getD, ← hx]
    obtain ⟨xs, hx, hg⟩ := key len (Nat.le_refl _)
    exact ⟨xs, some a, len, cap, rfl, hx, hl, hm, (fun h => by cases h), fun b hb j hj => by
      obtain rfl : b = a := by injection hb with h; exact h.symm
      exact ⟨trivial, hg j hj⟩⟩



theorem open_issF {fuel : Nat} {v : Value} {x : DataW H × List MemPlace} (h : DataW.trod enc Try.prog w base spare held fuel 57 [v] = some x) :
    ∃ (Ls : List (List Int)) (A : Option Addr) (n c : Nat), v = .slice A n c ∧ Recs issShape w (fun _ => True) Ls A n c :=
  open_recs (s := issShape) Try.underlying57 cellsIntsR (fun fuel cs x h => by
    have hl : cs.length = 1 := by
      rcases DataW.trod_slice Try.underlying24 h with ⟨h0, _⟩ | ⟨a, len, cap, _, _, _, _, h0, _⟩ <;> rw [h0] <;> rfl
    match cs, hl with
    | [v], _ =>
      obtain ⟨xs, A, n, c, rfl, hf⟩ := open_intsF h
      obtain rfl := fl_one hf
      exact ⟨xs, A, c, rfl, hf⟩) h
end
end Go.Proofs.Ythamehcfenncaaa
