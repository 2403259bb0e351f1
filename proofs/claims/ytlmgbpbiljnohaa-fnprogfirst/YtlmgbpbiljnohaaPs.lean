/- Programs: slices of lists of statements. -/
import Derived.Test.YtlmgbpbiljnohaaNew
namespace Go.Proofs.Ytlmgbpbiljnohaa
open Go.ChangeShapes Go.WideShapes Go.ChangeAt Go.RowKit

/-- The slice of n places at A reads as the lists Ls. -/
structure Ps (w : World) (N : Nat) (Ls : List SL) (A : Option Addr) (n c : Nat) : Prop where
  len : n = Ls.length
  le : n ≤ c
  top : c ≤ maxLen
  at_ : ∀ i (h : i < Ls.length), ∃ (a : Addr) (A' : Option Addr) (c' : Nat), A = some a ∧ a.block < N ∧ w.cell? (a.add i) = some (.slice A' (Ls[i]).len c') ∧ Sl w N (Ls[i]) A' (Ls[i]).len c'

/-- As Ps, in blocks of S. -/
structure PsP (w : World) (S : Nat → Prop) (Ls : List SL) (A : Option Addr) (n c : Nat) : Prop where
  len : n = Ls.length
  le : n ≤ c
  top : c ≤ maxLen
  at_ : ∀ i (h : i < Ls.length), ∃ (a : Addr) (A' : Option Addr) (c' : Nat), A = some a ∧ S a.block ∧ w.cell? (a.add i) = some (.slice A' (Ls[i]).len c') ∧ SlP w S (Ls[i]) A' (Ls[i]).len c'

theorem add_blk (a : Addr) (i : Nat) : (a.add i).block = a.block := by unfold Addr.add; split <;> rfl

theorem Ps.below {N : Nat} {w w' : World} {Ls : List SL} {A : Option Addr} {n c : Nat} (h : Ps w N Ls A n c) (hb : Below N w w') : Ps w' N Ls A n c :=
  ⟨h.len, h.le, h.top, fun i hi => by
    obtain ⟨a, A', c', rfl, ha, hc, hs⟩ := h.at_ i hi
    exact ⟨a, A', c', rfl, ha, by rw [hb.cell (by rw [add_blk]; exact ha)]; exact hc, hs.below hb⟩⟩
theorem Ps.mono {N M : Nat} {w : World} {Ls : List SL} {A : Option Addr} {n c : Nat} (h : Ps w N Ls A n c) (hm : N ≤ M) : Ps w M Ls A n c :=
  ⟨h.len, h.le, h.top, fun i hi => by
    obtain ⟨a, A', c', rfl, ha, hc, hs⟩ := h.at_ i hi
    exact ⟨a, A', c', rfl, by omega, hc, hs.mono hm⟩⟩
theorem PsP.ps {S : Nat → Prop} {N : Nat} {w : World} {Ls : List SL} {A : Option Addr} {n c : Nat} (h : PsP w S Ls A n c) (hN : ∀ b, S b → b < N) : Ps w N Ls A n c :=
  ⟨h.len, h.le, h.top, fun i hi => by
    obtain ⟨a, A', c', rfl, ha, hc, hs⟩ := h.at_ i hi
    exact ⟨a, A', c', rfl, hN _ ha, hc, hs.sl hN⟩⟩

/-- How much a program holds. -/
def sizeP : List SL → Nat
  | [] => 0
  | L :: Ls => 1 + L.size + sizeP Ls
/-- Without the places of the lists themselves. -/
def innerP : List SL → Nat
  | [] => 0
  | L :: Ls => L.size + innerP Ls
theorem sizeP_eq (Ls : List SL) : sizeP Ls = Ls.length + innerP Ls := by
  induction Ls with
  | nil => rfl
  | cons L Ls ih => simp only [sizeP, innerP, List.length_cons]; omega
theorem sizeP_get {Ls : List SL} : ∀ {i : Nat} (h : i < Ls.length), (Ls[i]).size < sizeP Ls := by
  induction Ls with
  | nil => intro i h; simp at h
  | cons L Ls ih =>
    intro i h
    cases i with
    | zero => simp only [List.getElem_cons_zero, sizeP]; omega
    | succ i => simp only [List.getElem_cons_succ, sizeP]; have := ih (i := i) (by simpa using h); omega
theorem innerP_drop {Ls : List SL} {i : Nat} (h : i < Ls.length) : innerP (Ls.drop i) = (Ls[i]).size + innerP (Ls.drop (i + 1)) := by
  rw [List.drop_eq_getElem_cons h]; rfl
end Go.Proofs.Ytlmgbpbiljnohaa
