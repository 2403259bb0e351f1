/- What holds of the worklist and of what was met, from round to round. -/
import Derived.Test.YtlmgbpbiljnohaaSamePure
namespace Go.Proofs.Ytlmgbpbiljnohaa
open Go.ChangeShapes Go.WideShapes Go.ChangeAt Go.RowKit

/-- A pair of lists that is still to be compared. -/
structure Pr where
  A : Option Addr
  c : Nat
  L : SL
  A' : Option Addr
  c' : Nat
  L' : SL

def Pr.cells (p : Pr) : List Value := [.slice p.A p.L.len p.c, .slice p.A' p.L'.len p.c']
def cellsOf (st : List Pr) : List Value := st.flatMap Pr.cells
theorem cellsOf_len (st : List Pr) : (cellsOf st).length = st.length * 2 := by
  induction st with
  | nil => rfl
  | cons p st ih => simp only [cellsOf, List.flatMap_cons, List.length_append, List.length_cons] at ih ⊢; rw [ih]; simp [Pr.cells]; omega
theorem cellsOf_app (st tt : List Pr) : cellsOf (st ++ tt) = cellsOf st ++ cellsOf tt := by simp [cellsOf]
def wt (st : List Pr) : Nat := (st.map fun p => 1 + 2 * p.L.size).sum
theorem wt_app (st tt : List Pr) : wt (st ++ tt) = wt st + wt tt := by simp [wt]
theorem wt_ge (st : List Pr) : st.length ≤ wt st := by
  induction st with
  | nil => simp
  | cons p st ih => simp only [wt, List.map_cons, List.sum_cons, List.length_cons] at ih ⊢; omega

def Cov (st : List Pr) (ms : List (SL × SL)) (X Y : SL) : Prop := (X = .nil ∧ Y = .nil) ∨ (∃ p ∈ st, p.L = X ∧ p.L' = Y) ∨ (X, Y) ∈ ms

theorem Cov.mono {st tt : List Pr} {ms ns : List (SL × SL)} (h1 : ∀ p ∈ st, Cov tt ns p.L p.L') (h2 : ∀ q ∈ ms, q ∈ ns) {X Y : SL} (h : Cov st ms X Y) : Cov tt ns X Y := by
  rcases h with h | ⟨p, hp, rfl, rfl⟩ | h
  · exact .inl h
  · exact h1 p hp
  · exact .inr (.inr (h2 _ h))

section
variable (w : World) (S : Nat → Prop) (L0 L0' : SL)

def PrOk (p : Pr) : Prop := SlP w S p.L p.A p.L.len p.c ∧ SlP w S p.L' p.A' p.L'.len p.c'
def KeyOk (ms : List (SL × SL)) (k : Addr × Addr × Int) : Prop := ∃ X Y, (X, Y) ∈ ms ∧ AtP w S X k.1 ∧ AtP w S Y k.2.1 ∧ (X.len : Int) = k.2.2 ∧ (Y.len : Int) = k.2.2 ∧ S k.1.block ∧ S k.2.1.block

structure SameInv (st : List Pr) (ms : List (SL × SL)) (ks : List (Addr × Addr × Int)) : Prop where
  ok : ∀ p ∈ st, PrOk w S p
  yes : L0 = L0' → ∀ p ∈ st, p.L = p.L'
  met : ∀ q ∈ ms, Numb (Cov st ms) q.1 q.2
  keys : ∀ k ∈ ks, KeyOk w S ms k
  cov : Cov st ms L0 L0'

/-- In the midst of a pair, behind its first i statements. -/
structure Half (st : List Pr) (ms : List (SL × SL)) (p : Pr) (ks : List (Addr × Addr × Int)) (i : Nat) : Prop where
  ok : ∀ q ∈ st, PrOk w S q
  okp : PrOk w S p
  yes : L0 = L0' → ∀ q ∈ st, q.L = q.L'
  yesp : L0 = L0' → p.L = p.L'
  met : ∀ q ∈ ms, Numb (Cov st (ms ++ [(p.L, p.L')])) q.1 q.2
  part : Numb (Cov st (ms ++ [(p.L, p.L')])) (p.L.first i) (p.L'.first i)
  keys : ∀ k ∈ ks, KeyOk w S (ms ++ [(p.L, p.L')]) k
  cov : Cov st (ms ++ [(p.L, p.L')]) L0 L0'
end

section
variable {w : World} {S : Nat → Prop} {L0 L0' : SL} {st : List Pr} {ms : List (SL × SL)} {ks : List (Addr × Addr × Int)} {p : Pr}

theorem SameInv.start {A A' : Option Addr} {c c' : Nat} (h : SlP w S L0 A L0.len c) (h' : SlP w S L0' A' L0'.len c') : SameInv w S L0 L0' [⟨A, c, L0, A', c', L0'⟩] [] [] :=
  ⟨fun p hp => by rw [List.mem_singleton] at hp; subst hp; exact ⟨h, h'⟩, fun e p hp => by rw [List.mem_singleton] at hp; subst hp; exact e, fun q hq => (by cases hq), fun k hk => (by cases hk), .inr (.inl ⟨_, List.mem_singleton.2 rfl, rfl, rfl⟩)⟩

/-- A pair of which all is known is dropped. -/
theorem SameInv.drop (h : SameInv w S L0 L0' (st ++ [p]) ms ks) (hp : (p.L = .nil ∧ p.L' = .nil) ∨ (p.L, p.L') ∈ ms) : SameInv w S L0 L0' st ms ks := by
  have hc : ∀ q ∈ st ++ [p], Cov st ms q.L q.L' := fun q hq => by
    rcases List.mem_append.1 hq with hq | hq
    · exact .inr (.inl ⟨q, hq, rfl, rfl⟩)
    · rw [List.mem_singleton] at hq
      subst hq
      rcases hp with hp | hp
      · exact .inl hp
      · exact .inr (.inr hp)
  exact ⟨fun q hq => h.ok q (by simp [hq]), fun e q hq => h.yes e q (by simp [hq]), fun q hq => (h.met q hq).mono fun _ _ => Cov.mono hc (fun _ h => h), h.keys, Cov.mono hc (fun _ h => h) h.cov⟩

/-- A key that was met names its pair. -/
theorem SameInv.found {a b : Addr} {n : Int} (h : SameInv w S L0 L0' (st ++ [p]) ms ks) (hk : (a, b, n) ∈ ks) (hA : p.A = some a) (hA' : p.A' = some b) (hn : (p.L.len : Int) = n) (hn' : (p.L'.len : Int) = n) : (p.L, p.L') ∈ ms := by
  obtain ⟨X, Y, hm, hX, hY, lX, lY, _, _⟩ := h.keys _ hk
  obtain ⟨h1, h2⟩ := h.ok p (by simp)
  have e1 : X = p.L := atP_one hX (h1.at_ a hA) (by simp only at lX; omega)
  have e2 : Y = p.L' := atP_one hY (h2.at_ b hA') (by simp only at lY; omega)
  rw [← e1, ← e2]
  exact hm

/-- A new pair is begun. -/
theorem SameInv.begin {a b : Addr} (h : SameInv w S L0 L0' (st ++ [p]) ms ks) (hA : p.A = some a) (hA' : p.A' = some b) (hl : p.L.len = p.L'.len) (h0 : 0 < p.L.len) : Half w S L0 L0' st ms p (ks ++ [(a, b, (p.L.len : Int))]) 0 := by
  have hc : ∀ q ∈ st ++ [p], Cov st (ms ++ [(p.L, p.L')]) q.L q.L' := fun q hq => by
    rcases List.mem_append.1 hq with hq | hq
    · exact .inr (.inl ⟨q, hq, rfl, rfl⟩)
    · rw [List.mem_singleton] at hq
      subst hq
      exact .inr (.inr (by simp))
  have hm : ∀ q ∈ ms, q ∈ ms ++ [(p.L, p.L')] := fun q hq => by simp [hq]
  obtain ⟨o1, o2⟩ := h.ok p (by simp)
  refine ⟨fun q hq => h.ok q (by simp [hq]), ⟨o1, o2⟩, fun e q hq => h.yes e q (by simp [hq]), fun e => h.yes e p (by simp), fun q hq => (h.met q hq).mono fun _ _ => Cov.mono hc hm, by rw [SL.first_zero, SL.first_zero]; trivial, fun k hk => ?_, Cov.mono hc hm h.cov⟩
  rcases List.mem_append.1 hk with hk | hk
  · obtain ⟨X, Y, h1, h2⟩ := h.keys k hk
    exact ⟨X, Y, hm _ h1, h2⟩
  · rw [List.mem_singleton] at hk
    subst hk
    refine ⟨p.L, p.L', by simp, o1.at_ a hA, o2.at_ b hA', rfl, by simp [hl], ?_, ?_⟩
    · have := o1.at_ a hA
      cases hL : p.L with
      | nil => rw [hL] at h0; simp [SL.len] at h0
      | cons => rw [hL] at this; exact this.1
    · have := o2.at_ b hA'
      cases hL : p.L' with
      | nil => rw [hL] at hl; rw [hl] at h0; simp [SL.len] at h0
      | cons => rw [hL] at this; exact this.1

/-- One statement more of it, its bodies laid onto the worklist. -/
theorem Half.next {i : Nat} {k x y n : Int} {B E R B' E' R' : SL} {AB AE AB' AE' : Option Addr} {cB cE cB' cE' : Nat} (h : Half w S L0 L0' st ms p ks i) (hd : p.L.drop i = .cons k x y n B E R) (hd' : p.L'.drop i = .cons k x y n B' E' R')
    (hB : SlP w S B AB B.len cB) (hB' : SlP w S B' AB' B'.len cB') (hE : SlP w S E AE E.len cE) (hE' : SlP w S E' AE' E'.len cE') :
    Half w S L0 L0' (st ++ [⟨AB, cB, B, AB', cB', B'⟩, ⟨AE, cE, E, AE', cE', E'⟩]) ms p ks (i + 1) := by
  have hc : ∀ q ∈ st, Cov (st ++ [⟨AB, cB, B, AB', cB', B'⟩, ⟨AE, cE, E, AE', cE', E'⟩]) (ms ++ [(p.L, p.L')]) q.L q.L' := fun q hq => .inr (.inl ⟨q, by simp [hq], rfl, rfl⟩)
  have up : ∀ X Y, Cov st (ms ++ [(p.L, p.L')]) X Y → Cov (st ++ [⟨AB, cB, B, AB', cB', B'⟩, ⟨AE, cE, E, AE', cE', E'⟩]) (ms ++ [(p.L, p.L')]) X Y := fun _ _ => Cov.mono hc (fun _ h => h)
  refine ⟨fun q hq => ?_, h.okp, fun e q hq => ?_, h.yesp, fun q hq => (h.met q hq).mono up, ?_, h.keys, up _ _ h.cov⟩
  · rcases List.mem_append.1 hq with hq | hq
    · exact h.ok q hq
    · rcases List.mem_cons.1 hq with rfl | hq
      · exact ⟨hB, hB'⟩
      · rw [List.mem_singleton] at hq; subst hq; exact ⟨hE, hE'⟩
  · have hpe := h.yesp e
    rw [hpe, hd'] at hd
    injection hd with _ _ _ _ eB eE _
    rcases List.mem_append.1 hq with hq | hq
    · exact h.yes e q hq
    · rcases List.mem_cons.1 hq with rfl | hq
      · exact eB.symm
      · rw [List.mem_singleton] at hq; subst hq; exact eE.symm
  · rw [SL.first_succ hd, SL.first_succ hd']
    exact (h.part.mono up).snoc (.inr (.inl ⟨⟨AB, cB, B, AB', cB', B'⟩, by simp, rfl, rfl⟩)) (.inr (.inl ⟨⟨AE, cE, E, AE', cE', E'⟩, by simp, rfl, rfl⟩))

/-- All of it. -/
theorem Half.done (h : Half w S L0 L0' st ms p ks p.L.len) (hl : p.L.len = p.L'.len) : SameInv w S L0 L0' st (ms ++ [(p.L, p.L')]) ks :=
  ⟨h.ok, h.yes, fun q hq => by
    rcases List.mem_append.1 hq with hq | hq
    · exact h.met q hq
    · rw [List.mem_singleton] at hq
      subst hq
      have := h.part
      rw [p.L.first_all, hl, p.L'.first_all] at this
      exact this, h.keys, h.cov⟩

/-- Nothing is left: the two are one. -/
theorem SameInv.same (h : SameInv w S L0 L0' [] ms ks) : L0 = L0' := by
  have cl : ∀ X Y, Cov [] ms X Y → (X = .nil ∧ Y = .nil) ∨ (X, Y) ∈ ms := fun X Y hc => by
    rcases hc with hc | ⟨p, hp, _⟩ | hc
    · exact .inl hc
    · cases hp
    · exact .inr hc
  have hm := fun q hq => (h.met q hq).mono cl
  rcases cl _ _ h.cov with ⟨rfl, rfl⟩ | hc
  · rfl
  · exact met_same hm (L0.size + 1) L0 L0' (by omega) hc
end
end Go.Proofs.Ytlmgbpbiljnohaa
