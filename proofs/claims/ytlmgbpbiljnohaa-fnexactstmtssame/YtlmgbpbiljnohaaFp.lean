/- Lists of statements in memory with the blocks of their bodies written out: lists no two of whose parts share a block. -/
import Derived.Test.YtlmgbpbiljnohaaNew
import Derived.Test.YtlmgbpbiljnohaaFl
namespace Go.Proofs.Ytlmgbpbiljnohaa
open Go.ChangeShapes Go.WideShapes Go.ChangeAt Go.RowKit

/-- One list behind the other. -/
def SL.plus : SL → SL → SL
  | .nil, M => M
  | .cons k x y n B E R, M => .cons k x y n B E (R.plus M)
/-- The first i. -/
def SL.first : SL → Nat → SL
  | _, 0 => .nil
  | .nil, _ + 1 => .nil
  | .cons k x y n B E R, i + 1 => .cons k x y n B E (R.first i)

theorem SL.plus_len (L M : SL) : (L.plus M).len = L.len + M.len := by
  induction L with
  | nil => simp [SL.plus, SL.len]
  | cons k x y n B E R _ _ ih => simp only [SL.plus, SL.len, ih]; omega
theorem SL.plus_size (L M : SL) : (L.plus M).size = L.size + M.size := by
  induction L with
  | nil => simp [SL.plus, SL.size]
  | cons k x y n B E R _ _ ih => simp only [SL.plus, SL.size, ih]; omega
theorem SL.first_len (L : SL) (i : Nat) (h : i ≤ L.len) : (L.first i).len = i := by
  induction L generalizing i with
  | nil => simp [SL.len] at h; subst h; rfl
  | cons k x y n B E R _ _ ih => cases i with
    | zero => rfl
    | succ i => simp only [SL.first, SL.len, ih i (by simp only [SL.len] at h; omega)]
theorem SL.first_all (L : SL) : L.first L.len = L := by
  induction L with
  | nil => rfl
  | cons k x y n B E R _ _ ih => simp only [SL.len, SL.first, ih]
theorem SL.first_zero (L : SL) : L.first 0 = .nil := by cases L <;> rfl
theorem SL.first_succ {L : SL} : ∀ {i : Nat} {k x y n : Int} {B E R : SL}, L.drop i = .cons k x y n B E R → L.first (i + 1) = (L.first i).plus (.cons k x y n B E .nil) := by
  induction L with
  | nil => intro i k x y n B E R h; cases i <;> simp [SL.drop] at h
  | cons k' x' y' n' B' E' R' _ _ ih =>
    intro i k x y n B E R h
    cases i with
    | zero =>
      rw [SL.drop_zero] at h
      injection h with h1 h2 h3 h4 h5 h6 h7
      subst h1 h2 h3 h4 h5 h6 h7
      cases R' <;> rfl
    | succ i => simp only [SL.first, SL.plus]; rw [ih h]

theorem SL.first_drop_size (L : SL) (i : Nat) : (L.first i).size + (L.drop i).size = L.size := by
  induction L generalizing i with
  | nil => cases i <;> rfl
  | cons k x y n B E R _ _ ih => cases i with
    | zero => simp [SL.first, SL.drop, SL.size]
    | succ i => have := ih i; simp only [SL.first, SL.drop, SL.size]; omega

/-- The list lies in block g from o on; its bodies lie in the blocks F, body by body; its numbers can be written. -/
def AtF (w : World) : SL → Nat → Nat → List Nat → Prop
  | .nil, _, _, F => F = []
  | .cons k x y n B E R, g, o, F => w.cell? ⟨g, o, none⟩ = some (.int .i64 k) ∧ w.cell? ⟨g, o + 1, none⟩ = some (.int .i64 x) ∧ w.cell? ⟨g, o + 2, none⟩ = some (.int .i64 y) ∧ w.cell? ⟨g, o + 3, none⟩ = some (.int .i64 n) ∧
      (w.frozen? ⟨g, o, none⟩ = false ∧ w.frozen? ⟨g, o + 1, none⟩ = false ∧ w.frozen? ⟨g, o + 2, none⟩ = false ∧ w.frozen? ⟨g, o + 3, none⟩ = false) ∧
      ∃ (A : Option Addr) (c : Nat) (A' : Option Addr) (c' : Nat) (FB FE FR : List Nat), w.cell? ⟨g, o + 4, none⟩ = some (.slice A B.len c) ∧ w.cell? ⟨g, o + 5, none⟩ = some (.slice A' E.len c') ∧
        (B.len ≤ c ∧ c ≤ maxLen ∧ (A = none → B = .nil ∧ FB = []) ∧ ∀ p, A = some p → ∃ b F', p = ⟨b, 0, none⟩ ∧ FB = b :: F' ∧ AtF w B b 0 F') ∧
        (E.len ≤ c' ∧ c' ≤ maxLen ∧ (A' = none → E = .nil ∧ FE = []) ∧ ∀ p, A' = some p → ∃ b F', p = ⟨b, 0, none⟩ ∧ FE = b :: F' ∧ AtF w E b 0 F') ∧
        AtF w R g (o + 6) FR ∧ F = FB ++ (FE ++ FR)

/-- The slice reads as L; the blocks that it lies in are F. -/
structure SlF (w : World) (L : SL) (A : Option Addr) (c : Nat) (F : List Nat) : Prop where
  le : L.len ≤ c
  top : c ≤ maxLen
  nil : A = none → L = .nil ∧ F = []
  at_ : ∀ p, A = some p → ∃ b F', p = ⟨b, 0, none⟩ ∧ F = b :: F' ∧ AtF w L b 0 F'

theorem AtF.cons_iff {w : World} {k x y n : Int} {B E R : SL} {g o : Nat} {F : List Nat} : AtF w (.cons k x y n B E R) g o F ↔
    w.cell? ⟨g, o, none⟩ = some (.int .i64 k) ∧ w.cell? ⟨g, o + 1, none⟩ = some (.int .i64 x) ∧ w.cell? ⟨g, o + 2, none⟩ = some (.int .i64 y) ∧ w.cell? ⟨g, o + 3, none⟩ = some (.int .i64 n) ∧
      (w.frozen? ⟨g, o, none⟩ = false ∧ w.frozen? ⟨g, o + 1, none⟩ = false ∧ w.frozen? ⟨g, o + 2, none⟩ = false ∧ w.frozen? ⟨g, o + 3, none⟩ = false) ∧
      ∃ (A : Option Addr) (c : Nat) (A' : Option Addr) (c' : Nat) (FB FE FR : List Nat), w.cell? ⟨g, o + 4, none⟩ = some (.slice A B.len c) ∧ w.cell? ⟨g, o + 5, none⟩ = some (.slice A' E.len c') ∧
        SlF w B A c FB ∧ SlF w E A' c' FE ∧ AtF w R g (o + 6) FR ∧ F = FB ++ (FE ++ FR) := by
  constructor
  · rintro ⟨h0, h1, h2, h3, hf, A, c, A', c', FB, FE, FR, h4, h5, ⟨b1, b2, b3, b4⟩, ⟨e1, e2, e3, e4⟩, hR, hF⟩
    exact ⟨h0, h1, h2, h3, hf, A, c, A', c', FB, FE, FR, h4, h5, ⟨b1, b2, b3, b4⟩, ⟨e1, e2, e3, e4⟩, hR, hF⟩
  · rintro ⟨h0, h1, h2, h3, hf, A, c, A', c', FB, FE, FR, h4, h5, ⟨b1, b2, b3, b4⟩, ⟨e1, e2, e3, e4⟩, hR, hF⟩
    exact ⟨h0, h1, h2, h3, hf, A, c, A', c', FB, FE, FR, h4, h5, ⟨b1, b2, b3, b4⟩, ⟨e1, e2, e3, e4⟩, hR, hF⟩

/-- It stays where its own cells and the blocks of its bodies do. -/
theorem AtF.keep {w w' : World} {L : SL} : ∀ {g o : Nat} {F : List Nat}, AtF w L g o F → (∀ i, i < L.len * 6 → w'.cell? ⟨g, o + i, none⟩ = w.cell? ⟨g, o + i, none⟩ ∧ w'.frozen? ⟨g, o + i, none⟩ = w.frozen? ⟨g, o + i, none⟩) → (∀ b ∈ F, w'.heap[b]? = w.heap[b]?) → AtF w' L g o F := by
  induction L with
  | nil => intro g o F h _ _; exact h
  | cons k x y n B E R hB hE hR =>
    intro g o F h hc hb
    obtain ⟨h0, h1, h2, h3, ⟨f0, f1, f2, f3⟩, A, c, A', c', FB, FE, FR, h4, h5, sB, sE, hr, rfl⟩ := AtF.cons_iff.1 h
    have key : ∀ i, i < 6 → w'.cell? ⟨g, o + i, none⟩ = w.cell? ⟨g, o + i, none⟩ ∧ w'.frozen? ⟨g, o + i, none⟩ = w.frozen? ⟨g, o + i, none⟩ := fun i hi => hc i (by simp only [SL.len]; omega)
    have k0 := key 0 (by omega)
    rw [Nat.add_zero] at k0
    have blk : ∀ b, w'.heap[b]? = w.heap[b]? → ∀ j, w'.cell? ⟨b, j, none⟩ = w.cell? ⟨b, j, none⟩ ∧ w'.frozen? ⟨b, j, none⟩ = w.frozen? ⟨b, j, none⟩ := fun b h j => ⟨World.cell?_of_block (w := w) (a := ⟨b, j, none⟩) h, World.frozen?_of_block (w := w) (a := ⟨b, j, none⟩) h⟩
    refine AtF.cons_iff.2 ⟨k0.1.trans h0, (key 1 (by omega)).1.trans h1, (key 2 (by omega)).1.trans h2, (key 3 (by omega)).1.trans h3,
      ⟨k0.2.trans f0, (key 1 (by omega)).2.trans f1, (key 2 (by omega)).2.trans f2, (key 3 (by omega)).2.trans f3⟩, A, c, A', c', FB, FE, FR, (key 4 (by omega)).1.trans h4, (key 5 (by omega)).1.trans h5, ?_, ?_, ?_, rfl⟩
    · refine ⟨sB.le, sB.top, sB.nil, fun p hp => ?_⟩
      obtain ⟨b, F', e, hF, hM⟩ := sB.at_ p hp
      exact ⟨b, F', e, hF, hB hM (fun i _ => blk b (hb b (by rw [hF]; simp)) _) fun d hd => hb d (by rw [hF]; simp [hd])⟩
    · refine ⟨sE.le, sE.top, sE.nil, fun p hp => ?_⟩
      obtain ⟨b, F', e, hF, hM⟩ := sE.at_ p hp
      exact ⟨b, F', e, hF, hE hM (fun i _ => blk b (hb b (by rw [hF]; simp)) _) fun d hd => hb d (by rw [hF]; simp [hd])⟩
    · exact hR hr (fun i hi => by rw [Nat.add_assoc]; exact hc (6 + i) (by simp only [SL.len]; omega)) (fun b hbF => hb b (by simp [hbF]))

theorem SlF.keep {w w' : World} {L : SL} {A : Option Addr} {c : Nat} {F : List Nat} (h : SlF w L A c F) (hb : ∀ b ∈ F, w'.heap[b]? = w.heap[b]?) : SlF w' L A c F :=
  ⟨h.le, h.top, h.nil, fun p hp => by
    obtain ⟨b, F', e, hF, hM⟩ := h.at_ p hp
    have h0 := hb b (by rw [hF]; simp)
    exact ⟨b, F', e, hF, hM.keep (fun i _ => ⟨World.cell?_of_block (w := w) (a := ⟨b, 0 + i, none⟩) h0, World.frozen?_of_block (w := w) (a := ⟨b, 0 + i, none⟩) h0⟩) (fun d hd => hb d (by rw [hF]; simp [hd]))⟩⟩

/-- In two parts. -/
theorem AtF.split {w : World} {L : SL} : ∀ {g o : Nat} {F : List Nat} (i : Nat), AtF w L g o F → ∃ F1 F2, F = F1 ++ F2 ∧ AtF w (L.first i) g o F1 ∧ AtF w (L.drop i) g (o + i * 6) F2 := by
  induction L with
  | nil => intro g o F i h; cases i <;> exact ⟨[], [], h, rfl, rfl⟩
  | cons k x y n B E R _ _ ih =>
    intro g o F i h
    cases i with
    | zero => exact ⟨[], F, rfl, rfl, by rw [SL.drop_zero, Nat.zero_mul, Nat.add_zero]; exact h⟩
    | succ i =>
      obtain ⟨h0, h1, h2, h3, hf, A, c, A', c', FB, FE, FR, h4, h5, sB, sE, hr, rfl⟩ := AtF.cons_iff.1 h
      obtain ⟨F1, F2, rfl, g1, g2⟩ := ih i hr
      refine ⟨FB ++ (FE ++ F1), F2, by simp, AtF.cons_iff.2 ⟨h0, h1, h2, h3, hf, A, c, A', c', FB, FE, F1, h4, h5, sB, sE, g1, rfl⟩, ?_⟩
      rw [show o + 6 + i * 6 = o + (i + 1) * 6 from by omega] at g2
      exact g2
theorem AtF.join {w : World} {L M : SL} : ∀ {g o : Nat} {F1 F2 : List Nat}, AtF w L g o F1 → AtF w M g (o + L.len * 6) F2 → AtF w (L.plus M) g o (F1 ++ F2) := by
  induction L with
  | nil => intro g o F1 F2 h q; have e : F1 = [] := h; subst e; simpa [SL.plus, SL.len] using q
  | cons k x y n B E R _ _ ih =>
    intro g o F1 F2 h q
    obtain ⟨h0, h1, h2, h3, hf, A, c, A', c', FB, FE, FR, h4, h5, sB, sE, hr, rfl⟩ := AtF.cons_iff.1 h
    have := ih hr (by rw [show o + 6 + R.len * 6 = o + (R.len + 1) * 6 from by omega]; exact q)
    exact AtF.cons_iff.2 ⟨h0, h1, h2, h3, hf, A, c, A', c', FB, FE, FR ++ F2, h4, h5, sB, sE, this, by simp⟩

/-- What lies so, lies in blocks of a kind. -/
theorem AtF.atP {w : World} {S : Nat → Prop} {L : SL} : ∀ {g o : Nat} {F : List Nat}, AtF w L g o F → S g → (∀ b ∈ F, S b) → AtP w S L ⟨g, o, none⟩ := by
  induction L with
  | nil => intro g o F _ _ _; trivial
  | cons k x y n B E R hB hE hR =>
    intro g o F h ha hF
    obtain ⟨h0, h1, h2, h3, hf, A, c, A', c', FB, FE, FR, h4, h5, sB, sE, hr, rfl⟩ := AtF.cons_iff.1 h
    refine ⟨ha, h0, h1, h2, h3, ⟨A, c, h4, sB.le, sB.top, fun e => (sB.nil e).1, fun p hp => ?_⟩, ⟨A', c', h5, sE.le, sE.top, fun e => (sE.nil e).1, fun p hp => ?_⟩, hR hr ha fun b hb => hF b (by simp [hb])⟩
    · obtain ⟨b, F', rfl, e, hM⟩ := sB.at_ p hp
      exact hB hM (hF _ (by rw [e]; simp)) fun d hd => hF d (by rw [e]; simp [hd])
    · obtain ⟨b, F', rfl, e, hM⟩ := sE.at_ p hp
      exact hE hM (hF _ (by rw [e]; simp)) fun d hd => hF d (by rw [e]; simp [hd])
theorem SlF.slP {w : World} {S : Nat → Prop} {L : SL} {A : Option Addr} {c : Nat} {F : List Nat} (h : SlF w L A c F) (hS : ∀ b ∈ F, S b) : SlP w S L A L.len c :=
  ⟨rfl, h.le, h.top, fun e => (h.nil e).1, fun p hp => by
    obtain ⟨b, F', rfl, e, hM⟩ := h.at_ p hp
    exact hM.atP (hS _ (by rw [e]; simp)) fun d hd => hS d (by rw [e]; simp [hd])⟩

/-- The world w' is w but for the blocks F. -/
structure ButF (w w' : World) (F : List Nat) : Prop where
  os : w'.os = w.os
  tape : w'.tape = w.tape
  output : w'.output = w.output
  size : w.heap.size ≤ w'.heap.size
  block : ∀ k, k < w.heap.size → k ∉ F → w'.heap[k]? = w.heap[k]?

theorem ButF.refl (w : World) (F : List Nat) : ButF w w F := ⟨rfl, rfl, rfl, Nat.le_refl _, fun _ _ _ => rfl⟩
theorem ButF.trans {a b c : World} {F : List Nat} (h : ButF a b F) (k : ButF b c F) : ButF a c F :=
  ⟨k.os.trans h.os, k.tape.trans h.tape, k.output.trans h.output, Nat.le_trans h.size k.size, fun i hi hr => (k.block i (by have := h.size; omega) hr).trans (h.block i hi hr)⟩
theorem ButF.mono {w w' : World} {F G : List Nat} (h : ButF w w' F) (hG : ∀ b ∈ F, b ∈ G) : ButF w w' G := ⟨h.os, h.tape, h.output, h.size, fun k hk hn => h.block k hk fun hf => hn (hG k hf)⟩
theorem ButF.set (w : World) (p : Addr) (u : Value) {F : List Nat} (hp : p.block ∈ F) : ButF w (w.setCell p u) F :=
  ⟨rfl, rfl, rfl, by simp [World.setCell], fun k _ hn => Below.heap_setCell w p u k fun e => hn (by rw [e]; exact hp)⟩
theorem ButF.below {w w' : World} {F : List Nat} {N : Nat} (h : ButF w w' F) (hN : N ≤ w.heap.size) (hF : ∀ b ∈ F, N ≤ b) : Below N w w' :=
  ⟨h.os, h.tape, h.output, h.size, fun k hk => h.block k (by omega) fun hf => by have := hF k hf; omega⟩
end Go.Proofs.Ytlmgbpbiljnohaa
