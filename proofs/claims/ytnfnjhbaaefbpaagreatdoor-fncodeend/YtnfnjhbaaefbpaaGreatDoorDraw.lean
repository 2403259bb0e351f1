/- What the laws draw of chapter 2: some statement, some list. -/
import Derived.Test.YtnfnjhbaaefbpaaGreatDoorDec
import Derived.Test.YtnfnjhbaaefbpaaGreatDoorOpen
import Derived.Test.YtnfnjhbaaefbpaaGreatDoorApp
namespace Go.Proofs.YtnfnjhbaaefbpaaGreatDoor
open Go.ChangeShapes Go.WideShapes Go.ChangeAt Go.RowKit

/-- While a statement is drawn: the reader stands at q; the block of the result is as it was laid. -/
structure Inv (w : World) (g : Nat) (p q : Int) (m : Nat) (wc : World) : Prop where
  rd : Rd wc g q
  lo : p ≤ q
  hi : q ≤ p + m
  gr : w.grownBy wc (some g)
  lt : w.heap.size < wc.heap.size
  row : wc.heap[w.heap.size]? = some (.cells #[.int .i64 0, .int .i64 0, .int .i64 0, .int .i64 0, .slice none 0 0, .slice none 0 0] 36 (0, 0))
  gl : g < w.heap.size

theorem Inv.step {w : World} {g : Nat} {p q q' : Int} {m : Nat} {wc wc' : World} (h : Inv w g p q m wc) (hr : Rd wc' g q') (hq : q ≤ q') (hm : q' ≤ p + m) (hg : wc.grownBy wc' (some g)) : Inv w g p q' m wc' :=
  ⟨hr, Int.le_trans h.lo hq, hm, h.gr.trans hg, Nat.lt_of_lt_of_le h.lt hg.size, by rw [hg.block _ h.lt (fun e => by have := h.gl; injection e; omega)]; exact h.row, h.gl⟩
theorem Inv.cells {w : World} {g : Nat} {p q : Int} {m : Nat} {wc : World} (h : Inv w g p q m wc) : (∀ j, wc.cell? ⟨w.heap.size, j, none⟩ = (#[.int .i64 0, .int .i64 0, .int .i64 0, .int .i64 0, .slice none 0 0, .slice none 0 0] : Array Value)[j]?) ∧ ∀ j, wc.frozen? ⟨w.heap.size, j, none⟩ = false :=
  ⟨fun j => row_cell h.row j, fun j => row_frozen h.row j⟩

/-- A list that a call has built and owns. -/
def OwnL (w w' : World) (v : Value) (L : SL) : Prop := ∃ xs, w'.ownsRow w.heap.size 36 6 v L.len xs ∧ Dec w' (fun b => Born w w' b ∧ v.ownBlock ≠ some b) L xs

theorem OwnL.sl {w w' : World} {v : Value} {L : SL} (h : OwnL w w' v L) : ∃ (A : Option Addr) (c : Nat), v = .slice A L.len c ∧ SlP w' (Born w w') L A L.len c := by
  obtain ⟨xs, ho, hd⟩ := h
  exact owns_slP ho (hd.mono fun b hb => hb.1) (fun b hb => own_blocks ho hb)

/-- Some statement, of so many within it, in new memory; the reader has moved on by so much at most. -/
def StPost (m : Nat) (g : Nat) (p : Int) (w : World) (e : Ending) (w' : World) : Prop :=
  ∃ (k x y n : Int) (B E : SL) (A : Option Addr) (c : Nat) (A' : Option Addr) (c' : Nat) (q : Int), e = .returned (.agg #[.int .i64 k, .int .i64 x, .int .i64 y, .int .i64 n, .slice A B.len c, .slice A' E.len c']) ∧
    SlP w' (Born w w') B A B.len c ∧ SlP w' (Born w w') E A' E.len c' ∧ B.size + E.size ≤ m ∧ p ≤ q ∧ q ≤ p + m ∧ Rd w' g q ∧ w.grownBy w' (some g)
def DrawSays (d : Int) (m : Nat) (T : Int) : Prop := ∀ (g : Nat) (p r : Int) (w : World), Rd w g p → 0 ≤ p → p ≤ T →
  Calls Tryz.prog 57 #[.pointer (some ⟨g, 0, none⟩), .int .i64 d, .int .i64 r] w (StPost m g p w)

/-- Some list. -/
def LsPost (m : Nat) (g : Nat) (p : Int) (w : World) (e : Ending) (w' : World) : Prop :=
  ∃ (v : Value) (L : SL) (q : Int), e = .returned v ∧ OwnL w w' v L ∧ L.len ≤ 3 ∧ L.size ≤ m ∧ p ≤ q ∧ q ≤ p + m ∧ Rd w' g q ∧ w.grownBy w' (some g)
def DrawsSays (d : Int) (m : Nat) (T : Int) : Prop := ∀ (g : Nat) (p r : Int) (most : Int) (w : World), Rd w g p → 0 ≤ p → p ≤ T → 0 ≤ most → most ≤ 3 →
  Calls Tryz.prog 71 #[.pointer (some ⟨g, 0, none⟩), .int .i64 d, .int .i64 r, .int .i64 most] w (LsPost m g p w)

theorem info_St : (Tryz.prog.info? 36).map (fun i => (i.zero, i.size, i.bytes)) = some (some (.agg #[.int .i64 0, .int .i64 0, .int .i64 0, .int .i64 0, .slice none 0 0, .slice none 0 0]), 6, 80) := by kernel_rfl

/-- At a round's head of a drawing of lists. -/
def DrawsRel (m : Nat) (g : Nat) (p : Int) (w : World) (mo : Int) (v i : Value) (wr : World) : Prop :=
  ∃ (L : SL) (q z : Int), i = .int .i64 z ∧ 0 ≤ z ∧ z ≤ 3 ∧ L.len + z ≤ mo ∧ OwnL w wr v L ∧ L.size ≤ L.len * (m + 1) ∧ p ≤ q ∧ q ≤ p + 1 + L.len * m ∧ Rd wr g q ∧ w.grownBy wr (some g)

/-- A list that the call owns stays so while another block below is written. -/
theorem OwnL.kept {w wr w1 : World} {v : Value} {L : SL} {g : Nat} (ho : OwnL w wr v L) (hg : wr.grownBy w1 (some g)) (hgl : g < w.heap.size) : OwnL w w1 v L := by
  obtain ⟨xs, h1, h2⟩ := ho
  have hb := fun b hb => own_blocks h1 (b := b) hb
  refine ⟨xs, h1.kept hg ?_, (h2.keep (grown_keep hg fun b hb => ⟨hb.1.2, fun e => by have := hb.1.1; injection e; omega⟩)).mono fun b hb => ⟨⟨hb.1.1, Nat.lt_of_lt_of_le hb.1.2 hg.size⟩, hb.2⟩⟩
  cases hv : v.ownBlock with
  | none => exact .inl rfl
  | some b => exact .inr (fun e => by have := hb b hv; injection e; omega)

/-- A statement's cells appended to a list that the call owns. -/
theorem OwnL.snoc {w wr w1 w2 : World} {v v' : Value} {L : SL} {k x y n : Int} {B E : SL} {A A' : Option Addr} {c c' : Nat} {o : Obj} {xs : List Value}
    (hd : Dec w1 (fun b => Born w wr b ∧ v.ownBlock ≠ some b) L xs) (hwr : wr.heap.size ≤ w1.heap.size) (hz : w.heap.size ≤ wr.heap.size) (hv : ∀ b, v.ownBlock = some b → b < wr.heap.size)
    (hB : SlP w1 (Born wr w1) B A B.len c) (hE : SlP w1 (Born wr w1) E A' E.len c')
    (hw2 : w2.ownsRow w.heap.size 36 6 v' (L.len + 1) (xs ++ [.int .i64 k, .int .i64 x, .int .i64 y, .int .i64 n, .slice A B.len c, .slice A' E.len c']))
    (hg2 : (w1.alloc o).grownBy w2 v.ownBlock) (hnew : v'.ownBlock = v.ownBlock ∨ v'.ownBlock = some (w1.heap.size + 1)) : OwnL w w2 v' (L.app (.cons k x y n B E .nil)) := by
  have hsz : w1.heap.size < w2.heap.size := by have := hg2.size; simp at this; omega
  have k1 : ∀ p : Addr, (fun b => Born w wr b ∧ v.ownBlock ≠ some b) p.block → w2.cell? p = w1.cell? p := fun p hp => by
    rw [World.cell?_of_block (hg2.block p.block (by have := hp.1.2; simp; omega) (fun e => hp.2 e.symm)), World.cell?_of_block (w := w1) (Below.heap_alloc w1 o p.block (by have := hp.1.2; omega))]
  have k2 : ∀ p : Addr, Born wr w1 p.block → w2.cell? p = w1.cell? p := fun p hp => by
    rw [World.cell?_of_block (hg2.block p.block (by have := hp.2; simp; omega) (fun e => by have := hv _ e.symm; have := hp.1; omega)), World.cell?_of_block (w := w1) (Below.heap_alloc w1 o p.block hp.2)]
  have m1 : ∀ b, (Born w wr b ∧ v.ownBlock ≠ some b) → (Born w w2 b ∧ v'.ownBlock ≠ some b) := fun b hb => by
    refine ⟨⟨hb.1.1, by have := hb.1.2; omega⟩, fun e => ?_⟩
    rcases hnew with h | h
    · rw [h] at e; exact hb.2 e
    · rw [h] at e; injection e with e; have := hb.1.2; omega
  have m2 : ∀ b, Born wr w1 b → (Born w w2 b ∧ v'.ownBlock ≠ some b) := fun b hb => by
    refine ⟨⟨by have := hb.1; omega, by have := hb.2; omega⟩, fun e => ?_⟩
    rcases hnew with h | h
    · rw [h] at e; have := hv b e; have := hb.1; omega
    · rw [h] at e; injection e with e; have := hb.2; omega
  refine ⟨_, by rw [SL.len_app]; exact hw2, (Dec.app ((hd.keep k1).mono m1) ?_)⟩
  exact ⟨A, c, A', c', [], rfl, (hB.keep k2).mono m2, (hE.keep k2).mono m2, rfl⟩

theorem born_of {w w1 w2 : World} {L : SL} {A : Option Addr} {n c g : Nat} (h : SlP w1 (Born w w1) L A n c) (hg : w1.grownBy w2 (some g)) (hgl : g < w.heap.size) : SlP w2 (Born w w2) L A n c :=
  (h.keep (grown_keep hg fun b hb => ⟨hb.2, fun e => by have := hb.1; injection e; omega⟩)).mono fun b hb => ⟨hb.1, Nat.lt_of_lt_of_le hb.2 hg.size⟩

/-- What turned a block of the call's own beside what turned g. -/
theorem grown_own {w w2 w3 : World} {g : Nat} {row : Option Nat} (h : w.grownBy w2 (some g)) (h3 : w2.grownBy w3 row) (hr : ∀ b, row = some b → w.heap.size ≤ b) : w.grownBy w3 (some g) :=
  ⟨h3.os.trans h.os, h3.tape.trans h.tape, h3.output.trans h.output, Nat.le_trans h.size h3.size, fun k hk hne => (h3.block k (Nat.lt_of_lt_of_le hk h.size) (fun e => by have := hr k e.symm; omega)).trans (h.block k hk hne)⟩

def v_blk (v : Value) (g : Nat) : Prop := v.ownBlock ≠ some g

theorem cells_six (w : World) (v0 v1 v2 v3 v4 v5 : Value) (t : TypeId) : ∀ j u, [v0, v1, v2, v3, v4, v5][j]? = some u → (w.alloc (.cells #[v0, v1, v2, v3, v4, v5] t)).cell? ((⟨w.heap.size, 0, none⟩ : Addr).add j) = some u := by
  intro j u hj
  rw [show (⟨w.heap.size, 0, none⟩ : Addr).add j = ⟨w.heap.size, j, none⟩ from by unfold Addr.add; split <;> simp_all, row_cell (new_row w _ t)]
  rw [← hj]
  simp
theorem six_one (k x y n : Int) (A A' : Option Addr) (l c l' c' : Nat) : ∀ u ∈ [Value.int .i64 k, .int .i64 x, .int .i64 y, .int .i64 n, .slice A l c, .slice A' l' c'], u.oneCell' = true := by
  intro u hu
  simp at hu
  rcases hu with rfl | rfl | rfl | rfl | rfl | rfl <;> rfl

set_option maxRecDepth 100000 in
set_option maxHeartbeats 1000000 in
/-- Some list, given that of some statement. -/
theorem draws_of (d : Int) (m : Nat) (T : Int) (hT : T ≤ 500000000000) (hm : m ≤ 1000000) (hS : DrawSays d m (T + 10000000)) : DrawsSays d (3 * m + 4) T := by
  intro g p r mo w hR hp0 hp1 hm0 hm1
  have HS := Lib.hid hS
  clear hS
  have hgl := hR.lt
  obtain ⟨i0, hi, hz0, hz1, hz2⟩ := info_parts info_St
  have ba : w.grownBy (w.alloc (.cells #[] 36)) (some g) := World.grownBy_alloc w _ _
  go_enter Tryz.func71, Tryz.ntmps71
  go_wp2_with fail
  refine (pick g p _ _ (hR.alloc _) hp0 (by omega) (by omega)).mono ?_
  rintro e w1 ⟨k, k0, k1, rfl, hR1, hg1⟩
  have hgw := ba.trans hg1
  have hown : OwnL w w1 (.slice (some ⟨w.heap.size, 0, none⟩) 0 0) .nil := by
    refine OwnL.kept (wr := w.alloc (.cells #[] 36)) ⟨[], ?_, rfl⟩ hg1 hgl
    exact ⟨rfl, .inr ⟨w.heap.size, 0, #[], rfl, Nat.le_refl _, new_row w #[] _, Nat.le_refl _, Nat.zero_le _, rfl, rfl⟩⟩
  go_wp2_with fail
  go_loopw [9, 10] (fun v i wr => DrawsRel m g p w mo v i wr) (fun _ i _ => (intOf i).toNat)
  case atStart => exact ⟨.nil, p + 1, k, rfl, k0, by omega, by simp [SL.len]; omega, hown, by simp [SL.size], by omega, by simp [SL.len], hR1, hgw⟩
  case round =>
    clear hR1 hg1 hgw hown
    obtain ⟨L, q, z, rfl, z0, z3, hlz, ho, hsz, hq0, hq1, hRr, hgr⟩ := hrel
    obtain ⟨A, c, rfl, _⟩ := ho.sl
    by_cases hlt : 0 < z
    · have hLl : L.len ≤ 3 := by omega
      have hLm : L.len * m ≤ 3 * m := Nat.mul_le_mul_right _ hLl
      have hwz := hgr.size
      obtain ⟨xs, ho1, ho2⟩ := id ho
      have hvb := fun b hb => (own_blocks ho1 (b := b) hb).2
      have HO := Lib.hid ho
      go_wp2_with fail
      refine (HS.out g q r wr hRr (by omega) (by omega)).mono ?_
      rintro e w2 ⟨K, x, y, v, B, E, AB, cB, AE, cE, q', rfl, sB, sE, hsz', hq2, hq3, hR2, hg2⟩
      have hwz2 := hg2.size
      have hnb : v_blk (.slice A L.len c) g := fun e => by have := (own_blocks ho1 e).1; omega
      have h1 : w2.ownsRow w.heap.size 36 6 (.slice A L.len c) L.len xs := ho1.kept hg2 (.inr hnb)
      have h2 : Dec w2 (fun b => Born w wr b ∧ (Value.slice A L.len c).ownBlock ≠ some b) L xs := ho2.keep (grown_keep hg2 fun b hb => ⟨hb.1.2, fun e => by have := hb.1.1; injection e; omega⟩)
      have H2 := Lib.hid h2
      have HV := Lib.hid hvb
      clear ho2 h2 hvb
      go_wp2_with (at_builtin; refine wpList_append_at _ rfl (.tmp 20) (.tmp 25) 23 rfl w.heap.size 36 i0 _ 6 80 Tryz.underlying23 hi hz0 hz1 hz2 rfl (by decide) _ _ _ rfl (h1.alloc _) ⟨w2.heap.size, 0, none⟩ 1 1 [.int .i64 K, .int .i64 x, .int .i64 y, .int .i64 v, .slice AB B.len cB, .slice AE E.len cE] rfl rfl (cells_six _ _ _ _ _ _ _ _) (six_one _ _ _ _ _ _ _ _ _ _) (by unfold maxLen; omega) (by omega) (by simp; omega) (by omega) ?_)
      intro v' w3 ho3 hg3 hw3
      have hsn := OwnL.snoc H2.out hwz2 hwz HV.out sB sE ho3 hg3 hw3
      obtain ⟨A3, c3, rfl, _⟩ := hsn.sl
      have hrow : ∀ b, (Value.slice A L.len c).ownBlock = some b → w.heap.size ≤ b := fun b hb => (own_blocks ho1 hb).1
      have hgr3 : w.grownBy w3 (some g) := grown_own (hgr.trans hg2) ((World.grownBy_alloc w2 _ _).trans hg3) hrow
      have hR3 : Rd w3 g q' := hR2.keep fun k hk => (hg3.block k (by simp; omega) (fun e => by have := hrow k e.symm; omega)).trans (Below.heap_alloc w2 _ k (by omega))
      clear ho1 h1 hrow hg3 ho3
      go_wp2_with fail
      go_roundw
      case rel =>
        refine ⟨_, q', z - 1, rfl, by omega, by omega, ?_, hsn, ?_, by omega, ?_, hR3, hgr3⟩
        · rw [SL.len_app]; simp only [SL.len]; omega
        · rw [SL.len_app, SL.size_app]; simp only [SL.len, SL.size]; rw [Nat.add_mul]; omega
        · rw [SL.len_app]; simp only [SL.len]; rw [show ((L.len + (0 + 1) : Nat) : Int) * m = L.len * m + m from by rw [Int.natCast_add, Int.add_mul]; simp]; omega
      case measure => simp [intOf]; omega
    · have hLl : L.len ≤ 3 := by omega
      have hLm : L.len * m ≤ 3 * m := Nat.mul_le_mul_right _ hLl
      have hLm' : L.len * (m + 1) ≤ 3 * (m + 1) := Nat.mul_le_mul_right _ hLl
      have hLI : (L.len : Int) * m ≤ 3 * m := by exact_mod_cast hLm
      have HA := Lib.hid (show LsPost (3 * m + 4) g p w (.returned (.slice A L.len c)) wr from ⟨_, L, q, rfl, ho, hLl, by omega, hq0, by omega, hRr, hgr⟩)
      clear ho
      go_wp2_with fail
      go_ret
      exact HA.out
end Go.Proofs.YtnfnjhbaaefbpaaGreatDoor
