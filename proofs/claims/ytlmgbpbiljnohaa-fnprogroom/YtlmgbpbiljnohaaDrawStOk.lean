/- What the laws draw: a statement, bent or not, how deep, and a room or none. -/
import Derived.Test.YtlmgbpbiljnohaaSome
import Derived.Test.YtlmgbpbiljnohaaBentWalk
import Derived.Deep.RegionWith
namespace Go.Proofs.Ytlmgbpbiljnohaa
open Go.ChangeShapes Go.WideShapes Go.ChangeAt Go.RowKit

def DrawnOne (w : World) (e : Ending) (w' : World) : Prop :=
  ∃ (k x y n d r : Int) (B E : SL) (A : Option Addr) (c : Nat) (A' : Option Addr) (c' : Nat), e = .returned (.tuple #[.agg #[.int .i64 k, .int .i64 x, .int .i64 y, .int .i64 n, .slice A B.len c, .slice A' E.len c'], .int .i64 d, .int .i64 r]) ∧
    SlP w' (Born w w') B A B.len c ∧ SlP w' (Born w w') E A' E.len c' ∧ B.size + E.size ≤ 100000 ∧ -1 ≤ d ∧ d ≤ 4 ∧ -1 ≤ r ∧ r ≤ 2 ∧ Below w.heap.size w w'

/-- What is behind the reader stays there when the reader goes on. -/
theorem SlP.stays {G : Nat → Prop} {g : Nat} {w w' : World} {L : SL} {A : Option Addr} {n c : Nat} (h : SlP w (fun b => G b ∧ b < w.heap.size) L A n c) (hg : w.grownBy w' (some g)) (hG : ∀ b, G b → b ≠ g) : SlP w' (fun b => G b ∧ b < w'.heap.size) L A n c :=
  (h.keep (grown_keep (S := fun b => G b ∧ b < w.heap.size) hg fun b hb => ⟨hb.2, fun e => hG b hb.1 (by injection e)⟩)).mono fun b hb => ⟨hb.1, Nat.lt_of_lt_of_le hb.2 hg.size⟩

theorem cells6_of {w : World} {G : Nat → Prop} {k x y n : Int} {B E R : SL} {a : Addr} {m c : Nat} (h : SlP w G (.cons k x y n B E R) (some a) m c) :
    w.cell? a = some (.int .i64 k) ∧ w.cell? ⟨a.block, a.off + 1, none⟩ = some (.int .i64 x) ∧ w.cell? ⟨a.block, a.off + 2, none⟩ = some (.int .i64 y) ∧ w.cell? ⟨a.block, a.off + 3, none⟩ = some (.int .i64 n) ∧
      ∃ (A : Option Addr) (c : Nat) (A' : Option Addr) (c' : Nat), w.cell? ⟨a.block, a.off + 4, none⟩ = some (.slice A B.len c) ∧ w.cell? ⟨a.block, a.off + 5, none⟩ = some (.slice A' E.len c') ∧ SlP w G B A B.len c ∧ SlP w G E A' E.len c' ∧ G a.block := by
  obtain ⟨ha, h0, h1, h2, h3, ⟨A, c, h4, l4, m4, n4, p4⟩, ⟨A', c', h5, l5, m5, n5, p5⟩, _⟩ := h.at_ a rfl
  exact ⟨h0, h1, h2, h3, A, c, A', c', h4, h5, ⟨rfl, l4, m4, n4, p4⟩, ⟨rfl, l5, m5, n5, p5⟩, ha⟩

set_option maxRecDepth 100000 in
set_option maxHeartbeats 2000000 in
theorem drawStmtOk (A : Option Addr) (n c : Nat) (w : World) (h : Bytes w A n) (hn : n ≤ c) (hc : c ≤ maxLen) :
    Calls Try.prog 16 #[.slice A n c] w (DrawnOne w) := by
  have hb0 : Below w.heap.size w (w.alloc (.cells #[.int .i64 0, .int .i64 0, .int .i64 0, .int .i64 0, .slice none 0 0, .slice none 0 0] 29)) := (Below.refl _ _).alloc (Nat.le_refl _) _
  have r0 := new_row w #[.int .i64 0, .int .i64 0, .int .i64 0, .int .i64 0, .slice none 0 0, .slice none 0 0] 29
  have R0 := Lib.hid r0
  clear r0
  go_enter Try.func16, Try.ntmps16
  go_wp2_with fail
  refine (l11Open A n c _ (h.below hb0) hn hc).mono ?_
  rintro e w1 ⟨rfl, hR1, hb1⟩
  have hgw : (w.alloc (.cells #[.int .i64 0, .int .i64 0, .int .i64 0, .int .i64 0, .slice none 0 0, .slice none 0 0] 29)).heap.size = w.heap.size + 1 := by simp
  rw [hgw] at hR1 hb1
  rw [hgw]
  have R1 := Lib.hid (show w1.heap[w.heap.size]? = _ from (hb1.block _ (by omega)).trans R0.out)
  have hbw1 := hb0.trans (hb1.mono (by omega))
  have hl1 := hR1.lt
  clear hb1 hb0 R0 hgw
  go_wp2_with fail
  refine (pick _ 0 4 _ hR1 (by omega) (by omega) (by omega)).mono ?_
  rintro e w2 ⟨r, hr0, hr1, rfl, hR2, hg2⟩
  go_wp2_with fail
  refine (drawStmt 400000000000 (by omega) _ _ _ _ hR2 (by omega) (by omega)).mono ?_
  rintro e w3 ⟨k, x, y, v, B, E, AB, cB, AE, cE, q3, rfl, hB3, hE3, hz3, q30, q31, hR3, hg3⟩
  have hl3 := hR3.lt
  have z2 := hg2.size
  have z3 := hg3.size
  have S3 := Lib.hid (show SlP (w3.alloc (.cells #[.int .i64 k, .int .i64 x, .int .i64 y, .int .i64 v, .slice AB B.len cB, .slice AE E.len cE] 29)) (fun b => w.heap.size + 1 < b ∧ b < (w3.alloc (.cells #[.int .i64 k, .int .i64 x, .int .i64 y, .int .i64 v, .slice AB B.len cB, .slice AE E.len cE] 29)).heap.size) (.cons k x y v B E .nil) (some ⟨w3.heap.size, 0, none⟩) (SL.cons k x y v B E .nil).len 1 from by
    have hk : ∀ p : Addr, Born w2 w3 p.block → (w3.alloc (.cells #[.int .i64 k, .int .i64 x, .int .i64 y, .int .i64 v, .slice AB B.len cB, .slice AE E.len cE] 29)).cell? p = w3.cell? p := fun p hp => World.cell?_of_block (Below.heap_alloc w3 _ p.block hp.2)
    have hm : ∀ b, Born w2 w3 b → w.heap.size + 1 < b ∧ b < (w3.alloc (.cells #[.int .i64 k, .int .i64 x, .int .i64 y, .int .i64 v, .slice AB B.len cB, .slice AE E.len cE] 29)).heap.size := fun b hb => ⟨by have := hb.1; omega, by have := hb.2; simp; omega⟩
    exact one_new w3 k x y v ((hB3.keep hk).mono hm) ((hE3.keep hk).mono hm) ⟨by omega, by simp⟩)
  have hR3' := hR3.alloc (.cells #[.int .i64 k, .int .i64 x, .int .i64 y, .int .i64 v, .slice AB B.len cB, .slice AE E.len cE] 29)
  have hg3' := hg3.trans (World.grownBy_alloc w3 (.cells #[.int .i64 k, .int .i64 x, .int .i64 y, .int .i64 v, .slice AB B.len cB, .slice AE E.len cE] 29) (some (w.heap.size + 1)))
  have hsz : (SL.cons k x y v B E .nil).size ≤ 500 := by simp only [SL.size]; omega
  have hll : (SL.cons k x y v B E .nil).len = 1 := rfl
  clear hB3 hE3 hR3 hg3
  generalize hL : SL.cons k x y v B E .nil = L at S3 hsz hll
  have HLL := Lib.hid hll
  clear hL hll
  go_wp2_with fail
  refine (bent (fun b => w.heap.size + 1 < b) L _ q3 ⟨w3.heap.size, 0, none⟩ 1 1 _ ⟨fun b hb => Nat.ne_of_gt hb, fun b hb => Nat.lt_of_lt_of_le hR3'.lt hb⟩ (by have := S3.out; rw [HLL.out] at this; exact this) hR3' (by omega) (by omega) (by omega)).mono ?_
  rintro e w4 ⟨L4, a4, c4, q4, rfl, hs4, hz4, hl4, q40, q41, hR4, hg4⟩
  have hg34 := hg3'.trans hg4
  clear S3 hR3' hg3' hg4
  go_wp2_with fail
  refine (bent (fun b => w.heap.size + 1 < b) L4 _ q4 a4 _ c4 _ ⟨fun b hb => Nat.ne_of_gt hb, fun b hb => Nat.lt_of_lt_of_le hR4.lt hb⟩ hs4 hR4 (by omega) (by omega) (by omega)).mono ?_
  rintro e w5 ⟨L5, a5, c5, q5, rfl, hs5, hz5, hl5, q50, q51, hR5, hg5⟩
  have hg25 := (hg2.trans hg34).trans hg5
  have hbw5 : Below w.heap.size w w5 := hbw1.trans (Below.of_grown hg25 (by omega) hl1)
  have R5 := Lib.hid (show w5.heap[w.heap.size]? = _ from (hg25.block _ (by omega) (by simp)).trans R1.out)
  have hlen5 : 1 ≤ L5.len := by have := HLL.out; omega
  have hl5' := hR5.lt
  clear hg34 hg5 hg2 hs4 hR4 R1 hbw1 hR1 hR2 hg25 HLL
  cases L5 with
  | nil => simp [SL.len] at hlen5
  | cons k5 x5 y5 v5 B5 E5 R5L =>
    have hz6 : B5.size + E5.size ≤ 100000 := by simp only [SL.size] at hz5; omega
    clear hz5 hl5 hlen5 hz4 hl4
    obtain ⟨i0, i1, i2, i3, A6, c6, A7, c7, i4, i5, sB, sE, hGa⟩ := cells6_of hs5
    have hle5 := hs5.le
    have htop5 := hs5.top
    have HS5 := Lib.hid hs5
    have SB := Lib.hid sB
    have SE := Lib.hid sE
    generalize hln : (SL.cons k5 x5 y5 v5 B5 E5 R5L).len = ln at *
    have hpos : 0 < ln := by rw [← hln]; simp [SL.len]
    have HLN := Lib.hid hln
    clear hln hs5 sB sE
    unfold maxLen at htop5
    have HNUM := Lib.hid (show Calls Try.prog 41 #[.pointer (some ⟨w.heap.size + 1, 0, none⟩), .slice (some ⟨w5.heap.size, 0, none⟩) 7 7] (w5.alloc (.cells #[.int .i64 3, .int .i64 3, .int .i64 2, .int .i64 1, .int .i64 0, .int .i64 4, .int .i64 (-1)] 3)).drew
        fun e w' => ∃ d : Int, (-1 ≤ d ∧ d ≤ 4) ∧ e = .returned (.int .i64 d) ∧ w5.grownBy w' (some (w.heap.size + 1)) from by
      refine (num_row1 (w.heap.size + 1) q5 w5.drew #[.int .i64 3, .int .i64 3, .int .i64 2, .int .i64 1, .int .i64 0, .int .i64 4, .int .i64 (-1)] 3 7 w5.heap.size (-1) 4 rfl hR5 (by omega) (by omega) rfl (by omega) (by omega) (by simp [intsIn])).mono ?_
      rintro e w' ⟨d, hd, he, _, hg⟩
      exact ⟨d, hd, he, ⟨hg.os, hg.tape, hg.output, hg.size, hg.block⟩⟩)
    clear hR5
    go_wp2_with fail
    go_region_with (first
      | (go_at_call 41; refine HNUM.out.mono ?_; rintro e w6 ⟨d, ⟨hd0, hd1⟩, rfl, hg6⟩
         have hk : ∀ p : Addr, p.block = a5.block → w6.cell? p = w5.cell? p := fun p hp => World.cell?_of_block (w := w5) (hg6.block p.block (by rw [hp]; exact hGa.2) (by rw [hp]; exact fun e => Nat.ne_of_gt hGa.1 (by injection e)))
         have j0 := (hk a5 rfl).trans i0
         have j1 := (hk ⟨a5.block, a5.off + 1, none⟩ rfl).trans i1
         have j2 := (hk ⟨a5.block, a5.off + 2, none⟩ rfl).trans i2
         have j3 := (hk ⟨a5.block, a5.off + 3, none⟩ rfl).trans i3
         have j4 := (hk ⟨a5.block, a5.off + 4, none⟩ rfl).trans i4
         have j5 := (hk ⟨a5.block, a5.off + 5, none⟩ rfl).trans i5
         have R6 := Lib.hid (show w6.heap[w.heap.size]? = _ from (hg6.block _ (by show w.heap.size < w5.heap.size; omega) (by simp)).trans R5.out)
         obtain ⟨o0, o1, o2, o3, o4, o5⟩ := cells6 R6.out
         have f0 := row_frozen R6.out 0
         have f1 := row_frozen R6.out 1
         have f2 := row_frozen R6.out 2
         have f3 := row_frozen R6.out 3
         have f4 := row_frozen R6.out 4
         have f5 := row_frozen R6.out 5
         have HG6 := Lib.hid hg6
         clear hk hg6))
    all_goals (try go_wp2)
    all_goals
      have n1 : ∀ j, ¬ (fun b => w.heap.size + 1 < b ∧ b < w6.heap.size) (⟨w.heap.size, j, none⟩ : Addr).block := fun j h => by have := h.1; change w.heap.size + 1 < w.heap.size at this; omega
      have z6 := HG6.out.size
      have sB6 := SB.out.stays HG6.out (fun b hb => Nat.ne_of_gt hb)
      have sE6 := SE.out.stays HG6.out (fun b hb => Nat.ne_of_gt hb)
      have b6 : Below w.heap.size w w6 := hbw5.trans (Below.of_grown HG6.out (by omega) hl5')
      refine bodyPost_ret (v := .tuple #[.agg #[.int .i64 k5, .int .i64 x5, .int .i64 y5, .int .i64 v5, .slice A6 B5.len c6, .slice A7 E5.len c7], .int .i64 d, .int .i64 (r - 1)]) (by simp [results, Try.results16, go_sem, o0, o1, o2, o3, o4, o5]) rfl ?_
      refine ⟨k5, x5, y5, v5, d, r - 1, B5, E5, A6, c6, A7, c7, rfl, ?_, ?_, hz6, hd0, hd1, by omega, by omega, ?_⟩
      · exact (((((((sB6.set (n1 0) (.int .i64 k5)).set (n1 1) (.int .i64 x5)).set (n1 2) (.int .i64 y5)).set (n1 3) (.int .i64 v5)).set (n1 4) (.slice A6 B5.len c6)).set (n1 5) (.slice A7 E5.len c7)).mono (fun b hb => ⟨by have := hb.1; omega, by simp only [size_set]; exact hb.2⟩))
      · exact (((((((sE6.set (n1 0) (.int .i64 k5)).set (n1 1) (.int .i64 x5)).set (n1 2) (.int .i64 y5)).set (n1 3) (.int .i64 v5)).set (n1 4) (.slice A6 B5.len c6)).set (n1 5) (.slice A7 E5.len c7)).mono (fun b hb => ⟨by have := hb.1; omega, by simp only [size_set]; exact hb.2⟩))
      · exact (((((b6.setCell (p := ⟨w.heap.size, 0, none⟩) (Nat.le_refl _) _).setCell (p := ⟨w.heap.size, 1, none⟩) (Nat.le_refl _) _).setCell (p := ⟨w.heap.size, 2, none⟩) (Nat.le_refl _) _).setCell (p := ⟨w.heap.size, 3, none⟩) (Nat.le_refl _) _).setCell (p := ⟨w.heap.size, 4, none⟩) (Nat.le_refl _) _).setCell (p := ⟨w.heap.size, 5, none⟩) (Nat.le_refl _) _
end Go.Proofs.Ytlmgbpbiljnohaa
