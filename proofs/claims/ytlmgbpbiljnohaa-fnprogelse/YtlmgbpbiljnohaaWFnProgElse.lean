/- The walk of laws.FnProgElse. -/
import Derived.Test.YtlmgbpbiljnohaaDrawStOk
import Derived.Test.YtlmgbpbiljnohaaStmtOkSpec
import Derived.Test.YtlmgbpbiljnohaaOkMore
namespace Go.Proofs.Ytlmgbpbiljnohaa
open Go.ChangeShapes Go.WideShapes Go.ChangeAt Go.RowKit

theorem okS_turn {x y n : Int} {B E : SL} {d r : Int} (h : okS 6 x y n B E d r = true) : okS 6 x y n E B d r = true := by
  obtain ⟨h1, h2, h3⟩ := okS_parts h
  unfold okS
  rw [Bool.and_eq_true, Bool.and_eq_true]
  exact ⟨⟨by simpa [headB] using h1, h3⟩, h2⟩
theorem okS_else {x y n : Int} {B E : SL} {d r : Int} (h : okS 6 x y n B E d r = true) : okS 6 x y n B (.cons 11 0 0 0 .nil .nil .nil) d r = decide (1 < d) := by
  obtain ⟨h1, h2, h3⟩ := okS_parts h
  have hy : okL (.cons 11 0 0 0 .nil .nil .nil) (d - 1) (inR 6 x r) = decide (1 < d) := by
    rw [okL_cons, okL_nil, Bool.and_true]
    by_cases hd : 1 < d
    · rw [okS_leaf (by decide) (by decide) (by decide) (by omega) rfl rfl]
      simp [leafB, hd]
    · rw [okS_head (headB_deep (by omega))]
      simp [hd]
  unfold okS
  rw [h2, hy]
  have : headB 6 x y n B.len (SL.cons 11 0 0 0 .nil .nil .nil).len d r = true := by simpa [headB] using h1
  rw [this]
  rfl
theorem okS_none_else {k x y n : Int} {B E : SL} {d r : Int} (h : okS k x y n B E d r = true) (hk : k ≠ 6) : E.len = 0 ∧ okS k x y n B (.cons 11 0 0 0 .nil .nil .nil) d r = false := by
  obtain ⟨h1, _, _⟩ := okS_parts h
  unfold headB at h1
  rw [Bool.and_eq_true, if_neg hk] at h1
  have h1 := h1.2
  refine ⟨?_, okS_head ?_⟩
  · split at h1
    · exact (of_decide_eq_true h1).1
    · split at h1
      · exact (of_decide_eq_true h1).1
      · rw [Bool.and_eq_true] at h1
        exact (of_decide_eq_true h1.1).2
  · unfold headB
    rw [if_neg hk]
    simp [SL.len]

/-- Three new blocks, the last of which holds a yield. -/
theorem three_new (w : World) (o1 o2 : Obj) :
    (((w.alloc o1).alloc o2).alloc (.cells #[.int .i64 11, .int .i64 0, .int .i64 0, .int .i64 0, .slice none 0 0, .slice none 0 0] 29)).heap[w.heap.size + 1]? = some o2 ∧
    (((w.alloc o1).alloc o2).alloc (.cells #[.int .i64 11, .int .i64 0, .int .i64 0, .int .i64 0, .slice none 0 0, .slice none 0 0] 29)).heap.size = w.heap.size + 3 ∧
    Below w.heap.size w (((w.alloc o1).alloc o2).alloc (.cells #[.int .i64 11, .int .i64 0, .int .i64 0, .int .i64 0, .slice none 0 0, .slice none 0 0] 29)) ∧
    Sl (((w.alloc o1).alloc o2).alloc (.cells #[.int .i64 11, .int .i64 0, .int .i64 0, .int .i64 0, .slice none 0 0, .slice none 0 0] 29)) (w.heap.size + 3) (.cons 11 0 0 0 .nil .nil .nil) (some ⟨w.heap.size + 1 + 1, 0, none⟩) (SL.cons 11 0 0 0 .nil .nil .nil).len 1 := by
  refine ⟨?_, by simp, ((((Below.refl _ _).alloc (Nat.le_refl _) _).alloc (by simp) _).alloc (by simp; omega) _), ?_⟩
  · show (((w.heap.push o1).push o2).push _)[w.heap.size + 1]? = _
    rw [Array.getElem?_push, if_neg (by simp), Array.getElem?_push, if_pos (by simp)]
  · have h := one_new (S := (· < w.heap.size + 3)) ((w.alloc o1).alloc o2) 11 0 0 0 (B := .nil) (E := .nil) (none_in _ _) (none_in _ _) (by simp)
    have e : ((w.alloc o1).alloc o2).heap.size = w.heap.size + 1 + 1 := by simp
    rw [e] at h
    exact h.sl fun _ h => h

set_option maxRecDepth 100000 in
set_option maxHeartbeats 2000000 in
theorem wFnProgElse (A : Option Addr) (n c : Nat) (w : World) (h : Bytes w A n) (hn : n ≤ c) (hc : c ≤ maxLen) :
    Calls Try.prog 6 #[.slice A n c] w fun e w' => e = .returned (.bool true) ∧ Below w.heap.size w w' := by
  by_cases hl : 1048576 < n
  · go_enter Try.func6, Try.ntmps6
    go_wp2
    go_ret
    exact ⟨rfl, Below.refl _ _⟩
  · go_enter Try.func6, Try.ntmps6
    go_wp2_with fail
    refine (drawStmtOk A n c _ h hn hc).mono ?_
    rintro e w1 ⟨k, x, y, v, d, r, B, E, AB, cB, AE, cE, rfl, sB1, sE1, hz, d0, d1, r0, r1, b1⟩
    have row1 := Lib.hid (new_row w1 #[.int .i64 k, .int .i64 x, .int .i64 y, .int .i64 v, .slice AB B.len cB, .slice AE E.len cE] 29)
    have hb1 : Below w1.heap.size w1 (w1.alloc (.cells #[.int .i64 k, .int .i64 x, .int .i64 y, .int .i64 v, .slice AB B.len cB, .slice AE E.len cE] 29)) := (Below.refl _ _).alloc (Nat.le_refl _) _
    have tB1 : Sl w1 w1.heap.size B AB B.len cB := sB1.sl fun _ h => h.2
    have tE1 : Sl w1 w1.heap.size E AE E.len cE := sE1.sl fun _ h => h.2
    have hs1 : (w1.alloc (.cells #[.int .i64 k, .int .i64 x, .int .i64 y, .int .i64 v, .slice AB B.len cB, .slice AE E.len cE] 29)).heap.size = w1.heap.size + 1 := by simp
    have z1 := b1.size
    clear sB1 sE1 h
    go_wp2_with fail
    refine (stmtOk k x y v d r B E AB AE cB cE w1.heap.size _ (tB1.below hb1) (tE1.below hb1) (by rw [hs1]; omega)).mono ?_
    rintro e w2 ⟨rfl, hb2⟩
    rw [hs1] at hb2
    have row2 := Lib.hid (show w2.heap[w1.heap.size]? = _ from (hb2.block _ (by omega)).trans row1.out)
    have b12 := hb1.trans (hb2.mono (by omega))
    have tB2 := tB1.below b12
    have tE2 := tE1.below b12
    have z2 : w1.heap.size + 1 ≤ w2.heap.size := by have := hb2.size; rw [hs1] at this; exact this
    have b2 := b1.trans (b12.mono z1)
    obtain ⟨p0, p1, p2, p3, p4, p5⟩ := cells6 row2.out
    clear hb2 row1 hb1 tB1 tE1 hs1 b12 b1
    cases hok : (inB d r && okS k x y v B E d r)
    · have HOK := Lib.hid hok
      clear hok
      go_wp2_with fail
      refine (specStmtOk k x y v d r B E AB AE cB cE w1.heap.size _ tB2 tE2 (by omega)).mono ?_
      rintro e w3 ⟨rfl, hb3⟩
      rw [HOK.out]
      have z3 := hb3.size
      have tB3 := tB2.below (hb3.mono (by omega))
      have tE3 := tE2.below (hb3.mono (by omega))
      obtain ⟨q0, q1, q2, q3, q4, q5⟩ := cells6 (show w3.heap[w1.heap.size]? = _ from (hb3.block _ (by omega)).trans row2.out)
      clear p0 p1 p2 p3 p4 p5 tB2 tE2
      go_wp2_with fail
      refine (specStmtOk k x y v d r B E AB AE cB cE w1.heap.size _ tB3 tE3 (by omega)).mono ?_
      rintro e w4 ⟨rfl, hb4⟩
      rw [HOK.out]
      go_wp2_with fail
      go_ret
      exact ⟨rfl, (b2.trans (hb3.mono (by omega))).trans (hb4.mono (by omega))⟩
    · have HOK := Lib.hid hok
      rw [Bool.and_eq_true] at hok
      have HI := Lib.hid hok
      clear hok
      go_wp2_with fail
      refine (specStmtOk k x y v d r B E AB AE cB cE w1.heap.size _ tB2 tE2 (by omega)).mono ?_
      rintro e w3 ⟨rfl, hb3⟩
      rw [HOK.out]
      have z3 := hb3.size
      have tB3 := tB2.below (hb3.mono (by omega))
      have tE3 := tE2.below (hb3.mono (by omega))
      have b3 := b2.trans (hb3.mono (by omega))
      have row3 := Lib.hid (show w3.heap[w1.heap.size]? = _ from (hb3.block _ (by omega)).trans row2.out)
      obtain ⟨q0, q1, q2, q3, q4, q5⟩ := cells6 row3.out
      clear p0 p1 p2 p3 p4 p5 tB2 tE2 row2 hb3 b2 HOK
      have h13 : w1.heap.size < w3.heap.size := by omega
      have al : ∀ (o : Obj) (j : Nat), (w3.alloc o).cell? ⟨w1.heap.size, j, none⟩ = w3.cell? ⟨w1.heap.size, j, none⟩ := fun o j => World.cell?_of_block (Below.heap_alloc w3 o w1.heap.size h13)
      have al2 : ∀ (o o' : Obj) (j : Nat), ((w3.alloc o).alloc o').cell? ⟨w1.heap.size, j, none⟩ = w3.cell? ⟨w1.heap.size, j, none⟩ := fun o o' j => (World.cell?_of_block (Below.heap_alloc (w3.alloc o) o' w1.heap.size (by simp; omega))).trans (al o j)
      have al3 : ∀ (o o' o'' : Obj) (j : Nat), (((w3.alloc o).alloc o').alloc o'').cell? ⟨w1.heap.size, j, none⟩ = w3.cell? ⟨w1.heap.size, j, none⟩ := fun o o' o'' j => (World.cell?_of_block (Below.heap_alloc ((w3.alloc o).alloc o') o'' w1.heap.size (by simp; omega))).trans (al2 o o' j)
      by_cases hk : k = 6
      · subst hk
        have HT := Lib.hid (show (inB d r && okS 6 x y v E B d r) = true from by rw [HI.out.1, okS_turn HI.out.2]; rfl)
        have HU := Lib.hid (show (inB d r && okS 6 x y v B (.cons 11 0 0 0 .nil .nil .nil) d r) = decide (1 < d) from by rw [HI.out.1, okS_else HI.out.2]; rfl)
        go_wp2_with fail
        obtain ⟨u1, u2, u3, u4⟩ := three_new w3 (.cells #[.int .i64 6, .int .i64 x, .int .i64 y, .int .i64 v, .slice AE E.len cE, .slice AB B.len cB] 29) (.cells #[.int .i64 6, .int .i64 x, .int .i64 y, .int .i64 v, .slice AB B.len cB, .slice (some ⟨w3.heap.size + 1 + 1, 0, none⟩) 1 1] 29)
        refine (stmtOk 6 x y v d r E B AE AB cE cB w1.heap.size _ (tE3.below (u3.mono (by omega))) (tB3.below (u3.mono (by omega))) (by rw [u2]; omega)).mono ?_
        rintro e w4 ⟨rfl, hb4⟩
        rw [HT.out]
        rw [u2] at hb4
        obtain ⟨s0, s1, s2, s3, s4, s5⟩ := cells6 ((hb4.block _ (by omega)).trans u1)
        have z4 := hb4.size
        rw [u2] at z4
        have b34 := u3.trans (hb4.mono (by omega))
        have tB4 := (tB3.below (b34.mono (by omega))).mono (show w1.heap.size ≤ w4.heap.size by omega)
        have tY4 := (u4.below hb4).mono (show w3.heap.size + 3 ≤ w4.heap.size by omega)
        have b4 := b3.trans (b34.mono (by omega))
        clear u1 u2 u3 u4 tB3 tE3 b34 al al2 al3 q0 q1 q2 q3 q4 q5 hb4 row3 HT
        go_wp2_with fail
        refine (stmtOk 6 x y v d r B (.cons 11 0 0 0 .nil .nil .nil) AB (some ⟨w3.heap.size + 1 + 1, 0, none⟩) cB 1 w4.heap.size _ tB4 tY4 (Nat.le_refl _)).mono ?_
        rintro e w5 ⟨rfl, hb5⟩
        rw [HU.out]
        have b5 := b4.trans (hb5.mono (by omega))
        clear tB4 tY4 hb5 HU
        go_wp2_with fail
        go_ret
        exact ⟨by simp, b5⟩
      · have hk' : (k == 6) = false := by simpa using hk
        obtain ⟨he, hu⟩ := okS_none_else HI.out.2 hk
        have HU := Lib.hid (show (inB d r && okS k x y v B (.cons 11 0 0 0 .nil .nil .nil) d r) = false from by rw [hu, Bool.and_false])
        rw [he] at q5
        clear hu hk tE3
        go_wp2_with fail
        obtain ⟨u1, u2, u3, u4⟩ := three_new w3 (.cells #[.int .i64 k, .int .i64 x, .int .i64 y, .int .i64 v, .slice AE 0 cE, .slice AB B.len cB] 29) (.cells #[.int .i64 k, .int .i64 x, .int .i64 y, .int .i64 v, .slice AB B.len cB, .slice (some ⟨w3.heap.size + 1 + 1, 0, none⟩) 1 1] 29)
        refine (stmtOk k x y v d r B (.cons 11 0 0 0 .nil .nil .nil) AB (some ⟨w3.heap.size + 1 + 1, 0, none⟩) cB 1 (w3.heap.size + 3) _ ((tB3.below (u3.mono (by omega))).mono (by omega)) u4 (by rw [u2]; omega)).mono ?_
        rintro e w4 ⟨rfl, hb4⟩
        rw [HU.out]
        rw [u2] at hb4
        have b34 := u3.trans (hb4.mono (by omega))
        have b4 := b3.trans (b34.mono (by omega))
        clear u1 u2 u3 u4 tB3 b34 al al2 al3 q0 q1 q2 q3 q4 q5 hb4 row3 HU
        go_wp2_with fail
        go_ret
        exact ⟨rfl, b4⟩
end Go.Proofs.Ytlmgbpbiljnohaa
