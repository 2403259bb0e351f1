/- Contexts and processors, compared by the program. -/
import Derived.Test.YtkiekabfmdcemaaCpuRec
import Derived.Test.YtkiekabfmdcemaaListsSame
import Derived.Test.YtkiekabfmdcemaaSaySame
namespace Go.Proofs.Ytkiekabfmdcemaa
open Go.ChangeShapes Go.WideShapes Go.ChangeAt Go.RowKit
set_option maxRecDepth 100000 in
theorem sameCtx_ {X Y : List Int} {A B : Option Addr} {c d : Nat} {S T : Nat → Prop} {w : World} (f : Fl w S 1 X A X.length c) (g : Fl w T 1 Y B Y.length d) (p m o r p' m' o' r' : Int) :
    Calls Try.prog 36 #[.agg #[.slice A X.length c, .int .i64 p, .int .i64 m, .int .i64 o, .int .i64 r], .agg #[.slice B Y.length d, .int .i64 p', .int .i64 m', .int .i64 o', .int .i64 r']] w
      fun e w' => e = .returned (.bool (decide ((⟨X, p, m, o, r⟩ : CtxP) = ⟨Y, p', m', o', r'⟩))) ∧ Below w.heap.size w w' := by
  have b0 : Below w.heap.size w ((w.alloc (.cells #[.slice A X.length c, .int .i64 p, .int .i64 m, .int .i64 o, .int .i64 r] 60)).alloc (.cells #[.slice B Y.length d, .int .i64 p', .int .i64 m', .int .i64 o', .int .i64 r'] 60)) := ((Below.refl _ _).alloc (Nat.le_refl _) _).alloc (by simp) _
  have P0 := Lib.hid (row_first w #[.slice A X.length c, .int .i64 p, .int .i64 m, .int .i64 o, .int .i64 r] #[.slice B Y.length d, .int .i64 p', .int .i64 m', .int .i64 o', .int .i64 r'] 60 60)
  have Q0 := Lib.hid (row_second w #[.slice A X.length c, .int .i64 p, .int .i64 m, .int .i64 o, .int .i64 r] #[.slice B Y.length d, .int .i64 p', .int .i64 m', .int .i64 o', .int .i64 r'] 60 60)
  go_enter Try.func36, Try.ntmps36
  go_wp2_with fail
  refine (equalInt (f.later b0) (g.later b0)).mono ?_
  rintro e w1 ⟨rfl, hb⟩
  have b1 := b0.trans (hb.mono b0.size)
  have P1 := rowk hb P0.out
  have Q1 := rowk hb Q0.out
  have x1 : w1.cell? ⟨w.heap.size, 1, none⟩ = some (.int .i64 p) := by rw [row_cell P1]; rfl
  have x2 : w1.cell? ⟨w.heap.size, 2, none⟩ = some (.int .i64 m) := by rw [row_cell P1]; rfl
  have x3 : w1.cell? ⟨w.heap.size, 3, none⟩ = some (.int .i64 o) := by rw [row_cell P1]; rfl
  have x4 : w1.cell? ⟨w.heap.size, 4, none⟩ = some (.int .i64 r) := by rw [row_cell P1]; rfl
  have y1 : w1.cell? ⟨w.heap.size + 1, 1, none⟩ = some (.int .i64 p') := by rw [row_cell Q1]; rfl
  have y2 : w1.cell? ⟨w.heap.size + 1, 2, none⟩ = some (.int .i64 m') := by rw [row_cell Q1]; rfl
  have y3 : w1.cell? ⟨w.heap.size + 1, 3, none⟩ = some (.int .i64 o') := by rw [row_cell Q1]; rfl
  have y4 : w1.cell? ⟨w.heap.size + 1, 4, none⟩ = some (.int .i64 r') := by rw [row_cell Q1]; rfl
  clear hb b0 P0 Q0 P1 Q1
  cases hq : decide (X = Y)
  · have HQ := Lib.hid (of_decide_eq_false hq)
    clear hq
    go_wp2
    go_ret
    refine ⟨?_, b1⟩
    have := HQ.out
    simp_all
  · have HQ := Lib.hid (of_decide_eq_true hq)
    clear hq
    go_wp2
    all_goals go_ret
    all_goals refine ⟨?_, b1⟩
    all_goals have := HQ.out
    all_goals first | (simp_all; done) | (simp_all; rfl)

theorem sameCtx {x y : CtxP} {vs us : List Value} {S T : Nat → Prop} {w : World} (hI : ctxShape.I w S vs x) (hJ : ctxShape.I w T us y) :
    Calls Try.prog 36 #[.agg vs.toArray, .agg us.toArray] w fun e w' => e = .returned (.bool (decide (x = y))) ∧ Below w.heap.size w w' := by
  obtain ⟨A, c, rfl, f⟩ := hI
  obtain ⟨B, d, rfl, g⟩ := hJ
  exact sameCtx_ f g _ _ _ _ _ _ _ _

set_option maxRecDepth 100000 in
theorem equalCtxs {Ls Ms : List CtxP} {A A' : Option Addr} {c c' : Nat} {S T : Nat → Prop} {w : World} (hs : Recs ctxShape w S Ls A Ls.length c) (ht : Recs ctxShape w T Ms A' Ms.length c') :
    Calls Try.prog 35 #[.slice A Ls.length c, .slice A' Ms.length c', .func (Fn.func 36) #[] #[]] w fun e w' => e = .returned (.bool (decide (Ls = Ms))) ∧ Below w.heap.size w w' := by
  have hmax := hs.max
  have hmax' := ht.max
  by_cases hn : Ls.length = Ms.length
  · rw [← hn] at ht hmax' ⊢
    have HN := Lib.hid hn
    generalize hg : Ls.length = n at *
    have HG := Lib.hid hg
    clear hn hg hmax'
    go_enter Try.func35, Try.ntmps35
    go_wp2_with fail
    go_loopw [17] (fun i wr => ∃ k : Nat, k ≤ n ∧ i = .int .i64 k ∧ Go.RowKit.Hid (Ls.take k = Ms.take k) ∧ Below w.heap.size w wr) (fun i _ => n - (intOf i).toNat)
    case atStart => exact ⟨0, Nat.zero_le _, rfl, Lib.hid rfl, Below.refl _ _⟩
    case round =>
      obtain ⟨k, hk, rfl, HEQ, hb⟩ := hrel
      by_cases hlt : k < n
      · have hkL : k < Ls.length := by rw [HG.out]; exact hlt
        have hkM : k < Ms.length := by rw [← HN.out]; exact hlt
        obtain ⟨a, x, A0, c0, hx, rfl, q0, q1, q2, q3, q4, hI⟩ := ctx_at (hs.later (by decide) hb) k hkL
        obtain ⟨b, y, B0, d0, hy, rfl, r0, r1, r2, r3, r4, hJ⟩ := ctx_at (ht.later (by decide) hb) k hkM
        have hsz := hb.size
        have HX := Lib.hid hx
        have HY := Lib.hid hy
        have HI := Lib.hid hI
        have HJ := Lib.hid hJ
        clear hx hy hI hJ
        generalize hV : #[Value.slice A0 x.regs.length c0, Value.int IntKind.i64 x.pc, Value.int IntKind.i64 x.mode, Value.int IntKind.i64 x.on, Value.int IntKind.i64 x.room] = V
        generalize hU : #[Value.slice B0 y.regs.length d0, Value.int IntKind.i64 y.pc, Value.int IntKind.i64 y.mode, Value.int IntKind.i64 y.on, Value.int IntKind.i64 y.room] = U
        have hW1 : Below wr.heap.size wr (wr.alloc (.cells V 60)) := (Below.refl _ _).alloc (Nat.le_refl _) _
        have HW2 := Lib.hid (show Below wr.heap.size wr ((wr.alloc (.cells V 60)).alloc (.cells U 60)) from hW1.alloc (by simp) _)
        have s0 := cell_later r0 hW1
        have s1 := cell_later r1 hW1
        have s2 := cell_later r2 hW1
        have s3 := cell_later r3 hW1
        have s4 := cell_later r4 hW1
        subst hV hU
        clear hW1
        by_cases hq : x = y
        · have HD := Lib.hid (decide_eq_true hq)
          have HQ := Lib.hid hq
          clear hq
          go_wp2_with fail
          refine (sameCtx (ctxShape.later HI.out HW2.out) (ctxShape.later HJ.out HW2.out)).mono ?_
          rintro e w1 ⟨rfl, hb1⟩
          have hb2 := hb.trans ((HW2.out.trans (hb1.mono HW2.out.size)).mono hsz)
          rw [HD.out]
          clear hb1
          go_wp2_with fail
          go_roundw
          case rel => exact ⟨k + 1, by omega, by go_num, Lib.hid (take_more HEQ.out hkL hkM (HX.out.trans (HQ.out.trans HY.out.symm))), hb2⟩
          case measure => simp [intOf]; omega
        · have HD := Lib.hid (decide_eq_false hq)
          have HQ := Lib.hid hq
          clear hq
          go_wp2_with fail
          refine (sameCtx (ctxShape.later HI.out HW2.out) (ctxShape.later HJ.out HW2.out)).mono ?_
          rintro e w1 ⟨rfl, hb1⟩
          have hb2 := hb.trans ((HW2.out.trans (hb1.mono HW2.out.size)).mono hsz)
          rw [HD.out]
          clear hb1
          go_wp2_with fail
          go_ret
          refine ⟨?_, hb2⟩
          rw [decide_eq_false (get_ne hkL hkM (by rw [HX.out, HY.out]; exact HQ.out))]; rfl
      · go_wp2_with fail
        go_ret
        refine ⟨?_, hb⟩
        rw [decide_eq_true (take_whole HEQ.out (by rw [HG.out]; omega) (by rw [← HN.out]; omega))]; rfl
  · have hd : decide (Ls = Ms) = false := decide_eq_false (by rintro rfl; exact hn rfl)
    rw [hd]
    clear hd
    go_enter Try.func35, Try.ntmps35
    go_wp2
    go_ret
    exact ⟨rfl, Below.refl _ _⟩
end Go.Proofs.Ytkiekabfmdcemaa
