/- Processes, compared: as plain data, by the model (l3Proc) and by the program (sameProc, slices.EqualFunc). -/
import Derived.Test.YtkiekabfmdcemaaProcRec
import Derived.Test.YtkiekabfmdcemaaSameNew
import Derived.Test.YtkiekabfmdcemaaAlike
import Derived.Test.YtkiekabfmdcemaaListsSame
namespace Go.Proofs.Ytkiekabfmdcemaa
open Go.ChangeShapes Go.WideShapes Go.ChangeAt Go.RowKit

def procB (a b : ProcP) : Bool := decide (a.regs = b.regs) && sameL a.todo b.todo && (a.mode == b.mode) && (a.on == b.on) && (a.room == b.room)
def procsB (xs ys : List ProcP) : Bool := decide (xs.length = ys.length) && (xs.zip ys).all (fun q => procB q.1 q.2)

theorem procsB_len {xs ys : List ProcP} (h : ¬ xs.length = ys.length) : procsB xs ys = false := by
  unfold procsB; rw [decide_eq_false h]; rfl
theorem procsB_no {xs ys : List ProcP} {k : Nat} (hx : k < xs.length) (hy : k < ys.length) (h : procB xs[k] ys[k] = false) : procsB xs ys = false := by
  unfold procsB
  rw [Bool.and_eq_false_iff]
  right
  rw [List.all_eq_false]
  have hz : k < (xs.zip ys).length := by rw [List.length_zip]; omega
  exact ⟨(xs.zip ys)[k], List.getElem_mem hz, by rw [List.getElem_zip, h]; decide⟩
theorem procsB_yes {xs ys : List ProcP} (hl : xs.length = ys.length) (h : ∀ j (hx : j < xs.length) (hy : j < ys.length), procB xs[j] ys[j] = true) : procsB xs ys = true := by
  unfold procsB
  rw [decide_eq_true hl, Bool.true_and, List.all_eq_true]
  intro q hq
  obtain ⟨j, hj, rfl⟩ := List.getElem_of_mem hq
  have hj' := hj
  rw [List.length_zip] at hj'
  rw [List.getElem_zip]
  exact h j (by omega) (by omega)
/-- The first k pairs are one. -/
def PrK (xs ys : List ProcP) (k : Nat) : Prop := ∀ j (hx : j < xs.length) (hy : j < ys.length), j < k → procB xs[j] ys[j] = true
theorem PrK.zero (xs ys : List ProcP) : PrK xs ys 0 := fun j _ _ h => by omega
theorem PrK.more {xs ys : List ProcP} {k : Nat} (h : PrK xs ys k) (hx : k < xs.length) (hy : k < ys.length) (h1 : procB xs[k] ys[k] = true) : PrK xs ys (k + 1) := fun j hj hj' hk => by
  by_cases e : j = k
  · subst e; exact h1
  · exact h j hj hj' (by omega)
theorem PrK.all {xs ys : List ProcP} {k : Nat} (h : PrK xs ys k) (hl : xs.length = ys.length) (hk : xs.length ≤ k) : procsB xs ys = true := procsB_yes hl fun j hx hy => h j hx hy (by omega)

set_option maxRecDepth 100000 in
theorem l3Proc_ {X Y : List Int} {U V : SL} {A B E F : Option Addr} {c d ec fc : Nat} {S T : Nat → Prop} {w : World} (f : Fl w S 1 X A X.length c) (g : Fl w T 1 Y B Y.length d) (u : SlP w S U E U.len ec) (v : SlP w T V F V.len fc) (m o r m' o' r' : Int) :
    Calls Try.prog 49 #[.agg #[.slice A X.length c, .slice E U.len ec, .int .i64 m, .int .i64 o, .int .i64 r], .agg #[.slice B Y.length d, .slice F V.len fc, .int .i64 m', .int .i64 o', .int .i64 r']] w fun e w' => e = .returned (.bool (procB ⟨X, U, m, o, r⟩ ⟨Y, V, m', o', r'⟩)) ∧ Below w.heap.size w w' := by
  have b0 : Below w.heap.size w ((w.alloc (.cells #[.slice A X.length c, .slice E U.len ec, .int .i64 m, .int .i64 o, .int .i64 r] 74)).alloc (.cells #[.slice B Y.length d, .slice F V.len fc, .int .i64 m', .int .i64 o', .int .i64 r'] 74)) := ((Below.refl _ _).alloc (Nat.le_refl _) _).alloc (by simp) _
  have P0 := Lib.hid (row_first w #[.slice A X.length c, .slice E U.len ec, .int .i64 m, .int .i64 o, .int .i64 r] #[.slice B Y.length d, .slice F V.len fc, .int .i64 m', .int .i64 o', .int .i64 r'] 74 74)
  have Q0 := Lib.hid (row_second w #[.slice A X.length c, .slice E U.len ec, .int .i64 m, .int .i64 o, .int .i64 r] #[.slice B Y.length d, .slice F V.len fc, .int .i64 m', .int .i64 o', .int .i64 r'] 74 74)
  have HB := Lib.hid (show procB ⟨X, U, m, o, r⟩ ⟨Y, V, m', o', r'⟩ = (decide (X = Y) && sameL U V && (m == m') && (o == o') && (r == r')) from rfl)
  go_enter Try.func49, Try.ntmps49
  go_wp2_with fail
  refine (l3Ints (f.later b0) (g.later b0)).mono ?_
  rintro e w1 ⟨rfl, hb⟩
  have b1 := b0.trans (hb.mono b0.size)
  have P1 := Lib.hid (rowk hb P0.out)
  have Q1 := Lib.hid (rowk hb Q0.out)
  clear hb b0 P0 Q0
  cases hq : decide (X = Y)
  · have HF := Lib.hid (show procB ⟨X, U, m, o, r⟩ ⟨Y, V, m', o', r'⟩ = false from by rw [HB.out, hq]; simp)
    clear hq
    go_wp2
    go_ret
    exact ⟨by first | (rw [HF.out]; rfl) | rfl, b1⟩
  have E1 := Lib.hid hq
  clear hq
  have cp : w1.cell? ⟨w.heap.size, 1, none⟩ = some (.slice E U.len ec) := by rw [row_cell P1.out]; rfl
  have cq : w1.cell? ⟨w.heap.size + 1, 1, none⟩ = some (.slice F V.len fc) := by rw [row_cell Q1.out]; rfl
  go_wp2_with fail
  clear cp cq
  refine (specAlike U V E F _ ec _ fc _ _ w1 (u.later b1).there (v.later b1).there (Nat.le_refl _) (Nat.le_refl _)).mono ?_
  rintro e w2 ⟨rfl, hb⟩
  have b2 := b1.trans (hb.mono b1.size)
  have P2 := rowk hb P1.out
  have Q2 := rowk hb Q1.out
  have x2 : w2.cell? ⟨w.heap.size, 2, none⟩ = some (.int .i64 m) := by rw [row_cell P2]; rfl
  have x3 : w2.cell? ⟨w.heap.size, 3, none⟩ = some (.int .i64 o) := by rw [row_cell P2]; rfl
  have x4 : w2.cell? ⟨w.heap.size, 4, none⟩ = some (.int .i64 r) := by rw [row_cell P2]; rfl
  have y2 : w2.cell? ⟨w.heap.size + 1, 2, none⟩ = some (.int .i64 m') := by rw [row_cell Q2]; rfl
  have y3 : w2.cell? ⟨w.heap.size + 1, 3, none⟩ = some (.int .i64 o') := by rw [row_cell Q2]; rfl
  have y4 : w2.cell? ⟨w.heap.size + 1, 4, none⟩ = some (.int .i64 r') := by rw [row_cell Q2]; rfl
  clear hb b1 P1 Q1 P2 Q2
  cases hq : sameL U V
  · have HF := Lib.hid (show procB ⟨X, U, m, o, r⟩ ⟨Y, V, m', o', r'⟩ = false from by rw [HB.out, hq]; simp)
    clear hq
    go_wp2
    go_ret
    exact ⟨by first | (rw [HF.out]; rfl) | rfl, b2⟩
  have HT := Lib.hid (show procB ⟨X, U, m, o, r⟩ ⟨Y, V, m', o', r'⟩ = ((m == m') && (o == o') && (r == r')) from by rw [HB.out, E1.out, hq]; simp)
  clear hq E1 HB
  go_wp2
  all_goals go_ret
  all_goals refine ⟨?_, b2⟩
  all_goals rw [HT.out]
  all_goals clear HT
  all_goals first | (simp_all; done) | (simp_all; rfl)

theorem l3Proc {x y : ProcP} {vs us : List Value} {S T : Nat → Prop} {w : World} (hI : procShape.I w S vs x) (hJ : procShape.I w T us y) :
    Calls Try.prog 49 #[.agg vs.toArray, .agg us.toArray] w fun e w' => e = .returned (.bool (procB x y)) ∧ Below w.heap.size w w' := by
  obtain ⟨A, c, E, ec, rfl, f, u⟩ := hI
  obtain ⟨B, d, F, fc, rfl, g, v⟩ := hJ
  exact l3Proc_ f g u v _ _ _ _ _ _

set_option maxRecDepth 100000 in
theorem sameProc_ {X Y : List Int} {U V : SL} {A B E F : Option Addr} {c d ec fc : Nat} {S T : Nat → Prop} {w : World} (f : Fl w S 1 X A X.length c) (g : Fl w T 1 Y B Y.length d) (u : SlP w S U E U.len ec) (v : SlP w T V F V.len fc) (pS : AllPl w S) (pT : AllPl w T) (hz : U.size ≤ 1048576) (m o r m' o' r' : Int) :
    Calls Try.prog 51 #[.agg #[.slice A X.length c, .slice E U.len ec, .int .i64 m, .int .i64 o, .int .i64 r], .agg #[.slice B Y.length d, .slice F V.len fc, .int .i64 m', .int .i64 o', .int .i64 r']] w fun e w' => e = .returned (.bool (procB ⟨X, U, m, o, r⟩ ⟨Y, V, m', o', r'⟩)) ∧ Below w.heap.size w w' := by
  have b0 : Below w.heap.size w ((w.alloc (.cells #[.slice A X.length c, .slice E U.len ec, .int .i64 m, .int .i64 o, .int .i64 r] 74)).alloc (.cells #[.slice B Y.length d, .slice F V.len fc, .int .i64 m', .int .i64 o', .int .i64 r'] 74)) := ((Below.refl _ _).alloc (Nat.le_refl _) _).alloc (by simp) _
  have P0 := Lib.hid (row_first w #[.slice A X.length c, .slice E U.len ec, .int .i64 m, .int .i64 o, .int .i64 r] #[.slice B Y.length d, .slice F V.len fc, .int .i64 m', .int .i64 o', .int .i64 r'] 74 74)
  have Q0 := Lib.hid (row_second w #[.slice A X.length c, .slice E U.len ec, .int .i64 m, .int .i64 o, .int .i64 r] #[.slice B Y.length d, .slice F V.len fc, .int .i64 m', .int .i64 o', .int .i64 r'] 74 74)
  have HB := Lib.hid (show procB ⟨X, U, m, o, r⟩ ⟨Y, V, m', o', r'⟩ = (decide (X = Y) && sameL U V && (m == m') && (o == o') && (r == r')) from rfl)
  go_enter Try.func51, Try.ntmps51
  go_wp2_with fail
  refine (equalInt (f.later b0) (g.later b0)).mono ?_
  rintro e w1 ⟨rfl, hb⟩
  have b1 := b0.trans (hb.mono b0.size)
  have P1 := Lib.hid (rowk hb P0.out)
  have Q1 := Lib.hid (rowk hb Q0.out)
  clear hb b0 P0 Q0
  cases hq : decide (X = Y)
  · have HF := Lib.hid (show procB ⟨X, U, m, o, r⟩ ⟨Y, V, m', o', r'⟩ = false from by rw [HB.out, hq]; simp)
    clear hq
    go_wp2
    go_ret
    exact ⟨by first | (rw [HF.out]; rfl) | rfl, b1⟩
  have E1 := Lib.hid hq
  clear hq
  have cp : w1.cell? ⟨w.heap.size, 1, none⟩ = some (.slice E U.len ec) := by rw [row_cell P1.out]; rfl
  have cq : w1.cell? ⟨w.heap.size + 1, 1, none⟩ = some (.slice F V.len fc) := by rw [row_cell Q1.out]; rfl
  go_wp2_with fail
  clear cp cq
  refine (implSameStmts (u.later b1) (v.later b1) (pS.later b1) (pT.later b1) hz).mono ?_
  rintro e w2 ⟨rfl, hb⟩
  have b2 := b1.trans (hb.mono b1.size)
  have P2 := rowk hb P1.out
  have Q2 := rowk hb Q1.out
  have x2 : w2.cell? ⟨w.heap.size, 2, none⟩ = some (.int .i64 m) := by rw [row_cell P2]; rfl
  have x3 : w2.cell? ⟨w.heap.size, 3, none⟩ = some (.int .i64 o) := by rw [row_cell P2]; rfl
  have x4 : w2.cell? ⟨w.heap.size, 4, none⟩ = some (.int .i64 r) := by rw [row_cell P2]; rfl
  have y2 : w2.cell? ⟨w.heap.size + 1, 2, none⟩ = some (.int .i64 m') := by rw [row_cell Q2]; rfl
  have y3 : w2.cell? ⟨w.heap.size + 1, 3, none⟩ = some (.int .i64 o') := by rw [row_cell Q2]; rfl
  have y4 : w2.cell? ⟨w.heap.size + 1, 4, none⟩ = some (.int .i64 r') := by rw [row_cell Q2]; rfl
  clear hb b1 P1 Q1 P2 Q2
  cases hq : sameL U V
  · have HF := Lib.hid (show procB ⟨X, U, m, o, r⟩ ⟨Y, V, m', o', r'⟩ = false from by rw [HB.out, hq]; simp)
    clear hq
    go_wp2
    go_ret
    exact ⟨by first | (rw [HF.out]; rfl) | rfl, b2⟩
  have HT := Lib.hid (show procB ⟨X, U, m, o, r⟩ ⟨Y, V, m', o', r'⟩ = ((m == m') && (o == o') && (r == r')) from by rw [HB.out, E1.out, hq]; simp)
  clear hq E1 HB
  go_wp2
  all_goals go_ret
  all_goals refine ⟨?_, b2⟩
  all_goals rw [HT.out]
  all_goals clear HT
  all_goals first | (simp_all; done) | (simp_all; rfl)

theorem sameProc {x y : ProcP} {vs us : List Value} {S T : Nat → Prop} {w : World} (hI : procShape.I w S vs x) (hJ : procShape.I w T us y) (pS : AllPl w S) (pT : AllPl w T) (hz : x.todo.size ≤ 1048576) :
    Calls Try.prog 51 #[.agg vs.toArray, .agg us.toArray] w fun e w' => e = .returned (.bool (procB x y)) ∧ Below w.heap.size w w' := by
  obtain ⟨A, c, E, ec, rfl, f, u⟩ := hI
  obtain ⟨B, d, F, fc, rfl, g, v⟩ := hJ
  exact sameProc_ f g u v pS pT hz _ _ _ _ _ _

set_option maxRecDepth 100000 in
theorem equalProcs {Ls Ms : List ProcP} {A A' : Option Addr} {c c' : Nat} {S T : Nat → Prop} {w : World} (hs : Recs procShape w S Ls A Ls.length c) (ht : Recs procShape w T Ms A' Ms.length c') (pS : AllPl w S) (pT : AllPl w T) (hz : sizeProcS Ls ≤ 1048576) :
    Calls Try.prog 50 #[.slice A Ls.length c, .slice A' Ms.length c', .func (Fn.func 51) #[] #[]] w fun e w' => e = .returned (.bool (procsB Ls Ms)) ∧ Below w.heap.size w w' := by
  have hmax := hs.max
  have hmax' := ht.max
  have hz' : Ls.length + innerProcS Ls ≤ 1048576 := hz
  have PP := Lib.hid (And.intro pS pT)
  clear pS pT hz
  by_cases hn : Ls.length = Ms.length
  · rw [← hn] at ht hmax' ⊢
    have HN := Lib.hid hn
    generalize hg : Ls.length = n at *
    have HG := Lib.hid hg
    clear hn hg hmax'
    go_enter Try.func50, Try.ntmps50
    go_wp2_with fail
    go_loopw [17] (fun i wr => ∃ k : Nat, k ≤ n ∧ i = .int .i64 k ∧ Go.RowKit.Hid (PrK Ls Ms k) ∧ Below w.heap.size w wr) (fun i _ => n - (intOf i).toNat)
    case atStart => exact ⟨0, Nat.zero_le _, rfl, Lib.hid (PrK.zero _ _), Below.refl _ _⟩
    case round =>
      obtain ⟨k, hk, rfl, HEQ, hb⟩ := hrel
      by_cases hlt : k < n
      · have hkL : k < Ls.length := by rw [HG.out]; exact hlt
        have hkM : k < Ms.length := by rw [← HN.out]; exact hlt
        obtain ⟨a, x, A0, c0, A1, c1, hx, rfl, q0, q1, q2, q3, q4, hI⟩ := proc_at (hs.later (by decide) hb) k hkL
        obtain ⟨b, y, B0, d0, B1, d1, hy, rfl, r0, r1, r2, r3, r4, hJ⟩ := proc_at (ht.later (by decide) hb) k hkM
        have hzk : x.todo.size ≤ 1048576 := by
          have h1 := innerProcS_get hkL
          rw [hx] at h1
          have h2 : x.regs.length + x.todo.size = sizeProc x := rfl
          omega
        have hsz := hb.size
        have HX := Lib.hid hx
        have HY := Lib.hid hy
        have HI := Lib.hid hI
        have HJ := Lib.hid hJ
        clear hx hy hI hJ
        generalize hV : #[Value.slice A0 x.regs.length c0, Value.slice A1 x.todo.len c1, Value.int IntKind.i64 x.mode, Value.int IntKind.i64 x.on, Value.int IntKind.i64 x.room] = V
        generalize hU : #[Value.slice B0 y.regs.length d0, Value.slice B1 y.todo.len d1, Value.int IntKind.i64 y.mode, Value.int IntKind.i64 y.on, Value.int IntKind.i64 y.room] = U
        have hW1 : Below wr.heap.size wr (wr.alloc (.cells V 74)) := (Below.refl _ _).alloc (Nat.le_refl _) _
        have HW2 := Lib.hid (show Below wr.heap.size wr ((wr.alloc (.cells V 74)).alloc (.cells U 74)) from hW1.alloc (by simp) _)
        have s0 := cell_later r0 hW1
        have s1 := cell_later r1 hW1
        have s2 := cell_later r2 hW1
        have s3 := cell_later r3 hW1
        have s4 := cell_later r4 hW1
        subst hV hU
        clear hW1
        cases hq : procB x y
        · have HD := Lib.hid hq
          clear hq
          go_wp2_with fail
          refine (sameProc (procShape.later HI.out HW2.out) (procShape.later HJ.out HW2.out) (PP.out.1.later (hb.trans (HW2.out.mono hsz))) (PP.out.2.later (hb.trans (HW2.out.mono hsz))) hzk).mono ?_
          rintro e w1 ⟨rfl, hb1⟩
          have hb2 := hb.trans ((HW2.out.trans (hb1.mono HW2.out.size)).mono hsz)
          rw [HD.out]
          clear hb1
          go_wp2_with fail
          go_ret
          refine ⟨?_, hb2⟩
          rw [procsB_no hkL hkM (by rw [HX.out, HY.out]; exact HD.out)]; rfl
        · have HD := Lib.hid hq
          clear hq
          go_wp2_with fail
          refine (sameProc (procShape.later HI.out HW2.out) (procShape.later HJ.out HW2.out) (PP.out.1.later (hb.trans (HW2.out.mono hsz))) (PP.out.2.later (hb.trans (HW2.out.mono hsz))) hzk).mono ?_
          rintro e w1 ⟨rfl, hb1⟩
          have hb2 := hb.trans ((HW2.out.trans (hb1.mono HW2.out.size)).mono hsz)
          rw [HD.out]
          clear hb1
          go_wp2_with fail
          go_roundw
          case rel => exact ⟨k + 1, by omega, by go_num, Lib.hid (HEQ.out.more hkL hkM (by rw [HX.out, HY.out]; exact HD.out)), hb2⟩
          case measure => simp [intOf]; omega
      · go_wp2_with fail
        go_ret
        refine ⟨?_, hb⟩
        rw [HEQ.out.all (by rw [HG.out, HN.out]) (by rw [HG.out]; omega)]; rfl
  · have hd := procsB_len hn
    rw [hd]
    clear hd
    go_enter Try.func50, Try.ntmps50
    go_wp2
    go_ret
    exact ⟨rfl, Below.refl _ _⟩
end Go.Proofs.Ytkiekabfmdcemaa