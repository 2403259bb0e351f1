/- Proc: its copy: every new block is a plain row (written by tools/gen_news.py). -/
import Derived.Test.YtkiekabfmdcemaaProcRec
import Derived.Test.YtkiekabfmdcemaaKindsN
namespace Go.Proofs.Ytkiekabfmdcemaa
open Go.ChangeShapes Go.WideShapes Go.ChangeAt Go.RowKit

set_option maxRecDepth 100000 in
set_option maxHeartbeats 4000000 in
theorem toProcN_ {X0 : List Int} {X1 : SL} {X2 : Int} {X3 : Int} {X4 : Int} {A0 : Option Addr} {c0 : Nat} {A1 : Option Addr} {c1 : Nat} {S : Nat → Prop} {w : World} (f0 : Fl w S 1 X0 A0 X0.length c0) (f1 : SlP w S X1 A1 X1.len c1) (hS : X0.length + X1.size ≤ 1048576) :
    Calls Try.prog 66 #[.agg #[.slice A0 X0.length c0, .slice A1 X1.len c1, .int .i64 X2, .int .i64 X3, .int .i64 X4]] w fun e w' => ∃ vs : List Value, e = .returned (.agg vs.toArray) ∧ procShape.I w' (Born w w') vs ⟨X0, X1, X2, X3, X4⟩ ∧ Below w.heap.size w w' ∧ News w w' := by
  have b0 : Below w.heap.size w (((w.alloc (.cells #[.slice A0 X0.length c0, .slice A1 X1.len c1, .int .i64 X2, .int .i64 X3, .int .i64 X4] 100)).alloc (.cells #[.slice none 0 0, .slice none 0 0, .int .i64 0, .int .i64 0, .int .i64 0] 74)).alloc (.cells #[.slice none 0 0, .slice none 0 0, .int .i64 0, .int .i64 0, .int .i64 0] 74)) := (((Below.refl _ _).alloc (Nat.le_refl _) _).alloc (by simp) _).alloc (by simp; omega) _
  have P0 := Lib.hid (row3_first w #[.slice A0 X0.length c0, .slice A1 X1.len c1, .int .i64 X2, .int .i64 X3, .int .i64 X4] #[.slice none 0 0, .slice none 0 0, .int .i64 0, .int .i64 0, .int .i64 0] #[.slice none 0 0, .slice none 0 0, .int .i64 0, .int .i64 0, .int .i64 0] 100 74 74)
  have Q0 := Lib.hid (row3_second w #[.slice A0 X0.length c0, .slice A1 X1.len c1, .int .i64 X2, .int .i64 X3, .int .i64 X4] #[.slice none 0 0, .slice none 0 0, .int .i64 0, .int .i64 0, .int .i64 0] #[.slice none 0 0, .slice none 0 0, .int .i64 0, .int .i64 0, .int .i64 0] 100 74 74)
  have O0 := Lib.hid (row3_third w #[.slice A0 X0.length c0, .slice A1 X1.len c1, .int .i64 X2, .int .i64 X3, .int .i64 X4] #[.slice none 0 0, .slice none 0 0, .int .i64 0, .int .i64 0, .int .i64 0] #[.slice none 0 0, .slice none 0 0, .int .i64 0, .int .i64 0, .int .i64 0] 100 74 74)
  have NW0 := Lib.hid ((((News.refl w).alloc #[.slice A0 X0.length c0, .slice A1 X1.len c1, .int .i64 X2, .int .i64 X3, .int .i64 X4] 100).alloc #[.slice none 0 0, .slice none 0 0, .int .i64 0, .int .i64 0, .int .i64 0] 74).alloc #[.slice none 0 0, .slice none 0 0, .int .i64 0, .int .i64 0, .int .i64 0] 74)
  have z0 : w.heap.size + 3 ≤ (((w.alloc (.cells #[.slice A0 X0.length c0, .slice A1 X1.len c1, .int .i64 X2, .int .i64 X3, .int .i64 X4] 100)).alloc (.cells #[.slice none 0 0, .slice none 0 0, .int .i64 0, .int .i64 0, .int .i64 0] 74)).alloc (.cells #[.slice none 0 0, .slice none 0 0, .int .i64 0, .int .i64 0, .int .i64 0] 74)).heap.size := by simp
  go_enter Try.func66, Try.ntmps66
  go_wp2_with fail
  refine (ints_toN (f0.later b0) (by omega)).mono ?_
  rintro e w1 ⟨B0, d0, rfl, g0, hb, hn⟩
  have NW1 := Lib.hid (NW0.out.trans hn hb)
  clear hn NW0
  have P1 := Lib.hid (rowk hb P0.out)
  have Q1 := Lib.hid (rowk hb Q0.out)
  have O1 := Lib.hid (rowk hb O0.out)
  have hz := hb.size
  replace g0 := g0.mono (T := fun b => w.heap.size + 3 ≤ b ∧ b < w1.heap.size) fun b hp => ⟨by have := hp.1; omega, hp.2⟩
  have b1 := b0.trans (hb.mono b0.size)
  have z1 : w.heap.size + 3 ≤ w1.heap.size := Nat.le_trans z0 hz
  clear hb hz b0 P0 Q0 O0 z0 f0
  have cp1 : w1.cell? ⟨w.heap.size, 1, none⟩ = some (.slice A1 X1.len c1) := by rw [row_cell P1.out]; rfl
  have co0 : w1.cell? ⟨w.heap.size + 1 + 1, 0, none⟩ = some (.slice none 0 0) := by rw [row_cell O1.out]; rfl
  have cf0 := row_frozen O1.out 0
  go_wp2_with fail
  clear cp1 co0 cf0
  replace O1 := Lib.hid (show (w1.setCell ⟨w.heap.size + 1 + 1, 0, none⟩ (.slice B0 X0.length d0)).heap[w.heap.size + 1 + 1]? = some (.cells #[.slice B0 X0.length d0, .slice none 0 0, .int .i64 0, .int .i64 0, .int .i64 0] 74 (0, 0)) from by rw [row_set O1.out]; rfl)
  have HW : (w1.setCell ⟨w.heap.size + 1 + 1, 0, none⟩ (.slice B0 X0.length d0)).heap.size = w1.heap.size := by simp only [size_set]
  replace P1 := Lib.hid ((row_other (i := 0) (show w.heap.size ≠ w.heap.size + 1 + 1 by omega) (.slice B0 X0.length d0)).trans (P1.out))
  replace Q1 := Lib.hid ((row_other (i := 0) (show w.heap.size + 1 ≠ w.heap.size + 1 + 1 by omega) (.slice B0 X0.length d0)).trans (Q1.out))
  replace b1 := (b1.setCell (p := ⟨w.heap.size + 1 + 1, 0, none⟩) (by show _ ≤ w.heap.size + 1 + 1; omega) (.slice B0 X0.length d0))
  replace g0 := (g0.keep (keepO (j := 0) (.slice B0 X0.length d0)))
  rw [← HW] at g0 z1
  clear HW
  replace NW1 := Lib.hid (NW1.out.set (w.heap.size + 1 + 1) 0 (.slice B0 X0.length d0))
  generalize HWW : (w1.setCell ⟨w.heap.size + 1 + 1, 0, none⟩ (.slice B0 X0.length d0)) = W1 at *
  clear HWW
  refine (stmts_toN (f1.later b1) (by omega)).mono ?_
  rintro e w2 ⟨B1, d1, rfl, g1, hb, hn⟩
  have NW2 := Lib.hid (NW1.out.trans hn hb)
  clear hn NW1
  have P2 := Lib.hid (rowk hb P1.out)
  have Q2 := Lib.hid (rowk hb Q1.out)
  have O2 := Lib.hid (rowk hb O1.out)
  have hz := hb.size
  replace g0 := (g0.keep (w' := w2) fun p hp => hb.cell hp.2).mono (T := fun b => w.heap.size + 3 ≤ b ∧ b < w2.heap.size) fun b hp => ⟨hp.1, by have := hp.2; omega⟩
  replace g1 := g1.mono (T := fun b => w.heap.size + 3 ≤ b ∧ b < w2.heap.size) fun b hp => ⟨by have := hp.1; omega, hp.2⟩
  have b2 := b1.trans (hb.mono b1.size)
  have z2 : w.heap.size + 3 ≤ w2.heap.size := Nat.le_trans z1 hz
  clear hb hz b1 P1 Q1 O1 z1 f1
  have cp2 : w2.cell? ⟨w.heap.size, 2, none⟩ = some (.int .i64 X2) := by rw [row_cell P2.out]; rfl
  have cp3 : w2.cell? ⟨w.heap.size, 3, none⟩ = some (.int .i64 X3) := by rw [row_cell P2.out]; rfl
  have cp4 : w2.cell? ⟨w.heap.size, 4, none⟩ = some (.int .i64 X4) := by rw [row_cell P2.out]; rfl
  have co1 : w2.cell? ⟨w.heap.size + 1 + 1, 1, none⟩ = some (.slice none 0 0) := by rw [row_cell O2.out]; rfl
  have cf1 := row_frozen O2.out 1
  have co2 : w2.cell? ⟨w.heap.size + 1 + 1, 2, none⟩ = some (.int .i64 0) := by rw [row_cell O2.out]; rfl
  have cf2 := row_frozen O2.out 2
  have co3 : w2.cell? ⟨w.heap.size + 1 + 1, 3, none⟩ = some (.int .i64 0) := by rw [row_cell O2.out]; rfl
  have cf3 := row_frozen O2.out 3
  have co4 : w2.cell? ⟨w.heap.size + 1 + 1, 4, none⟩ = some (.int .i64 0) := by rw [row_cell O2.out]; rfl
  have cf4 := row_frozen O2.out 4
  have co0 : w2.cell? ⟨w.heap.size + 1 + 1, 0, none⟩ = some (.slice B0 X0.length d0) := by rw [row_cell O2.out]; rfl
  have ct0 : w2.cell? ⟨w.heap.size + 1, 0, none⟩ = some (.slice none 0 0) := by rw [row_cell Q2.out]; rfl
  have ch0 := row_frozen Q2.out 0
  have ct1 : w2.cell? ⟨w.heap.size + 1, 1, none⟩ = some (.slice none 0 0) := by rw [row_cell Q2.out]; rfl
  have ch1 := row_frozen Q2.out 1
  have ct2 : w2.cell? ⟨w.heap.size + 1, 2, none⟩ = some (.int .i64 0) := by rw [row_cell Q2.out]; rfl
  have ch2 := row_frozen Q2.out 2
  have ct3 : w2.cell? ⟨w.heap.size + 1, 3, none⟩ = some (.int .i64 0) := by rw [row_cell Q2.out]; rfl
  have ch3 := row_frozen Q2.out 3
  have ct4 : w2.cell? ⟨w.heap.size + 1, 4, none⟩ = some (.int .i64 0) := by rw [row_cell Q2.out]; rfl
  have ch4 := row_frozen Q2.out 4
  go_wp2_with fail
  refine bodyPost_ret (v := .agg #[.slice B0 X0.length d0, .slice B1 X1.len d1, .int .i64 X2, .int .i64 X3, .int .i64 X4]) (by simp [results, Try.results66, go_sem, *]) rfl ⟨[.slice B0 X0.length d0, .slice B1 X1.len d1, .int .i64 X2, .int .i64 X3, .int .i64 X4], rfl, ?_, ?_, ?_⟩
  · exact ⟨B0, d0, B1, d1, rfl, (((((((((g0.keep (keepO (j := 1) (.slice B1 X1.len d1))).keep (keepO (j := 2) (.int .i64 X2))).keep (keepO (j := 3) (.int .i64 X3))).keep (keepO (j := 4) (.int .i64 X4))).keep (keepR (j := 0) (.slice B0 X0.length d0))).keep (keepR (j := 1) (.slice B1 X1.len d1))).keep (keepR (j := 2) (.int .i64 X2))).keep (keepR (j := 3) (.int .i64 X3))).keep (keepR (j := 4) (.int .i64 X4))).mono (fun b hb => ⟨by have := hb.1; omega, by simp only [size_set]; exact hb.2⟩), (((((((((g1.keep (keepO (j := 1) (.slice B1 X1.len d1))).keep (keepO (j := 2) (.int .i64 X2))).keep (keepO (j := 3) (.int .i64 X3))).keep (keepO (j := 4) (.int .i64 X4))).keep (keepR (j := 0) (.slice B0 X0.length d0))).keep (keepR (j := 1) (.slice B1 X1.len d1))).keep (keepR (j := 2) (.int .i64 X2))).keep (keepR (j := 3) (.int .i64 X3))).keep (keepR (j := 4) (.int .i64 X4))).mono (fun b hb => ⟨by have := hb.1; omega, by simp only [size_set]; exact hb.2⟩)⟩
  · exact (((((((((b2.setCell (p := ⟨w.heap.size + 1 + 1, 1, none⟩) (by show _ ≤ w.heap.size + 1 + 1; omega) (.slice B1 X1.len d1)).setCell (p := ⟨w.heap.size + 1 + 1, 2, none⟩) (by show _ ≤ w.heap.size + 1 + 1; omega) (.int .i64 X2)).setCell (p := ⟨w.heap.size + 1 + 1, 3, none⟩) (by show _ ≤ w.heap.size + 1 + 1; omega) (.int .i64 X3)).setCell (p := ⟨w.heap.size + 1 + 1, 4, none⟩) (by show _ ≤ w.heap.size + 1 + 1; omega) (.int .i64 X4)).setCell (p := ⟨w.heap.size + 1, 0, none⟩) (by show _ ≤ w.heap.size + 1; omega) (.slice B0 X0.length d0)).setCell (p := ⟨w.heap.size + 1, 1, none⟩) (by show _ ≤ w.heap.size + 1; omega) (.slice B1 X1.len d1)).setCell (p := ⟨w.heap.size + 1, 2, none⟩) (by show _ ≤ w.heap.size + 1; omega) (.int .i64 X2)).setCell (p := ⟨w.heap.size + 1, 3, none⟩) (by show _ ≤ w.heap.size + 1; omega) (.int .i64 X3)).setCell (p := ⟨w.heap.size + 1, 4, none⟩) (by show _ ≤ w.heap.size + 1; omega) (.int .i64 X4))
  · exact (((((((((NW2.out.set _ _ _).set _ _ _).set _ _ _).set _ _ _).set _ _ _).set _ _ _).set _ _ _).set _ _ _).set _ _ _)

theorem proc_toN {x : ProcP} {vs : List Value} {S : Nat → Prop} {w : World} (hI : procShape.I w S vs x) (hS : sizeProc x ≤ 1048576) :
    Calls Try.prog 66 #[.agg vs.toArray] w fun e w' => ∃ us : List Value, e = .returned (.agg us.toArray) ∧ procShape.I w' (Born w w') us x ∧ Below w.heap.size w w' ∧ News w w' := by
  obtain ⟨A0, c0, A1, c1, rfl, f0, f1⟩ := hI
  exact toProcN_ f0 f1 hS

set_option maxRecDepth 100000 in
theorem procs_toN {Ls : List ProcP} {A : Option Addr} {c : Nat} {S : Nat → Prop} {w : World} (hs : Recs procShape w S Ls A Ls.length c) (hS : sizeProcS Ls ≤ 1048576) :
    Calls Try.prog 45 #[.slice A Ls.length c] w fun e w' => ∃ (A' : Option Addr) (c' : Nat), e = .returned (.slice A' Ls.length c') ∧ Recs procShape w' (Born w w') Ls A' Ls.length c' ∧ Below w.heap.size w w' ∧ News w w' := by
  have hll : Ls.length + innerProcS Ls ≤ 1048576 := hS
  have hmk := fun W => make_Proc Ls.length (by omega) W
  generalize hn : Ls.length = n at *
  have HN := Lib.hid hn
  have hn1 : n ≤ Ls.length := Nat.le_of_eq hn.symm
  have hn2 : Ls.length ≤ n := Nat.le_of_eq hn
  clear hn
  go_enter Try.func45, Try.ntmps45
  go_wp2_with fail
  go_loopw [4] (fun i wr => ∃ k : Nat, k ≤ n ∧ i = .int .i64 k ∧ Making procShape w 74 Ls k wr ∧ Go.RowKit.Hid (News w wr)) (fun i _ => n - (intOf i).toNat)
  case atStart => exact ⟨0, Nat.zero_le _, rfl, Making.start procShape w 74 Ls #[.slice none 0 0, .slice none 0 0, .int .i64 0, .int .i64 0, .int .i64 0] HN.out.symm, Lib.hid ((News.refl w).alloc _ _)⟩
  case round =>
    clear hmk
    obtain ⟨k, hk, rfl, hm, HNW⟩ := hrel
    by_cases hlt : k < n
    · have hk' : k < Ls.length := by omega
      have hsg := innerProcS_get hk'
      obtain ⟨a, x, A0, c0, A1, c1, hx, rfl, q0, q1, q2, q3, q4, hI⟩ := proc_at (hs.later (by decide) hm.below) k hk'
      rw [hx] at hsg
      have HX := Lib.hid hx
      have HI := Lib.hid hI
      have HM := Lib.hid hm
      clear hx hI hm
      go_wp2_with fail
      refine (proc_toN HI.out (by omega)).mono ?_
      rintro e w1 ⟨us, rfl, s2, hb1, hn1⟩
      have HN1 := Lib.hid (HNW.out.trans hn1 hb1)
      clear hn1
      obtain ⟨B0, d0, B1, d1, rfl, _⟩ := id s2
      obtain ⟨⟨v0, r0⟩, z0⟩ := HM.out.place hk' hb1 0 (by decide)
      obtain ⟨⟨v1, r1⟩, z1⟩ := HM.out.place hk' hb1 1 (by decide)
      obtain ⟨⟨v2, r2⟩, z2⟩ := HM.out.place hk' hb1 2 (by decide)
      obtain ⟨⟨v3, r3⟩, z3⟩ := HM.out.place hk' hb1 3 (by decide)
      obtain ⟨⟨v4, r4⟩, z4⟩ := HM.out.place hk' hb1 4 (by decide)
      rw [show k * procShape.z + 0 = k * 5 from rfl] at r0 z0
      rw [show k * procShape.z + 1 = k * 5 + 1 from rfl] at r1 z1
      rw [show k * procShape.z + 2 = k * 5 + 2 from rfl] at r2 z2
      rw [show k * procShape.z + 3 = k * 5 + 3 from rfl] at r3 z3
      rw [show k * procShape.z + 4 = k * 5 + 4 from rfl] at r4 z4
      have HB := Lib.hid hb1
      have HS := Lib.hid s2
      clear hb1 s2
      go_wp2_with fail
      go_roundw
      case rel =>
        refine ⟨k + 1, by omega, by go_num, ?_⟩
        have h := HM.out.next' hk' HX.out HB.out HS.out (m := k * 5) rfl
        simp only [setCells] at h
        exact ⟨h, Lib.hid (((((HN1.out.set _ _ _).set _ _ _).set _ _ _).set _ _ _).set _ _ _)⟩
      case measure => simp [intOf]; omega
    · go_wp2_with fail
      go_ret
      obtain rfl : k = n := by omega
      have h := HN.out
      subst h
      exact ⟨_, _, rfl, hm.done (by unfold maxLen; omega), hm.below, HNW.out⟩
end Go.Proofs.Ytkiekabfmdcemaa
