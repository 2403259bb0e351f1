/- CodeOf of the program: the code of a list, in new memory. -/
import Derived.Test.YtnfnjhbaaefbpaaGreatDoorEmitStmts
import Derived.Test.YtnfnjhbaaefbpaaGreatDoorStmtsOk
import Derived.Test.YtnfnjhbaaefbpaaGreatDoorIns
namespace Go.Proofs.YtnfnjhbaaefbpaaGreatDoor
open Go.ChangeShapes Go.WideShapes Go.ChangeAt Go.RowKit

theorem info_Ins : (Tryz.prog.info? 34).map (fun i => (i.zero, i.size, i.bytes)) = some (some (.agg #[.int .i64 0, .int .i64 0, .int .i64 0, .int .i64 0]), 4, 32) := by kernel_rfl

theorem make_Ins (n : Nat) (hn : n ≤ 1048576) (w : World) : (Instr.makeSlice 25 (.int .i64 (n : Int)) (.int .i64 (n : Int))).run Tryz.prog w =
    .ok (.slice (some ⟨w.heap.size, 0, none⟩) n n) (w.alloc (.cells (madeCells #[.int .i64 0, .int .i64 0, .int .i64 0, .int .i64 0] (n * 4)) 34)) := by
  have hi := info_Ins
  obtain ⟨i, hi0, hi1⟩ := Option.map_eq_some_iff.1 hi
  simp only [Prod.mk.injEq] at hi1
  obtain ⟨e0, e1, e2⟩ := hi1
  have h := run_make (P := Tryz.prog) w 25 34 i _ Tryz.underlying25 hi0 e0 .i64 .i64 (n : Int) (n : Int) (by omega) (by omega) (by rw [e2]; omega) (by omega)
  rw [e1] at h
  simp only [Int.toNat_natCast] at h
  exact h

/-- The first i cells copied into a row of noughts. -/
def cop4 (xs : List Int) (i : Nat) : List Int := xs.take i ++ List.replicate (xs.length - i) 0
theorem cop4_zero (xs : List Int) : cop4 xs 0 = List.replicate xs.length 0 := by simp [cop4]
theorem cop4_all (xs : List Int) : cop4 xs xs.length = xs := by simp [cop4]
theorem cop4_len (xs : List Int) (i : Nat) (h : i ≤ xs.length) : (cop4 xs i).length = xs.length := by simp [cop4]; omega
theorem cop4_set (xs : List Int) (i : Nat) (h : i < xs.length) : (cop4 xs i).set i (xs.getD i 0) = cop4 xs (i + 1) := by
  unfold cop4
  rw [List.set_append_right _ _ (by simp; omega), List.length_take, Nat.min_eq_left (by omega), Nat.sub_self]
  have : xs.length - i = (xs.length - (i + 1)) + 1 := by omega
  rw [this, List.replicate_succ, List.set_cons_zero, List.take_add_one, List.getElem?_eq_getElem h, List.append_assoc]
  congr 1
  simp [List.getD, h]

theorem made4 (n : Nat) : (madeCells #[.int .i64 0, .int .i64 0, .int .i64 0, .int .i64 0] (n * 4)).toList = ints (List.replicate (n * 4) 0) := by
  apply List.ext_getElem?
  intro j
  by_cases hj : j < n * 4
  · have : j % 4 = 0 ∨ j % 4 = 1 ∨ j % 4 = 2 ∨ j % 4 = 3 := by omega
    rcases this with h | h | h | h <;> simp [madeCells, hj, ints, h]
  · simp [madeCells, hj, ints]

/-- The world's blocks of kept instructions are as they were. -/
theorem KG.of_below {s : Nat} {w w' : World} (h : Below w.heap.size w w') : KG s w w' := fun b _ _ _ _ _ hc => (h.block b (Array.getElem?_eq_some_iff.1 hc).1).trans hc

set_option maxRecDepth 100000 in
theorem emitDone {w : World} {N cb s : Nat} {fs : List Value} {q : List Int} (he : Emit w N cb fs) (hq : EvL w s fs q) (hm : fs.length ≤ 1000) :
    Calls Tryz.prog 19 #[.pointer (some ⟨cb, 0, none⟩)] w fun e w' => ∃ v, e = .returned v ∧ w'.ownsRow w.heap.size 34 4 v fs.length (ints q) ∧ Below w.heap.size w w' := by
  obtain ⟨v, hc, _, _, ho, hlt⟩ := he.cells
  obtain ⟨A, c, rfl⟩ := own_slice ho
  have hl := hq.len
  have hmk := fun W => make_Ins fs.length (by omega) W
  have HQ := Lib.hid hq
  have HO := Lib.hid ho
  clear hq ho he
  go_enter Tryz.func19, Tryz.ntmps19
  go_wp2_with fail
  go_loopw [17] (fun i wr => ∃ k : Nat, k ≤ fs.length ∧ i = .int .i64 k ∧ wr.ownsRow w.heap.size 34 4 (.slice (some ⟨w.heap.size, 0, none⟩) fs.length fs.length) fs.length (ints (cop4 q (k * 4))) ∧ Below w.heap.size w wr) (fun i _ => fs.length - (intOf i).toNat)
  case atStart =>
    refine ⟨0, Nat.zero_le _, rfl, ?_, (Below.refl _ _).alloc (Nat.le_refl _) _⟩
    have := World.ownsRow_lit (base := w.heap.size) (e := 34) (size := 4) w (madeCells #[.int .i64 0, .int .i64 0, .int .i64 0, .int .i64 0] (fs.length * 4)) fs.length (Nat.le_refl _) (by unfold maxLen; omega) (size_madeCells _ _)
    rw [made4] at this
    rw [Nat.zero_mul, cop4_zero, hl]
    exact this
  case round =>
    clear hmk
    obtain ⟨k, hk, rfl, hown, hb⟩ := hrel
    have hz := hb.size
    by_cases hlt' : k < fs.length
    · obtain ⟨f, hf, hev⟩ := HQ.out.at k hlt'
      obtain ⟨g, rfl⟩ : ∃ g, A = some ⟨g, 0, none⟩ := by
        obtain ⟨_, ⟨h, h0⟩ | ⟨g, cap, cur, h, _⟩⟩ := id HO.out
        · omega
        · exact ⟨g, by simp at h; exact h.1⟩
      have hfc : wr.cell? ⟨g, k, none⟩ = some f := by
        rw [hb.cell (p := ⟨g, k, none⟩) (own_at HO.out (b := g) rfl).2, HO.out.cellAt k (by omega)]; exact hf
      have HOWN := Lib.hid hown
      have HL := Lib.hid hl
      clear hown hl hf
      rcases hev with ⟨g0, _, rfl, hg0⟩ | ⟨hb0, p, _, ⟨go, ga, gt, _, _, _, rfl, hj0, hj1, hj2⟩, hp⟩
      · have hcall := callKept g0 _ _ _ _ wr ((hb.block _ (Array.getElem?_eq_some_iff.1 hg0).1).trans hg0)
        unfold kept1 at hfc
        have HC := Lib.hid hcall
        have HB := Lib.hid hb
        clear hcall hb hg0
        go_wp2_with fail
        refine HC.out.mono ?_
        rintro e w1 ⟨rfl, hb1⟩
        have hown1 := own_below HOWN.out hb1
        have hz1 := cop4_len q (k * 4) (by rw [HL.out]; omega)
        have hl := HL.out
        have q0 := hown1.cellAt (k * 4) (by omega)
        have q1 := hown1.cellAt (k * 4 + 1) (by omega)
        have q2 := hown1.cellAt (k * 4 + 2) (by omega)
        have q3 := hown1.cellAt (k * 4 + 3) (by omega)
        rw [ints_get (by omega)] at q0 q1 q2 q3
        have f0 := hown1.frozenAt (k * 4)
        have f1 := hown1.frozenAt (k * 4 + 1)
        have f2 := hown1.frozenAt (k * 4 + 2)
        have f3 := hown1.frozenAt (k * 4 + 3)
        have s1 := hown1.stored (k * 4) (.int .i64 (q.getD (k * 4) 0))
        rw [ints_set, cop4_set q (k * 4) (by omega)] at s1
        have s2 := s1.1.stored (k * 4 + 1) (.int .i64 (q.getD (k * 4 + 1) 0))
        rw [ints_set, cop4_set q (k * 4 + 1) (by omega)] at s2
        have s3 := s2.1.stored (k * 4 + 2) (.int .i64 (q.getD (k * 4 + 2) 0))
        rw [ints_set, cop4_set q (k * 4 + 2) (by omega)] at s3
        have s4 := s3.1.stored (k * 4 + 3) (.int .i64 (q.getD (k * 4 + 3) 0))
        rw [ints_set, cop4_set q (k * 4 + 3) (by omega)] at s4
        have b1 : Below w.heap.size w w1 := HB.out.trans (hb1.mono hz)
        have b2 := (((b1.setCell (p := ⟨w.heap.size, k * 4, none⟩) (Nat.le_refl _) (.int .i64 (q.getD (k * 4) 0))).setCell (p := ⟨w.heap.size, k * 4 + 1, none⟩) (Nat.le_refl _) (.int .i64 (q.getD (k * 4 + 1) 0))).setCell (p := ⟨w.heap.size, k * 4 + 2, none⟩) (Nat.le_refl _) (.int .i64 (q.getD (k * 4 + 2) 0))).setCell (p := ⟨w.heap.size, k * 4 + 3, none⟩) (Nat.le_refl _) (.int .i64 (q.getD (k * 4 + 3) 0))
        simp only [List.getD_eq_getElem?_getD] at s4 b2
        have S2 := Lib.hid s4
        have B2 := Lib.hid b2
        clear s1 s2 s3 s4 b2 hown1 hz1 hl hfc
        go_wp2_with fail
        go_roundw
        case rel => exact ⟨k + 1, by omega, by go_num, (show (k + 1) * 4 = k * 4 + 3 + 1 by omega) ▸ S2.out.1, B2.out⟩
        case measure => simp [intOf]; omega
      · have hcall := callJump' go ga gt p _ _ _ _ wr hb0 ((hb.block _ (Array.getElem?_eq_some_iff.1 hj0).1).trans hj0) ((hb.block _ (Array.getElem?_eq_some_iff.1 hj1).1).trans hj1) ((hb.block _ (Array.getElem?_eq_some_iff.1 hj2).1).trans hj2) ((hb.block _ (Array.getElem?_eq_some_iff.1 hp).1).trans hp)
        unfold jump1 at hfc
        have HC := Lib.hid hcall
        have HB := Lib.hid hb
        clear hcall hb hj0 hj1 hj2 hp hb0
        go_wp2_with fail
        refine HC.out.mono ?_
        rintro e w1 ⟨rfl, hb1⟩
        have hown1 := own_below HOWN.out hb1
        have hz1 := cop4_len q (k * 4) (by rw [HL.out]; omega)
        have hl := HL.out
        have q0 := hown1.cellAt (k * 4) (by omega)
        have q1 := hown1.cellAt (k * 4 + 1) (by omega)
        have q2 := hown1.cellAt (k * 4 + 2) (by omega)
        have q3 := hown1.cellAt (k * 4 + 3) (by omega)
        rw [ints_get (by omega)] at q0 q1 q2 q3
        have f0 := hown1.frozenAt (k * 4)
        have f1 := hown1.frozenAt (k * 4 + 1)
        have f2 := hown1.frozenAt (k * 4 + 2)
        have f3 := hown1.frozenAt (k * 4 + 3)
        have s1 := hown1.stored (k * 4) (.int .i64 (q.getD (k * 4) 0))
        rw [ints_set, cop4_set q (k * 4) (by omega)] at s1
        have s2 := s1.1.stored (k * 4 + 1) (.int .i64 (q.getD (k * 4 + 1) 0))
        rw [ints_set, cop4_set q (k * 4 + 1) (by omega)] at s2
        have s3 := s2.1.stored (k * 4 + 2) (.int .i64 (q.getD (k * 4 + 2) 0))
        rw [ints_set, cop4_set q (k * 4 + 2) (by omega)] at s3
        have s4 := s3.1.stored (k * 4 + 3) (.int .i64 (q.getD (k * 4 + 3) 0))
        rw [ints_set, cop4_set q (k * 4 + 3) (by omega)] at s4
        have b1 : Below w.heap.size w w1 := HB.out.trans (hb1.mono hz)
        have b2 := (((b1.setCell (p := ⟨w.heap.size, k * 4, none⟩) (Nat.le_refl _) (.int .i64 (q.getD (k * 4) 0))).setCell (p := ⟨w.heap.size, k * 4 + 1, none⟩) (Nat.le_refl _) (.int .i64 (q.getD (k * 4 + 1) 0))).setCell (p := ⟨w.heap.size, k * 4 + 2, none⟩) (Nat.le_refl _) (.int .i64 (q.getD (k * 4 + 2) 0))).setCell (p := ⟨w.heap.size, k * 4 + 3, none⟩) (Nat.le_refl _) (.int .i64 (q.getD (k * 4 + 3) 0))
        simp only [List.getD_eq_getElem?_getD] at s4 b2
        have S2 := Lib.hid s4
        have B2 := Lib.hid b2
        clear s1 s2 s3 s4 b2 hown1 hz1 hl hfc
        go_wp2_with fail
        go_roundw
        case rel => exact ⟨k + 1, by omega, by go_num, (show (k + 1) * 4 = k * 4 + 3 + 1 by omega) ▸ S2.out.1, B2.out⟩
        case measure => simp [intOf]; omega
    · obtain rfl : k = fs.length := by omega
      go_wp2_with fail
      go_ret
      refine ⟨_, rfl, ?_, hb⟩
      rw [← hl, cop4_all] at hown
      exact hown

set_option maxRecDepth 100000 in
theorem codeOf (L : SL) (A : Option Addr) (n c M : Nat) (w : World) (hs : Sl w M L A n c) (hM : M ≤ w.heap.size) (h0 : 0 < w.heap.size) (hop : Ops w) :
    Calls Tryz.prog 7 #[.slice A n c] w fun e w' => ∃ v, e = .returned v ∧ w'.ownsRow w.heap.size 34 4 v (if okP L then L.lenC + 1 else 0) (ints (if okP L then codeP L else [])) ∧ Below w.heap.size w w' := by
  have hst := stmtsOk L A n c M w hs hM
  cases hk : okP L
  · rw [hk] at hst
    have HST := Lib.hid hst
    clear hst hop hk
    simp only [Bool.false_eq_true, if_false]
    go_enter Tryz.func7, Tryz.ntmps7
    go_wp2_with fail
    refine HST.out.mono ?_
    rintro e w1 ⟨rfl, b1⟩
    go_wp2_with fail
    go_ret
    exact ⟨_, rfl, World.ownsRow_nil _ _ _ _, b1⟩
  · rw [hk] at hst
    have HST := Lib.hid hst
    have HOP := Lib.hid hop
    obtain ⟨h14, hok⟩ := okP_size hk
    have hlc := lenC_le L
    have HOK := Lib.hid hok
    clear hst hop hk hok
    simp only [if_true]
    go_enter Tryz.func7, Tryz.ntmps7
    go_wp2_with fail
    refine HST.out.mono ?_
    rintro e w1 ⟨rfl, b1⟩
    have z1 := b1.size
    go_wp2_with fail
    obtain ⟨W, hW⟩ : ∃ W, W = w1.alloc (.cells #[.slice none 0 0] 39) := ⟨_, rfl⟩
    have bW : Below w1.heap.size w1 W := by rw [hW]; exact (Below.refl _ _).alloc (Nat.le_refl _) _
    have eW : Emit W w1.heap.size w1.heap.size [] := ⟨⟨.slice none 0 0, by rw [hW]; exact new_row _ _ _, World.ownsRow_nil _ _ _ _⟩, Nat.le_refl _⟩
    rw [← hW]
    clear hW
    have zW := bW.size
    have hcbW : w1.heap.size < W.heap.size := eW.cells.choose_spec.2.2.2.2
    have bwW : Below w.heap.size w W := b1.trans (bW.mono z1)
    have hadd := addStmts L A n c M w1.heap.size w1.heap.size [] 3 (-1) W (hs.below (bwW.mono hM)) (by omega) zW (by omega) eW HOK.out (by simp; omega) (HOP.out.below bwW h0)
    refine hadd.mono ?_
    clear hadd eW
    rintro e w2 ⟨rfl, gs, em2, ev2, kf2, b2⟩
    simp only [List.nil_append, List.length_nil] at em2 ev2
    have lg : gs.length = L.lenC := by have := ev2.len; rw [codeL_len] at this; omega
    have z2 := b2.size
    have hb3 := emitAdd em2 (by omega) (by omega) 13 0 0 0
    have HB3 := Lib.hid hb3
    have EV2 := Lib.hid ev2
    clear hb3 ev2 em2
    go_wp2_with fail
    refine HB3.out.mono ?_
    clear HB3
    rintro e w3 ⟨rfl, f, em3, ev3, kf3, b3⟩
    have z3 := kf3.size
    have ev := (EV2.out.kg (kf3.kg hcbW)).app ((EvL.one ev3).mono (s' := W.heap.size) (by omega))
    have hd := emitDone em3 ev (by simp; omega)
    have HD := Lib.hid hd
    clear hd ev em3 EV2 ev3 kf2 kf3
    go_wp2_with fail
    refine HD.out.mono ?_
    clear HD
    rintro e w4 ⟨v, rfl, o4, b4⟩
    go_wp2_with fail
    go_ret
    have bw3 : Below w.heap.size w w3 := bwW.trans ((b2.trans b3).mono (by omega))
    refine ⟨_, rfl, ?_, bw3.trans (b4.mono (by omega))⟩
    have e1 : (gs ++ [f]).length = L.lenC + 1 := by simp [lg]
    rw [e1] at o4
    exact own_mono o4 (by omega)
end Go.Proofs.YtnfnjhbaaefbpaaGreatDoor
