/- WholeLike of the program and of the model. -/
import Derived.Test.YthamehcfenncaaaWorldRec
import Derived.Test.YthamehcfenncaaaSaidBy
import Derived.Test.YthamehcfenncaaaIntSame
import Derived.Test.YthamehcfenncaaaTakeOp
namespace Go.Proofs.Ythamehcfenncaaa
open Go.ChangeShapes Go.WideShapes Go.ChangeAt Go.RowKit

/-- Whether of each of the first n the same was said. -/
def saidsB (xs ys : List Int) (n : Nat) : Bool := (List.range n).all fun i => decide (saidK xs (i : Int) (xs.length / 2) = saidK ys (i : Int) (ys.length / 2))
theorem saidsB_yes {xs ys : List Int} {n : Nat} (h : ∀ j, j < n → saidK xs (j : Int) (xs.length / 2) = saidK ys (j : Int) (ys.length / 2)) : saidsB xs ys n = true := by
  unfold saidsB
  rw [List.all_eq_true]
  intro i hi
  exact decide_eq_true (h i (List.mem_range.1 hi))
theorem saidsB_no {xs ys : List Int} {n k : Nat} (hk : k < n) (h : ¬ saidK xs (k : Int) (xs.length / 2) = saidK ys (k : Int) (ys.length / 2)) : saidsB xs ys n = false := by
  unfold saidsB
  rw [List.all_eq_false]
  exact ⟨k, List.mem_range.2 hk, by simpa using h⟩
def likeB (x y : WorldP) : Bool := decide (x.procs.length = y.procs.length) && decide (x.cells = y.cells) && saidsB x.said y.said x.procs.length

theorem own_true {w w' : World} {v : Value} {xs : List Int} (ho : w'.ownsRow w.heap.size 3 1 v xs.length (ints xs)) : ∃ (A : Option Addr) (c : Nat), v = .slice A xs.length c ∧ Fl w' (fun _ => True) 1 xs A xs.length c := by
  obtain ⟨A, c, rfl, hf⟩ := own_fl ho
  exact ⟨A, c, rfl, hf.mono fun _ _ => trivial⟩

set_option maxRecDepth 100000 in
set_option maxHeartbeats 4000000 in
theorem specWholeLike_ {X0 Y0 : List ProcP} {A0 B0 : Option Addr} {c0 d0 : Nat} {X1 Y1 : List Int} {v2 v3 u2 u3 : Value} {X4 Y4 : List Int} {A1 B1 : Option Addr} {c1 d1 : Nat} {A4 B4 : Option Addr} {c4 d4 : Nat} {S T : Nat → Prop} {w : World} (hl0 : X0.length ≤ 1048576) (hl1 : Y0.length ≤ 1048576) (f1 : Fl w S 1 X1 A1 X1.length c1) (g1 : Fl w T 1 Y1 B1 Y1.length d1) (f4 : Fl w S 2 X4 A4 (X4.length / 2) c4) (g4 : Fl w T 2 Y4 B4 (Y4.length / 2) d4) (m0 : X4.length / 2 ≤ 1048576) (m1 : Y4.length / 2 ≤ 1048576) :
    Calls Try.prog 34 #[.agg #[.slice A0 X0.length c0, .slice A1 X1.length c1, v2, v3, .slice A4 (X4.length / 2) c4], .agg #[.slice B0 Y0.length d0, .slice B1 Y1.length d1, u2, u3, .slice B4 (Y4.length / 2) d4]] w
      fun e w' => e = .returned (.bool (decide (X0.length = Y0.length) && decide (X1 = Y1) && saidsB X4 Y4 X0.length)) ∧ Below w.heap.size w w' := by
  have b0 : Below w.heap.size w ((w.alloc (.cells #[.slice A0 X0.length c0, .slice A1 X1.length c1, v2, v3, .slice A4 (X4.length / 2) c4] 66)).alloc (.cells #[.slice B0 Y0.length d0, .slice B1 Y1.length d1, u2, u3, .slice B4 (Y4.length / 2) d4] 66)) := ((Below.refl _ _).alloc (Nat.le_refl _) _).alloc (by simp) _
  have P0 := Lib.hid (row_first w #[.slice A0 X0.length c0, .slice A1 X1.length c1, v2, v3, .slice A4 (X4.length / 2) c4] #[.slice B0 Y0.length d0, .slice B1 Y1.length d1, u2, u3, .slice B4 (Y4.length / 2) d4] 66 66)
  have Q0 := Lib.hid (row_second w #[.slice A0 X0.length c0, .slice A1 X1.length c1, v2, v3, .slice A4 (X4.length / 2) c4] #[.slice B0 Y0.length d0, .slice B1 Y1.length d1, u2, u3, .slice B4 (Y4.length / 2) d4] 66 66)
  generalize hn : X0.length = n at *
  generalize hm : Y0.length = m at *
  clear hn hm X0 Y0
  go_enter Try.func34, Try.ntmps34
  go_wp2_with fail
  refine (l3Ints (f1.later b0) (g1.later b0)).mono ?_
  rintro e w1 ⟨rfl, hb⟩
  have b1 := b0.trans (hb.mono b0.size)
  have P1 := Lib.hid (rowk hb P0.out)
  have Q1 := Lib.hid (rowk hb Q0.out)
  clear hb b0 P0 Q0 f1 g1
  cases hq : decide (X1 = Y1)
  · go_wp2
    go_ret
    exact ⟨by simp [hq], b1⟩
  have HQ1 := Lib.hid hq
  clear hq
  have cp : w1.cell? ⟨w.heap.size, 0, none⟩ = some (.slice A0 n c0) := by rw [row_cell P1.out]; rfl
  have cq : w1.cell? ⟨w.heap.size + 1, 0, none⟩ = some (.slice B0 m d0) := by rw [row_cell Q1.out]; rfl
  by_cases hnm : n = m
  rotate_left
  · have hne : ((n : Int) != (m : Int)) = true := by rw [bne_iff_ne]; omega
    go_wp2_with fail
    go_ret
    exact ⟨by rw [decide_eq_false hnm]; simp, b1⟩
  subst hnm
  have F4 : Go.RowKit.Hid (∀ W, Below w1.heap.size w1 W → Fl W S 2 X4 A4 (X4.length / 2) c4) := Lib.hid fun W hW => (f4.later (b1.trans (hW.mono b1.size)))
  have G4 : Go.RowKit.Hid (∀ W, Below w1.heap.size w1 W → Fl W T 2 Y4 B4 (Y4.length / 2) d4) := Lib.hid fun W hW => (g4.later (b1.trans (hW.mono b1.size)))
  clear f4 g4
  go_wp2_with fail
  clear cp cq
  go_loopw [5] (fun i wr => ∃ k : Nat, k ≤ n ∧ i = .int .i64 k ∧ (∀ j, j < k → saidK X4 (j : Int) (X4.length / 2) = saidK Y4 (j : Int) (Y4.length / 2)) ∧ Below w1.heap.size w1 wr) (fun i _ => n - (intOf i).toNat)
  case atStart => exact ⟨0, Nat.zero_le _, rfl, fun j hj => by omega, Below.refl _ _⟩
  case round =>
    obtain ⟨k, hk, rfl, ha, hb1⟩ := hrel
    have HA := Lib.hid ha
    clear ha
    replace F4 : Go.RowKit.Hid (∀ W, Below wr.heap.size wr W → Fl W S 2 X4 A4 (X4.length / 2) c4) := Lib.hid fun W hW => F4.out W (hb1.trans (hW.mono hb1.size))
    replace G4 : Go.RowKit.Hid (∀ W, Below wr.heap.size wr W → Fl W T 2 Y4 B4 (Y4.length / 2) d4) := Lib.hid fun W hW => G4.out W (hb1.trans (hW.mono hb1.size))
    have P2 := Lib.hid (rowk hb1 P1.out)
    have Q2 := Lib.hid (rowk hb1 Q1.out)
    have cp : wr.cell? ⟨w.heap.size, 0, none⟩ = some (.slice A0 n c0) := by rw [row_cell P2.out]; rfl
    by_cases hlt : k < n
    · have KS := Lib.hid (show ∀ W, Below wr.heap.size wr W → (W.cell? ⟨w.heap.size, 4, none⟩ = some (.slice A4 (X4.length / 2) c4) ∧ W.cell? ⟨w.heap.size + 1, 4, none⟩ = some (.slice B4 (Y4.length / 2) d4) ∧ Below wr.heap.size wr W) from
        fun W hW => ⟨cell_later (by rw [row_cell P2.out]; rfl) hW, cell_later (by rw [row_cell Q2.out]; rfl) hW, hW⟩)
      by_cases hq : saidK X4 (k : Int) (X4.length / 2) = saidK Y4 (k : Int) (Y4.length / 2)
      · have HQ := Lib.hid hq
        have HD := Lib.hid (decide_eq_true hq)
        clear hq P1 Q1 P2 Q2
        go_wp2_with fail
        clear cp
        refine wp_region_held_drew (S := fun W => W.cell? ⟨w.heap.size, 4, none⟩ = some (.slice A4 (X4.length / 2) c4) ∧ W.cell? ⟨w.heap.size + 1, 4, none⟩ = some (.slice B4 (Y4.length / 2) d4) ∧ Below wr.heap.size wr W) (by kernel_rfl) (KS.out _ (Below.refl _ _).drew) (fun hHeld => ?_)
        refine take_w (i := 0) (d := some 28) (v := ?_) rfl rfl (by kernel_rfl) (by kernel_rfl) (by kernel_rfl) (fun _ _ _ h => h) (by rfl) ?_ (by assumption) ?_
        rotate_left
        · intro _ hSw; (try dsimp only at hSw); go_simp; try (with_reducible rfl)
        try simp only [Act.put, List.setIfInBounds_toArray, List.set_cons_zero, List.set_cons_succ]
        refine take_w (i := 1) (d := some 29) (v := ?_) rfl rfl (by kernel_rfl) (by kernel_rfl) (by kernel_rfl) (fun _ _ _ h => h) (by rfl) ?_ (by assumption) ?_
        rotate_left
        · intro _ hSw; (try dsimp only at hSw); go_simp; try (with_reducible rfl)
        try simp only [Act.put, List.setIfInBounds_toArray, List.set_cons_zero, List.set_cons_succ]
        refine take_w (i := 2) (d := some 30) (v := ?_) rfl rfl (by kernel_rfl) (by kernel_rfl) (by kernel_rfl) (fun _ _ _ h => h) (by rfl) ?_ (by assumption) ?_
        rotate_left
        · intro _ hSw; (try dsimp only at hSw); go_simp; try (with_reducible rfl)
        try simp only [Act.put, List.setIfInBounds_toArray, List.set_cons_zero, List.set_cons_succ]
        refine take_w (i := 4) (d := some 32) (v := ?_) rfl rfl (by kernel_rfl) (by kernel_rfl) (by kernel_rfl) (fun _ _ _ h => h) (by rfl) ?_ (by assumption) ?_
        rotate_left
        · intro _ hSw; (try dsimp only at hSw); go_simp; try (with_reducible rfl)
        try simp only [Act.put, List.setIfInBounds_toArray, List.set_cons_zero, List.set_cons_succ]
        refine take_w (i := 5) (d := some 33) (v := ?_) rfl rfl (by kernel_rfl) (by kernel_rfl) (by kernel_rfl) (fun _ _ _ h => h) (by rfl) ?_ (by assumption) ?_
        rotate_left
        · intro _ hSw; (try dsimp only at hSw); go_simp; try (with_reducible rfl)
        try simp only [Act.put, List.setIfInBounds_toArray, List.set_cons_zero, List.set_cons_succ]
        refine take_w (i := 6) (d := some 34) (v := ?_) rfl rfl (by kernel_rfl) (by kernel_rfl) (by kernel_rfl) (fun _ _ _ h => h) (by rfl) ?_ (by assumption) ?_
        rotate_left
        · intro _ hSw; (try dsimp only at hSw); go_simp; try (with_reducible rfl)
        try simp only [Act.put, List.setIfInBounds_toArray, List.set_cons_zero, List.set_cons_succ]
        have hdr : Below wr.heap.size wr wr.drew := (Below.refl _ _).drew
        refine wpAnyH_ready (rs := [3]) (by kernel_rfl) (by simp) ?_
        refine AllReadyH.cons rfl (fun K hK => ?_) AllReadyH.nil
        go_simp
        go_at_call 59
        refine (specSaidBy (k : Int) (F4.out _ hdr) (by omega)).mono ?_
        rintro e w1 ⟨v1, rfl, o1, hb⟩
        have u1 : Below wr.heap.size wr w1 := Below.trans hdr (hb.mono (Below.size hdr))
        obtain ⟨E1, m1, rfl, s1⟩ := own_true o1
        have S1 := Lib.hid s1
        clear hb o1 s1
        go_wp2_with fail
        refine hK.out _ _ (KS.out _ u1) (fun hHeld1 => ?_)
        clear hK K
        try simp only [Act.put, List.setIfInBounds_toArray, List.set_cons_zero, List.set_cons_succ]
        refine wpAnyH_ready (rs := [7]) (by kernel_rfl) (by simp) ?_
        refine AllReadyH.cons rfl (fun K hK => ?_) AllReadyH.nil
        go_simp
        go_at_call 59
        refine (specSaidBy (k : Int) (G4.out _ u1) (by omega)).mono ?_
        rintro e w2 ⟨v2, rfl, o2, hb⟩
        have u2 : Below wr.heap.size wr w2 := u1.trans (hb.mono u1.size)
        obtain ⟨E2, m2, rfl, s2⟩ := own_true o2
        have S2 := Lib.hid s2
        have T1 := Lib.hid (S1.out.later hb)
        clear hb o2 s2 S1
        go_wp2_with fail
        refine hK.out _ _ (KS.out _ u2) (fun hHeld2 => ?_)
        clear hK K
        try simp only [Act.put, List.setIfInBounds_toArray, List.set_cons_zero, List.set_cons_succ]
        refine wpAnyH_ready (rs := [8]) (by kernel_rfl) (by simp) ?_
        refine AllReadyH.cons rfl (fun K hK => ?_) AllReadyH.nil
        go_simp
        go_at_call 58
        refine (l3Ints (T1.out) (S2.out)).mono ?_
        rintro e w3 ⟨rfl, hb⟩
        have u3 : Below wr.heap.size wr w3 := u2.trans (hb.mono u2.size)
        rw [HD.out]
        clear hb
        go_wp2_with fail
        refine hK.out _ _ (KS.out _ u3) (fun hHeld3 => ?_)
        clear hK K
        try simp only [Act.put, List.setIfInBounds_toArray, List.set_cons_zero, List.set_cons_succ]
        refine take_w (i := 9) (d := some 37) (v := ?_) rfl rfl (by kernel_rfl) (by kernel_rfl) (by kernel_rfl) (fun _ _ _ h => h) (by rfl) ?_ (by assumption) ?_
        rotate_left
        · intro _ hSw; (try dsimp only at hSw); go_simp; try (with_reducible rfl)
        try simp only [Act.put, List.setIfInBounds_toArray, List.set_cons_zero, List.set_cons_succ]
        refine wpAnyH_done (by kernel_rfl) ?_ _
        clear hHeld hHeld1 hHeld2 hHeld3
        have bx := hb1.trans (u3.mono hb1.size)
        clear KS u1 u2 u3 T1 S2 hdr
        go_wp2_with fail
        go_roundw
        case rel => exact ⟨k + 1, by omega, by go_num, fun j hj => by
          by_cases e : j = k
          · subst e; exact HQ.out
          · exact HA.out j (by omega), bx⟩
        case measure => simp [intOf]; omega
      · have HF := Lib.hid (show (decide (X1 = Y1) && saidsB X4 Y4 n) = false from by rw [saidsB_no hlt hq, Bool.and_false])
        have HD := Lib.hid (decide_eq_false hq)
        clear hq P1 Q1 P2 Q2
        go_wp2_with fail
        clear cp
        refine wp_region_held_drew (S := fun W => W.cell? ⟨w.heap.size, 4, none⟩ = some (.slice A4 (X4.length / 2) c4) ∧ W.cell? ⟨w.heap.size + 1, 4, none⟩ = some (.slice B4 (Y4.length / 2) d4) ∧ Below wr.heap.size wr W) (by kernel_rfl) (KS.out _ (Below.refl _ _).drew) (fun hHeld => ?_)
        refine take_w (i := 0) (d := some 28) (v := ?_) rfl rfl (by kernel_rfl) (by kernel_rfl) (by kernel_rfl) (fun _ _ _ h => h) (by rfl) ?_ (by assumption) ?_
        rotate_left
        · intro _ hSw; (try dsimp only at hSw); go_simp; try (with_reducible rfl)
        try simp only [Act.put, List.setIfInBounds_toArray, List.set_cons_zero, List.set_cons_succ]
        refine take_w (i := 1) (d := some 29) (v := ?_) rfl rfl (by kernel_rfl) (by kernel_rfl) (by kernel_rfl) (fun _ _ _ h => h) (by rfl) ?_ (by assumption) ?_
        rotate_left
        · intro _ hSw; (try dsimp only at hSw); go_simp; try (with_reducible rfl)
        try simp only [Act.put, List.setIfInBounds_toArray, List.set_cons_zero, List.set_cons_succ]
        refine take_w (i := 2) (d := some 30) (v := ?_) rfl rfl (by kernel_rfl) (by kernel_rfl) (by kernel_rfl) (fun _ _ _ h => h) (by rfl) ?_ (by assumption) ?_
        rotate_left
        · intro _ hSw; (try dsimp only at hSw); go_simp; try (with_reducible rfl)
        try simp only [Act.put, List.setIfInBounds_toArray, List.set_cons_zero, List.set_cons_succ]
        refine take_w (i := 4) (d := some 32) (v := ?_) rfl rfl (by kernel_rfl) (by kernel_rfl) (by kernel_rfl) (fun _ _ _ h => h) (by rfl) ?_ (by assumption) ?_
        rotate_left
        · intro _ hSw; (try dsimp only at hSw); go_simp; try (with_reducible rfl)
        try simp only [Act.put, List.setIfInBounds_toArray, List.set_cons_zero, List.set_cons_succ]
        refine take_w (i := 5) (d := some 33) (v := ?_) rfl rfl (by kernel_rfl) (by kernel_rfl) (by kernel_rfl) (fun _ _ _ h => h) (by rfl) ?_ (by assumption) ?_
        rotate_left
        · intro _ hSw; (try dsimp only at hSw); go_simp; try (with_reducible rfl)
        try simp only [Act.put, List.setIfInBounds_toArray, List.set_cons_zero, List.set_cons_succ]
        refine take_w (i := 6) (d := some 34) (v := ?_) rfl rfl (by kernel_rfl) (by kernel_rfl) (by kernel_rfl) (fun _ _ _ h => h) (by rfl) ?_ (by assumption) ?_
        rotate_left
        · intro _ hSw; (try dsimp only at hSw); go_simp; try (with_reducible rfl)
        try simp only [Act.put, List.setIfInBounds_toArray, List.set_cons_zero, List.set_cons_succ]
        have hdr : Below wr.heap.size wr wr.drew := (Below.refl _ _).drew
        refine wpAnyH_ready (rs := [3]) (by kernel_rfl) (by simp) ?_
        refine AllReadyH.cons rfl (fun K hK => ?_) AllReadyH.nil
        go_simp
        go_at_call 59
        refine (specSaidBy (k : Int) (F4.out _ hdr) (by omega)).mono ?_
        rintro e w1 ⟨v1, rfl, o1, hb⟩
        have u1 : Below wr.heap.size wr w1 := Below.trans hdr (hb.mono (Below.size hdr))
        obtain ⟨E1, m1, rfl, s1⟩ := own_true o1
        have S1 := Lib.hid s1
        clear hb o1 s1
        go_wp2_with fail
        refine hK.out _ _ (KS.out _ u1) (fun hHeld1 => ?_)
        clear hK K
        try simp only [Act.put, List.setIfInBounds_toArray, List.set_cons_zero, List.set_cons_succ]
        refine wpAnyH_ready (rs := [7]) (by kernel_rfl) (by simp) ?_
        refine AllReadyH.cons rfl (fun K hK => ?_) AllReadyH.nil
        go_simp
        go_at_call 59
        refine (specSaidBy (k : Int) (G4.out _ u1) (by omega)).mono ?_
        rintro e w2 ⟨v2, rfl, o2, hb⟩
        have u2 : Below wr.heap.size wr w2 := u1.trans (hb.mono u1.size)
        obtain ⟨E2, m2, rfl, s2⟩ := own_true o2
        have S2 := Lib.hid s2
        have T1 := Lib.hid (S1.out.later hb)
        clear hb o2 s2 S1
        go_wp2_with fail
        refine hK.out _ _ (KS.out _ u2) (fun hHeld2 => ?_)
        clear hK K
        try simp only [Act.put, List.setIfInBounds_toArray, List.set_cons_zero, List.set_cons_succ]
        refine wpAnyH_ready (rs := [8]) (by kernel_rfl) (by simp) ?_
        refine AllReadyH.cons rfl (fun K hK => ?_) AllReadyH.nil
        go_simp
        go_at_call 58
        refine (l3Ints (T1.out) (S2.out)).mono ?_
        rintro e w3 ⟨rfl, hb⟩
        have u3 : Below wr.heap.size wr w3 := u2.trans (hb.mono u2.size)
        rw [HD.out]
        clear hb
        go_wp2_with fail
        refine hK.out _ _ (KS.out _ u3) (fun hHeld3 => ?_)
        clear hK K
        try simp only [Act.put, List.setIfInBounds_toArray, List.set_cons_zero, List.set_cons_succ]
        refine take_w (i := 9) (d := some 37) (v := ?_) rfl rfl (by kernel_rfl) (by kernel_rfl) (by kernel_rfl) (fun _ _ _ h => h) (by rfl) ?_ (by assumption) ?_
        rotate_left
        · intro _ hSw; (try dsimp only at hSw); go_simp; try (with_reducible rfl)
        try simp only [Act.put, List.setIfInBounds_toArray, List.set_cons_zero, List.set_cons_succ]
        refine wpAnyH_done (by kernel_rfl) ?_ _
        clear hHeld hHeld1 hHeld2 hHeld3
        have bx := hb1.trans (u3.mono hb1.size)
        clear KS u1 u2 u3 T1 S2 hdr
        go_wp2_with fail
        go_ret
        exact ⟨by rw [HF.out]; rfl, b1.trans (bx.mono b1.size)⟩
    · have hs := saidsB_yes (n := n) (fun j hj => HA.out j (by omega))
      have HF := Lib.hid (show (decide (X1 = Y1) && saidsB X4 Y4 n) = true from by rw [HQ1.out, hs]; rfl)
      clear hs
      go_wp2_with fail
      go_ret
      exact ⟨by rw [HF.out]; rfl, b1.trans (hb1.mono b1.size)⟩

theorem specWholeLike {x y : WorldP} {vs us : List Value} {S T : Nat → Prop} {w : World} (hI : worldShape.I w S vs x) (hJ : worldShape.I w T us y) (hx : sizeWorld x ≤ 1048576) (hy : sizeWorld y ≤ 1048576) :
    Calls Try.prog 34 #[.agg vs.toArray, .agg us.toArray] w fun e w' => e = .returned (.bool (likeB x y)) ∧ Below w.heap.size w w' := by
  obtain ⟨A0, c0, A1, c1, A2, c2, A3, c3, A4, c4, rfl, f0, f1, f2, f3, f4⟩ := hI
  obtain ⟨B0, d0, B1, d1, B2, d2, B3, d3, B4, d4, rfl, g0, g1, g2, g3, g4⟩ := hJ
  have h0 : x.procs.length ≤ sizeProcS x.procs := by unfold sizeProcS; omega
  have h1 : y.procs.length ≤ sizeProcS y.procs := by unfold sizeProcS; omega
  unfold sizeWorld at hx hy
  exact specWholeLike_ (by omega) (by omega) f1 g1 f4 g4 (by omega) (by omega)

set_option maxRecDepth 100000 in
set_option maxHeartbeats 4000000 in
theorem implWholeLike_ {X0 Y0 : List ProcP} {A0 B0 : Option Addr} {c0 d0 : Nat} {X1 Y1 : List Int} {v2 v3 u2 u3 : Value} {X4 Y4 : List Int} {A1 B1 : Option Addr} {c1 d1 : Nat} {A4 B4 : Option Addr} {c4 d4 : Nat} {S T : Nat → Prop} {w : World} (hl0 : X0.length ≤ 1048576) (hl1 : Y0.length ≤ 1048576) (f1 : Fl w S 1 X1 A1 X1.length c1) (g1 : Fl w T 1 Y1 B1 Y1.length d1) (f4 : Fl w S 2 X4 A4 (X4.length / 2) c4) (g4 : Fl w T 2 Y4 B4 (Y4.length / 2) d4) (m0 : X4.length / 2 ≤ 1048576) (m1 : Y4.length / 2 ≤ 1048576) :
    Calls Try.prog 36 #[.agg #[.slice A0 X0.length c0, .slice A1 X1.length c1, v2, v3, .slice A4 (X4.length / 2) c4], .agg #[.slice B0 Y0.length d0, .slice B1 Y1.length d1, u2, u3, .slice B4 (Y4.length / 2) d4]] w
      fun e w' => e = .returned (.bool (decide (X0.length = Y0.length) && decide (X1 = Y1) && saidsB X4 Y4 X0.length)) ∧ Below w.heap.size w w' := by
  have b0 : Below w.heap.size w ((w.alloc (.cells #[.slice A0 X0.length c0, .slice A1 X1.length c1, v2, v3, .slice A4 (X4.length / 2) c4] 66)).alloc (.cells #[.slice B0 Y0.length d0, .slice B1 Y1.length d1, u2, u3, .slice B4 (Y4.length / 2) d4] 66)) := ((Below.refl _ _).alloc (Nat.le_refl _) _).alloc (by simp) _
  have P0 := Lib.hid (row_first w #[.slice A0 X0.length c0, .slice A1 X1.length c1, v2, v3, .slice A4 (X4.length / 2) c4] #[.slice B0 Y0.length d0, .slice B1 Y1.length d1, u2, u3, .slice B4 (Y4.length / 2) d4] 66 66)
  have Q0 := Lib.hid (row_second w #[.slice A0 X0.length c0, .slice A1 X1.length c1, v2, v3, .slice A4 (X4.length / 2) c4] #[.slice B0 Y0.length d0, .slice B1 Y1.length d1, u2, u3, .slice B4 (Y4.length / 2) d4] 66 66)
  generalize hn : X0.length = n at *
  generalize hm : Y0.length = m at *
  clear hn hm X0 Y0
  by_cases hnm : n = m
  rotate_left
  · have hne : ((n : Int) != (m : Int)) = true := by rw [bne_iff_ne]; omega
    go_enter Try.func36, Try.ntmps36
    go_wp2_with fail
    go_ret
    exact ⟨by rw [decide_eq_false hnm]; simp, b0⟩
  subst hnm
  go_enter Try.func36, Try.ntmps36
  go_wp2_with fail
  refine (equalInt (f1.later b0) (g1.later b0)).mono ?_
  rintro e w1 ⟨rfl, hb⟩
  have b1 := b0.trans (hb.mono b0.size)
  have P1 := Lib.hid (rowk hb P0.out)
  have Q1 := Lib.hid (rowk hb Q0.out)
  clear hb b0 P0 Q0 f1 g1
  cases hq : decide (X1 = Y1)
  · go_wp2
    go_ret
    exact ⟨by simp [hq], b1⟩
  have HQ1 := Lib.hid hq
  clear hq
  have cp : w1.cell? ⟨w.heap.size, 0, none⟩ = some (.slice A0 n c0) := by rw [row_cell P1.out]; rfl
  have F4 : Go.RowKit.Hid (∀ W, Below w1.heap.size w1 W → Fl W S 2 X4 A4 (X4.length / 2) c4) := Lib.hid fun W hW => (f4.later (b1.trans (hW.mono b1.size)))
  have G4 : Go.RowKit.Hid (∀ W, Below w1.heap.size w1 W → Fl W T 2 Y4 B4 (Y4.length / 2) d4) := Lib.hid fun W hW => (g4.later (b1.trans (hW.mono b1.size)))
  clear f4 g4
  go_wp2_with fail
  clear cp
  go_loopw [24] (fun i wr => ∃ k : Nat, k ≤ n ∧ i = .int .i64 k ∧ (∀ j, j < k → saidK X4 (j : Int) (X4.length / 2) = saidK Y4 (j : Int) (Y4.length / 2)) ∧ Below w1.heap.size w1 wr) (fun i _ => n - (intOf i).toNat)
  case atStart => exact ⟨0, Nat.zero_le _, rfl, fun j hj => by omega, Below.refl _ _⟩
  case round =>
    obtain ⟨k, hk, rfl, ha, hb1⟩ := hrel
    have HA := Lib.hid ha
    clear ha
    replace F4 : Go.RowKit.Hid (∀ W, Below wr.heap.size wr W → Fl W S 2 X4 A4 (X4.length / 2) c4) := Lib.hid fun W hW => F4.out W (hb1.trans (hW.mono hb1.size))
    replace G4 : Go.RowKit.Hid (∀ W, Below wr.heap.size wr W → Fl W T 2 Y4 B4 (Y4.length / 2) d4) := Lib.hid fun W hW => G4.out W (hb1.trans (hW.mono hb1.size))
    have P2 := Lib.hid (rowk hb1 P1.out)
    have Q2 := Lib.hid (rowk hb1 Q1.out)
    have cp : wr.cell? ⟨w.heap.size, 0, none⟩ = some (.slice A0 n c0) := by rw [row_cell P2.out]; rfl
    by_cases hlt : k < n
    · have KS := Lib.hid (show ∀ W, Below wr.heap.size wr W → (W.cell? ⟨w.heap.size, 4, none⟩ = some (.slice A4 (X4.length / 2) c4) ∧ W.cell? ⟨w.heap.size + 1, 4, none⟩ = some (.slice B4 (Y4.length / 2) d4) ∧ Below wr.heap.size wr W) from
        fun W hW => ⟨cell_later (by rw [row_cell P2.out]; rfl) hW, cell_later (by rw [row_cell Q2.out]; rfl) hW, hW⟩)
      by_cases hq : saidK X4 (k : Int) (X4.length / 2) = saidK Y4 (k : Int) (Y4.length / 2)
      · have HQ := Lib.hid hq
        have HD := Lib.hid (decide_eq_true hq)
        clear hq P1 Q1 P2 Q2
        go_wp2_with fail
        clear cp
        refine wp_region_held_drew (S := fun W => W.cell? ⟨w.heap.size, 4, none⟩ = some (.slice A4 (X4.length / 2) c4) ∧ W.cell? ⟨w.heap.size + 1, 4, none⟩ = some (.slice B4 (Y4.length / 2) d4) ∧ Below wr.heap.size wr W) (by kernel_rfl) (KS.out _ (Below.refl _ _).drew) (fun hHeld => ?_)
        refine take_w (i := 0) (d := some 27) (v := ?_) rfl rfl (by kernel_rfl) (by kernel_rfl) (by kernel_rfl) (fun _ _ _ h => h) (by rfl) ?_ (by assumption) ?_
        rotate_left
        · intro _ hSw; (try dsimp only at hSw); go_simp; try (with_reducible rfl)
        try simp only [Act.put, List.setIfInBounds_toArray, List.set_cons_zero, List.set_cons_succ]
        refine take_w (i := 1) (d := some 28) (v := ?_) rfl rfl (by kernel_rfl) (by kernel_rfl) (by kernel_rfl) (fun _ _ _ h => h) (by rfl) ?_ (by assumption) ?_
        rotate_left
        · intro _ hSw; (try dsimp only at hSw); go_simp; try (with_reducible rfl)
        try simp only [Act.put, List.setIfInBounds_toArray, List.set_cons_zero, List.set_cons_succ]
        refine take_w (i := 2) (d := some 29) (v := ?_) rfl rfl (by kernel_rfl) (by kernel_rfl) (by kernel_rfl) (fun _ _ _ h => h) (by rfl) ?_ (by assumption) ?_
        rotate_left
        · intro _ hSw; (try dsimp only at hSw); go_simp; try (with_reducible rfl)
        try simp only [Act.put, List.setIfInBounds_toArray, List.set_cons_zero, List.set_cons_succ]
        refine take_w (i := 4) (d := some 31) (v := ?_) rfl rfl (by kernel_rfl) (by kernel_rfl) (by kernel_rfl) (fun _ _ _ h => h) (by rfl) ?_ (by assumption) ?_
        rotate_left
        · intro _ hSw; (try dsimp only at hSw); go_simp; try (with_reducible rfl)
        try simp only [Act.put, List.setIfInBounds_toArray, List.set_cons_zero, List.set_cons_succ]
        refine take_w (i := 5) (d := some 32) (v := ?_) rfl rfl (by kernel_rfl) (by kernel_rfl) (by kernel_rfl) (fun _ _ _ h => h) (by rfl) ?_ (by assumption) ?_
        rotate_left
        · intro _ hSw; (try dsimp only at hSw); go_simp; try (with_reducible rfl)
        try simp only [Act.put, List.setIfInBounds_toArray, List.set_cons_zero, List.set_cons_succ]
        refine take_w (i := 6) (d := some 33) (v := ?_) rfl rfl (by kernel_rfl) (by kernel_rfl) (by kernel_rfl) (fun _ _ _ h => h) (by rfl) ?_ (by assumption) ?_
        rotate_left
        · intro _ hSw; (try dsimp only at hSw); go_simp; try (with_reducible rfl)
        try simp only [Act.put, List.setIfInBounds_toArray, List.set_cons_zero, List.set_cons_succ]
        have hdr : Below wr.heap.size wr wr.drew := (Below.refl _ _).drew
        refine wpAnyH_ready (rs := [3]) (by kernel_rfl) (by simp) ?_
        refine AllReadyH.cons rfl (fun K hK => ?_) AllReadyH.nil
        go_simp
        go_at_call 64
        refine (saidBy (k : Int) (F4.out _ hdr) (by omega)).mono ?_
        rintro e w1 ⟨v1, rfl, o1, hb⟩
        have u1 : Below wr.heap.size wr w1 := Below.trans hdr (hb.mono (Below.size hdr))
        obtain ⟨E1, m1, rfl, s1⟩ := own_true o1
        have S1 := Lib.hid s1
        clear hb o1 s1
        go_wp2_with fail
        refine hK.out _ _ (KS.out _ u1) (fun hHeld1 => ?_)
        clear hK K
        try simp only [Act.put, List.setIfInBounds_toArray, List.set_cons_zero, List.set_cons_succ]
        refine wpAnyH_ready (rs := [7]) (by kernel_rfl) (by simp) ?_
        refine AllReadyH.cons rfl (fun K hK => ?_) AllReadyH.nil
        go_simp
        go_at_call 64
        refine (saidBy (k : Int) (G4.out _ u1) (by omega)).mono ?_
        rintro e w2 ⟨v2, rfl, o2, hb⟩
        have u2 : Below wr.heap.size wr w2 := u1.trans (hb.mono u1.size)
        obtain ⟨E2, m2, rfl, s2⟩ := own_true o2
        have S2 := Lib.hid s2
        have T1 := Lib.hid (S1.out.later hb)
        clear hb o2 s2 S1
        go_wp2_with fail
        refine hK.out _ _ (KS.out _ u2) (fun hHeld2 => ?_)
        clear hK K
        try simp only [Act.put, List.setIfInBounds_toArray, List.set_cons_zero, List.set_cons_succ]
        refine wpAnyH_ready (rs := [8]) (by kernel_rfl) (by simp) ?_
        refine AllReadyH.cons rfl (fun K hK => ?_) AllReadyH.nil
        go_simp
        go_at_call 63
        refine (equalInt (T1.out) (S2.out)).mono ?_
        rintro e w3 ⟨rfl, hb⟩
        have u3 : Below wr.heap.size wr w3 := u2.trans (hb.mono u2.size)
        rw [HD.out]
        clear hb
        go_wp2_with fail
        refine hK.out _ _ (KS.out _ u3) (fun hHeld3 => ?_)
        clear hK K
        try simp only [Act.put, List.setIfInBounds_toArray, List.set_cons_zero, List.set_cons_succ]
        refine take_w (i := 9) (d := some 36) (v := ?_) rfl rfl (by kernel_rfl) (by kernel_rfl) (by kernel_rfl) (fun _ _ _ h => h) (by rfl) ?_ (by assumption) ?_
        rotate_left
        · intro _ hSw; (try dsimp only at hSw); go_simp; try (with_reducible rfl)
        try simp only [Act.put, List.setIfInBounds_toArray, List.set_cons_zero, List.set_cons_succ]
        refine wpAnyH_done (by kernel_rfl) ?_ _
        clear hHeld hHeld1 hHeld2 hHeld3
        have bx := hb1.trans (u3.mono hb1.size)
        clear KS u1 u2 u3 T1 S2 hdr
        go_wp2_with fail
        go_roundw
        case rel => exact ⟨k + 1, by omega, by go_num, fun j hj => by
          by_cases e : j = k
          · subst e; exact HQ.out
          · exact HA.out j (by omega), bx⟩
        case measure => simp [intOf]; omega
      · have HF := Lib.hid (show (decide (X1 = Y1) && saidsB X4 Y4 n) = false from by rw [saidsB_no hlt hq, Bool.and_false])
        have HD := Lib.hid (decide_eq_false hq)
        clear hq P1 Q1 P2 Q2
        go_wp2_with fail
        clear cp
        refine wp_region_held_drew (S := fun W => W.cell? ⟨w.heap.size, 4, none⟩ = some (.slice A4 (X4.length / 2) c4) ∧ W.cell? ⟨w.heap.size + 1, 4, none⟩ = some (.slice B4 (Y4.length / 2) d4) ∧ Below wr.heap.size wr W) (by kernel_rfl) (KS.out _ (Below.refl _ _).drew) (fun hHeld => ?_)
        refine take_w (i := 0) (d := some 27) (v := ?_) rfl rfl (by kernel_rfl) (by kernel_rfl) (by kernel_rfl) (fun _ _ _ h => h) (by rfl) ?_ (by assumption) ?_
        rotate_left
        · intro _ hSw; (try dsimp only at hSw); go_simp; try (with_reducible rfl)
        try simp only [Act.put, List.setIfInBounds_toArray, List.set_cons_zero, List.set_cons_succ]
        refine take_w (i := 1) (d := some 28) (v := ?_) rfl rfl (by kernel_rfl) (by kernel_rfl) (by kernel_rfl) (fun _ _ _ h => h) (by rfl) ?_ (by assumption) ?_
        rotate_left
        · intro _ hSw; (try dsimp only at hSw); go_simp; try (with_reducible rfl)
        try simp only [Act.put, List.setIfInBounds_toArray, List.set_cons_zero, List.set_cons_succ]
        refine take_w (i := 2) (d := some 29) (v := ?_) rfl rfl (by kernel_rfl) (by kernel_rfl) (by kernel_rfl) (fun _ _ _ h => h) (by rfl) ?_ (by assumption) ?_
        rotate_left
        · intro _ hSw; (try dsimp only at hSw); go_simp; try (with_reducible rfl)
        try simp only [Act.put, List.setIfInBounds_toArray, List.set_cons_zero, List.set_cons_succ]
        refine take_w (i := 4) (d := some 31) (v := ?_) rfl rfl (by kernel_rfl) (by kernel_rfl) (by kernel_rfl) (fun _ _ _ h => h) (by rfl) ?_ (by assumption) ?_
        rotate_left
        · intro _ hSw; (try dsimp only at hSw); go_simp; try (with_reducible rfl)
        try simp only [Act.put, List.setIfInBounds_toArray, List.set_cons_zero, List.set_cons_succ]
        refine take_w (i := 5) (d := some 32) (v := ?_) rfl rfl (by kernel_rfl) (by kernel_rfl) (by kernel_rfl) (fun _ _ _ h => h) (by rfl) ?_ (by assumption) ?_
        rotate_left
        · intro _ hSw; (try dsimp only at hSw); go_simp; try (with_reducible rfl)
        try simp only [Act.put, List.setIfInBounds_toArray, List.set_cons_zero, List.set_cons_succ]
        refine take_w (i := 6) (d := some 33) (v := ?_) rfl rfl (by kernel_rfl) (by kernel_rfl) (by kernel_rfl) (fun _ _ _ h => h) (by rfl) ?_ (by assumption) ?_
        rotate_left
        · intro _ hSw; (try dsimp only at hSw); go_simp; try (with_reducible rfl)
        try simp only [Act.put, List.setIfInBounds_toArray, List.set_cons_zero, List.set_cons_succ]
        have hdr : Below wr.heap.size wr wr.drew := (Below.refl _ _).drew
        refine wpAnyH_ready (rs := [3]) (by kernel_rfl) (by simp) ?_
        refine AllReadyH.cons rfl (fun K hK => ?_) AllReadyH.nil
        go_simp
        go_at_call 64
        refine (saidBy (k : Int) (F4.out _ hdr) (by omega)).mono ?_
        rintro e w1 ⟨v1, rfl, o1, hb⟩
        have u1 : Below wr.heap.size wr w1 := Below.trans hdr (hb.mono (Below.size hdr))
        obtain ⟨E1, m1, rfl, s1⟩ := own_true o1
        have S1 := Lib.hid s1
        clear hb o1 s1
        go_wp2_with fail
        refine hK.out _ _ (KS.out _ u1) (fun hHeld1 => ?_)
        clear hK K
        try simp only [Act.put, List.setIfInBounds_toArray, List.set_cons_zero, List.set_cons_succ]
        refine wpAnyH_ready (rs := [7]) (by kernel_rfl) (by simp) ?_
        refine AllReadyH.cons rfl (fun K hK => ?_) AllReadyH.nil
        go_simp
        go_at_call 64
        refine (saidBy (k : Int) (G4.out _ u1) (by omega)).mono ?_
        rintro e w2 ⟨v2, rfl, o2, hb⟩
        have u2 : Below wr.heap.size wr w2 := u1.trans (hb.mono u1.size)
        obtain ⟨E2, m2, rfl, s2⟩ := own_true o2
        have S2 := Lib.hid s2
        have T1 := Lib.hid (S1.out.later hb)
        clear hb o2 s2 S1
        go_wp2_with fail
        refine hK.out _ _ (KS.out _ u2) (fun hHeld2 => ?_)
        clear hK K
        try simp only [Act.put, List.setIfInBounds_toArray, List.set_cons_zero, List.set_cons_succ]
        refine wpAnyH_ready (rs := [8]) (by kernel_rfl) (by simp) ?_
        refine AllReadyH.cons rfl (fun K hK => ?_) AllReadyH.nil
        go_simp
        go_at_call 63
        refine (equalInt (T1.out) (S2.out)).mono ?_
        rintro e w3 ⟨rfl, hb⟩
        have u3 : Below wr.heap.size wr w3 := u2.trans (hb.mono u2.size)
        rw [HD.out]
        clear hb
        go_wp2_with fail
        refine hK.out _ _ (KS.out _ u3) (fun hHeld3 => ?_)
        clear hK K
        try simp only [Act.put, List.setIfInBounds_toArray, List.set_cons_zero, List.set_cons_succ]
        refine take_w (i := 9) (d := some 36) (v := ?_) rfl rfl (by kernel_rfl) (by kernel_rfl) (by kernel_rfl) (fun _ _ _ h => h) (by rfl) ?_ (by assumption) ?_
        rotate_left
        · intro _ hSw; (try dsimp only at hSw); go_simp; try (with_reducible rfl)
        try simp only [Act.put, List.setIfInBounds_toArray, List.set_cons_zero, List.set_cons_succ]
        refine wpAnyH_done (by kernel_rfl) ?_ _
        clear hHeld hHeld1 hHeld2 hHeld3
        have bx := hb1.trans (u3.mono hb1.size)
        clear KS u1 u2 u3 T1 S2 hdr
        go_wp2_with fail
        go_ret
        exact ⟨by simp only [decide_true, Bool.true_and]; rw [HF.out]; rfl, b1.trans (bx.mono b1.size)⟩
    · have hs := saidsB_yes (n := n) (fun j hj => HA.out j (by omega))
      have HF := Lib.hid (show (decide (X1 = Y1) && saidsB X4 Y4 n) = true from by rw [HQ1.out, hs]; rfl)
      clear hs
      go_wp2_with fail
      go_ret
      exact ⟨by simp only [decide_true, Bool.true_and]; rw [HF.out]; rfl, b1.trans (hb1.mono b1.size)⟩

theorem implWholeLike {x y : WorldP} {vs us : List Value} {S T : Nat → Prop} {w : World} (hI : worldShape.I w S vs x) (hJ : worldShape.I w T us y) (hx : sizeWorld x ≤ 1048576) (hy : sizeWorld y ≤ 1048576) :
    Calls Try.prog 36 #[.agg vs.toArray, .agg us.toArray] w fun e w' => e = .returned (.bool (likeB x y)) ∧ Below w.heap.size w w' := by
  obtain ⟨A0, c0, A1, c1, A2, c2, A3, c3, A4, c4, rfl, f0, f1, f2, f3, f4⟩ := hI
  obtain ⟨B0, d0, B1, d1, B2, d2, B3, d3, B4, d4, rfl, g0, g1, g2, g3, g4⟩ := hJ
  have h0 : x.procs.length ≤ sizeProcS x.procs := by unfold sizeProcS; omega
  have h1 : y.procs.length ≤ sizeProcS y.procs := by unfold sizeProcS; omega
  unfold sizeWorld at hx hy
  exact implWholeLike_ (by omega) (by omega) f1 g1 f4 g4 (by omega) (by omega)

end Go.Proofs.Ythamehcfenncaaa
