/- What the laws draw of chapter 9: code with more jumps in it, bent or not. -/
import Derived.Test.YtogpfagdpkjmmaaDrawC
namespace Go.Proofs.Ytogpfagdpkjmmaa
open Go.ChangeShapes Go.WideShapes Go.ChangeAt Go.RowKit

theorem g9_trans {A B C : World} {r : Option Nat} (h : A.grownBy B r) (k : B.grownBy C r) : A.grownBy C r :=
  ⟨k.os.trans h.os, k.tape.trans h.tape, k.output.trans h.output, Nat.le_trans h.size k.size, fun j hj hn => (k.block j (Nat.lt_of_lt_of_le hj h.size) hn).trans (h.block j hj hn)⟩

theorem four_cells9 {w : World} {b : Nat} {x y z u : Value} {t : TypeId} (h : w.heap[b]? = some (.cells #[x, y, z, u] t (0, 0))) : ∀ j v, [x, y, z, u][j]? = some v → w.cell? ((⟨b, 0, none⟩ : Addr).add j) = some v := by
  intro j v hj
  match j, hj with
  | 0, hj => simp at hj; subst hj; simp [World.cell?, h, Addr.add]
  | 1, hj => simp at hj; subst hj; simp [World.cell?, h, Addr.add]
  | 2, hj => simp at hj; subst hj; simp [World.cell?, h, Addr.add]
  | 3, hj => simp at hj; subst hj; simp [World.cell?, h, Addr.add]
  | (j + 4), hj => simp at hj

/-- Between two insertions. -/
def Bent9Rel (g : Nat) (p : Int) (n : Nat) (w : World) (cv i : Value) (wr : World) : Prop :=
  ∃ (ys : List Int) (m : Nat) (A : Option Addr) (c : Nat) (z q : Int), cv = .slice A m c ∧ i = .int .i64 z ∧ 0 ≤ z ∧ z ≤ 3 ∧ 1 ≤ m ∧ (m : Int) + z ≤ n + 3 ∧ Fl wr (fun b => b ≠ g) 4 ys A m c ∧ Rd wr g q ∧ p ≤ q ∧ q + z ≤ p + 4 ∧ w.grownBy wr (some g)

/-- While one is inserted. -/
def Ins9Rel (W0 : World) (m kk : Nat) (v i : Value) (wr : World) : Prop :=
  ∃ (j : Nat) (zs : List Int), i = .int .i64 j ∧ j ≤ m ∧ wr.ownsRow W0.heap.size 40 4 v (j + if kk < j then 1 else 0) (ints zs) ∧ Below W0.heap.size W0 wr

set_option maxRecDepth 100000 in
set_option maxHeartbeats 8000000 in
theorem bent9 {xs : List Int} {a : Addr} {n c : Nat} (g : Nat) (p : Int) (w : World) (hs : Fl w (fun b => b ≠ g) 4 xs (some a) n c) (h1 : 1 ≤ n) (hn : n ≤ 40) (hR : Rd w g p) (hp0 : 0 ≤ p) (hp1 : p ≤ 800000000000) :
    Calls Try.prog 61 #[.pointer (some ⟨g, 0, none⟩), .slice (some a) n c] w fun e w' => ∃ (ys : List Int) (m : Nat) (v : Value) (q : Int), e = .returned v ∧ m ≤ 50 ∧ w'.ownsRow w.heap.size 40 4 v m (ints ys) ∧ Rd w' g q ∧ w.grownBy w' (some g) := by
  have hgl := hR.lt
  obtain ⟨i0, hi, hz0, hz1, hz2⟩ := info_parts info_In4
  go_enter Try.func61, Try.ntmps61
  go_wp2_with fail
  refine (pick g p 4 w hR hp0 (by omega) (by omega)).mono ?_
  rintro e w1 ⟨z0, z0a, z0b, rfl, hR1, hg1⟩
  have hs1 := (But.of_grown hg1).fl hs (fun b hb _ e => hb (by injection e with e; exact e.symm))
  go_wp2_with fail
  go_loopw [1, 5] (fun cv i wr => Bent9Rel g p n w cv i wr) (fun _ i _ => (intOf i).toNat)
  case atStart => exact ⟨xs, n, _, _, z0, p + 1, rfl, rfl, z0a, by omega, h1, by omega, hs1, hR1, by omega, by omega, hg1⟩
  case round =>
    clear hs hs1 hR hR1 hg1
    obtain ⟨ys, m, A, cm, z, q, rfl, rfl, hza, hzb, hm1, hmz, hfl, hRd, hq1, hq2, hgw⟩ := hrel
    have gm : (0 : Int) < (m : Int) := by omega
    have gm2 : (m : Int) < 58 := by omega
    by_cases hz : 0 < z
    · obtain ⟨b, rfl⟩ := hfl.some (by omega)
      go_wp2_with fail
      refine (pick g q (m : Int) wr hRd (by omega) (by omega) (by omega)).mono ?_
      rintro e W0 ⟨kk, k0, k1, rfl, hR2, hg2⟩
      have hfl2 := (But.of_grown hg2).fl hfl (fun b hb _ e => hb (by injection e with e; exact e.symm))
      obtain ⟨kn, rfl⟩ : ∃ kn : Nat, kk = (kn : Int) := ⟨kk.toNat, by omega⟩
      have hgW := g9_trans hgw hg2
      have HR2 := Lib.hid hR2
      have HF2 := Lib.hid hfl2
      clear hfl hRd hR2 hfl2 hgw hg2
      go_wp2_with fail
      go_loopw [7, 8] (fun v i W => Ins9Rel W0 m kn v i W) (fun _ i _ => m - (intOf i).toNat)
      case atStart =>
        refine ⟨0, [], rfl, Nat.zero_le _, ?_, (Below.refl _ _).alloc (Nat.le_refl _) _⟩
        exact World.ownsRow_lit (base := W0.heap.size) (e := 40) (size := 4) W0 #[] 0 (Nat.le_refl _) (Nat.zero_le _) rfl
      case round =>
        obtain ⟨j, zs, rfl, hj, hown, hbw⟩ := hrel
        have hsw := hbw.size
        by_cases hlt : j < m
        · obtain ⟨c0, c1, c2, c3⟩ := (HF2.out.later hbw).four j hlt
          generalize ys.getD (j * 4) 0 = o at *
          generalize ys.getD (j * 4 + 1) 0 = x1 at *
          generalize ys.getD (j * 4 + 2) 0 = x2 at *
          generalize ys.getD (j * 4 + 3) 0 = t at *
          obtain ⟨V1, hV1⟩ : ∃ V1, wr.alloc (.cells #[.int .i64 o, .int .i64 x1, .int .i64 x2, .int .i64 t] 40) = V1 := ⟨_, rfl⟩
          have q1 := new_row wr #[.int .i64 o, .int .i64 x1, .int .i64 x2, .int .i64 t] 40
          have zV := World.size_alloc wr (.cells #[.int .i64 o, .int .i64 x1, .int .i64 x2, .int .i64 t] 40)
          have hoV := hown.alloc (.cells #[.int .i64 o, .int .i64 x1, .int .i64 x2, .int .i64 t] 40)
          have hbV := hbw.alloc hsw (.cells #[.int .i64 o, .int .i64 x1, .int .i64 x2, .int .i64 t] 40)
          rw [hV1] at q1 zV hoV hbV
          have d0 : V1.cell? ⟨wr.heap.size, 0, none⟩ = some (.int .i64 o) := by simp [World.cell?, q1]
          have d1 : V1.cell? ⟨wr.heap.size, 1, none⟩ = some (.int .i64 x1) := by simp [World.cell?, q1]
          have d2 : V1.cell? ⟨wr.heap.size, 2, none⟩ = some (.int .i64 x2) := by simp [World.cell?, q1]
          have d3 : V1.cell? ⟨wr.heap.size, 3, none⟩ = some (.int .i64 t) := by simp [World.cell?, q1]
          have f3 : V1.frozen? ⟨wr.heap.size, 3, none⟩ = false := by simp [World.frozen?, q1]
          obtain ⟨A7, c7, rfl⟩ := own_slice4 hown
          obtain ⟨mm, hmm⟩ : ∃ mm, (j + if kn < j then 1 else 0) = mm := ⟨_, rfl⟩
          have hmj : mm ≤ j + 1 := by rw [← hmm]; split <;> omega
          rw [hmm] at hown hoV ⊢
          have hne7 : (Value.slice A7 mm c7).ownBlock ≠ some wr.heap.size := fun e => by have := (own_at hown e).2; omega
          clear hown
          by_cases hch : ((o == 7) = true ∨ ((o == 7) = false ∧ (o == 6) = true)) ∧ (kn : Int) < t
          · have q2 := row_set (i := 3) q1 (.int .i64 (wrap64 (t + 1)))
            obtain ⟨V2, hV2⟩ : ∃ V2, V1.setCell ⟨wr.heap.size, 3, none⟩ (.int .i64 (wrap64 (t + 1))) = V2 := ⟨_, rfl⟩
            have zV2 : V2.heap.size = wr.heap.size + 1 := by rw [← hV2]; simp [zV]
            have hbV' := hbV.setCell (p := ⟨wr.heap.size, 3, none⟩) hsw (.int .i64 (wrap64 (t + 1)))
            have hoV' : V2.ownsRow W0.heap.size 40 4 (.slice A7 mm c7) mm (ints zs) := own_block hoV fun b hb' => by rw [← hV2]; exact Below.heap_setCell _ _ _ b (fun e => hne7 (by rw [hb']; exact congrArg some e))
            rw [hV2] at q2 hbV'
            have hbV := hbV'
            have qV2 : V2.heap[wr.heap.size]? = some (.cells #[.int .i64 o, .int .i64 x1, .int .i64 x2, .int .i64 (wrap64 (t + 1))] 40 (0, 0)) := q2
            have g0 : V2.cell? ⟨wr.heap.size, 0, none⟩ = some (.int .i64 o) := by simp [World.cell?, qV2]
            have g1 : V2.cell? ⟨wr.heap.size, 1, none⟩ = some (.int .i64 x1) := by simp [World.cell?, qV2]
            have g2 : V2.cell? ⟨wr.heap.size, 2, none⟩ = some (.int .i64 x2) := by simp [World.cell?, qV2]
            have g3 : V2.cell? ⟨wr.heap.size, 3, none⟩ = some (.int .i64 (wrap64 (t + 1))) := by simp [World.cell?, qV2]
            have HOV := Lib.hid hoV'
            obtain ⟨hch1, hgt⟩ := hch
            clear q1 q2 hoV hoV' hbV'
            rcases hch1 with e7 | ⟨e7, e6⟩
            all_goals
              by_cases hjk : j = kn
              · subst hjk
                have gq : ((j : Int) == (j : Int)) = true := by simp
                have hmm0 : mm = j := by rw [← hmm]; simp
                have fin : ∀ v' w9 us, w9.ownsRow W0.heap.size 40 4 v' (mm + 1 + 1) (ints us) → Below W0.heap.size W0 w9 → Ins9Rel W0 m j v' (.int .i64 ((j : Int) + 1)) w9 := fun v' w9 us h1 h2 => ⟨j + 1, us, by go_num, by omega, by rw [if_pos (by omega), show j + 1 + 1 = mm + 1 + 1 from by omega]; exact h1, h2⟩
                have FIN := Lib.hid fin
                clear fin hmm hmm0
                go_wp2_with (first
                  | (at_builtin; refine wpList_append_at _ rfl (.tmp 62) (.tmp 66) 25 rfl W0.heap.size 40 i0 (.agg #[.int .i64 0, .int .i64 0, .int .i64 0, .int .i64 0]) 4 32 Try.underlying25 hi hz0 hz1 hz2 rfl (by decide) _ _ _ rfl (HOV.out.alloc _) ⟨wr.heap.size + 1, 0, none⟩ 1 1 [.int .i64 7, .int .i64 0, .int .i64 0, .int .i64 ((j : Int) + 1)] rfl rfl (fun i u hu => four_cells9 (by have := new_row V2 #[.int .i64 7, .int .i64 0, .int .i64 0, .int .i64 ((j : Int) + 1)] 40; rw [zV2] at this; exact this) i u hu) (by intro u hu; simp at hu; rcases hu with rfl | rfl | rfl | rfl <;> rfl) (by unfold maxLen; omega) (by omega) (by simp; omega) (by decide) ?_
                     intro v3 w3 ho3 hg3 _
                     have q3 := (hg3.block wr.heap.size (by simp; omega) (fun e => hne7 e.symm)).trans ((Below.heap_alloc V2 _ _ (by omega)).trans qV2)
                     have e0 : w3.cell? ⟨wr.heap.size, 0, none⟩ = some (.int .i64 o) := by simp [World.cell?, q3]
                     have e1 : w3.cell? ⟨wr.heap.size, 1, none⟩ = some (.int .i64 x1) := by simp [World.cell?, q3]
                     have e2 : w3.cell? ⟨wr.heap.size, 2, none⟩ = some (.int .i64 x2) := by simp [World.cell?, q3]
                     have e3 : w3.cell? ⟨wr.heap.size, 3, none⟩ = some (.int .i64 (wrap64 (t + 1))) := by simp [World.cell?, q3]
                     have hb3 : Below W0.heap.size W0 w3 := (hbV.alloc hbV.size _).grown hg3 (by simp; omega) (fun b hb' => (own_at HOV.out hb').1)
                     have hz3 := hb3.size
                     have hz3' := hg3.size
                     obtain ⟨A3, c3', rfl⟩ := own_slice4 ho3
                     have ho3' : w3.ownsRow W0.heap.size 40 4 (.slice A3 (mm + 1) c3') (mm + 1) (ints (zs ++ [7, 0, 0, (j : Int) + 1])) := by rw [ints_app]; exact ho3
                     have HO3 := Lib.hid ho3'
                     clear ho3 ho3' hg3 q3 d0 d1 d2 d3 qV2 HOV hz3')
                  | (at_builtin; refine wpList_append_at _ rfl (.tmp 68) (.tmp 70) 25 rfl W0.heap.size 40 i0 (.agg #[.int .i64 0, .int .i64 0, .int .i64 0, .int .i64 0]) 4 32 Try.underlying25 hi hz0 hz1 hz2 rfl (by decide) _ _ _ rfl (HO3.out.alloc _) ⟨w3.heap.size, 0, none⟩ 1 1 [.int .i64 o, .int .i64 x1, .int .i64 x2, .int .i64 (wrap64 (t + 1))] rfl rfl (fun i u hu => four_cells9 (new_row w3 #[.int .i64 o, .int .i64 x1, .int .i64 x2, .int .i64 (wrap64 (t + 1))] 40) i u hu) (by intro u hu; simp at hu; rcases hu with rfl | rfl | rfl | rfl <;> rfl) (by unfold maxLen; omega) (by omega) (by simp; omega) (by decide) ?_
                     intro v4 w4 ho4 hg4 _
                     have hb4 : Below W0.heap.size W0 w4 := (hb3.alloc hz3 _).grown hg4 (by simp; omega) (fun b hb' => (own_at HO3.out hb').1)
                     have ho4' : w4.ownsRow W0.heap.size 40 4 v4 (mm + 1 + 1) (ints ((zs ++ [7, 0, 0, (j : Int) + 1]) ++ [o, x1, x2, (wrap64 (t + 1))])) := by rw [ints_app]; exact ho4
                     have RR := Lib.hid (FIN.out v4 w4 _ ho4' hb4)
                     obtain ⟨A4, c4, rfl⟩ := own_slice4 ho4'
                     clear ho4 ho4' hg4 hb4 HO3 e0 e1 e2 e3 FIN hb3))
                go_roundw
                case rel => exact RR.out
                case measure => simp [intOf]; omega
              · have gq : ((j : Int) == (kn : Int)) = false := by
                  have : ¬ (j : Int) = (kn : Int) := by omega
                  simpa using this
                have hmn : (j + 1 + if kn < j + 1 then 1 else 0) = mm + 1 := by
                  rw [← hmm]
                  by_cases h : kn < j
                  · rw [if_pos h, if_pos (by omega)]
                  · rw [if_neg h, if_neg (by omega)]
                have fin : ∀ v' w9 us, w9.ownsRow W0.heap.size 40 4 v' (mm + 1) (ints us) → Below W0.heap.size W0 w9 → Ins9Rel W0 m kn v' (.int .i64 ((j : Int) + 1)) w9 := fun v' w9 us h1 h2 => ⟨j + 1, us, by go_num, by omega, by rw [hmn]; exact h1, h2⟩
                have FIN := Lib.hid fin
                clear fin hmm hmn
                go_wp2_with (first
                  | (at_builtin; refine wpList_append_at _ rfl (.tmp 68) (.tmp 70) 25 rfl W0.heap.size 40 i0 (.agg #[.int .i64 0, .int .i64 0, .int .i64 0, .int .i64 0]) 4 32 Try.underlying25 hi hz0 hz1 hz2 rfl (by decide) _ _ _ rfl (HOV.out.alloc _) ⟨wr.heap.size + 1, 0, none⟩ 1 1 [.int .i64 o, .int .i64 x1, .int .i64 x2, .int .i64 (wrap64 (t + 1))] rfl rfl (fun i u hu => four_cells9 (by have := new_row V2 #[.int .i64 o, .int .i64 x1, .int .i64 x2, .int .i64 (wrap64 (t + 1))] 40; rw [zV2] at this; exact this) i u hu) (by intro u hu; simp at hu; rcases hu with rfl | rfl | rfl | rfl <;> rfl) (by unfold maxLen; omega) (by omega) (by simp; omega) (by decide) ?_
                     intro v4 w4 ho4 hg4 _
                     have hb4 : Below W0.heap.size W0 w4 := (hbV.alloc hbV.size _).grown hg4 (by simp; omega) (fun b hb' => (own_at HOV.out hb').1)
                     have ho4' : w4.ownsRow W0.heap.size 40 4 v4 (mm + 1) (ints (zs ++ [o, x1, x2, (wrap64 (t + 1))])) := by rw [ints_app]; exact ho4
                     have RR := Lib.hid (FIN.out v4 w4 _ ho4' hb4)
                     obtain ⟨A4, c4, rfl⟩ := own_slice4 ho4'
                     clear ho4 ho4' hg4 hb4 HOV d0 d1 d2 d3 FIN)
                  | fail)
                go_roundw
                case rel => exact RR.out
                case measure => simp [intOf]; omega
          · have HOV := Lib.hid hoV
            have qV1 := q1
            have zV1 := zV
            have hcases : ((o == 7) = true ∧ ¬ (kn : Int) < t) ∨ ((o == 7) = false ∧ (o == 6) = true ∧ ¬ (kn : Int) < t) ∨ ((o == 7) = false ∧ (o == 6) = false) := by
              revert hch
              cases (o == 7) <;> cases (o == 6) <;> by_cases h : (kn : Int) < t <;> simp [h]
            clear q1 hoV hch
            rcases hcases with ⟨e7, hgt⟩ | ⟨e7, e6, hgt⟩ | ⟨e7, e6⟩
            all_goals
              by_cases hjk : j = kn
              · subst hjk
                have gq : ((j : Int) == (j : Int)) = true := by simp
                have hmm0 : mm = j := by rw [← hmm]; simp
                have fin : ∀ v' w9 us, w9.ownsRow W0.heap.size 40 4 v' (mm + 1 + 1) (ints us) → Below W0.heap.size W0 w9 → Ins9Rel W0 m j v' (.int .i64 ((j : Int) + 1)) w9 := fun v' w9 us h1 h2 => ⟨j + 1, us, by go_num, by omega, by rw [if_pos (by omega), show j + 1 + 1 = mm + 1 + 1 from by omega]; exact h1, h2⟩
                have FIN := Lib.hid fin
                clear fin hmm hmm0
                go_wp2_with (first
                  | (at_builtin; refine wpList_append_at _ rfl (.tmp 62) (.tmp 66) 25 rfl W0.heap.size 40 i0 (.agg #[.int .i64 0, .int .i64 0, .int .i64 0, .int .i64 0]) 4 32 Try.underlying25 hi hz0 hz1 hz2 rfl (by decide) _ _ _ rfl (HOV.out.alloc _) ⟨wr.heap.size + 1, 0, none⟩ 1 1 [.int .i64 7, .int .i64 0, .int .i64 0, .int .i64 ((j : Int) + 1)] rfl rfl (fun i u hu => four_cells9 (by have := new_row V1 #[.int .i64 7, .int .i64 0, .int .i64 0, .int .i64 ((j : Int) + 1)] 40; rw [zV1] at this; exact this) i u hu) (by intro u hu; simp at hu; rcases hu with rfl | rfl | rfl | rfl <;> rfl) (by unfold maxLen; omega) (by omega) (by simp; omega) (by decide) ?_
                     intro v3 w3 ho3 hg3 _
                     have q3 := (hg3.block wr.heap.size (by simp; omega) (fun e => hne7 e.symm)).trans ((Below.heap_alloc V1 _ _ (by omega)).trans qV1)
                     have e0 : w3.cell? ⟨wr.heap.size, 0, none⟩ = some (.int .i64 o) := by simp [World.cell?, q3]
                     have e1 : w3.cell? ⟨wr.heap.size, 1, none⟩ = some (.int .i64 x1) := by simp [World.cell?, q3]
                     have e2 : w3.cell? ⟨wr.heap.size, 2, none⟩ = some (.int .i64 x2) := by simp [World.cell?, q3]
                     have e3 : w3.cell? ⟨wr.heap.size, 3, none⟩ = some (.int .i64 t) := by simp [World.cell?, q3]
                     have hb3 : Below W0.heap.size W0 w3 := (hbV.alloc hbV.size _).grown hg3 (by simp; omega) (fun b hb' => (own_at HOV.out hb').1)
                     have hz3 := hb3.size
                     have hz3' := hg3.size
                     obtain ⟨A3, c3', rfl⟩ := own_slice4 ho3
                     have ho3' : w3.ownsRow W0.heap.size 40 4 (.slice A3 (mm + 1) c3') (mm + 1) (ints (zs ++ [7, 0, 0, (j : Int) + 1])) := by rw [ints_app]; exact ho3
                     have HO3 := Lib.hid ho3'
                     clear ho3 ho3' hg3 q3 d0 d1 d2 d3 qV1 HOV hz3')
                  | (at_builtin; refine wpList_append_at _ rfl (.tmp 68) (.tmp 70) 25 rfl W0.heap.size 40 i0 (.agg #[.int .i64 0, .int .i64 0, .int .i64 0, .int .i64 0]) 4 32 Try.underlying25 hi hz0 hz1 hz2 rfl (by decide) _ _ _ rfl (HO3.out.alloc _) ⟨w3.heap.size, 0, none⟩ 1 1 [.int .i64 o, .int .i64 x1, .int .i64 x2, .int .i64 t] rfl rfl (fun i u hu => four_cells9 (new_row w3 #[.int .i64 o, .int .i64 x1, .int .i64 x2, .int .i64 t] 40) i u hu) (by intro u hu; simp at hu; rcases hu with rfl | rfl | rfl | rfl <;> rfl) (by unfold maxLen; omega) (by omega) (by simp; omega) (by decide) ?_
                     intro v4 w4 ho4 hg4 _
                     have hb4 : Below W0.heap.size W0 w4 := (hb3.alloc hz3 _).grown hg4 (by simp; omega) (fun b hb' => (own_at HO3.out hb').1)
                     have ho4' : w4.ownsRow W0.heap.size 40 4 v4 (mm + 1 + 1) (ints ((zs ++ [7, 0, 0, (j : Int) + 1]) ++ [o, x1, x2, t])) := by rw [ints_app]; exact ho4
                     have RR := Lib.hid (FIN.out v4 w4 _ ho4' hb4)
                     obtain ⟨A4, c4, rfl⟩ := own_slice4 ho4'
                     clear ho4 ho4' hg4 hb4 HO3 e0 e1 e2 e3 FIN hb3))
                go_roundw
                case rel => exact RR.out
                case measure => simp [intOf]; omega
              · have gq : ((j : Int) == (kn : Int)) = false := by
                  have : ¬ (j : Int) = (kn : Int) := by omega
                  simpa using this
                have hmn : (j + 1 + if kn < j + 1 then 1 else 0) = mm + 1 := by
                  rw [← hmm]
                  by_cases h : kn < j
                  · rw [if_pos h, if_pos (by omega)]
                  · rw [if_neg h, if_neg (by omega)]
                have fin : ∀ v' w9 us, w9.ownsRow W0.heap.size 40 4 v' (mm + 1) (ints us) → Below W0.heap.size W0 w9 → Ins9Rel W0 m kn v' (.int .i64 ((j : Int) + 1)) w9 := fun v' w9 us h1 h2 => ⟨j + 1, us, by go_num, by omega, by rw [hmn]; exact h1, h2⟩
                have FIN := Lib.hid fin
                clear fin hmm hmn
                go_wp2_with (first
                  | (at_builtin; refine wpList_append_at _ rfl (.tmp 68) (.tmp 70) 25 rfl W0.heap.size 40 i0 (.agg #[.int .i64 0, .int .i64 0, .int .i64 0, .int .i64 0]) 4 32 Try.underlying25 hi hz0 hz1 hz2 rfl (by decide) _ _ _ rfl (HOV.out.alloc _) ⟨wr.heap.size + 1, 0, none⟩ 1 1 [.int .i64 o, .int .i64 x1, .int .i64 x2, .int .i64 t] rfl rfl (fun i u hu => four_cells9 (by have := new_row V1 #[.int .i64 o, .int .i64 x1, .int .i64 x2, .int .i64 t] 40; rw [zV1] at this; exact this) i u hu) (by intro u hu; simp at hu; rcases hu with rfl | rfl | rfl | rfl <;> rfl) (by unfold maxLen; omega) (by omega) (by simp; omega) (by decide) ?_
                     intro v4 w4 ho4 hg4 _
                     have hb4 : Below W0.heap.size W0 w4 := (hbV.alloc hbV.size _).grown hg4 (by simp; omega) (fun b hb' => (own_at HOV.out hb').1)
                     have ho4' : w4.ownsRow W0.heap.size 40 4 v4 (mm + 1) (ints (zs ++ [o, x1, x2, t])) := by rw [ints_app]; exact ho4
                     have RR := Lib.hid (FIN.out v4 w4 _ ho4' hb4)
                     obtain ⟨A4, c4, rfl⟩ := own_slice4 ho4'
                     clear ho4 ho4' hg4 hb4 HOV d0 d1 d2 d3 FIN)
                  | fail)
                go_roundw
                case rel => exact RR.out
                case measure => simp [intOf]; omega
        · obtain rfl : j = m := by omega
          rw [if_pos (by omega)] at hown
          obtain ⟨A7, c7, rfl⟩ := own_slice4 hown
          have hgW0 := HR2.out.lt
          obtain ⟨_, _, hv, fz⟩ := own_fl hown
          simp only [Value.slice.injEq, true_and] at hv
          obtain ⟨rfl, rfl⟩ := hv
          have HFZ := Lib.hid (fz.mono (T := fun b => b ≠ g) fun b hb => by have := (own_at hown hb).1; omega)
          have HRZ := Lib.hid (HR2.out.below hbw HR2.out.lt)
          have HGZ := Lib.hid (g9_trans hgW (show W0.grownBy wr (some g) from ⟨hbw.os, hbw.tape, hbw.output, hbw.size, fun k hk _ => hbw.block k hk⟩))
          have gz1 : wrap64 (z - 1) = z - 1 := by unfold Go.RowKit.wrap64; omega
          clear hown fz
          go_wp2_with fail
          go_roundw
          case rel => exact ⟨zs, j + 1, _, _, z - 1, q + 1, rfl, rfl, by omega, by omega, by omega, by omega, HFZ.out, HRZ.out, by omega, by omega, HGZ.out⟩
          case measure => simp [intOf]; omega
    · obtain rfl : z = 0 := by omega
      obtain ⟨b, rfl⟩ := hfl.some (by omega)
      go_wp2_with fail
      refine (bent4 g q wr hfl hm1 (by omega) hRd (by omega) (by omega)).mono ?_
      rintro e w4 ⟨ys4, m4, v, q4, rfl, hm4, _, _, K⟩
      obtain ⟨A4, c4, rfl⟩ := own_slice4 K.own
      have hgz := hgw.size
      have HF := Lib.hid (show ∃ (ys : List Int) (m : Nat) (v : Value) (q : Int), Ending.returned (.slice A4 m4 c4) = .returned v ∧ m ≤ 50 ∧ w4.ownsRow w.heap.size 40 4 v m (ints ys) ∧ Rd w4 g q ∧ w.grownBy w4 (some g) from
        ⟨ys4, m4, _, q4, rfl, by omega, own_mono K.own hgz, K.rd, g9_trans hgw K.grown⟩)
      clear K hfl
      go_wp2_with fail
      go_ret
      exact HF.out

/-- Code of the call's own. -/
def Code9Post (w : World) (e : Ending) (w' : World) : Prop :=
  ∃ (ys : List Int) (m : Nat) (A : Option Addr) (c : Nat), e = .returned (.slice A m c) ∧ w'.ownsRow w.heap.size 40 4 (.slice A m c) m (ints ys) ∧ m ≤ 50 ∧ Below w.heap.size w w'

theorem drawSlimJumps (A : Option Addr) (n c : Nat) (w : World) (h : Bytes w A n) (hn : n ≤ c) (hc : c ≤ maxLen) :
    Calls Try.prog 38 #[.slice A n c] w (Code9Post w) := by
  go_enter Try.func38, Try.ntmps38
  go_wp2_with fail
  refine (l11Open A n c _ h hn hc).mono ?_
  rintro e w1 ⟨rfl, hR, hb⟩
  go_wp2_with fail
  refine (some_ _ 0 _ hR (by omega) (by omega)).mono ?_
  rintro e w2 ⟨L, a, c2, q, rfl, hs, hok, hl, hz, q0, q1, hR2, hg2⟩
  have HOK := Lib.hid hok
  clear hok
  go_wp2_with fail
  refine (codeSome (hs.mono fun b hb => hb.2) HOK.out hR2).mono ?_
  rintro e w3 ⟨r, cap, rfl, h29, ho, hR3, hb3⟩
  have hg2l := hR2.lt
  obtain ⟨_, _, hv, fz⟩ := own_fl ho
  simp only [Value.slice.injEq] at hv
  obtain ⟨rfl, _, rfl⟩ := hv
  have f3 := fz.mono (T := fun b => b ≠ w.heap.size) fun b hb => by have := (own_at ho hb).1; omega
  have h1 : 1 ≤ L.lenC + 1 := by omega
  generalize L.lenC + 1 = m at *
  clear ho fz
  go_wp2_with fail
  refine (bent9 w.heap.size q w3 f3 h1 (by omega) hR3 (by omega) (by omega)).mono ?_
  rintro e w4 ⟨ys, m4, v, q4, rfl, hm4, ho4, hR4, hg4⟩
  obtain ⟨A4, c4, rfl⟩ := own_slice4 ho4
  have b4 : Below w.heap.size w w4 := hb.trans (((Below.of_grown hg2 (Nat.le_refl _) hR.lt).trans (hb3.mono (by have := hg2.size; have := hb.size; omega))).trans (Below.of_grown hg4 (Nat.le_refl _) hR3.lt))
  have HF := Lib.hid (show Code9Post w (.returned (.slice A4 m4 c4)) w4 from ⟨ys, m4, A4, c4, rfl, own_mono ho4 (by have := hb.size; have := hg2.size; have := hb3.size; omega), hm4, b4⟩)
  clear ho4 f3 hs
  go_wp2_with fail
  go_ret
  exact HF.out

theorem drawSlimReach (A : Option Addr) (n c : Nat) (w : World) (h : Bytes w A n) (hn : n ≤ c) (hc : c ≤ maxLen) :
    Calls Try.prog 36 #[.slice A n c] w (Code9Post w) := by
  go_enter Try.func36, Try.ntmps36
  go_wp2_with fail
  refine (drawSlimJumps A n c _ h hn hc).mono ?_
  rintro e w1 ⟨ys, m, B, cB, rfl, o1, hm, b1⟩
  have HF := Lib.hid (show Code9Post w (.returned (.slice B m cB)) w1 from ⟨ys, m, B, cB, rfl, o1, hm, b1⟩)
  clear o1
  go_wp2_with fail
  go_ret
  exact HF.out

theorem drawSlimDead (A : Option Addr) (n c : Nat) (w : World) (h : Bytes w A n) (hn : n ≤ c) (hc : c ≤ maxLen) :
    Calls Try.prog 39 #[.slice A n c] w (Code9Post w) := by
  go_enter Try.func39, Try.ntmps39
  go_wp2_with fail
  refine (drawSlimJumps A n c _ h hn hc).mono ?_
  rintro e w1 ⟨ys, m, B, cB, rfl, o1, hm, b1⟩
  have HF := Lib.hid (show Code9Post w (.returned (.slice B m cB)) w1 from ⟨ys, m, B, cB, rfl, o1, hm, b1⟩)
  clear o1
  go_wp2_with fail
  go_ret
  exact HF.out

theorem drawSlim (A : Option Addr) (n c : Nat) (w : World) (h : Bytes w A n) (hn : n ≤ c) (hc : c ≤ maxLen) :
    Calls Try.prog 40 #[.slice A n c] w (Code9Post w) := by
  go_enter Try.func40, Try.ntmps40
  go_wp2_with fail
  refine (drawSlimJumps A n c _ h hn hc).mono ?_
  rintro e w1 ⟨ys, m, B, cB, rfl, o1, hm, b1⟩
  have HF := Lib.hid (show Code9Post w (.returned (.slice B m cB)) w1 from ⟨ys, m, B, cB, rfl, o1, hm, b1⟩)
  clear o1
  go_wp2_with fail
  go_ret
  exact HF.out
end Go.Proofs.Ytogpfagdpkjmmaa
