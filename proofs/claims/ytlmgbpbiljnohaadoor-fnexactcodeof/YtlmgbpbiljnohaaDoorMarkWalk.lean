/- The walks of the laws' marks in lists of statements. -/
import Derived.Test.YtlmgbpbiljnohaaDoorMark
namespace Go.Proofs.YtlmgbpbiljnohaaDoor
open Go.ChangeShapes Go.WideShapes Go.ChangeAt Go.RowKit

def MarkSays (L : SL) : Prop := ∀ (A : Option Addr) (c : Nat) (F : List Nat) (k : Int) (w : World), SlF w L A c F → F.Nodup → (∀ b ∈ F, b < w.heap.size) → 0 ≤ k → k + 4 * L.size ≤ 1099511627776 →
  Calls Tryd.prog 13 #[.slice A L.len c, .int .i64 k] w fun e w' => e = .returned (.int .i64 (k + 4 * L.size)) ∧ SlF w' (mkL L k) A c F ∧ ButF w w' F

set_option maxRecDepth 100000 in
set_option maxHeartbeats 1000000 in
theorem markStmtS_any (m : Nat) : ∀ L : SL, L.size < m → L.size ≤ 1048576 → MarkSays L := by
  induction m with
  | zero => intro L hL; omega
  | succ m ih =>
    intro L hL hS A c F k w hs hnd hlt hk0 hk1
    have IH := Lib.hid ih
    clear ih
    have hll := L.len_le
    cases A with
    | none =>
      obtain ⟨rfl, rfl⟩ := hs.nil rfl
      have hs' : SlF w (mkL .nil k) none c [] := hs
      have hz : SL.nil.len = 0 := rfl
      have hz' : (SL.nil.size : Int) = 0 := rfl
      rw [hz, hz']
      go_enter Tryd.func13, Tryd.ntmps13
      go_wp2_with fail
      go_loopw [1, 5] (fun q i wr => q = .int .i64 k ∧ i = .int .i64 0 ∧ wr = w) (fun _ _ _ => 0)
      case atStart => exact ⟨rfl, rfl, rfl⟩
      case round =>
        obtain ⟨rfl, rfl, rfl⟩ := hrel
        go_wp2_with fail
        go_ret
        exact ⟨by simp, hs', ButF.refl _ _⟩
    | some p =>
      obtain ⟨g, F', rfl, rfl, hat⟩ := hs.at_ p rfl
      have hle := hs.le
      have htop := hs.top
      have HND := Lib.hid hnd
      have HLT := Lib.hid hlt
      clear hs hnd hlt
      go_enter Tryd.func13, Tryd.ntmps13
      go_wp2_with fail
      go_loopw [1, 5] (fun q i wr => ∃ (j : Nat) (F1 F2 : List Nat), j ≤ L.len ∧ q = .int .i64 (k + 4 * (L.first j).size) ∧ i = .int .i64 j ∧ F' = F1 ++ F2 ∧ AtF wr (mkL (L.first j) k) g 0 F1 ∧ AtF wr (L.drop j) g (j * 6) F2 ∧ ButF w wr (g :: F')) (fun _ i _ => L.len - (intOf i).toNat)
      case atStart => exact ⟨0, [], F', Nat.zero_le _, by rw [SL.first_zero]; simp [SL.size], rfl, rfl, by rw [SL.first_zero]; rfl, by rw [SL.drop_zero, Nat.zero_mul]; exact hat, ButF.refl _ _⟩
      case round =>
        obtain ⟨j, F1, F2, hj, rfl, rfl, rfl, hp, hd, hb⟩ := hrel
        have hzr := hb.size
        by_cases hlt : j < L.len
        · obtain ⟨K, x, y, v, B, E, R, hdr⟩ := SL.drop_cons (L := L) (i := j) hlt
          have s1 := SL.drop_size2 hdr
          have s2 := L.first_drop_size j
          have HF := Lib.hid (SL.first_succ hdr)
          have HR := Lib.hid (SL.drop_succ hdr)
          rw [hdr] at hd s2
          simp only [SL.size] at s2
          obtain ⟨c0, c1, c2, c3, ⟨f0, f1, f2, f3⟩, AB, cB, AE, cE, FB, FE, FR, c4, c5, sB, sE, hr, rfl⟩ := AtF.cons_iff.1 hd
          have HLT2 := Lib.hid (show ∀ b ∈ g :: (F1 ++ (FB ++ (FE ++ FR))), b < wr.heap.size from fun b hb' => by have := HLT.out b hb'; omega)
          obtain ⟨t, ht⟩ : ∃ t : Int, t = k + 4 * (L.first j).size := ⟨_, rfl⟩
          have HP := Lib.hid hp
          have HR0 := Lib.hid hr
          have SB := Lib.hid sB
          have SE := Lib.hid sE
          have t0 : 0 ≤ t := by omega
          have t1 : t + 4 + 4 * B.size + 4 * E.size ≤ 1099511627776 := by omega
          rw [← ht]
          have HT := Lib.hid ht
          clear ht hd hdr hp hr sB sE hat
          have hgB : g ∉ FB ∧ g ∉ FE ∧ FB.Nodup ∧ FE.Nodup ∧ (∀ b ∈ FE, b ∉ FB) := by
            obtain ⟨hgn, hnd2⟩ := List.nodup_cons.1 HND.out
            simp only [List.mem_append, not_or] at hgn
            have d2 := List.nodup_append.1 (List.nodup_append.1 hnd2).2.1
            exact ⟨hgn.2.1, hgn.2.2.1, d2.1, (List.nodup_append.1 d2.2.1).1, fun b hE hB => d2.2.2 b hB b (by simp [hE]) rfl⟩
          have HGB := Lib.hid hgB
          clear hgB
          go_wp2_with fail
          have oth : ∀ b, b ≠ g → (wr.setCells g (j * 6) [.int .i64 t, .int .i64 (t + 1), .int .i64 (t + 2), .int .i64 (t + 3)]).heap[b]? = wr.heap[b]? := fun b hb => by
            show ((((wr.setCell _ _).setCell _ _).setCell _ _).setCell _ _).heap[b]? = _
            rw [Below.heap_setCell _ _ _ _ (by exact hb), Below.heap_setCell _ _ _ _ (by exact hb), Below.heap_setCell _ _ _ _ (by exact hb), Below.heap_setCell _ _ _ _ (by exact hb)]
          have sz : (wr.setCells g (j * 6) [.int .i64 t, .int .i64 (t + 1), .int .i64 (t + 2), .int .i64 (t + 3)]).heap.size = wr.heap.size := by simp [World.setCells, World.setCell]
          have e2 : t + 1 + 1 = t + 2 := by omega
          have e3 : t + 2 + 1 = t + 3 := by omega
          have e4 : t + 3 + 1 = t + 4 := by omega
          rw [e2, e3, e4]
          clear e2 e3 e4
          refine (IH.out B (by omega) (by omega) AB cB FB (t + 4) (wr.setCells g (j * 6) [.int .i64 t, .int .i64 (t + 1), .int .i64 (t + 2), .int .i64 (t + 3)]) (SB.out.keep fun b hb => oth b fun e => HGB.out.1 (e ▸ hb)) HGB.out.2.2.1 (fun b hb => by rw [sz]; exact HLT2.out b (by simp [hb])) (by omega) (by omega)).mono ?_
          rintro e w5 ⟨rfl, h5, b5⟩
          have hg := HLT2.out g (by simp)
          have z5 := b5.size
          rw [sz] at z5
          have q5 : w5.cell? ⟨g, j * 6 + 5, none⟩ = some (.slice AE E.len cE) := by
            rw [World.cell?_of_block (a := ⟨g, j * 6 + 5, none⟩) (b5.block g (by rw [sz]; exact hg) HGB.out.1), World.cell?_setCells_out g _ (j * 6) wr ⟨g, j * 6 + 5, none⟩ (fun _ _ => .inr (by simp)), c5]
          have SE5 := Lib.hid (SE.out.keep (w' := w5) fun b hb => (b5.block b (by rw [sz]; exact HLT2.out b (by simp [hb])) (HGB.out.2.2.2.2 b hb)).trans (oth b fun e => HGB.out.2.1 (e ▸ hb)))
          have H5 := Lib.hid h5
          have B5 := Lib.hid b5
          have C := Lib.hid (And.intro c0 (And.intro c1 (And.intro c2 (And.intro c3 (And.intro c4 c5)))))
          have FZ := Lib.hid (And.intro f0 (And.intro f1 (And.intro f2 f3)))
          clear h5 b5 c0 c1 c2 c3 c4 c5 f0 f1 f2 f3 oth sz
          go_wp2_with fail
          refine (IH.out E (by omega) (by omega) AE cE FE (t + 4 + 4 * B.size) w5 SE5.out HGB.out.2.2.2.1 (fun b hb => by have := HLT2.out b (by simp [hb]); omega) (by omega) (by omega)).mono ?_
          rintro e w6 ⟨rfl, h6, b6⟩
          have st := mark_step HP.out (by rw [mkL_len, L.first_len j (by omega)]) C.out.1 C.out.2.1 C.out.2.2.1 C.out.2.2.2.1 FZ.out.1 FZ.out.2.1 FZ.out.2.2.1 FZ.out.2.2.2 C.out.2.2.2.2.1 C.out.2.2.2.2.2 HR0.out HND.out HLT2.out (mkL_len _ _) (mkL_len _ _) H5.out B5.out h6 b6
          have ST := Lib.hid st
          clear st h6 b6 q5
          go_wp2_with fail
          go_roundw
          case rel =>
            obtain ⟨st1, st2, st3⟩ := ST.out
            refine ⟨j + 1, F1 ++ (FB ++ FE), FR, by omega, ?_, by go_num, by simp, ?_, ?_, hb.trans st3⟩
            · refine congrArg (Value.int .i64) ?_
              rw [HF.out, SL.plus_size, HT.out]
              simp only [SL.size]
              omega
            · rw [HF.out, mkL_plus, ← HT.out]
              exact st1
            · rw [HR.out, show (j + 1) * 6 = j * 6 + 6 from by omega]
              exact st2
          case measure => simp [intOf]; omega
        · obtain rfl : j = L.len := by omega
          rw [SL.drop_end (Nat.le_refl _)] at hd
          have e2 : F2 = [] := hd
          subst e2
          rw [L.first_all] at hp
          rw [L.first_all]
          have HP := Lib.hid hp
          clear hp hd hat
          go_wp2_with fail
          go_ret
          refine ⟨rfl, ⟨by rw [mkL_len]; exact hle, htop, (fun h => by cases h), fun p hp => ?_⟩, hb⟩
          obtain rfl : p = ⟨g, 0, none⟩ := by injection hp with h; exact h.symm
          exact ⟨g, F1, rfl, by simp, HP.out⟩

theorem markStmtS (L : SL) (h : L.size ≤ 1048576) : MarkSays L := markStmtS_any (L.size + 1) L (by omega) h

end Go.Proofs.YtlmgbpbiljnohaaDoor
