/- The laws' count, copy and comparison of programs. -/
import Derived.Test.YtoinagefhbpakaaPs
import Derived.Test.YtoinagefhbpakaaCopy
import Derived.Test.YtoinagefhbpakaaEq
import Derived.StillTailTactics
namespace Go.Proofs.Ytoinagefhbpakaa
open Go.ChangeShapes Go.WideShapes Go.ChangeAt Go.RowKit

def SzPRel (Ls : List SL) (w : World) (left : Int) (l i : Value) (wr : World) : Prop :=
  ∃ (k : Nat) (z : Int), k ≤ Ls.length ∧ i = .int .i64 k ∧ l = .int .i64 z ∧ 0 ≤ z ∧ z ≤ 1048576 ∧ szR (innerP (Ls.drop k)) z = szR (sizeP Ls) left ∧ Below w.heap.size w wr

theorem szStmtSS {Ls : List SL} {A : Option Addr} {n c N : Nat} {w : World} {left : Int} (hs : Ps w N Ls A n c) (hN : N ≤ w.heap.size) (h0 : 0 ≤ left) (h1 : left ≤ 1048576) :
    Calls Try.prog 27 #[.slice A n c, .int .i64 left] w fun e w' => e = .returned (.int .i64 (szR (sizeP Ls) left)) ∧ Below w.heap.size w w' := by
  have HL := Lib.hid hs.len
  have hlen : n ≤ Ls.length := Nat.le_of_eq hs.len
  have hlen' : Ls.length ≤ n := Nat.le_of_eq hs.len.symm
  have hmax : n ≤ 9223372036854775807 := by have := hs.le; have := hs.top; unfold maxLen at this; omega
  by_cases hl : (n : Int) ≤ left
  · have g1 : 0 ≤ left - (n : Int) := by omega
    go_enter Try.func27, Try.ntmps27
    go_wp2_with fail
    go_loopw [1, 5] (fun l i wr => SzPRel Ls w left l i wr) (fun _ i _ => n - (intOf i).toNat)
    case atStart => exact ⟨0, left - n, Nat.zero_le _, rfl, rfl, g1, by omega, by rw [List.drop_zero, sizeP_eq, ← HL.out]; exact (szR_step hl).symm, Below.refl _ _⟩
    case round =>
      obtain ⟨k, z, hk, rfl, rfl, z0, z1, hz, hb⟩ := hrel
      have HZ := Lib.hid hz
      clear hz
      by_cases hlt : k < n
      · have hk' : k < Ls.length := by omega
        have HI := Lib.hid (innerP_drop hk')
        obtain ⟨a, A', c', rfl, _, hc, hsl⟩ := (hs.below (hb.mono hN)).at_ k hk'
        have hsz := hb.size
        generalize Ls[k] = L at *
        by_cases hfit : (L.size : Int) ≤ z
        · have H1 := Lib.hid (show szR L.size z = z - L.size from if_pos hfit)
          have g2 : 0 ≤ z - (L.size : Int) := by omega
          go_wp2_with fail
          refine (szStmtS hsl (by omega) z0 z1).mono ?_
          rintro e w1 ⟨rfl, hb1⟩
          rw [H1.out]
          go_wp2_with fail
          go_roundw
          case rel => exact ⟨k + 1, z - L.size, by omega, by go_num, rfl, g2, by omega, by rw [← HZ.out, HI.out]; exact (szR_step hfit).symm, hb.trans (hb1.mono hsz)⟩
          case measure => simp [intOf]; omega
        · have H1 := Lib.hid (show szR L.size z = -1 from if_neg hfit)
          have H2 := Lib.hid (show szR (sizeP Ls) left = -1 from by rw [← HZ.out, HI.out]; exact szR_stop (by omega))
          go_wp2_with fail
          refine (szStmtS hsl (by omega) z0 z1).mono ?_
          rintro e w1 ⟨rfl, hb1⟩
          rw [H1.out]
          go_wp2_with fail
          go_ret
          exact ⟨by rw [H2.out]; rfl, hb.trans (hb1.mono hsz)⟩
      · have hend : Ls.drop k = [] := List.drop_of_length_le (by omega)
        have H2 := Lib.hid (show szR (sizeP Ls) left = z from by rw [← HZ.out, hend, innerP, szR, if_pos (by simpa using z0)]; simp)
        clear hend
        go_wp2_with fail
        go_ret
        exact ⟨by rw [H2.out]; rfl, hb⟩
  · have H2 := Lib.hid (show szR (sizeP Ls) left = -1 from if_neg (by have := sizeP_eq Ls; omega))
    go_enter Try.func27, Try.ntmps27
    go_wp2_with fail
    go_ret
    exact ⟨by rw [H2.out]; rfl, Below.refl _ _⟩

theorem info_List : (Try.prog.info? 58).map (fun i => (i.zero, i.size, i.bytes)) = some (some (.slice none 0 0), 1, 24) := by kernel_rfl

theorem make_Lists (n : Nat) (hn : n ≤ 1048576) (w : World) : (Instr.makeSlice 42 (.int .i64 (n : Int)) (.int .i64 (n : Int))).run Try.prog w =
    .ok (.slice (some ⟨w.heap.size, 0, none⟩) n n) (w.alloc (.cells (madeCells #[.slice none 0 0] (n * 1)) 58)) := by
  have hi := info_List
  obtain ⟨i, hi0, hi1⟩ := Option.map_eq_some_iff.1 hi
  simp only [Prod.mk.injEq] at hi1
  obtain ⟨e0, e1, e2⟩ := hi1
  have h := run_make (P := Try.prog) w 42 58 i _ Try.underlying42 hi0 e0 .i64 .i64 (n : Int) (n : Int) (by omega) (by omega) (by rw [e2]; omega) (by omega)
  rw [e1] at h
  simp only [Int.toNat_natCast] at h
  exact h

def CopyPRel (Ls : List SL) (w : World) (i : Value) (wr : World) : Prop :=
  ∃ (k : Nat) (vs : Array Value), k ≤ Ls.length ∧ i = .int .i64 k ∧ wr.heap[w.heap.size]? = some (.cells vs 58 (0, 0)) ∧ vs.size = Ls.length ∧ w.heap.size < wr.heap.size ∧
    (∀ j (h : j < Ls.length), j < k → ∃ (A' : Option Addr) (c' : Nat), wr.cell? ⟨w.heap.size, j, none⟩ = some (.slice A' (Ls[j]).len c') ∧ SlP wr (fun b => w.heap.size < b ∧ b < wr.heap.size) (Ls[j]) A' (Ls[j]).len c') ∧ Below w.heap.size w wr

def ProgPost (Ls : List SL) (w : World) (e : Ending) (w' : World) : Prop := ∃ (A' : Option Addr) (c' : Nat), e = .returned (.slice A' Ls.length c') ∧ PsP w' (Born w w') Ls A' Ls.length c' ∧ Below w.heap.size w w'

theorem toStmtSS (Ls : List SL) (hS : sizeP Ls ≤ 1048576) (A : Option Addr) (n c N : Nat) (w : World) (hs : Ps w N Ls A n c) (hN : N ≤ w.heap.size) :
    Calls Try.prog 29 #[.slice A n c] w (ProgPost Ls w) := by
  have hlen : n ≤ Ls.length := Nat.le_of_eq hs.len
  have hlen' : Ls.length ≤ n := Nat.le_of_eq hs.len.symm
  have hll : Ls.length ≤ sizeP Ls := by have := sizeP_eq Ls; omega
  have hmk := fun W => make_Lists n (by omega) W
  go_enter Try.func29, Try.ntmps29
  go_wp2_with fail
  go_loopw [4] (fun i wr => CopyPRel Ls w i wr) (fun i _ => n - (intOf i).toNat)
  case atStart =>
    refine ⟨0, madeCells #[.slice none 0 0] (n * 1), Nat.zero_le _, rfl, ?_, ?_, by simp, fun j _ hj => by omega, (Below.refl _ _).alloc (Nat.le_refl _) _⟩
    · first
        | (show (w.heap.push _)[w.heap.size]? = _; rw [Array.getElem?_push, if_pos rfl]; done)
        | (show (w.heap.push _)[w.heap.size]? = _; rw [Array.getElem?_push, if_pos rfl]; simp)
    · rw [size_madeCells, hs.len, Nat.mul_one]
  case round =>
    clear hmk
    obtain ⟨k, vs, hk, rfl, hrow, hvs, hzr, hel, hb⟩ := hrel
    have HROW := Lib.hid hrow
    have HEL := Lib.hid hel
    have HVS := Lib.hid hvs
    clear hrow hel hvs
    by_cases hlt : k < n
    · have hk' : k < Ls.length := by omega
      have hsg := sizeP_get hk'
      obtain ⟨a, A1, c1, rfl, _, hc, hsl⟩ := (hs.below (hb.mono hN)).at_ k hk'
      have hsz := hb.size
      go_wp2_with fail
      refine (toStmtS (Ls[k]) (by omega) A1 _ c1 N wr hsl (by omega)).mono ?_
      rintro e w1 ⟨A2, c2, rfl, s2, hb1⟩
      have hz1 := hb1.size
      have hrow1 : w1.heap[w.heap.size]? = some (.cells vs 58 (0, 0)) := by rw [hb1.block _ hzr]; exact HROW.out
      have o0 : w1.cell? ⟨w.heap.size, k, none⟩ = some (vs[k]!) := by
        have : k < vs.size := by rw [HVS.out]; omega
        rw [row_cell hrow1, getElem!_pos vs _ this, Array.getElem?_eq_getElem this]
      have f0 := row_frozen hrow1 k
      have R1 := Lib.hid hrow1
      have HB1 := Lib.hid hb1
      have S2 := Lib.hid s2
      clear hrow1 hb1 s2
      go_wp2_with fail
      go_roundw
      case rel =>
        have hcell : ∀ j, (w1.setCell ⟨w.heap.size, k, none⟩ (.slice A2 (Ls[k]).len c2)).cell? ⟨w.heap.size, j, none⟩ = if k = j then (if k < vs.size then some (.slice A2 (Ls[k]).len c2) else none) else vs[j]? := fun j => by
          rw [row_cell (row_set R1.out _), Array.getElem?_setIfInBounds]
        have hoth : ∀ p : Addr, p.block ≠ w.heap.size → (w1.setCell ⟨w.heap.size, k, none⟩ (.slice A2 (Ls[k]).len c2)).cell? p = w1.cell? p := fun p hp => World.cell?_setCell_other _ _ _ _ (fun e => hp (by rw [← e]))
        have hszs : (w1.setCell ⟨w.heap.size, k, none⟩ (.slice A2 (Ls[k]).len c2)).heap.size = w1.heap.size := size_set _ _ _
        refine ⟨k + 1, _, by omega, by go_num, row_set R1.out _, by rw [Array.size_setIfInBounds]; exact HVS.out, by rw [hszs]; omega, fun j hj hjk => ?_, (hb.trans (HB1.out.mono hsz)).setCell (Nat.le_refl _) _⟩
        by_cases e : k = j
        · subst e
          refine ⟨A2, c2, ?_, ?_⟩
          · rw [hcell, if_pos rfl, if_pos (by rw [HVS.out]; exact hk')]
          · exact (S2.out.keep (fun p hp => hoth p (by have := hp.1; omega))).mono fun b hb => ⟨by have := hb.1; omega, by rw [hszs]; exact hb.2⟩
        · obtain ⟨A3, c3, h3, s3⟩ := HEL.out j hj (by omega)
          refine ⟨A3, c3, ?_, ?_⟩
          · rw [hcell, if_neg e, ← row_cell HROW.out]; exact h3
          · exact (s3.keep (fun p hp => (hoth p (by have := hp.1; omega)).trans (HB1.out.cell hp.2))).mono fun b hb => ⟨hb.1, by rw [hszs]; have := hb.2; omega⟩
      case measure => simp [intOf]; omega
    · go_wp2_with fail
      go_ret
      obtain rfl : k = Ls.length := by omega
      refine ⟨some ⟨w.heap.size, 0, none⟩, n, ?_, ⟨rfl, by omega, by unfold maxLen; omega, fun i hi => ?_⟩, hb⟩
      · obtain rfl : n = Ls.length := by omega
        rfl
      · obtain ⟨A3, c3, h3, s3⟩ := HEL.out i hi hi
        refine ⟨⟨w.heap.size, 0, none⟩, A3, c3, rfl, ⟨Nat.le_refl _, hzr⟩, ?_, s3.mono fun b hb => ⟨by omega, hb.2⟩⟩
        rw [show (⟨w.heap.size, 0, none⟩ : Addr).add i = ⟨w.heap.size, i, none⟩ from by unfold Addr.add; split <;> simp_all]
        exact h3

set_option maxRecDepth 100000 in
theorem eqStmtSS (Ls : List SL) (A A' : Option Addr) (n c n' c' N N' : Nat) (w : World) (hs : Ps w N Ls A n c) (ht : Ps w N' Ls A' n' c') (hN : N ≤ w.heap.size) (hN' : N' ≤ w.heap.size) :
    Calls Try.prog 31 #[.slice A n c, .slice A' n' c'] w fun e w' => e = .returned (.bool true) ∧ Below w.heap.size w w' := by
  obtain rfl : n = n' := hs.len.trans ht.len.symm
  have hlen : n ≤ Ls.length := Nat.le_of_eq hs.len
  have hmax : n ≤ 9223372036854775807 := by have := hs.le; have := hs.top; unfold maxLen at this; omega
  go_enter Try.func31, Try.ntmps31
  go_wp2_with fail
  go_loopw [5] (fun i wr => ∃ k : Nat, k ≤ n ∧ i = .int .i64 k ∧ Below w.heap.size w wr) (fun i _ => n - (intOf i).toNat)
  case atStart => exact ⟨0, Nat.zero_le _, rfl, Below.refl _ _⟩
  case round =>
    obtain ⟨k, hk, rfl, hb⟩ := hrel
    by_cases hlt : k < n
    · have hk' : k < Ls.length := by omega
      obtain ⟨a, A1, c1, rfl, _, h1, s1⟩ := (hs.below (hb.mono hN)).at_ k hk'
      obtain ⟨b, A2, c2, rfl, _, h2, s2⟩ := (ht.below (hb.mono hN')).at_ k hk'
      have hsz := hb.size
      go_wp2_with fail
      go_still_tail 8, (by kernel_rfl)
      change wpList _ _ _ _ _ wr.drew
      have hdr : Below wr.heap.size wr wr.drew := (Below.refl _ _).drew
      go_wp2_with fail
      refine (eqStmtS (Ls[k]) A1 A2 _ c1 _ c2 N N' wr.drew (s1.below (hdr.mono (by omega))) (s2.below (hdr.mono (by omega))) (by show N ≤ wr.heap.size; omega) (by show N' ≤ wr.heap.size; omega)).mono ?_
      rintro e w1 ⟨rfl, hb1⟩
      have hb1' : Below wr.heap.size wr w1 := hdr.trans hb1
      clear hb1 hdr
      go_wp2_with fail
      go_roundw
      case rel => exact ⟨k + 1, by omega, by go_num, hb.trans (hb1'.mono hsz)⟩
      case measure => simp [intOf]; omega
    · go_wp2_with fail
      go_ret
      exact ⟨rfl, hb⟩
end Go.Proofs.Ytoinagefhbpakaa
