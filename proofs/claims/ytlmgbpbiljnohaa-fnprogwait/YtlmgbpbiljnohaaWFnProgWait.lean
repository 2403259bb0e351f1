/- The walk of laws.FnProgWait. -/
import Derived.Test.YtlmgbpbiljnohaaDrawSome
import Derived.Test.YtlmgbpbiljnohaaStmtsMany
namespace Go.Proofs.Ytlmgbpbiljnohaa
open Go.ChangeShapes Go.WideShapes Go.ChangeAt Go.RowKit

/-- A list that the call owns. -/
theorem sl_own {w : World} {base n r cap : Nat} {xs : List Value} {S : Nat → Prop} {L : SL} (ho : w.ownsRow base 29 6 (.slice (some ⟨r, 0, none⟩) n cap) n xs) (hd : Dec w S L xs) (hS : S r) : SlP w S L (some ⟨r, 0, none⟩) n cap := by
  obtain ⟨A, c, e, h⟩ := owns_slP ho hd (fun b hb => by simp [Value.ownBlock] at hb; subst hb; exact hS)
  injection e with e1 e2 e3
  subst e1 e3
  rw [e2]; exact h

set_option maxRecDepth 100000 in
set_option maxHeartbeats 2000000 in
theorem wFnProgWait (A : Option Addr) (n c : Nat) (w : World) (h : Bytes w A n) (hn : n ≤ c) (hc : c ≤ maxLen) :
    Calls Try.prog 5 #[.slice A n c] w fun e w' => e = .returned (.bool true) ∧ Below w.heap.size w w' := by
  obtain ⟨i0, hi, hz0, hz1, hz2⟩ := info_parts info_St
  by_cases hl : 1048576 < n
  · go_enter Try.func5, Try.ntmps5
    go_wp2
    go_ret
    exact ⟨rfl, Below.refl _ _⟩
  · go_enter Try.func5, Try.ntmps5
    go_wp2_with fail
    refine (drawStmtsOk A n c _ h hn hc).mono ?_
    rintro e w1 ⟨L, a, c1, rfl, s1, hL, b1⟩
    have lL : L.size ≤ 1048576 := by omega
    have hll := L.len_le
    go_wp2_with fail
    refine (stmtsOk L _ _ _ w1.heap.size w1 (s1.sl fun b hb => hb.2) (Nat.le_refl _)).mono ?_
    rintro e w2 ⟨rfl, hb2⟩
    have s2 := s1.born (Nat.le_refl _) hb2
    have z1 := b1.size
    have b2 := b1.trans (hb2.mono z1)
    clear s1 hb2
    cases hb : okP L
    · have HB := Lib.hid hb
      clear hb
      go_wp2_with fail
      refine (specStmtsOk L lL _ _ _ w2.heap.size w2 (s2.sl fun b hb => hb.2) (Nat.le_refl _)).mono ?_
      rintro e w3 ⟨rfl, hb3⟩
      rw [HB.out]
      have s3 := s2.born (Nat.le_refl _) hb3
      have z2 := b2.size
      have b3 := b2.trans (hb3.mono z2)
      clear s2 hb3
      go_wp2_with fail
      refine (specStmtsOk L lL _ _ _ w3.heap.size w3 (s3.sl fun b hb => hb.2) (Nat.le_refl _)).mono ?_
      rintro e w4 ⟨rfl, hb4⟩
      rw [HB.out]
      go_wp2_with fail
      go_ret
      exact ⟨rfl, b3.trans (hb4.mono b3.size)⟩
    · have HB := Lib.hid hb
      clear hb
      go_wp2_with fail
      refine (specStmtsOk L lL _ _ _ w2.heap.size w2 (s2.sl fun b hb => hb.2) (Nat.le_refl _)).mono ?_
      rintro e w3 ⟨rfl, hb3⟩
      rw [HB.out]
      have s3 := s2.born (Nat.le_refl _) hb3
      have z2 := b2.size
      have b3 := b2.trans (hb3.mono z2)
      clear s2 hb3
      obtain ⟨xs, hdec, hcell, hone⟩ := (s3.at_ a rfl).dec
      have hxl := hdec.length
      have z3 := b3.size
      have HC := Lib.hid (show ∀ j u, xs[j]? = some u → ((w3.alloc (.cells #[.int .i64 9, .int .i64 0, .int .i64 0, .int .i64 0, .slice none 0 0, .slice none 0 0] 29)).alloc (.cells #[.int .i64 9, .int .i64 0, .int .i64 0, .int .i64 0, .slice none 0 0, .slice none 0 0] 29)).cell? (a.add j) = some u from fun j u h => by
        have := hcell j u h
        have hlt := World.block_lt_of_cell? _ _ this
        rw [World.cell?_of_block (w := w3) ((Below.heap_alloc (w3.alloc (.cells #[.int .i64 9, .int .i64 0, .int .i64 0, .int .i64 0, .slice none 0 0, .slice none 0 0] 29)) _ _ (by simp; omega)).trans (Below.heap_alloc w3 _ _ hlt))]; exact this)
      have hown : ((w3.alloc (.cells #[.int .i64 9, .int .i64 0, .int .i64 0, .int .i64 0, .slice none 0 0, .slice none 0 0] 29)).alloc (.cells #[.int .i64 9, .int .i64 0, .int .i64 0, .int .i64 0, .slice none 0 0, .slice none 0 0] 29)).ownsRow (w3.heap.size + 1) 29 6 (.slice (some ⟨w3.heap.size + 1, 0, none⟩) 1 1) 1 [.int .i64 9, .int .i64 0, .int .i64 0, .int .i64 0, .slice none 0 0, .slice none 0 0] := by
        have := World.ownsRow_lit (base := w3.heap.size + 1) (e := 29) (size := 6) (w3.alloc (.cells #[.int .i64 9, .int .i64 0, .int .i64 0, .int .i64 0, .slice none 0 0, .slice none 0 0] 29)) #[.int .i64 9, .int .i64 0, .int .i64 0, .int .i64 0, .slice none 0 0, .slice none 0 0] 1 (by simp) (by decide) rfl
        simpa using this
      have HN := Lib.hid hown
      have HO := Lib.hid hone
      have HX := Lib.hid hxl
      have HD := Lib.hid hdec
      have HS := Lib.hid hcell
      have S3 := Lib.hid s3
      clear hcell hone hxl hdec hown s3
      go_wp2_with (at_builtin; refine wpList_append_own _ rfl (.tmp 29) (.tmp 30) 23 rfl (w3.heap.size + 1) 29 i0 _ 6 80 Try.underlying23 hi hz0 hz1 hz2 rfl (by decide) _ _ _ rfl HN.out a L.len c1 xs rfl HX.out HC.out HO.out (by unfold maxLen; omega) (by omega) (by simp) ?_)
      intro v' w4 ho4 hg4 hn4
      obtain ⟨r4, cap4, rfl, hr40, hr41⟩ := own_some ho4 hn4
      have z4 : w3.heap.size + 2 ≤ w4.heap.size := by have := hg4.size; simpa using this
      have hk4 : ∀ k, k ≤ w3.heap.size → w4.heap[k]? = (w3.alloc (.cells #[.int .i64 9, .int .i64 0, .int .i64 0, .int .i64 0, .slice none 0 0, .slice none 0 0] 29)).heap[k]? := fun k hk => (hg4.block k (by simp; omega) (fun e => by simp [Value.ownBlock] at e; omega)).trans (Below.heap_alloc _ _ _ (by simp; omega))
      have b4 : Below w3.heap.size w3 w4 := ⟨hg4.os, hg4.tape, hg4.output, by omega, fun k hk => (hk4 k (by omega)).trans (Below.heap_alloc _ _ _ hk)⟩
      have hc5 : ∀ j, w4.cell? ⟨w3.heap.size, j, none⟩ = (#[.int .i64 9, .int .i64 0, .int .i64 0, .int .i64 0, .slice none 0 0, .slice none 0 0] : Array Value)[j]? := fun j => row_cell ((hk4 _ (Nat.le_refl _)).trans (new_row w3 _ _)) j
      have sx : SlP w4 (· < w4.heap.size) (.cons 9 0 0 0 .nil .nil L) (some ⟨r4, 0, none⟩) (1 + L.len) cap4 := sl_own ho4 ⟨none, 0, none, 0, xs, rfl, none_in _ _, none_in _ _, (HD.out.keep fun p hp => b4.cell hp.2).mono fun b hb => by have := hb.2; omega⟩ hr41
      have SX := Lib.hid sx
      clear ho4 hg4 hn4 hk4 HN HC sx
      have HC := Lib.hid (show ∀ j u, xs[j]? = some u → ((w4.alloc (.cells #[.int .i64 9, .int .i64 0, .int .i64 0, .int .i64 0, .slice none 0 0, .slice none 0 0] 29)).alloc (.cells #[.int .i64 8, .int .i64 0, .int .i64 0, .int .i64 0, .slice (some ⟨w4.heap.size, 0, none⟩) 1 1, .slice none 0 0] 29)).cell? (a.add j) = some u from fun j u h => by
        have := HS.out j u h
        have hlt := World.block_lt_of_cell? _ _ this
        rw [World.cell?_of_block (w := w3) (((Below.heap_alloc (w4.alloc (.cells #[.int .i64 9, .int .i64 0, .int .i64 0, .int .i64 0, .slice none 0 0, .slice none 0 0] 29)) _ _ (by simp; omega)).trans (Below.heap_alloc w4 _ _ (by omega))).trans (b4.block _ hlt))]; exact this)
      have hown : ((w4.alloc (.cells #[.int .i64 9, .int .i64 0, .int .i64 0, .int .i64 0, .slice none 0 0, .slice none 0 0] 29)).alloc (.cells #[.int .i64 8, .int .i64 0, .int .i64 0, .int .i64 0, .slice (some ⟨w4.heap.size, 0, none⟩) 1 1, .slice none 0 0] 29)).ownsRow (w4.heap.size + 1) 29 6 (.slice (some ⟨w4.heap.size + 1, 0, none⟩) 1 1) 1 [.int .i64 8, .int .i64 0, .int .i64 0, .int .i64 0, .slice (some ⟨w4.heap.size, 0, none⟩) 1 1, .slice none 0 0] := by
        have := World.ownsRow_lit (base := w4.heap.size + 1) (e := 29) (size := 6) (w4.alloc (.cells #[.int .i64 9, .int .i64 0, .int .i64 0, .int .i64 0, .slice none 0 0, .slice none 0 0] 29)) #[.int .i64 8, .int .i64 0, .int .i64 0, .int .i64 0, .slice (some ⟨w4.heap.size, 0, none⟩) 1 1, .slice none 0 0] 1 (by simp) (by decide) rfl
        simpa using this
      have HN := Lib.hid hown
      clear hown
      go_wp2_with (at_builtin; refine wpList_append_own _ rfl (.tmp 35) (.tmp 36) 23 rfl (w4.heap.size + 1) 29 i0 _ 6 80 Try.underlying23 hi hz0 hz1 hz2 rfl (by decide) _ _ _ rfl HN.out a L.len c1 xs rfl HX.out HC.out HO.out (by unfold maxLen; omega) (by omega) (by simp) ?_)
      intro v' w5 ho5 hg5 hn5
      obtain ⟨r5, cap5, rfl, hr50, hr51⟩ := own_some ho5 hn5
      have z5 : w4.heap.size + 2 ≤ w5.heap.size := by have := hg5.size; simpa using this
      have hk5 : ∀ k, k ≤ w4.heap.size → w5.heap[k]? = (w4.alloc (.cells #[.int .i64 9, .int .i64 0, .int .i64 0, .int .i64 0, .slice none 0 0, .slice none 0 0] 29)).heap[k]? := fun k hk => (hg5.block k (by simp; omega) (fun e => by simp [Value.ownBlock] at e; omega)).trans (Below.heap_alloc _ _ _ (by simp; omega))
      have b5 : Below w4.heap.size w4 w5 := ⟨hg5.os, hg5.tape, hg5.output, by omega, fun k hk => (hk5 k (by omega)).trans (Below.heap_alloc _ _ _ hk)⟩
      have hcB : ∀ j, w5.cell? ⟨w4.heap.size, j, none⟩ = (#[.int .i64 9, .int .i64 0, .int .i64 0, .int .i64 0, .slice none 0 0, .slice none 0 0] : Array Value)[j]? := fun j => row_cell ((hk5 _ (Nat.le_refl _)).trans (new_row w4 _ _)) j
      have sB : SlP w5 (· < w5.heap.size) (.cons 9 0 0 0 .nil .nil .nil) (some ⟨w4.heap.size, 0, none⟩) (SL.cons 9 0 0 0 .nil .nil .nil).len 1 := by
        refine ⟨rfl, Nat.le_refl _, by unfold maxLen; simp, (fun h => by cases h), fun p hp => ?_⟩
        obtain rfl : p = ⟨w4.heap.size, 0, none⟩ := by injection hp with h; exact h.symm
        refine Dec.atP (by omega) (xs := [.int .i64 9, .int .i64 0, .int .i64 0, .int .i64 0, .slice none 0 0, .slice none 0 0]) ⟨none, 0, none, 0, [], rfl, none_in _ _, none_in _ _, rfl⟩ fun j _ => ?_
        rw [Nat.zero_add, hcB]; simp
      have sy : SlP w5 (· < w5.heap.size) (.cons 8 0 0 0 (.cons 9 0 0 0 .nil .nil .nil) .nil L) (some ⟨r5, 0, none⟩) (1 + L.len) cap5 := sl_own ho5 ⟨_, _, none, 0, xs, rfl, sB, none_in _ _, (HD.out.keep fun p hp => (b5.cell (by have := hp.2; omega)).trans (b4.cell hp.2)).mono fun b hb => by have := hb.2; omega⟩ hr51
      have SY := Lib.hid sy
      have b35 : Below w3.heap.size w3 w5 := b4.trans (b5.mono b4.size)
      have b05 := b3.trans (b35.mono z3)
      have SX5 := Lib.hid ((SX.out.keep fun p hp => b5.cell hp).mono (T := (· < w5.heap.size)) fun b hb => by have := b5.size; omega)
      have S5 := Lib.hid (S3.out.born (Nat.le_refl _) b35)
      clear ho5 hg5 hn5 hk5 HN HC sy sB hcB hc5 SX S3
      go_wp2_with fail
      refine (stmtsOk (.cons 9 0 0 0 .nil .nil L) _ _ _ w5.heap.size w5 (SX5.out.sl fun b hb => hb) (Nat.le_refl _)).mono ?_
      rintro e w6 ⟨rfl, hb6⟩
      rw [show okP (.cons 9 0 0 0 .nil .nil L) = false from by simp [okP, okL_cons, show okS 9 0 0 0 .nil .nil 3 (-1) = false from by decide]]
      have z6 := hb6.size
      have S6 := Lib.hid (S5.out.born (Nat.le_refl _) hb6)
      have SY6 := Lib.hid ((SY.out.keep fun p hp => hb6.cell hp).mono (T := (· < w6.heap.size)) fun b hb => by omega)
      have b06 := b05.trans (hb6.mono b05.size)
      clear SX5 S5 SY hb6
      have HM := Lib.hid (show manyI L = L.size from if_pos HB.out)
      have hpos : (0 : Int) ≤ L.size := by omega
      go_wp2_with fail
      refine (stmtsMany L _ _ _ w6.heap.size w6 (S6.out.sl fun b hb => hb.2) (Nat.le_refl _)).mono ?_
      rintro e w7 ⟨rfl, hb7⟩
      rw [HM.out]
      have z7 := hb7.size
      have SY7 := Lib.hid ((SY6.out.keep fun p hp => hb7.cell hp).mono (T := (· < w7.heap.size)) fun b hb => by omega)
      have b07 := b06.trans (hb7.mono b06.size)
      clear SY6 hb7 S6
      by_cases h12 : 12 < L.size
      · have h12' : (12 : Int) < L.size := by omega
        go_wp2_with fail
        go_ret
        exact ⟨rfl, b07⟩
      · have h12' : ¬ (12 : Int) < L.size := by omega
        have hbo := HB.out
        have HY := Lib.hid (show okP (.cons 8 0 0 0 (.cons 9 0 0 0 .nil .nil .nil) .nil L) = true from by
          unfold okP at hbo ⊢
          rw [Bool.and_eq_true] at hbo ⊢
          refine ⟨decide_eq_true (by simp only [SL.size]; omega), ?_⟩
          rw [okL_cons, hbo.2, show okS 8 0 0 0 (.cons 9 0 0 0 .nil .nil .nil) .nil 3 (-1) = true from by decide]; rfl)
        clear hbo
        go_wp2_with fail
        refine (stmtsOk (.cons 8 0 0 0 (.cons 9 0 0 0 .nil .nil .nil) .nil L) _ _ _ w7.heap.size w7 (SY7.out.sl fun b hb => hb) (Nat.le_refl _)).mono ?_
        rintro e w8 ⟨rfl, hb8⟩
        rw [HY.out]
        go_wp2_with fail
        go_ret
        exact ⟨rfl, b07.trans (hb8.mono b07.size)⟩
end Go.Proofs.Ytlmgbpbiljnohaa
