/- Copies of numbers and of what was said: every new block is a plain row (written by tools/gen_news.py). -/
import Derived.Test.YtkiekabfmdcemaaIntsTo
import Derived.Test.YtkiekabfmdcemaaSayTo
import Derived.Test.YtkiekabfmdcemaaCopyN
namespace Go.Proofs.Ytkiekabfmdcemaa
open Go.ChangeShapes Go.WideShapes Go.ChangeAt Go.RowKit

set_option maxRecDepth 100000 in
/-- A copy, in new memory. -/
theorem toIntSN {xs : List Int} {A : Option Addr} {n c : Nat} {S : Nat → Prop} {w : World} (hs : Fl w S 1 xs A n c) (hn : n ≤ 1048576) :
    Calls Try.prog 32 #[.slice A n c] w fun e w' => ∃ v, e = .returned v ∧ w'.ownsRow w.heap.size 3 1 v n (ints xs) ∧ Below w.heap.size w w' ∧ News w w' := by
  have hl := hs.len
  rw [Nat.mul_one] at hl
  have hmk := fun W => make_Int n hn W
  go_enter Try.func32, Try.ntmps32
  go_wp2_with fail
  go_loopw [4] (fun i wr => ∃ k : Nat, k ≤ n ∧ i = .int .i64 k ∧ wr.ownsRow w.heap.size 3 1 (.slice (some ⟨w.heap.size, 0, none⟩) n n) n (ints (cop1 xs k)) ∧ Below w.heap.size w wr ∧ Go.RowKit.Hid (News w wr)) (fun i _ => n - (intOf i).toNat)
  case atStart =>
    refine ⟨0, Nat.zero_le _, rfl, ?_, (Below.refl _ _).alloc (Nat.le_refl _) _, Lib.hid ((News.refl w).alloc _ _)⟩
    have := World.ownsRow_lit (base := w.heap.size) (e := 3) (size := 1) w (madeCells #[.int .i64 0] (n * 1)) n (Nat.le_refl _) (by unfold maxLen; omega) (size_madeCells _ _)
    rw [made1] at this
    rw [Nat.mul_one] at this
    rw [cop1_zero, hl]
    exact this
  case round =>
    clear hmk
    obtain ⟨k, hk, rfl, hown, hb, HNW⟩ := hrel
    by_cases hlt : k < n
    · obtain ⟨a, rfl⟩ := hs.some (by omega)
      have c0 := (hs.later hb).one k hlt
      have hz := cop1_len xs k (by omega)
      have q0 := hown.cellAt k (by omega)
      rw [ints_get (by omega)] at q0
      have z0 := hown.frozenAt k
      have s1 := hown.stored k (.int .i64 (xs.getD k 0))
      rw [ints_set, cop1_set xs k (by omega)] at s1
      have b2 := hb.setCell (p := ⟨w.heap.size, k, none⟩) (Nat.le_refl _) (.int .i64 (xs.getD k 0))
      have S2 := Lib.hid s1
      have B2 := Lib.hid b2
      clear s1 b2 hown hz hs hl
      generalize xs.getD k 0 = x at *
      go_wp2_with fail
      go_roundw
      case rel => exact ⟨k + 1, by omega, by go_num, S2.out.1, B2.out, Lib.hid (HNW.out.set _ _ _)⟩
      case measure => simp [intOf]; omega
    · obtain rfl : k = n := by omega
      go_wp2_with fail
      go_ret
      refine ⟨_, rfl, ?_, hb, HNW.out⟩
      rw [← hl, cop1_all] at hown
      rw [← hl]
      exact hown

set_option maxRecDepth 100000 in
theorem toSayN (x y : Int) (w : World) :
    Calls Try.prog 62 #[.agg #[.int .i64 x, .int .i64 y]] w fun e w' => e = .returned (.agg #[.int .i64 x, .int .i64 y]) ∧ Below w.heap.size w w' ∧ News w w' := by
  go_enter Try.func62, Try.ntmps62
  go_wp2
  have hz2 : w.heap.size ≤ w.heap.size + 1 + 1 := by omega
  refine bodyPost_ret (v := .agg #[.int .i64 x, .int .i64 y]) (by simp [results, Try.results62, go_sem]) rfl ⟨rfl, ?_, (((News.refl w).alloc _ _).alloc _ _).alloc _ _⟩
  exact (((Below.refl _ _).alloc (Nat.le_refl _) _).alloc (by simp) _).alloc (by simp only [World.size_alloc]; exact hz2) _


set_option maxRecDepth 100000 in
/-- A copy, in new memory. -/
theorem toSaySN {xs : List Int} {A : Option Addr} {n c : Nat} {S : Nat → Prop} {w : World} (hs : Fl w S 2 xs A n c) (hn : n ≤ 1048576) :
    Calls Try.prog 34 #[.slice A n c] w fun e w' => ∃ v, e = .returned v ∧ w'.ownsRow w.heap.size 81 2 v n (ints xs) ∧ Below w.heap.size w w' ∧ News w w' := by
  have hl := hs.len
  have hmk := fun W => make_Say n hn W
  go_enter Try.func34, Try.ntmps34
  go_wp2_with fail
  go_loopw [4] (fun i wr => ∃ k : Nat, k ≤ n ∧ i = .int .i64 k ∧ wr.ownsRow w.heap.size 81 2 (.slice (some ⟨w.heap.size, 0, none⟩) n n) n (ints (cop xs (k * 2))) ∧ Below w.heap.size w wr ∧ Go.RowKit.Hid (News w wr)) (fun i _ => n - (intOf i).toNat)
  case atStart =>
    refine ⟨0, Nat.zero_le _, rfl, ?_, (Below.refl _ _).alloc (Nat.le_refl _) _, Lib.hid ((News.refl w).alloc _ _)⟩
    have := World.ownsRow_lit (base := w.heap.size) (e := 81) (size := 2) w (madeCells #[.int .i64 0, .int .i64 0] (n * 2)) n (Nat.le_refl _) (by unfold maxLen; omega) (size_madeCells _ _)
    rw [made2] at this
    rw [Nat.zero_mul, cop_zero, hl]
    exact this
  case round =>
    clear hmk
    obtain ⟨k, hk, rfl, hown, hb, HNW⟩ := hrel
    by_cases hlt : k < n
    · obtain ⟨a, rfl⟩ := hs.some (by omega)
      obtain ⟨c0, c1⟩ := (hs.later hb).two k hlt
      have HOWN := Lib.hid hown
      have HL := Lib.hid hl
      clear hown hl
      go_wp2_with fail
      refine (toSayN _ _ _).mono ?_
      rintro e w1 ⟨rfl, hb1, hn1⟩
      have HN1 := Lib.hid (HNW.out.trans hn1 hb1)
      clear hn1
      have hown1 := own_below HOWN.out hb1
      have hz := cop_len xs (k * 2) (by rw [HL.out]; omega)
      have hl := HL.out
      have q0 := hown1.cellAt (k * 2) (by omega)
      have q1 := hown1.cellAt (k * 2 + 1) (by omega)
      rw [ints_get (by omega)] at q0 q1
      have z0 := hown1.frozenAt (k * 2)
      have z1 := hown1.frozenAt (k * 2 + 1)
      have s1 := hown1.stored (k * 2) (.int .i64 (xs.getD (k * 2) 0))
      rw [ints_set, cop_set xs (k * 2) (by omega)] at s1
      have s2 := s1.1.stored (k * 2 + 1) (.int .i64 (xs.getD (k * 2 + 1) 0))
      rw [ints_set, cop_set xs (k * 2 + 1) (by omega)] at s2
      have b1 : Below w.heap.size w w1 := hb.trans (hb1.mono hb.size)
      have b2 := (b1.setCell (p := ⟨w.heap.size, k * 2, none⟩) (Nat.le_refl _) (.int .i64 (xs.getD (k * 2) 0))).setCell (p := ⟨w.heap.size, k * 2 + 1, none⟩) (Nat.le_refl _) (.int .i64 (xs.getD (k * 2 + 1) 0))
      simp only [List.getD_eq_getElem?_getD] at s2 b2
      have S2 := Lib.hid s2
      have B2 := Lib.hid b2
      clear s1 s2 b2 hown1 hz hl c0 c1 hs
      go_wp2_with fail
      go_roundw
      case rel => exact ⟨k + 1, by omega, by go_num, (show (k + 1) * 2 = k * 2 + 1 + 1 by omega) ▸ S2.out.1, B2.out, Lib.hid ((HN1.out.set _ _ _).set _ _ _)⟩
      case measure => simp [intOf]; omega
    · obtain rfl : k = n := by omega
      go_wp2_with fail
      go_ret
      refine ⟨_, rfl, ?_, hb, HNW.out⟩
      rw [← hl, cop_all] at hown
      exact hown


end Go.Proofs.Ytkiekabfmdcemaa
