/- The laws' count, copy and comparison of what was said. -/
import Derived.Test.YthamehcfenncaaaIntEq
import Derived.StillTailTactics
namespace Go.Proofs.Ythamehcfenncaaa
open Go.ChangeShapes Go.WideShapes Go.ChangeAt Go.RowKit

theorem szSayS (A : Option Addr) (n c : Nat) (left : Int) (w : World) (hn : n ≤ maxLen) (h0 : 0 ≤ left) (h1 : left ≤ 1048576) :
    Calls Try.prog 57 #[.slice A n c, .int .i64 left] w fun e w' => e = .returned (.int .i64 (if (n : Int) ≤ left then left - n else -1)) ∧ w' = w := by
  unfold maxLen at hn
  by_cases h : (n : Int) ≤ left
  · go_enter Try.func57, Try.ntmps57
    go_wp2
    go_ret
    exact ⟨rfl, rfl⟩
  · go_enter Try.func57, Try.ntmps57
    go_wp2
    go_ret
    exact ⟨rfl, rfl⟩

set_option maxRecDepth 100000 in
theorem toSay (x y : Int) (w : World) :
    Calls Try.prog 81 #[.agg #[.int .i64 x, .int .i64 y]] w fun e w' => e = .returned (.agg #[.int .i64 x, .int .i64 y]) ∧ Below w.heap.size w w' := by
  go_enter Try.func81, Try.ntmps81
  go_wp2
  have hz2 : w.heap.size ≤ w.heap.size + 1 + 1 := by omega
  refine bodyPost_ret (v := .agg #[.int .i64 x, .int .i64 y]) (by simp [results, Try.results81, go_sem]) rfl ⟨rfl, ?_⟩
  exact (((Below.refl _ _).alloc (Nat.le_refl _) _).alloc (by simp) _).alloc (by simp only [World.size_alloc]; exact hz2) _

set_option maxRecDepth 100000 in
theorem eqSay (x y : Int) (w : World) :
    Calls Try.prog 83 #[.agg #[.int .i64 x, .int .i64 y], .agg #[.int .i64 x, .int .i64 y]] w fun e w' => e = .returned (.bool true) ∧ Below w.heap.size w w' := by
  go_enter Try.func83, Try.ntmps83
  go_wp2
  go_ret
  exact ⟨rfl, ((Below.refl _ _).alloc (Nat.le_refl _) _).alloc (by simp) _⟩

theorem info_Say : (Try.prog.info? 126).map (fun i => (i.zero, i.size, i.bytes)) = some (some (.agg #[.int .i64 0, .int .i64 0]), 2, 16) := by kernel_rfl

theorem make_Say (n : Nat) (hn : n ≤ 1048576) (w : World) : (Instr.makeSlice 64 (.int .i64 (n : Int)) (.int .i64 (n : Int))).run Try.prog w =
    .ok (.slice (some ⟨w.heap.size, 0, none⟩) n n) (w.alloc (.cells (madeCells #[.int .i64 0, .int .i64 0] (n * 2)) 126)) := by
  have hi := info_Say
  obtain ⟨i, hi0, hi1⟩ := Option.map_eq_some_iff.1 hi
  simp only [Prod.mk.injEq] at hi1
  obtain ⟨e0, e1, e2⟩ := hi1
  have h := run_make (P := Try.prog) w 64 126 i _ Try.underlying64 hi0 e0 .i64 .i64 (n : Int) (n : Int) (by omega) (by omega) (by rw [e2]; omega) (by omega)
  rw [e1] at h
  simp only [Int.toNat_natCast] at h
  exact h

/-- The first i cells copied into a row of noughts. -/
def cop (xs : List Int) (i : Nat) : List Int := xs.take i ++ List.replicate (xs.length - i) 0
theorem cop_zero (xs : List Int) : cop xs 0 = List.replicate xs.length 0 := by simp [cop]
theorem cop_all (xs : List Int) : cop xs xs.length = xs := by simp [cop]
theorem cop_len (xs : List Int) (i : Nat) (h : i ≤ xs.length) : (cop xs i).length = xs.length := by simp [cop]; omega
theorem cop_set (xs : List Int) (i : Nat) (h : i < xs.length) : (cop xs i).set i (xs.getD i 0) = cop xs (i + 1) := by
  unfold cop
  rw [List.set_append_right _ _ (by simp; omega), List.length_take, Nat.min_eq_left (by omega), Nat.sub_self]
  have : xs.length - i = (xs.length - (i + 1)) + 1 := by omega
  rw [this, List.replicate_succ, List.set_cons_zero, List.take_add_one, List.getElem?_eq_getElem h, List.append_assoc]
  congr 1
  simp [List.getD, h]

theorem made2 (n : Nat) : (madeCells #[.int .i64 0, .int .i64 0] (n * 2)).toList = ints (List.replicate (n * 2) 0) := by
  apply List.ext_getElem?
  intro j
  by_cases hj : j < n * 2
  · have : j % 2 = 0 ∨ j % 2 = 1 := by omega
    rcases this with h | h <;> simp [madeCells, hj, ints, h]
  · simp [madeCells, hj, ints]

set_option maxRecDepth 100000 in
/-- A copy, in new memory. -/
theorem toSayS {xs : List Int} {A : Option Addr} {n c : Nat} {S : Nat → Prop} {w : World} (hs : Fl w S 2 xs A n c) (hn : n ≤ 1048576) :
    Calls Try.prog 62 #[.slice A n c] w fun e w' => ∃ v, e = .returned v ∧ w'.ownsRow w.heap.size 126 2 v n (ints xs) ∧ Below w.heap.size w w' := by
  have hl := hs.len
  have hmk := fun W => make_Say n hn W
  go_enter Try.func62, Try.ntmps62
  go_wp2_with fail
  go_loopw [4] (fun i wr => ∃ k : Nat, k ≤ n ∧ i = .int .i64 k ∧ wr.ownsRow w.heap.size 126 2 (.slice (some ⟨w.heap.size, 0, none⟩) n n) n (ints (cop xs (k * 2))) ∧ Below w.heap.size w wr) (fun i _ => n - (intOf i).toNat)
  case atStart =>
    refine ⟨0, Nat.zero_le _, rfl, ?_, (Below.refl _ _).alloc (Nat.le_refl _) _⟩
    have := World.ownsRow_lit (base := w.heap.size) (e := 126) (size := 2) w (madeCells #[.int .i64 0, .int .i64 0] (n * 2)) n (Nat.le_refl _) (by unfold maxLen; omega) (size_madeCells _ _)
    rw [made2] at this
    rw [Nat.zero_mul, cop_zero, hl]
    exact this
  case round =>
    clear hmk
    obtain ⟨k, hk, rfl, hown, hb⟩ := hrel
    by_cases hlt : k < n
    · obtain ⟨a, rfl⟩ := hs.some (by omega)
      obtain ⟨c0, c1⟩ := (hs.later hb).two k hlt
      have HOWN := Lib.hid hown
      have HL := Lib.hid hl
      clear hown hl
      go_wp2_with fail
      refine (toSay _ _ _).mono ?_
      rintro e w1 ⟨rfl, hb1⟩
      have hown1 := own_below HOWN.out hb1
      have hz := cop_len xs (k * 2) (by rw [HL.out]; omega)
      have hl := HL.out
      have q0 := hown1.cellAt (k * 2) (by omega)
      have q1 := hown1.cellAt (k * 2 + 1) (by omega)
      rw [ints_get (by omega)] at q0 q1
      have z0 := hown1.frozenAt (k * 2)
      have z1 := hown1.frozenAt (k * 2 + 1)
      have s1 := hown1.stored (k * 2) (.int .i64 (xs.getD (k * 2) 0))
      rw [ints_set, cop_set xs (k * 2) (by omega)] at s1
      have s2 := s1.1.stored (k * 2 + 1) (.int .i64 (xs.getD (k * 2 + 1) 0))
      rw [ints_set, cop_set xs (k * 2 + 1) (by omega)] at s2
      have b1 : Below w.heap.size w w1 := hb.trans (hb1.mono hb.size)
      have b2 := (b1.setCell (p := ⟨w.heap.size, k * 2, none⟩) (Nat.le_refl _) (.int .i64 (xs.getD (k * 2) 0))).setCell (p := ⟨w.heap.size, k * 2 + 1, none⟩) (Nat.le_refl _) (.int .i64 (xs.getD (k * 2 + 1) 0))
      simp only [List.getD_eq_getElem?_getD] at s2 b2
      have S2 := Lib.hid s2
      have B2 := Lib.hid b2
      clear s1 s2 b2 hown1 hz hl c0 c1 hs
      go_wp2_with fail
      go_roundw
      case rel => exact ⟨k + 1, by omega, by go_num, (show (k + 1) * 2 = k * 2 + 1 + 1 by omega) ▸ S2.out.1, B2.out⟩
      case measure => simp [intOf]; omega
    · obtain rfl : k = n := by omega
      go_wp2_with fail
      go_ret
      refine ⟨_, rfl, ?_, hb⟩
      rw [← hl, cop_all] at hown
      exact hown

set_option maxRecDepth 100000 in
theorem eqSayS {xs : List Int} {A A' : Option Addr} {n c n' c' : Nat} {S T : Nat → Prop} {w : World} (hs : Fl w S 2 xs A n c) (ht : Fl w T 2 xs A' n' c') :
    Calls Try.prog 67 #[.slice A n c, .slice A' n' c'] w fun e w' => e = .returned (.bool true) ∧ Below w.heap.size w w' := by
  obtain rfl : n = n' := by have := hs.len; have := ht.len; omega
  have hmax : n ≤ 9223372036854775807 := by have := hs.le; have := hs.top; unfold maxLen at this; omega
  go_enter Try.func67, Try.ntmps67
  go_wp2_with fail
  go_loopw [5] (fun i wr => ∃ k : Nat, k ≤ n ∧ i = .int .i64 k ∧ Below w.heap.size w wr) (fun i _ => n - (intOf i).toNat)
  case atStart => exact ⟨0, Nat.zero_le _, rfl, Below.refl _ _⟩
  case round =>
    obtain ⟨k, hk, rfl, hb⟩ := hrel
    by_cases hlt : k < n
    · obtain ⟨a, rfl⟩ := hs.some (by omega)
      obtain ⟨b, rfl⟩ := ht.some (by omega)
      obtain ⟨c0, c1⟩ := (hs.later hb).two k hlt
      obtain ⟨d0, d1⟩ := (ht.later hb).two k hlt
      have hsz := hb.size
      go_wp2_with fail
      go_still_tail 8, (by kernel_rfl)
      change wpList _ _ _ _ _ wr.drew
      have hdr : Below wr.heap.size wr wr.drew := (Below.refl _ _).drew
      go_wp2_with fail
      refine (eqSay _ _ _).mono ?_
      rintro e w1 ⟨rfl, hb1⟩
      have hb1' : Below wr.heap.size wr w1 := hdr.trans hb1
      clear hb1 hdr
      go_wp2_with fail
      go_roundw
      case rel => exact ⟨k + 1, by omega, by go_num, hb.trans (hb1'.mono hsz)⟩
      case measure => simp [intOf]; omega
    · go_wp2_with fail
      go_ret
      exact ⟨rfl, hb⟩
end Go.Proofs.Ythamehcfenncaaa
