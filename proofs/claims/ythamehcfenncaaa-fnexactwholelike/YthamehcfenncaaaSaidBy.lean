/- SaidBy of the program and of the model: both give the numbers of one speaker, in order, in new memory. -/
import Derived.Test.YthamehcfenncaaaIntEq
namespace Go.Proofs.Ythamehcfenncaaa
open Go.ChangeShapes Go.WideShapes Go.ChangeAt Go.RowKit

/-- What who said among the first k. -/
def saidK (xs : List Int) (who : Int) : Nat → List Int
  | 0 => []
  | k + 1 => if xs.getD (k * 2) 0 = who then saidK xs who k ++ [xs.getD (k * 2 + 1) 0] else saidK xs who k
theorem saidK_le (xs : List Int) (who : Int) (k : Nat) : (saidK xs who k).length ≤ k := by
  induction k with
  | zero => simp [saidK]
  | succ k ih =>
    unfold saidK
    split
    · simp; omega
    · omega
theorem saidK_yes {xs : List Int} {who : Int} {k : Nat} (h : xs.getD (k * 2) 0 = who) : saidK xs who (k + 1) = saidK xs who k ++ [xs.getD (k * 2 + 1) 0] := by rw [saidK, if_pos h]
theorem saidK_no {xs : List Int} {who : Int} {k : Nat} (h : ¬ xs.getD (k * 2) 0 = who) : saidK xs who (k + 1) = saidK xs who k := by rw [saidK, if_neg h]

theorem info_int : (Try.prog.info? 3).map (fun i => (i.zero, i.size, i.bytes)) = some (some (.int .i64 0), 1, 8) := by kernel_rfl

set_option maxRecDepth 100000 in
theorem specSaidBy {xs : List Int} {A : Option Addr} {n c : Nat} {S : Nat → Prop} {w : World} (who : Int) (hs : Fl w S 2 xs A n c) (hn : n ≤ 1048576) :
    Calls Try.prog 59 #[.slice A n c, .int .i64 who] w fun e w' => ∃ v, e = .returned v ∧ w'.ownsRow w.heap.size 3 1 v (saidK xs who n).length (ints (saidK xs who n)) ∧ Below w.heap.size w w' := by
  obtain ⟨i0, hi, hz0, hz1, hz2⟩ := info_parts info_int
  go_enter Try.func59, Try.ntmps59
  go_wp2_with fail
  go_loopw [5, 6] (fun v i wr => ∃ k : Nat, k ≤ n ∧ i = .int .i64 k ∧ wr.ownsRow w.heap.size 3 1 v (saidK xs who k).length (ints (saidK xs who k)) ∧ Below w.heap.size w wr) (fun _ i _ => n - (intOf i).toNat)
  case atStart =>
    refine ⟨0, Nat.zero_le _, rfl, ?_, (Below.refl _ _).alloc (Nat.le_refl _) _⟩
    exact World.ownsRow_lit (base := w.heap.size) (e := 3) (size := 1) w #[] 0 (Nat.le_refl _) (Nat.zero_le _) rfl
  case round =>
    obtain ⟨k, hk, rfl, hown, hb⟩ := hrel
    by_cases hlt : k < n
    · obtain ⟨a, rfl⟩ := hs.some (by omega)
      obtain ⟨c0, c1⟩ := (hs.later hb).two k hlt
      have hle := saidK_le xs who k
      have hsz := hb.size
      by_cases hw : xs.getD (k * 2) 0 = who
      · have HW := Lib.hid (saidK_yes hw)
        rw [hw] at c0
        generalize xs.getD (k * 2 + 1) 0 = y at c1 HW
        clear hw hs
        go_wp2_with (first | (at_builtin; refine wpList_append_own _ rfl _ _ 24 rfl w.heap.size 3 i0 (.int .i64 0) 1 8 Try.underlying24 hi hz0 hz1 hz2 rfl (by decide) _ _ _ rfl (hown.alloc _) ⟨wr.heap.size, 0, none⟩ 1 1 [.int .i64 y] rfl rfl ?c1 ?c2 ?c3 ?c4 ?c5 ?_) | fail)
        case c1 =>
          intro j u hj
          match j, hj with
          | 0, hj => simp at hj; subst hj; simp [Addr.add]
        case c2 => intro u hu; simp at hu; subst hu; rfl
        case c3 => unfold maxLen; omega
        case c4 => omega
        case c5 => simp; omega
        intro v' w1 hown' hgrow _
        have hbw : Below w.heap.size w w1 := (hb.alloc hsz _).grown hgrow (by simp; omega) (fun b hb' => (own_at hown hb').1)
        have e1 : ints (saidK xs who k) ++ [Value.int .i64 y] = ints (saidK xs who (k + 1)) := by rw [HW.out, ints_app]; rfl
        have e2 : (saidK xs who k).length + 1 = (saidK xs who (k + 1)).length := by rw [HW.out]; simp
        rw [e1, e2] at hown'
        have HO := Lib.hid hown'
        clear hown' hown hgrow e1 e2 c0 c1 hle
        go_wp2_with fail
        go_roundw
        case rel => exact ⟨k + 1, by omega, by go_num, HO.out, hbw⟩
        case measure => simp [intOf]; omega
      · have HW := Lib.hid (saidK_no hw)
        generalize xs.getD (k * 2) 0 = x at c0 hw
        clear hs c1
        have hne : (x == who) = false := by simpa using hw
        clear hw
        go_wp2_with fail
        go_roundw
        case rel => exact ⟨k + 1, by omega, by go_num, by rw [HW.out]; exact hown, hb⟩
        case measure => simp [intOf]; omega
    · obtain rfl : k = n := by omega
      go_wp2_with fail
      go_ret
      exact ⟨_, rfl, hown, hb⟩

set_option maxRecDepth 100000 in
theorem saidBy {xs : List Int} {A : Option Addr} {n c : Nat} {S : Nat → Prop} {w : World} (who : Int) (hs : Fl w S 2 xs A n c) (hn : n ≤ 1048576) :
    Calls Try.prog 64 #[.slice A n c, .int .i64 who] w fun e w' => ∃ v, e = .returned v ∧ w'.ownsRow w.heap.size 3 1 v (saidK xs who n).length (ints (saidK xs who n)) ∧ Below w.heap.size w w' := by
  obtain ⟨i0, hi, hz0, hz1, hz2⟩ := info_parts info_int
  go_enter Try.func64, Try.ntmps64
  go_wp2_with fail
  go_loopw [5, 10] (fun v i wr => ∃ k : Nat, k ≤ n ∧ i = .int .i64 k ∧ wr.ownsRow w.heap.size 3 1 v (saidK xs who k).length (ints (saidK xs who k)) ∧ Below w.heap.size w wr) (fun _ i _ => n - (intOf i).toNat)
  case atStart => exact ⟨0, Nat.zero_le _, rfl, World.ownsRow_nil _ _ _ _, Below.refl _ _⟩
  case round =>
    obtain ⟨k, hk, rfl, hown, hb⟩ := hrel
    by_cases hlt : k < n
    · obtain ⟨a, rfl⟩ := hs.some (by omega)
      obtain ⟨c0, c1⟩ := (hs.later hb).two k hlt
      have hle := saidK_le xs who k
      have hsz := hb.size
      by_cases hw : xs.getD (k * 2) 0 = who
      · have HW := Lib.hid (saidK_yes hw)
        rw [hw] at c0
        generalize xs.getD (k * 2 + 1) 0 = y at c1 HW
        clear hw hs
        go_wp2_with (first | (at_builtin; refine wpList_append_own _ rfl _ _ 24 rfl w.heap.size 3 i0 (.int .i64 0) 1 8 Try.underlying24 hi hz0 hz1 hz2 rfl (by decide) _ _ _ rfl ((hown.alloc _).alloc _) ⟨wr.heap.size + 1, 0, none⟩ 1 1 [.int .i64 y] rfl rfl ?c1 ?c2 ?c3 ?c4 ?c5 ?_) | fail)
        case c1 =>
          intro j u hj
          match j, hj with
          | 0, hj => simp at hj; subst hj; simp [Addr.add]
        case c2 => intro u hu; simp at hu; subst hu; rfl
        case c3 => unfold maxLen; omega
        case c4 => omega
        case c5 => simp; omega
        intro v' w1 hown' hgrow _
        have hbw : Below w.heap.size w w1 := ((hb.alloc hsz _).alloc (by simp; omega) _).grown hgrow (by simp; omega) (fun b hb' => (own_at hown hb').1)
        have e1 : ints (saidK xs who k) ++ [Value.int .i64 y] = ints (saidK xs who (k + 1)) := by rw [HW.out, ints_app]; rfl
        have e2 : (saidK xs who k).length + 1 = (saidK xs who (k + 1)).length := by rw [HW.out]; simp
        rw [e1, e2] at hown'
        have HO := Lib.hid hown'
        clear hown' hown hgrow e1 e2 c0 c1 hle
        go_wp2_with fail
        go_roundw
        case rel => exact ⟨k + 1, by omega, by go_num, HO.out, hbw⟩
        case measure => simp [intOf]; omega
      · have HW := Lib.hid (saidK_no hw)
        generalize xs.getD (k * 2) 0 = x at c0 hw
        have hne : (x == who) = false := by simpa using hw
        clear hw hs
        go_wp2_with fail
        go_roundw
        case rel => exact ⟨k + 1, by omega, by go_num, by rw [HW.out]; exact hown.alloc _, hb.alloc hsz _⟩
        case measure => simp [intOf]; omega
    · obtain rfl : k = n := by omega
      go_wp2_with fail
      go_ret
      exact ⟨_, rfl, hown, hb⟩
end Go.Proofs.Ythamehcfenncaaa
