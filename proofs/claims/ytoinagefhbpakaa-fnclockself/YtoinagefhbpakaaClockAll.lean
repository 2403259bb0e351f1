/- ClockJoin of the program and of the model: both give the join of two clocks in new memory. -/
import Derived.Test.YtoinagefhbpakaaClockUnd
import Derived.Deep.AppendLies
namespace Go.Proofs.Ytoinagefhbpakaa
open Go.ChangeShapes Go.WideShapes Go.ChangeAt Go.RowKit

theorem info_int : (Try.prog.info? 3).map (fun i => (i.zero, i.size, i.bytes)) = some (some (.int .i64 0), 1, 8) := by kernel_rfl
theorem joinK_succ (xs ys : List Int) (k : Nat) : joinK xs ys (k + 1) = joinK xs ys k ++ [max (nAt xs k) (nAt ys k)] := rfl

/-- The first k of a join in a row of noughts. -/
def jpad (xs ys : List Int) (n k : Nat) : List Int := joinK xs ys k ++ List.replicate (n - k) 0
theorem jpad_len (xs ys : List Int) (n k : Nat) (h : k ≤ n) : (jpad xs ys n k).length = n := by simp [jpad, joinK_len]; omega
theorem jpad_set (xs ys : List Int) (n k : Nat) (h : k < n) : (jpad xs ys n k).set k (max (nAt xs k) (nAt ys k)) = jpad xs ys n (k + 1) := by
  unfold jpad
  rw [List.set_append_right _ _ (by rw [joinK_len]; omega), joinK_len, Nat.sub_self, joinK_succ, List.append_assoc]
  congr 1
  have : n - k = (n - (k + 1)) + 1 := by omega
  rw [this, List.replicate_succ, List.set_cons_zero]
  rfl

set_option maxRecDepth 100000 in
theorem specClockJoin {xs ys : List Int} {A B : Option Addr} {n c m d : Nat} {S T : Nat → Prop} {w : World} (hs : Fl w S 1 xs A n c) (ht : Fl w T 1 ys B m d) (hn : n ≤ 1048576) (hm : m ≤ 1048576) :
    Calls Try.prog 11 #[.slice A n c, .slice B m d] w fun e w' => ∃ v, e = .returned v ∧ w'.ownsRow w.heap.size 3 1 v (joinL xs ys).length (ints (joinL xs ys)) ∧ Below w.heap.size w w' := by
  obtain ⟨i0, hi, hz0, hz1, hz2⟩ := info_parts info_int
  have hl := hs.len
  rw [Nat.mul_one] at hl
  have HL := Lib.hid hl
  have hl2 := ht.len
  rw [Nat.mul_one] at hl2
  have HL2 := Lib.hid hl2
  clear hl hl2
  have HJ := Lib.hid (show joinL xs ys = joinK xs ys (max n m) by rw [← HL.out, ← HL2.out]; rfl)
  rw [HJ.out, joinK_len]
  go_enter Try.func11, Try.ntmps11
  go_wp2_with fail
  go_loopw [5, 6, 7] (fun v i _ wr => ∃ k : Nat, k ≤ max n m ∧ i = .int .i64 k ∧ wr.ownsRow w.heap.size 3 1 v k (ints (joinK xs ys k)) ∧ Below w.heap.size w wr) (fun _ i _ _ => max n m - (intOf i).toNat)
  case atStart =>
    refine ⟨0, Nat.zero_le _, rfl, ?_, (Below.refl _ _).alloc (Nat.le_refl _) _⟩
    exact World.ownsRow_lit (base := w.heap.size) (e := 3) (size := 1) w #[] 0 (Nat.le_refl _) (Nat.zero_le _) rfl
  case round =>
    obtain ⟨k, hk, rfl, hown, hb⟩ := hrel
    have hsz := hb.size
    by_cases hn' : k < n
    · by_cases hm' : k < m
      · skip
        obtain ⟨a, rfl⟩ := hs.some (by omega)
        have c0 := (hs.later hb).one k hn'
        have X := Lib.hid (nAt_of (xs := xs) (i := k) (by have := HL.out; omega))
        generalize xs.getD k 0 = x at *
        obtain ⟨a', rfl⟩ := ht.some (by omega)
        have d0 := (ht.later hb).one k hm'
        have Y := Lib.hid (nAt_of (xs := ys) (i := k) (by have := HL2.out; omega))
        generalize ys.getD k 0 = y at *
        obtain ⟨z, hz⟩ : ∃ z, max (nAt xs k) (nAt ys k) = z := ⟨_, rfl⟩
        have hv : max (max x y) 0 = z := by rw [← hz, X.out, Y.out]; omega
        clear X Y
        go_wp2_with fail
        refine (l1Max x y _).mono ?_
        rintro e w0 ⟨rfl, rfl⟩
        go_wp2_with fail
        refine (l1Max (max x y) 0 _).mono ?_
        rintro e w0 ⟨rfl, rfl⟩
        have HV := Lib.hid (hv)
        clear hv
        rw [HV.out]
        clear HV
        have HZ := Lib.hid hz
        clear hz
        go_wp2_with (first | (at_builtin; refine wpList_append_own _ rfl _ _ 22 rfl w.heap.size 3 i0 (.int .i64 0) 1 8 Try.underlying22 hi hz0 hz1 hz2 rfl (by decide) _ _ _ rfl (hown.alloc _) ⟨w0.heap.size, 0, none⟩ 1 1 [.int .i64 z] rfl rfl ?c1 ?c2 ?c3 ?c4 ?c5 ?_) | fail)
        case c1 =>
          intro j u hj
          match j, hj with
          | 0, hj => simp at hj; subst hj; simp [Addr.add]
        case c2 => intro u hu; simp at hu; subst hu; rfl
        case c3 => unfold maxLen; omega
        case c4 => omega
        case c5 => simp; omega
        intro v' w1 hown' hgrow _
        have hbw : Below w.heap.size w w1 := (hb.alloc hsz _).grown hgrow (by simp; omega) (fun b hb' => (own_at hown hb').1)
        have e1 : ints (joinK xs ys k) ++ [Value.int .i64 z] = ints (joinK xs ys (k + 1)) := by rw [joinK_succ, HZ.out, ints_app]; rfl
        rw [e1] at hown'
        have HO := Lib.hid hown'
        clear hown' hown hgrow e1
        go_wp2_with fail
        go_roundw
        case rel => exact ⟨k + 1, by omega, by go_num, HO.out, hbw⟩
        case measure => simp [intOf]; omega
      · skip
        obtain ⟨a, rfl⟩ := hs.some (by omega)
        have c0 := (hs.later hb).one k hn'
        have X := Lib.hid (nAt_of (xs := xs) (i := k) (by have := HL.out; omega))
        generalize xs.getD k 0 = x at *
        have Y := Lib.hid (nAt_out (xs := ys) (i := k) (by have := HL2.out; omega))
        obtain ⟨z, hz⟩ : ∃ z, max (nAt xs k) (nAt ys k) = z := ⟨_, rfl⟩
        have hv : max x 0 = z := by rw [← hz, X.out, Y.out]; omega
        clear X Y
        go_wp2_with fail
        refine (l1Max x 0 _).mono ?_
        rintro e w0 ⟨rfl, rfl⟩
        have HV := Lib.hid (hv)
        clear hv
        rw [HV.out]
        clear HV
        have HZ := Lib.hid hz
        clear hz
        go_wp2_with (first | (at_builtin; refine wpList_append_own _ rfl _ _ 22 rfl w.heap.size 3 i0 (.int .i64 0) 1 8 Try.underlying22 hi hz0 hz1 hz2 rfl (by decide) _ _ _ rfl (hown.alloc _) ⟨w0.heap.size, 0, none⟩ 1 1 [.int .i64 z] rfl rfl ?c1 ?c2 ?c3 ?c4 ?c5 ?_) | fail)
        case c1 =>
          intro j u hj
          match j, hj with
          | 0, hj => simp at hj; subst hj; simp [Addr.add]
        case c2 => intro u hu; simp at hu; subst hu; rfl
        case c3 => unfold maxLen; omega
        case c4 => omega
        case c5 => simp; omega
        intro v' w1 hown' hgrow _
        have hbw : Below w.heap.size w w1 := (hb.alloc hsz _).grown hgrow (by simp; omega) (fun b hb' => (own_at hown hb').1)
        have e1 : ints (joinK xs ys k) ++ [Value.int .i64 z] = ints (joinK xs ys (k + 1)) := by rw [joinK_succ, HZ.out, ints_app]; rfl
        rw [e1] at hown'
        have HO := Lib.hid hown'
        clear hown' hown hgrow e1
        go_wp2_with fail
        go_roundw
        case rel => exact ⟨k + 1, by omega, by go_num, HO.out, hbw⟩
        case measure => simp [intOf]; omega
    · by_cases hm' : k < m
      · skip
        have X := Lib.hid (nAt_out (xs := xs) (i := k) (by have := HL.out; omega))
        obtain ⟨a', rfl⟩ := ht.some (by omega)
        have d0 := (ht.later hb).one k hm'
        have Y := Lib.hid (nAt_of (xs := ys) (i := k) (by have := HL2.out; omega))
        generalize ys.getD k 0 = y at *
        obtain ⟨z, hz⟩ : ∃ z, max (nAt xs k) (nAt ys k) = z := ⟨_, rfl⟩
        have hv : max (max 0 y) 0 = z := by rw [← hz, X.out, Y.out]; omega
        clear X Y
        go_wp2_with fail
        refine (l1Max 0 y _).mono ?_
        rintro e w0 ⟨rfl, rfl⟩
        go_wp2_with fail
        refine (l1Max (max 0 y) 0 _).mono ?_
        rintro e w0 ⟨rfl, rfl⟩
        have HV := Lib.hid (hv)
        clear hv
        rw [HV.out]
        clear HV
        have HZ := Lib.hid hz
        clear hz
        go_wp2_with (first | (at_builtin; refine wpList_append_own _ rfl _ _ 22 rfl w.heap.size 3 i0 (.int .i64 0) 1 8 Try.underlying22 hi hz0 hz1 hz2 rfl (by decide) _ _ _ rfl (hown.alloc _) ⟨w0.heap.size, 0, none⟩ 1 1 [.int .i64 z] rfl rfl ?c1 ?c2 ?c3 ?c4 ?c5 ?_) | fail)
        case c1 =>
          intro j u hj
          match j, hj with
          | 0, hj => simp at hj; subst hj; simp [Addr.add]
        case c2 => intro u hu; simp at hu; subst hu; rfl
        case c3 => unfold maxLen; omega
        case c4 => omega
        case c5 => simp; omega
        intro v' w1 hown' hgrow _
        have hbw : Below w.heap.size w w1 := (hb.alloc hsz _).grown hgrow (by simp; omega) (fun b hb' => (own_at hown hb').1)
        have e1 : ints (joinK xs ys k) ++ [Value.int .i64 z] = ints (joinK xs ys (k + 1)) := by rw [joinK_succ, HZ.out, ints_app]; rfl
        rw [e1] at hown'
        have HO := Lib.hid hown'
        clear hown' hown hgrow e1
        go_wp2_with fail
        go_roundw
        case rel => exact ⟨k + 1, by omega, by go_num, HO.out, hbw⟩
        case measure => simp [intOf]; omega
      · obtain rfl : k = max n m := by omega
        go_wp2_with fail
        go_ret
        exact ⟨_, rfl, hown, hb⟩

set_option maxRecDepth 100000 in
theorem implClockJoin {xs ys : List Int} {A B : Option Addr} {n c m d : Nat} {S T : Nat → Prop} {w : World} (hs : Fl w S 1 xs A n c) (ht : Fl w T 1 ys B m d) (hn : n ≤ 1048576) (hm : m ≤ 1048576) :
    Calls Try.prog 13 #[.slice A n c, .slice B m d] w fun e w' => ∃ v, e = .returned v ∧ w'.ownsRow w.heap.size 3 1 v (joinL xs ys).length (ints (joinL xs ys)) ∧ Below w.heap.size w w' := by
  have hl := hs.len
  rw [Nat.mul_one] at hl
  have HL := Lib.hid hl
  have hl2 := ht.len
  rw [Nat.mul_one] at hl2
  have HL2 := Lib.hid hl2
  clear hl hl2
  have HJ := Lib.hid (show joinL xs ys = joinK xs ys (max n m) by rw [← HL.out, ← HL2.out]; rfl)
  rw [HJ.out, joinK_len]
  by_cases hnm : n < m
  all_goals
    obtain ⟨M, hM⟩ : ∃ M, max n m = M := ⟨_, rfl⟩
    have hM1 : M ≤ 1048576 := by omega
    rw [hM]
    have hMM : M = (if n < m then m else n) := by split <;> omega
  · rw [if_pos hnm] at hMM
    subst hMM
    have hmk := fun W => make_Int M hm W
    go_enter Try.func13, Try.ntmps13
    go_wp2_with fail
    go_loopw [6, 15] (fun _ i wr => ∃ k : Nat, k ≤ M ∧ i = .int .i64 k ∧ wr.ownsRow w.heap.size 3 1 (.slice (some ⟨w.heap.size, 0, none⟩) M M) M (ints (jpad xs ys M k)) ∧ Below w.heap.size w wr) (fun _ i _ => M - (intOf i).toNat)
    case atStart =>
      refine ⟨0, Nat.zero_le _, rfl, ?_, (Below.refl _ _).alloc (Nat.le_refl _) _⟩
      have := World.ownsRow_lit (base := w.heap.size) (e := 3) (size := 1) w (madeCells #[.int .i64 0] (M * 1)) M (Nat.le_refl _) (by unfold maxLen; omega) (size_madeCells _ _)
      rw [made1] at this
      rw [Nat.mul_one] at this
      exact this
    case round =>
      clear hmk
      obtain ⟨k, hk, rfl, hown, hb⟩ := hrel
      by_cases hlt : k < M
      · have hz := jpad_len xs ys M k hk
        have q0 := hown.cellAt k (by omega)
        rw [ints_get (by omega)] at q0
        have z0 := hown.frozenAt k
        have s1 := hown.stored k (.int .i64 (max (nAt xs k) (nAt ys k)))
        rw [ints_set, jpad_set xs ys M k hlt] at s1
        have b2 := hb.setCell (p := ⟨w.heap.size, k, none⟩) (Nat.le_refl _) (.int .i64 (max (nAt xs k) (nAt ys k)))
        have S2 := Lib.hid s1
        have B2 := Lib.hid b2
        have HNA := Lib.hid (numberAt_ (hs.later hb) k (by omega))
        have HNB := Lib.hid (numberAt_ (ht.later hb) k (by omega))
        clear s1 b2 hown hz
        obtain ⟨x, hx⟩ : ∃ x, nAt xs k = x := ⟨_, rfl⟩
        obtain ⟨y, hy⟩ : ∃ y, nAt ys k = y := ⟨_, rfl⟩
        rw [hx] at HNA S2 B2
        rw [hy] at HNB S2 B2
        clear hx hy
        by_cases hxy : x < y
        · rw [show max x y = y by omega] at S2 B2
          go_wp2_with fail
          refine HNA.out.mono ?_
          rintro e w0 ⟨rfl, rfl⟩
          go_wp2_with fail
          refine HNB.out.mono ?_
          rintro e w0 ⟨rfl, rfl⟩
          go_wp2_with fail
          go_roundw
          case rel => exact ⟨k + 1, by omega, by go_num, S2.out.1, B2.out⟩
          case measure => simp [intOf]; omega
        · rw [show max x y = x by omega] at S2 B2
          go_wp2_with fail
          refine HNA.out.mono ?_
          rintro e w0 ⟨rfl, rfl⟩
          go_wp2_with fail
          refine HNB.out.mono ?_
          rintro e w0 ⟨rfl, rfl⟩
          go_wp2_with fail
          go_roundw
          case rel => exact ⟨k + 1, by omega, by go_num, S2.out.1, B2.out⟩
          case measure => simp [intOf]; omega
      · obtain rfl : k = M := by omega
        have HO := Lib.hid hown
        clear hown
        go_wp2_with fail
        go_ret
        refine ⟨_, rfl, ?_, hb⟩
        have hown := HO.out
        unfold jpad at hown
        rw [Nat.sub_self, List.replicate_zero, List.append_nil] at hown
        exact hown
  · rw [if_neg hnm] at hMM
    subst hMM
    have hmk := fun W => make_Int M hn W
    go_enter Try.func13, Try.ntmps13
    go_wp2_with fail
    go_loopw [6, 15] (fun _ i wr => ∃ k : Nat, k ≤ M ∧ i = .int .i64 k ∧ wr.ownsRow w.heap.size 3 1 (.slice (some ⟨w.heap.size, 0, none⟩) M M) M (ints (jpad xs ys M k)) ∧ Below w.heap.size w wr) (fun _ i _ => M - (intOf i).toNat)
    case atStart =>
      refine ⟨0, Nat.zero_le _, rfl, ?_, (Below.refl _ _).alloc (Nat.le_refl _) _⟩
      have := World.ownsRow_lit (base := w.heap.size) (e := 3) (size := 1) w (madeCells #[.int .i64 0] (M * 1)) M (Nat.le_refl _) (by unfold maxLen; omega) (size_madeCells _ _)
      rw [made1] at this
      rw [Nat.mul_one] at this
      exact this
    case round =>
      clear hmk
      obtain ⟨k, hk, rfl, hown, hb⟩ := hrel
      by_cases hlt : k < M
      · have hz := jpad_len xs ys M k hk
        have q0 := hown.cellAt k (by omega)
        rw [ints_get (by omega)] at q0
        have z0 := hown.frozenAt k
        have s1 := hown.stored k (.int .i64 (max (nAt xs k) (nAt ys k)))
        rw [ints_set, jpad_set xs ys M k hlt] at s1
        have b2 := hb.setCell (p := ⟨w.heap.size, k, none⟩) (Nat.le_refl _) (.int .i64 (max (nAt xs k) (nAt ys k)))
        have S2 := Lib.hid s1
        have B2 := Lib.hid b2
        have HNA := Lib.hid (numberAt_ (hs.later hb) k (by omega))
        have HNB := Lib.hid (numberAt_ (ht.later hb) k (by omega))
        clear s1 b2 hown hz
        obtain ⟨x, hx⟩ : ∃ x, nAt xs k = x := ⟨_, rfl⟩
        obtain ⟨y, hy⟩ : ∃ y, nAt ys k = y := ⟨_, rfl⟩
        rw [hx] at HNA S2 B2
        rw [hy] at HNB S2 B2
        clear hx hy
        by_cases hxy : x < y
        · rw [show max x y = y by omega] at S2 B2
          go_wp2_with fail
          refine HNA.out.mono ?_
          rintro e w0 ⟨rfl, rfl⟩
          go_wp2_with fail
          refine HNB.out.mono ?_
          rintro e w0 ⟨rfl, rfl⟩
          go_wp2_with fail
          go_roundw
          case rel => exact ⟨k + 1, by omega, by go_num, S2.out.1, B2.out⟩
          case measure => simp [intOf]; omega
        · rw [show max x y = x by omega] at S2 B2
          go_wp2_with fail
          refine HNA.out.mono ?_
          rintro e w0 ⟨rfl, rfl⟩
          go_wp2_with fail
          refine HNB.out.mono ?_
          rintro e w0 ⟨rfl, rfl⟩
          go_wp2_with fail
          go_roundw
          case rel => exact ⟨k + 1, by omega, by go_num, S2.out.1, B2.out⟩
          case measure => simp [intOf]; omega
      · obtain rfl : k = M := by omega
        have HO := Lib.hid hown
        clear hown
        go_wp2_with fail
        go_ret
        refine ⟨_, rfl, ?_, hb⟩
        have hown := HO.out
        unfold jpad at hown
        rw [Nat.sub_self, List.replicate_zero, List.append_nil] at hown
        exact hown
end Go.Proofs.Ytoinagefhbpakaa
