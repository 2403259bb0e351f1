/- CodeOf of the model. -/
import Derived.Test.YtnfnjhbaaefbpaaGreatDoorCodeSpec
import Derived.Test.YtnfnjhbaaefbpaaGreatDoorStmtsSpec
namespace Go.Proofs.YtnfnjhbaaefbpaaGreatDoor
open Go.ChangeShapes Go.WideShapes Go.ChangeAt Go.RowKit

set_option maxRecDepth 100000 in
theorem specCodeOf (L : SL) (hL : L.size ≤ 1048576) (A : Option Addr) (n c M : Nat) (w : World) (hs : Sl w M L A n c) (hM : M ≤ w.heap.size) :
    Calls Tryz.prog 9 #[.slice A n c] w fun e w' => ∃ v, e = .returned v ∧ w'.ownsRow w.heap.size 34 4 v (if okP L then L.lenC + 1 else 0) (ints (if okP L then codeP L else [])) ∧ Below w.heap.size w w' := by
  obtain ⟨i0, hi, hz0, hz1, hz2⟩ := info_parts info_Ins'
  have hst := specStmtsOk L hL A n c M w hs hM
  cases hk : okP L
  · rw [hk] at hst
    have HST := Lib.hid hst
    clear hst hk
    simp only [Bool.false_eq_true, if_false]
    go_enter Tryz.func9, Tryz.ntmps9
    go_wp2_with fail
    refine HST.out.mono ?_
    rintro e w1 ⟨rfl, b1⟩
    go_wp2_with fail
    go_ret
    exact ⟨_, rfl, World.ownsRow_lit (base := w.heap.size) (e := 34) (size := 4) w1 #[] 0 b1.size (Nat.zero_le _) rfl, b1.alloc b1.size _⟩
  · rw [hk] at hst
    have HST := Lib.hid hst
    obtain ⟨h14, _⟩ := okP_size hk
    have hlc := lenC_le L
    clear hst hk
    simp only [if_true]
    go_enter Tryz.func9, Tryz.ntmps9
    go_wp2_with fail
    refine HST.out.mono ?_
    rintro e w1 ⟨rfl, b1⟩
    have z1 := b1.size
    have hof := specOf L A n c M 0 w1 (hs.below (b1.mono hM)) (by omega) (by omega)
    have HOF := Lib.hid hof
    clear hof
    go_wp2_with fail
    refine HOF.out.mono ?_
    rintro e w2 ⟨v, rfl, cd, b2⟩
    have z2 := b2.size
    obtain ⟨ho, g, cg, rfl⟩ := cd
    have g2 := own_at ho (b := g) rfl
    have al := ho.alloc (.cells #[.int .i64 13, .int .i64 0, .int .i64 0, .int .i64 0] 34)
    have AL := Lib.hid al
    clear al ho
    go_wp2_with (first | (at_builtin; refine wpList_append_own _ rfl _ _ 25 rfl w1.heap.size 34 i0 (.agg #[.int .i64 0, .int .i64 0, .int .i64 0, .int .i64 0]) 4 32 Tryz.underlying25 hi hz0 hz1 hz2 rfl (by decide) _ _ _ rfl AL.out ⟨w2.heap.size, 0, none⟩ 1 1 (ints [13, 0, 0, 0]) rfl rfl ?c1 (ints_one _) ?c3 ?c4 ?c5 ?_) | fail)
    case c1 => exact lit_cells _ _ _
    case c3 => unfold maxLen; omega
    case c4 => omega
    case c5 => simp; omega
    intro v4 w4 ho4 hg4 _
    rw [← ints_app] at ho4
    have ba : Below w2.heap.size w2 (w2.alloc (.cells #[.int .i64 13, .int .i64 0, .int .i64 0, .int .i64 0] 34)) := (Below.refl _ _).alloc (Nat.le_refl _) _
    have b4 : Below w1.heap.size w1 w4 := (b2.trans (ba.mono (by omega))).grown hg4 (by simp; omega) (fun b hb' => by simp [Value.ownBlock] at hb'; omega)
    have HO4 := Lib.hid ho4
    clear ho4 hg4 AL ba
    go_wp2_with fail
    go_ret
    exact ⟨_, rfl, own_mono HO4.out (by omega), b1.trans (b4.mono (by omega))⟩
end Go.Proofs.YtnfnjhbaaefbpaaGreatDoor
