/- PROVED: laws.FnCodeEnd returns true for every input, and its argument and the table that it reads read as before, where the table holds what the program's text lays there (the card ties it). -/
import Derived.Test.YtapckfapkhnbgaaGreatDoorCodeOkPure
import Derived.Test.YtapckfapkhnbgaaGreatDoorIns
import Derived.Test.YtapckfapkhnbgaaGreatDoorSpecRooms
import Derived.Test.YtapckfapkhnbgaaGreatDoorDrawC
import Derived.Test.YtapckfapkhnbgaaGreatDoorCodeBoth2
import Derived.Test.YtapckfapkhnbgaaGreatDoorCodeSame
import Derived.Test.YtapckfapkhnbgaaGreatDoorImplCodeOk
import Derived.Test.YtapckfapkhnbgaaGreatDoorRows
import Derived.WalkKit
import Derived.ProofKit
import Derived.OpenShut
import Derived.Below
import Derived.Carry
import Derived.Test.YtapckfapkhnbgaaGreatDoorOpen
import Derived.Test.YtapckfapkhnbgaaGreatDoorEmitStmts
import Derived.LaidMore
import Derived.ChangeVars
import Derived.Stop.Joined
import Derived.Test.YtapckfapkhnbgaaGreatDoorTie
import Derived.Test.YtapckfapkhnbgaaGreatDoorCards
import Derived.SevenTiedAt
/- The model's checks of one instruction: l4Ins. -/
namespace Go.Proofs.YtapckfapkhnbgaaGreatDoor
open Go.ChangeShapes Go.WideShapes Go.ChangeAt Go.RowKit

set_option maxRecDepth 100000 in
set_option maxHeartbeats 8000000 in
theorem specIns (o a b t : Int) (m : Nat) (w : World) :
    Calls Tryz.prog 20 #[.agg #[.int .i64 o, .int .i64 a, .int .i64 b, .int .i64 t], .int .i64 m] w fun e w' => e = .returned (.bool (insB o a b t m)) ∧ Below w.heap.size w w' := by
  have hb : ∀ i : Int, o = i → (1 ≤ i ∧ i ≤ 5) → insB o a b t m = leafB o a b t (-1) := fun i h1 h2 => by unfold insB; rw [if_pos (by omega)]
  have hk : (o = 1 ∨ o = 2 ∨ o = 3 ∨ o = 4 ∨ o = 5) ∨ o = 6 ∨ o = 7 ∨ o = 8 ∨ o = 9 ∨ o = 10 ∨ o = 11 ∨ o = 12 ∨ o = 13 ∨ (o ≠ 1 ∧ o ≠ 2 ∧ o ≠ 3 ∧ o ≠ 4 ∧ o ≠ 5 ∧ o ≠ 6 ∧ o ≠ 7 ∧ o ≠ 8 ∧ o ≠ 9 ∧ o ≠ 10 ∧ o ≠ 11 ∧ o ≠ 12 ∧ o ≠ 13) := by omega
  rcases hk with h5 | hk
  · have hl : insB o a b t m = leafB o a b t (-1) := by unfold insB; rw [if_pos (by omega)]
    rw [hl]
    clear hb hl
    have HL := Lib.hid (fun W => specLeaf o a b t (-1) (.slice none 0 0) (.slice none 0 0) W)
    rcases h5 with rfl | rfl | rfl | rfl | rfl
    all_goals
      go_enter Tryz.func20, Tryz.ntmps20
      go_wp2_with (go_at_call 49; refine (HL.out _).mono ?_; rintro e w' ⟨rfl, hb1⟩)
      all_goals
        go_ret
        refine ⟨rfl, ?_⟩
        first
          | exact ((Below.refl _ _).alloc (Nat.le_refl _) _).trans (hb1.mono (by simp))
          | exact hb1
  · clear hb
    rcases hk with rfl | rfl | rfl | rfl | rfl | rfl | rfl | rfl | ⟨h1, h2, h3, h4, h5, h6, h7, h8, h9, h10, h11, h12, h13⟩
    case inr.inr.inr.inr.inr.inr.inr.inr =>
      have hf : insB o a b t m = false := by unfold insB; rw [if_neg (by omega), if_neg h6, if_neg h7, if_neg (by omega), if_neg (by omega)]
      rw [hf]
      clear hf
      go_enter Tryz.func20, Tryz.ntmps20
      go_wp2
      all_goals
        go_ret
        refine ⟨rfl, ?_⟩
        repeat' (first | exact Below.refl _ _ | (refine Below.alloc ?_ (by first | exact Nat.le_refl _ | (simp; done) | (simp; omega)) _))
    all_goals
      go_enter Tryz.func20, Tryz.ntmps20
      go_wp2
      all_goals
        go_ret
        refine ⟨retB ?_, ?_⟩
        · rw [Bool.eq_iff_iff]
          simp [insB, *] <;> omega
        · repeat' (first | exact Below.refl _ _ | (refine Below.alloc ?_ (by first | exact Nat.le_refl _ | (simp; done) | (simp; omega)) _))
end Go.Proofs.YtapckfapkhnbgaaGreatDoor

/- CodeOk of the model. -/
namespace Go.Proofs.YtapckfapkhnbgaaGreatDoor
open Go.ChangeShapes Go.WideShapes Go.ChangeAt Go.RowKit

set_option maxRecDepth 100000 in
set_option maxHeartbeats 4000000 in
theorem specCodeOk {xs : List Int} {A : Option Addr} {n c : Nat} {S : Nat → Prop} {w : World} (hs : Fl w S 4 xs A n c) :
    Calls Tryz.prog 7 #[.slice A n c] w fun e w' => e = .returned (.bool (codeB xs n)) ∧ Below w.heap.size w w' := by
  have hmax : n ≤ 9223372036854775807 := by have := hs.le; have := hs.top; unfold maxLen at this; omega
  by_cases hn : 1 ≤ n ∧ n ≤ 60
  · obtain ⟨hn1, hn60⟩ := hn
    have hl := hs.len
    obtain ⟨a, rfl⟩ := hs.some (by omega)
    by_cases hend : opC xs (n - 1) = 13
    · have ce := (hs.four (n - 1) (by omega)).1
      rw [show xs.getD ((n - 1) * 4) 0 = 13 from hend] at ce
      obtain ⟨m, rfl⟩ : ∃ m, n = m + 1 := ⟨n - 1, by omega⟩
      rw [show m + 1 - 1 = m from rfl] at ce hend
      have HEND := Lib.hid hend
      have HL := Lib.hid hl
      clear hend hl hn1
      go_enter Tryz.func7, Tryz.ntmps7
      go_wp2_with fail
      go_loopw [4] (fun i wr => ∃ k : Nat, k ≤ m + 1 ∧ i = .int .i64 k ∧ (∀ j, j < k → insB (opC xs j) (aC xs j) (bC xs j) (toC xs j) (m + 1) = true ∧ (opC xs j = 13 → j = m)) ∧ Below w.heap.size w wr) (fun i _ => m + 1 - (intOf i).toNat)
      case atStart => exact ⟨0, Nat.zero_le _, rfl, fun j hj => by omega, Below.refl _ _⟩
      case round =>
        obtain ⟨k, hk, rfl, hd, hb⟩ := hrel
        have HD := Lib.hid hd
        have hsz := hb.size
        clear hd ce
        by_cases hlt : k < m + 1
        · obtain ⟨c0, c1, c2, c3⟩ := (hs.later hb).four k hlt
          have hin := fun W => specIns (xs.getD (k * 4) 0) (xs.getD (k * 4 + 1) 0) (xs.getD (k * 4 + 2) 0) (xs.getD (k * 4 + 3) 0) (m + 1) W
          have e0 : opC xs k = xs.getD (k * 4) 0 := rfl
          have e1 : insB (opC xs k) (aC xs k) (bC xs k) (toC xs k) (m + 1) = insB (xs.getD (k * 4) 0) (xs.getD (k * 4 + 1) 0) (xs.getD (k * 4 + 2) 0) (xs.getD (k * 4 + 3) 0) (m + 1) := rfl
          generalize hbb : insB (xs.getD (k * 4) 0) (xs.getD (k * 4 + 1) 0) (xs.getD (k * 4 + 2) 0) (xs.getD (k * 4 + 3) 0) (m + 1) = bb at hin e1
          clear hbb
          generalize xs.getD (k * 4) 0 = x0 at c0 hin e0
          generalize xs.getD (k * 4 + 1) 0 = x1 at c1 hin
          generalize xs.getD (k * 4 + 2) 0 = x2 at c2 hin
          generalize xs.getD (k * 4 + 3) 0 = x3 at c3 hin
          have ba := World.block_lt_of_cell? _ _ c0
          have C0 := Lib.hid (fun (W : World) (hW : Below wr.heap.size wr W) => (hW.cell ba).trans c0)
          cases bb
          · have hf : codeB xs (m + 1) = false := codeB_not hlt (fun h => by rw [e1] at h; cases h.1)
            have HF := Lib.hid hf
            have HI := Lib.hid hin
            clear hf hin e0 e1
            go_wp2_with fail
            refine (HI.out _).mono ?_
            rintro e w1 ⟨rfl, hb1⟩
            go_wp2_with fail
            go_ret
            exact ⟨by rw [HF.out]; rfl, hb.trans (hb1.mono hsz)⟩
          · have HI := Lib.hid hin
            have E1 := Lib.hid e1
            clear hin e1
            by_cases h13 : x0 = 13
            · by_cases hkl : k = m
              · have hn : ∀ j, j < k + 1 → insB (opC xs j) (aC xs j) (bC xs j) (toC xs j) (m + 1) = true ∧ (opC xs j = 13 → j = m) := fun j hj => by
                  by_cases e : j = k
                  · subst e; exact ⟨E1.out, fun _ => by omega⟩
                  · exact HD.out j (by omega)
                have HN := Lib.hid hn
                have hge : ¬ (k : Int) < (m : Int) := by omega
                subst h13
                clear hn e0 hkl
                go_wp2_with fail
                refine (HI.out _).mono ?_
                rintro e w1 ⟨rfl, hb1⟩
                have d0 := C0.out w1 hb1
                clear c0 c1 c2 c3
                go_wp2_with fail
                go_roundw
                case rel => exact ⟨k + 1, by omega, by go_num, HN.out, hb.trans (hb1.mono hsz)⟩
                case measure => simp [intOf]; omega
              · have hf : codeB xs (m + 1) = false := codeB_not hlt (fun h => by have := h.2.1 (e0.trans h13); omega)
                have HF := Lib.hid hf
                subst h13
                clear hf e0
                have hkm : (k : Int) < (m : Int) := by omega
                go_wp2_with fail
                refine (HI.out _).mono ?_
                rintro e w1 ⟨rfl, hb1⟩
                have d0 := C0.out w1 hb1
                clear c0 c1 c2 c3
                go_wp2_with fail
                go_ret
                exact ⟨by rw [HF.out]; rfl, hb.trans (hb1.mono hsz)⟩
            · have hn : ∀ j, j < k + 1 → insB (opC xs j) (aC xs j) (bC xs j) (toC xs j) (m + 1) = true ∧ (opC xs j = 13 → j = m) := fun j hj => by
                by_cases e : j = k
                · subst e; exact ⟨E1.out, fun h => absurd (e0.symm.trans h) h13⟩
                · exact HD.out j (by omega)
              have HN := Lib.hid hn
              have h13' : (x0 == 13) = false := by simpa using h13
              clear hn e0 h13
              go_wp2_with fail
              refine (HI.out _).mono ?_
              rintro e w1 ⟨rfl, hb1⟩
              have d0 := C0.out w1 hb1
              clear c0 c1 c2 c3
              go_wp2_with fail
              go_roundw
              case rel => exact ⟨k + 1, by omega, by go_num, HN.out, hb.trans (hb1.mono hsz)⟩
              case measure => simp [intOf]; omega
        · have hright : Right xs (m + 1) := by
            refine ⟨HL.out, by omega, hn60, fun i hi => (HD.out i (by omega)).1, fun i hi => ⟨fun h => by have := (HD.out i (by omega)).2 h; omega, fun h => ?_⟩⟩
            obtain rfl : i = m := by omega
            exact HEND.out
          have hc := codeB_right hright
          have hro := specRooms (hs.later hb) hright
          have HC := Lib.hid hc
          have HRO := Lib.hid hro
          clear hc hro hright
          go_wp2_with fail
          refine HRO.out.mono ?_
          rintro e w1 ⟨⟨v, rfl⟩, hb1⟩
          go_wp2_with fail
          go_ret
          exact ⟨by rw [HC.out]; rfl, hb.trans (hb1.mono hsz)⟩
    · have hf : codeB xs n = false := codeB_not (i := n - 1) (by omega) (fun h => hend (h.2.2 (by omega)))
      rw [hf]
      have ce := (hs.four (n - 1) (by omega)).1
      have hx : opC xs (n - 1) = xs.getD ((n - 1) * 4) 0 := rfl
      rw [hx] at hend
      obtain ⟨m, rfl⟩ : ∃ m, n = m + 1 := ⟨n - 1, by omega⟩
      rw [show m + 1 - 1 = m from rfl] at ce hend
      clear hf hx hl hn1
      generalize xs.getD (m * 4) 0 = y at ce hend
      have hy : (y != 13) = true := by simpa using hend
      have hg1 : decide ((m : Int) + 1 < 1) = false := decide_eq_false (by omega)
      have hg2 : decide ((60 : Int) < (m : Int) + 1) = false := decide_eq_false (by omega)
      clear hend
      go_enter Tryz.func7, Tryz.ntmps7
      go_wp2_with fail
      go_ret
      exact ⟨rfl, Below.refl _ _⟩
  · rw [codeB_few hn]
    have hn' : n < 1 ∨ 60 < n := by omega
    clear hn
    rcases hn' with h | h
    · obtain rfl : n = 0 := by omega
      go_enter Tryz.func7, Tryz.ntmps7
      go_wp2
      go_ret
      exact ⟨rfl, Below.refl _ _⟩
    · go_enter Tryz.func7, Tryz.ntmps7
      go_wp2
      go_ret
      exact ⟨rfl, Below.refl _ _⟩
end Go.Proofs.YtapckfapkhnbgaaGreatDoor

/- The walk of laws.FnCodeEnd. -/
namespace Go.Proofs.YtapckfapkhnbgaaGreatDoor
open Go.ChangeShapes Go.WideShapes Go.ChangeAt Go.RowKit

theorem codeB_last {xs : List Int} {n : Nat} (h : codeB xs n = true) : (1 ≤ n ∧ n ≤ 60) ∧ ∀ i, i < n → insB (opC xs i) (aC xs i) (bC xs i) (toC xs i) n = true ∧ (opC xs i = 13 ↔ i + 1 = n) := by
  unfold codeB at h
  rw [Bool.and_eq_true, Bool.and_eq_true] at h
  exact ⟨of_decide_eq_true h.1.1, of_decide_eq_true h.1.2⟩

theorem implNil (w : World) (h0 : 0 < w.heap.size) (hop : Ops w) :
    Calls Tryz.prog 9 #[.slice none 0 0] w fun e w' => ∃ A c, e = .returned (.slice A 1 c) ∧ Fl w' (fun _ => True) 4 [13, 0, 0, 0] A 1 c ∧ Below w.heap.size w w' := by
  refine (implCode (L := .nil) (Sl.none w w.heap.size 0 (Nat.zero_le _)) (Nat.le_refl _) h0 hop).mono ?_
  rintro e w' ⟨v, rfl, ho, hb⟩
  have ho' : w'.ownsRow w.heap.size 29 4 v 1 (ints [13, 0, 0, 0]) := ho
  obtain ⟨A, c, rfl⟩ := own_slice4 ho'
  exact ⟨A, c, rfl, own_fl4 ho', hb⟩

set_option maxRecDepth 100000 in
set_option maxHeartbeats 4000000 in
theorem wFnCodeEnd (A : Option Addr) (n c : Nat) (w : World) (h : Bytes w A n) (hn : n ≤ c) (hc : c ≤ maxLen) (h0 : 0 < w.heap.size) (hop : Ops w) :
    Calls Tryz.prog 3 #[.slice A n c] w fun e w' => e = .returned (.bool true) ∧ Below w.heap.size w w' := by
  have HOP := Lib.hid hop
  clear hop
  by_cases hl : 1048576 < n
  · go_enter Tryz.func3, Tryz.ntmps3
    go_wp2
    go_ret
    exact ⟨rfl, Below.refl _ _⟩
  · go_enter Tryz.func3, Tryz.ntmps3
    go_wp2_with fail
    refine (drawCodeOk A n c _ h hn hc).mono ?_
    rintro e w1 ⟨ys, m, AC, cC, rfl, o1, hm, b1⟩
    have z1 := b1.size
    have f1 := own_fl4 o1
    clear o1
    go_wp2_with fail
    refine (codeOk f1).mono ?_
    rintro e w2 ⟨rfl, hb2⟩
    have z2 := hb2.size
    have b2 := b1.trans (hb2.mono z1)
    have f2 := f1.later hb2
    clear f1 hb2
    obtain ⟨d, hd⟩ : ∃ d, codeB ys m = d := ⟨_, rfl⟩
    have HSP := Lib.hid (fun (W : World) (f : Fl W (fun _ => True) 4 ys AC m cC) => hd ▸ specCodeOk f)
    rw [hd]
    have HD := Lib.hid hd
    clear hd
    go_wp2_with fail
    refine (HSP.out w2 f2).mono ?_
    rintro e w3 ⟨rfl, hb3⟩
    have z3 := hb3.size
    have b3 := b2.trans (hb3.mono (by omega))
    have f3 := f2.later hb3
    clear f2 hb3
    have hdd : (d != d) = false := by simp
    go_wp2_with fail
    refine (implNil w3 (by omega) (HOP.out.below b3 h0)).mono ?_
    rintro e w4 ⟨A4, c4, rfl, g4, hb4⟩
    have z4 := hb4.size
    have b4 := b3.trans (hb4.mono (by omega))
    have f4 := f3.later hb4
    clear f3 hb4
    go_wp2_with fail
    have bn : Below w4.heap.size w4 (w4.alloc (.cells #[.int .i64 13, .int .i64 0, .int .i64 0, .int .i64 0] 29)) := (Below.refl _ _).alloc (Nat.le_refl _) _
    refine (codeSame (g4.later bn) (one4 (new_row w4 _ _))).mono ?_
    rintro e w5 ⟨rfl, hb5⟩
    have z5 := hb5.size
    have b5 := (b4.trans (bn.mono (by omega))).trans (hb5.mono (by simp; omega))
    have f5 := (f4.later bn).later hb5
    have z45 : w4.heap.size ≤ w5.heap.size := by simp at z5; omega
    rw [decide_eq_true rfl]
    clear f4 g4 hb5 bn z5
    cases d
    · go_wp2_with fail
      refine (HSP.out w5 f5).mono ?_
      rintro e w6 ⟨rfl, hb6⟩
      have z6 := hb6.size
      have b6 := b5.trans (hb6.mono (by omega))
      clear hb6
      go_wp2_with fail
      refine (implNil w6 (by omega) (HOP.out.below b6 h0)).mono ?_
      rintro e w7 ⟨A7, c7, rfl, g7, hb7⟩
      have z7 := hb7.size
      have b7 := b6.trans (hb7.mono (by omega))
      clear hb7
      go_wp2_with fail
      have bn : Below w7.heap.size w7 (w7.alloc (.cells #[.int .i64 13, .int .i64 0, .int .i64 0, .int .i64 0] 29)) := (Below.refl _ _).alloc (Nat.le_refl _) _
      refine (codeSame (g7.later bn) (one4 (new_row w7 _ _))).mono ?_
      rintro e w8 ⟨rfl, hb8⟩
      have b8 := (b7.trans (bn.mono (by omega))).trans (hb8.mono (by simp; omega))
      rw [decide_eq_true rfl]
      clear g7 hb8 bn
      go_wp2_with fail
      go_ret
      exact ⟨rfl, b8⟩
    · have HL := Lib.hid (codeB_last HD.out).2
      go_wp2_with fail
      go_loopw [5] (fun i wr => ∃ k : Nat, k ≤ m ∧ i = .int .i64 k ∧ w5 = wr) (fun i _ => m - (intOf i).toNat)
      case atStart => exact ⟨0, Nat.zero_le _, rfl, rfl⟩
      case round =>
        obtain ⟨k, hk, rfl, rfl⟩ := hrel
        by_cases hkm : k < m
        · obtain ⟨a, rfl⟩ := f5.some (by omega)
          obtain ⟨c0, _, _, _⟩ := f5.four k hkm
          have hiff : (ys.getD (k * 4) 0 = 13 ↔ k + 1 = m) := (HL.out k hkm).2
          generalize ys.getD (k * 4) 0 = x at c0 hiff
          by_cases hx : x = 13
          · have h2 := hiff.1 hx
            have e2 : ((k : Int) == (m : Int) - 1) = true := by rw [beq_iff_eq]; omega
            subst hx
            clear hiff
            go_wp2_with fail
            go_roundw
            case rel => exact ⟨k + 1, by omega, by go_num, trivial⟩
            case measure => simp [intOf]; omega
          · have h2 : ¬ k + 1 = m := fun e => hx (hiff.2 e)
            have e1 : (x == 13) = false := by simp [hx]
            have e2 : ((k : Int) == (m : Int) - 1) = false := by rw [beq_eq_false_iff_ne]; omega
            clear hiff hx
            go_wp2_with fail
            go_roundw
            case rel => exact ⟨k + 1, by omega, by go_num, trivial⟩
            case measure => simp [intOf]; omega
        · go_wp2_with fail
          go_ret
          exact ⟨rfl, b5⟩
end Go.Proofs.YtapckfapkhnbgaaGreatDoor

/- From a walk to the statement: the row's last step where nothing old has turned, whatever came in. -/
namespace Go.Proofs.YtapckfapkhnbgaaGreatDoor
open Go.ChangeShapes Go.WideShapes Go.ChangeAt Go.RowKit

theorem own : ownKnob Tryz.prog.godebug = none := by kernel_rfl
theorem laidOut : laidOutB Tryz.prog = true := by kernel_rfl

section
variable {H : Type} {enc : TypeId × Value → H}

variable {P : Program}
/-- The row's last step where below the heap's old size nothing has turned. -/
theorem post_below {f : Func} {s : ChangeSpec} {apart fresh handsOn again : Bool} {W W' : World} {args : Array Value} {v : Value} {ds gs : List (DataW H)} {before pa pv : List MemPlace}
    (hW : DataW.Whole enc P f.params.toList s.vars apart W args.toList ds gs before)
    (hres : ∀ (b : Nat) (sp : Nat → Bool) (hd : Bool), DataW.TrodAll enc P W' b sp hd f.resultTypes.toList (v.resultList f.resultTypes.size) (s.fn H (ds ++ gs)).results [])
    (hargs : ∀ sp : Nat → Bool, (∀ p ∈ before, sp p.block = true) → DataW.TrodAll enc P W' 0 sp true f.params.toList args.toList (s.fn H (ds ++ gs)).args pa)
    (hvars : ∀ sp : Nat → Bool, (∀ p ∈ before, sp p.block = true) → DataW.TrodVars enc P W' sp s.vars (s.fn H (ds ++ gs)).vars pv)
    (hps : before = pa ++ pv) (hb : Below W.heap.size W W')
    (hok : ∀ (j : Nat) (t : TypeId) (r : Value), f.resultTypes[j]? = some t → (v.resultList f.resultTypes.size)[j]? = some r → Value.okWide P W' .any 0 t r) :
    s.post enc P f apart fresh handsOn again W args v W' := by
  have lt : ∀ p ∈ before, p.block < W.heap.size := fun p hp => hW.lt p hp
  have old : ∀ p ∈ before, (fun b => decide (b < W.heap.size)) p.block = true := fun p hp => decide_eq_true (lt p hp)
  have frame : W.keptBut W' (fun p => p ∈ before ∧ (p ∈ ([] : List MemPlace) ∨ p ∈ pa ∨ p ∈ pv)) :=
    World.keptBut_mono (fun p hp => ⟨hp, Or.inr (by rw [hps] at hp; simpa using hp)⟩) (hb.frame (· ∈ before))
  obtain ⟨_, _, _, _, _, hz, hn⟩ := id hW
  refine ⟨ds, gs, before, [], pa, pv, hW, hres _ _ _, hargs _ old, hvars _ old, by simpa using frame, fun _ => ?_⟩
  refine ⟨hok, _, _, ([] ++ pa) ++ pv, ⟨[] ++ pa, pv, trodAll_append (hargs _ (fun _ _ => rfl)) (hres _ _ _), hvars _ (fun _ _ => rfl), rfl, fun b off hp => ?_, fun ha => ?_⟩, fun p hp _ => ?_⟩
  · have hin : MemPlace.cell b off ∈ before := by rw [hps]; simpa using hp
    rw [hb.frozen (lt _ hin)]
    exact hz b off hin
  · have := hn ha
    rw [hps] at this
    simpa using this
  · rw [hps]
    simpa using hp

/-- An argument reads behind the call as it did, whatever counts as spare. -/
theorem arg_kept {t : TypeId} (hl : laidOutB P = true) (hr : P.readableRec t = true) (hrow : t < P.types.size) {W W' : World} {v : Value} {d : DataW H} {ps : List MemPlace} {sp : Nat → Bool}
    (h : DataW.Trod enc P W 0 (fun _ => true) true t v d ps) (hb : Below W.heap.size W W') (hlt : ∀ x ∈ ps, x.block < W.heap.size) (hsp : ∀ x ∈ ps, sp x.block = true) : DataW.Trod enc P W' 0 sp true t v d ps :=
  WideElems.Trod_stays hl hr hrow h (fun x hx => hb.same (hlt x hx)) (fun x hx => hsp x hx)
end
end Go.Proofs.YtapckfapkhnbgaaGreatDoor

/- From a walk to the statement: what a slice of bytes that comes in gives a walk, and the row's last step where nothing old has turned. -/
namespace Go.Proofs.YtapckfapkhnbgaaGreatDoor
open Go.ChangeShapes Go.WideShapes Go.ChangeAt Go.RowKit

theorem cellsU8 : Tryz.prog.cellsOf 5 = 1 := by kernel_rfl

section
variable {H : Type} {enc : TypeId × Value → H}

set_option maxRecDepth 100000 in
/-- A slice of bytes that came in: its length fits, and each of its bytes can be read. -/
theorem open_code {W : World} {base : Nat} {v : Value} {d : DataW H} {ps : List MemPlace} (hval : Value.okWide Tryz.prog W .any base 22 v) (h : DataW.Trod enc Tryz.prog W 0 (fun _ => true) true 22 v d ps) :
    ∃ (A : Option Addr) (n c : Nat), v = .slice A n c ∧ n ≤ c ∧ c ≤ maxLen ∧ Bytes W A n := by
  obtain ⟨A, n, c, rfl⟩ := okWide_slice Tryz.underlying22 hval
  obtain ⟨fuel, hf⟩ := h
  rcases open_ints Tryz.underlying22 Tryz.underlying5 cellsU8 hf with ⟨hcs, _⟩ | ⟨a, n', c', zs, hcs, _, hl, hm, hz, _, hcell, hwz⟩
  · simp [Value.cells] at hcs
    obtain ⟨rfl, rfl, rfl⟩ := hcs
    exact ⟨none, 0, 0, rfl, Nat.le_refl _, Nat.zero_le _, fun h => absurd h (by omega)⟩
  · simp [Value.cells] at hcs
    obtain ⟨rfl, rfl, rfl⟩ := hcs
    simp only [if_true] at hz
    refine ⟨_, _, _, rfl, hl, hm, fun h0 => ⟨a, rfl, ?_, fun i hi => ?_⟩⟩
    · have := World.block_lt_of_cell? _ _ (hcell 0 (by omega))
      rwa [add_block] at this
    · have hb := range_u8 hwz i
      exact ⟨zs.getD i 0, by simpa [List.getD] using hb.1, by simpa [List.getD] using hb.2, hcell i (by omega)⟩

end
end Go.Proofs.YtapckfapkhnbgaaGreatDoor

/- The table of the ops of plain statements: what the row's condition on it gives a walk; a start that fits; that it reads behind the call as before. -/
namespace Go.Proofs.YtapckfapkhnbgaaGreatDoor
open Go.ChangeShapes Go.WideShapes Go.ChangeAt Go.WideMaps Go.WideElems Go.RowKit

abbrev opsName : String := "loop.example/changeringer/impl.plainOps"
theorem gOps : Tryz.prog.globalNamed opsName = some 0 := by kernel_rfl
theorem tOps : (Tryz.prog.globals[0]?).map (·.type) = some 102 := by kernel_rfl

theorem cellsI : Tryz.prog.cellsOf 3 = 1 := by kernel_rfl

/-- What the condition gives: the table's cells. -/
theorem ops_of_laid {W : World} (h : laidMetH Tryz.prog [(opsName, Rows.laid_loop_example_changeringer_impl_plainOps)] W) : Ops W ∧ 0 < W.heap.size := by
  rw [MakeChecks.laidMetH_plain _ _ _ (by kernel_rfl)] at h
  obtain ⟨ps, ⟨g0, t0, cs0, f0, p0, q0, hg0, ht0, hv0, hd0, _, _⟩, _, _⟩ := h
  obtain rfl := Option.some.inj (gOps.symm.trans hg0)
  obtain rfl := Option.some.inj (tOps.symm.trans ht0)
  obtain ⟨xs, m1, rfl, hx1, hlen, hn3, hel⟩ := DataW.trod_array Tryz.underlying102 hd0
  simp only [Prod.mk.injEq, Rows.laid_loop_example_changeringer_impl_plainOps, DataW.agg.injEq] at hx1
  have key : ∀ (j : Nat) (v : Int), j < 12 → (xs.map (·.1))[j]? = some (.lit (.int .i64 v)) → W.cell? ⟨0, j, none⟩ = some (.int .i64 v) := by
    intro j v hj hv
    have h0 := hel j hj
    rw [cellsI, Nat.mul_one] at h0
    rw [List.getElem?_map] at hv
    obtain ⟨x, hx, hxv⟩ := Option.map_eq_some_iff.1 hv
    rw [hx] at h0
    obtain ⟨k, e1, e2, _⟩ := DataW.trod_int Tryz.underlying3 h0
    have hk : k = v := by rw [e2] at hxv; simpa using hxv
    subst hk
    rw [World.var?_cell hg0 hv0]
    have e3 := congrArg (·[0]?) e1
    simpa [List.getElem?_take, List.getElem?_drop] using e3
  rw [← hx1.1] at key
  have k1 := key 1 1 (by omega) rfl
  refine ⟨⟨k1, key 2 2 (by omega) rfl, key 3 3 (by omega) rfl, key 4 4 (by omega) rfl, key 5 5 (by omega) rfl, key 9 10 (by omega) rfl, key 10 11 (by omega) rfl, key 11 12 (by omega) rfl⟩, ?_⟩
  apply Classical.byContradiction
  intro hn
  have : W.heap[0]? = none := Array.getElem?_eq_none (by omega)
  simp [World.cell?, this] at k1

theorem opsRead : Tryz.prog.readableRec 102 = true := by kernel_rfl
theorem opsRow : 102 < Tryz.prog.types.size := of_decide_eq_true (by kernel_rfl)

/-- The table reads behind the call as before. -/
theorem ops_kept {H : Type} {enc : TypeId × Value → H} {W W' : World} {gs : List (DataW H)} {ps : List MemPlace} {sp : Nat → Bool} (h : DataW.TrodVars enc Tryz.prog W (fun _ => true) [opsName] gs ps)
    (hb : Below W.heap.size W W') (hlt : ∀ x ∈ ps, x.block < W.heap.size) (hsp : ∀ x ∈ ps, sp x.block = true) : DataW.TrodVars enc Tryz.prog W' sp [opsName] gs ps := by
  obtain ⟨g, t, cs, fuel, d, p, rfl, h1, h2, h3, h4, rfl⟩ := trodVars_one h
  obtain rfl := Option.some.inj (gOps.symm.trans h1)
  obtain rfl := Option.some.inj (tOps.symm.trans h2)
  have h3' : W'.var? Tryz.prog opsName = some cs := by
    unfold World.var? at h3 ⊢
    rw [h1] at h3 ⊢
    simp only [Option.bind_some] at h3 ⊢
    have hg : 0 < W.heap.size := by
      apply Classical.byContradiction
      intro hn
      have : W.heap[0]? = none := Array.getElem?_eq_none (by omega)
      rw [this] at h3; cases h3
    rw [hb.block 0 hg]; exact h3
  exact trodVars_mk1 h1 h2 h3' (DataW.trod_stays (kids_book laidOut opsRead) (book_sized opsRead) (fun h => by cases h) ⟨opsRow, book_self _⟩ h4 (fun x hx => hb.same (hlt x (by simp [hx]))) (fun x hx => hsp x (by simp [hx])))
end Go.Proofs.YtapckfapkhnbgaaGreatDoor

namespace Go.Proofs.YtapckfapkhnbgaaGreatDoor.pFnCodeEnd
open Go.ChangeShapes Go.WideShapes Go.ChangeAt Go.RowKit

theorem door_met (os : Os) (args : Array Value) : laidMetH Tryz.prog Rows.fnCodeEndRow.laid ((World.doorLaid Tryz.prog 400 os).forCall (fun _ _ => 0) ⟨#[], args, []⟩).memory :=
  laidMetH_of_parts3 (fuel := 8) (laidMet_of_run' 8 (by kernel_rfl) (by kernel_rfl)) (by kernel_rfl) (by kernel_rfl)

set_option maxRecDepth 100000 in
theorem lifted (os : Os) (started : os.Started) (H : Type) (enc : TypeId × Value → H) :
    ReturnsInHanded {} Tryz.checked os 3 .any (fun w args => (Rows.fnCodeEndSpec.pre enc Tryz.prog Tryz.f3 [] false w args ∧ laidMetH Tryz.prog Rows.fnCodeEndRow.laid w) ∧ sizedMet enc Tryz.prog Tryz.f3 (OpenSpec.ofChange Rows.fnCodeEndSpec) false w args) (Rows.fnCodeEndSpec.post enc Tryz.prog Tryz.f3 false true false false) := by
  refine returnsInHanded_of_change_and (C := Tryz.checked) (X := fun w _ => laidMetH Tryz.prog Rows.fnCodeEndRow.laid w) (fun _ _ _ hh h => h.of_heap hh) own started (by kernel_rfl) Tryz.func3
    (ChangeSpec.witness_shaped (enc := enc) (C := Tryz.checked) (os := os) (X := fun w _ => laidMetH Tryz.prog Rows.fnCodeEndRow.laid w) false (World.doorLaid Tryz.prog 400 os) #[.slice none 0 0] 8 rfl (World.shaped_of_RefB (by kernel_rfl) (by kernel_rfl)) (by kernel_rfl) (by kernel_rfl) (by kernel_rfl) (door_met os _)) ?_
  intro W base args ds gs before hval0 hW _ _ hL _
  have hval : ∀ (j : Nat) t v, Tryz.f3.params[j]? = some t → args[j]? = some v → Value.okWide Tryz.prog W .any base t v := hval0
  have hW' := hW
  obtain ⟨p, q, hA0, hV, rfl, _, _⟩ := hW
  have hA : DataW.TrodAll enc Tryz.prog W 0 (fun _ => true) true Tryz.f3.params.toList args.toList ds p := hA0
  rw [Tryz.params3] at hA hval
  obtain ⟨v0, vs0, d0, ds0, p0, q0, hargs, rfl, rfl, h0, r0⟩ := trodAll_cons hA
  obtain ⟨rfl, rfl, rfl⟩ := trodAll_nil r0
  obtain rfl : args = #[v0] := by cases args; simp_all
  obtain ⟨_, _, _, _, g, _, rfl, _, _, _, _, _⟩ := trodVars_one hV
  obtain ⟨A0, n0, c0, rfl, l0, m0, b0⟩ := open_code (hval 0 22 v0 rfl rfl) h0
  obtain ⟨hop, hpos⟩ := ops_of_laid hL
  clear hA0 hval0
  simp only [List.append_nil] at hW'
  refine (wFnCodeEnd A0 n0 c0 W b0 l0 m0 hpos hop).mono fun e W' ⟨he, hb⟩ => ?_
  subst he
  have lt0 : ∀ x ∈ p0 ++ q, x.block < W.heap.size := fun x hx => hW'.lt x (hx)
  have hargs' : ∀ sp : Nat → Bool, (∀ x ∈ p0, sp x.block = true) → DataW.TrodAll enc Tryz.prog W' 0 sp true [22] [.slice A0 n0 c0] [d0] (p0) := fun sp hsp => by
    have h : DataW.TrodAll enc Tryz.prog W' 0 sp true _ _ _ _ := (trodAll_cons_mk (arg_kept laidOut (by kernel_rfl) (of_decide_eq_true (by kernel_rfl)) h0 hb (fun x hx => lt0 x (by simp [hx])) (fun x hx => hsp x (hx))) trodAll_mk0)
    simpa only [List.append_nil] using h
  exact ⟨_, rfl, post_below (pa := p0) (pv := q) hW' (fun _ _ _ => (trodAll_cons_mk (shut_bool Tryz.underlying4 _) trodAll_mk0)) (fun sp hsp => hargs' sp (fun x hx => hsp x (by simp [hx]))) (fun sp hsp => ops_kept hV hb (fun x hx => lt0 x (by simp [hx])) (fun x hx => hsp x (by simp [hx]))) rfl
    hb (ok_one (by kernel_rfl) rfl (okWide_bool_mk Tryz.underlying4 _))⟩

theorem row : Rows.FnCodeEndSaid :=
  OpenClaim.holds_of_wide 3 Tryz.f3 rfl rfl rfl rfl rfl rfl rfl ⟨rfl, rfl, rfl, rfl, rfl⟩ rfl rfl rfl rfl rfl (by kernel_rfl) Tryz.func3 (by kernel_rfl)
    (of_decide_eq_true (by kernel_rfl)) (by unfold Func.isWrapper; first | (rw [if_pos (by decide +kernel)]; kernel_rfl) | (rw [if_neg (by decide +kernel)]; exact ⟨rfl, rfl⟩))
    (fun os started H enc _ => lifted os started H enc)

/-- THE STATEMENT: the tied card. -/
theorem proved : Rows.FnCodeEndCardSaid :=
  Claim7.holds_tied_plain_at .later [] [.data] true Rows.fnCodeEndCard.stood.harness false
    row (fun _ h => by cases h) (by kernel_rfl) (fun _ h => by cases h) fnCodeEnd_row_tie rfl ⟨rfl, rfl⟩ (by kernel_rfl) rfl
    (fun f fn hf hfn => by
      obtain rfl : f = 3 := Option.some.inj ((show Tryz.prog.funcNamed "loop.example/changeringer/laws.FnCodeEnd" = some 3 by kernel_rfl).symm.trans hf) |>.symm
      obtain rfl : fn = Tryz.f3 := (Option.some.inj (Tryz.func3.symm.trans hfn)).symm
      exact ⟨by kernel_rfl, fun j t ht => by
        rw [Tryz.params3] at ht
        have hm : t ∈ [22] := by simpa using Array.mem_of_getElem? ht
        have hall : ([22].all fun u => !Tryz.prog.wantsStandIn u) = true := by kernel_rfl
        exact (show Tryz.prog.wantsStandIn t = false by simpa using List.all_eq_true.1 hall t hm)⟩)
    (by kernel_rfl)
#print axioms proved
end Go.Proofs.YtapckfapkhnbgaaGreatDoor.pFnCodeEnd
