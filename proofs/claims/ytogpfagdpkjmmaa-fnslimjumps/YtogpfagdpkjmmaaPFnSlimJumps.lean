/- PROVED: laws.FnSlimJumps returns true for every input, and its arguments read as before. No condition. -/
import Derived.Test.YtogpfagdpkjmmaaIns
import Derived.Laws.StructEq
import Derived.Test.YtogpfagdpkjmmaaBent9
import Derived.Test.YtogpfagdpkjmmaaJumpsOk
import Derived.Test.YtogpfagdpkjmmaaSlimJumps
import Derived.BigQuiet
import Derived.Test.YtogpfagdpkjmmaaRows
import Derived.WalkKit
import Derived.ProofKit
import Derived.OpenShut
import Derived.Below
import Derived.Carry
import Derived.Test.YtogpfagdpkjmmaaOpen
/- CodeSame of the program (slices.Equal). -/
namespace Go.Proofs.Ytogpfagdpkjmmaa
open Go.ChangeShapes Go.WideShapes Go.ChangeAt Go.RowKit

theorem insHeld : Try.prog.stoodInHeld 40 = false := by kernel_rfl
theorem insU : Try.prog.underlying 40 = some (.struct (Try.prog.fieldsOf 40)) := by kernel_rfl

set_option maxRecDepth 100000 in
theorem neqIns (x y z u x' y' z' u' : Int) (w : World) :
    (binOp .neq 40 (.agg #[.int .i64 x, .int .i64 y, .int .i64 z, .int .i64 u]) (.agg #[.int .i64 x', .int .i64 y', .int .i64 z', .int .i64 u'])).run Try.prog w = .ok (.bool (!(x == x' && (y == y' && (z == z' && u == u'))))) w := by
  rw [run_neq_struct, run_equalIn_agg _ _ _ _ _ insU insHeld]
  simp only [Program.fieldsOf, Try.underlying40]
  by_cases h0 : x = x' <;> by_cases h1 : y = y' <;> by_cases h2 : z = z' <;> by_cases h3 : u = u' <;> simp [go_sem, Op.eqFields, h0, h1, h2, h3]

theorem more_four {xs ys : List Int} {k : Nat} (h : ∀ j, j < k * 4 → xs.getD j 0 = ys.getD j 0) (h0 : xs.getD (k * 4) 0 = ys.getD (k * 4) 0) (h1 : xs.getD (k * 4 + 1) 0 = ys.getD (k * 4 + 1) 0)
    (h2 : xs.getD (k * 4 + 2) 0 = ys.getD (k * 4 + 2) 0) (h3 : xs.getD (k * 4 + 3) 0 = ys.getD (k * 4 + 3) 0) : ∀ j, j < (k + 1) * 4 → xs.getD j 0 = ys.getD j 0 := by
  intro j hj
  have : j < k * 4 ∨ j = k * 4 ∨ j = k * 4 + 1 ∨ j = k * 4 + 2 ∨ j = k * 4 + 3 := by omega
  rcases this with h' | rfl | rfl | rfl | rfl
  · exact h j h'
  all_goals assumption

theorem eq_four {xs ys : List Int} (n : Nat) (hx : xs.length = n * 4) (hy : ys.length = n * 4) (h : ∀ j, j < n * 4 → xs.getD j 0 = ys.getD j 0) : xs = ys := by
  apply List.ext_getElem (by omega)
  intro j h1 h2
  have := h j (by omega)
  simpa [List.getD, h1, h2] using this

set_option maxRecDepth 100000 in
theorem sliceEqual {xs ys : List Int} {A A' : Option Addr} {n c n' c' : Nat} {S T : Nat → Prop} {w : World} (hs : Fl w S 4 xs A n c) (ht : Fl w T 4 ys A' n' c') :
    Calls Try.prog 60 #[.slice A n c, .slice A' n' c'] w fun e w' => e = .returned (.bool (decide (xs = ys))) ∧ Below w.heap.size w w' := by
  have hmax : n ≤ 9223372036854775807 := by have := hs.le; have := hs.top; unfold maxLen at this; omega
  have hmax' : n' ≤ 9223372036854775807 := by have := ht.le; have := ht.top; unfold maxLen at this; omega
  have lx := hs.len
  have ly := ht.len
  by_cases hn : n = n'
  · subst hn
    have LX := Lib.hid lx
    have LY := Lib.hid ly
    clear lx ly hmax'
    go_enter Try.func60, Try.ntmps60
    go_wp2_with fail
    go_loopw [13] (fun i wr => ∃ k : Nat, k ≤ n ∧ i = .int .i64 k ∧ (∀ j, j < k * 4 → xs.getD j 0 = ys.getD j 0) ∧ Below w.heap.size w wr) (fun i _ => n - (intOf i).toNat)
    case atStart => exact ⟨0, Nat.zero_le _, rfl, fun j hj => by omega, Below.refl _ _⟩
    case round =>
      obtain ⟨k, hk, rfl, heq, hb⟩ := hrel
      have HEQ := Lib.hid heq
      clear heq
      by_cases hlt : k < n
      · obtain ⟨a, rfl⟩ := hs.some (by omega)
        obtain ⟨b, rfl⟩ := ht.some (by omega)
        obtain ⟨c0, c1, c2, c3⟩ := (hs.later hb).four k hlt
        obtain ⟨d0, d1, d2, d3⟩ := (ht.later hb).four k hlt
        have hsz := hb.size
        generalize hx0 : xs.getD (k * 4) 0 = x0 at c0
        generalize hx1 : xs.getD (k * 4 + 1) 0 = x1 at c1
        generalize hx2 : xs.getD (k * 4 + 2) 0 = x2 at c2
        generalize hx3 : xs.getD (k * 4 + 3) 0 = x3 at c3
        generalize hy0 : ys.getD (k * 4) 0 = y0 at d0
        generalize hy1 : ys.getD (k * 4 + 1) 0 = y1 at d1
        generalize hy2 : ys.getD (k * 4 + 2) 0 = y2 at d2
        generalize hy3 : ys.getD (k * 4 + 3) 0 = y3 at d3
        have H8 := Lib.hid (And.intro hx0 (And.intro hx1 (And.intro hx2 (And.intro hx3 (And.intro hy0 (And.intro hy1 (And.intro hy2 hy3)))))))
        clear hx0 hx1 hx2 hx3 hy0 hy1 hy2 hy3
        by_cases hq : x0 = y0 ∧ x1 = y1 ∧ x2 = y2 ∧ x3 = y3
        · obtain ⟨rfl, rfl, rfl, rfl⟩ := hq
          have hne := fun W => neqIns x0 x1 x2 x3 x0 x1 x2 x3 W
          simp only [beq_self_eq_true, Bool.and_self, Bool.not_true] at hne
          go_wp2_with fail
          go_region
          all_goals (try go_wp2)
          obtain ⟨a0, a1, a2, a3, b0, b1, b2, b3⟩ := H8.out
          exact ⟨⟨k + 1, by omega, by go_num, more_four HEQ.out (a0.trans b0.symm) (a1.trans b1.symm) (a2.trans b2.symm) (a3.trans b3.symm), hb.drew⟩, by simp [intOf]; omega⟩
        · have hne := fun W => neqIns x0 x1 x2 x3 y0 y1 y2 y3 W
          have hb0 : (x0 == y0 && (x1 == y1 && (x2 == y2 && x3 == y3))) = false := by
            apply Bool.eq_false_iff.2
            intro h
            simp only [Bool.and_eq_true, beq_iff_eq] at h
            exact hq h
          simp only [hb0, Bool.not_false] at hne
          have HQ := Lib.hid hq
          clear hq hb0
          go_wp2_with fail
          go_region
          all_goals (try go_wp2)
          go_ret
          refine ⟨?_, hb.drew⟩
          have : ¬ xs = ys := by
            rintro rfl
            obtain ⟨a0, a1, a2, a3, b0, b1, b2, b3⟩ := H8.out
            exact HQ.out ⟨a0.symm.trans b0, a1.symm.trans b1, a2.symm.trans b2, a3.symm.trans b3⟩
          rw [decide_eq_false this]; rfl
      · obtain rfl : k = n := by omega
        go_wp2_with fail
        go_ret
        refine ⟨?_, hb⟩
        rw [decide_eq_true (eq_four k LX.out LY.out HEQ.out)]; rfl
  · have hd : decide (xs = ys) = false := decide_eq_false (by rintro rfl; omega)
    rw [hd]
    clear hd lx ly
    go_enter Try.func60, Try.ntmps60
    go_wp2
    go_ret
    exact ⟨rfl, Below.refl _ _⟩

theorem codeSame {xs ys : List Int} {A A' : Option Addr} {n c n' c' : Nat} {S T : Nat → Prop} {w : World} (hs : Fl w S 4 xs A n c) (ht : Fl w T 4 ys A' n' c') :
    Calls Try.prog 34 #[.slice A n c, .slice A' n' c'] w fun e w' => e = .returned (.bool (decide (xs = ys))) ∧ Below w.heap.size w w' := by
  have HE := Lib.hid (sliceEqual hs ht)
  go_enter Try.func34, Try.ntmps34
  go_wp2_with fail
  refine HE.out.mono ?_
  rintro e w1 ⟨rfl, b1⟩
  go_wp2_with fail
  go_ret
  exact ⟨rfl, b1⟩
end Go.Proofs.Ytogpfagdpkjmmaa

/- The walk of laws.FnSlimJumps. -/
namespace Go.Proofs.Ytogpfagdpkjmmaa
open Go.ChangeShapes Go.WideShapes Go.ChangeAt Go.RowKit

theorem below_drewN9 {B : Nat} {a w : World} (h : Below B a w) (n : Nat) : Below B a (w.drewN n) := ⟨h.os, h.tape, h.output, h.size, h.block⟩

set_option maxRecDepth 100000 in
set_option maxHeartbeats 8000000 in
theorem wFnSlimJumps (A : Option Addr) (n c : Nat) (w : World) (h : Bytes w A n) (hn : n ≤ c) (hc : c ≤ maxLen) :
    Calls Try.prog 10 #[.slice A n c] w fun e w' => e = .returned (.bool true) ∧ Below w.heap.size w w' := by
  by_cases hl : 1048576 < n
  · go_enter Try.func10, Try.ntmps10
    go_wp2
    go_ret
    exact ⟨rfl, Below.refl _ _⟩
  · go_enter Try.func10, Try.ntmps10
    go_wp2_with fail
    refine (drawSlimJumps A n c _ h hn hc).mono ?_
    rintro e w1 ⟨ys, m, B, cB, rfl, o1, hm50, b1⟩
    have f1 := own_fl1 o1
    have hyl := f1.len
    have z1 := b1.size
    clear o1
    go_wp2_with fail
    refine (implSlimJumps f1).mono ?_
    rintro e w2 ⟨v2, rfl, o2, hb2⟩
    have z2 := hb2.size
    have b2 := b1.trans (hb2.mono z1)
    have f2 := f1.later hb2
    obtain ⟨A2, c2, rfl⟩ := own_slc' o2
    clear f1 hb2
    go_wp2_with fail
    refine (specSlimJumps f2).mono ?_
    rintro e w3 ⟨v3, rfl, o3, hb3⟩
    have z3 := hb3.size
    have b3 := b2.trans (hb3.mono (by omega))
    have f3 := f2.later hb3
    have o23 := own_below o2 hb3
    obtain ⟨A3, c3, rfl⟩ := own_slc' o3
    clear f2 hb3 o2
    go_wp2_with fail
    refine (codeSame (own_fl1 o23) (own_fl1 o3)).mono ?_
    rintro e w4 ⟨rfl, hb4⟩
    rw [decide_eq_true rfl]
    have z4 := hb4.size
    have b4 := b3.trans (hb4.mono (by omega))
    have f4 := f3.later hb4
    have o24 := own_below o23 hb4
    clear f3 hb4 o23 o3
    go_wp2_with fail
    refine (specCodeOk f4).mono ?_
    rintro e w5 ⟨rfl, hb5⟩
    have z5 := hb5.size
    have b5 := b4.trans (hb5.mono (by omega))
    have f5 := f4.later hb5
    have o25 := own_below o24 hb5
    clear f4 hb5 o24
    cases hcb : codeB ys m
    · have hz : jumpsN ys m = 0 := by unfold jumpsN; rw [hcb]; rfl
      rw [hz] at o25 ⊢
      clear hz hcb f5 o25
      go_wp2_with fail
      go_ret
      exact ⟨rfl, b5⟩
    · have hr := codeB_true hyl hcb
      have hjn : jumpsN ys m = m := by unfold jumpsN; rw [if_pos hcb]
      have hjr : jumpsR ys m = jumpsL ys m := by unfold jumpsR; rw [if_pos hcb]
      have hm1 := hr.lo
      have hok := jumps_ok hr hcb
      rw [hjr, hjn] at o25
      rw [hjn]
      obtain ⟨g2, c2', hv, _, _⟩ := own_some' o25 (by omega)
      simp only [Value.slice.injEq, true_and] at hv
      obtain ⟨rfl, rfl⟩ := hv
      obtain ⟨b, rfl⟩ := f5.some (by omega)
      have HOK := Lib.hid hok
      have hagain : jumpsR (jumpsL ys m) m = jumpsL ys m ∧ jumpsN (jumpsL ys m) m = m := ⟨by unfold jumpsR; rw [if_pos hok]; exact jumps_twice hr, by unfold jumpsN; rw [if_pos hok]⟩
      have HAG := Lib.hid hagain
      have HR := Lib.hid hr
      have HO := Lib.hid o25
      have HF := Lib.hid f5
      clear hjr hjn hcb hr hok hagain o25 f5
      go_wp2_with fail
      go_loopw [5] (fun i wr => ∃ k : Nat, k ≤ m ∧ i = .int .i64 k ∧ Below w5.heap.size w5 wr) (fun i _ => m - (intOf i).toNat)
      case atStart => exact ⟨0, Nat.zero_le _, rfl, Below.refl _ _⟩
      case round =>
        obtain ⟨k, hk, rfl, hbw⟩ := hrel
        by_cases hlt : k < m
        · obtain ⟨c0, c1, c2, c3⟩ := (HF.out.later hbw).four k hlt
          have hfl := own_below HO.out hbw
          have hjl : (jumpsL ys m).length = m * 4 := by rw [turnK_len]; exact hyl
          have d0 := hfl.cellAt (k * 4) (by omega)
          have d1 := hfl.cellAt (k * 4 + 1) (by omega)
          have d2 := hfl.cellAt (k * 4 + 2) (by omega)
          have d3 := hfl.cellAt (k * 4 + 3) (by omega)
          rw [ints_get (by omega)] at d0 d1 d2 d3
          have h0 : ys.getD (k * 4) 0 = opC ys k := rfl
          have h1 : ys.getD (k * 4 + 1) 0 = aC ys k := rfl
          have h2 : ys.getD (k * 4 + 2) 0 = bC ys k := rfl
          have h3 : ys.getD (k * 4 + 3) 0 = toC ys k := rfl
          rw [h0] at c0
          rw [h1] at c1
          rw [h2] at c2
          rw [h3] at c3
          have i0 : (jumpsL ys m).getD (k * 4) 0 = opC ys k := turnK_op _ _ _ _
          have i1 : (jumpsL ys m).getD (k * 4 + 1) 0 = aC ys k := turnK_a _ _ _ _
          have i2 : (jumpsL ys m).getD (k * 4 + 2) 0 = bC ys k := turnK_b _ _ _ _
          have i3 : (jumpsL ys m).getD (k * 4 + 3) 0 = if k < m ∧ isT ys k = true then jumpF ys m k else toC ys k := turnK_to hyl _ _ _ hlt
          rw [i0] at d0
          rw [i1] at d1
          rw [i2] at d2
          rw [i3] at d3
          cases hT : isT ys k
          · have hne : opC ys k ≠ 6 ∧ opC ys k ≠ 7 := by unfold isT at hT; have := of_decide_eq_false hT; omega
            have e6 : (opC ys k == 6) = false := by simpa using hne.1
            have e7 : (opC ys k == 7) = false := by simpa using hne.2
            rw [if_neg (by rw [hT]; simp)] at d3
            clear h0 h1 h2 h3 i0 i1 i2 i3 hT hne hfl
            generalize opC ys k = o at *
            generalize aC ys k = x1 at *
            generalize bC ys k = x2 at *
            generalize toC ys k = t at *
            have hn0 : (o != o) = false := by simp
            have hn1 : (x1 != x1) = false := by simp
            have hn2 : (x2 != x2) = false := by simp
            go_wp2_with fail
            go_quiet (fail)
            go_wp2_with fail
            go_quiet (fail)
            go_wp2_with fail
            go_roundw
            case rel => exact ⟨k + 1, by omega, by go_num, below_drewN9 hbw _⟩
            case measure => simp [intOf]; omega
          · have h67 : opC ys k = 6 ∨ opC ys k = 7 := by unfold isT at hT; exact of_decide_eq_true hT
            have ht0 := insB_to (HR.out.ins k hlt) h67
            obtain ⟨t, ht⟩ : ∃ t : Nat, toC ys k = (t : Int) := ⟨(toC ys k).toNat, by omega⟩
            have hjf : jumpF ys m k = (endTo ys m t : Nat) := by unfold jumpF; rw [ht]; rfl
            have hel := endTo_lt HR.out (i := t) (by omega)
            rw [if_pos ⟨hlt, hT⟩, hjf] at d3
            rw [ht] at c3
            have e0 := hfl.cellAt (endTo ys m t * 4) (by omega)
            rw [ints_get (by omega)] at e0
            have j0 : (jumpsL ys m).getD (endTo ys m t * 4) 0 = opC ys (endTo ys m t) := turnK_op _ _ _ _
            rw [j0] at e0
            have hq : opC ys (endTo ys m t) = 7 → endTo ys m t = t := fun h => by
              apply Classical.byContradiction
              intro hne
              exact endTo_op hne h
            have he : (opC ys k == 7) = true ∨ ((opC ys k == 7) = false ∧ (opC ys k == 6) = true) := by
              rcases h67 with h | h
              · right; rw [h]; exact ⟨rfl, rfl⟩
              · left; rw [h]; rfl
            clear h0 h1 h2 h3 i0 i1 i2 i3 hT hfl h67 ht hjf j0 ht0
            generalize opC ys (endTo ys m t) = q at *
            generalize endTo ys m t = nt at *
            generalize opC ys k = o at *
            generalize aC ys k = x1 at *
            generalize bC ys k = x2 at *
            have hn0 : (o != o) = false := by simp
            have hn1 : (x1 != x1) = false := by simp
            have hn2 : (x2 != x2) = false := by simp
            by_cases h7 : q = 7
            · obtain rfl := hq h7
              subst h7
              have hnn : ((nt : Int) != (nt : Int)) = false := by simp
              clear hq
              rcases he with e7 | ⟨e7, e6⟩
              all_goals
                go_wp2_with fail
                go_quiet (fail)
                go_wp2_with fail
                go_quiet (fail)
                go_wp2_with fail
                go_roundw
                case rel => exact ⟨k + 1, by omega, by go_num, below_drewN9 hbw _⟩
                case measure => simp [intOf]; omega
            · have hq7 : (q == 7) = false := by simpa using h7
              clear hq h7
              rcases he with e7 | ⟨e7, e6⟩
              all_goals
                go_wp2_with fail
                go_quiet (fail)
                go_wp2_with fail
                go_quiet (fail)
                go_wp2_with fail
                go_roundw
                case rel => exact ⟨k + 1, by omega, by go_num, below_drewN9 hbw _⟩
                case measure => simp [intOf]; omega
        · obtain rfl : k = m := by omega
          have b6 := b5.trans (hbw.mono b5.size)
          have OX := Lib.hid (own_below HO.out hbw)
          have hcx := codeOk (own_fl1 OX.out)
          rw [HOK.out] at hcx
          have HCX := Lib.hid hcx
          clear hcx HF HO
          go_wp2_with fail
          refine HCX.out.mono ?_
          rintro e w7 ⟨rfl, hb7⟩
          have b7 := b6.trans (hb7.mono b6.size)
          have OX7 := Lib.hid (own_below OX.out hb7)
          have gkk : ((k : Int) == (k : Int)) = true := by simp
          clear HCX OX hb7
          go_wp2_with fail
          refine (implSlimJumps (own_fl1 OX7.out)).mono ?_
          rintro e w8 ⟨v8, rfl, o8, hb8⟩
          rw [HAG.out.1, HAG.out.2] at o8
          have b8 := b7.trans (hb8.mono b7.size)
          have OX8 := Lib.hid (own_below OX7.out hb8)
          obtain ⟨A8, c8, rfl⟩ := own_slc' o8
          have O8 := Lib.hid o8
          clear o8 OX7 hb8
          go_wp2_with fail
          refine (codeSame (own_fl1 O8.out) (own_fl1 OX8.out)).mono ?_
          rintro e w9 ⟨rfl, hb9⟩
          rw [decide_eq_true rfl]
          have b9 := b8.trans (hb9.mono b8.size)
          go_wp2_with fail
          go_ret
          exact ⟨rfl, b9⟩
end Go.Proofs.Ytogpfagdpkjmmaa

/- From a walk to the statement: the row's last step where nothing old has turned, whatever came in. -/
namespace Go.Proofs.Ytogpfagdpkjmmaa
open Go.ChangeShapes Go.WideShapes Go.ChangeAt Go.RowKit

theorem own : ownKnob Try.prog.godebug = none := by kernel_rfl
theorem laidOut : laidOutB Try.prog = true := by kernel_rfl

section
variable {H : Type} {enc : TypeId × Value → H}

variable {P : Program}
/-- The row's last step where below the heap's old size nothing has turned. -/
theorem post_below {f : Func} {s : ChangeSpec} {apart fresh handsOn again : Bool} {W W' : World} {args : Array Value} {v : Value} {ds gs : List (DataW H)} {before pa pv : List MemPlace}
    (hW : DataW.Whole enc P f.params.toList s.vars apart W args.toList ds gs before)
    (hres : ∀ (b : Nat) (sp : Nat → Bool) (hd : Bool), DataW.TrodAll enc P W' b sp hd f.resultTypes.toList (v.resultList f.resultTypes.size) (s.fn H (ds ++ gs)).results [])
    (hargs : ∀ sp : Nat → Bool, (∀ p ∈ before, sp p.block = true) → DataW.TrodAll enc P W' 0 sp true f.params.toList args.toList (s.fn H (ds ++ gs)).args pa)
    (hvars : ∀ sp : Nat → Bool, (∀ p ∈ before, sp p.block = true) → DataW.TrodVars enc P W' sp s.vars (s.fn H (ds ++ gs)).vars pv)
    (hps : before = pa ++ pv) (hb : Below W.heap.size W W')
    (hok : ∀ (j : Nat) (t : TypeId) (r : Value), f.resultTypes[j]? = some t → (v.resultList f.resultTypes.size)[j]? = some r → Value.okWide P W' .any 0 t r) :
    s.post enc P f apart fresh handsOn again W args v W' := by
  have lt : ∀ p ∈ before, p.block < W.heap.size := fun p hp => hW.lt p hp
  have old : ∀ p ∈ before, (fun b => decide (b < W.heap.size)) p.block = true := fun p hp => decide_eq_true (lt p hp)
  have frame : W.keptBut W' (fun p => p ∈ before ∧ (p ∈ ([] : List MemPlace) ∨ p ∈ pa ∨ p ∈ pv)) :=
    World.keptBut_mono (fun p hp => ⟨hp, Or.inr (by rw [hps] at hp; simpa using hp)⟩) (hb.frame (· ∈ before))
  obtain ⟨_, _, _, _, _, hz, hn⟩ := id hW
  refine ⟨ds, gs, before, [], pa, pv, hW, hres _ _ _, hargs _ old, hvars _ old, by simpa using frame, fun _ => ?_⟩
  refine ⟨hok, _, _, ([] ++ pa) ++ pv, ⟨[] ++ pa, pv, trodAll_append (hargs _ (fun _ _ => rfl)) (hres _ _ _), hvars _ (fun _ _ => rfl), rfl, fun b off hp => ?_, fun ha => ?_⟩, fun p hp _ => ?_⟩
  · have hin : MemPlace.cell b off ∈ before := by rw [hps]; simpa using hp
    rw [hb.frozen (lt _ hin)]
    exact hz b off hin
  · have := hn ha
    rw [hps] at this
    simpa using this
  · rw [hps]
    simpa using hp

/-- An argument reads behind the call as it did, whatever counts as spare. -/
theorem arg_kept {t : TypeId} (hl : laidOutB P = true) (hr : P.readableRec t = true) (hrow : t < P.types.size) {W W' : World} {v : Value} {d : DataW H} {ps : List MemPlace} {sp : Nat → Bool}
    (h : DataW.Trod enc P W 0 (fun _ => true) true t v d ps) (hb : Below W.heap.size W W') (hlt : ∀ x ∈ ps, x.block < W.heap.size) (hsp : ∀ x ∈ ps, sp x.block = true) : DataW.Trod enc P W' 0 sp true t v d ps :=
  WideElems.Trod_stays hl hr hrow h (fun x hx => hb.same (hlt x hx)) (fun x hx => hsp x hx)
end
end Go.Proofs.Ytogpfagdpkjmmaa

/- From a walk to the statement: what a slice of bytes that comes in gives a walk, and the row's last step where nothing old has turned. -/
namespace Go.Proofs.Ytogpfagdpkjmmaa
open Go.ChangeShapes Go.WideShapes Go.ChangeAt Go.RowKit

theorem cellsU8 : Try.prog.cellsOf 5 = 1 := by kernel_rfl

section
variable {H : Type} {enc : TypeId × Value → H}

set_option maxRecDepth 100000 in
/-- A slice of bytes that came in: its length fits, and each of its bytes can be read. -/
theorem open_code {W : World} {base : Nat} {v : Value} {d : DataW H} {ps : List MemPlace} (hval : Value.okWide Try.prog W .any base 35 v) (h : DataW.Trod enc Try.prog W 0 (fun _ => true) true 35 v d ps) :
    ∃ (A : Option Addr) (n c : Nat), v = .slice A n c ∧ n ≤ c ∧ c ≤ maxLen ∧ Bytes W A n := by
  obtain ⟨A, n, c, rfl⟩ := okWide_slice Try.underlying35 hval
  obtain ⟨fuel, hf⟩ := h
  rcases open_ints Try.underlying35 Try.underlying5 cellsU8 hf with ⟨hcs, _⟩ | ⟨a, n', c', zs, hcs, _, hl, hm, hz, _, hcell, hwz⟩
  · simp [Value.cells] at hcs
    obtain ⟨rfl, rfl, rfl⟩ := hcs
    exact ⟨none, 0, 0, rfl, Nat.le_refl _, Nat.zero_le _, fun h => absurd h (by omega)⟩
  · simp [Value.cells] at hcs
    obtain ⟨rfl, rfl, rfl⟩ := hcs
    simp only [if_true] at hz
    refine ⟨_, _, _, rfl, hl, hm, fun h0 => ⟨a, rfl, ?_, fun i hi => ?_⟩⟩
    · have := World.block_lt_of_cell? _ _ (hcell 0 (by omega))
      rwa [add_block] at this
    · have hb := range_u8 hwz i
      exact ⟨zs.getD i 0, by simpa [List.getD] using hb.1, by simpa [List.getD] using hb.2, hcell i (by omega)⟩

end
end Go.Proofs.Ytogpfagdpkjmmaa

namespace Go.Proofs.Ytogpfagdpkjmmaa.pFnSlimJumps
open Go.ChangeShapes Go.WideShapes Go.ChangeAt Go.RowKit

set_option maxRecDepth 100000 in
theorem lifted (os : Os) (started : os.Started) (H : Type) (enc : TypeId × Value → H) :
    ReturnsInHanded {} Try.checked os 10 .any (Rows.fnSlimJumpsSpec.pre6 enc Try.prog Try.f10 Rows.fnSlimJumpsRow.domain false) (Rows.fnSlimJumpsSpec.post enc Try.prog Try.f10 false true false false) := by
  refine returnsInHanded_of_change (C := Try.checked) own started (by kernel_rfl) Try.func10
    (ChangeSpec.witness6 (enc := enc) (C := Try.checked) false ⟨#[], #[.slice none 0 0], []⟩ 8 (by kernel_rfl) (by kernel_rfl) (by kernel_rfl) (by kernel_rfl)) ?_
  intro W base args ds gs before hval0 hW hcnd _
  have hval : ∀ (j : Nat) t v, Try.f10.params[j]? = some t → args[j]? = some v → Value.okWide Try.prog W .any base t v := hval0
  have hW' := hW
  obtain ⟨p, q, hA0, hV, rfl, _, _⟩ := hW
  have hA : DataW.TrodAll enc Try.prog W 0 (fun _ => true) true Try.f10.params.toList args.toList ds p := hA0
  rw [Try.params10] at hA hval
  obtain ⟨v0, vs0, d0, ds0, p0, q0, hargs, rfl, rfl, h0, r0⟩ := trodAll_cons hA
  obtain ⟨rfl, rfl, rfl⟩ := trodAll_nil r0
  obtain rfl : args = #[v0] := by cases args; simp_all
  obtain ⟨rfl, rfl⟩ := trodVars_none hV
  obtain ⟨A0, n0, c0, rfl, l0, m0, b0⟩ := open_code (hval 0 35 v0 rfl rfl) h0
  clear hA0 hval0
  simp only [List.append_nil] at hW'
  refine (wFnSlimJumps A0 n0 c0 W b0 l0 m0).mono fun e W' ⟨he, hb⟩ => ?_
  subst he
  have lt0 : ∀ x ∈ p0, x.block < W.heap.size := fun x hx => hW'.lt x (hx)
  have hargs' : ∀ sp : Nat → Bool, (∀ x ∈ p0, sp x.block = true) → DataW.TrodAll enc Try.prog W' 0 sp true [35] [.slice A0 n0 c0] [d0] (p0) := fun sp hsp => by
    have h : DataW.TrodAll enc Try.prog W' 0 sp true _ _ _ _ := (trodAll_cons_mk (arg_kept laidOut (by kernel_rfl) (of_decide_eq_true (by kernel_rfl)) h0 hb lt0 (fun x hx => hsp x (hx))) trodAll_mk0)
    simpa only [List.append_nil] using h
  exact ⟨_, rfl, post_below (pa := p0) (pv := []) hW' (fun _ _ _ => (trodAll_cons_mk (shut_bool Try.underlying4 _) trodAll_mk0)) (fun sp hsp => hargs' sp hsp) (fun _ _ => rfl) (by simp)
    hb (ok_one (by kernel_rfl) rfl (okWide_bool_mk Try.underlying4 _))⟩

/-- THE STATEMENT. -/
theorem proved : Rows.FnSlimJumpsSaid :=
  OpenClaim.holds_of_wide 10 Try.f10 rfl rfl rfl rfl rfl rfl rfl ⟨rfl, rfl, rfl, rfl, rfl⟩ rfl rfl rfl rfl rfl (by kernel_rfl) Try.func10 (by kernel_rfl)
    (of_decide_eq_true (by kernel_rfl)) (by unfold Func.isWrapper; first | (rw [if_pos (by decide +kernel)]; kernel_rfl) | (rw [if_neg (by decide +kernel)]; exact ⟨rfl, rfl⟩))
    (fun os started H enc _ => lifted os started H enc)
#print axioms proved
end Go.Proofs.Ytogpfagdpkjmmaa.pFnSlimJumps
