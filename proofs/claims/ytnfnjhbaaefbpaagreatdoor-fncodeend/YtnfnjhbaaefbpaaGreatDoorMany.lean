/- The model's count of statements, so deep at most. -/
import Derived.Test.YtnfnjhbaaefbpaaGreatDoorOkPure
import Derived.IntWalk
import Derived.Deep.Draws
import Derived.Deep.RegionWith
namespace Go.Proofs.YtnfnjhbaaefbpaaGreatDoor
open Go.ChangeShapes Go.WideShapes Go.ChangeAt Go.RowKit

def manyN : SL → Nat → Nat
  | .nil, _ => 0
  | .cons _ _ _ _ B E R, d => if d = 0 then 0 else 1 + manyN B (d - 1) + manyN E (d - 1) + manyN R d

theorem manyN_le (L : SL) (d : Nat) : manyN L d ≤ L.size := by
  induction L generalizing d with
  | nil => simp [manyN]
  | cons k x y n B E R hB hE hR =>
    simp only [manyN, SL.size]
    have := hB (d - 1); have := hE (d - 1); have := hR d
    split <;> omega

theorem manyN_zero (L : SL) : manyN L 0 = 0 := by cases L <;> simp [manyN]

/-- Of a list that is right all are counted. -/
theorem manyN_ok {L : SL} : ∀ {d r : Int}, 0 ≤ d → okL L d r = true → manyN L d.toNat = L.size := by
  induction L with
  | nil => intros; rfl
  | cons k x y n B E R hB hE hR =>
    intro d r hd h
    rw [okL_cons, Bool.and_eq_true] at h
    obtain ⟨hS, hR'⟩ := h
    simp only [okS, Bool.and_eq_true] at hS
    obtain ⟨⟨hh, hB'⟩, hE'⟩ := hS
    have h1 : 1 ≤ d := by
      by_cases h1 : 1 ≤ d
      · exact h1
      · rw [headB_deep h1] at hh; cases hh
    have e1 := hB (by omega) hB'
    have e2 := hE (by omega) hE'
    have e3 := hR hd hR'
    simp only [manyN, SL.size]
    rw [if_neg (by omega), show d.toNat - 1 = (d - 1).toNat from by omega, e1, e2, e3]

def ManySays (L : SL) (d : Int) : Prop := ∀ (A : Option Addr) (n c N : Nat) (w : World), Sl w N L A n c →
  Calls Tryz.prog 23 #[.slice A n c, .int .i64 d] w fun e w' => e = .returned (.int .i64 (manyN L d.toNat)) ∧ ∃ k, w' = w.drewN k

/-- At a round's head: so many of the first k. -/
def ManyRel (L : SL) (d : Int) (w : World) (v i : Value) (wr : World) : Prop :=
  ∃ (k s : Nat), k ≤ L.len ∧ i = .int .i64 k ∧ v = .int .i64 s ∧ s + manyN (L.drop k) d.toNat = manyN L d.toNat ∧ ∃ j, wr = w.drewN j

theorem Sl.drewN {w : World} {N : Nat} {L : SL} {A : Option Addr} {n c : Nat} (h : Sl w N L A n c) (j : Nat) : Sl (w.drewN j) N L A n c := ⟨h.len, h.le, h.top, h.nil, fun p hp => At.keep (w := w) (w' := w.drewN j) (fun _ _ => rfl) (h.at_ p hp)⟩

set_option maxRecDepth 100000 in
theorem many_any (m : Nat) : ∀ L : SL, L.size < m → L.size ≤ 1048576 → ∀ d : Int, 0 ≤ d → d ≤ 10 → ManySays L d := by
  induction m with
  | zero => intro L hL; omega
  | succ m ih =>
    intro L hL hS d hd0 hd1 A n c N w hs
    have IH := Lib.hid ih
    clear ih
    have hlen : n ≤ L.len := Nat.le_of_eq hs.len
    have hlen' : L.len ≤ n := Nat.le_of_eq hs.len.symm
    have hmax : n ≤ 9223372036854775807 := by have := hs.le; have := hs.top; unfold maxLen at this; omega
    by_cases hd : 0 < d
    · go_enter Tryz.func23, Tryz.ntmps23
      go_wp2_with fail
      go_loopw [5, 6] (fun v i wr => ManyRel L d w v i wr) (fun _ i _ => n - (intOf i).toNat)
      case atStart => exact ⟨0, 0, Nat.zero_le _, rfl, rfl, by rw [L.drop_zero, Nat.zero_add], 0, rfl⟩
      case round =>
        obtain ⟨k, s, hk, rfl, rfl, hsum, j, hw⟩ := hrel
        have HW := Lib.hid hw
        have hsr : Sl wr N L A n c := by rw [hw]; exact hs.drewN j
        clear hw
        have hle := manyN_le L d.toNat
        have hsb : s ≤ 1048576 := by omega
        have HS := Lib.hid hsum
        clear hsum hle
        by_cases hlt : k < n
        · obtain ⟨K, x, y, v, B, E, R, hd'⟩ := SL.drop_cons (L := L) (i := k) (by omega)
          have HD := Lib.hid hd'
          obtain ⟨s1, s2⟩ := SL.drop_size hd'
          clear hd'
          obtain ⟨a, rfl⟩ := hs.some (by omega)
          have hat := (hsr.at_ a rfl).drop k
          rw [HD.out] at hat
          obtain ⟨_, c0, c1, c2, c3, AB, cB, AE, cE, c4, c5, sB, sE, _⟩ := hat.first
          have eD : (d - 1).toNat = d.toNat - 1 := by omega
          have hB' := IH.out B (by omega) (by omega) (d - 1) (by omega) (by omega)
          have hE' := IH.out E (by omega) (by omega) (d - 1) (by omega) (by omega)
          unfold ManySays at hB' hE'
          rw [eD] at hB' hE'
          have HB := Lib.hid hB'
          have HE := Lib.hid hE'
          clear hB' hE' eD
          have mB := manyN_le B (d.toNat - 1)
          have mE := manyN_le E (d.toNat - 1)
          have hkn : (k : Int) < n := by omega
          have e1 : IntKind.i64.wrap ((s : Int) + 1) = (s : Int) + 1 := IntWalk.i64_in _ (by omega)
          have e2 : IntKind.i64.wrap (d - 1) = d - 1 := IntWalk.i64_in _ (by omega)
          have e3 : IntKind.i64.wrap ((s : Int) + 1 + (manyN B (d.toNat - 1) : Nat)) = (s : Int) + 1 + (manyN B (d.toNat - 1) : Nat) := IntWalk.i64_in _ (by omega)
          have e4 : IntKind.i64.wrap ((s : Int) + 1 + (manyN B (d.toNat - 1) : Nat) + (manyN E (d.toNat - 1) : Nat)) = (s : Int) + 1 + (manyN B (d.toNat - 1) : Nat) + (manyN E (d.toNat - 1) : Nat) := IntWalk.i64_in _ (by omega)
          go_wp2_with fail
          go_quiet (first
            | (go_at_call_of 23 (Value.slice AB B.len cB); exact Calls.quiet_of (HB.out AB B.len cB N _ (sB.drewN _)))
            | (go_at_call_of 23 (Value.slice AE E.len cE); exact Calls.quiet_of (HE.out AE E.len cE N _ (sE.drewN _))))
          clear e1 e2 e3 e4
          go_wp2_with fail
          go_roundw
          case rel =>
            refine ⟨k + 1, s + 1 + manyN B (d.toNat - 1) + manyN E (d.toNat - 1), by omega, by go_num, by go_num, ?_, j + nq, ?_⟩
            · have := HS.out
              rw [HD.out] at this
              rw [SL.drop_succ HD.out]
              simp only [manyN] at this
              rw [if_neg (by omega)] at this
              omega
            · rw [HW.out, World.drewN_drewN]
          case measure => simp [intOf]; omega
        · have hend := SL.drop_end (L := L) (i := k) (by omega)
          have H2 := Lib.hid (show manyN L d.toNat = s from by rw [← HS.out, hend]; rfl)
          clear hend
          have hlt' : decide (k < n) = false := decide_eq_false hlt
          go_wp2_with fail
          go_ret
          exact ⟨by rw [H2.out]; rfl, j, HW.out⟩
    · obtain rfl : d = 0 := by omega
      have H2 := Lib.hid (show manyN L (0 : Int).toNat = 0 from manyN_zero L)
      go_enter Tryz.func23, Tryz.ntmps23
      go_wp2_with fail
      go_loopw [5, 6] (fun v i wr => v = .int .i64 0 ∧ i = .int .i64 0 ∧ wr = w) (fun _ _ _ => 0)
      case atStart => exact ⟨rfl, rfl, rfl⟩
      case round =>
        obtain ⟨rfl, rfl, rfl⟩ := hrel
        go_wp2_with fail
        all_goals
          go_ret
          exact ⟨by rw [H2.out]; rfl, 0, rfl⟩

theorem specMany (L : SL) (h : L.size ≤ 1048576) (d : Int) (h0 : 0 ≤ d) (h1 : d ≤ 10) : ManySays L d := many_any (L.size + 1) L (by omega) h d h0 h1
end Go.Proofs.YtnfnjhbaaefbpaaGreatDoor
