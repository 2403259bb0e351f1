/- The contract of what visits the targets of the jumps of code, where they lie. -/
import Derived.Test.YtogpfagdpkjmmaaJumpsP
import Derived.Test.YtogpfagdpkjmmaaSeqStopG
import Derived.Test.YtogpfagdpkjmmaaIns
import Derived.ControlIn
import Derived.LoopIn
import Derived.LoopNIn
import Derived.TacticsInMore
import Derived.OwnWalkIn
namespace Go.Proofs.Ytogpfagdpkjmmaa
open Go.ChangeShapes Go.WideShapes Go.ChangeAt Go.RowKit

theorem wideFnT (k : Nat) : Fence.wide.fn k ↔ True := ⟨fun _ => trivial, fun _ => trivial⟩
attribute [local go_sem] Oper.semAt_some wideFnT

theorem heapLtT {w : World} {b : Nat} {o : Obj} (h : w.heap[b]? = some o) : b < w.heap.size := (Array.getElem?_eq_some_iff.1 h).1
theorem boxCellT {w : World} {b : Nat} {v : Value} {t : TypeId} (h : w.heap[b]? = some (.cells #[v] t (0, 0))) : w.cell? ⟨b, 0, none⟩ = some v := by simp [World.cell?, h]

/-- What it reads: its own box, and what the instructions do. -/
structure TgtRd (xs : List Int) (wb g n cap : Nat) (_s : Unit) (W : World) : Prop where
  box : W.heap[wb]? = some (.cells #[.slice (some ⟨g, 0, none⟩) n cap] 25 (0, 0))
  row : ∃ (ys : List Int) (base : Nat), W.ownsRow base 40 4 (.slice (some ⟨g, 0, none⟩) n cap) n (ints ys) ∧ ∀ i, i < n → opC ys i = opC xs i

set_option maxRecDepth 100000 in
set_option maxHeartbeats 4000000 in
theorem target_gs {xs : List Int} {g n cap wb B : Nat} {w : World} (k : Nat) (hn : n ≤ 60) (hrd : TgtRd xs wb g n cap () w) :
    SeqStopG Fence.wide k Try.prog 80 #[.pointer (some ⟨wb, 0, none⟩)] (fun x : Nat => #[.pointer (some ⟨g, x * 4 + 3, none⟩)]) (TgtRd xs wb g n cap) (fun pre x _ => x < n ∧ isT xs x = true ∧ pre = tgs xs x) (fun pre => pre = tgs xs n) (fun _ => True) B w := by
  intro l J Jx W hB hbW _ hY h0
  have hrd1 : TgtRd xs wb g n cap () W := by
    obtain ⟨ys, base, h1, h2⟩ := hrd.row
    exact ⟨(hbW.block wb (heapLtT hrd.box)).trans hrd.box, ys, base, own_below h1 hbW, h2⟩
  have HY := Lib.hid hY
  have H0 := Lib.hid h0
  have HRD := Lib.hid hrd1
  have cb := boxCellT hrd1.box
  clear hY h0 hrd hrd1 hbW
  refine callsIn_of_wp Try.func80 rfl trivial ?_ rfl
  simp only [Try.ntmps80, List.size_toArray, List.length_cons, List.length_nil, Nat.reduceAdd, Nat.reduceSub, Array.replicate_succ, Array.replicate_zero, List.push_toArray, List.append_toArray, List.nil_append, List.cons_append]
  have hdd : ∀ k : Nat, (Fence.wide.depth.isSome = true → 1 ≤ k) := fun k h => by cases h
  gi_wp2_with fail
  gi_loopw [7] (fun i wr => ∃ k : Nat, k ≤ n ∧ i = .int .i64 k ∧ J (tgs xs k) wr ∧ TgtRd xs wb g n cap () wr) (fun i _ => n - (intOf i).toNat)
  case atStart => exact ⟨0, Nat.zero_le _, rfl, H0.out, HRD.out⟩
  case round =>
    clear HRD H0 cb
    obtain ⟨k, hk, rfl, hj, hrd⟩ := hrel
    by_cases hlt : k < n
    · obtain ⟨ys, base, hrow, hop⟩ := hrd.row
      have hyl : ys.length = n * 4 := by have := hrow.1; rw [ints_len] at this; omega
      have cb := boxCellT hrd.box
      have c0 := hrow.cellAt (k * 4) (by omega)
      rw [ints_get (by omega)] at c0
      have h0 : ys.getD (k * 4) 0 = opC xs k := hop k hlt
      rw [h0] at c0
      have HJ := Lib.hid hj
      have HRD := Lib.hid hrd
      have htg := tgs_succ xs k
      cases hT : isT xs k
      · rw [hT] at htg
        have HTG := Lib.hid (show tgs xs (k + 1) = tgs xs k by rw [htg]; simp)
        have hne : opC xs k ≠ 6 ∧ opC xs k ≠ 7 := by unfold isT at hT; have := of_decide_eq_false hT; omega
        have e6 : (opC xs k == 6) = false := by simpa using hne.1
        have e7 : (opC xs k == 7) = false := by simpa using hne.2
        clear hj hrd htg hop hrow hne
        generalize opC xs k = o at *
        gi_wp2_with fail
        go_roundw
        case rel => exact ⟨k + 1, by omega, by go_num, by rw [HTG.out]; exact HJ.out, HRD.out⟩
        case measure => simp [intOf]; omega
      · rw [hT] at htg
        have HTG := Lib.hid (show tgs xs (k + 1) = tgs xs k ++ [k] by rw [htg]; simp)
        obtain ⟨fn, tmps, assign, body, hy, hR⟩ := HY.out (tgs xs k) k () wr ⟨hlt, hT, rfl⟩ hj hrd
        have HR1 := Lib.hid hR
        have h67 : opC xs k = 6 ∨ opC xs k = 7 := by unfold isT at hT; exact of_decide_eq_true hT
        clear hj hrd htg hop hrow hR
        have fin : ∀ w5, J (tgs xs k ++ [k]) w5 → TgtRd xs wb g n cap () w5 → ∃ k' : Nat, k' ≤ n ∧ Value.int .i64 ((k : Int) + 1) = .int .i64 k' ∧ J (tgs xs k') w5 ∧ TgtRd xs wb g n cap () w5 := fun w5 h1 h2 => ⟨k + 1, by omega, by go_num, by rw [HTG.out]; exact h1, h2⟩
        have FIN := Lib.hid fin
        clear fin
        generalize opC xs k = o at *
        rcases h67 with rfl | rfl
        all_goals
          gi_wp2_with fail
          refine ⟨hdd _, HR1.out.mono ?_⟩
          clear HR1 hy
          rintro e w5 (⟨rfl, hJ5, hR5⟩ | ⟨rfl, hX5⟩)
          · have RR := Lib.hid (FIN.out w5 hJ5 hR5)
            clear hJ5 hR5
            gi_wp2_with fail
            go_roundw
            case rel => exact RR.out
            case measure => simp [intOf]; omega
          · gi_wp2_with fail
            refine bodyPost_ret (results_none rfl _ _ _) rfl ?_
            exact ⟨⟨_, rfl⟩, .inr ⟨_, trivial, hX5⟩⟩
    · obtain rfl : k = n := by omega
      have HJ := Lib.hid hj
      clear hj hrd
      gi_wp2_with fail
      go_end0
      exact ⟨⟨_, rfl⟩, .inl ⟨_, rfl, HJ.out⟩⟩

/-- What it hands back: a function over a box of its own. -/
theorem eachTarget (k : Nat) (A : Option Addr) (n c : Nat) (w : World) :
    CallsIn Fence.wide k Try.prog 52 #[.slice A n c] w fun e w' => e = .returned (.func (.func 80) #[] #[.pointer (some ⟨w.heap.size, 0, none⟩)]) ∧ w' = w.alloc (.cells #[.slice A n c] 25) := by
  refine callsIn_of_wp Try.func52 rfl trivial ?_ rfl
  simp only [Try.ntmps52, List.size_toArray, List.length_cons, List.length_nil, Nat.reduceAdd, Nat.reduceSub, Array.replicate_succ, Array.replicate_zero, List.push_toArray, List.append_toArray, List.nil_append, List.cons_append]
  gi_wp2
  go_ret
  exact ⟨rfl, rfl⟩
end Go.Proofs.Ytogpfagdpkjmmaa
