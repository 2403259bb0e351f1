/- The program's search for a statement that is not right (slices.ContainsFunc over a closure), given what StmtOk says of the statements of the list. -/
import Derived.Test.YtnfnjhbaaefbpaaGreatDoorOkPure
namespace Go.Proofs.YtnfnjhbaaefbpaaGreatDoor
open Go.ChangeShapes Go.WideShapes Go.ChangeAt Go.RowKit

/-- What the program's StmtOk answers for every statement of fewer than m within it. -/
def StmtSays (m : Nat) : Prop := ∀ (k x y n d r : Int) (B E : SL) (A A' : Option Addr) (c c' N : Nat) (w : World), B.size + E.size < m → Sl w N B A B.len c → Sl w N E A' E.len c' → N ≤ w.heap.size → 0 ≤ d → d ≤ 3 → -1 ≤ r → r ≤ 1 →
  Calls Tryz.prog 33 #[.agg #[.int .i64 k, .int .i64 x, .int .i64 y, .int .i64 n, .slice A B.len c, .slice A' E.len c'], .int .i64 d, .int .i64 r] w fun e w' => e = .returned (.bool (okS k x y n B E d r)) ∧ Below w.heap.size w w'

theorem closBad (k x y n d r : Int) (B E : SL) (A A' : Option Addr) (c c' N g h m : Nat) (w : World) (hm : StmtSays m) (hlt : B.size + E.size < m) (sB : Sl w N B A B.len c) (sE : Sl w N E A' E.len c') (hN : N ≤ w.heap.size)
    (hg : w.cell? ⟨g, 0, none⟩ = some (.int .i64 (d + 1))) (hh : w.cell? ⟨h, 0, none⟩ = some (.int .i64 r)) (hgs : g < w.heap.size) (hhs : h < w.heap.size) (hd0 : 0 ≤ d) (hd2 : d ≤ 2) (hr0 : -1 ≤ r) (hr1 : r ≤ 1) :
    Calls Tryz.prog 63 #[.agg #[.int .i64 k, .int .i64 x, .int .i64 y, .int .i64 n, .slice A B.len c, .slice A' E.len c'], .pointer (some ⟨g, 0, none⟩), .pointer (some ⟨h, 0, none⟩)] w fun e w' => e = .returned (.bool (!okS k x y n B E d r)) ∧ Below w.heap.size w w' := by
  have hb0 : Below w.heap.size w (w.alloc (.cells #[.int .i64 k, .int .i64 x, .int .i64 y, .int .i64 n, .slice A B.len c, .slice A' E.len c'] 36)) := (Below.refl _ _).alloc (Nat.le_refl _) _
  have e1 : d + 1 - 1 = d := by omega
  have HM := Lib.hid hm
  clear hm
  go_enter Tryz.func63, Tryz.ntmps63
  go_wp2_with fail
  refine (HM.out k x y n d r B E A A' c c' N _ hlt (sB.below (hb0.mono hN)) (sE.below (hb0.mono hN)) (by simp; omega) hd0 (by omega) hr0 hr1).mono ?_
  rintro e w1 ⟨rfl, hb1⟩
  go_wp2_with fail
  go_ret
  exact ⟨rfl, hb0.trans (hb1.mono (by simp))⟩

/-- At a round's head no statement up to k is bad. -/
def IdxRel (L : SL) (d r : Int) (w : World) (i : Value) (wr : World) : Prop :=
  ∃ k : Nat, k ≤ L.len ∧ i = .int .i64 k ∧ okL L d r = okL (L.drop k) d r ∧ Below w.heap.size w wr

def IdxPost (L : SL) (d r : Int) (w : World) (e : Ending) (w' : World) : Prop := ∃ z : Int, e = .returned (.int .i64 z) ∧ decide (0 ≤ z) = !okL L d r ∧ Below w.heap.size w w'

theorem indexBad (L : SL) (d r : Int) (A : Option Addr) (n c N g h m : Nat) (w : World) (hm : StmtSays m) (hlt : L.size ≤ m) (hs : Sl w N L A n c) (hN : N ≤ w.heap.size)
    (hg : w.cell? ⟨g, 0, none⟩ = some (.int .i64 (d + 1))) (hh : w.cell? ⟨h, 0, none⟩ = some (.int .i64 r)) (hgs : g < w.heap.size) (hhs : h < w.heap.size) (hd0 : 0 ≤ d) (hd2 : d ≤ 2) (hr0 : -1 ≤ r) (hr1 : r ≤ 1) :
    Calls Tryz.prog 73 #[.slice A n c, .func (Fn.func 63) #[] #[.pointer (some ⟨g, 0, none⟩), .pointer (some ⟨h, 0, none⟩)]] w (IdxPost L d r w) := by
  have HM := Lib.hid hm
  have HG := Lib.hid hg
  have HH := Lib.hid hh
  clear hm hg hh
  have hlen : n ≤ L.len := Nat.le_of_eq hs.len
  have hlen' : L.len ≤ n := Nat.le_of_eq hs.len.symm
  have hmax : n ≤ 9223372036854775807 := by have := hs.le; have := hs.top; unfold maxLen at this; omega
  go_enter Tryz.func73, Tryz.ntmps73
  go_wp2_with fail
  go_loopw [8] (fun i wr => IdxRel L d r w i wr) (fun i _ => n - (intOf i).toNat)
  case atStart => exact ⟨0, Nat.zero_le _, rfl, by rw [L.drop_zero], Below.refl _ _⟩
  case round =>
    obtain ⟨k, hk, rfl, hz, hb⟩ := hrel
    have HZ := Lib.hid hz
    clear hz
    by_cases hlt' : k < n
    · obtain ⟨K, x, y, v, B, E, R, hd⟩ := SL.drop_cons (L := L) (i := k) (by omega)
      have HD := Lib.hid hd
      have s1 := SL.drop_size2 hd
      clear hd
      obtain ⟨a, rfl⟩ := hs.some (by omega)
      have hat := ((hs.at_ a rfl).below (hb.mono hN)).drop k
      rw [HD.out] at hat
      obtain ⟨_, c0, c1, c2, c3, AB, cB, AE, cE, c4, c5, sB, sE, _⟩ := hat.first
      have hsz := hb.size
      have hcall := closBad K x y v d r B E AB AE cB cE N g h m wr HM.out (by omega) sB sE (by omega) (by rw [hb.cell hgs]; exact HG.out) (by rw [hb.cell hhs]; exact HH.out) (by omega) (by omega) hd0 hd2 hr0 hr1
      have hstep : okL L d r = (okS K x y v B E d r && okL R d r) := by rw [HZ.out, HD.out, okL_cons]
      cases hS : okS K x y v B E d r
      · have H := Lib.hid (show okL L d r = false from by rw [hstep, hS]; rfl)
        rw [hS] at hcall
        have HC := Lib.hid hcall
        clear hS hstep hcall
        go_wp2_with fail
        refine HC.out.mono ?_
        rintro e w1 ⟨rfl, hb1⟩
        go_wp2_with fail
        go_ret
        exact ⟨k, rfl, by rw [H.out]; simp, hb.trans (hb1.mono hsz)⟩
      · have H := Lib.hid (show okL L d r = okL R d r from by rw [hstep, hS]; rfl)
        rw [hS] at hcall
        have HC := Lib.hid hcall
        clear hS hstep hcall
        go_wp2_with fail
        refine HC.out.mono ?_
        rintro e w1 ⟨rfl, hb1⟩
        go_wp2_with fail
        go_roundw
        case rel => exact ⟨k + 1, by omega, by go_num, by rw [SL.drop_succ HD.out]; exact H.out, hb.trans (hb1.mono hsz)⟩
        case measure => simp [intOf]; omega
    · have hend := SL.drop_end (L := L) (i := k) (by omega)
      have H2 := Lib.hid (show okL L d r = true from by rw [HZ.out, hend]; rfl)
      clear hend
      go_wp2_with fail
      go_ret
      exact ⟨-1, rfl, by rw [H2.out]; rfl, hb⟩

theorem containsBad (L : SL) (d r : Int) (A : Option Addr) (n c N g h m : Nat) (w : World) (hm : StmtSays m) (hlt : L.size ≤ m) (hs : Sl w N L A n c) (hN : N ≤ w.heap.size)
    (hg : w.cell? ⟨g, 0, none⟩ = some (.int .i64 (d + 1))) (hh : w.cell? ⟨h, 0, none⟩ = some (.int .i64 r)) (hgs : g < w.heap.size) (hhs : h < w.heap.size) (hd0 : 0 ≤ d) (hd2 : d ≤ 2) (hr0 : -1 ≤ r) (hr1 : r ≤ 1) :
    Calls Tryz.prog 64 #[.slice A n c, .func (Fn.func 63) #[] #[.pointer (some ⟨g, 0, none⟩), .pointer (some ⟨h, 0, none⟩)]] w fun e w' => e = .returned (.bool (!okL L d r)) ∧ Below w.heap.size w w' := by
  have HC := Lib.hid (indexBad L d r A n c N g h m w hm hlt hs hN hg hh hgs hhs hd0 hd2 hr0 hr1)
  clear hm hg hh
  go_enter Tryz.func64, Tryz.ntmps64
  go_wp2_with fail
  refine HC.out.mono ?_
  rintro e w1 ⟨z, rfl, hz, hb1⟩
  have HZ := Lib.hid hz
  clear hz
  go_wp2_with fail
  go_ret
  exact ⟨by rw [← HZ.out]; rfl, hb1⟩
end Go.Proofs.YtnfnjhbaaefbpaaGreatDoor
