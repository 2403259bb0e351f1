/- CodeOk of the program. -/
import Derived.Test.YtogpfagdpkjmmaaHasRooms
namespace Go.Proofs.Ytogpfagdpkjmmaa
open Go.ChangeShapes Go.WideShapes Go.ChangeAt Go.RowKit

set_option maxRecDepth 100000 in
set_option maxHeartbeats 4000000 in
theorem codeOk {xs : List Int} {A : Option Addr} {n c : Nat} {S : Nat → Prop} {w : World} (hs : Fl w S 4 xs A n c) :
    Calls Try.prog 17 #[.slice A n c] w fun e w' => e = .returned (.bool (codeB xs n)) ∧ Below w.heap.size w w' := by
  have hmax : n ≤ 9223372036854775807 := by have := hs.le; have := hs.top; unfold maxLen at this; omega
  by_cases hn : 1 ≤ n ∧ n ≤ 60
  · obtain ⟨hn1, hn60⟩ := hn
    have HL := Lib.hid hs.len
    go_enter Try.func17, Try.ntmps17
    go_wp2_with fail
    refine (formsOf n w).mono ?_
    rintro e w1 ⟨⟨g, b, rfl, hg, hbb, hf⟩, hb1⟩
    have HF := Lib.hid hf
    have z1 := hb1.size
    have hgl : g < w1.heap.size := (Array.getElem?_eq_some_iff.1 hf.1).1
    clear hf
    go_wp2_with fail
    go_loopw [19] (fun i wr => ∃ k : Nat, k ≤ n ∧ i = .int .i64 k ∧ (∀ j, j < k → insB (opC xs j) (aC xs j) (bC xs j) (toC xs j) n = true ∧ (opC xs j = 13 ↔ j + 1 = n)) ∧ Below w1.heap.size w1 wr) (fun i _ => n - (intOf i).toNat)
    case atStart => exact ⟨0, Nat.zero_le _, rfl, fun j hj => by omega, Below.refl _ _⟩
    case round =>
      obtain ⟨k, hk, rfl, hd, hb⟩ := hrel
      have HD := Lib.hid hd
      have hsz := hb.size
      clear hd
      by_cases hlt : k < n
      · obtain ⟨a, rfl⟩ := hs.some (by omega)
        obtain ⟨c0, c1, c2, c3⟩ := ((hs.later hb1).later hb).four k hlt
        have hin := fun (W : World) (hW : Below wr.heap.size wr W) => fits (xs.getD (k * 4) 0) (xs.getD (k * 4 + 1) 0) (xs.getD (k * 4 + 2) 0) (xs.getD (k * 4 + 3) 0) n g b W ((HF.out.below hb hgl HF.out.2.2).below hW (by omega) (by have := HF.out.2.2; omega))
        have e0 : opC xs k = xs.getD (k * 4) 0 := rfl
        have e1 : insB (opC xs k) (aC xs k) (bC xs k) (toC xs k) n = insB (xs.getD (k * 4) 0) (xs.getD (k * 4 + 1) 0) (xs.getD (k * 4 + 2) 0) (xs.getD (k * 4 + 3) 0) n := rfl
        generalize hbb' : insB (xs.getD (k * 4) 0) (xs.getD (k * 4 + 1) 0) (xs.getD (k * 4 + 2) 0) (xs.getD (k * 4 + 3) 0) n = bb at hin e1
        clear hbb'
        generalize xs.getD (k * 4) 0 = x0 at c0 hin e0
        generalize xs.getD (k * 4 + 1) 0 = x1 at c1 hin
        generalize xs.getD (k * 4 + 2) 0 = x2 at c2 hin
        generalize xs.getD (k * 4 + 3) 0 = x3 at c3 hin
        cases bb
        · have hf : codeB xs n = false := codeB_not hlt (fun h => by rw [e1] at h; cases h.1)
          have HFL := Lib.hid hf
          have HI := Lib.hid hin
          clear hf hin e0 e1
          go_wp2_with fail
          refine (HI.out _ ((Below.refl _ _).alloc (Nat.le_refl _) _)).mono ?_
          rintro e w2 ⟨rfl, hb2⟩
          have b2 : Below wr.heap.size wr w2 := ((Below.refl _ _).alloc (Nat.le_refl _) _).trans (hb2.mono (by simp))
          have d0 : w2.cell? ⟨wr.heap.size, 0, none⟩ = some (.int .i64 x0) := by
            rw [hb2.cell (p := ⟨wr.heap.size, 0, none⟩) (by simp)]
            simp
          have bz : Below w.heap.size w w2 := (hb1.trans (hb.mono (by omega))).trans (b2.mono (by omega))
          have bz1 : Below w1.heap.size w1 w2 := hb.trans (b2.mono hsz)
          clear c0 c1 c2 c3 hb2
          go_wp2_with fail
          go_ret
          exact ⟨by rw [HFL.out]; rfl, bz⟩
        · have HI := Lib.hid hin
          have E1 := Lib.hid e1
          clear hin e1
          by_cases hiff : (opC xs k = 13 ↔ k + 1 = n)
          · have hnn : ∀ j, j < k + 1 → insB (opC xs j) (aC xs j) (bC xs j) (toC xs j) n = true ∧ (opC xs j = 13 ↔ j + 1 = n) := fun j hj => by
              by_cases e : j = k
              · subst e; exact ⟨E1.out, hiff⟩
              · exact HD.out j (by omega)
            have HN := Lib.hid hnn
            have hq : (x0 == 13) = ((k : Int) == (n : Int) - 1) := by
              rw [Bool.eq_iff_iff]
              simp only [beq_iff_eq]
              rw [← e0, hiff]; omega
            generalize hx : (x0 == 13) = p at *
            have hq' : ((k : Int) == (n : Int) - 1) = p := hq.symm
            clear hnn e0 hiff hq
            go_wp2_with fail
            refine (HI.out _ ((Below.refl _ _).alloc (Nat.le_refl _) _)).mono ?_
            rintro e w2 ⟨rfl, hb2⟩
            have b2 : Below wr.heap.size wr w2 := ((Below.refl _ _).alloc (Nat.le_refl _) _).trans (hb2.mono (by simp))
            have d0 : w2.cell? ⟨wr.heap.size, 0, none⟩ = some (.int .i64 x0) := by
              rw [hb2.cell (p := ⟨wr.heap.size, 0, none⟩) (by simp)]
              simp
            have bz : Below w.heap.size w w2 := (hb1.trans (hb.mono (by omega))).trans (b2.mono (by omega))
            have bz1 : Below w1.heap.size w1 w2 := hb.trans (b2.mono hsz)
            clear c0 c1 c2 c3 hb2
            go_wp2_with fail
            go_roundw
            case rel => exact ⟨k + 1, by omega, by go_num, HN.out, bz1⟩
            case measure => simp [intOf]; omega
          · have hf : codeB xs n = false := codeB_not hlt (fun h => hiff h.2)
            have HFL := Lib.hid hf
            have hq : (x0 == 13) = !((k : Int) == (n : Int) - 1) := by
              rw [e0] at hiff
              cases hp : (x0 == 13) <;> cases hp' : ((k : Int) == (n : Int) - 1) <;> simp only [beq_iff_eq, beq_eq_false_iff_ne, ne_eq] at hp hp' <;> first | rfl | (exfalso; apply hiff; constructor <;> intro h <;> omega)
            generalize hx : ((k : Int) == (n : Int) - 1) = p at *
            clear hf e0 hiff
            go_wp2_with fail
            refine (HI.out _ ((Below.refl _ _).alloc (Nat.le_refl _) _)).mono ?_
            rintro e w2 ⟨rfl, hb2⟩
            have b2 : Below wr.heap.size wr w2 := ((Below.refl _ _).alloc (Nat.le_refl _) _).trans (hb2.mono (by simp))
            have d0 : w2.cell? ⟨wr.heap.size, 0, none⟩ = some (.int .i64 x0) := by
              rw [hb2.cell (p := ⟨wr.heap.size, 0, none⟩) (by simp)]
              simp
            have bz : Below w.heap.size w w2 := (hb1.trans (hb.mono (by omega))).trans (b2.mono (by omega))
            have bz1 : Below w1.heap.size w1 w2 := hb.trans (b2.mono hsz)
            clear c0 c1 c2 c3 hb2
            go_wp2_with fail
            go_ret
            exact ⟨by rw [HFL.out]; rfl, bz⟩
      · have hright : Right xs n := ⟨HL.out, hn1, hn60, fun i hi => (HD.out i (by omega)).1, fun i hi => (HD.out i (by omega)).2⟩
        have hc := codeB_right hright
        have hro := hasRooms ((hs.later hb1).later hb) hright (HF.out.below hb hgl HF.out.2.2)
        have HC := Lib.hid hc
        have HRO := Lib.hid hro
        have bw : Below w.heap.size w wr := hb1.trans (hb.mono (by omega))
        clear hc hro hright
        go_wp2_with fail
        refine HRO.out.mono ?_
        rintro e w2 ⟨rfl, hb2⟩
        go_wp2_with fail
        go_ret
        exact ⟨by rw [HC.out]; rfl, bw.trans (hb2.mono (by omega))⟩
  · rw [codeB_few hn]
    have hn' : n < 1 ∨ 60 < n := by omega
    clear hn
    rcases hn' with h | h
    · obtain rfl : n = 0 := by omega
      go_enter Try.func17, Try.ntmps17
      go_wp2
      go_ret
      exact ⟨rfl, Below.refl _ _⟩
    · go_enter Try.func17, Try.ntmps17
      go_wp2
      go_ret
      exact ⟨rfl, Below.refl _ _⟩
end Go.Proofs.Ytogpfagdpkjmmaa
