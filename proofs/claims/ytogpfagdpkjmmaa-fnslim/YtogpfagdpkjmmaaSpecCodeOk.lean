/- CodeOk of the model. -/
import Derived.Test.YtogpfagdpkjmmaaSpecRooms
import Derived.Test.YtogpfagdpkjmmaaCodeOkIns
namespace Go.Proofs.Ytogpfagdpkjmmaa
open Go.ChangeShapes Go.WideShapes Go.ChangeAt Go.RowKit

set_option maxRecDepth 100000 in
set_option maxHeartbeats 4000000 in
theorem specCodeOk {xs : List Int} {A : Option Addr} {n c : Nat} {S : Nat → Prop} {w : World} (hs : Fl w S 4 xs A n c) :
    Calls Try.prog 15 #[.slice A n c] w fun e w' => e = .returned (.bool (codeB xs n)) ∧ Below w.heap.size w w' := by
  have hmax : n ≤ 9223372036854775807 := by have := hs.le; have := hs.top; unfold maxLen at this; omega
  by_cases hn : 1 ≤ n ∧ n ≤ 60
  · obtain ⟨hn1, hn60⟩ := hn
    have hl := hs.len
    obtain ⟨a, rfl⟩ := hs.some (by omega)
    by_cases hend : opC xs (n - 1) = 13
    · have ce := (hs.four (n - 1) (by omega)).1
      rw [show xs.getD ((n - 1) * 4) 0 = 13 from hend] at ce
      obtain ⟨m, rfl⟩ : ∃ m, n = m + 1 := ⟨n - 1, by omega⟩
      rw [show m + 1 - 1 = m from rfl] at ce hend
      have HEND := Lib.hid hend
      have HL := Lib.hid hl
      clear hend hl hn1
      go_enter Try.func15, Try.ntmps15
      go_wp2_with fail
      go_loopw [4] (fun i wr => ∃ k : Nat, k ≤ m + 1 ∧ i = .int .i64 k ∧ (∀ j, j < k → insB (opC xs j) (aC xs j) (bC xs j) (toC xs j) (m + 1) = true ∧ (opC xs j = 13 → j = m)) ∧ Below w.heap.size w wr) (fun i _ => m + 1 - (intOf i).toNat)
      case atStart => exact ⟨0, Nat.zero_le _, rfl, fun j hj => by omega, Below.refl _ _⟩
      case round =>
        obtain ⟨k, hk, rfl, hd, hb⟩ := hrel
        have HD := Lib.hid hd
        have hsz := hb.size
        clear hd ce
        by_cases hlt : k < m + 1
        · obtain ⟨c0, c1, c2, c3⟩ := (hs.later hb).four k hlt
          have hin := fun W => specIns (xs.getD (k * 4) 0) (xs.getD (k * 4 + 1) 0) (xs.getD (k * 4 + 2) 0) (xs.getD (k * 4 + 3) 0) (m + 1) W
          have e0 : opC xs k = xs.getD (k * 4) 0 := rfl
          have e1 : insB (opC xs k) (aC xs k) (bC xs k) (toC xs k) (m + 1) = insB (xs.getD (k * 4) 0) (xs.getD (k * 4 + 1) 0) (xs.getD (k * 4 + 2) 0) (xs.getD (k * 4 + 3) 0) (m + 1) := rfl
          generalize hbb : insB (xs.getD (k * 4) 0) (xs.getD (k * 4 + 1) 0) (xs.getD (k * 4 + 2) 0) (xs.getD (k * 4 + 3) 0) (m + 1) = bb at hin e1
          clear hbb
          generalize xs.getD (k * 4) 0 = x0 at c0 hin e0
          generalize xs.getD (k * 4 + 1) 0 = x1 at c1 hin
          generalize xs.getD (k * 4 + 2) 0 = x2 at c2 hin
          generalize xs.getD (k * 4 + 3) 0 = x3 at c3 hin
          have ba := World.block_lt_of_cell? _ _ c0
          have C0 := Lib.hid (fun (W : World) (hW : Below wr.heap.size wr W) => (hW.cell ba).trans c0)
          cases bb
          · have hf : codeB xs (m + 1) = false := codeB_not hlt (fun h => by rw [e1] at h; cases h.1)
            have HF := Lib.hid hf
            have HI := Lib.hid hin
            clear hf hin e0 e1
            go_wp2_with fail
            refine (HI.out _).mono ?_
            rintro e w1 ⟨rfl, hb1⟩
            go_wp2_with fail
            go_ret
            exact ⟨by rw [HF.out]; rfl, hb.trans (hb1.mono hsz)⟩
          · have HI := Lib.hid hin
            have E1 := Lib.hid e1
            clear hin e1
            by_cases h13 : x0 = 13
            · by_cases hkl : k = m
              · have hn : ∀ j, j < k + 1 → insB (opC xs j) (aC xs j) (bC xs j) (toC xs j) (m + 1) = true ∧ (opC xs j = 13 → j = m) := fun j hj => by
                  by_cases e : j = k
                  · subst e; exact ⟨E1.out, fun _ => by omega⟩
                  · exact HD.out j (by omega)
                have HN := Lib.hid hn
                have hge : ¬ (k : Int) < (m : Int) := by omega
                subst h13
                clear hn e0 hkl
                go_wp2_with fail
                refine (HI.out _).mono ?_
                rintro e w1 ⟨rfl, hb1⟩
                have d0 := C0.out w1 hb1
                clear c0 c1 c2 c3
                go_wp2_with fail
                go_roundw
                case rel => exact ⟨k + 1, by omega, by go_num, HN.out, hb.trans (hb1.mono hsz)⟩
                case measure => simp [intOf]; omega
              · have hf : codeB xs (m + 1) = false := codeB_not hlt (fun h => by have := h.2.1 (e0.trans h13); omega)
                have HF := Lib.hid hf
                subst h13
                clear hf e0
                have hkm : (k : Int) < (m : Int) := by omega
                go_wp2_with fail
                refine (HI.out _).mono ?_
                rintro e w1 ⟨rfl, hb1⟩
                have d0 := C0.out w1 hb1
                clear c0 c1 c2 c3
                go_wp2_with fail
                go_ret
                exact ⟨by rw [HF.out]; rfl, hb.trans (hb1.mono hsz)⟩
            · have hn : ∀ j, j < k + 1 → insB (opC xs j) (aC xs j) (bC xs j) (toC xs j) (m + 1) = true ∧ (opC xs j = 13 → j = m) := fun j hj => by
                by_cases e : j = k
                · subst e; exact ⟨E1.out, fun h => absurd (e0.symm.trans h) h13⟩
                · exact HD.out j (by omega)
              have HN := Lib.hid hn
              have h13' : (x0 == 13) = false := by simpa using h13
              clear hn e0 h13
              go_wp2_with fail
              refine (HI.out _).mono ?_
              rintro e w1 ⟨rfl, hb1⟩
              have d0 := C0.out w1 hb1
              clear c0 c1 c2 c3
              go_wp2_with fail
              go_roundw
              case rel => exact ⟨k + 1, by omega, by go_num, HN.out, hb.trans (hb1.mono hsz)⟩
              case measure => simp [intOf]; omega
        · have hright : Right xs (m + 1) := by
            refine ⟨HL.out, by omega, hn60, fun i hi => (HD.out i (by omega)).1, fun i hi => ⟨fun h => by have := (HD.out i (by omega)).2 h; omega, fun h => ?_⟩⟩
            obtain rfl : i = m := by omega
            exact HEND.out
          have hc := codeB_right hright
          have hro := specRooms (hs.later hb) hright
          have HC := Lib.hid hc
          have HRO := Lib.hid hro
          clear hc hro hright
          go_wp2_with fail
          refine HRO.out.mono ?_
          rintro e w1 ⟨⟨v, rfl⟩, hb1⟩
          go_wp2_with fail
          go_ret
          exact ⟨by rw [HC.out]; rfl, hb.trans (hb1.mono hsz)⟩
    · have hf : codeB xs n = false := codeB_not (i := n - 1) (by omega) (fun h => hend (h.2.2 (by omega)))
      rw [hf]
      have ce := (hs.four (n - 1) (by omega)).1
      have hx : opC xs (n - 1) = xs.getD ((n - 1) * 4) 0 := rfl
      rw [hx] at hend
      obtain ⟨m, rfl⟩ : ∃ m, n = m + 1 := ⟨n - 1, by omega⟩
      rw [show m + 1 - 1 = m from rfl] at ce hend
      clear hf hx hl hn1
      generalize xs.getD (m * 4) 0 = y at ce hend
      have hy : (y != 13) = true := by simpa using hend
      have hg1 : decide ((m : Int) + 1 < 1) = false := decide_eq_false (by omega)
      have hg2 : decide ((60 : Int) < (m : Int) + 1) = false := decide_eq_false (by omega)
      clear hend
      go_enter Try.func15, Try.ntmps15
      go_wp2_with fail
      go_ret
      exact ⟨rfl, Below.refl _ _⟩
  · rw [codeB_few hn]
    have hn' : n < 1 ∨ 60 < n := by omega
    clear hn
    rcases hn' with h | h
    · obtain rfl : n = 0 := by omega
      go_enter Try.func15, Try.ntmps15
      go_wp2
      go_ret
      exact ⟨rfl, Below.refl _ _⟩
    · go_enter Try.func15, Try.ntmps15
      go_wp2
      go_ret
      exact ⟨rfl, Below.refl _ _⟩
end Go.Proofs.Ytogpfagdpkjmmaa
