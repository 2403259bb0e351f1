/- Copies of what stands in a field: every new block is a plain row (written by tools/gen_news.py). -/
import Derived.Test.YtkiekabfmdcemaaIntsToN
import Derived.Test.YtkiekabfmdcemaaKindSt
namespace Go.Proofs.Ytkiekabfmdcemaa
open Go.ChangeShapes Go.WideShapes Go.ChangeAt Go.RowKit

theorem ints_toN {xs : List Int} {A : Option Addr} {c : Nat} {S : Nat → Prop} {w : World} (hs : Fl w S 1 xs A xs.length c) (hn : xs.length ≤ 1048576) :
    Calls Try.prog 32 #[.slice A xs.length c] w fun e w' => ∃ (A' : Option Addr) (c' : Nat), e = .returned (.slice A' xs.length c') ∧ Fl w' (Born w w') 1 xs A' xs.length c' ∧ Below w.heap.size w w' ∧ News w w' :=
  (toIntSN hs hn).mono fun e w' ⟨v, h, ho, hb, hn⟩ => by
    obtain ⟨A', c', rfl, hf⟩ := own_born ho
    exact ⟨A', c', h, hf, hb, hn⟩

theorem says_toN {xs : List Int} {A : Option Addr} {c : Nat} {S : Nat → Prop} {w : World} (hs : Fl w S 2 xs A (xs.length / 2) c) (hn : xs.length / 2 ≤ 1048576) :
    Calls Try.prog 34 #[.slice A (xs.length / 2) c] w fun e w' => ∃ (A' : Option Addr) (c' : Nat), e = .returned (.slice A' (xs.length / 2) c') ∧ Fl w' (Born w w') 2 xs A' (xs.length / 2) c' ∧ Below w.heap.size w w' ∧ News w w' :=
  (toSaySN hs hn).mono fun e w' ⟨v, h, ho, hb, hn⟩ => by
    obtain ⟨A', c', rfl, hf⟩ := own_born ho
    exact ⟨A', c', h, hf, hb, hn⟩

set_option maxRecDepth 100000 in
theorem iss_toN {Ls : List (List Int)} {A : Option Addr} {c : Nat} {S : Nat → Prop} {w : World} (hs : Recs issShape w S Ls A Ls.length c) (hS : sizeI Ls ≤ 1048576) :
    Calls Try.prog 33 #[.slice A Ls.length c] w fun e w' => ∃ (A' : Option Addr) (c' : Nat), e = .returned (.slice A' Ls.length c') ∧ Recs issShape w' (Born w w') Ls A' Ls.length c' ∧ Below w.heap.size w w' ∧ News w w' := by
  have hll : Ls.length + innerI Ls ≤ 1048576 := hS
  have hmk := fun W => make_Iss Ls.length (by omega) W
  generalize hn : Ls.length = n at *
  have HN := Lib.hid hn
  have hn1 : n ≤ Ls.length := Nat.le_of_eq hn.symm
  have hn2 : Ls.length ≤ n := Nat.le_of_eq hn
  clear hn
  go_enter Try.func33, Try.ntmps33
  go_wp2_with fail
  go_loopw [4] (fun i wr => ∃ k : Nat, k ≤ n ∧ i = .int .i64 k ∧ Making issShape w 23 Ls k wr ∧ Go.RowKit.Hid (News w wr)) (fun i _ => n - (intOf i).toNat)
  case atStart =>
    have h := Making.start issShape w 23 Ls #[.slice none 0 0] HN.out.symm
    rw [show n * issShape.z = n from Nat.mul_one n] at h
    exact ⟨0, Nat.zero_le _, rfl, h, Lib.hid ((News.refl w).alloc _ _)⟩
  case round =>
    clear hmk
    obtain ⟨k, hk, rfl, hm, HNW⟩ := hrel
    by_cases hlt : k < n
    · have hk' : k < Ls.length := by omega
      have hsg := innerI_get hk'
      obtain ⟨a, A1, c1, rfl, hc, hsl⟩ := (hs.later (by decide) hm.below).iss.at_ k hk'
      go_wp2_with fail
      refine (ints_toN hsl (by omega)).mono ?_
      rintro e w1 ⟨A2, c2, rfl, s2, hb1, hn1⟩
      have HN1 := Lib.hid (HNW.out.trans hn1 hb1)
      clear hn1
      obtain ⟨⟨v0, q0⟩, z0⟩ := hm.place hk' hb1 0 (by decide)
      rw [show k * issShape.z + 0 = k from Nat.mul_one k] at q0 z0
      have HB := Lib.hid hb1
      have HS := Lib.hid s2
      have HM := Lib.hid hm
      clear hb1 s2 hm
      go_wp2_with fail
      go_roundw
      case rel =>
        refine ⟨k + 1, by omega, by go_num, ?_⟩
        have := HM.out.next hk' HB.out (us := [.slice A2 (Ls[k]).length c2]) ⟨A2, c2, rfl, HS.out⟩
        rw [show k * issShape.z = k from Nat.mul_one k] at this
        exact ⟨this, Lib.hid (HN1.out.set _ _ _)⟩
      case measure => simp [intOf]; omega
    · go_wp2_with fail
      go_ret
      obtain rfl : k = n := by omega
      have h := HN.out
      subst h
      exact ⟨_, _, rfl, hm.done (by unfold maxLen; omega), hm.below, HNW.out⟩

theorem stmts_toN {L : SL} {A : Option Addr} {c : Nat} {S : Nat → Prop} {w : World} (hs : SlP w S L A L.len c) (hn : L.size ≤ 1048576) :
    Calls Try.prog 21 #[.slice A L.len c] w fun e w' => ∃ (A' : Option Addr) (c' : Nat), e = .returned (.slice A' L.len c') ∧ SlP w' (Born w w') L A' L.len c' ∧ Below w.heap.size w w' ∧ News w w' :=
  toStmtSN L hn A _ c _ w hs.there (Nat.le_refl _)
end Go.Proofs.Ytkiekabfmdcemaa
