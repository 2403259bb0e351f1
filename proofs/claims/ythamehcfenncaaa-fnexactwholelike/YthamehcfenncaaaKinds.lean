/- The laws' count, copy and comparison of what stands in a field, in one form for each kind: numbers, what was said, lists of numbers. -/
import Derived.Test.YthamehcfenncaaaShape
import Derived.Test.YthamehcfenncaaaIss
import Derived.Test.YthamehcfenncaaaSayTo
namespace Go.Proofs.Ythamehcfenncaaa
open Go.ChangeShapes Go.WideShapes Go.ChangeAt Go.RowKit

theorem fl_one {w : World} {S : Nat → Prop} {xs : List Int} {A : Option Addr} {n c : Nat} (h : Fl w S 1 xs A n c) : n = xs.length := by have := h.len; omega
theorem fl_two {w : World} {S : Nat → Prop} {xs : List Int} {A : Option Addr} {n c : Nat} (h : Fl w S 2 xs A n c) : n = xs.length / 2 := by have := h.len; omega

/-- A row that the call owns and that is there: its blocks were born. -/
theorem own_born {w w' : World} {e : TypeId} {z : Nat} {v : Value} {n : Nat} {xs : List Int} (ho : w'.ownsRow w.heap.size e z v n (ints xs)) :
    ∃ (A : Option Addr) (c : Nat), v = .slice A n c ∧ Fl w' (Born w w') z xs A n c := by
  obtain ⟨A, c, rfl, hf⟩ := own_fl ho
  exact ⟨A, c, rfl, hf.mono fun b hb => own_at ho hb⟩

theorem ints_sz {xs : List Int} {A : Option Addr} {c : Nat} {S : Nat → Prop} {w : World} {left : Int} (hs : Fl w S 1 xs A xs.length c) (h0 : 0 ≤ left) (h1 : left ≤ 1048576) :
    Calls Try.prog 55 #[.slice A xs.length c, .int .i64 left] w fun e w' => e = .returned (.int .i64 (szI xs.length left)) ∧ Below w.heap.size w w' :=
  (szIntS A xs.length c left w (Nat.le_trans hs.le hs.top) h0 h1).mono fun e w' ⟨h, h'⟩ => ⟨h, by rw [h']; exact Below.refl _ _⟩
theorem ints_to {xs : List Int} {A : Option Addr} {c : Nat} {S : Nat → Prop} {w : World} (hs : Fl w S 1 xs A xs.length c) (hn : xs.length ≤ 1048576) :
    Calls Try.prog 31 #[.slice A xs.length c] w fun e w' => ∃ (A' : Option Addr) (c' : Nat), e = .returned (.slice A' xs.length c') ∧ Fl w' (Born w w') 1 xs A' xs.length c' ∧ Below w.heap.size w w' :=
  (toIntS hs hn).mono fun e w' ⟨v, h, ho, hb⟩ => by
    obtain ⟨A', c', rfl, hf⟩ := own_born ho
    exact ⟨A', c', h, hf, hb⟩

theorem says_sz {xs : List Int} {A : Option Addr} {c : Nat} {S : Nat → Prop} {w : World} {left : Int} (hs : Fl w S 2 xs A (xs.length / 2) c) (h0 : 0 ≤ left) (h1 : left ≤ 1048576) :
    Calls Try.prog 57 #[.slice A (xs.length / 2) c, .int .i64 left] w fun e w' => e = .returned (.int .i64 (szI (xs.length / 2) left)) ∧ Below w.heap.size w w' :=
  (szSayS A (xs.length / 2) c left w (Nat.le_trans hs.le hs.top) h0 h1).mono fun e w' ⟨h, h'⟩ => ⟨h, by rw [h']; exact Below.refl _ _⟩
theorem says_to {xs : List Int} {A : Option Addr} {c : Nat} {S : Nat → Prop} {w : World} (hs : Fl w S 2 xs A (xs.length / 2) c) (hn : xs.length / 2 ≤ 1048576) :
    Calls Try.prog 62 #[.slice A (xs.length / 2) c] w fun e w' => ∃ (A' : Option Addr) (c' : Nat), e = .returned (.slice A' (xs.length / 2) c') ∧ Fl w' (Born w w') 2 xs A' (xs.length / 2) c' ∧ Below w.heap.size w w' :=
  (toSayS hs hn).mono fun e w' ⟨v, h, ho, hb⟩ => by
    obtain ⟨A', c', rfl, hf⟩ := own_born ho
    exact ⟨A', c', h, hf, hb⟩

def issShape : Shape (List Int) where
  z := 1
  I w S vs x := ∃ (A : Option Addr) (c : Nat), vs = [.slice A x.length c] ∧ Fl w S 1 x A x.length c
  len := by rintro w S vs x ⟨A, c, rfl, _⟩; rfl
  keep := by rintro w w' S vs x ⟨A, c, rfl, h⟩ hc; exact ⟨A, c, rfl, h.keep hc⟩
  mono := by rintro w S T vs x ⟨A, c, rfl, h⟩ hT; exact ⟨A, c, rfl, h.mono hT⟩
  real := by rintro w S vs x ⟨A, c, rfl, h⟩; exact ⟨A, c, rfl, h.real⟩

theorem Recs.iss {w : World} {S : Nat → Prop} {Ls : List (List Int)} {A : Option Addr} {n c : Nat} (hr : Recs issShape w S Ls A n c) : Iss w Ls A n c :=
  ⟨hr.len, hr.le, hr.top, fun i hi => by
    obtain ⟨a, vs, rfl, _, hq, A', c', rfl, hf⟩ := hr.at_ i hi
    refine ⟨a, A', c', rfl, ?_, hf.mono fun _ _ => trivial⟩
    have h0 := hq 0 (by decide)
    rw [show i * issShape.z = i from Nat.mul_one i] at h0
    exact h0⟩

theorem iss_sz {Ls : List (List Int)} {A : Option Addr} {c : Nat} {S : Nat → Prop} {w : World} {left : Int} (hs : Recs issShape w S Ls A Ls.length c) (h0 : 0 ≤ left) (h1 : left ≤ 1048576) :
    Calls Try.prog 56 #[.slice A Ls.length c, .int .i64 left] w fun e w' => e = .returned (.int .i64 (szI (sizeI Ls) left)) ∧ Below w.heap.size w w' := szIntSS hs.iss h0 h1

theorem iss_eq {Ls : List (List Int)} {A A' : Option Addr} {c c' : Nat} {S T : Nat → Prop} {w : World} (hs : Recs issShape w S Ls A Ls.length c) (ht : Recs issShape w T Ls A' Ls.length c') :
    Calls Try.prog 66 #[.slice A Ls.length c, .slice A' Ls.length c'] w fun e w' => e = .returned (.bool true) ∧ Below w.heap.size w w' := eqIntSS hs.iss ht.iss

set_option maxRecDepth 100000 in
theorem iss_to {Ls : List (List Int)} {A : Option Addr} {c : Nat} {S : Nat → Prop} {w : World} (hs : Recs issShape w S Ls A Ls.length c) (hS : sizeI Ls ≤ 1048576) :
    Calls Try.prog 61 #[.slice A Ls.length c] w fun e w' => ∃ (A' : Option Addr) (c' : Nat), e = .returned (.slice A' Ls.length c') ∧ Recs issShape w' (Born w w') Ls A' Ls.length c' ∧ Below w.heap.size w w' := by
  have hll : Ls.length + innerI Ls ≤ 1048576 := hS
  have hmk := fun W => make_Iss Ls.length (by omega) W
  generalize hn : Ls.length = n at *
  have HN := Lib.hid hn
  have hn1 : n ≤ Ls.length := Nat.le_of_eq hn.symm
  have hn2 : Ls.length ≤ n := Nat.le_of_eq hn
  clear hn
  go_enter Try.func61, Try.ntmps61
  go_wp2_with fail
  go_loopw [4] (fun i wr => ∃ k : Nat, k ≤ n ∧ i = .int .i64 k ∧ Making issShape w 24 Ls k wr) (fun i _ => n - (intOf i).toNat)
  case atStart =>
    have h := Making.start issShape w 24 Ls #[.slice none 0 0] HN.out.symm
    rw [show n * issShape.z = n from Nat.mul_one n] at h
    exact ⟨0, Nat.zero_le _, rfl, h⟩
  case round =>
    clear hmk
    obtain ⟨k, hk, rfl, hm⟩ := hrel
    by_cases hlt : k < n
    · have hk' : k < Ls.length := by omega
      have hsg := innerI_get hk'
      obtain ⟨a, A1, c1, rfl, hc, hsl⟩ := (hs.later (by decide) hm.below).iss.at_ k hk'
      go_wp2_with fail
      refine (ints_to hsl (by omega)).mono ?_
      rintro e w1 ⟨A2, c2, rfl, s2, hb1⟩
      obtain ⟨⟨v0, q0⟩, z0⟩ := hm.place hk' hb1 0 (by decide)
      rw [show k * issShape.z + 0 = k from Nat.mul_one k] at q0 z0
      have HB := Lib.hid hb1
      have HS := Lib.hid s2
      have HM := Lib.hid hm
      clear hb1 s2 hm
      go_wp2_with fail
      go_roundw
      case rel =>
        refine ⟨k + 1, by omega, by go_num, ?_⟩
        have := HM.out.next hk' HB.out (us := [.slice A2 (Ls[k]).length c2]) ⟨A2, c2, rfl, HS.out⟩
        rw [show k * issShape.z = k from Nat.mul_one k] at this
        exact this
      case measure => simp [intOf]; omega
    · go_wp2_with fail
      go_ret
      obtain rfl : k = n := by omega
      have h := HN.out
      subst h
      exact ⟨_, _, rfl, hm.done (by unfold maxLen; omega), hm.below⟩
end Go.Proofs.Ythamehcfenncaaa
