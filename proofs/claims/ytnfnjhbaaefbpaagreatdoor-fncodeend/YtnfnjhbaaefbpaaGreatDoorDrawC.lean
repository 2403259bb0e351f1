/- What the laws draw of chapter 4: code, bent or not. -/
import Derived.Test.YtnfnjhbaaefbpaaGreatDoorBent4
import Derived.Test.YtnfnjhbaaefbpaaGreatDoorCodeBoth
namespace Go.Proofs.YtnfnjhbaaefbpaaGreatDoor
open Go.ChangeShapes Go.WideShapes Go.ChangeAt Go.RowKit

/-- Code of the call's own. -/
def CodePost (w : World) (e : Ending) (w' : World) : Prop :=
  ∃ (ys : List Int) (m : Nat) (A : Option Addr) (c : Nat), e = .returned (.slice A m c) ∧ w'.ownsRow w.heap.size 34 4 (.slice A m c) m (ints ys) ∧ m ≤ 30 ∧ Below w.heap.size w w'

theorem own_slice4 {w : World} {N z m : Nat} {e : TypeId} {v : Value} {fs : List Value} (ho : w.ownsRow N e z v m fs) : ∃ A c, v = .slice A m c := by
  obtain ⟨_, ⟨rfl, h0⟩ | ⟨g, cap, cur, rfl, _⟩⟩ := ho
  · exact ⟨none, 0, by rw [h0]⟩
  · exact ⟨_, _, rfl⟩

/-- The code of some list that is right, behind the reader. -/
theorem codeSome {g : Nat} {q : Int} {L : SL} {a : Addr} {c : Nat} {w : World} (hs : SlP w (fun b => b < w.heap.size) L (some a) L.len c) (hok : okP L = true) (hR : Rd w g q) :
    Calls Tryz.prog 9 #[.slice (some a) L.len c] w fun e w' => ∃ (r cap : Nat), e = .returned (.slice (some ⟨r, 0, none⟩) (L.lenC + 1) cap) ∧ L.lenC + 1 ≤ 29 ∧ w'.ownsRow w.heap.size 34 4 (.slice (some ⟨r, 0, none⟩) (L.lenC + 1) cap) (L.lenC + 1) (ints (codeP L)) ∧ Rd w' g q ∧ Below w.heap.size w w' := by
  have hz := okP_size hok
  refine (specCodeOf L (by omega) (some a) L.len c w.heap.size w (hs.sl fun _ h => h) (Nat.le_refl _)).mono ?_
  rintro e w' ⟨v, rfl, ho, hb⟩
  simp only [hok, if_true] at ho
  have hl := lenC_le L
  obtain ⟨r, cap, rfl, _, _⟩ := ho.form (by omega)
  exact ⟨r, cap, rfl, by omega, ho, hR.below hb hR.lt, hb⟩

theorem drawCodeOk (A : Option Addr) (n c : Nat) (w : World) (h : Bytes w A n) (hn : n ≤ c) (hc : c ≤ maxLen) :
    Calls Tryz.prog 13 #[.slice A n c] w (CodePost w) := by
  go_enter Tryz.func13, Tryz.ntmps13
  go_wp2_with fail
  refine (l11Open A n c _ h hn hc).mono ?_
  rintro e w1 ⟨rfl, hR, hb⟩
  go_wp2_with fail
  refine (some_ _ 0 _ hR (by omega) (by omega)).mono ?_
  rintro e w2 ⟨L, a, c2, q, rfl, hs, hok, hl, hz, q0, q1, hR2, hg2⟩
  have HOK := Lib.hid hok
  clear hok
  go_wp2_with fail
  refine (codeSome (hs.mono fun b hb => hb.2) HOK.out hR2).mono ?_
  rintro e w3 ⟨r, cap, rfl, h29, ho, hR3, hb3⟩
  have f3 := own_fl4 ho
  have h1 : 1 ≤ L.lenC + 1 := by omega
  generalize L.lenC + 1 = m at *
  clear ho
  go_wp2_with fail
  refine (bent4 w.heap.size q w3 f3 h1 (by omega) hR3 (by omega) (by omega)).mono ?_
  rintro e w4 ⟨ys, m4, v, q4, rfl, hm4, _, _, K⟩
  obtain ⟨A4, c4, rfl⟩ := own_slice4 K.own
  have b4 : Below w.heap.size w w4 := hb.trans (((Below.of_grown hg2 (Nat.le_refl _) hR.lt).trans (hb3.mono (by have := hg2.size; have := hb.size; omega))).trans (Below.of_grown K.grown (Nat.le_refl _) hR3.lt))
  have HF := Lib.hid (show CodePost w (.returned (.slice A4 m4 c4)) w4 from ⟨ys, m4, A4, c4, rfl, own_mono K.own (by have := hb.size; have := hg2.size; have := hb3.size; omega), by omega, b4⟩)
  clear K f3 hs
  go_wp2_with fail
  go_ret
  exact HF.out

end Go.Proofs.YtnfnjhbaaefbpaaGreatDoor
