/- What the laws draw of chapter 4: code twice, one or nearly. -/
import Derived.Test.YtogpfagdpkjmmaaDrawC
namespace Go.Proofs.Ytogpfagdpkjmmaa
open Go.ChangeShapes Go.WideShapes Go.ChangeAt Go.RowKit

theorem drawCodeSame (A : Option Addr) (n c : Nat) (w : World) (h : Bytes w A n) (hn : n ≤ c) (hc : c ≤ maxLen) :
    Calls Try.prog 32 #[.slice A n c] w fun e w' => ∃ (xs ys : List Int) (m m' : Nat) (B B' : Option Addr) (k k' : Nat), e = .returned (.tuple #[.slice B m k, .slice B' m' k']) ∧ Fl w' (fun _ => True) 4 xs B m k ∧ Fl w' (fun _ => True) 4 ys B' m' k' ∧ Below w.heap.size w w' := by
  go_enter Try.func32, Try.ntmps32
  go_wp2_with fail
  refine (l11Open A n c _ h hn hc).mono ?_
  rintro e w1 ⟨rfl, hR, hb⟩
  go_wp2_with fail
  refine (some_ _ 0 _ hR (by omega) (by omega)).mono ?_
  rintro e w2 ⟨L, a, c2, q, rfl, hs, hok, hl, hz, q0, q1, hR2, hg2⟩
  have HOK := Lib.hid hok
  clear hok
  go_wp2_with fail
  refine (codeSome (hs.mono fun b hb => hb.2) HOK.out hR2).mono ?_
  rintro e w3 ⟨r, cap, rfl, h29, ho, hR3, hb3⟩
  have f3 := own_fl4 ho
  have h1 : 1 ≤ L.lenC + 1 := by omega
  generalize L.lenC + 1 = m at *
  generalize codeP L = xs at *
  go_wp2_with fail
  refine (bent4 w.heap.size q w3 f3 h1 (by omega) hR3 (by omega) (by omega)).mono ?_
  rintro e w4 ⟨ys, m4, v, q4, rfl, hm4, _, _, K⟩
  obtain ⟨A4, c4, rfl⟩ := own_slice4 K.own
  have hsz := hg2.size
  have hsb := hb.size
  have hs3 := hb3.size
  have b4 : Below w.heap.size w w4 := hb.trans (((Below.of_grown hg2 (Nat.le_refl _) hR.lt).trans (hb3.mono (by omega))).trans (Below.of_grown K.grown (Nat.le_refl _) hR3.lt))
  have o4 : w4.ownsRow w2.heap.size 40 4 (.slice (some ⟨r, 0, none⟩) m cap) m (ints xs) := own_block ho fun b hb' => K.grown.block b (own_at ho hb').2 (fun e => by have := (own_at ho hb').1; have := hR2.lt; injection e; omega)
  have HF := Lib.hid (show ∃ (xs ys : List Int) (m' m'' : Nat) (B B' : Option Addr) (k k' : Nat), Ending.returned (.tuple #[.slice (some ⟨r, 0, none⟩) m cap, .slice A4 m4 c4]) = .returned (.tuple #[.slice B m' k, .slice B' m'' k']) ∧ Fl w4 (fun _ => True) 4 xs B m' k ∧ Fl w4 (fun _ => True) 4 ys B' m'' k' ∧ Below w.heap.size w w4 from
    ⟨xs, ys, m, m4, _, _, _, _, rfl, own_fl4 o4, own_fl4 K.own, b4⟩)
  clear K f3 hs ho o4
  go_wp2_with fail
  refine bodyPost_ret (by simp [results, Try.results32, go_sem]; exact rfl) rfl ?_
  exact HF.out
end Go.Proofs.Ytogpfagdpkjmmaa
