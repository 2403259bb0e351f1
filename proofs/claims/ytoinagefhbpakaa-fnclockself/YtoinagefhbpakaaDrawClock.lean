/- What the laws of chapter 7 draw: clocks. -/
import Derived.Test.YtoinagefhbpakaaOpen
import Derived.Test.YtoinagefhbpakaaClockAll
namespace Go.Proofs.Ytoinagefhbpakaa
open Go.ChangeShapes Go.WideShapes Go.ChangeAt Go.RowKit

theorem grown_ownC {w w2 w3 : World} {g : Nat} {row : Option Nat} (h : w.grownBy w2 (some g)) (h3 : w2.grownBy w3 row) (hr : ∀ b, row = some b → w.heap.size ≤ b) : w.grownBy w3 (some g) :=
  ⟨h3.os.trans h.os, h3.tape.trans h.tape, h3.output.trans h.output, Nat.le_trans h.size h3.size, fun k hk hne => by
    have := h.size
    rw [h3.block k (by omega) (fun e => by have := hr k e.symm; omega), h.block k hk hne]⟩

theorem num_new1 (g : Nat) (p : Int) (w : World) (zs : List Int) (vs : Array Value) (t : TypeId) (n b : Nat) (hb : b = w.heap.size) (h : Rd w g p) (hp : 0 ≤ p) (hp' : p ≤ 1000000000000) (hvs : vs = (zs.map (Value.int .i64)).toArray) (hn : zs.length = n) (hl : 1 ≤ n) (hl' : n ≤ 1000000) :
    Calls Try.prog 51 #[.pointer (some ⟨g, 0, none⟩), .slice (some ⟨b, 0, none⟩) n n] (w.alloc (.cells vs t)) fun e w' => ∃ x : Int, x ∈ zs ∧ e = .returned (.int .i64 x) ∧ Rd w' g (p + 1) ∧ w.grownBy w' (some g) := by
  subst hb
  exact num_new g p w zs vs t n h hp hp' hvs hn hl hl'

set_option maxRecDepth 100000 in
set_option maxHeartbeats 1000000 in
theorem l7Clock_ (g : Nat) (p : Int) (w : World) (hR0 : Rd w g p) (hp : 0 ≤ p) (hp' : p ≤ 100000000000) :
    Calls Try.prog 38 #[.pointer (some ⟨g, 0, none⟩)] w fun e w' => ∃ (xs : List Int) (A : Option Addr) (c : Nat) (q : Int), e = .returned (.slice A xs.length c) ∧ Fl w' (fun b => w.heap.size ≤ b ∧ b < w'.heap.size) 1 xs A xs.length c ∧ xs.length ≤ 3 ∧ p ≤ q ∧ q ≤ p + 4 ∧ Rd w' g q ∧ w.grownBy w' (some g) := by
  obtain ⟨i0, hi, hz0, hz1, hz2⟩ := info_parts info_int
  have hgl := hR0.lt
  have b0 : w.grownBy (w.alloc (.cells #[] 3)) (some g) := World.grownBy_alloc w _ (some g)
  have hR1 := hR0.alloc (.cells #[] 3)
  go_enter Try.func38, Try.ntmps38
  go_wp2_with fail
  refine (num_new1 g p (w.alloc (.cells #[] 3)) [3, 2, 1, 0] _ _ _ _ (by simp) hR1 (by omega) (by omega) rfl rfl (by decide) (by decide)).mono ?_
  rintro e w1 ⟨x, hx, rfl, hR2, hg2⟩
  have x0 : 0 ≤ x := by simp at hx; omega
  have x3 : x ≤ 3 := by simp at hx; omega
  have hg1 := b0.trans hg2
  have own1 : w1.ownsRow w.heap.size 3 1 (.slice (some ⟨w.heap.size, 0, none⟩) 0 0) 0 (ints []) := by
    have h0 := World.ownsRow_lit (base := w.heap.size) (e := 3) (size := 1) w #[] 0 (Nat.le_refl _) (Nat.zero_le _) rfl
    exact own_block h0 fun b hb => hg2.block b (own_at h0 hb).2 (fun e => by have := (own_at h0 hb).1; injection e; omega)
  clear hx hg2 b0 hR1 hR0
  go_wp2_with fail
  go_loopw [3, 4] (fun v i wr => ∃ (k : Nat) (xs : List Int), (k : Int) ≤ x ∧ i = .int .i64 (x - k) ∧ xs.length = k ∧ wr.ownsRow w.heap.size 3 1 v k (ints xs) ∧ Rd wr g (p + 1 + k) ∧ w.grownBy wr (some g)) (fun _ i _ => (intOf i).toNat)
  case atStart => exact ⟨0, [], by omega, by simp, rfl, own1, by simpa using hR2, hg1⟩
  case round =>
    clear own1 hR2 hg1
    obtain ⟨k, xs, hk, rfl, hl, hown, hR, hg⟩ := hrel
    have hsz := hg.size
    by_cases hlt : (k : Int) < x
    · have hpos : 0 < x - (k : Int) := by omega
      have hlo : -9223372036854775808 ≤ x - (k : Int) - 1 := by omega
      have hhi : x - (k : Int) - 1 ≤ 9223372036854775807 := by omega
      have HL := Lib.hid hl
      clear hl
      go_wp2_with fail
      refine (num_new1 g (p + 1 + k) wr [0, 1, 2, 3, 9, -1] _ _ _ _ rfl hR (by omega) (by omega) rfl rfl (by decide) (by decide)).mono ?_
      rintro e w2 ⟨y, _, rfl, hR3, hg3⟩
      have hown2 : w2.ownsRow w.heap.size 3 1 _ k (ints xs) := own_block hown fun b hb => hg3.block b (own_at hown hb).2 (fun e => by have := (own_at hown hb).1; injection e; omega)
      have hg2 := hg.trans hg3
      have hsz2 := hg2.size
      clear hown hR hg hg3 hsz
      go_wp2_with (first | (at_builtin; refine wpList_append_own _ rfl _ _ 22 rfl w.heap.size 3 i0 (.int .i64 0) 1 8 Try.underlying22 hi hz0 hz1 hz2 rfl (by decide) _ _ _ rfl (hown2.alloc _) ⟨w2.heap.size, 0, none⟩ 1 1 [.int .i64 y] rfl rfl ?c1 ?c2 ?c3 ?c4 ?c5 ?_) | fail)
      case c1 =>
        intro j u hj
        match j, hj with
        | 0, hj => simp at hj; subst hj; simp [Addr.add]
      case c2 => intro u hu; simp at hu; subst hu; rfl
      case c3 => unfold maxLen; omega
      case c4 => omega
      case c5 => simp; omega
      intro v' w4 hown' hgrow _
      have hbw : w.grownBy w4 (some g) := grown_ownC (hg2.trans (World.grownBy_alloc w2 _ (some g))) hgrow (fun b hb' => (own_at hown2 hb').1)
      have hR4 : Rd w4 g (p + 1 + k + 1) := (hR3.alloc _).grown hgrow (fun b hb' => by have := (own_at hown2 hb').1; omega)
      have e1 : ints xs ++ [Value.int .i64 y] = ints (xs ++ [y]) := by rw [ints_app]; rfl
      rw [e1] at hown'
      have HO := Lib.hid hown'
      clear hown' hown2 hgrow e1
      go_wp2_with fail
      go_roundw
      case rel => exact ⟨k + 1, xs ++ [y], by omega, by go_num, by simp [HL.out], HO.out, by rw [show p + 1 + ((k + 1 : Nat) : Int) = p + 1 + k + 1 by omega]; exact hR4, hbw⟩
      case measure => simp [intOf]; omega
    · have hx0 : x = (k : Int) := by omega
      subst hx0
      obtain ⟨A, c, rfl, hf⟩ := own_fl hown
      have hf' := hf.mono (T := fun b => w.heap.size ≤ b ∧ b < wr.heap.size) fun b hb => own_at hown hb
      have HF := Lib.hid hf'
      clear hf hf' hown
      subst hl
      have hxx : ((xs.length : Int) - (xs.length : Int)) = 0 := by omega
      go_wp2_with fail
      go_ret
      exact ⟨xs, A, c, rfl, HF.out, by omega, p + 1 + (xs.length : Int), by omega, by omega, hR, hg⟩

/-- A slice in new memory stays where only old memory turns. -/
theorem fl_grown {w w1 w2 : World} {g : Nat} {xs : List Int} {A : Option Addr} {n c : Nat} (hf : Fl w1 (fun b => w.heap.size ≤ b ∧ b < w1.heap.size) 1 xs A n c) (hg : w1.grownBy w2 (some g)) (hgl : g < w.heap.size) : Fl w2 (fun b => w.heap.size ≤ b ∧ b < w2.heap.size) 1 xs A n c :=
  (hf.keep fun p hp => World.cell?_of_block (hg.block p.block hp.2 (fun e => by injection e; omega))).mono fun b hb => ⟨hb.1, by have := hg.size; omega⟩

set_option maxRecDepth 100000 in
theorem drawClockJoin (A : Option Addr) (n c : Nat) (w : World) (h : Bytes w A n) (hn : n ≤ c) (hc : c ≤ maxLen) :
    Calls Try.prog 24 #[.slice A n c] w fun e w' => ∃ (xs ys : List Int) (B D : Option Addr) (b d : Nat), e = .returned (.tuple #[.slice B xs.length b, .slice D ys.length d]) ∧ Fl w' (fun _ => True) 1 xs B xs.length b ∧ Fl w' (fun _ => True) 1 ys D ys.length d ∧ xs.length ≤ 3 ∧ ys.length ≤ 3 ∧ Below w.heap.size w w' := by
  go_enter Try.func24, Try.ntmps24
  go_wp2_with fail
  refine (l11Open A n c _ h hn hc).mono ?_
  rintro e w1 ⟨rfl, hR, hb⟩
  have hgl := hR.lt
  go_wp2_with fail
  refine (l7Clock_ _ 0 _ hR (by omega) (by omega)).mono ?_
  rintro e w2 ⟨xs, B, b, q, rfl, hf, hx3, q0, q1, hR2, hg2⟩
  go_wp2_with fail
  refine (l7Clock_ _ q _ hR2 (by omega) (by omega)).mono ?_
  rintro e w3 ⟨ys, D, d, q', rfl, hf2, hy3, q2, q3, hR3, hg3⟩
  have hf3 := fl_grown hf hg3 hgl
  have HF := Lib.hid hf3
  have HG := Lib.hid hf2
  clear hf hf2 hf3
  go_wp2_with fail
  go_ret2
  exact ⟨xs, ys, B, D, b, d, rfl, HF.out.mono fun _ _ => trivial, HG.out.mono fun _ _ => trivial, hx3, hy3, hb.trans (Below.of_grown (hg2.trans hg3) (Nat.le_refl _) hgl)⟩

set_option maxRecDepth 100000 in
theorem drawClockUnder (A : Option Addr) (n c : Nat) (w : World) (h : Bytes w A n) (hn : n ≤ c) (hc : c ≤ maxLen) :
    Calls Try.prog 26 #[.slice A n c] w fun e w' => ∃ (xs ys : List Int) (B D : Option Addr) (b d : Nat), e = .returned (.tuple #[.slice B xs.length b, .slice D ys.length d]) ∧ Fl w' (fun _ => True) 1 xs B xs.length b ∧ Fl w' (fun _ => True) 1 ys D ys.length d ∧ xs.length ≤ 3 ∧ ys.length ≤ 3 ∧ Below w.heap.size w w' := by
  go_enter Try.func26, Try.ntmps26
  go_wp2_with fail
  refine (l11Open A n c _ h hn hc).mono ?_
  rintro e w1 ⟨rfl, hR, hb⟩
  have hgl := hR.lt
  go_wp2_with fail
  refine (l7Clock_ _ 0 _ hR (by omega) (by omega)).mono ?_
  rintro e w2 ⟨xs, B, b, q, rfl, hf, hx3, q0, q1, hR2, hg2⟩
  go_wp2_with fail
  refine (l7Clock_ _ q _ hR2 (by omega) (by omega)).mono ?_
  rintro e w3 ⟨ys, D, d, q', rfl, hf2, hy3, q2, q3, hR3, hg3⟩
  have hf3 := fl_grown hf hg3 hgl
  have hgz := hg2.size
  clear hf
  go_wp2_with fail
  refine (pick _ q' _ _ hR3 (by omega) (by omega) (by omega)).mono ?_
  rintro e w4 ⟨k, k0, k1, rfl, hR4, hg4⟩
  have hf4 := (fl_grown hf3 hg4 hgl).mono (T := fun _ => True) fun _ _ => trivial
  have hf5 := (fl_grown hf2 hg4 (by omega)).mono (T := fun _ => True) fun _ _ => trivial
  have hb4 := hb.trans (Below.of_grown ((hg2.trans hg3).trans hg4) (Nat.le_refl _) hgl)
  clear hf2 hf3
  by_cases hk : k = 0
  · subst hk
    go_wp2_with fail
    refine (specClockJoin hf4 hf5 (by omega) (by omega)).mono ?_
    rintro e w5 ⟨v, rfl, ho, hb5⟩
    obtain ⟨J, j, rfl, hf6⟩ := own_fl ho
    have HF := Lib.hid (hf4.later hb5)
    have HG := Lib.hid (hf6.mono (T := fun _ => True) fun _ _ => trivial)
    have hj : (joinL xs ys).length ≤ 3 := by unfold joinL; rw [joinK_len]; omega
    generalize joinL xs ys = zs at *
    clear hf4 hf5 hf6 ho
    go_wp2_with fail
    go_ret2
    exact ⟨xs, zs, B, J, b, j, rfl, HF.out, HG.out, hx3, hj, hb4.trans (hb5.mono hb4.size)⟩
  · have hk' : (k == 0) = false := beq_eq_false_iff_ne.2 hk
    have HF := Lib.hid hf4
    have HG := Lib.hid hf5
    clear hf4 hf5
    go_wp2_with fail
    go_ret2
    exact ⟨xs, ys, B, D, b, d, rfl, HF.out, HG.out, hx3, hy3, hb4⟩
end Go.Proofs.Ytoinagefhbpakaa
