/- Slices of slices of numbers: the laws' count, copy and comparison, the model's comparison and the program's. -/
import Derived.Test.YthamehcfenncaaaIntSame
import Derived.Test.YthamehcfenncaaaIntsTo
import Derived.Test.YthamehcfenncaaaNew
import Derived.StillTailTactics
namespace Go.Proofs.Ythamehcfenncaaa
open Go.ChangeShapes Go.WideShapes Go.ChangeAt Go.RowKit

/-- The slice of n places at A reads as the lists Ls. -/
structure Iss (w : World) (Ls : List (List Int)) (A : Option Addr) (n c : Nat) : Prop where
  len : n = Ls.length
  le : n ≤ c
  top : c ≤ maxLen
  at_ : ∀ i (h : i < Ls.length), ∃ (a : Addr) (A' : Option Addr) (c' : Nat), A = some a ∧ w.cell? (a.add i) = some (.slice A' (Ls[i]).length c') ∧ Fl w (fun _ => True) 1 (Ls[i]) A' (Ls[i]).length c'

theorem Iss.later {w w' : World} {Ls : List (List Int)} {A : Option Addr} {n c : Nat} (h : Iss w Ls A n c) (hb : Below w.heap.size w w') : Iss w' Ls A n c :=
  ⟨h.len, h.le, h.top, fun i hi => by
    obtain ⟨a, A', c', rfl, hc, hf⟩ := h.at_ i hi
    exact ⟨a, A', c', rfl, by rw [hb.cell (World.block_lt_of_cell? _ _ hc)]; exact hc, hf.later hb⟩⟩
theorem Iss.max {w : World} {Ls : List (List Int)} {A : Option Addr} {n c : Nat} (h : Iss w Ls A n c) : n ≤ 9223372036854775807 := by
  have := h.le; have := h.top; unfold maxLen at this; omega

/-- How many numbers they hold. -/
def innerI : List (List Int) → Nat
  | [] => 0
  | L :: Ls => L.length + innerI Ls
def sizeI (Ls : List (List Int)) : Nat := Ls.length + innerI Ls
theorem innerI_drop {Ls : List (List Int)} {i : Nat} (h : i < Ls.length) : innerI (Ls.drop i) = (Ls[i]).length + innerI (Ls.drop (i + 1)) := by
  rw [List.drop_eq_getElem_cons h]; rfl
theorem innerI_get {Ls : List (List Int)} : ∀ {i : Nat} (h : i < Ls.length), (Ls[i]).length ≤ innerI Ls := by
  induction Ls with
  | nil => intro i h; simp at h
  | cons L Ls ih =>
    intro i h
    cases i with
    | zero => simp only [List.getElem_cons_zero, innerI]; omega
    | succ i => simp only [List.getElem_cons_succ, innerI]; have := ih (i := i) (by simpa using h); omega

theorem fl_max {w : World} {S : Nat → Prop} {z : Nat} {xs : List Int} {A : Option Addr} {n c : Nat} (h : Fl w S z xs A n c) : n ≤ maxLen := Nat.le_trans h.le h.top

def SzIRel (Ls : List (List Int)) (w : World) (left : Int) (l i : Value) (wr : World) : Prop :=
  ∃ (k : Nat) (z : Int), k ≤ Ls.length ∧ i = .int .i64 k ∧ l = .int .i64 z ∧ 0 ≤ z ∧ z ≤ 1048576 ∧ szI (innerI (Ls.drop k)) z = szI (sizeI Ls) left ∧ Below w.heap.size w wr

theorem szIntSS {Ls : List (List Int)} {A : Option Addr} {n c : Nat} {w : World} {left : Int} (hs : Iss w Ls A n c) (h0 : 0 ≤ left) (h1 : left ≤ 1048576) :
    Calls Try.prog 56 #[.slice A n c, .int .i64 left] w fun e w' => e = .returned (.int .i64 (szI (sizeI Ls) left)) ∧ Below w.heap.size w w' := by
  have HL := Lib.hid hs.len
  have hlen : n ≤ Ls.length := Nat.le_of_eq hs.len
  have hlen' : Ls.length ≤ n := Nat.le_of_eq hs.len.symm
  have hmax := hs.max
  by_cases hl : (n : Int) ≤ left
  · have g1 : 0 ≤ left - (n : Int) := by omega
    go_enter Try.func56, Try.ntmps56
    go_wp2_with fail
    go_loopw [1, 5] (fun l i wr => SzIRel Ls w left l i wr) (fun _ i _ => n - (intOf i).toNat)
    case atStart => exact ⟨0, left - n, Nat.zero_le _, rfl, rfl, g1, by omega, by rw [List.drop_zero, sizeI, ← HL.out]; exact (szI_step _ _ _).symm, Below.refl _ _⟩
    case round =>
      obtain ⟨k, z, hk, rfl, rfl, z0, z1, hz, hb⟩ := hrel
      have HZ := Lib.hid hz
      clear hz
      by_cases hlt : k < n
      · have hk' : k < Ls.length := by omega
        have HI := Lib.hid (innerI_drop hk')
        obtain ⟨a, A', c', rfl, hc, hsl⟩ := (hs.later hb).at_ k hk'
        have hsz := hb.size
        generalize Ls[k] = L at *
        have hLm := fl_max hsl
        by_cases hfit : (L.length : Int) ≤ z
        · have H1 := Lib.hid (szI_yes hfit)
          have g2 : 0 ≤ z - (L.length : Int) := by omega
          go_wp2_with fail
          refine (szIntS A' L.length c' z wr hLm z0 z1).mono ?_
          rintro e w1 ⟨rfl, rfl⟩
          rw [H1.out]
          go_wp2_with fail
          go_roundw
          case rel => exact ⟨k + 1, z - L.length, by omega, by go_num, rfl, g2, by omega, by rw [← HZ.out, HI.out]; exact (szI_step _ _ _).symm, hb⟩
          case measure => simp [intOf]; omega
        · have H1 := Lib.hid (szI_no hfit)
          have H2 := Lib.hid (show szI (sizeI Ls) left = -1 from by rw [← HZ.out, HI.out]; exact szI_stop hfit)
          go_wp2_with fail
          refine (szIntS A' L.length c' z wr hLm z0 z1).mono ?_
          rintro e w1 ⟨rfl, rfl⟩
          rw [H1.out]
          go_wp2_with fail
          go_ret
          exact ⟨by rw [H2.out]; rfl, hb⟩
      · have hend : Ls.drop k = [] := List.drop_of_length_le (by omega)
        have H2 := Lib.hid (show szI (sizeI Ls) left = z from by rw [← HZ.out, hend, innerI, szI, if_pos (by simpa using z0)]; simp)
        clear hend
        go_wp2_with fail
        go_ret
        exact ⟨by rw [H2.out]; rfl, hb⟩
  · have H2 := Lib.hid (show szI (sizeI Ls) left = -1 from by unfold sizeI; exact szI_stop (by omega))
    go_enter Try.func56, Try.ntmps56
    go_wp2_with fail
    go_ret
    exact ⟨by rw [H2.out]; rfl, Below.refl _ _⟩

theorem info_Is : (Try.prog.info? 24).map (fun i => (i.zero, i.size, i.bytes)) = some (some (.slice none 0 0), 1, 24) := by kernel_rfl

theorem make_Iss (n : Nat) (hn : n ≤ 1048576) (w : World) : (Instr.makeSlice 57 (.int .i64 (n : Int)) (.int .i64 (n : Int))).run Try.prog w =
    .ok (.slice (some ⟨w.heap.size, 0, none⟩) n n) (w.alloc (.cells (madeCells #[.slice none 0 0] (n * 1)) 24)) := by
  have hi := info_Is
  obtain ⟨i, hi0, hi1⟩ := Option.map_eq_some_iff.1 hi
  simp only [Prod.mk.injEq] at hi1
  obtain ⟨e0, e1, e2⟩ := hi1
  have h := run_make (P := Try.prog) w 57 24 i _ Try.underlying57 hi0 e0 .i64 .i64 (n : Int) (n : Int) (by omega) (by omega) (by rw [e2]; omega) (by omega)
  rw [e1] at h
  simp only [Int.toNat_natCast] at h
  exact h

theorem add0 (g i : Nat) : (⟨g, 0, none⟩ : Addr).add i = ⟨g, i, none⟩ := by unfold Addr.add; split <;> simp_all
theorem two_ne {a b : Nat} {i : Nat} {p : Addr} (h : p.block = b) (hn : a ≠ b) : (⟨a, i, none⟩ : Addr) ≠ p := fun e => hn (by rw [← h, ← e])

def CopyIRel (Ls : List (List Int)) (w : World) (i : Value) (wr : World) : Prop :=
  ∃ (k : Nat) (vs : Array Value), k ≤ Ls.length ∧ i = .int .i64 k ∧ wr.heap[w.heap.size]? = some (.cells vs 24 (0, 0)) ∧ vs.size = Ls.length ∧ w.heap.size < wr.heap.size ∧
    (∀ j (h : j < Ls.length), j < k → ∃ (A' : Option Addr) (c' : Nat), wr.cell? ⟨w.heap.size, j, none⟩ = some (.slice A' (Ls[j]).length c') ∧ Fl wr (fun b => w.heap.size < b) 1 (Ls[j]) A' (Ls[j]).length c') ∧ Below w.heap.size w wr

theorem own_fl' {w : World} {base : Nat} {e : TypeId} {z : Nat} {v : Value} {n : Nat} {xs : List Int} (ho : w.ownsRow base e z v n (ints xs)) :
    ∃ (A : Option Addr) (c : Nat), v = .slice A n c ∧ Fl w (fun b => base ≤ b) z xs A n c := by
  obtain ⟨A, c, rfl, hf⟩ := own_fl ho
  exact ⟨A, c, rfl, hf.mono fun b hb => (own_at ho hb).1⟩

set_option maxRecDepth 100000 in
theorem toIntSS (Ls : List (List Int)) (hS : sizeI Ls ≤ 1048576) (A : Option Addr) (n c : Nat) (w : World) (hs : Iss w Ls A n c) :
    Calls Try.prog 61 #[.slice A n c] w fun e w' => ∃ (A' : Option Addr), e = .returned (.slice A' n n) ∧ Iss w' Ls A' n n ∧ Below w.heap.size w w' := by
  have hlen : n ≤ Ls.length := Nat.le_of_eq hs.len
  have hlen' : Ls.length ≤ n := Nat.le_of_eq hs.len.symm
  have hll : Ls.length + innerI Ls ≤ 1048576 := hS
  have hmk := fun W => make_Iss n (by omega) W
  go_enter Try.func61, Try.ntmps61
  go_wp2_with fail
  go_loopw [4] (fun i wr => CopyIRel Ls w i wr) (fun i _ => n - (intOf i).toNat)
  case atStart =>
    refine ⟨0, madeCells #[.slice none 0 0] (n * 1), Nat.zero_le _, rfl, ?_, ?_, by simp, fun j _ hj => by omega, (Below.refl _ _).alloc (Nat.le_refl _) _⟩
    · first
        | (show (w.heap.push _)[w.heap.size]? = _; rw [Array.getElem?_push, if_pos rfl]; done)
        | (show (w.heap.push _)[w.heap.size]? = _; rw [Array.getElem?_push, if_pos rfl]; simp)
    · rw [size_madeCells, hs.len, Nat.mul_one]
  case round =>
    clear hmk
    obtain ⟨k, vs, hk, rfl, hrow, hvs, hzr, hel, hb⟩ := hrel
    have HROW := Lib.hid hrow
    have HEL := Lib.hid hel
    have HVS := Lib.hid hvs
    clear hrow hel hvs
    by_cases hlt : k < n
    · have hk' : k < Ls.length := by omega
      have hsg := innerI_get hk'
      obtain ⟨a, A1, c1, rfl, hc, hsl⟩ := (hs.later hb).at_ k hk'
      have hsz := hb.size
      go_wp2_with fail
      refine (toIntS hsl (by omega)).mono ?_
      rintro e w1 ⟨v2, rfl, o2, hb1⟩
      obtain ⟨A2, c2, rfl, s2⟩ := own_fl' o2
      have hz1 := hb1.size
      have hrow1 : w1.heap[w.heap.size]? = some (.cells vs 24 (0, 0)) := by rw [hb1.block _ hzr]; exact HROW.out
      have o0 : w1.cell? ⟨w.heap.size, k, none⟩ = some (vs[k]!) := by
        have : k < vs.size := by rw [HVS.out]; omega
        rw [row_cell hrow1, getElem!_pos vs _ this, Array.getElem?_eq_getElem this]
      have f0 := row_frozen hrow1 k
      have R1 := Lib.hid hrow1
      have HB1 := Lib.hid hb1
      have S2 := Lib.hid s2
      clear hrow1 hb1 s2 o2
      go_wp2_with fail
      go_roundw
      case rel =>
        have hcell : ∀ j, (w1.setCell ⟨w.heap.size, k, none⟩ (.slice A2 (Ls[k]).length c2)).cell? ⟨w.heap.size, j, none⟩ = if k = j then (if k < vs.size then some (.slice A2 (Ls[k]).length c2) else none) else vs[j]? := fun j => by
          rw [row_cell (row_set R1.out _), Array.getElem?_setIfInBounds]
        have hoth : ∀ p : Addr, p.block ≠ w.heap.size → (w1.setCell ⟨w.heap.size, k, none⟩ (.slice A2 (Ls[k]).length c2)).cell? p = w1.cell? p := fun p hp => World.cell?_setCell_other _ _ _ _ (fun e => hp (by rw [← e]))
        have hszs : (w1.setCell ⟨w.heap.size, k, none⟩ (.slice A2 (Ls[k]).length c2)).heap.size = w1.heap.size := size_set _ _ _
        refine ⟨k + 1, _, by omega, by go_num, row_set R1.out _, by rw [Array.size_setIfInBounds]; exact HVS.out, by rw [hszs]; omega, fun j hj hjk => ?_, (hb.trans (HB1.out.mono hsz)).setCell (Nat.le_refl _) _⟩
        by_cases e : k = j
        · subst e
          refine ⟨A2, c2, ?_, ?_⟩
          · rw [hcell, if_pos rfl, if_pos (by rw [HVS.out]; exact hk')]
          · exact (S2.out.keep (fun p hp => hoth p (by omega))).mono fun b hb => by omega
        · obtain ⟨A3, c3, h3, s3⟩ := HEL.out j hj (by omega)
          refine ⟨A3, c3, ?_, ?_⟩
          · rw [hcell, if_neg e, ← row_cell HROW.out]; exact h3
          · exact (s3.later HB1.out).keep (fun p hp => hoth p (by omega))
      case measure => simp [intOf]; omega
    · go_wp2_with fail
      go_ret
      obtain rfl : k = Ls.length := by omega
      refine ⟨some ⟨w.heap.size, 0, none⟩, rfl, ⟨hs.len, Nat.le_refl _, by unfold maxLen; omega, fun i hi => ?_⟩, hb⟩
      obtain ⟨A3, c3, h3, s3⟩ := HEL.out i hi hi
      exact ⟨⟨w.heap.size, 0, none⟩, A3, c3, rfl, by rw [add0]; exact h3, s3.mono fun _ _ => trivial⟩

set_option maxRecDepth 100000 in
theorem eqIntSS {Ls : List (List Int)} {A A' : Option Addr} {n c n' c' : Nat} {w : World} (hs : Iss w Ls A n c) (ht : Iss w Ls A' n' c') :
    Calls Try.prog 66 #[.slice A n c, .slice A' n' c'] w fun e w' => e = .returned (.bool true) ∧ Below w.heap.size w w' := by
  obtain rfl : n = n' := hs.len.trans ht.len.symm
  have hlen : n ≤ Ls.length := Nat.le_of_eq hs.len
  have hmax := hs.max
  go_enter Try.func66, Try.ntmps66
  go_wp2_with fail
  go_loopw [5] (fun i wr => ∃ k : Nat, k ≤ n ∧ i = .int .i64 k ∧ Below w.heap.size w wr) (fun i _ => n - (intOf i).toNat)
  case atStart => exact ⟨0, Nat.zero_le _, rfl, Below.refl _ _⟩
  case round =>
    obtain ⟨k, hk, rfl, hb⟩ := hrel
    by_cases hlt : k < n
    · have hk' : k < Ls.length := by omega
      obtain ⟨a, A1, c1, rfl, h1, s1⟩ := (hs.later hb).at_ k hk'
      obtain ⟨b, A2, c2, rfl, h2, s2⟩ := (ht.later hb).at_ k hk'
      have hsz := hb.size
      go_wp2_with fail
      go_still_tail 8, (by kernel_rfl)
      change wpList _ _ _ _ _ wr.drew
      have hdr : Below wr.heap.size wr wr.drew := (Below.refl _ _).drew
      go_wp2_with fail
      refine (eqIntS (s1.later hdr) (s2.later hdr)).mono ?_
      rintro e w1 ⟨rfl, hb1⟩
      have hb1' : Below wr.heap.size wr w1 := hdr.trans hb1
      clear hb1 hdr
      go_wp2_with fail
      go_roundw
      case rel => exact ⟨k + 1, by omega, by go_num, hb.trans (hb1'.mono hsz)⟩
      case measure => simp [intOf]; omega
    · go_wp2_with fail
      go_ret
      exact ⟨rfl, hb⟩
end Go.Proofs.Ythamehcfenncaaa
