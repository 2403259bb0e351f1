/- The laws' wpCell and wpTouches say whether a list, a program, uses a cell or a signal (written by tools/gen_wpcell.py). -/
import Derived.Test.YtoinagefhbpakaaOwnSpec
import Derived.Test.YtoinagefhbpakaaOwnSpecW
import Derived.Test.YtoinagefhbpakaaShape
namespace Go.Proofs.Ytoinagefhbpakaa
open Go.ChangeShapes Go.WideShapes Go.ChangeAt Go.RowKit

/-- Whether a statement, a list, uses the i-th. -/
def touchS (i k x y : Int) : Bool := decide (((k = 9 ∨ k = 10) ∧ 3 + x = i) ∨ (k = 3 ∧ y = i) ∨ (k = 4 ∧ x = i))
def touchL (i : Int) : SL → Bool
  | .nil => false
  | .cons k x y _ B E R => touchS i k x y || touchL i B || touchL i E || touchL i R
theorem touchL_cons (i k x y n : Int) (B E R : SL) : touchL i (.cons k x y n B E R) = (touchS i k x y || touchL i B || touchL i E || touchL i R) := rfl

def TouchSays (i : Int) (L : SL) (d : Int) : Prop := ∀ (A : Option Addr) (n c N : Nat) (w : World), Sl w N L A n c → N ≤ w.heap.size →
  Calls Try.prog 50 #[.slice A n c, .int .i64 i, .int .i64 d] w fun e w' => e = .returned (.bool (touchL i L)) ∧ Below w.heap.size w w'
def TouchRel (i : Int) (L : SL) (w : World) (v : Value) (wr : World) : Prop :=
  ∃ k : Nat, k ≤ L.len ∧ v = .int .i64 k ∧ touchL i L = touchL i (L.drop k) ∧ Below w.heap.size w wr

set_option maxRecDepth 100000 in
set_option maxHeartbeats 60000000 in
theorem touch_any (i : Int) (m : Nat) : ∀ (L : SL), L.size < m → ∀ d r : Int, 0 ≤ d → d ≤ 3 → okL L d r = true → TouchSays i L d := by
  induction m with
  | zero => intro L hL; omega
  | succ m ih =>
    intro L hL d r hd0 hd3 hok A n c N w hs hN
    have IH := Lib.hid ih
    clear ih
    have hlen : n ≤ L.len := Nat.le_of_eq hs.len
    have hlen' : L.len ≤ n := Nat.le_of_eq hs.len.symm
    have hmax : n ≤ 9223372036854775807 := by have := hs.le; have := hs.top; unfold maxLen at this; omega
    go_enter Try.func50, Try.ntmps50
    go_wp2_with fail
    go_loopw [7, 8, 9] (fun v _ _ wr => TouchRel i L w v wr) (fun v _ _ _ => n - (intOf v).toNat)
    case atStart => exact ⟨0, Nat.zero_le _, rfl, by rw [SL.drop_zero], Below.refl _ _⟩
    case round =>
      obtain ⟨k, hk, rfl, hz, hb⟩ := hrel
      have HZ := Lib.hid hz
      clear hz
      by_cases hlt : k < n
      · obtain ⟨K, x, y, v, B, E, R, hd⟩ := SL.drop_cons (L := L) (i := k) (by omega)
        have HD := Lib.hid hd
        have s1 := SL.drop_size hd
        have hok1 := okL_drop hok k
        rw [hd] at hok1
        clear hd
        obtain ⟨a, rfl⟩ := hs.some (by omega)
        have hat := ((hs.at_ a rfl).below (hb.mono hN)).drop k
        rw [HD.out] at hat
        obtain ⟨_, c0, c1, c2, c3, AB, cB, AE, cE, c4, c5, sB, sE, _⟩ := hat.first
        have hsz := hb.size
        simp only [okL, Bool.and_eq_true] at hok1
        obtain ⟨⟨⟨k1, k2⟩, k3⟩, k4⟩ := hok1
        have K2 := Lib.hid k2
        have K3 := Lib.hid k3
        obtain ⟨t3, t4, t9⟩ := thing_ops k1
        have d1 := headB_pos k1
        clear k1 k2 k3 k4 hat
        have lB : B.size < m := by omega
        have lE : E.size < m := by omega
        have HS := Lib.hid (show touchL i L = (touchS i K x y || touchL i B || touchL i E || touchL i R) by rw [HZ.out, HD.out, touchL_cons])
        have HR := Lib.hid (show touchL i (L.drop (k + 1)) = touchL i R by rw [SL.drop_succ HD.out])
        clear HZ
        by_cases h9 : K = 9
        · subst h9
          obtain ⟨x0, x2⟩ := t9 (by omega)
          obtain ⟨j, hj⟩ : ∃ j : Int, 3 + x = j ∧ 0 ≤ j ∧ j < 5 := ⟨3 + x, rfl, by omega, by omega⟩
          obtain ⟨hj, j0, j5⟩ := hj
          clear t3 t4 t9
          by_cases hz : j = i
          · have TS := Lib.hid (show touchS i 9 x y = true by unfold touchS; simp; omega)
            have heq : (j == i) = true := by simpa using hz
            clear hz
            have H := Lib.hid (show touchL i L = true by rw [HS.out, TS.out]; rfl)
            go_wp2_with fail
            go_ret
            exact ⟨by rw [H.out]; rfl, hb.trans (((Below.refl wr.heap.size wr).alloc (Nat.le_refl _) _).mono hsz)⟩
          · have TS := Lib.hid (show touchS i 9 x y = false by unfold touchS; simp; omega)
            have hne : (j == i) = false := by simpa using hz
            clear hz
            have ba : Below wr.heap.size wr (wr.alloc (.cells #[.int .i64 9, .int .i64 x, .int .i64 y, .int .i64 v, .slice AB B.len cB, .slice AE E.len cE] 65)) := (Below.refl _ _).alloc (Nat.le_refl _) _
            have BOX := Lib.hid (new_row wr #[.int .i64 9, .int .i64 x, .int .i64 y, .int .i64 v, .slice AB B.len cB, .slice AE E.len cE] 65)
            go_wp2_with fail
            refine (IH.out B lB (d - 1) _ (by omega) (by omega) K2.out AB B.len cB N _ (sB.below (ba.mono (by omega))) (by simp; omega)).mono ?_
            rintro e w1 ⟨rfl, hb1⟩
            have bx := ba.trans (hb1.mono (by simp))
            have box1 := rowk hb1 BOX.out
            obtain ⟨e0, e1, e2, e3, e4, e5⟩ := cells6 box1
            have z1 := bx.size
            clear hb1 box1
            cases hB : touchL i B
            · have HB := Lib.hid hB
              clear hB
              go_wp2_with fail
              refine (IH.out E lE (d - 1) _ (by omega) (by omega) K3.out AE E.len cE N _ (sE.below (bx.mono (by omega))) (by omega)).mono ?_
              rintro e w2 ⟨rfl, hb2⟩
              have by_ := bx.trans (hb2.mono z1)
              clear hb2
              cases hE : touchL i E
              · have H := Lib.hid (show touchL i L = touchL i (L.drop (k + 1)) by rw [HS.out, TS.out, HB.out, hE, HR.out]; rfl)
                clear hE
                go_wp2_with fail
                go_roundw
                case rel => exact ⟨k + 1, by omega, by go_num, H.out, hb.trans (by_.mono hsz)⟩
                case measure => simp [intOf]; omega
              · have H := Lib.hid (show touchL i L = true by rw [HS.out, hE]; simp)
                clear hE
                go_wp2_with fail
                go_ret
                exact ⟨by rw [H.out]; rfl, hb.trans (by_.mono hsz)⟩
            · have H := Lib.hid (show touchL i L = true by rw [HS.out, hB]; simp)
              clear hB
              go_wp2_with fail
              go_ret
              exact ⟨by rw [H.out]; rfl, hb.trans (bx.mono hsz)⟩
        by_cases h10 : K = 10
        · subst h10
          obtain ⟨x0, x2⟩ := t9 (by omega)
          obtain ⟨j, hj⟩ : ∃ j : Int, 3 + x = j ∧ 0 ≤ j ∧ j < 5 := ⟨3 + x, rfl, by omega, by omega⟩
          obtain ⟨hj, j0, j5⟩ := hj
          clear t3 t4 t9 h9
          by_cases hz : j = i
          · have TS := Lib.hid (show touchS i 10 x y = true by unfold touchS; simp; omega)
            have heq : (j == i) = true := by simpa using hz
            clear hz
            have H := Lib.hid (show touchL i L = true by rw [HS.out, TS.out]; rfl)
            go_wp2_with fail
            go_ret
            exact ⟨by rw [H.out]; rfl, hb.trans (((Below.refl wr.heap.size wr).alloc (Nat.le_refl _) _).mono hsz)⟩
          · have TS := Lib.hid (show touchS i 10 x y = false by unfold touchS; simp; omega)
            have hne : (j == i) = false := by simpa using hz
            clear hz
            have ba : Below wr.heap.size wr (wr.alloc (.cells #[.int .i64 10, .int .i64 x, .int .i64 y, .int .i64 v, .slice AB B.len cB, .slice AE E.len cE] 65)) := (Below.refl _ _).alloc (Nat.le_refl _) _
            have BOX := Lib.hid (new_row wr #[.int .i64 10, .int .i64 x, .int .i64 y, .int .i64 v, .slice AB B.len cB, .slice AE E.len cE] 65)
            go_wp2_with fail
            refine (IH.out B lB (d - 1) _ (by omega) (by omega) K2.out AB B.len cB N _ (sB.below (ba.mono (by omega))) (by simp; omega)).mono ?_
            rintro e w1 ⟨rfl, hb1⟩
            have bx := ba.trans (hb1.mono (by simp))
            have box1 := rowk hb1 BOX.out
            obtain ⟨e0, e1, e2, e3, e4, e5⟩ := cells6 box1
            have z1 := bx.size
            clear hb1 box1
            cases hB : touchL i B
            · have HB := Lib.hid hB
              clear hB
              go_wp2_with fail
              refine (IH.out E lE (d - 1) _ (by omega) (by omega) K3.out AE E.len cE N _ (sE.below (bx.mono (by omega))) (by omega)).mono ?_
              rintro e w2 ⟨rfl, hb2⟩
              have by_ := bx.trans (hb2.mono z1)
              clear hb2
              cases hE : touchL i E
              · have H := Lib.hid (show touchL i L = touchL i (L.drop (k + 1)) by rw [HS.out, TS.out, HB.out, hE, HR.out]; rfl)
                clear hE
                go_wp2_with fail
                go_roundw
                case rel => exact ⟨k + 1, by omega, by go_num, H.out, hb.trans (by_.mono hsz)⟩
                case measure => simp [intOf]; omega
              · have H := Lib.hid (show touchL i L = true by rw [HS.out, hE]; simp)
                clear hE
                go_wp2_with fail
                go_ret
                exact ⟨by rw [H.out]; rfl, hb.trans (by_.mono hsz)⟩
            · have H := Lib.hid (show touchL i L = true by rw [HS.out, hB]; simp)
              clear hB
              go_wp2_with fail
              go_ret
              exact ⟨by rw [H.out]; rfl, hb.trans (bx.mono hsz)⟩
        by_cases h3 : K = 3
        · subst h3
          clear h9 h10 t3 t4 t9
          by_cases hz : y = i
          · have TS := Lib.hid (show touchS i 3 x y = true by unfold touchS; simp; omega)
            have heq : (y == i) = true := by simpa using hz
            clear hz
            have H := Lib.hid (show touchL i L = true by rw [HS.out, TS.out]; rfl)
            go_wp2_with fail
            go_ret
            exact ⟨by rw [H.out]; rfl, hb.trans (((Below.refl wr.heap.size wr).alloc (Nat.le_refl _) _).mono hsz)⟩
          · have TS := Lib.hid (show touchS i 3 x y = false by unfold touchS; simp; omega)
            have hne : (y == i) = false := by simpa using hz
            clear hz
            have ba : Below wr.heap.size wr (wr.alloc (.cells #[.int .i64 3, .int .i64 x, .int .i64 y, .int .i64 v, .slice AB B.len cB, .slice AE E.len cE] 65)) := (Below.refl _ _).alloc (Nat.le_refl _) _
            have BOX := Lib.hid (new_row wr #[.int .i64 3, .int .i64 x, .int .i64 y, .int .i64 v, .slice AB B.len cB, .slice AE E.len cE] 65)
            go_wp2_with fail
            refine (IH.out B lB (d - 1) _ (by omega) (by omega) K2.out AB B.len cB N _ (sB.below (ba.mono (by omega))) (by simp; omega)).mono ?_
            rintro e w1 ⟨rfl, hb1⟩
            have bx := ba.trans (hb1.mono (by simp))
            have box1 := rowk hb1 BOX.out
            obtain ⟨e0, e1, e2, e3, e4, e5⟩ := cells6 box1
            have z1 := bx.size
            clear hb1 box1
            cases hB : touchL i B
            · have HB := Lib.hid hB
              clear hB
              go_wp2_with fail
              refine (IH.out E lE (d - 1) _ (by omega) (by omega) K3.out AE E.len cE N _ (sE.below (bx.mono (by omega))) (by omega)).mono ?_
              rintro e w2 ⟨rfl, hb2⟩
              have by_ := bx.trans (hb2.mono z1)
              clear hb2
              cases hE : touchL i E
              · have H := Lib.hid (show touchL i L = touchL i (L.drop (k + 1)) by rw [HS.out, TS.out, HB.out, hE, HR.out]; rfl)
                clear hE
                go_wp2_with fail
                go_roundw
                case rel => exact ⟨k + 1, by omega, by go_num, H.out, hb.trans (by_.mono hsz)⟩
                case measure => simp [intOf]; omega
              · have H := Lib.hid (show touchL i L = true by rw [HS.out, hE]; simp)
                clear hE
                go_wp2_with fail
                go_ret
                exact ⟨by rw [H.out]; rfl, hb.trans (by_.mono hsz)⟩
            · have H := Lib.hid (show touchL i L = true by rw [HS.out, hB]; simp)
              clear hB
              go_wp2_with fail
              go_ret
              exact ⟨by rw [H.out]; rfl, hb.trans (bx.mono hsz)⟩
        by_cases h4 : K = 4
        · subst h4
          clear h9 h10 t3 t4 t9 h3
          by_cases hz : x = i
          · have TS := Lib.hid (show touchS i 4 x y = true by unfold touchS; simp; omega)
            have heq : (x == i) = true := by simpa using hz
            clear hz
            have H := Lib.hid (show touchL i L = true by rw [HS.out, TS.out]; rfl)
            go_wp2_with fail
            go_ret
            exact ⟨by rw [H.out]; rfl, hb.trans (((Below.refl wr.heap.size wr).alloc (Nat.le_refl _) _).mono hsz)⟩
          · have TS := Lib.hid (show touchS i 4 x y = false by unfold touchS; simp; omega)
            have hne : (x == i) = false := by simpa using hz
            clear hz
            have ba : Below wr.heap.size wr (wr.alloc (.cells #[.int .i64 4, .int .i64 x, .int .i64 y, .int .i64 v, .slice AB B.len cB, .slice AE E.len cE] 65)) := (Below.refl _ _).alloc (Nat.le_refl _) _
            have BOX := Lib.hid (new_row wr #[.int .i64 4, .int .i64 x, .int .i64 y, .int .i64 v, .slice AB B.len cB, .slice AE E.len cE] 65)
            go_wp2_with fail
            refine (IH.out B lB (d - 1) _ (by omega) (by omega) K2.out AB B.len cB N _ (sB.below (ba.mono (by omega))) (by simp; omega)).mono ?_
            rintro e w1 ⟨rfl, hb1⟩
            have bx := ba.trans (hb1.mono (by simp))
            have box1 := rowk hb1 BOX.out
            obtain ⟨e0, e1, e2, e3, e4, e5⟩ := cells6 box1
            have z1 := bx.size
            clear hb1 box1
            cases hB : touchL i B
            · have HB := Lib.hid hB
              clear hB
              go_wp2_with fail
              refine (IH.out E lE (d - 1) _ (by omega) (by omega) K3.out AE E.len cE N _ (sE.below (bx.mono (by omega))) (by omega)).mono ?_
              rintro e w2 ⟨rfl, hb2⟩
              have by_ := bx.trans (hb2.mono z1)
              clear hb2
              cases hE : touchL i E
              · have H := Lib.hid (show touchL i L = touchL i (L.drop (k + 1)) by rw [HS.out, TS.out, HB.out, hE, HR.out]; rfl)
                clear hE
                go_wp2_with fail
                go_roundw
                case rel => exact ⟨k + 1, by omega, by go_num, H.out, hb.trans (by_.mono hsz)⟩
                case measure => simp [intOf]; omega
              · have H := Lib.hid (show touchL i L = true by rw [HS.out, hE]; simp)
                clear hE
                go_wp2_with fail
                go_ret
                exact ⟨by rw [H.out]; rfl, hb.trans (by_.mono hsz)⟩
            · have H := Lib.hid (show touchL i L = true by rw [HS.out, hB]; simp)
              clear hB
              go_wp2_with fail
              go_ret
              exact ⟨by rw [H.out]; rfl, hb.trans (bx.mono hsz)⟩
        have TS := Lib.hid (show touchS i K x y = false by unfold touchS; simp [h3, h4, h9, h10])
        have k3 : (K == 3) = false := by simpa using h3
        have k4 : (K == 4) = false := by simpa using h4
        have k9 : (K == 9) = false := by simpa using h9
        have k10 : (K == 10) = false := by simpa using h10
        clear h3 h4 h9 h10 t3 t4 t9
        have ba : Below wr.heap.size wr (wr.alloc (.cells #[.int .i64 K, .int .i64 x, .int .i64 y, .int .i64 v, .slice AB B.len cB, .slice AE E.len cE] 65)) := (Below.refl _ _).alloc (Nat.le_refl _) _
        have BOX := Lib.hid (new_row wr #[.int .i64 K, .int .i64 x, .int .i64 y, .int .i64 v, .slice AB B.len cB, .slice AE E.len cE] 65)
        go_wp2_with fail
        refine (IH.out B lB (d - 1) _ (by omega) (by omega) K2.out AB B.len cB N _ (sB.below (ba.mono (by omega))) (by simp; omega)).mono ?_
        rintro e w1 ⟨rfl, hb1⟩
        have bx := ba.trans (hb1.mono (by simp))
        have box1 := rowk hb1 BOX.out
        obtain ⟨e0, e1, e2, e3, e4, e5⟩ := cells6 box1
        have z1 := bx.size
        clear hb1 box1
        cases hB : touchL i B
        · have HB := Lib.hid hB
          clear hB
          go_wp2_with fail
          refine (IH.out E lE (d - 1) _ (by omega) (by omega) K3.out AE E.len cE N _ (sE.below (bx.mono (by omega))) (by omega)).mono ?_
          rintro e w2 ⟨rfl, hb2⟩
          have by_ := bx.trans (hb2.mono z1)
          clear hb2
          cases hE : touchL i E
          · have H := Lib.hid (show touchL i L = touchL i (L.drop (k + 1)) by rw [HS.out, TS.out, HB.out, hE, HR.out]; rfl)
            clear hE
            go_wp2_with fail
            go_roundw
            case rel => exact ⟨k + 1, by omega, by go_num, H.out, hb.trans (by_.mono hsz)⟩
            case measure => simp [intOf]; omega
          · have H := Lib.hid (show touchL i L = true by rw [HS.out, hE]; simp)
            clear hE
            go_wp2_with fail
            go_ret
            exact ⟨by rw [H.out]; rfl, hb.trans (by_.mono hsz)⟩
        · have H := Lib.hid (show touchL i L = true by rw [HS.out, hB]; simp)
          clear hB
          go_wp2_with fail
          go_ret
          exact ⟨by rw [H.out]; rfl, hb.trans (bx.mono hsz)⟩
      · have hend := SL.drop_end (L := L) (i := k) (by omega)
        have H := Lib.hid (show touchL i L = false by rw [HZ.out, hend]; rfl)
        clear hend
        go_wp2_with fail
        go_ret
        exact ⟨by rw [H.out]; rfl, hb⟩

/-- Whether some list of a program does. -/
def touchP (i : Int) (Ls : List SL) : Bool := Ls.any (touchL i)

set_option maxRecDepth 100000 in
theorem wpTouches_ (i : Int) (Ls : List SL) (A : Option Addr) (n c N : Nat) (w : World) (hs : Ps w N Ls A n c) (hN : N ≤ w.heap.size) (hok : okPr Ls = true) :
    Calls Try.prog 33 #[.slice A n c, .int .i64 i] w fun e w' => e = .returned (.bool (touchP i Ls)) ∧ Below w.heap.size w w' := by
  have hlen : n ≤ Ls.length := Nat.le_of_eq hs.len
  have hlen' : Ls.length ≤ n := Nat.le_of_eq hs.len.symm
  have hmax : n ≤ 9223372036854775807 := by have := hs.le; have := hs.top; unfold maxLen at this; omega
  have HOK := Lib.hid hok
  clear hok
  go_enter Try.func33, Try.ntmps33
  go_wp2_with fail
  go_loopw [5] (fun v wr => ∃ k : Nat, k ≤ n ∧ v = .int .i64 k ∧ Go.RowKit.Hid ((Ls.take k).any (touchL i) = false) ∧ Below w.heap.size w wr) (fun v _ => n - (intOf v).toNat)
  case atStart => exact ⟨0, Nat.zero_le _, rfl, Lib.hid (by simp), Below.refl _ _⟩
  case round =>
    obtain ⟨k, hk, rfl, HT, hb⟩ := hrel
    have hsz := hb.size
    by_cases hlt : k < n
    · have hk' : k < Ls.length := by omega
      have hok1 := okPr_get HOK.out hk'
      obtain ⟨a, A1, c1, rfl, _, hc, hsl⟩ := (hs.below (hb.mono hN)).at_ k hk'
      have HTK := Lib.hid (show ∀ b, touchL i Ls[k] = b → (Ls.take (k + 1)).any (touchL i) = b from fun b h => by
        rw [List.take_add_one, List.any_append, HT.out, List.getElem?_eq_getElem hk']; simp [h])
      have HTY := Lib.hid (show touchL i Ls[k] = true → touchP i Ls = true from fun h => by
        unfold touchP; rw [List.any_eq_true]; exact ⟨Ls[k], List.getElem_mem hk', h⟩)
      generalize Ls[k] = L at *
      go_wp2_with fail
      refine (touch_any i (L.size + 1) L (by omega) 3 (-1) (by omega) (by omega) hok1 A1 L.len c1 N _ hsl (by omega)).mono ?_
      rintro e w1 ⟨rfl, hb1⟩
      cases ht : touchL i L
      · have HN := Lib.hid (HTK.out _ ht)
        clear ht
        go_wp2_with fail
        go_roundw
        case rel => exact ⟨k + 1, by omega, by go_num, HN, hb.trans (hb1.mono hsz)⟩
        case measure => simp [intOf]; omega
      · have HY := Lib.hid (HTY.out ht)
        clear ht
        go_wp2_with fail
        go_ret
        exact ⟨by rw [HY.out]; rfl, hb.trans (hb1.mono hsz)⟩
    · have HF := Lib.hid (show touchP i Ls = false by have := HT.out; rwa [List.take_of_length_le (by omega)] at this)
      go_wp2_with fail
      go_ret
      exact ⟨by rw [HF.out]; rfl, hb⟩
end Go.Proofs.Ytoinagefhbpakaa
