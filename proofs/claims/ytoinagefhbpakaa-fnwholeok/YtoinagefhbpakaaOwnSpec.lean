/- The model's l6Owns says whether a list uses only what is assigned to its monitor. -/
import Derived.Test.YtoinagefhbpakaaOwnPure
import Derived.Test.YtoinagefhbpakaaFl
namespace Go.Proofs.Ytoinagefhbpakaa
open Go.ChangeShapes Go.WideShapes Go.ChangeAt Go.RowKit

/-- What a call of l6Owns on a list answers. -/
def OwnsSays (o : List Int) (L : SL) (d r : Int) : Prop := ∀ (A : Option Addr) (n c N : Nat) (B : Option Addr) (b c' : Nat) (S : Nat → Prop) (w : World), Sl w N L A n c → N ≤ w.heap.size → Fl w S 1 o B b c' →
  Calls Try.prog 42 #[.slice A n c, .slice B b c', .int .i64 r, .int .i64 d] w fun e w' => e = .returned (.bool (ownL o L r)) ∧ Below w.heap.size w w'

def OwnsRel (o : List Int) (L : SL) (r : Int) (w : World) (i : Value) (wr : World) : Prop :=
  ∃ k : Nat, k ≤ L.len ∧ i = .int .i64 k ∧ ownL o L r = ownL o (L.drop k) r ∧ Below w.heap.size w wr
theorem ownL_cons (o : List Int) (k x y n : Int) (B E R : SL) (r : Int) : ownL o (.cons k x y n B E R) r = (ownS o k x y r && ownL o B (inR k x r) && ownL o E (inR k x r) && ownL o R r) := rfl
theorem okL_drop {L : SL} {d r : Int} (h : okL L d r = true) : ∀ i, okL (L.drop i) d r = true := by
  intro i
  induction i generalizing L with
  | zero => rw [SL.drop_zero]; exact h
  | succ i ih => cases L with
    | nil => exact h
    | cons k x y n B E R => rw [okL_cons, Bool.and_eq_true] at h; exact ih (L := R) h.2
theorem headB_pos {k x y n : Int} {lb le : Nat} {d r : Int} (h : headB k x y n lb le d r = true) : 1 ≤ d := by
  unfold headB at h; rw [Bool.and_eq_true] at h; exact of_decide_eq_true h.1

set_option maxRecDepth 100000 in
set_option maxHeartbeats 60000000 in
theorem owns_any (o : List Int) (ho : o.length = 5) (m : Nat) : ∀ (L : SL), L.size < m → ∀ d r : Int, 0 ≤ d → d ≤ 3 → okL L d r = true → OwnsSays o L d r := by
  induction m with
  | zero => intro L hL; omega
  | succ m ih =>
    intro L hL d r hd0 hd3 hok A n c N Bp b c' S w hs hN ho'
    have IH := Lib.hid ih
    have HO := Lib.hid ho'
    clear ih ho'
    have hb5 : b = 5 := by have := HO.out.len; omega
    subst hb5
    have hlen : n ≤ L.len := Nat.le_of_eq hs.len
    have hlen' : L.len ≤ n := Nat.le_of_eq hs.len.symm
    have hmax : n ≤ 9223372036854775807 := by have := hs.le; have := hs.top; unfold maxLen at this; omega
    go_enter Try.func42, Try.ntmps42
    go_wp2_with fail
    go_loopw [9] (fun i wr => OwnsRel o L r w i wr) (fun i _ => n - (intOf i).toNat)
    case atStart => exact ⟨0, Nat.zero_le _, rfl, by rw [SL.drop_zero], Below.refl _ _⟩
    case round =>
      obtain ⟨k, hk, rfl, hz, hb⟩ := hrel
      have HZ := Lib.hid hz
      clear hz
      by_cases hlt : k < n
      · obtain ⟨K, x, y, v, B, E, R, hd⟩ := SL.drop_cons (L := L) (i := k) (by omega)
        have HD := Lib.hid hd
        have s1 := SL.drop_size hd
        have hok1 := okL_drop hok k
        rw [hd] at hok1
        clear hd
        obtain ⟨a, rfl⟩ := hs.some (by omega)
        have hat := ((hs.at_ a rfl).below (hb.mono hN)).drop k
        rw [HD.out] at hat
        obtain ⟨_, c0, c1, c2, c3, AB, cB, AE, cE, c4, c5, sB, sE, _⟩ := hat.first
        have hsz := hb.size
        simp only [okL, Bool.and_eq_true] at hok1
        obtain ⟨⟨⟨k1, k2⟩, k3⟩, k4⟩ := hok1
        have hd1 := headB_pos k1
        have K1 := Lib.hid (thing_ops k1)
        have hstep : ownL o L r = (ownS o K x y r && ownL o B (inR K x r) && ownL o E (inR K x r) && ownL o R r) := by rw [HZ.out, HD.out, ownL_cons]
        have HS := Lib.hid hstep
        have K2 := Lib.hid k2
        have K3 := Lib.hid k3
        clear k1 k4 k2 k3 hstep hok
        --CASES
        have ba : Below wr.heap.size wr (wr.alloc (.cells #[.int .i64 K, .int .i64 x, .int .i64 y, .int .i64 v, .slice AB B.len cB, .slice AE E.len cE] 65)) := (Below.refl _ _).alloc (Nat.le_refl _) _
        have BOX := Lib.hid (World.alloc_heap_new wr (.cells #[.int .i64 K, .int .i64 x, .int .i64 y, .int .i64 v, .slice AB B.len cB, .slice AE E.len cE] 65))
        by_cases h8 : K = 8
        · subst h8
          have HK := Lib.hid (show ownS o 8 x y r = true from by simp [ownS, thing] <;> (intro h; omega))
          have HI := Lib.hid (show inR 8 x r = x from by unfold inR; simp [*])
          have lB : B.size < m := by omega
          have lE : E.size < m := by omega
          go_wp2_with fail
          refine (IH.out B lB (d - 1) (x) (by omega) (by omega) (by rw [← HI.out]; exact K2.out) AB B.len cB N _ 5 c' S _ (sB.below (ba.mono (by omega))) (by simp; omega) ((HO.out.later hb).later ba)).mono ?_
          rintro e w1 ⟨rfl, hb1⟩
          have bx := ba.trans (hb1.mono (by simp))
          have box1 := (hb1.block wr.heap.size (by simp)).trans BOX.out
          clear hb1
          obtain ⟨e0, e1, e2, e3, e4, e5⟩ := cells6 box1
          have z1 := bx.size
          cases hB : ownL o B (x)
          · have H := Lib.hid (show ownL o L r = false from by rw [HS.out, HK.out, HI.out, hB]; simp)
            clear hB
            go_wp2_with fail
            go_ret
            exact ⟨by rw [H.out]; rfl, hb.trans (bx.mono hsz)⟩
          have HB := Lib.hid hB
          clear hB
          go_wp2_with fail
          refine (IH.out E lE (d - 1) (x) (by omega) (by omega) (by rw [← HI.out]; exact K3.out) AE E.len cE N _ 5 c' S _ (sE.below (bx.mono (by omega))) (by omega) ((HO.out.later hb).later bx)).mono ?_
          rintro e w2 ⟨rfl, hb2⟩
          cases hE : ownL o E (x)
          · have H := Lib.hid (show ownL o L r = false from by rw [HS.out, HK.out, HI.out, hE]; simp)
            clear hE
            go_wp2_with fail
            go_ret
            exact ⟨by rw [H.out]; rfl, hb.trans ((bx.trans (hb2.mono z1)).mono hsz)⟩
          · have H := Lib.hid (show ownL o L r = ownL o R r from by rw [HS.out, HK.out, HI.out, HB.out, hE]; simp)
            clear hE
            go_wp2_with fail
            go_roundw
            case rel => exact ⟨k + 1, by omega, by go_num, by rw [SL.drop_succ HD.out]; exact H.out, hb.trans ((bx.trans (hb2.mono z1)).mono hsz)⟩
            case measure => simp [intOf]; omega
        by_cases h3 : K = 3
        · subst h3
          have hy := K1.out.1 rfl
          obtain ⟨j, rfl⟩ := Int.eq_ofNat_of_zero_le hy.1
          have HK := Lib.hid (show ownS o 3 x (j : Int) r = decide (o.getD j 0 = r) from by simp [ownS, thing] <;> (intro h; omega))
          have HI := Lib.hid (show inR 3 x r = r from by unfold inR; simp [*])
          have ha0 := HO.out.some (by omega)
          obtain ⟨ao, rfl⟩ := ha0
          have co := ((HO.out.later hb).later ba).one (j) (by omega)
          by_cases hr : o.getD (j) 0 = r
          · have SO := Lib.hid (show ownS o 3 x (j : Int) r = true from by rw [HK.out, decide_eq_true hr])
            rw [hr] at co
            clear hr HK
            have HK := SO
            have lB : B.size < m := by omega
            have lE : E.size < m := by omega
            go_wp2_with fail
            refine (IH.out B lB (d - 1) (r) (by omega) (by omega) (by rw [← HI.out]; exact K2.out) AB B.len cB N _ 5 c' S _ (sB.below (ba.mono (by omega))) (by simp; omega) ((HO.out.later hb).later ba)).mono ?_
            rintro e w1 ⟨rfl, hb1⟩
            have bx := ba.trans (hb1.mono (by simp))
            have box1 := (hb1.block wr.heap.size (by simp)).trans BOX.out
            clear hb1
            obtain ⟨e0, e1, e2, e3, e4, e5⟩ := cells6 box1
            have z1 := bx.size
            cases hB : ownL o B (r)
            · have H := Lib.hid (show ownL o L r = false from by rw [HS.out, HK.out, HI.out, hB]; simp)
              clear hB
              go_wp2_with fail
              go_ret
              exact ⟨by rw [H.out]; rfl, hb.trans (bx.mono hsz)⟩
            have HB := Lib.hid hB
            clear hB
            go_wp2_with fail
            refine (IH.out E lE (d - 1) (r) (by omega) (by omega) (by rw [← HI.out]; exact K3.out) AE E.len cE N _ 5 c' S _ (sE.below (bx.mono (by omega))) (by omega) ((HO.out.later hb).later bx)).mono ?_
            rintro e w2 ⟨rfl, hb2⟩
            cases hE : ownL o E (r)
            · have H := Lib.hid (show ownL o L r = false from by rw [HS.out, HK.out, HI.out, hE]; simp)
              clear hE
              go_wp2_with fail
              go_ret
              exact ⟨by rw [H.out]; rfl, hb.trans ((bx.trans (hb2.mono z1)).mono hsz)⟩
            · have H := Lib.hid (show ownL o L r = ownL o R r from by rw [HS.out, HK.out, HI.out, HB.out, hE]; simp)
              clear hE
              go_wp2_with fail
              go_roundw
              case rel => exact ⟨k + 1, by omega, by go_num, by rw [SL.drop_succ HD.out]; exact H.out, hb.trans ((bx.trans (hb2.mono z1)).mono hsz)⟩
              case measure => simp [intOf]; omega
          · have SO := Lib.hid (show ownS o 3 x (j : Int) r = false from by rw [HK.out, decide_eq_false hr])
            have H := Lib.hid (show ownL o L r = false from by rw [HS.out, SO.out]; simp)
            generalize o.getD (j) 0 = z at *
            go_wp2_with fail
            go_ret
            exact ⟨by rw [H.out]; rfl, hb.trans (ba.mono hsz)⟩
        by_cases h4 : K = 4
        · subst h4
          have hx := K1.out.2.1 rfl
          obtain ⟨j, rfl⟩ := Int.eq_ofNat_of_zero_le hx.1
          have HK := Lib.hid (show ownS o 4 (j : Int) y r = decide (o.getD j 0 = r) from by simp [ownS, thing] <;> (intro h; omega))
          have HI := Lib.hid (show inR 4 (j : Int) r = r from by unfold inR; simp [*])
          have ha0 := HO.out.some (by omega)
          obtain ⟨ao, rfl⟩ := ha0
          have co := ((HO.out.later hb).later ba).one (j) (by omega)
          by_cases hr : o.getD (j) 0 = r
          · have SO := Lib.hid (show ownS o 4 (j : Int) y r = true from by rw [HK.out, decide_eq_true hr])
            rw [hr] at co
            clear hr HK
            have HK := SO
            have lB : B.size < m := by omega
            have lE : E.size < m := by omega
            go_wp2_with fail
            refine (IH.out B lB (d - 1) (r) (by omega) (by omega) (by rw [← HI.out]; exact K2.out) AB B.len cB N _ 5 c' S _ (sB.below (ba.mono (by omega))) (by simp; omega) ((HO.out.later hb).later ba)).mono ?_
            rintro e w1 ⟨rfl, hb1⟩
            have bx := ba.trans (hb1.mono (by simp))
            have box1 := (hb1.block wr.heap.size (by simp)).trans BOX.out
            clear hb1
            obtain ⟨e0, e1, e2, e3, e4, e5⟩ := cells6 box1
            have z1 := bx.size
            cases hB : ownL o B (r)
            · have H := Lib.hid (show ownL o L r = false from by rw [HS.out, HK.out, HI.out, hB]; simp)
              clear hB
              go_wp2_with fail
              go_ret
              exact ⟨by rw [H.out]; rfl, hb.trans (bx.mono hsz)⟩
            have HB := Lib.hid hB
            clear hB
            go_wp2_with fail
            refine (IH.out E lE (d - 1) (r) (by omega) (by omega) (by rw [← HI.out]; exact K3.out) AE E.len cE N _ 5 c' S _ (sE.below (bx.mono (by omega))) (by omega) ((HO.out.later hb).later bx)).mono ?_
            rintro e w2 ⟨rfl, hb2⟩
            cases hE : ownL o E (r)
            · have H := Lib.hid (show ownL o L r = false from by rw [HS.out, HK.out, HI.out, hE]; simp)
              clear hE
              go_wp2_with fail
              go_ret
              exact ⟨by rw [H.out]; rfl, hb.trans ((bx.trans (hb2.mono z1)).mono hsz)⟩
            · have H := Lib.hid (show ownL o L r = ownL o R r from by rw [HS.out, HK.out, HI.out, HB.out, hE]; simp)
              clear hE
              go_wp2_with fail
              go_roundw
              case rel => exact ⟨k + 1, by omega, by go_num, by rw [SL.drop_succ HD.out]; exact H.out, hb.trans ((bx.trans (hb2.mono z1)).mono hsz)⟩
              case measure => simp [intOf]; omega
          · have SO := Lib.hid (show ownS o 4 (j : Int) y r = false from by rw [HK.out, decide_eq_false hr])
            have H := Lib.hid (show ownL o L r = false from by rw [HS.out, SO.out]; simp)
            generalize o.getD (j) 0 = z at *
            go_wp2_with fail
            go_ret
            exact ⟨by rw [H.out]; rfl, hb.trans (ba.mono hsz)⟩
        by_cases h9 : K = 9
        · subst h9
          have hx2 := K1.out.2.2 (by simp)
          obtain ⟨j, hj⟩ : ∃ j : Nat, 3 + x = (j : Int) := ⟨(3 + x).toNat, by omega⟩
          have hj5 : j < 5 := by omega
          clear hx2
          have HK := Lib.hid (show ownS o 9 x y r = decide (o.getD j 0 = r) from by unfold ownS; rw [show thing 9 x y = (j : Int) from by unfold thing; simp; omega]; simp <;> (intro h; omega))
          have HI := Lib.hid (show inR 9 x r = r from by unfold inR; simp [*])
          have ha0 := HO.out.some (by omega)
          obtain ⟨ao, rfl⟩ := ha0
          have co := ((HO.out.later hb).later ba).one (j) (by omega)
          by_cases hr : o.getD (j) 0 = r
          · have SO := Lib.hid (show ownS o 9 x y r = true from by rw [HK.out, decide_eq_true hr])
            rw [hr] at co
            clear hr HK
            have HK := SO
            have lB : B.size < m := by omega
            have lE : E.size < m := by omega
            go_wp2_with fail
            refine (IH.out B lB (d - 1) (r) (by omega) (by omega) (by rw [← HI.out]; exact K2.out) AB B.len cB N _ 5 c' S _ (sB.below (ba.mono (by omega))) (by simp; omega) ((HO.out.later hb).later ba)).mono ?_
            rintro e w1 ⟨rfl, hb1⟩
            have bx := ba.trans (hb1.mono (by simp))
            have box1 := (hb1.block wr.heap.size (by simp)).trans BOX.out
            clear hb1
            obtain ⟨e0, e1, e2, e3, e4, e5⟩ := cells6 box1
            have z1 := bx.size
            cases hB : ownL o B (r)
            · have H := Lib.hid (show ownL o L r = false from by rw [HS.out, HK.out, HI.out, hB]; simp)
              clear hB
              go_wp2_with fail
              go_ret
              exact ⟨by rw [H.out]; rfl, hb.trans (bx.mono hsz)⟩
            have HB := Lib.hid hB
            clear hB
            go_wp2_with fail
            refine (IH.out E lE (d - 1) (r) (by omega) (by omega) (by rw [← HI.out]; exact K3.out) AE E.len cE N _ 5 c' S _ (sE.below (bx.mono (by omega))) (by omega) ((HO.out.later hb).later bx)).mono ?_
            rintro e w2 ⟨rfl, hb2⟩
            cases hE : ownL o E (r)
            · have H := Lib.hid (show ownL o L r = false from by rw [HS.out, HK.out, HI.out, hE]; simp)
              clear hE
              go_wp2_with fail
              go_ret
              exact ⟨by rw [H.out]; rfl, hb.trans ((bx.trans (hb2.mono z1)).mono hsz)⟩
            · have H := Lib.hid (show ownL o L r = ownL o R r from by rw [HS.out, HK.out, HI.out, HB.out, hE]; simp)
              clear hE
              go_wp2_with fail
              go_roundw
              case rel => exact ⟨k + 1, by omega, by go_num, by rw [SL.drop_succ HD.out]; exact H.out, hb.trans ((bx.trans (hb2.mono z1)).mono hsz)⟩
              case measure => simp [intOf]; omega
          · have SO := Lib.hid (show ownS o 9 x y r = false from by rw [HK.out, decide_eq_false hr])
            have H := Lib.hid (show ownL o L r = false from by rw [HS.out, SO.out]; simp)
            generalize o.getD (j) 0 = z at *
            go_wp2_with fail
            go_ret
            exact ⟨by rw [H.out]; rfl, hb.trans (ba.mono hsz)⟩
        by_cases h10 : K = 10
        · subst h10
          have hx2 := K1.out.2.2 (by simp)
          obtain ⟨j, hj⟩ : ∃ j : Nat, 3 + x = (j : Int) := ⟨(3 + x).toNat, by omega⟩
          have hj5 : j < 5 := by omega
          clear hx2
          have HK := Lib.hid (show ownS o 10 x y r = decide (o.getD j 0 = r) from by unfold ownS; rw [show thing 10 x y = (j : Int) from by unfold thing; simp; omega]; simp <;> (intro h; omega))
          have HI := Lib.hid (show inR 10 x r = r from by unfold inR; simp [*])
          have ha0 := HO.out.some (by omega)
          obtain ⟨ao, rfl⟩ := ha0
          have co := ((HO.out.later hb).later ba).one (j) (by omega)
          by_cases hr : o.getD (j) 0 = r
          · have SO := Lib.hid (show ownS o 10 x y r = true from by rw [HK.out, decide_eq_true hr])
            rw [hr] at co
            clear hr HK
            have HK := SO
            have lB : B.size < m := by omega
            have lE : E.size < m := by omega
            go_wp2_with fail
            refine (IH.out B lB (d - 1) (r) (by omega) (by omega) (by rw [← HI.out]; exact K2.out) AB B.len cB N _ 5 c' S _ (sB.below (ba.mono (by omega))) (by simp; omega) ((HO.out.later hb).later ba)).mono ?_
            rintro e w1 ⟨rfl, hb1⟩
            have bx := ba.trans (hb1.mono (by simp))
            have box1 := (hb1.block wr.heap.size (by simp)).trans BOX.out
            clear hb1
            obtain ⟨e0, e1, e2, e3, e4, e5⟩ := cells6 box1
            have z1 := bx.size
            cases hB : ownL o B (r)
            · have H := Lib.hid (show ownL o L r = false from by rw [HS.out, HK.out, HI.out, hB]; simp)
              clear hB
              go_wp2_with fail
              go_ret
              exact ⟨by rw [H.out]; rfl, hb.trans (bx.mono hsz)⟩
            have HB := Lib.hid hB
            clear hB
            go_wp2_with fail
            refine (IH.out E lE (d - 1) (r) (by omega) (by omega) (by rw [← HI.out]; exact K3.out) AE E.len cE N _ 5 c' S _ (sE.below (bx.mono (by omega))) (by omega) ((HO.out.later hb).later bx)).mono ?_
            rintro e w2 ⟨rfl, hb2⟩
            cases hE : ownL o E (r)
            · have H := Lib.hid (show ownL o L r = false from by rw [HS.out, HK.out, HI.out, hE]; simp)
              clear hE
              go_wp2_with fail
              go_ret
              exact ⟨by rw [H.out]; rfl, hb.trans ((bx.trans (hb2.mono z1)).mono hsz)⟩
            · have H := Lib.hid (show ownL o L r = ownL o R r from by rw [HS.out, HK.out, HI.out, HB.out, hE]; simp)
              clear hE
              go_wp2_with fail
              go_roundw
              case rel => exact ⟨k + 1, by omega, by go_num, by rw [SL.drop_succ HD.out]; exact H.out, hb.trans ((bx.trans (hb2.mono z1)).mono hsz)⟩
              case measure => simp [intOf]; omega
          · have SO := Lib.hid (show ownS o 10 x y r = false from by rw [HK.out, decide_eq_false hr])
            have H := Lib.hid (show ownL o L r = false from by rw [HS.out, SO.out]; simp)
            generalize o.getD (j) 0 = z at *
            go_wp2_with fail
            go_ret
            exact ⟨by rw [H.out]; rfl, hb.trans (ba.mono hsz)⟩
        have HK := Lib.hid (show ownS o K x y r = true from by simp [ownS, thing, *])
        have HI := Lib.hid (show inR K x r = r from by unfold inR; simp [*])
        have lB : B.size < m := by omega
        have lE : E.size < m := by omega
        go_wp2_with fail
        refine (IH.out B lB (d - 1) (r) (by omega) (by omega) (by rw [← HI.out]; exact K2.out) AB B.len cB N _ 5 c' S _ (sB.below (ba.mono (by omega))) (by simp; omega) ((HO.out.later hb).later ba)).mono ?_
        rintro e w1 ⟨rfl, hb1⟩
        have bx := ba.trans (hb1.mono (by simp))
        have box1 := (hb1.block wr.heap.size (by simp)).trans BOX.out
        clear hb1
        obtain ⟨e0, e1, e2, e3, e4, e5⟩ := cells6 box1
        have z1 := bx.size
        cases hB : ownL o B (r)
        · have H := Lib.hid (show ownL o L r = false from by rw [HS.out, HK.out, HI.out, hB]; simp)
          clear hB
          go_wp2_with fail
          go_ret
          exact ⟨by rw [H.out]; rfl, hb.trans (bx.mono hsz)⟩
        have HB := Lib.hid hB
        clear hB
        go_wp2_with fail
        refine (IH.out E lE (d - 1) (r) (by omega) (by omega) (by rw [← HI.out]; exact K3.out) AE E.len cE N _ 5 c' S _ (sE.below (bx.mono (by omega))) (by omega) ((HO.out.later hb).later bx)).mono ?_
        rintro e w2 ⟨rfl, hb2⟩
        cases hE : ownL o E (r)
        · have H := Lib.hid (show ownL o L r = false from by rw [HS.out, HK.out, HI.out, hE]; simp)
          clear hE
          go_wp2_with fail
          go_ret
          exact ⟨by rw [H.out]; rfl, hb.trans ((bx.trans (hb2.mono z1)).mono hsz)⟩
        · have H := Lib.hid (show ownL o L r = ownL o R r from by rw [HS.out, HK.out, HI.out, HB.out, hE]; simp)
          clear hE
          go_wp2_with fail
          go_roundw
          case rel => exact ⟨k + 1, by omega, by go_num, by rw [SL.drop_succ HD.out]; exact H.out, hb.trans ((bx.trans (hb2.mono z1)).mono hsz)⟩
          case measure => simp [intOf]; omega
        --END
      · have hend := SL.drop_end (L := L) (i := k) (by omega)
        have H2 := Lib.hid (show ownL o L r = true from by rw [HZ.out, hend]; rfl)
        clear hend
        go_wp2_with fail
        go_ret
        exact ⟨by rw [H2.out]; rfl, hb⟩
end Go.Proofs.Ytoinagefhbpakaa
