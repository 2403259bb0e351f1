/- The walk of laws.FnProgRoom. -/
import Derived.Test.YtlmgbpbiljnohaaDrawStOk
import Derived.Test.YtlmgbpbiljnohaaStmtOkSpec
import Derived.Test.YtlmgbpbiljnohaaEnters
import Derived.Deep.RegionHeld3
namespace Go.Proofs.Ytlmgbpbiljnohaa
open Go.ChangeShapes Go.WideShapes Go.ChangeAt Go.RowKit

/-- The statement that was drawn still lies in its block g, and nothing older than w has turned. -/
structure Kp (w : World) (g : Nat) (k x y v : Int) (B E : SL) (AB : Option Addr) (cB : Nat) (AE : Option Addr) (cE : Nat) (W : World) : Prop where
  b : Below w.heap.size w W
  row : W.heap[g]? = some (.cells #[.int .i64 k, .int .i64 x, .int .i64 y, .int .i64 v, .slice AB B.len cB, .slice AE E.len cE] 29 (0, 0))
  tB : Sl W g B AB B.len cB
  tE : Sl W g E AE E.len cE
  z : g < W.heap.size
  z0 : w.heap.size ≤ g

section
variable {w : World} {g : Nat} {k x y v : Int} {B E : SL} {AB : Option Addr} {cB : Nat} {AE : Option Addr} {cE : Nat} {W W' : World}

theorem Kp.next (h : Kp w g k x y v B E AB cB AE cE W) (hb : Below W.heap.size W W') : Kp w g k x y v B E AB cB AE cE W' :=
  ⟨h.b.trans (hb.mono (by have := h.z; have := h.z0; omega)), (hb.block _ h.z).trans h.row, h.tB.below (hb.mono (Nat.le_of_lt h.z)), h.tE.below (hb.mono (Nat.le_of_lt h.z)), Nat.lt_of_lt_of_le h.z hb.size, h.z0⟩
theorem Kp.drew (h : Kp w g k x y v B E AB cB AE cE W) : Kp w g k x y v B E AB cB AE cE W.drew := h.next (Below.refl _ _).drew
theorem Kp.alloc (h : Kp w g k x y v B E AB cB AE cE W) (o : Obj) : Kp w g k x y v B E AB cB AE cE (W.alloc o) := h.next ((Below.refl _ _).alloc (Nat.le_refl _) o)
theorem Kp.drewN (h : Kp w g k x y v B E AB cB AE cE W) (q : Nat) : Kp w g k x y v B E AB cB AE cE (W.drewN q) := h.next (below_drewN (Below.refl _ _) q)
theorem Kp.stmtOk (h : Kp w g k x y v B E AB cB AE cE W) (d r : Int) :
    Calls Try.prog 15 #[.agg #[.int .i64 k, .int .i64 x, .int .i64 y, .int .i64 v, .slice AB B.len cB, .slice AE E.len cE], .int .i64 d, .int .i64 r] W fun e w' => e = .returned (.bool (inB d r && okS k x y v B E d r)) ∧ Kp w g k x y v B E AB cB AE cE w' :=
  (Go.Proofs.Ytlmgbpbiljnohaa.stmtOk k x y v d r B E AB AE cB cE g W h.tB h.tE (Nat.le_of_lt h.z)).mono fun _ _ ⟨he, hb⟩ => ⟨he, h.next hb⟩
theorem Kp.specStmtOk (h : Kp w g k x y v B E AB cB AE cE W) (d r : Int) :
    Calls Try.prog 17 #[.agg #[.int .i64 k, .int .i64 x, .int .i64 y, .int .i64 v, .slice AB B.len cB, .slice AE E.len cE], .int .i64 d, .int .i64 r] W fun e w' => e = .returned (.bool (inB d r && okS k x y v B E d r)) ∧ Kp w g k x y v B E AB cB AE cE w' :=
  (Go.Proofs.Ytlmgbpbiljnohaa.specStmtOk k x y v d r B E AB AE cB cE g W h.tB h.tE (Nat.le_of_lt h.z)).mono fun _ _ ⟨he, hb⟩ => ⟨he, h.next hb⟩
/-- A list of it alone, in a new block. -/
theorem Kp.one (h : Kp w g k x y v B E AB cB AE cE W) :
    Sl (W.alloc (.cells #[.int .i64 k, .int .i64 x, .int .i64 y, .int .i64 v, .slice AB B.len cB, .slice AE E.len cE] 29)) (W.heap.size + 1) (.cons k x y v B E .nil) (some ⟨W.heap.size, 0, none⟩) 1 1 := by
  have hA := h.alloc (.cells #[.int .i64 k, .int .i64 x, .int .i64 y, .int .i64 v, .slice AB B.len cB, .slice AE E.len cE] 29)
  have hr := new_row W #[.int .i64 k, .int .i64 x, .int .i64 y, .int .i64 v, .slice AB B.len cB, .slice AE E.len cE] 29
  refine ⟨rfl, Nat.le_refl _, by unfold maxLen; simp, (fun h => by cases h), fun p hp => ?_⟩
  obtain rfl : p = ⟨W.heap.size, 0, none⟩ := by injection hp with h; exact h.symm
  obtain ⟨c0, c1, c2, c3, c4, c5⟩ := cells6 hr
  have hz := h.z
  exact At.mk (by show W.heap.size < W.heap.size + 1; omega) c0 c1 c2 c3 c4 c5 (hA.tB.mono (by omega)) (hA.tE.mono (by omega)) trivial

/-- A list of it alone, and one block more. -/
theorem two_new (h : Kp w g k x y v B E AB cB AE cE W) (o : Obj) :
    ((W.alloc (.cells #[.int .i64 k, .int .i64 x, .int .i64 y, .int .i64 v, .slice AB B.len cB, .slice AE E.len cE] 29)).alloc o).heap[W.heap.size + 1]? = some o ∧
    ((W.alloc (.cells #[.int .i64 k, .int .i64 x, .int .i64 y, .int .i64 v, .slice AB B.len cB, .slice AE E.len cE] 29)).alloc o).heap.size = W.heap.size + 2 ∧
    True ∧
    Sl ((W.alloc (.cells #[.int .i64 k, .int .i64 x, .int .i64 y, .int .i64 v, .slice AB B.len cB, .slice AE E.len cE] 29)).alloc o) (W.heap.size + 1) (.cons k x y v B E .nil) (some ⟨W.heap.size, 0, none⟩) 1 1 := by
  refine ⟨?_, by simp, trivial, h.one.below ((Below.refl _ _).alloc (by simp) _)⟩
  show ((W.heap.push _).push o)[W.heap.size + 1]? = _
  rw [Array.getElem?_push, if_pos (by simp)]
end

set_option maxRecDepth 100000 in
set_option maxHeartbeats 4000000 in
theorem wFnProgRoom (A : Option Addr) (n c : Nat) (w : World) (h : Bytes w A n) (hn : n ≤ c) (hc : c ≤ maxLen) :
    Calls Try.prog 4 #[.slice A n c] w fun e w' => e = .returned (.bool true) ∧ Below w.heap.size w w' := by
  by_cases hl : 1048576 < n
  · go_enter Try.func4, Try.ntmps4
    go_wp2
    go_ret
    exact ⟨rfl, Below.refl _ _⟩
  · go_enter Try.func4, Try.ntmps4
    go_wp2_with fail
    refine (drawStmtOk A n c _ h hn hc).mono ?_
    rintro e w1 ⟨k, x, y, v, d, r, B, E, AB, cB, AE, cE, rfl, sB1, sE1, hz, d0, d1, r0, r1, b1⟩
    have hb1 : Below w1.heap.size w1 (w1.alloc (.cells #[.int .i64 k, .int .i64 x, .int .i64 y, .int .i64 v, .slice AB B.len cB, .slice AE E.len cE] 29)) := (Below.refl _ _).alloc (Nat.le_refl _) _
    have K1 : Kp w w1.heap.size k x y v B E AB cB AE cE (w1.alloc (.cells #[.int .i64 k, .int .i64 x, .int .i64 y, .int .i64 v, .slice AB B.len cB, .slice AE E.len cE] 29)) :=
      ⟨b1.trans (hb1.mono b1.size), new_row w1 _ _, (sB1.sl fun _ h => h.2).below hb1, (sE1.sl fun _ h => h.2).below hb1, by simp, b1.size⟩
    clear sB1 sE1 h hb1 hz b1 hn hc
    go_wp2_with fail
    refine (K1.stmtOk d r).mono ?_
    rintro e w2 ⟨rfl, K2⟩
    clear K1
    generalize w1.heap.size = g at *
    obtain ⟨p0, p1, p2, p3, p4, p5⟩ := cells6 K2.row
    cases hok : (inB d r && okS k x y v B E d r)
    · have HOK := Lib.hid hok
      clear hok
      go_wp2_with fail
      refine (K2.specStmtOk d r).mono ?_
      rintro e w3 ⟨rfl, K3⟩
      rw [HOK.out]
      clear p0 p1 p2 p3 p4 p5 K2
      obtain ⟨p0, p1, p2, p3, p4, p5⟩ := cells6 K3.row
      go_wp2_with fail
      refine (K3.specStmtOk d r).mono ?_
      rintro e w4 ⟨rfl, K4⟩
      rw [HOK.out]
      go_wp2_with fail
      go_ret
      exact ⟨rfl, K4.b⟩
    · have HOK := Lib.hid hok
      rw [Bool.and_eq_true] at hok
      obtain ⟨hi, hs⟩ := hok
      obtain ⟨i0, i1, i2, i3⟩ := inB_iff.1 hi
      have hd1 := headB_one (okS_parts hs).1
      have HS := Lib.hid hs
      have H0 := Lib.hid (show (inB 0 r && okS k x y v B E 0 r) = false from by rw [okS_head (headB_deep (by omega)), Bool.and_false])
      have H4 := Lib.hid (show (inB 4 r && okS k x y v B E 4 r) = false from by rw [show inB 4 r = false from decide_eq_false (by omega), Bool.false_and])
      clear hs hi i0
      go_wp2_with fail
      refine (K2.specStmtOk d r).mono ?_
      rintro e w3 ⟨rfl, K3⟩
      rw [HOK.out]
      clear p0 p1 p2 p3 p4 p5 K2
      obtain ⟨p0, p1, p2, p3, p4, p5⟩ := cells6 K3.row
      by_cases h3 : d < 3
      focus
        have HU := Lib.hid (show (inB (d + 1) r && okS k x y v B E (d + 1) r) = true from by rw [okS_up HS.out, inB_iff.2 ⟨by omega, by omega, i2, i3⟩]; rfl)
        go_wp2_with fail
        refine (K3.stmtOk (d + 1) r).mono ?_
        rintro e wz ⟨rfl, KZ⟩
        rw [HU.out]
        clear p0 p1 p2 p3 p4 p5 K3 HU
        obtain ⟨p0, p1, p2, p3, p4, p5⟩ := cells6 KZ.row
        go_wp2_with fail
      rotate_left
      focus
        have KZ := K3
        clear K3
        go_wp2_with fail
      all_goals
        refine (KZ.stmtOk 0 r).mono ?_
        rintro e w5 ⟨rfl, K5⟩
        rw [H0.out]
        clear p0 p1 p2 p3 p4 p5 KZ
        obtain ⟨p0, p1, p2, p3, p4, p5⟩ := cells6 K5.row
        go_wp2_with fail
        refine (K5.stmtOk 4 r).mono ?_
        rintro e w6 ⟨rfl, K6⟩
        rw [H4.out]
        clear p0 p1 p2 p3 p4 p5 K5
        obtain ⟨p0, p1, p2, p3, p4, p5⟩ := cells6 K6.row
        go_wp2_with fail
        clear H0 H4 HOK h3
        by_cases hr : r < 0
        rotate_left
        focus
          have hg : decide (r < 0) = false := decide_eq_false hr
          go_quiet (fail)
          have KA := K6.drewN nq
          clear p0 p1 p2 p3 p4 p5 K6
          generalize w6.drewN nq = wA at *
        rotate_left
        focus
          obtain rfl : r = -1 := by omega
          have HQ := Lib.hid (show (inB d 0 && okS k x y v B E d 0) = !(ent (.cons k x y v B E .nil) 3) from by rw [okS_room HS.out (by omega), inB_iff.2 ⟨by omega, by omega, by omega, by omega⟩]; rfl)
          have HONE := Lib.hid (K6.one.below (N := w6.heap.size + 1) (w' := (w6.alloc (.cells #[.int .i64 k, .int .i64 x, .int .i64 y, .int .i64 v, .slice AB B.len cB, .slice AE E.len cE] 29)).drew) (Below.refl _ _).drew)
          have HKS := Lib.hid (show ∀ W, Kp w g k x y v B E AB cB AE cE W → (W.cell? ⟨g, 0, none⟩ = some (.int .i64 k) ∧ W.cell? ⟨g, 1, none⟩ = some (.int .i64 x) ∧ W.cell? ⟨g, 2, none⟩ = some (.int .i64 y) ∧ W.cell? ⟨g, 3, none⟩ = some (.int .i64 v) ∧ W.cell? ⟨g, 4, none⟩ = some (.slice AB B.len cB) ∧ W.cell? ⟨g, 5, none⟩ = some (.slice AE E.len cE)) ∧ Kp w g k x y v B E AB cB AE cE W from fun W hW => ⟨cells6 hW.row, hW⟩)
          obtain ⟨q, hq⟩ : ∃ q, ent (.cons k x y v B E .nil) 3 = q := ⟨_, rfl⟩
          have HE := Lib.hid hq
          have HQ' := Lib.hid (show (inB d 0 && okS k x y v B E d 0) = !q from by rw [HQ.out, hq])
          clear hq HQ hr
          go_region_held3 (fun W => (W.cell? ⟨g, 0, none⟩ = some (.int .i64 k) ∧ W.cell? ⟨g, 1, none⟩ = some (.int .i64 x) ∧ W.cell? ⟨g, 2, none⟩ = some (.int .i64 y) ∧ W.cell? ⟨g, 3, none⟩ = some (.int .i64 v) ∧ W.cell? ⟨g, 4, none⟩ = some (.slice AB B.len cB) ∧ W.cell? ⟨g, 5, none⟩ = some (.slice AE E.len cE)) ∧ Kp w g k x y v B E AB cB AE cE W)
            (first | exact HKS.out _ (by assumption) | exact HKS.out _ K6.drew | exact HKS.out _ (K6.alloc _).drew)
            (first
              | (go_at_call 18; refine (wpEnters (.cons k x y v B E .nil) 3 _ 1 1 (w6.heap.size + 1) _ HONE.out (by omega) (by omega)).mono ?_; rintro e wq ⟨rfl, rfl⟩; rw [HE.out])
              | (go_at_call 15; refine ((K6.alloc _).drew.stmtOk d 0).mono ?_; rintro e wA ⟨rfl, KA⟩; rw [HQ'.out]))
          all_goals
            clear p0 p1 p2 p3 p4 p5 K6 HONE HKS
            clear HE HQ'
            cases q
        all_goals
          obtain ⟨p0, p1, p2, p3, p4, p5⟩ := cells6 KA.row
          have hz := KA.z
          have al : ∀ (o : Obj) (j : Nat), (wA.alloc o).cell? ⟨g, j, none⟩ = wA.cell? ⟨g, j, none⟩ := fun o j => World.cell?_of_block (Below.heap_alloc wA o g hz)
          have al2 : ∀ (o o' : Obj) (j : Nat), ((wA.alloc o).alloc o').cell? ⟨g, j, none⟩ = wA.cell? ⟨g, j, none⟩ := fun o o' j => (World.cell?_of_block (Below.heap_alloc (wA.alloc o) o' g (by simp; omega))).trans (al o j)
          by_cases k8 : k = 8
          · subst k8
            first
              | exact absurd (okS_in HS.out) hr
              | (have HN := Lib.hid (show (inB d 0 && okS 8 x y v B E d 0) = false from by rw [okS_in_no, Bool.and_false])
                 have HI := Lib.hid (show (inB 3 (-1) && okS 8 0 0 0 (.cons 8 x y v B E .nil) .nil 3 (-1)) = false from by
                   rw [show okS 8 0 0 0 (.cons 8 x y v B E .nil) .nil 3 (-1) = false from by
                     unfold okS
                     rw [show inR 8 0 (-1) = 0 from rfl, okS_one, okS_in_no, Bool.and_false, Bool.false_and], Bool.and_false])
                 go_wp2_with fail
                 obtain ⟨v1, v2, v3, v4⟩ := two_new KA (.cells #[.int .i64 8, .int .i64 0, .int .i64 0, .int .i64 0, .slice (some ⟨wA.heap.size, 0, none⟩) 1 1, .slice none 0 0] 29)
                 have K7 := (KA.alloc (.cells #[.int .i64 8, .int .i64 x, .int .i64 y, .int .i64 v, .slice AB B.len cB, .slice AE E.len cE] 29)).alloc (.cells #[.int .i64 8, .int .i64 0, .int .i64 0, .int .i64 0, .slice (some ⟨wA.heap.size, 0, none⟩) 1 1, .slice none 0 0] 29)
                 refine (stmtOk 8 x y v d 0 B E AB AE cB cE g _ K7.tB K7.tE (Nat.le_of_lt K7.z)).mono ?_
                 rintro e w8 ⟨rfl, hb8⟩
                 rw [HN.out]
                 rw [v2] at hb8
                 obtain ⟨s0, s1, s2, s3, s4, s5⟩ := cells6 ((hb8.block _ (by omega)).trans v1)
                 have b8 := K7.b.trans (hb8.mono (by have := KA.z0; omega))
                 have t8 := v4.below (hb8.mono (by omega))
                 have z8 := hb8.size
                 rw [v2] at z8
                 clear K7 v1 v2 v3 v4 p0 p1 p2 p3 p4 p5 al al2 hb8 HN
                 go_wp2_with fail
                 refine (stmtOk 8 0 0 0 3 (-1) (.cons 8 x y v B E .nil) .nil (some ⟨wA.heap.size, 0, none⟩) none 1 0 (wA.heap.size + 1) _ t8 (Sl.none _ _ 0 (Nat.zero_le _)) (by omega)).mono ?_
                 rintro e w9 ⟨rfl, hb9⟩
                 rw [HI.out]
                 have b9 := b8.trans (hb9.mono b8.size)
                 clear hb9 t8 HI
                 go_wp2_with fail
                 go_ret
                 exact ⟨rfl, b9⟩)
          · have k8' : (k == 8) = false := by simpa using k8
            by_cases k9 : k = 9
            · subst k9
              first
                | exact absurd (okS_wait HS.out) (by decide)
                | (have hr' : (0 : Int) ≤ r := by omega
                   have HN := Lib.hid (show (inB d (-1) && okS 9 x y v B E d (-1)) = false from by rw [okS_wait_no, Bool.and_false])
                   go_wp2_with fail
                   refine (((KA.alloc _).alloc _).stmtOk d (-1)).mono ?_
                   rintro e w8 ⟨rfl, K8⟩
                   rw [HN.out]
                   go_wp2_with fail
                   go_ret
                   exact ⟨rfl, K8.b⟩)
            · have k9' : (k == 9) = false := by simpa using k9
              go_wp2_with fail
              go_ret
              exact ⟨rfl, ((KA.alloc _).alloc _).b⟩
end Go.Proofs.Ytlmgbpbiljnohaa
