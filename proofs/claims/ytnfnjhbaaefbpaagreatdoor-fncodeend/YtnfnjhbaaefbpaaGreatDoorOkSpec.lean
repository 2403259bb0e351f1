/- The model's l2Stmt and l2List say whether a statement, a list is right. -/
import Derived.Test.YtnfnjhbaaefbpaaGreatDoorOkPure
namespace Go.Proofs.YtnfnjhbaaefbpaaGreatDoor
open Go.ChangeShapes Go.WideShapes Go.ChangeAt Go.RowKit

/-- What a call of l2List on a list answers. -/
def ListSays (L : SL) (d r : Int) : Prop := ∀ (A : Option Addr) (n c N : Nat) (w : World), Sl w N L A n c → N ≤ w.heap.size →
  Calls Tryz.prog 22 #[.slice A n c, .int .i64 d, .int .i64 r] w fun e w' => e = .returned (.bool (okL L d r)) ∧ Below w.heap.size w w'

theorem ListSays.at {L : SL} {d r : Int} (h : ListSays L d r) {b : Bool} (hb : okL L d r = b) {A : Option Addr} {n c N : Nat} {w : World} (hs : Sl w N L A n c) (hN : N ≤ w.heap.size) :
    Calls Tryz.prog 22 #[.slice A n c, .int .i64 d, .int .i64 r] w fun e w' => e = .returned (.bool b) ∧ Below w.heap.size w w' := by
  have := h A n c N w hs hN
  rwa [hb] at this

set_option maxRecDepth 100000 in
set_option maxHeartbeats 4000000 in
theorem specStmt_leaf (k x y n d r : Int) (B E : SL) (A A' : Option Addr) (c c' : Nat) (w : World) (hd0 : 0 ≤ d) (hd3 : d ≤ 3) (h6 : k ≠ 6) (h7 : k ≠ 7) (h8 : k ≠ 8) :
    Calls Tryz.prog 38 #[.agg #[.int .i64 k, .int .i64 x, .int .i64 y, .int .i64 n, .slice A B.len c, .slice A' E.len c'], .int .i64 d, .int .i64 r] w fun e w' => e = .returned (.bool (okS k x y n B E d r)) ∧ Below w.heap.size w w' := by
  have hb0 : Below w.heap.size w (w.alloc (.cells #[.int .i64 k, .int .i64 x, .int .i64 y, .int .i64 n, .slice A B.len c, .slice A' E.len c'] 36)) := (Below.refl _ _).alloc (Nat.le_refl _) _
  by_cases hd : 1 ≤ d
  · by_cases hE : E.len = 0
    · by_cases hB : B.len = 0
      · have H := Lib.hid (okS_leaf (x := x) (y := y) (n := n) (r := r) h6 h7 h8 hd hB hE)
        rw [hB, hE] at hb0 ⊢
        clear hB hE
        go_enter Tryz.func38, Tryz.ntmps38
        go_wp2_with fail
        refine (specLeaf k x y n r _ _ _).mono ?_
        rintro e w1 ⟨rfl, hb1⟩
        go_wp2_with fail
        go_ret
        exact ⟨by rw [H.out]; rfl, hb0.trans (hb1.mono (by simp))⟩
      · have H := Lib.hid (okS_leaf_not (x := x) (y := y) (n := n) (d := d) (r := r) h6 h7 h8 (B := B) (E := E) (by omega))
        rw [hE] at hb0 ⊢
        clear hE
        go_enter Tryz.func38, Tryz.ntmps38
        go_wp2_with fail
        go_ret
        exact ⟨by rw [H.out]; rfl, hb0⟩
    · have H := Lib.hid (okS_leaf_not (x := x) (y := y) (n := n) (d := d) (r := r) h6 h7 h8 (B := B) (E := E) (by omega))
      have hE' : 0 < E.len := by omega
      go_enter Tryz.func38, Tryz.ntmps38
      go_wp2_with fail
      go_ret
      exact ⟨by rw [H.out]; rfl, hb0⟩
  · have H := Lib.hid (okS_head (headB_deep (k := k) (x := x) (y := y) (n := n) (r := r) hd : headB k x y n B.len E.len d r = false))
    obtain rfl : d = 0 := by omega
    by_cases hE : E.len = 0
    · rw [hE] at hb0 ⊢
      clear hE
      go_enter Tryz.func38, Tryz.ntmps38
      go_wp2_with fail
      go_ret
      exact ⟨by rw [H.out]; rfl, hb0⟩
    · have hE' : 0 < E.len := by omega
      go_enter Tryz.func38, Tryz.ntmps38
      go_wp2_with fail
      go_ret
      exact ⟨by rw [H.out]; rfl, hb0⟩

/-- A statement that lies too deep. -/
theorem specStmt_shallow (k x y n d r : Int) (B E : SL) (A A' : Option Addr) (c c' : Nat) (w : World) (hd0 : 0 ≤ d) (hd : ¬ 1 ≤ d) :
    Calls Tryz.prog 38 #[.agg #[.int .i64 k, .int .i64 x, .int .i64 y, .int .i64 n, .slice A B.len c, .slice A' E.len c'], .int .i64 d, .int .i64 r] w fun e w' => e = .returned (.bool (okS k x y n B E d r)) ∧ Below w.heap.size w w' := by
  have H := Lib.hid (okS_head (headB_deep (k := k) (x := x) (y := y) (n := n) (r := r) hd : headB k x y n B.len E.len d r = false))
  obtain rfl : d = 0 := by omega
  by_cases h6 : k = 6
  · subst h6
    go_enter Tryz.func38, Tryz.ntmps38
    go_wp2_with fail
    go_ret
    exact ⟨by rw [H.out]; rfl, (Below.refl _ _).alloc (Nat.le_refl _) _⟩
  go_enter Tryz.func38, Tryz.ntmps38
  go_wp2_with fail
  all_goals
    go_ret
    exact ⟨by rw [H.out]; rfl, (Below.refl _ _).alloc (Nat.le_refl _) _⟩

set_option maxRecDepth 100000 in
set_option maxHeartbeats 4000000 in
theorem specStmt_6 (x y n d r : Int) (B E : SL) (hB : ListSays B (d - 1) r) (hE : ListSays E (d - 1) r) (A A' : Option Addr) (c c' N : Nat) (w : World) (sB : Sl w N B A B.len c) (sE : Sl w N E A' E.len c') (hN : N ≤ w.heap.size) (hd0 : 0 ≤ d) (hd3 : d ≤ 3) :
    Calls Tryz.prog 38 #[.agg #[.int .i64 6, .int .i64 x, .int .i64 y, .int .i64 n, .slice A B.len c, .slice A' E.len c'], .int .i64 d, .int .i64 r] w fun e w' => e = .returned (.bool (okS 6 x y n B E d r)) ∧ Below w.heap.size w w' := by
  have hb0 : Below w.heap.size w (w.alloc (.cells #[.int .i64 6, .int .i64 x, .int .i64 y, .int .i64 n, .slice A B.len c, .slice A' E.len c'] 36)) := (Below.refl _ _).alloc (Nat.le_refl _) _
  have HB := Lib.hid hB
  have HE := Lib.hid hE
  clear hB hE
  by_cases hd : 1 ≤ d
  · by_cases hf : 0 ≤ x ∧ x < 3 ∧ y = 0 ∧ n = 0
    · obtain ⟨x0, x1, rfl, rfl⟩ := hf
      have hS : okS 6 x 0 0 B E d r = (okL B (d - 1) r && okL E (d - 1) r) := by simp [okS, headB, hd, x0, x1, inR]
      cases hb1 : okL B (d - 1) r
      · have H := Lib.hid (show okS 6 x 0 0 B E d r = false from by rw [hS, hb1]; rfl)
        have H1 := Lib.hid hb1
        clear hS hb1
        go_enter Tryz.func38, Tryz.ntmps38
        go_wp2_with fail
        refine (HB.out.at H1.out (sB.below (hb0.mono hN)) (by simp; omega)).mono ?_
        rintro e w1 ⟨rfl, hb1⟩
        go_wp2_with fail
        go_ret
        exact ⟨by rw [H.out]; rfl, hb0.trans (hb1.mono (by simp))⟩
      · have H := Lib.hid (show okS 6 x 0 0 B E d r = okL E (d - 1) r from by rw [hS, hb1]; rfl)
        have H1 := Lib.hid hb1
        clear hS hb1
        go_enter Tryz.func38, Tryz.ntmps38
        go_wp2_with fail
        refine (HB.out.at H1.out (sB.below (hb0.mono hN)) (by simp; omega)).mono ?_
        rintro e w1 ⟨rfl, hb1⟩
        have hb1' := hb0.trans (hb1.mono (by simp))
        have c5 : w1.cell? ⟨w.heap.size, 5, none⟩ = some (.slice A' E.len c') := by rw [cell_new hb1]; rfl
        have hz := hb1'.size
        go_wp2_with fail
        refine (HE.out.at rfl (sE.below (hb1'.mono hN)) (by omega)).mono ?_
        rintro e w2 ⟨rfl, hb2⟩
        go_wp2_with fail
        go_ret
        exact ⟨by rw [H.out]; rfl, hb1'.trans (hb2.mono hz)⟩
    · have H := Lib.hid (show okS 6 x y n B E d r = false from okS_head (by simp only [headB, if_true, decide_eq_false hf, Bool.and_false]))
      go_enter Tryz.func38, Tryz.ntmps38
      go_wp2_with fail
      all_goals first
        | (exfalso; omega)
        | (go_ret; exact ⟨by rw [H.out]; rfl, (Below.refl _ _).alloc (Nat.le_refl _) _⟩)
  · have H := Lib.hid (okS_head (headB_deep (k := 6) (x := x) (y := y) (n := n) (r := r) hd : headB 6 x y n B.len E.len d r = false))
    go_enter Tryz.func38, Tryz.ntmps38
    go_wp2_with fail
    go_ret
    exact ⟨by rw [H.out]; rfl, hb0⟩
set_option maxRecDepth 100000 in
set_option maxHeartbeats 4000000 in
theorem specStmt_7 (x y n d r : Int) (B E : SL) (hB : ListSays B (d - 1) r) (hE : ListSays E (d - 1) r) (A A' : Option Addr) (c c' N : Nat) (w : World) (sB : Sl w N B A B.len c) (sE : Sl w N E A' 0 c') (hE0 : E.len = 0) (hN : N ≤ w.heap.size) (hd0 : 0 ≤ d) (hd3 : d ≤ 3) :
    Calls Tryz.prog 38 #[.agg #[.int .i64 7, .int .i64 x, .int .i64 y, .int .i64 n, .slice A B.len c, .slice A' 0 c'], .int .i64 d, .int .i64 r] w fun e w' => e = .returned (.bool (okS 7 x y n B E d r)) ∧ Below w.heap.size w w' := by
  have hb0 : Below w.heap.size w (w.alloc (.cells #[.int .i64 7, .int .i64 x, .int .i64 y, .int .i64 n, .slice A B.len c, .slice A' 0 c'] 36)) := (Below.refl _ _).alloc (Nat.le_refl _) _
  have HB := Lib.hid hB
  have HE := Lib.hid hE
  have HE0 := Lib.hid hE0
  clear hB hE hE0
  by_cases hd : 1 ≤ d
  · by_cases hf : 0 ≤ x ∧ x < 3 ∧ y = 0 ∧ n = 0
    · obtain ⟨x0, x1, rfl, rfl⟩ := hf
      have hS : okS 7 x 0 0 B E d r = (okL B (d - 1) r && okL E (d - 1) r) := by simp [okS, headB, hd, x0, x1, inR, HE0.out]
      cases hb1 : okL B (d - 1) r
      · have H := Lib.hid (show okS 7 x 0 0 B E d r = false from by rw [hS, hb1]; rfl)
        have H1 := Lib.hid hb1
        clear hS hb1
        go_enter Tryz.func38, Tryz.ntmps38
        go_wp2_with fail
        refine (HB.out.at H1.out (sB.below (hb0.mono hN)) (by simp; omega)).mono ?_
        rintro e w1 ⟨rfl, hb1⟩
        go_wp2_with fail
        go_ret
        exact ⟨by rw [H.out]; rfl, hb0.trans (hb1.mono (by simp))⟩
      · have H := Lib.hid (show okS 7 x 0 0 B E d r = okL E (d - 1) r from by rw [hS, hb1]; rfl)
        have H1 := Lib.hid hb1
        clear hS hb1
        go_enter Tryz.func38, Tryz.ntmps38
        go_wp2_with fail
        refine (HB.out.at H1.out (sB.below (hb0.mono hN)) (by simp; omega)).mono ?_
        rintro e w1 ⟨rfl, hb1⟩
        have hb1' := hb0.trans (hb1.mono (by simp))
        have c5 : w1.cell? ⟨w.heap.size, 5, none⟩ = some (.slice A' 0 c') := by rw [cell_new hb1]; rfl
        have hz := hb1'.size
        go_wp2_with fail
        refine (HE.out.at rfl (sE.below (hb1'.mono hN)) (by omega)).mono ?_
        rintro e w2 ⟨rfl, hb2⟩
        go_wp2_with fail
        go_ret
        exact ⟨by rw [H.out]; rfl, hb1'.trans (hb2.mono hz)⟩
    · have H := Lib.hid (show okS 7 x y n B E d r = false from okS_head (headB_7 hf))
      go_enter Tryz.func38, Tryz.ntmps38
      go_wp2_with fail
      all_goals first
        | (exfalso; omega)
        | (go_ret; exact ⟨by rw [H.out]; rfl, (Below.refl _ _).alloc (Nat.le_refl _) _⟩)
  · have H := Lib.hid (okS_head (headB_deep (k := 7) (x := x) (y := y) (n := n) (r := r) hd : headB 7 x y n B.len E.len d r = false))
    go_enter Tryz.func38, Tryz.ntmps38
    go_wp2_with fail
    go_ret
    exact ⟨by rw [H.out]; rfl, hb0⟩
set_option maxRecDepth 100000 in
set_option maxHeartbeats 4000000 in
theorem specStmt_8 (x y n d r : Int) (B E : SL) (hB : ListSays B (d - 1) x) (A A' : Option Addr) (c c' N : Nat) (w : World) (sB : Sl w N B A B.len c) (hE0 : E.len = 0) (hN : N ≤ w.heap.size) (hd0 : 0 ≤ d) (hd3 : d ≤ 3) :
    Calls Tryz.prog 38 #[.agg #[.int .i64 8, .int .i64 x, .int .i64 y, .int .i64 n, .slice A B.len c, .slice A' 0 c'], .int .i64 d, .int .i64 r] w fun e w' => e = .returned (.bool (okS 8 x y n B E d r)) ∧ Below w.heap.size w w' := by
  have hb0 : Below w.heap.size w (w.alloc (.cells #[.int .i64 8, .int .i64 x, .int .i64 y, .int .i64 n, .slice A B.len c, .slice A' 0 c'] 36)) := (Below.refl _ _).alloc (Nat.le_refl _) _
  have HB := Lib.hid hB
  have HE0 := Lib.hid hE0
  clear hB hE0
  by_cases hd : 1 ≤ d
  · by_cases hf : r < 0 ∧ 0 ≤ x ∧ x < 2 ∧ y = 0 ∧ n = 0
    · obtain ⟨r0, x0, x1, rfl, rfl⟩ := hf
      have hS : okS 8 x 0 0 B E d r = okL B (d - 1) x := by rw [SL.nil_of_len HE0.out]; simp [okS, headB, hd, r0, x0, x1, inR, SL.len, okL]
      have H := Lib.hid hS
      clear hS
      go_enter Tryz.func38, Tryz.ntmps38
      go_wp2_with fail
      refine (HB.out.at rfl (sB.below (hb0.mono hN)) (by simp; omega)).mono ?_
      rintro e w1 ⟨rfl, hb1⟩
      go_wp2_with fail
      go_ret
      exact ⟨by rw [H.out]; rfl, hb0.trans (hb1.mono (by simp))⟩
    · have H := Lib.hid (show okS 8 x y n B E d r = false from okS_head (headB_8 hf))
      go_enter Tryz.func38, Tryz.ntmps38
      go_wp2_with fail
      all_goals first
        | (exfalso; omega)
        | (go_ret; exact ⟨by rw [H.out]; rfl, (Below.refl _ _).alloc (Nat.le_refl _) _⟩)
  · have H := Lib.hid (okS_head (headB_deep (k := 8) (x := x) (y := y) (n := n) (r := r) hd : headB 8 x y n B.len E.len d r = false))
    go_enter Tryz.func38, Tryz.ntmps38
    go_wp2_with fail
    go_ret
    exact ⟨by rw [H.out]; rfl, hb0⟩

/-- A statement that has no Else to have. -/
theorem specStmt_else (k x y n d r : Int) (B E : SL) (A A' : Option Addr) (c c' : Nat) (w : World) (h : k = 7 ∨ k = 8) (hE : 0 < E.len) :
    Calls Tryz.prog 38 #[.agg #[.int .i64 k, .int .i64 x, .int .i64 y, .int .i64 n, .slice A B.len c, .slice A' E.len c'], .int .i64 d, .int .i64 r] w fun e w' => e = .returned (.bool (okS k x y n B E d r)) ∧ Below w.heap.size w w' := by
  have hE0 : E.len ≠ 0 := by omega
  have H := Lib.hid (show okS k x y n B E d r = false from okS_head (by rcases h with rfl | rfl <;> simp [headB, hE0]))
  clear hE0
  rcases h with rfl | rfl
  all_goals
    go_enter Tryz.func38, Tryz.ntmps38
    go_wp2_with fail
    go_ret
    exact ⟨by rw [H.out]; rfl, (Below.refl _ _).alloc (Nat.le_refl _) _⟩

/-- The model's l2Stmt, whatever the statement. -/
theorem specStmt_of (k x y n d r : Int) (B E : SL) (hB : ListSays B (d - 1) (inR k x r)) (hE : ListSays E (d - 1) (inR k x r)) (A A' : Option Addr) (c c' N : Nat) (w : World) (sB : Sl w N B A B.len c) (sE : Sl w N E A' E.len c') (hN : N ≤ w.heap.size) (hd0 : 0 ≤ d) (hd3 : d ≤ 3) :
    Calls Tryz.prog 38 #[.agg #[.int .i64 k, .int .i64 x, .int .i64 y, .int .i64 n, .slice A B.len c, .slice A' E.len c'], .int .i64 d, .int .i64 r] w fun e w' => e = .returned (.bool (okS k x y n B E d r)) ∧ Below w.heap.size w w' := by
  by_cases h6 : k = 6
  · subst h6; exact specStmt_6 x y n d r B E hB hE A A' c c' N w sB sE hN hd0 hd3
  by_cases h7 : k = 7
  · subst h7
    by_cases hl : E.len = 0
    · have := specStmt_7 x y n d r B E hB hE A A' c c' N w sB (hl ▸ sE) hl hN hd0 hd3
      rw [hl]; exact this
    · exact specStmt_else 7 x y n d r B E A A' c c' w (.inl rfl) (by omega)
  by_cases h8 : k = 8
  · subst h8
    by_cases hl : E.len = 0
    · have := specStmt_8 x y n d r B E hB A A' c c' N w sB hl hN hd0 hd3
      rw [hl]; exact this
    · exact specStmt_else 8 x y n d r B E A A' c c' w (.inr rfl) (by omega)
  · exact specStmt_leaf k x y n d r B E A A' c c' w hd0 hd3 h6 h7 h8

/-- At a round's head all up to k are right. -/
def OkRel (L : SL) (d r : Int) (w : World) (i : Value) (wr : World) : Prop :=
  ∃ k : Nat, k ≤ L.len ∧ i = .int .i64 k ∧ okL L d r = okL (L.drop k) d r ∧ Below w.heap.size w wr

theorem specList_any (m : Nat) : ∀ (L : SL), L.size < m → ∀ d r : Int, 0 ≤ d → d ≤ 3 → ListSays L d r := by
  induction m with
  | zero => intro L hL; omega
  | succ m ih =>
    intro L hL d r hd0 hd3 A n c N w hs hN
    have IH := Lib.hid ih
    clear ih
    have hlen : n ≤ L.len := Nat.le_of_eq hs.len
    have hlen' : L.len ≤ n := Nat.le_of_eq hs.len.symm
    have hmax : n ≤ 9223372036854775807 := by have := hs.le; have := hs.top; unfold maxLen at this; omega
    go_enter Tryz.func22, Tryz.ntmps22
    go_wp2_with fail
    go_loopw [7] (fun i wr => OkRel L d r w i wr) (fun i _ => n - (intOf i).toNat)
    case atStart => exact ⟨0, Nat.zero_le _, rfl, by rw [L.drop_zero], Below.refl _ _⟩
    case round =>
      obtain ⟨k, hk, rfl, hz, hb⟩ := hrel
      have HZ := Lib.hid hz
      clear hz
      by_cases hlt : k < n
      · obtain ⟨K, x, y, v, B, E, R, hd⟩ := SL.drop_cons (L := L) (i := k) (by omega)
        have HD := Lib.hid hd
        obtain ⟨s1, s2⟩ := SL.drop_size hd
        clear hd
        obtain ⟨a, rfl⟩ := hs.some (by omega)
        have hat := ((hs.at_ a rfl).below (hb.mono hN)).drop k
        rw [HD.out] at hat
        obtain ⟨_, c0, c1, c2, c3, AB, cB, AE, cE, c4, c5, sB, sE, _⟩ := hat.first
        have hsz := hb.size
        have hcall : Calls Tryz.prog 38 #[.agg #[.int .i64 K, .int .i64 x, .int .i64 y, .int .i64 v, .slice AB B.len cB, .slice AE E.len cE], .int .i64 d, .int .i64 r] wr fun e w' => e = .returned (.bool (okS K x y v B E d r)) ∧ Below wr.heap.size wr w' := by
          by_cases h1 : 1 ≤ d
          · exact specStmt_of K x y v d r B E (IH.out B (by omega) _ _ (by omega) (by omega)) (IH.out E (by omega) _ _ (by omega) (by omega)) AB AE cB cE N wr sB sE (by omega) hd0 hd3
          · exact specStmt_shallow K x y v d r B E AB AE cB cE wr hd0 h1
        have hstep : okL L d r = (okS K x y v B E d r && okL R d r) := by rw [HZ.out, HD.out, okL_cons]
        cases hS : okS K x y v B E d r
        · have H := Lib.hid (show okL L d r = false from by rw [hstep, hS]; rfl)
          rw [hS] at hcall
          have HC := Lib.hid hcall
          clear hS hstep hcall
          go_wp2_with fail
          refine HC.out.mono ?_
          rintro e w1 ⟨rfl, hb1⟩
          go_wp2_with fail
          go_ret
          exact ⟨by rw [H.out]; rfl, hb.trans (hb1.mono hsz)⟩
        · have H := Lib.hid (show okL L d r = okL R d r from by rw [hstep, hS]; rfl)
          rw [hS] at hcall
          have HC := Lib.hid hcall
          clear hS hstep hcall
          go_wp2_with fail
          refine HC.out.mono ?_
          rintro e w1 ⟨rfl, hb1⟩
          go_wp2_with fail
          go_roundw
          case rel => exact ⟨k + 1, by omega, by go_num, by rw [SL.drop_succ HD.out]; exact H.out, hb.trans (hb1.mono hsz)⟩
          case measure => simp [intOf]; omega
      · have hend := SL.drop_end (L := L) (i := k) (by omega)
        have H2 := Lib.hid (show okL L d r = true from by rw [HZ.out, hend]; rfl)
        clear hend
        go_wp2_with fail
        go_ret
        exact ⟨by rw [H2.out]; rfl, hb⟩

theorem specList (L : SL) (d r : Int) (h0 : 0 ≤ d) (h1 : d ≤ 3) : ListSays L d r := specList_any (L.size + 1) L (by omega) d r h0 h1

theorem specStmt (k x y n d r : Int) (B E : SL) (A A' : Option Addr) (c c' N : Nat) (w : World) (sB : Sl w N B A B.len c) (sE : Sl w N E A' E.len c') (hN : N ≤ w.heap.size) (hd0 : 0 ≤ d) (hd3 : d ≤ 3) :
    Calls Tryz.prog 38 #[.agg #[.int .i64 k, .int .i64 x, .int .i64 y, .int .i64 n, .slice A B.len c, .slice A' E.len c'], .int .i64 d, .int .i64 r] w fun e w' => e = .returned (.bool (okS k x y n B E d r)) ∧ Below w.heap.size w w' := by
  by_cases h1 : 1 ≤ d
  · exact specStmt_of k x y n d r B E (specList _ _ _ (by omega) (by omega)) (specList _ _ _ (by omega) (by omega)) A A' c c' N w sB sE hN hd0 hd3
  · exact specStmt_shallow k x y n d r B E A A' c c' w hd0 h1
end Go.Proofs.YtnfnjhbaaefbpaaGreatDoor
