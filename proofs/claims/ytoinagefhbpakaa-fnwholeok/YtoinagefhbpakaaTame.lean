/- The model's l6Tame gives some list, of the same size at most, in new memory (written by tools/gen_tame.py). -/
import Derived.Test.YtoinagefhbpakaaOwnSpec
import Derived.Test.YtoinagefhbpakaaDraw
import Derived.Test.YtoinagefhbpakaaShape
namespace Go.Proofs.Ytoinagefhbpakaa
open Go.ChangeShapes Go.WideShapes Go.ChangeAt Go.RowKit

/-- What a call of l6Tame on a list gives. -/
def TamePost (L : SL) (w : World) (e : Ending) (w' : World) : Prop :=
  ∃ (v : Value) (M : SL), e = .returned v ∧ OwnL w w' v M ∧ M.size ≤ L.size ∧ M.len = L.len ∧ v ≠ .slice none 0 0 ∧ Below w.heap.size w w'
def TameSays (L : SL) (d : Int) : Prop := ∀ (room : Int) (A : Option Addr) (n c N : Nat) (o : List Int) (B : Option Addr) (b c' : Nat) (S : Nat → Prop) (w : World), o.length = 5 → Sl w N L A n c → N ≤ w.heap.size → Fl w S 1 o B b c' →
  Calls Try.prog 64 #[.slice A n c, .slice B b c', .int .i64 room, .int .i64 d] w (TamePost L w)
def TameRel (L : SL) (w : World) (v i : Value) (wr : World) : Prop :=
  ∃ (k : Nat) (M : SL), k ≤ L.len ∧ i = .int .i64 k ∧ OwnL w wr v M ∧ M.len = k ∧ M.size + (L.drop k).size ≤ L.size ∧ v ≠ .slice none 0 0 ∧ Below w.heap.size w wr

theorem cells_six1 (w : World) (b : Nat) (v0 v1 v2 v3 v4 v5 : Value) (t : TypeId) (hb : b = w.heap.size) : ∀ j u, [v0, v1, v2, v3, v4, v5][j]? = some u → (w.alloc (.cells #[v0, v1, v2, v3, v4, v5] t)).cell? ((⟨b, 0, none⟩ : Addr).add j) = some u := by
  subst hb; exact cells_six w v0 v1 v2 v3 v4 v5 t

theorem own_someT {w : World} {base : Nat} {e : TypeId} {size : Nat} {v : Value} {n : Nat} {xs : List Value} (h : w.ownsRow base e size v n xs) (hv : v ≠ .slice none 0 0) : ∃ r cap, v = .slice (some ⟨r, 0, none⟩) n cap ∧ base ≤ r ∧ r < w.heap.size := by
  obtain ⟨_, ⟨rfl, rfl⟩ | ⟨g, cap, cur, rfl, hg, hrow, _⟩⟩ := h
  · exact absurd rfl hv
  · exact ⟨g, cap, rfl, hg, (Array.getElem?_eq_some_iff.1 hrow).1⟩
theorem dec_below {w w1 w2 : World} {v : Value} {M : SL} {xs : List Value} (hd : Dec w1 (fun b => Born w w1 b ∧ v.ownBlock ≠ some b) M xs) (hb : Below w1.heap.size w1 w2) : Dec w2 (fun b => Born w w1 b ∧ v.ownBlock ≠ some b) M xs :=
  hd.keep fun _ hp => hb.cell hp.1.2
/-- A list in memory that one block's store leaves as it was, and what comes behind. -/
theorem slp_past {w1 w2 : World} {a b x : Nat} {M : SL} {A : Option Addr} {n c : Nat} {v : Value} (h : SlP w1 (fun g => a ≤ g ∧ g < b) M A n c) (hx : x < a) (hb1 : b ≤ w1.heap.size) (hb : Below w1.heap.size (w1.setCell ⟨x, 4, none⟩ v) w2) : SlP w2 (fun g => a ≤ g ∧ g < b) M A n c :=
  h.keep fun p hp => by
    rw [hb.cell (by have := hp.2; omega)]
    exact World.cell?_setCell_other _ _ _ _ (fun e => by have := congrArg Addr.block e; simp at this; have := hp.1; omega)

set_option maxRecDepth 100000 in
set_option maxHeartbeats 60000000 in
theorem tame_any (m : Nat) (hm : m ≤ 1000000) : ∀ (L : SL), L.size < m → ∀ d r : Int, 0 ≤ d → d ≤ 3 → okL L d r = true → TameSays L d := by
  induction m with
  | zero => intro L hL; omega
  | succ m ih =>
    replace ih := ih (by omega)
    intro L hL d r hd0 hd3 hok room A n c N o Bp b c' S w ho5 hs hN ho'
    obtain ⟨i0, hi, hz0, hz1, hz2⟩ := info_parts info_St
    have IH := Lib.hid ih
    have HO := Lib.hid ho'
    have H5 := Lib.hid ho5
    clear ih ho' ho5
    have hb5 : b = 5 := by have := HO.out.len; have := H5.out; omega
    subst hb5
    have hlen : n ≤ L.len := Nat.le_of_eq hs.len
    have hlen' : L.len ≤ n := Nat.le_of_eq hs.len.symm
    have hmax : n ≤ 9223372036854775807 := by have := hs.le; have := hs.top; unfold maxLen at this; omega
    have hmax2 : n ≤ 1000000 := by have := L.len_le; omega
    have ba0 : Below w.heap.size w (w.alloc (.cells #[] 65)) := (Below.refl _ _).alloc (Nat.le_refl _) _
    have hown : OwnL w (w.alloc (.cells #[] 65)) (.slice (some ⟨w.heap.size, 0, none⟩) 0 0) .nil :=
      ⟨[], ⟨rfl, .inr ⟨w.heap.size, 0, #[], rfl, Nat.le_refl _, new_row w #[] _, Nat.le_refl _, Nat.zero_le _, rfl, rfl⟩⟩, rfl⟩
    go_enter Try.func64, Try.ntmps64
    go_wp2_with fail
    go_loopw [9, 10, 11, 12] (fun v i _ _ wr => TameRel L w v i wr) (fun _ i _ _ _ => n - (intOf i).toNat)
    case atStart => exact ⟨0, .nil, Nat.zero_le _, rfl, hown, rfl, by simp [SL.size, SL.drop_zero], by simp, ba0⟩
    case round =>
      clear ba0 hown
      obtain ⟨k, M, hk, rfl, hown, hMl, hMs, hvn, hb⟩ := hrel
      by_cases hlt : k < n
      · obtain ⟨K, x, y, v, B, E, R, hd⟩ := SL.drop_cons (L := L) (i := k) (by omega)
        have HD := Lib.hid hd
        have s1 := SL.drop_size hd
        have s3 := SL.drop_size3 hd
        have hok1 := okL_drop hok k
        rw [hd] at hok1
        clear hd
        obtain ⟨a, rfl⟩ := hs.some (by omega)
        have hat := ((hs.at_ a rfl).below (hb.mono hN)).drop k
        rw [HD.out] at hat
        obtain ⟨_, c0, c1, c2, c3, AB, cB, AE, cE, c4, c5, sB, sE, _⟩ := hat.first
        have hsz := hb.size
        simp only [okL, Bool.and_eq_true] at hok1
        obtain ⟨⟨⟨k1, k2⟩, k3⟩, k4⟩ := hok1
        have K2 := Lib.hid k2
        have K3 := Lib.hid k3
        obtain ⟨t3, t4, t9⟩ := thing_ops k1
        have d1 := headB_pos k1
        clear k1 k2 k3 k4 hat
        have lB : B.size < m := by omega
        have lE : E.size < m := by omega
        have HMS := Lib.hid hMs
        have HML := Lib.hid hMl
        have S3 := Lib.hid s3
        obtain ⟨Av, cv, rfl, _⟩ := hown.sl
        obtain ⟨rv, hrv, rfl⟩ : ∃ rv, True ∧ Av = some ⟨rv, 0, none⟩ := by
          obtain ⟨xs, ho1, _⟩ := id hown
          obtain ⟨r, cap, e, _⟩ := own_someT ho1 hvn
          injection e with e1
          exact ⟨r, trivial, e1⟩
        obtain ⟨xs, ho1, hd1⟩ := hown
        clear hvn hrv
        have hvb := fun b hb => own_blocks ho1 (b := b) hb
        have HDD := Lib.hid hd1
        have HVB := Lib.hid hvb
        have H1 := Lib.hid ho1
        have hMk : M.len ≤ 1000000 := by omega
        obtain ⟨ao, rfl⟩ := HO.out.some (by omega)
        clear hd1 hvb ho1 hMs hMl s1 s3
        by_cases h8 : K = 8
        · subst h8
          have ba : Below wr.heap.size wr (wr.alloc (.cells #[.int .i64 8, .int .i64 x, .int .i64 y, .int .i64 v, .slice AB B.len cB, .slice AE E.len cE] 65)) := (Below.refl _ _).alloc (Nat.le_refl _) _
          have BOX0 := Lib.hid (new_row wr #[.int .i64 8, .int .i64 x, .int .i64 y, .int .i64 v, .slice AB B.len cB, .slice AE E.len cE] 65)
          go_wp2_with fail
          refine (IH.out B lB (d - 1) _ (by omega) (by omega) K2.out x AB B.len cB N o _ 5 c' S _ H5.out (sB.below (ba.mono (by omega))) (by simp; omega) ((HO.out.later hb).later ba)).mono ?_
          rintro e w1 ⟨v1, M1, rfl, o1, m1, -, -, hb1⟩
          obtain ⟨A1, c1', rfl, s1⟩ := o1.sl
          have box1 := rowk hb1 BOX0.out
          have z1 := hb1.size
          simp only [World.size_alloc] at z1
          have b1 := ba.trans (hb1.mono (by simp))
          have BOX1 := Lib.hid box1
          obtain ⟨e0, e1, e2, e3, e4, e5⟩ := cells6 box1
          have fr4 := row_frozen box1 4
          have bs : Below wr.heap.size wr (w1.setCell ⟨wr.heap.size, 4, none⟩ (.slice A1 M1.len c1')) := b1.setCell (p := ⟨wr.heap.size, 4, none⟩) (Nat.le_refl _) _
          have S1 := Lib.hid (s1.mono (T := fun g => wr.heap.size + 1 ≤ g ∧ g < w1.heap.size) fun g hg => ⟨by have := hg.1; simpa using this, hg.2⟩)
          clear box1 o1 s1
          go_wp2_with fail
          refine (IH.out E lE (d - 1) _ (by omega) (by omega) K3.out x AE E.len cE N o _ 5 c' S _ H5.out (sE.below (bs.mono (by omega))) (by rw [size_set]; omega) ((HO.out.later hb).later bs)).mono ?_
          rintro e w2 ⟨v2, M2, rfl, o2, m2, -, -, hb2⟩
          obtain ⟨A2, c2', rfl, s2⟩ := o2.sl
          rw [size_set] at hb2
          have box2 : w2.heap[wr.heap.size]? = some (.cells #[.int .i64 8, .int .i64 x, .int .i64 y, .int .i64 v, .slice A1 M1.len c1', .slice AE E.len cE] 65 (0, 0)) := by rw [hb2.block _ (by omega), row_set BOX1.out]; rfl
          have z2 := hb2.size
          rw [size_set] at z2
          have b2 := bs.trans (hb2.mono (by omega))
          have S2 := Lib.hid (s2.mono (T := fun g => w1.heap.size ≤ g ∧ g < w2.heap.size) fun g hg => ⟨by have := hg.1; rwa [size_set] at this, hg.2⟩)
          have P1 := Lib.hid (slp_past S1.out (by omega) (Nat.le_refl _) hb2)
          have BOX2 := Lib.hid box2
          clear e0 e1 e2 e3 e4 e5 fr4 o2 s2
          obtain ⟨e0, e1, e2, e3, e4, e5⟩ := cells6 box2
          have fr5 := row_frozen box2 5
          clear box2
          have bt : Below wr.heap.size wr (w2.setCell ⟨wr.heap.size, 5, none⟩ (.slice A2 M2.len c2')) := b2.setCell (p := ⟨wr.heap.size, 5, none⟩) (Nat.le_refl _) _
          have ho2 : (w2.setCell ⟨wr.heap.size, 5, none⟩ (.slice A2 M2.len c2')).ownsRow w.heap.size 65 6 (.slice (some ⟨rv, 0, none⟩) M.len cv) M.len xs := own_below H1.out bt
          have hdd := dec_below HDD.out bt
          have HDD2 := Lib.hid hdd
          have hkeep : ∀ p : Addr, p.block ≠ wr.heap.size → (w2.setCell ⟨wr.heap.size, 5, none⟩ (.slice A2 M2.len c2')).cell? p = w2.cell? p := fun p hp => World.cell?_setCell_other _ _ _ _ (fun e => hp (by rw [← e]))
          have q1 := (P1.out.keep fun p hp => hkeep p (by have := hp.1; omega)).mono (T := Born wr (w2.setCell ⟨wr.heap.size, 5, none⟩ (.slice A2 M2.len c2'))) fun g hg => ⟨by have := hg.1; omega, by rw [size_set]; have := hg.2; omega⟩
          have q2 := (S2.out.keep fun p hp => hkeep p (by have := hp.1; omega)).mono (T := Born wr (w2.setCell ⟨wr.heap.size, 5, none⟩ (.slice A2 M2.len c2'))) fun g hg => ⟨by have := hg.1; omega, by rw [size_set]; exact hg.2⟩
          have Q1 := Lib.hid q1
          have Q2 := Lib.hid q2
          have BT := Lib.hid bt
          clear hdd q1 q2 hkeep bt
          go_wp2_with (first | (at_builtin; refine wpList_append_at _ rfl _ _ 58 rfl w.heap.size 65 i0 _ 6 80 Try.underlying58 hi hz0 hz1 hz2 rfl (by decide) _ _ _ rfl (ho2.alloc _) ⟨w2.heap.size, 0, none⟩ 1 1 [.int .i64 8, .int .i64 x, .int .i64 y, .int .i64 v, .slice A1 M1.len c1', .slice A2 M2.len c2'] rfl rfl (cells_six1 _ _ _ _ _ _ _ _ _ (by rw [size_set])) (six_one _ _ _ _ _ _ _ _ _ _) (by unfold maxLen; omega) (by omega) (by simp only [World.size_alloc, size_set]; omega) (by omega) ?_) | fail)
          intro v3 w3 ho3 hg3 hw3
          have hsn := OwnL.snoc HDD2.out (by rw [size_set]; omega) hsz (fun b hb => (HVB.out b hb).2) Q1.out Q2.out ho3 hg3 (by simpa using hw3)
          have b3 : Below w.heap.size w w3 := ((hb.trans (BT.out.mono hsz)).alloc (by rw [size_set]; omega) _).grown hg3 (by simp only [World.size_alloc, size_set]; omega) (fun b hb => (HVB.out b hb).1)
          have hvn : v3 ≠ .slice none 0 0 := fun e => by rw [e] at hw3; simp [Value.ownBlock] at hw3
          have HVN := Lib.hid hvn
          have HSN := Lib.hid hsn
          have hln : (M.app (.cons 8 x y v M1 M2 .nil)).len = k + 1 := by rw [SL.len_app, HML.out]; rfl
          have hss : (M.app (.cons 8 x y v M1 M2 .nil)).size + (L.drop (k + 1)).size ≤ L.size := by
            have h1 := HMS.out
            have h2 := S3.out
            rw [SL.size_app]
            simp only [SL.size] at m1 m2 ⊢
            omega
          have HLN := Lib.hid hln
          have HSS := Lib.hid hss
          clear hsn ho2 ho3 hg3 hw3 hln hss hvn
          go_wp2_with fail
          go_roundw
          case rel => exact ⟨k + 1, _, by omega, by go_num, HSN.out, HLN.out, HSS.out, HVN.out, b3⟩
          case measure => simp [intOf]; omega
        by_cases h3 : K = 3
        · subst h3
          obtain ⟨y0, y5⟩ := t3 rfl
          obtain ⟨j, rfl⟩ : ∃ j : Nat, y = (j : Int) := ⟨y.toNat, by omega⟩
          have co := ((HO.out.later hb).later ((Below.refl wr.heap.size wr).alloc (Nat.le_refl _) (.cells #[.int .i64 3, .int .i64 x, .int .i64 (j : Int), .int .i64 v, .slice AB B.len cB, .slice AE E.len cE] 65))).one j (by omega)
          clear h8 t3 t4 t9
          generalize o.getD j 0 = z at co
          by_cases hz : z = room
          · subst hz
            have ba : Below wr.heap.size wr (wr.alloc (.cells #[.int .i64 3, .int .i64 x, .int .i64 (j : Int), .int .i64 v, .slice AB B.len cB, .slice AE E.len cE] 65)) := (Below.refl _ _).alloc (Nat.le_refl _) _
            have BOX0 := Lib.hid (new_row wr #[.int .i64 3, .int .i64 x, .int .i64 (j : Int), .int .i64 v, .slice AB B.len cB, .slice AE E.len cE] 65)
            go_wp2_with fail
            refine (IH.out B lB (d - 1) _ (by omega) (by omega) K2.out z AB B.len cB N o _ 5 c' S _ H5.out (sB.below (ba.mono (by omega))) (by simp; omega) ((HO.out.later hb).later ba)).mono ?_
            rintro e w1 ⟨v1, M1, rfl, o1, m1, -, -, hb1⟩
            obtain ⟨A1, c1', rfl, s1⟩ := o1.sl
            have box1 := rowk hb1 BOX0.out
            have z1 := hb1.size
            simp only [World.size_alloc] at z1
            have b1 := ba.trans (hb1.mono (by simp))
            have BOX1 := Lib.hid box1
            obtain ⟨e0, e1, e2, e3, e4, e5⟩ := cells6 box1
            have fr4 := row_frozen box1 4
            have bs : Below wr.heap.size wr (w1.setCell ⟨wr.heap.size, 4, none⟩ (.slice A1 M1.len c1')) := b1.setCell (p := ⟨wr.heap.size, 4, none⟩) (Nat.le_refl _) _
            have S1 := Lib.hid (s1.mono (T := fun g => wr.heap.size + 1 ≤ g ∧ g < w1.heap.size) fun g hg => ⟨by have := hg.1; simpa using this, hg.2⟩)
            clear box1 o1 s1
            go_wp2_with fail
            refine (IH.out E lE (d - 1) _ (by omega) (by omega) K3.out z AE E.len cE N o _ 5 c' S _ H5.out (sE.below (bs.mono (by omega))) (by rw [size_set]; omega) ((HO.out.later hb).later bs)).mono ?_
            rintro e w2 ⟨v2, M2, rfl, o2, m2, -, -, hb2⟩
            obtain ⟨A2, c2', rfl, s2⟩ := o2.sl
            rw [size_set] at hb2
            have box2 : w2.heap[wr.heap.size]? = some (.cells #[.int .i64 3, .int .i64 x, .int .i64 (j : Int), .int .i64 v, .slice A1 M1.len c1', .slice AE E.len cE] 65 (0, 0)) := by rw [hb2.block _ (by omega), row_set BOX1.out]; rfl
            have z2 := hb2.size
            rw [size_set] at z2
            have b2 := bs.trans (hb2.mono (by omega))
            have S2 := Lib.hid (s2.mono (T := fun g => w1.heap.size ≤ g ∧ g < w2.heap.size) fun g hg => ⟨by have := hg.1; rwa [size_set] at this, hg.2⟩)
            have P1 := Lib.hid (slp_past S1.out (by omega) (Nat.le_refl _) hb2)
            have BOX2 := Lib.hid box2
            clear e0 e1 e2 e3 e4 e5 fr4 o2 s2
            obtain ⟨e0, e1, e2, e3, e4, e5⟩ := cells6 box2
            have fr5 := row_frozen box2 5
            clear box2
            have bt : Below wr.heap.size wr (w2.setCell ⟨wr.heap.size, 5, none⟩ (.slice A2 M2.len c2')) := b2.setCell (p := ⟨wr.heap.size, 5, none⟩) (Nat.le_refl _) _
            have ho2 : (w2.setCell ⟨wr.heap.size, 5, none⟩ (.slice A2 M2.len c2')).ownsRow w.heap.size 65 6 (.slice (some ⟨rv, 0, none⟩) M.len cv) M.len xs := own_below H1.out bt
            have hdd := dec_below HDD.out bt
            have HDD2 := Lib.hid hdd
            have hkeep : ∀ p : Addr, p.block ≠ wr.heap.size → (w2.setCell ⟨wr.heap.size, 5, none⟩ (.slice A2 M2.len c2')).cell? p = w2.cell? p := fun p hp => World.cell?_setCell_other _ _ _ _ (fun e => hp (by rw [← e]))
            have q1 := (P1.out.keep fun p hp => hkeep p (by have := hp.1; omega)).mono (T := Born wr (w2.setCell ⟨wr.heap.size, 5, none⟩ (.slice A2 M2.len c2'))) fun g hg => ⟨by have := hg.1; omega, by rw [size_set]; have := hg.2; omega⟩
            have q2 := (S2.out.keep fun p hp => hkeep p (by have := hp.1; omega)).mono (T := Born wr (w2.setCell ⟨wr.heap.size, 5, none⟩ (.slice A2 M2.len c2'))) fun g hg => ⟨by have := hg.1; omega, by rw [size_set]; exact hg.2⟩
            have Q1 := Lib.hid q1
            have Q2 := Lib.hid q2
            have BT := Lib.hid bt
            clear hdd q1 q2 hkeep bt
            go_wp2_with (first | (at_builtin; refine wpList_append_at _ rfl _ _ 58 rfl w.heap.size 65 i0 _ 6 80 Try.underlying58 hi hz0 hz1 hz2 rfl (by decide) _ _ _ rfl (ho2.alloc _) ⟨w2.heap.size, 0, none⟩ 1 1 [.int .i64 3, .int .i64 x, .int .i64 (j : Int), .int .i64 v, .slice A1 M1.len c1', .slice A2 M2.len c2'] rfl rfl (cells_six1 _ _ _ _ _ _ _ _ _ (by rw [size_set])) (six_one _ _ _ _ _ _ _ _ _ _) (by unfold maxLen; omega) (by omega) (by simp only [World.size_alloc, size_set]; omega) (by omega) ?_) | fail)
            intro v3 w3 ho3 hg3 hw3
            have hsn := OwnL.snoc HDD2.out (by rw [size_set]; omega) hsz (fun b hb => (HVB.out b hb).2) Q1.out Q2.out ho3 hg3 (by simpa using hw3)
            have b3 : Below w.heap.size w w3 := ((hb.trans (BT.out.mono hsz)).alloc (by rw [size_set]; omega) _).grown hg3 (by simp only [World.size_alloc, size_set]; omega) (fun b hb => (HVB.out b hb).1)
            have hvn : v3 ≠ .slice none 0 0 := fun e => by rw [e] at hw3; simp [Value.ownBlock] at hw3
            have HVN := Lib.hid hvn
            have HSN := Lib.hid hsn
            have hln : (M.app (.cons 3 x (j : Int) v M1 M2 .nil)).len = k + 1 := by rw [SL.len_app, HML.out]; rfl
            have hss : (M.app (.cons 3 x (j : Int) v M1 M2 .nil)).size + (L.drop (k + 1)).size ≤ L.size := by
              have h1 := HMS.out
              have h2 := S3.out
              rw [SL.size_app]
              simp only [SL.size] at m1 m2 ⊢
              omega
            have HLN := Lib.hid hln
            have HSS := Lib.hid hss
            clear hsn ho2 ho3 hg3 hw3 hln hss hvn
            go_wp2_with fail
            go_roundw
            case rel => exact ⟨k + 1, _, by omega, by go_num, HSN.out, HLN.out, HSS.out, HVN.out, b3⟩
            case measure => simp [intOf]; omega
          · have hne : (z != room) = true := by simpa using hz
            have hne2 : (z == room) = false := by simpa using hz
            clear hz
            have ba : Below wr.heap.size wr (wr.alloc (.cells #[.int .i64 1, .int .i64 x, .int .i64 0, .int .i64 (j : Int), .slice none 0 0, .slice none 0 0] 65)) := (Below.refl _ _).alloc (Nat.le_refl _) _
            have BOX0 := Lib.hid (new_row wr #[.int .i64 1, .int .i64 x, .int .i64 0, .int .i64 (j : Int), .slice none 0 0, .slice none 0 0] 65)
            go_wp2_with fail
            refine (IH.out .nil (by simp [SL.size]; omega) (d - 1) (-1) (by omega) (by omega) rfl room none 0 0 N o _ 5 c' S _ H5.out (Sl.none _ _ _ (Nat.zero_le _)) (by simp; omega) ((HO.out.later hb).later ba)).mono ?_
            rintro e w1 ⟨v1, M1, rfl, o1, m1, -, -, hb1⟩
            obtain ⟨A1, c1', rfl, s1⟩ := o1.sl
            have box1 := rowk hb1 BOX0.out
            have z1 := hb1.size
            simp only [World.size_alloc] at z1
            have b1 := ba.trans (hb1.mono (by simp))
            have BOX1 := Lib.hid box1
            obtain ⟨e0, e1, e2, e3, e4, e5⟩ := cells6 box1
            have fr4 := row_frozen box1 4
            have bs : Below wr.heap.size wr (w1.setCell ⟨wr.heap.size, 4, none⟩ (.slice A1 M1.len c1')) := b1.setCell (p := ⟨wr.heap.size, 4, none⟩) (Nat.le_refl _) _
            have S1 := Lib.hid (s1.mono (T := fun g => wr.heap.size + 1 ≤ g ∧ g < w1.heap.size) fun g hg => ⟨by have := hg.1; simpa using this, hg.2⟩)
            clear box1 o1 s1
            go_wp2_with fail
            refine (IH.out .nil (by simp [SL.size]; omega) (d - 1) (-1) (by omega) (by omega) rfl room none 0 0 N o _ 5 c' S _ H5.out (Sl.none _ _ _ (Nat.zero_le _)) (by rw [size_set]; omega) ((HO.out.later hb).later bs)).mono ?_
            rintro e w2 ⟨v2, M2, rfl, o2, m2, -, -, hb2⟩
            obtain ⟨A2, c2', rfl, s2⟩ := o2.sl
            rw [size_set] at hb2
            have box2 : w2.heap[wr.heap.size]? = some (.cells #[.int .i64 1, .int .i64 x, .int .i64 0, .int .i64 (j : Int), .slice A1 M1.len c1', .slice none 0 0] 65 (0, 0)) := by rw [hb2.block _ (by omega), row_set BOX1.out]; rfl
            have z2 := hb2.size
            rw [size_set] at z2
            have b2 := bs.trans (hb2.mono (by omega))
            have S2 := Lib.hid (s2.mono (T := fun g => w1.heap.size ≤ g ∧ g < w2.heap.size) fun g hg => ⟨by have := hg.1; rwa [size_set] at this, hg.2⟩)
            have P1 := Lib.hid (slp_past S1.out (by omega) (Nat.le_refl _) hb2)
            have BOX2 := Lib.hid box2
            clear e0 e1 e2 e3 e4 e5 fr4 o2 s2
            obtain ⟨e0, e1, e2, e3, e4, e5⟩ := cells6 box2
            have fr5 := row_frozen box2 5
            clear box2
            have bt : Below wr.heap.size wr (w2.setCell ⟨wr.heap.size, 5, none⟩ (.slice A2 M2.len c2')) := b2.setCell (p := ⟨wr.heap.size, 5, none⟩) (Nat.le_refl _) _
            have ho2 : (w2.setCell ⟨wr.heap.size, 5, none⟩ (.slice A2 M2.len c2')).ownsRow w.heap.size 65 6 (.slice (some ⟨rv, 0, none⟩) M.len cv) M.len xs := own_below H1.out bt
            have hdd := dec_below HDD.out bt
            have HDD2 := Lib.hid hdd
            have hkeep : ∀ p : Addr, p.block ≠ wr.heap.size → (w2.setCell ⟨wr.heap.size, 5, none⟩ (.slice A2 M2.len c2')).cell? p = w2.cell? p := fun p hp => World.cell?_setCell_other _ _ _ _ (fun e => hp (by rw [← e]))
            have q1 := (P1.out.keep fun p hp => hkeep p (by have := hp.1; omega)).mono (T := Born wr (w2.setCell ⟨wr.heap.size, 5, none⟩ (.slice A2 M2.len c2'))) fun g hg => ⟨by have := hg.1; omega, by rw [size_set]; have := hg.2; omega⟩
            have q2 := (S2.out.keep fun p hp => hkeep p (by have := hp.1; omega)).mono (T := Born wr (w2.setCell ⟨wr.heap.size, 5, none⟩ (.slice A2 M2.len c2'))) fun g hg => ⟨by have := hg.1; omega, by rw [size_set]; exact hg.2⟩
            have Q1 := Lib.hid q1
            have Q2 := Lib.hid q2
            have BT := Lib.hid bt
            clear hdd q1 q2 hkeep bt
            go_wp2_with (first | (at_builtin; refine wpList_append_at _ rfl _ _ 58 rfl w.heap.size 65 i0 _ 6 80 Try.underlying58 hi hz0 hz1 hz2 rfl (by decide) _ _ _ rfl (ho2.alloc _) ⟨w2.heap.size, 0, none⟩ 1 1 [.int .i64 1, .int .i64 x, .int .i64 0, .int .i64 (j : Int), .slice A1 M1.len c1', .slice A2 M2.len c2'] rfl rfl (cells_six1 _ _ _ _ _ _ _ _ _ (by rw [size_set])) (six_one _ _ _ _ _ _ _ _ _ _) (by unfold maxLen; omega) (by omega) (by simp only [World.size_alloc, size_set]; omega) (by omega) ?_) | fail)
            intro v3 w3 ho3 hg3 hw3
            have hsn := OwnL.snoc HDD2.out (by rw [size_set]; omega) hsz (fun b hb => (HVB.out b hb).2) Q1.out Q2.out ho3 hg3 (by simpa using hw3)
            have b3 : Below w.heap.size w w3 := ((hb.trans (BT.out.mono hsz)).alloc (by rw [size_set]; omega) _).grown hg3 (by simp only [World.size_alloc, size_set]; omega) (fun b hb => (HVB.out b hb).1)
            have hvn : v3 ≠ .slice none 0 0 := fun e => by rw [e] at hw3; simp [Value.ownBlock] at hw3
            have HVN := Lib.hid hvn
            have HSN := Lib.hid hsn
            have hln : (M.app (.cons 1 x 0 (j : Int) M1 M2 .nil)).len = k + 1 := by rw [SL.len_app, HML.out]; rfl
            have hss : (M.app (.cons 1 x 0 (j : Int) M1 M2 .nil)).size + (L.drop (k + 1)).size ≤ L.size := by
              have h1 := HMS.out
              have h2 := S3.out
              rw [SL.size_app]
              simp only [SL.size] at m1 m2 ⊢
              omega
            have HLN := Lib.hid hln
            have HSS := Lib.hid hss
            clear hsn ho2 ho3 hg3 hw3 hln hss hvn
            go_wp2_with fail
            go_roundw
            case rel => exact ⟨k + 1, _, by omega, by go_num, HSN.out, HLN.out, HSS.out, HVN.out, b3⟩
            case measure => simp [intOf]; omega
        by_cases h4 : K = 4
        · subst h4
          obtain ⟨x0, x5⟩ := t4 rfl
          obtain ⟨j, rfl⟩ : ∃ j : Nat, x = (j : Int) := ⟨x.toNat, by omega⟩
          have co := ((HO.out.later hb).later ((Below.refl wr.heap.size wr).alloc (Nat.le_refl _) (.cells #[.int .i64 4, .int .i64 (j : Int), .int .i64 y, .int .i64 v, .slice AB B.len cB, .slice AE E.len cE] 65))).one j (by omega)
          clear h8 h3 t3 t4 t9
          generalize o.getD j 0 = z at co
          by_cases hz : z = room
          · subst hz
            have ba : Below wr.heap.size wr (wr.alloc (.cells #[.int .i64 4, .int .i64 (j : Int), .int .i64 y, .int .i64 v, .slice AB B.len cB, .slice AE E.len cE] 65)) := (Below.refl _ _).alloc (Nat.le_refl _) _
            have BOX0 := Lib.hid (new_row wr #[.int .i64 4, .int .i64 (j : Int), .int .i64 y, .int .i64 v, .slice AB B.len cB, .slice AE E.len cE] 65)
            go_wp2_with fail
            refine (IH.out B lB (d - 1) _ (by omega) (by omega) K2.out z AB B.len cB N o _ 5 c' S _ H5.out (sB.below (ba.mono (by omega))) (by simp; omega) ((HO.out.later hb).later ba)).mono ?_
            rintro e w1 ⟨v1, M1, rfl, o1, m1, -, -, hb1⟩
            obtain ⟨A1, c1', rfl, s1⟩ := o1.sl
            have box1 := rowk hb1 BOX0.out
            have z1 := hb1.size
            simp only [World.size_alloc] at z1
            have b1 := ba.trans (hb1.mono (by simp))
            have BOX1 := Lib.hid box1
            obtain ⟨e0, e1, e2, e3, e4, e5⟩ := cells6 box1
            have fr4 := row_frozen box1 4
            have bs : Below wr.heap.size wr (w1.setCell ⟨wr.heap.size, 4, none⟩ (.slice A1 M1.len c1')) := b1.setCell (p := ⟨wr.heap.size, 4, none⟩) (Nat.le_refl _) _
            have S1 := Lib.hid (s1.mono (T := fun g => wr.heap.size + 1 ≤ g ∧ g < w1.heap.size) fun g hg => ⟨by have := hg.1; simpa using this, hg.2⟩)
            clear box1 o1 s1
            go_wp2_with fail
            refine (IH.out E lE (d - 1) _ (by omega) (by omega) K3.out z AE E.len cE N o _ 5 c' S _ H5.out (sE.below (bs.mono (by omega))) (by rw [size_set]; omega) ((HO.out.later hb).later bs)).mono ?_
            rintro e w2 ⟨v2, M2, rfl, o2, m2, -, -, hb2⟩
            obtain ⟨A2, c2', rfl, s2⟩ := o2.sl
            rw [size_set] at hb2
            have box2 : w2.heap[wr.heap.size]? = some (.cells #[.int .i64 4, .int .i64 (j : Int), .int .i64 y, .int .i64 v, .slice A1 M1.len c1', .slice AE E.len cE] 65 (0, 0)) := by rw [hb2.block _ (by omega), row_set BOX1.out]; rfl
            have z2 := hb2.size
            rw [size_set] at z2
            have b2 := bs.trans (hb2.mono (by omega))
            have S2 := Lib.hid (s2.mono (T := fun g => w1.heap.size ≤ g ∧ g < w2.heap.size) fun g hg => ⟨by have := hg.1; rwa [size_set] at this, hg.2⟩)
            have P1 := Lib.hid (slp_past S1.out (by omega) (Nat.le_refl _) hb2)
            have BOX2 := Lib.hid box2
            clear e0 e1 e2 e3 e4 e5 fr4 o2 s2
            obtain ⟨e0, e1, e2, e3, e4, e5⟩ := cells6 box2
            have fr5 := row_frozen box2 5
            clear box2
            have bt : Below wr.heap.size wr (w2.setCell ⟨wr.heap.size, 5, none⟩ (.slice A2 M2.len c2')) := b2.setCell (p := ⟨wr.heap.size, 5, none⟩) (Nat.le_refl _) _
            have ho2 : (w2.setCell ⟨wr.heap.size, 5, none⟩ (.slice A2 M2.len c2')).ownsRow w.heap.size 65 6 (.slice (some ⟨rv, 0, none⟩) M.len cv) M.len xs := own_below H1.out bt
            have hdd := dec_below HDD.out bt
            have HDD2 := Lib.hid hdd
            have hkeep : ∀ p : Addr, p.block ≠ wr.heap.size → (w2.setCell ⟨wr.heap.size, 5, none⟩ (.slice A2 M2.len c2')).cell? p = w2.cell? p := fun p hp => World.cell?_setCell_other _ _ _ _ (fun e => hp (by rw [← e]))
            have q1 := (P1.out.keep fun p hp => hkeep p (by have := hp.1; omega)).mono (T := Born wr (w2.setCell ⟨wr.heap.size, 5, none⟩ (.slice A2 M2.len c2'))) fun g hg => ⟨by have := hg.1; omega, by rw [size_set]; have := hg.2; omega⟩
            have q2 := (S2.out.keep fun p hp => hkeep p (by have := hp.1; omega)).mono (T := Born wr (w2.setCell ⟨wr.heap.size, 5, none⟩ (.slice A2 M2.len c2'))) fun g hg => ⟨by have := hg.1; omega, by rw [size_set]; exact hg.2⟩
            have Q1 := Lib.hid q1
            have Q2 := Lib.hid q2
            have BT := Lib.hid bt
            clear hdd q1 q2 hkeep bt
            go_wp2_with (first | (at_builtin; refine wpList_append_at _ rfl _ _ 58 rfl w.heap.size 65 i0 _ 6 80 Try.underlying58 hi hz0 hz1 hz2 rfl (by decide) _ _ _ rfl (ho2.alloc _) ⟨w2.heap.size, 0, none⟩ 1 1 [.int .i64 4, .int .i64 (j : Int), .int .i64 y, .int .i64 v, .slice A1 M1.len c1', .slice A2 M2.len c2'] rfl rfl (cells_six1 _ _ _ _ _ _ _ _ _ (by rw [size_set])) (six_one _ _ _ _ _ _ _ _ _ _) (by unfold maxLen; omega) (by omega) (by simp only [World.size_alloc, size_set]; omega) (by omega) ?_) | fail)
            intro v3 w3 ho3 hg3 hw3
            have hsn := OwnL.snoc HDD2.out (by rw [size_set]; omega) hsz (fun b hb => (HVB.out b hb).2) Q1.out Q2.out ho3 hg3 (by simpa using hw3)
            have b3 : Below w.heap.size w w3 := ((hb.trans (BT.out.mono hsz)).alloc (by rw [size_set]; omega) _).grown hg3 (by simp only [World.size_alloc, size_set]; omega) (fun b hb => (HVB.out b hb).1)
            have hvn : v3 ≠ .slice none 0 0 := fun e => by rw [e] at hw3; simp [Value.ownBlock] at hw3
            have HVN := Lib.hid hvn
            have HSN := Lib.hid hsn
            have hln : (M.app (.cons 4 (j : Int) y v M1 M2 .nil)).len = k + 1 := by rw [SL.len_app, HML.out]; rfl
            have hss : (M.app (.cons 4 (j : Int) y v M1 M2 .nil)).size + (L.drop (k + 1)).size ≤ L.size := by
              have h1 := HMS.out
              have h2 := S3.out
              rw [SL.size_app]
              simp only [SL.size] at m1 m2 ⊢
              omega
            have HLN := Lib.hid hln
            have HSS := Lib.hid hss
            clear hsn ho2 ho3 hg3 hw3 hln hss hvn
            go_wp2_with fail
            go_roundw
            case rel => exact ⟨k + 1, _, by omega, by go_num, HSN.out, HLN.out, HSS.out, HVN.out, b3⟩
            case measure => simp [intOf]; omega
          · have hne : (z != room) = true := by simpa using hz
            have hne2 : (z == room) = false := by simpa using hz
            clear hz
            have ba : Below wr.heap.size wr (wr.alloc (.cells #[.int .i64 5, .int .i64 y, .int .i64 0, .int .i64 0, .slice none 0 0, .slice none 0 0] 65)) := (Below.refl _ _).alloc (Nat.le_refl _) _
            have BOX0 := Lib.hid (new_row wr #[.int .i64 5, .int .i64 y, .int .i64 0, .int .i64 0, .slice none 0 0, .slice none 0 0] 65)
            go_wp2_with fail
            refine (IH.out .nil (by simp [SL.size]; omega) (d - 1) (-1) (by omega) (by omega) rfl room none 0 0 N o _ 5 c' S _ H5.out (Sl.none _ _ _ (Nat.zero_le _)) (by simp; omega) ((HO.out.later hb).later ba)).mono ?_
            rintro e w1 ⟨v1, M1, rfl, o1, m1, -, -, hb1⟩
            obtain ⟨A1, c1', rfl, s1⟩ := o1.sl
            have box1 := rowk hb1 BOX0.out
            have z1 := hb1.size
            simp only [World.size_alloc] at z1
            have b1 := ba.trans (hb1.mono (by simp))
            have BOX1 := Lib.hid box1
            obtain ⟨e0, e1, e2, e3, e4, e5⟩ := cells6 box1
            have fr4 := row_frozen box1 4
            have bs : Below wr.heap.size wr (w1.setCell ⟨wr.heap.size, 4, none⟩ (.slice A1 M1.len c1')) := b1.setCell (p := ⟨wr.heap.size, 4, none⟩) (Nat.le_refl _) _
            have S1 := Lib.hid (s1.mono (T := fun g => wr.heap.size + 1 ≤ g ∧ g < w1.heap.size) fun g hg => ⟨by have := hg.1; simpa using this, hg.2⟩)
            clear box1 o1 s1
            go_wp2_with fail
            refine (IH.out .nil (by simp [SL.size]; omega) (d - 1) (-1) (by omega) (by omega) rfl room none 0 0 N o _ 5 c' S _ H5.out (Sl.none _ _ _ (Nat.zero_le _)) (by rw [size_set]; omega) ((HO.out.later hb).later bs)).mono ?_
            rintro e w2 ⟨v2, M2, rfl, o2, m2, -, -, hb2⟩
            obtain ⟨A2, c2', rfl, s2⟩ := o2.sl
            rw [size_set] at hb2
            have box2 : w2.heap[wr.heap.size]? = some (.cells #[.int .i64 5, .int .i64 y, .int .i64 0, .int .i64 0, .slice A1 M1.len c1', .slice none 0 0] 65 (0, 0)) := by rw [hb2.block _ (by omega), row_set BOX1.out]; rfl
            have z2 := hb2.size
            rw [size_set] at z2
            have b2 := bs.trans (hb2.mono (by omega))
            have S2 := Lib.hid (s2.mono (T := fun g => w1.heap.size ≤ g ∧ g < w2.heap.size) fun g hg => ⟨by have := hg.1; rwa [size_set] at this, hg.2⟩)
            have P1 := Lib.hid (slp_past S1.out (by omega) (Nat.le_refl _) hb2)
            have BOX2 := Lib.hid box2
            clear e0 e1 e2 e3 e4 e5 fr4 o2 s2
            obtain ⟨e0, e1, e2, e3, e4, e5⟩ := cells6 box2
            have fr5 := row_frozen box2 5
            clear box2
            have bt : Below wr.heap.size wr (w2.setCell ⟨wr.heap.size, 5, none⟩ (.slice A2 M2.len c2')) := b2.setCell (p := ⟨wr.heap.size, 5, none⟩) (Nat.le_refl _) _
            have ho2 : (w2.setCell ⟨wr.heap.size, 5, none⟩ (.slice A2 M2.len c2')).ownsRow w.heap.size 65 6 (.slice (some ⟨rv, 0, none⟩) M.len cv) M.len xs := own_below H1.out bt
            have hdd := dec_below HDD.out bt
            have HDD2 := Lib.hid hdd
            have hkeep : ∀ p : Addr, p.block ≠ wr.heap.size → (w2.setCell ⟨wr.heap.size, 5, none⟩ (.slice A2 M2.len c2')).cell? p = w2.cell? p := fun p hp => World.cell?_setCell_other _ _ _ _ (fun e => hp (by rw [← e]))
            have q1 := (P1.out.keep fun p hp => hkeep p (by have := hp.1; omega)).mono (T := Born wr (w2.setCell ⟨wr.heap.size, 5, none⟩ (.slice A2 M2.len c2'))) fun g hg => ⟨by have := hg.1; omega, by rw [size_set]; have := hg.2; omega⟩
            have q2 := (S2.out.keep fun p hp => hkeep p (by have := hp.1; omega)).mono (T := Born wr (w2.setCell ⟨wr.heap.size, 5, none⟩ (.slice A2 M2.len c2'))) fun g hg => ⟨by have := hg.1; omega, by rw [size_set]; exact hg.2⟩
            have Q1 := Lib.hid q1
            have Q2 := Lib.hid q2
            have BT := Lib.hid bt
            clear hdd q1 q2 hkeep bt
            go_wp2_with (first | (at_builtin; refine wpList_append_at _ rfl _ _ 58 rfl w.heap.size 65 i0 _ 6 80 Try.underlying58 hi hz0 hz1 hz2 rfl (by decide) _ _ _ rfl (ho2.alloc _) ⟨w2.heap.size, 0, none⟩ 1 1 [.int .i64 5, .int .i64 y, .int .i64 0, .int .i64 0, .slice A1 M1.len c1', .slice A2 M2.len c2'] rfl rfl (cells_six1 _ _ _ _ _ _ _ _ _ (by rw [size_set])) (six_one _ _ _ _ _ _ _ _ _ _) (by unfold maxLen; omega) (by omega) (by simp only [World.size_alloc, size_set]; omega) (by omega) ?_) | fail)
            intro v3 w3 ho3 hg3 hw3
            have hsn := OwnL.snoc HDD2.out (by rw [size_set]; omega) hsz (fun b hb => (HVB.out b hb).2) Q1.out Q2.out ho3 hg3 (by simpa using hw3)
            have b3 : Below w.heap.size w w3 := ((hb.trans (BT.out.mono hsz)).alloc (by rw [size_set]; omega) _).grown hg3 (by simp only [World.size_alloc, size_set]; omega) (fun b hb => (HVB.out b hb).1)
            have hvn : v3 ≠ .slice none 0 0 := fun e => by rw [e] at hw3; simp [Value.ownBlock] at hw3
            have HVN := Lib.hid hvn
            have HSN := Lib.hid hsn
            have hln : (M.app (.cons 5 y 0 0 M1 M2 .nil)).len = k + 1 := by rw [SL.len_app, HML.out]; rfl
            have hss : (M.app (.cons 5 y 0 0 M1 M2 .nil)).size + (L.drop (k + 1)).size ≤ L.size := by
              have h1 := HMS.out
              have h2 := S3.out
              rw [SL.size_app]
              simp only [SL.size] at m1 m2 ⊢
              omega
            have HLN := Lib.hid hln
            have HSS := Lib.hid hss
            clear hsn ho2 ho3 hg3 hw3 hln hss hvn
            go_wp2_with fail
            go_roundw
            case rel => exact ⟨k + 1, _, by omega, by go_num, HSN.out, HLN.out, HSS.out, HVN.out, b3⟩
            case measure => simp [intOf]; omega
        by_cases h9 : K = 9
        · subst h9
          obtain ⟨x0, x2⟩ := t9 (by omega)
          obtain ⟨j, hj⟩ : ∃ j : Nat, 3 + x = (j : Int) := ⟨(3 + x).toNat, by omega⟩
          have hj0 : j < 5 := by omega
          have co := ((HO.out.later hb).later ((Below.refl wr.heap.size wr).alloc (Nat.le_refl _) (.cells #[.int .i64 9, .int .i64 x, .int .i64 y, .int .i64 v, .slice AB B.len cB, .slice AE E.len cE] 65))).one j hj0
          clear h8 h3 h4 t3 t4 t9
          generalize o.getD j 0 = z at co
          by_cases hz : z = room
          · subst hz
            have ba : Below wr.heap.size wr (wr.alloc (.cells #[.int .i64 9, .int .i64 x, .int .i64 y, .int .i64 v, .slice AB B.len cB, .slice AE E.len cE] 65)) := (Below.refl _ _).alloc (Nat.le_refl _) _
            have BOX0 := Lib.hid (new_row wr #[.int .i64 9, .int .i64 x, .int .i64 y, .int .i64 v, .slice AB B.len cB, .slice AE E.len cE] 65)
            go_wp2_with fail
            refine (IH.out B lB (d - 1) _ (by omega) (by omega) K2.out z AB B.len cB N o _ 5 c' S _ H5.out (sB.below (ba.mono (by omega))) (by simp; omega) ((HO.out.later hb).later ba)).mono ?_
            rintro e w1 ⟨v1, M1, rfl, o1, m1, -, -, hb1⟩
            obtain ⟨A1, c1', rfl, s1⟩ := o1.sl
            have box1 := rowk hb1 BOX0.out
            have z1 := hb1.size
            simp only [World.size_alloc] at z1
            have b1 := ba.trans (hb1.mono (by simp))
            have BOX1 := Lib.hid box1
            obtain ⟨e0, e1, e2, e3, e4, e5⟩ := cells6 box1
            have fr4 := row_frozen box1 4
            have bs : Below wr.heap.size wr (w1.setCell ⟨wr.heap.size, 4, none⟩ (.slice A1 M1.len c1')) := b1.setCell (p := ⟨wr.heap.size, 4, none⟩) (Nat.le_refl _) _
            have S1 := Lib.hid (s1.mono (T := fun g => wr.heap.size + 1 ≤ g ∧ g < w1.heap.size) fun g hg => ⟨by have := hg.1; simpa using this, hg.2⟩)
            clear box1 o1 s1
            go_wp2_with fail
            refine (IH.out E lE (d - 1) _ (by omega) (by omega) K3.out z AE E.len cE N o _ 5 c' S _ H5.out (sE.below (bs.mono (by omega))) (by rw [size_set]; omega) ((HO.out.later hb).later bs)).mono ?_
            rintro e w2 ⟨v2, M2, rfl, o2, m2, -, -, hb2⟩
            obtain ⟨A2, c2', rfl, s2⟩ := o2.sl
            rw [size_set] at hb2
            have box2 : w2.heap[wr.heap.size]? = some (.cells #[.int .i64 9, .int .i64 x, .int .i64 y, .int .i64 v, .slice A1 M1.len c1', .slice AE E.len cE] 65 (0, 0)) := by rw [hb2.block _ (by omega), row_set BOX1.out]; rfl
            have z2 := hb2.size
            rw [size_set] at z2
            have b2 := bs.trans (hb2.mono (by omega))
            have S2 := Lib.hid (s2.mono (T := fun g => w1.heap.size ≤ g ∧ g < w2.heap.size) fun g hg => ⟨by have := hg.1; rwa [size_set] at this, hg.2⟩)
            have P1 := Lib.hid (slp_past S1.out (by omega) (Nat.le_refl _) hb2)
            have BOX2 := Lib.hid box2
            clear e0 e1 e2 e3 e4 e5 fr4 o2 s2
            obtain ⟨e0, e1, e2, e3, e4, e5⟩ := cells6 box2
            have fr5 := row_frozen box2 5
            clear box2
            have bt : Below wr.heap.size wr (w2.setCell ⟨wr.heap.size, 5, none⟩ (.slice A2 M2.len c2')) := b2.setCell (p := ⟨wr.heap.size, 5, none⟩) (Nat.le_refl _) _
            have ho2 : (w2.setCell ⟨wr.heap.size, 5, none⟩ (.slice A2 M2.len c2')).ownsRow w.heap.size 65 6 (.slice (some ⟨rv, 0, none⟩) M.len cv) M.len xs := own_below H1.out bt
            have hdd := dec_below HDD.out bt
            have HDD2 := Lib.hid hdd
            have hkeep : ∀ p : Addr, p.block ≠ wr.heap.size → (w2.setCell ⟨wr.heap.size, 5, none⟩ (.slice A2 M2.len c2')).cell? p = w2.cell? p := fun p hp => World.cell?_setCell_other _ _ _ _ (fun e => hp (by rw [← e]))
            have q1 := (P1.out.keep fun p hp => hkeep p (by have := hp.1; omega)).mono (T := Born wr (w2.setCell ⟨wr.heap.size, 5, none⟩ (.slice A2 M2.len c2'))) fun g hg => ⟨by have := hg.1; omega, by rw [size_set]; have := hg.2; omega⟩
            have q2 := (S2.out.keep fun p hp => hkeep p (by have := hp.1; omega)).mono (T := Born wr (w2.setCell ⟨wr.heap.size, 5, none⟩ (.slice A2 M2.len c2'))) fun g hg => ⟨by have := hg.1; omega, by rw [size_set]; exact hg.2⟩
            have Q1 := Lib.hid q1
            have Q2 := Lib.hid q2
            have BT := Lib.hid bt
            clear hdd q1 q2 hkeep bt
            go_wp2_with (first | (at_builtin; refine wpList_append_at _ rfl _ _ 58 rfl w.heap.size 65 i0 _ 6 80 Try.underlying58 hi hz0 hz1 hz2 rfl (by decide) _ _ _ rfl (ho2.alloc _) ⟨w2.heap.size, 0, none⟩ 1 1 [.int .i64 9, .int .i64 x, .int .i64 y, .int .i64 v, .slice A1 M1.len c1', .slice A2 M2.len c2'] rfl rfl (cells_six1 _ _ _ _ _ _ _ _ _ (by rw [size_set])) (six_one _ _ _ _ _ _ _ _ _ _) (by unfold maxLen; omega) (by omega) (by simp only [World.size_alloc, size_set]; omega) (by omega) ?_) | fail)
            intro v3 w3 ho3 hg3 hw3
            have hsn := OwnL.snoc HDD2.out (by rw [size_set]; omega) hsz (fun b hb => (HVB.out b hb).2) Q1.out Q2.out ho3 hg3 (by simpa using hw3)
            have b3 : Below w.heap.size w w3 := ((hb.trans (BT.out.mono hsz)).alloc (by rw [size_set]; omega) _).grown hg3 (by simp only [World.size_alloc, size_set]; omega) (fun b hb => (HVB.out b hb).1)
            have hvn : v3 ≠ .slice none 0 0 := fun e => by rw [e] at hw3; simp [Value.ownBlock] at hw3
            have HVN := Lib.hid hvn
            have HSN := Lib.hid hsn
            have hln : (M.app (.cons 9 x y v M1 M2 .nil)).len = k + 1 := by rw [SL.len_app, HML.out]; rfl
            have hss : (M.app (.cons 9 x y v M1 M2 .nil)).size + (L.drop (k + 1)).size ≤ L.size := by
              have h1 := HMS.out
              have h2 := S3.out
              rw [SL.size_app]
              simp only [SL.size] at m1 m2 ⊢
              omega
            have HLN := Lib.hid hln
            have HSS := Lib.hid hss
            clear hsn ho2 ho3 hg3 hw3 hln hss hvn
            go_wp2_with fail
            go_roundw
            case rel => exact ⟨k + 1, _, by omega, by go_num, HSN.out, HLN.out, HSS.out, HVN.out, b3⟩
            case measure => simp [intOf]; omega
          · have hne : (z != room) = true := by simpa using hz
            have hne2 : (z == room) = false := by simpa using hz
            clear hz
            have ba : Below wr.heap.size wr (wr.alloc (.cells #[.int .i64 11, .int .i64 0, .int .i64 0, .int .i64 0, .slice none 0 0, .slice none 0 0] 65)) := (Below.refl _ _).alloc (Nat.le_refl _) _
            have BOX0 := Lib.hid (new_row wr #[.int .i64 11, .int .i64 0, .int .i64 0, .int .i64 0, .slice none 0 0, .slice none 0 0] 65)
            go_wp2_with fail
            refine (IH.out .nil (by simp [SL.size]; omega) (d - 1) (-1) (by omega) (by omega) rfl room none 0 0 N o _ 5 c' S _ H5.out (Sl.none _ _ _ (Nat.zero_le _)) (by simp; omega) ((HO.out.later hb).later ba)).mono ?_
            rintro e w1 ⟨v1, M1, rfl, o1, m1, -, -, hb1⟩
            obtain ⟨A1, c1', rfl, s1⟩ := o1.sl
            have box1 := rowk hb1 BOX0.out
            have z1 := hb1.size
            simp only [World.size_alloc] at z1
            have b1 := ba.trans (hb1.mono (by simp))
            have BOX1 := Lib.hid box1
            obtain ⟨e0, e1, e2, e3, e4, e5⟩ := cells6 box1
            have fr4 := row_frozen box1 4
            have bs : Below wr.heap.size wr (w1.setCell ⟨wr.heap.size, 4, none⟩ (.slice A1 M1.len c1')) := b1.setCell (p := ⟨wr.heap.size, 4, none⟩) (Nat.le_refl _) _
            have S1 := Lib.hid (s1.mono (T := fun g => wr.heap.size + 1 ≤ g ∧ g < w1.heap.size) fun g hg => ⟨by have := hg.1; simpa using this, hg.2⟩)
            clear box1 o1 s1
            go_wp2_with fail
            refine (IH.out .nil (by simp [SL.size]; omega) (d - 1) (-1) (by omega) (by omega) rfl room none 0 0 N o _ 5 c' S _ H5.out (Sl.none _ _ _ (Nat.zero_le _)) (by rw [size_set]; omega) ((HO.out.later hb).later bs)).mono ?_
            rintro e w2 ⟨v2, M2, rfl, o2, m2, -, -, hb2⟩
            obtain ⟨A2, c2', rfl, s2⟩ := o2.sl
            rw [size_set] at hb2
            have box2 : w2.heap[wr.heap.size]? = some (.cells #[.int .i64 11, .int .i64 0, .int .i64 0, .int .i64 0, .slice A1 M1.len c1', .slice none 0 0] 65 (0, 0)) := by rw [hb2.block _ (by omega), row_set BOX1.out]; rfl
            have z2 := hb2.size
            rw [size_set] at z2
            have b2 := bs.trans (hb2.mono (by omega))
            have S2 := Lib.hid (s2.mono (T := fun g => w1.heap.size ≤ g ∧ g < w2.heap.size) fun g hg => ⟨by have := hg.1; rwa [size_set] at this, hg.2⟩)
            have P1 := Lib.hid (slp_past S1.out (by omega) (Nat.le_refl _) hb2)
            have BOX2 := Lib.hid box2
            clear e0 e1 e2 e3 e4 e5 fr4 o2 s2
            obtain ⟨e0, e1, e2, e3, e4, e5⟩ := cells6 box2
            have fr5 := row_frozen box2 5
            clear box2
            have bt : Below wr.heap.size wr (w2.setCell ⟨wr.heap.size, 5, none⟩ (.slice A2 M2.len c2')) := b2.setCell (p := ⟨wr.heap.size, 5, none⟩) (Nat.le_refl _) _
            have ho2 : (w2.setCell ⟨wr.heap.size, 5, none⟩ (.slice A2 M2.len c2')).ownsRow w.heap.size 65 6 (.slice (some ⟨rv, 0, none⟩) M.len cv) M.len xs := own_below H1.out bt
            have hdd := dec_below HDD.out bt
            have HDD2 := Lib.hid hdd
            have hkeep : ∀ p : Addr, p.block ≠ wr.heap.size → (w2.setCell ⟨wr.heap.size, 5, none⟩ (.slice A2 M2.len c2')).cell? p = w2.cell? p := fun p hp => World.cell?_setCell_other _ _ _ _ (fun e => hp (by rw [← e]))
            have q1 := (P1.out.keep fun p hp => hkeep p (by have := hp.1; omega)).mono (T := Born wr (w2.setCell ⟨wr.heap.size, 5, none⟩ (.slice A2 M2.len c2'))) fun g hg => ⟨by have := hg.1; omega, by rw [size_set]; have := hg.2; omega⟩
            have q2 := (S2.out.keep fun p hp => hkeep p (by have := hp.1; omega)).mono (T := Born wr (w2.setCell ⟨wr.heap.size, 5, none⟩ (.slice A2 M2.len c2'))) fun g hg => ⟨by have := hg.1; omega, by rw [size_set]; exact hg.2⟩
            have Q1 := Lib.hid q1
            have Q2 := Lib.hid q2
            have BT := Lib.hid bt
            clear hdd q1 q2 hkeep bt
            go_wp2_with (first | (at_builtin; refine wpList_append_at _ rfl _ _ 58 rfl w.heap.size 65 i0 _ 6 80 Try.underlying58 hi hz0 hz1 hz2 rfl (by decide) _ _ _ rfl (ho2.alloc _) ⟨w2.heap.size, 0, none⟩ 1 1 [.int .i64 11, .int .i64 0, .int .i64 0, .int .i64 0, .slice A1 M1.len c1', .slice A2 M2.len c2'] rfl rfl (cells_six1 _ _ _ _ _ _ _ _ _ (by rw [size_set])) (six_one _ _ _ _ _ _ _ _ _ _) (by unfold maxLen; omega) (by omega) (by simp only [World.size_alloc, size_set]; omega) (by omega) ?_) | fail)
            intro v3 w3 ho3 hg3 hw3
            have hsn := OwnL.snoc HDD2.out (by rw [size_set]; omega) hsz (fun b hb => (HVB.out b hb).2) Q1.out Q2.out ho3 hg3 (by simpa using hw3)
            have b3 : Below w.heap.size w w3 := ((hb.trans (BT.out.mono hsz)).alloc (by rw [size_set]; omega) _).grown hg3 (by simp only [World.size_alloc, size_set]; omega) (fun b hb => (HVB.out b hb).1)
            have hvn : v3 ≠ .slice none 0 0 := fun e => by rw [e] at hw3; simp [Value.ownBlock] at hw3
            have HVN := Lib.hid hvn
            have HSN := Lib.hid hsn
            have hln : (M.app (.cons 11 0 0 0 M1 M2 .nil)).len = k + 1 := by rw [SL.len_app, HML.out]; rfl
            have hss : (M.app (.cons 11 0 0 0 M1 M2 .nil)).size + (L.drop (k + 1)).size ≤ L.size := by
              have h1 := HMS.out
              have h2 := S3.out
              rw [SL.size_app]
              simp only [SL.size] at m1 m2 ⊢
              omega
            have HLN := Lib.hid hln
            have HSS := Lib.hid hss
            clear hsn ho2 ho3 hg3 hw3 hln hss hvn
            go_wp2_with fail
            go_roundw
            case rel => exact ⟨k + 1, _, by omega, by go_num, HSN.out, HLN.out, HSS.out, HVN.out, b3⟩
            case measure => simp [intOf]; omega
        by_cases h10 : K = 10
        · subst h10
          obtain ⟨x0, x2⟩ := t9 (by omega)
          obtain ⟨j, hj⟩ : ∃ j : Nat, 3 + x = (j : Int) := ⟨(3 + x).toNat, by omega⟩
          have hj0 : j < 5 := by omega
          have co := ((HO.out.later hb).later ((Below.refl wr.heap.size wr).alloc (Nat.le_refl _) (.cells #[.int .i64 10, .int .i64 x, .int .i64 y, .int .i64 v, .slice AB B.len cB, .slice AE E.len cE] 65))).one j hj0
          clear h8 h3 h4 t3 t4 t9 h9
          generalize o.getD j 0 = z at co
          by_cases hz : z = room
          · subst hz
            have ba : Below wr.heap.size wr (wr.alloc (.cells #[.int .i64 10, .int .i64 x, .int .i64 y, .int .i64 v, .slice AB B.len cB, .slice AE E.len cE] 65)) := (Below.refl _ _).alloc (Nat.le_refl _) _
            have BOX0 := Lib.hid (new_row wr #[.int .i64 10, .int .i64 x, .int .i64 y, .int .i64 v, .slice AB B.len cB, .slice AE E.len cE] 65)
            go_wp2_with fail
            refine (IH.out B lB (d - 1) _ (by omega) (by omega) K2.out z AB B.len cB N o _ 5 c' S _ H5.out (sB.below (ba.mono (by omega))) (by simp; omega) ((HO.out.later hb).later ba)).mono ?_
            rintro e w1 ⟨v1, M1, rfl, o1, m1, -, -, hb1⟩
            obtain ⟨A1, c1', rfl, s1⟩ := o1.sl
            have box1 := rowk hb1 BOX0.out
            have z1 := hb1.size
            simp only [World.size_alloc] at z1
            have b1 := ba.trans (hb1.mono (by simp))
            have BOX1 := Lib.hid box1
            obtain ⟨e0, e1, e2, e3, e4, e5⟩ := cells6 box1
            have fr4 := row_frozen box1 4
            have bs : Below wr.heap.size wr (w1.setCell ⟨wr.heap.size, 4, none⟩ (.slice A1 M1.len c1')) := b1.setCell (p := ⟨wr.heap.size, 4, none⟩) (Nat.le_refl _) _
            have S1 := Lib.hid (s1.mono (T := fun g => wr.heap.size + 1 ≤ g ∧ g < w1.heap.size) fun g hg => ⟨by have := hg.1; simpa using this, hg.2⟩)
            clear box1 o1 s1
            go_wp2_with fail
            refine (IH.out E lE (d - 1) _ (by omega) (by omega) K3.out z AE E.len cE N o _ 5 c' S _ H5.out (sE.below (bs.mono (by omega))) (by rw [size_set]; omega) ((HO.out.later hb).later bs)).mono ?_
            rintro e w2 ⟨v2, M2, rfl, o2, m2, -, -, hb2⟩
            obtain ⟨A2, c2', rfl, s2⟩ := o2.sl
            rw [size_set] at hb2
            have box2 : w2.heap[wr.heap.size]? = some (.cells #[.int .i64 10, .int .i64 x, .int .i64 y, .int .i64 v, .slice A1 M1.len c1', .slice AE E.len cE] 65 (0, 0)) := by rw [hb2.block _ (by omega), row_set BOX1.out]; rfl
            have z2 := hb2.size
            rw [size_set] at z2
            have b2 := bs.trans (hb2.mono (by omega))
            have S2 := Lib.hid (s2.mono (T := fun g => w1.heap.size ≤ g ∧ g < w2.heap.size) fun g hg => ⟨by have := hg.1; rwa [size_set] at this, hg.2⟩)
            have P1 := Lib.hid (slp_past S1.out (by omega) (Nat.le_refl _) hb2)
            have BOX2 := Lib.hid box2
            clear e0 e1 e2 e3 e4 e5 fr4 o2 s2
            obtain ⟨e0, e1, e2, e3, e4, e5⟩ := cells6 box2
            have fr5 := row_frozen box2 5
            clear box2
            have bt : Below wr.heap.size wr (w2.setCell ⟨wr.heap.size, 5, none⟩ (.slice A2 M2.len c2')) := b2.setCell (p := ⟨wr.heap.size, 5, none⟩) (Nat.le_refl _) _
            have ho2 : (w2.setCell ⟨wr.heap.size, 5, none⟩ (.slice A2 M2.len c2')).ownsRow w.heap.size 65 6 (.slice (some ⟨rv, 0, none⟩) M.len cv) M.len xs := own_below H1.out bt
            have hdd := dec_below HDD.out bt
            have HDD2 := Lib.hid hdd
            have hkeep : ∀ p : Addr, p.block ≠ wr.heap.size → (w2.setCell ⟨wr.heap.size, 5, none⟩ (.slice A2 M2.len c2')).cell? p = w2.cell? p := fun p hp => World.cell?_setCell_other _ _ _ _ (fun e => hp (by rw [← e]))
            have q1 := (P1.out.keep fun p hp => hkeep p (by have := hp.1; omega)).mono (T := Born wr (w2.setCell ⟨wr.heap.size, 5, none⟩ (.slice A2 M2.len c2'))) fun g hg => ⟨by have := hg.1; omega, by rw [size_set]; have := hg.2; omega⟩
            have q2 := (S2.out.keep fun p hp => hkeep p (by have := hp.1; omega)).mono (T := Born wr (w2.setCell ⟨wr.heap.size, 5, none⟩ (.slice A2 M2.len c2'))) fun g hg => ⟨by have := hg.1; omega, by rw [size_set]; exact hg.2⟩
            have Q1 := Lib.hid q1
            have Q2 := Lib.hid q2
            have BT := Lib.hid bt
            clear hdd q1 q2 hkeep bt
            go_wp2_with (first | (at_builtin; refine wpList_append_at _ rfl _ _ 58 rfl w.heap.size 65 i0 _ 6 80 Try.underlying58 hi hz0 hz1 hz2 rfl (by decide) _ _ _ rfl (ho2.alloc _) ⟨w2.heap.size, 0, none⟩ 1 1 [.int .i64 10, .int .i64 x, .int .i64 y, .int .i64 v, .slice A1 M1.len c1', .slice A2 M2.len c2'] rfl rfl (cells_six1 _ _ _ _ _ _ _ _ _ (by rw [size_set])) (six_one _ _ _ _ _ _ _ _ _ _) (by unfold maxLen; omega) (by omega) (by simp only [World.size_alloc, size_set]; omega) (by omega) ?_) | fail)
            intro v3 w3 ho3 hg3 hw3
            have hsn := OwnL.snoc HDD2.out (by rw [size_set]; omega) hsz (fun b hb => (HVB.out b hb).2) Q1.out Q2.out ho3 hg3 (by simpa using hw3)
            have b3 : Below w.heap.size w w3 := ((hb.trans (BT.out.mono hsz)).alloc (by rw [size_set]; omega) _).grown hg3 (by simp only [World.size_alloc, size_set]; omega) (fun b hb => (HVB.out b hb).1)
            have hvn : v3 ≠ .slice none 0 0 := fun e => by rw [e] at hw3; simp [Value.ownBlock] at hw3
            have HVN := Lib.hid hvn
            have HSN := Lib.hid hsn
            have hln : (M.app (.cons 10 x y v M1 M2 .nil)).len = k + 1 := by rw [SL.len_app, HML.out]; rfl
            have hss : (M.app (.cons 10 x y v M1 M2 .nil)).size + (L.drop (k + 1)).size ≤ L.size := by
              have h1 := HMS.out
              have h2 := S3.out
              rw [SL.size_app]
              simp only [SL.size] at m1 m2 ⊢
              omega
            have HLN := Lib.hid hln
            have HSS := Lib.hid hss
            clear hsn ho2 ho3 hg3 hw3 hln hss hvn
            go_wp2_with fail
            go_roundw
            case rel => exact ⟨k + 1, _, by omega, by go_num, HSN.out, HLN.out, HSS.out, HVN.out, b3⟩
            case measure => simp [intOf]; omega
          · have hne : (z != room) = true := by simpa using hz
            have hne2 : (z == room) = false := by simpa using hz
            clear hz
            have ba : Below wr.heap.size wr (wr.alloc (.cells #[.int .i64 11, .int .i64 0, .int .i64 0, .int .i64 0, .slice none 0 0, .slice none 0 0] 65)) := (Below.refl _ _).alloc (Nat.le_refl _) _
            have BOX0 := Lib.hid (new_row wr #[.int .i64 11, .int .i64 0, .int .i64 0, .int .i64 0, .slice none 0 0, .slice none 0 0] 65)
            go_wp2_with fail
            refine (IH.out .nil (by simp [SL.size]; omega) (d - 1) (-1) (by omega) (by omega) rfl room none 0 0 N o _ 5 c' S _ H5.out (Sl.none _ _ _ (Nat.zero_le _)) (by simp; omega) ((HO.out.later hb).later ba)).mono ?_
            rintro e w1 ⟨v1, M1, rfl, o1, m1, -, -, hb1⟩
            obtain ⟨A1, c1', rfl, s1⟩ := o1.sl
            have box1 := rowk hb1 BOX0.out
            have z1 := hb1.size
            simp only [World.size_alloc] at z1
            have b1 := ba.trans (hb1.mono (by simp))
            have BOX1 := Lib.hid box1
            obtain ⟨e0, e1, e2, e3, e4, e5⟩ := cells6 box1
            have fr4 := row_frozen box1 4
            have bs : Below wr.heap.size wr (w1.setCell ⟨wr.heap.size, 4, none⟩ (.slice A1 M1.len c1')) := b1.setCell (p := ⟨wr.heap.size, 4, none⟩) (Nat.le_refl _) _
            have S1 := Lib.hid (s1.mono (T := fun g => wr.heap.size + 1 ≤ g ∧ g < w1.heap.size) fun g hg => ⟨by have := hg.1; simpa using this, hg.2⟩)
            clear box1 o1 s1
            go_wp2_with fail
            refine (IH.out .nil (by simp [SL.size]; omega) (d - 1) (-1) (by omega) (by omega) rfl room none 0 0 N o _ 5 c' S _ H5.out (Sl.none _ _ _ (Nat.zero_le _)) (by rw [size_set]; omega) ((HO.out.later hb).later bs)).mono ?_
            rintro e w2 ⟨v2, M2, rfl, o2, m2, -, -, hb2⟩
            obtain ⟨A2, c2', rfl, s2⟩ := o2.sl
            rw [size_set] at hb2
            have box2 : w2.heap[wr.heap.size]? = some (.cells #[.int .i64 11, .int .i64 0, .int .i64 0, .int .i64 0, .slice A1 M1.len c1', .slice none 0 0] 65 (0, 0)) := by rw [hb2.block _ (by omega), row_set BOX1.out]; rfl
            have z2 := hb2.size
            rw [size_set] at z2
            have b2 := bs.trans (hb2.mono (by omega))
            have S2 := Lib.hid (s2.mono (T := fun g => w1.heap.size ≤ g ∧ g < w2.heap.size) fun g hg => ⟨by have := hg.1; rwa [size_set] at this, hg.2⟩)
            have P1 := Lib.hid (slp_past S1.out (by omega) (Nat.le_refl _) hb2)
            have BOX2 := Lib.hid box2
            clear e0 e1 e2 e3 e4 e5 fr4 o2 s2
            obtain ⟨e0, e1, e2, e3, e4, e5⟩ := cells6 box2
            have fr5 := row_frozen box2 5
            clear box2
            have bt : Below wr.heap.size wr (w2.setCell ⟨wr.heap.size, 5, none⟩ (.slice A2 M2.len c2')) := b2.setCell (p := ⟨wr.heap.size, 5, none⟩) (Nat.le_refl _) _
            have ho2 : (w2.setCell ⟨wr.heap.size, 5, none⟩ (.slice A2 M2.len c2')).ownsRow w.heap.size 65 6 (.slice (some ⟨rv, 0, none⟩) M.len cv) M.len xs := own_below H1.out bt
            have hdd := dec_below HDD.out bt
            have HDD2 := Lib.hid hdd
            have hkeep : ∀ p : Addr, p.block ≠ wr.heap.size → (w2.setCell ⟨wr.heap.size, 5, none⟩ (.slice A2 M2.len c2')).cell? p = w2.cell? p := fun p hp => World.cell?_setCell_other _ _ _ _ (fun e => hp (by rw [← e]))
            have q1 := (P1.out.keep fun p hp => hkeep p (by have := hp.1; omega)).mono (T := Born wr (w2.setCell ⟨wr.heap.size, 5, none⟩ (.slice A2 M2.len c2'))) fun g hg => ⟨by have := hg.1; omega, by rw [size_set]; have := hg.2; omega⟩
            have q2 := (S2.out.keep fun p hp => hkeep p (by have := hp.1; omega)).mono (T := Born wr (w2.setCell ⟨wr.heap.size, 5, none⟩ (.slice A2 M2.len c2'))) fun g hg => ⟨by have := hg.1; omega, by rw [size_set]; exact hg.2⟩
            have Q1 := Lib.hid q1
            have Q2 := Lib.hid q2
            have BT := Lib.hid bt
            clear hdd q1 q2 hkeep bt
            go_wp2_with (first | (at_builtin; refine wpList_append_at _ rfl _ _ 58 rfl w.heap.size 65 i0 _ 6 80 Try.underlying58 hi hz0 hz1 hz2 rfl (by decide) _ _ _ rfl (ho2.alloc _) ⟨w2.heap.size, 0, none⟩ 1 1 [.int .i64 11, .int .i64 0, .int .i64 0, .int .i64 0, .slice A1 M1.len c1', .slice A2 M2.len c2'] rfl rfl (cells_six1 _ _ _ _ _ _ _ _ _ (by rw [size_set])) (six_one _ _ _ _ _ _ _ _ _ _) (by unfold maxLen; omega) (by omega) (by simp only [World.size_alloc, size_set]; omega) (by omega) ?_) | fail)
            intro v3 w3 ho3 hg3 hw3
            have hsn := OwnL.snoc HDD2.out (by rw [size_set]; omega) hsz (fun b hb => (HVB.out b hb).2) Q1.out Q2.out ho3 hg3 (by simpa using hw3)
            have b3 : Below w.heap.size w w3 := ((hb.trans (BT.out.mono hsz)).alloc (by rw [size_set]; omega) _).grown hg3 (by simp only [World.size_alloc, size_set]; omega) (fun b hb => (HVB.out b hb).1)
            have hvn : v3 ≠ .slice none 0 0 := fun e => by rw [e] at hw3; simp [Value.ownBlock] at hw3
            have HVN := Lib.hid hvn
            have HSN := Lib.hid hsn
            have hln : (M.app (.cons 11 0 0 0 M1 M2 .nil)).len = k + 1 := by rw [SL.len_app, HML.out]; rfl
            have hss : (M.app (.cons 11 0 0 0 M1 M2 .nil)).size + (L.drop (k + 1)).size ≤ L.size := by
              have h1 := HMS.out
              have h2 := S3.out
              rw [SL.size_app]
              simp only [SL.size] at m1 m2 ⊢
              omega
            have HLN := Lib.hid hln
            have HSS := Lib.hid hss
            clear hsn ho2 ho3 hg3 hw3 hln hss hvn
            go_wp2_with fail
            go_roundw
            case rel => exact ⟨k + 1, _, by omega, by go_num, HSN.out, HLN.out, HSS.out, HVN.out, b3⟩
            case measure => simp [intOf]; omega
        have k8 : (K == 8) = false := by simpa using h8
        have k3 : (K == 3) = false := by simpa using h3
        have k4 : (K == 4) = false := by simpa using h4
        have k9 : (K == 9) = false := by simpa using h9
        have k10 : (K == 10) = false := by simpa using h10
        clear h8 h3 h4 h9 h10 t3 t4 t9
        have ba : Below wr.heap.size wr (wr.alloc (.cells #[.int .i64 K, .int .i64 x, .int .i64 y, .int .i64 v, .slice AB B.len cB, .slice AE E.len cE] 65)) := (Below.refl _ _).alloc (Nat.le_refl _) _
        have BOX0 := Lib.hid (new_row wr #[.int .i64 K, .int .i64 x, .int .i64 y, .int .i64 v, .slice AB B.len cB, .slice AE E.len cE] 65)
        go_wp2_with fail
        refine (IH.out B lB (d - 1) _ (by omega) (by omega) K2.out room AB B.len cB N o _ 5 c' S _ H5.out (sB.below (ba.mono (by omega))) (by simp; omega) ((HO.out.later hb).later ba)).mono ?_
        rintro e w1 ⟨v1, M1, rfl, o1, m1, -, -, hb1⟩
        obtain ⟨A1, c1', rfl, s1⟩ := o1.sl
        have box1 := rowk hb1 BOX0.out
        have z1 := hb1.size
        simp only [World.size_alloc] at z1
        have b1 := ba.trans (hb1.mono (by simp))
        have BOX1 := Lib.hid box1
        obtain ⟨e0, e1, e2, e3, e4, e5⟩ := cells6 box1
        have fr4 := row_frozen box1 4
        have bs : Below wr.heap.size wr (w1.setCell ⟨wr.heap.size, 4, none⟩ (.slice A1 M1.len c1')) := b1.setCell (p := ⟨wr.heap.size, 4, none⟩) (Nat.le_refl _) _
        have S1 := Lib.hid (s1.mono (T := fun g => wr.heap.size + 1 ≤ g ∧ g < w1.heap.size) fun g hg => ⟨by have := hg.1; simpa using this, hg.2⟩)
        clear box1 o1 s1
        go_wp2_with fail
        refine (IH.out E lE (d - 1) _ (by omega) (by omega) K3.out room AE E.len cE N o _ 5 c' S _ H5.out (sE.below (bs.mono (by omega))) (by rw [size_set]; omega) ((HO.out.later hb).later bs)).mono ?_
        rintro e w2 ⟨v2, M2, rfl, o2, m2, -, -, hb2⟩
        obtain ⟨A2, c2', rfl, s2⟩ := o2.sl
        rw [size_set] at hb2
        have box2 : w2.heap[wr.heap.size]? = some (.cells #[.int .i64 K, .int .i64 x, .int .i64 y, .int .i64 v, .slice A1 M1.len c1', .slice AE E.len cE] 65 (0, 0)) := by rw [hb2.block _ (by omega), row_set BOX1.out]; rfl
        have z2 := hb2.size
        rw [size_set] at z2
        have b2 := bs.trans (hb2.mono (by omega))
        have S2 := Lib.hid (s2.mono (T := fun g => w1.heap.size ≤ g ∧ g < w2.heap.size) fun g hg => ⟨by have := hg.1; rwa [size_set] at this, hg.2⟩)
        have P1 := Lib.hid (slp_past S1.out (by omega) (Nat.le_refl _) hb2)
        have BOX2 := Lib.hid box2
        clear e0 e1 e2 e3 e4 e5 fr4 o2 s2
        obtain ⟨e0, e1, e2, e3, e4, e5⟩ := cells6 box2
        have fr5 := row_frozen box2 5
        clear box2
        have bt : Below wr.heap.size wr (w2.setCell ⟨wr.heap.size, 5, none⟩ (.slice A2 M2.len c2')) := b2.setCell (p := ⟨wr.heap.size, 5, none⟩) (Nat.le_refl _) _
        have ho2 : (w2.setCell ⟨wr.heap.size, 5, none⟩ (.slice A2 M2.len c2')).ownsRow w.heap.size 65 6 (.slice (some ⟨rv, 0, none⟩) M.len cv) M.len xs := own_below H1.out bt
        have hdd := dec_below HDD.out bt
        have HDD2 := Lib.hid hdd
        have hkeep : ∀ p : Addr, p.block ≠ wr.heap.size → (w2.setCell ⟨wr.heap.size, 5, none⟩ (.slice A2 M2.len c2')).cell? p = w2.cell? p := fun p hp => World.cell?_setCell_other _ _ _ _ (fun e => hp (by rw [← e]))
        have q1 := (P1.out.keep fun p hp => hkeep p (by have := hp.1; omega)).mono (T := Born wr (w2.setCell ⟨wr.heap.size, 5, none⟩ (.slice A2 M2.len c2'))) fun g hg => ⟨by have := hg.1; omega, by rw [size_set]; have := hg.2; omega⟩
        have q2 := (S2.out.keep fun p hp => hkeep p (by have := hp.1; omega)).mono (T := Born wr (w2.setCell ⟨wr.heap.size, 5, none⟩ (.slice A2 M2.len c2'))) fun g hg => ⟨by have := hg.1; omega, by rw [size_set]; exact hg.2⟩
        have Q1 := Lib.hid q1
        have Q2 := Lib.hid q2
        have BT := Lib.hid bt
        clear hdd q1 q2 hkeep bt
        go_wp2_with (first | (at_builtin; refine wpList_append_at _ rfl _ _ 58 rfl w.heap.size 65 i0 _ 6 80 Try.underlying58 hi hz0 hz1 hz2 rfl (by decide) _ _ _ rfl (ho2.alloc _) ⟨w2.heap.size, 0, none⟩ 1 1 [.int .i64 K, .int .i64 x, .int .i64 y, .int .i64 v, .slice A1 M1.len c1', .slice A2 M2.len c2'] rfl rfl (cells_six1 _ _ _ _ _ _ _ _ _ (by rw [size_set])) (six_one _ _ _ _ _ _ _ _ _ _) (by unfold maxLen; omega) (by omega) (by simp only [World.size_alloc, size_set]; omega) (by omega) ?_) | fail)
        intro v3 w3 ho3 hg3 hw3
        have hsn := OwnL.snoc HDD2.out (by rw [size_set]; omega) hsz (fun b hb => (HVB.out b hb).2) Q1.out Q2.out ho3 hg3 (by simpa using hw3)
        have b3 : Below w.heap.size w w3 := ((hb.trans (BT.out.mono hsz)).alloc (by rw [size_set]; omega) _).grown hg3 (by simp only [World.size_alloc, size_set]; omega) (fun b hb => (HVB.out b hb).1)
        have hvn : v3 ≠ .slice none 0 0 := fun e => by rw [e] at hw3; simp [Value.ownBlock] at hw3
        have HVN := Lib.hid hvn
        have HSN := Lib.hid hsn
        have hln : (M.app (.cons K x y v M1 M2 .nil)).len = k + 1 := by rw [SL.len_app, HML.out]; rfl
        have hss : (M.app (.cons K x y v M1 M2 .nil)).size + (L.drop (k + 1)).size ≤ L.size := by
          have h1 := HMS.out
          have h2 := S3.out
          rw [SL.size_app]
          simp only [SL.size] at m1 m2 ⊢
          omega
        have HLN := Lib.hid hln
        have HSS := Lib.hid hss
        clear hsn ho2 ho3 hg3 hw3 hln hss hvn
        go_wp2_with fail
        go_roundw
        case rel => exact ⟨k + 1, _, by omega, by go_num, HSN.out, HLN.out, HSS.out, HVN.out, b3⟩
        case measure => simp [intOf]; omega
      · have hkn : k = n := by omega
        have hend := SL.drop_end (L := L) (i := k) (by omega)
        obtain ⟨Av, cv, rfl, _⟩ := hown.sl
        have HA := Lib.hid (show TamePost L w (.returned (.slice Av M.len cv)) wr from ⟨_, M, rfl, hown, by rw [hend] at hMs; simp only [SL.size] at hMs; omega, by omega, hvn, hb⟩)
        clear hown hend
        go_wp2_with fail
        go_ret
        exact HA.out
end Go.Proofs.Ytoinagefhbpakaa
