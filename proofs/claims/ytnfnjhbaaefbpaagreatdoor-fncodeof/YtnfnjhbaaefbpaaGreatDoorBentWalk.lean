/- The walk of what the laws do to a list that they have drawn. -/
import Derived.Test.YtnfnjhbaaefbpaaGreatDoorBentOwn
namespace Go.Proofs.YtnfnjhbaaefbpaaGreatDoor
open Go.ChangeShapes Go.WideShapes Go.ChangeAt Go.RowKit

set_option maxRecDepth 100000 in
set_option maxHeartbeats 4000000 in
theorem bent (G : Nat → Prop) (L : SL) (g : Nat) (p : Int) (a : Addr) (n c : Nat) (w : World) (hG : Reg G g w) (hs : SlP w (fun b => G b ∧ b < w.heap.size) L (some a) n c) (hR : Rd w g p) (hp0 : 0 ≤ p) (hp1 : p ≤ 900000000000) (hL : L.size ≤ 100000) :
    Calls Tryz.prog 34 #[.pointer (some ⟨g, 0, none⟩), .slice (some a) n c] w (BentPost G (2 * L.size + 20) L.len g p w) := by
  have hgl := hR.lt
  have hnl : n = L.len := hs.len
  have hll := L.len_le
  obtain ⟨i0, hi, hz0, hz1, hz2⟩ := info_parts info_St
  obtain ⟨xs, hdec, hcell, hone⟩ := (hs.at_ a rfl).dec
  have hxl := hdec.length
  have hcell' : ∀ j u, xs[j]? = some u → (w.alloc (.cells #[] 36)).cell? (a.add j) = some u := fun j u h => by
    have := hcell j u h
    rw [World.cell?_of_block (w := w) (Below.heap_alloc w _ _ (World.block_lt_of_cell? _ _ this))]; exact this
  have hown0 : (w.alloc (.cells #[] 36)).ownsRow w.heap.size 36 6 (.slice (some ⟨w.heap.size, 0, none⟩) 0 0) 0 [] := World.ownsRow_lit w #[] 0 (Nat.le_refl _) (Nat.zero_le _) rfl
  have HC := Lib.hid hcell'
  have HO := Lib.hid hone
  have HX := Lib.hid hxl
  have HD := Lib.hid hdec
  subst hnl
  clear hcell hcell' hone hxl hdec
  by_cases h0 : L.len = 0
  · obtain rfl := SL.nil_of_len h0
    obtain rfl : xs = [] := HD.out
    go_enter Tryz.func34, Tryz.ntmps34
    go_wp2_with (at_builtin; refine wpList_append_own _ rfl (.tmp 7) (.tmp 8) 23 rfl w.heap.size 36 i0 _ 6 80 Tryz.underlying23 hi hz0 hz1 hz2 rfl (by decide) _ _ _ rfl hown0 a 0 c [] rfl rfl (fun j u h => by simp at h) (fun u h => by simp at h) (by decide) (by decide) (by simp) ?_)
    intro v' w1 ho1 hg1 hn1
    obtain ⟨r, cap, rfl, hr0, hr1⟩ := own_some ho1 hn1
    have hg01 : w.grownBy w1 (some g) := grown_own (World.grownBy_alloc w (.cells #[] 36) (some g)) hg1 (fun b hb => by simp [Value.ownBlock] at hb; omega)
    have hR1 : Rd w1 g p := (hR.alloc (.cells #[] 36)).keep fun k hk => hg1.block k (by simp; omega) (fun e => by simp [Value.ownBlock] at e; omega)
    have HE := Lib.hid (bent_end (M := 2 * SL.nil.size + 20) (n0 := 0) (L := .nil) (r := r) (cap := cap) (p := p) (q := p) ⟨[], ho1, rfl⟩ hG (by omega) (Nat.le_refl _) (Int.le_refl _) (by omega) hR1 hg01)
    clear ho1 hg1 hn1 hown0
    go_wp2_with fail
    go_ret
    exact HE.out
  · have hpos : 0 < L.len := by omega
    go_enter Tryz.func34, Tryz.ntmps34
    go_wp2_with (at_builtin; refine wpList_append_at _ rfl (.tmp 7) (.tmp 8) 23 rfl w.heap.size 36 i0 _ 6 80 Tryz.underlying23 hi hz0 hz1 hz2 rfl (by decide) _ _ _ rfl hown0 a L.len c xs rfl HX.out HC.out HO.out (by unfold maxLen; omega) (by omega) (by simp) hpos ?_)
    intro v' w1 ho1 hg1 hw1
    obtain ⟨r, cap, rfl, hr0, hr1⟩ := own_some ho1 (fun e => by rw [e] at hw1; simp [Value.ownBlock] at hw1)
    have hg01 : w.grownBy w1 (some g) := grown_own (World.grownBy_alloc w (.cells #[] 36) (some g)) hg1 (fun b hb => by simp [Value.ownBlock] at hb; omega)
    have hR1 : Rd w1 g p := (hR.alloc (.cells #[] 36)).keep fun k hk => hg1.block k (by simp; omega) (fun e => by simp [Value.ownBlock] at e; omega)
    have hd1 : OwnB G w w1 (.slice (some ⟨r, 0, none⟩) L.len cap) L := ⟨xs, ho1, (HD.out.keep (fun q hq => by
      rw [World.cell?_of_block (hg1.block q.block (by simp; omega) (fun e => by simp [Value.ownBlock] at e; omega)), World.cell?_of_block (w := w) (Below.heap_alloc w _ _ hq.2)])).mono fun b hb => ⟨hb.1, by have := hg01.size; omega, by simp [Value.ownBlock]; omega⟩⟩
    clear ho1 hg1 hw1 hown0
    have hnz : ((L.len : Int) == 0) = false := beq_eq_false_iff_ne.2 (by omega)
    go_wp2_with fail
    refine (pick g p _ _ hR1 hp0 (by omega) (by omega)).mono ?_
    rintro e w2 ⟨k, k0, k1, rfl, hR2, hg2⟩
    obtain ⟨kn, rfl⟩ := Int.eq_ofNat_of_zero_le k0
    have hkn : kn < L.len := by omega
    have hd2 := hd1.kept hg2 hgl hG
    have hg02 := hg01.trans hg2
    clear hd1 hR1 hg01 hg2
    go_wp2_with fail
    refine (pick g (p + 1) _ _ hR2 (by omega) (by omega) (by omega)).mono ?_
    rintro e w3 ⟨z, z0, z1, rfl, hR3, hg3⟩
    have hd3 := hd2.kept hg3 hgl hG
    have hg03 := hg02.trans hg3
    have hr3 : r < w3.heap.size := by obtain ⟨_, h, _⟩ := hd3; exact (own_blocks h (b := r) rfl).2
    clear hd2 hR2 hg02 hg3
    by_cases hz : z = 0 ∨ z = 1 ∨ z = 2 ∨ z = 3 ∨ z = 4 ∨ z = 5 ∨ z = 6
    · rcases hz with rfl | rfl | rfl | rfl | rfl | rfl | rfl
      · go_wp2_with fail
        refine (num_row g (p + 1 + 1) _ _ _ _ (-1) 13 hR3 (by omega) (by omega) (by rfl) (by decide) (by decide) (by simp [intsIn])).mono ?_
        rintro e w4 ⟨x, _, rfl, hR4, hg4⟩
        obtain ⟨xs4, ho4, hdd4⟩ := hd3.kept hg4 hgl hG
        obtain ⟨L', hdL, hlL, hsL⟩ := hdd4.setInt x (k := kn) (j := 0) hkn (by omega)
        obtain ⟨b0, b1, b2, b3, B, E, AB, cB, AE, cE, q0, q1, q2, q3, _⟩ := hdd4.get (k := kn) hkn
        have cc : w4.cell? ⟨r, kn * 6, none⟩ = some (.int .i64 b0) := by rw [ho4.cellAt _ (by omega)]; exact q0
        have cf := ho4.frozenAt (kn * 6)
        obtain ⟨hRz, hgz⟩ := store_frame (j := kn * 6) (u := .int .i64 x) hR4 (hg03.trans hg4) hgl hr0
        have hfin := bent_end (M := 2 * L.size + 20) (n0 := L.len) (OwnB.store (j := kn * 6 + 0) (u := .int .i64 x) ho4 hlL.symm hdL) hG (by omega) (by omega) (p := p) (q := p + 1 + 1 + 1) (by omega) (by omega) hRz hgz
        rw [hlL] at hfin
        have HF := Lib.hid hfin
        clear ho4 hdd4 hdL hfin hRz hgz q0 q1 q2 q3
        go_wp2_with fail
        go_ret
        exact HF.out
      · go_wp2_with fail
        refine (num_row g (p + 1 + 1) _ _ _ _ (-1) 9223372036854775807 hR3 (by omega) (by omega) (by rfl) (by decide) (by decide) (by simp [intsIn])).mono ?_
        rintro e w4 ⟨x, _, rfl, hR4, hg4⟩
        obtain ⟨xs4, ho4, hdd4⟩ := hd3.kept hg4 hgl hG
        obtain ⟨L', hdL, hlL, hsL⟩ := hdd4.setInt x (k := kn) (j := 1) hkn (by omega)
        obtain ⟨b0, b1, b2, b3, B, E, AB, cB, AE, cE, q0, q1, q2, q3, _⟩ := hdd4.get (k := kn) hkn
        have cc : w4.cell? ⟨r, kn * 6 + 1, none⟩ = some (.int .i64 b1) := by rw [ho4.cellAt _ (by omega)]; exact q1
        have cf := ho4.frozenAt (kn * 6 + 1)
        obtain ⟨hRz, hgz⟩ := store_frame (j := kn * 6 + 1) (u := .int .i64 x) hR4 (hg03.trans hg4) hgl hr0
        have hfin := bent_end (M := 2 * L.size + 20) (n0 := L.len) (OwnB.store (j := kn * 6 + 1) (u := .int .i64 x) ho4 hlL.symm hdL) hG (by omega) (by omega) (p := p) (q := p + 1 + 1 + 1) (by omega) (by omega) hRz hgz
        rw [hlL] at hfin
        have HF := Lib.hid hfin
        clear ho4 hdd4 hdL hfin hRz hgz q0 q1 q2 q3
        go_wp2_with fail
        go_ret
        exact HF.out
      · go_wp2_with fail
        refine (num_row g (p + 1 + 1) _ _ _ _ (-1) 3 hR3 (by omega) (by omega) (by rfl) (by decide) (by decide) (by simp [intsIn])).mono ?_
        rintro e w4 ⟨x, _, rfl, hR4, hg4⟩
        obtain ⟨xs4, ho4, hdd4⟩ := hd3.kept hg4 hgl hG
        obtain ⟨L', hdL, hlL, hsL⟩ := hdd4.setInt x (k := kn) (j := 2) hkn (by omega)
        obtain ⟨b0, b1, b2, b3, B, E, AB, cB, AE, cE, q0, q1, q2, q3, _⟩ := hdd4.get (k := kn) hkn
        have cc : w4.cell? ⟨r, kn * 6 + 2, none⟩ = some (.int .i64 b2) := by rw [ho4.cellAt _ (by omega)]; exact q2
        have cf := ho4.frozenAt (kn * 6 + 2)
        obtain ⟨hRz, hgz⟩ := store_frame (j := kn * 6 + 2) (u := .int .i64 x) hR4 (hg03.trans hg4) hgl hr0
        have hfin := bent_end (M := 2 * L.size + 20) (n0 := L.len) (OwnB.store (j := kn * 6 + 2) (u := .int .i64 x) ho4 hlL.symm hdL) hG (by omega) (by omega) (p := p) (q := p + 1 + 1 + 1) (by omega) (by omega) hRz hgz
        rw [hlL] at hfin
        have HF := Lib.hid hfin
        clear ho4 hdd4 hdL hfin hRz hgz q0 q1 q2 q3
        go_wp2_with fail
        go_ret
        exact HF.out
      · go_wp2_with fail
        refine (num_row g (p + 1 + 1) _ _ _ _ 1 1000 hR3 (by omega) (by omega) (by rfl) (by decide) (by decide) (by simp [intsIn])).mono ?_
        rintro e w4 ⟨x, _, rfl, hR4, hg4⟩
        obtain ⟨xs4, ho4, hdd4⟩ := hd3.kept hg4 hgl hG
        obtain ⟨L', hdL, hlL, hsL⟩ := hdd4.setInt x (k := kn) (j := 3) hkn (by omega)
        obtain ⟨b0, b1, b2, b3, B, E, AB, cB, AE, cE, q0, q1, q2, q3, _⟩ := hdd4.get (k := kn) hkn
        have cc : w4.cell? ⟨r, kn * 6 + 3, none⟩ = some (.int .i64 b3) := by rw [ho4.cellAt _ (by omega)]; exact q3
        have cf := ho4.frozenAt (kn * 6 + 3)
        obtain ⟨hRz, hgz⟩ := store_frame (j := kn * 6 + 3) (u := .int .i64 x) hR4 (hg03.trans hg4) hgl hr0
        have hfin := bent_end (M := 2 * L.size + 20) (n0 := L.len) (OwnB.store (j := kn * 6 + 3) (u := .int .i64 x) ho4 hlL.symm hdL) hG (by omega) (by omega) (p := p) (q := p + 1 + 1 + 1) (by omega) (by omega) hRz hgz
        rw [hlL] at hfin
        have HF := Lib.hid hfin
        clear ho4 hdd4 hdL hfin hRz hgz q0 q1 q2 q3
        go_wp2_with fail
        go_ret
        exact HF.out
      · have ha := World.grownBy_alloc w3 (.cells #[.int .i64 11, .int .i64 0, .int .i64 0, .int .i64 0, .slice none 0 0, .slice none 0 0] 36) (some g)
        obtain ⟨xs4, ho4, hdd4⟩ := hd3.kept ha hgl hG
        have hR4 : Rd (w3.alloc (.cells #[.int .i64 11, .int .i64 0, .int .i64 0, .int .i64 0, .slice none 0 0, .slice none 0 0] 36)) g (p + 1 + 1) := hR3.alloc _
        have hgw : G w3.heap.size := hG.new _ hg03.size
        have hM : SlP (w3.alloc (.cells #[.int .i64 11, .int .i64 0, .int .i64 0, .int .i64 0, .slice none 0 0, .slice none 0 0] 36)) (fun b => G b ∧ b < (w3.alloc (.cells #[.int .i64 11, .int .i64 0, .int .i64 0, .int .i64 0, .slice none 0 0, .slice none 0 0] 36)).heap.size ∧ (Value.slice (some ⟨r, 0, none⟩) L.len cap).ownBlock ≠ some b) (.cons 11 0 0 0 .nil .nil .nil) (some ⟨w3.heap.size, 0, none⟩) (SL.cons 11 0 0 0 .nil .nil .nil).len 1 :=
          one_new w3 11 0 0 0 (none_in _ _) (none_in _ _) ⟨hgw, by simp, by simp [Value.ownBlock]; omega⟩
        obtain ⟨L', hdL, hlL, hsL⟩ := hdd4.setBody hM (k := kn) (j := 5) hkn (.inr rfl)
        obtain ⟨b0, b1, b2, b3, B, E, AB, cB, AE, cE, q0, q1, q2, q3, q4, q5, _⟩ := hdd4.get (k := kn) hkn
        have cc : (w3.alloc (.cells #[.int .i64 11, .int .i64 0, .int .i64 0, .int .i64 0, .slice none 0 0, .slice none 0 0] 36)).cell? ⟨r, kn * 6 + 5, none⟩ = some (.slice AE E.len cE) := by rw [ho4.cellAt _ (by omega)]; exact q5
        have cf := ho4.frozenAt (kn * 6 + 5)
        obtain ⟨hRz, hgz⟩ := store_frame (j := kn * 6 + 5) (u := .slice (some ⟨w3.heap.size, 0, none⟩) 1 1) hR4 (hg03.trans ha) hgl hr0
        have hfin := bent_end (M := 2 * L.size + 20) (n0 := L.len) (OwnB.store (j := kn * 6 + 5) (u := .slice (some ⟨w3.heap.size, 0, none⟩) 1 1) ho4 hlL.symm hdL) hG (by simp [SL.size] at hsL; omega) (by omega) (p := p) (q := p + 1 + 1) (by omega) (by omega) hRz hgz
        rw [hlL, World.setCell_alloc_past _ _ _ _ hr3] at hfin
        have HF := Lib.hid hfin
        clear ho4 hdd4 hdL hfin hRz hgz q0 q1 q2 q3 q4 q5 hM
        go_wp2_with fail
        go_ret
        exact HF.out
      · obtain ⟨xs3, ho3, hdd3⟩ := id hd3
        obtain ⟨b0, b1, b2, b3, B, E, AB, cB, AE, cE, q0, q1, q2, q3, q4, q5, hsB, hsE, hsz⟩ := hdd3.get (k := kn) hkn
        have c0 : w3.cell? ⟨r, kn * 6, none⟩ = some (.int .i64 b0) := by rw [ho3.cellAt _ (by omega)]; exact q0
        have c1 : w3.cell? ⟨r, kn * 6 + 1, none⟩ = some (.int .i64 b1) := by rw [ho3.cellAt _ (by omega)]; exact q1
        have c2 : w3.cell? ⟨r, kn * 6 + 2, none⟩ = some (.int .i64 b2) := by rw [ho3.cellAt _ (by omega)]; exact q2
        have c3 : w3.cell? ⟨r, kn * 6 + 3, none⟩ = some (.int .i64 b3) := by rw [ho3.cellAt _ (by omega)]; exact q3
        have c4 : w3.cell? ⟨r, kn * 6 + 4, none⟩ = some (.slice AB B.len cB) := by rw [ho3.cellAt _ (by omega)]; exact q4
        have c5 : w3.cell? ⟨r, kn * 6 + 5, none⟩ = some (.slice AE E.len cE) := by rw [ho3.cellAt _ (by omega)]; exact q5
        have ha := World.grownBy_alloc w3 (.cells #[.int .i64 b0, .int .i64 b1, .int .i64 b2, .int .i64 b3, .slice AB B.len cB, .slice AE E.len cE] 36) (some g)
        obtain ⟨xs4, ho4, hdd4⟩ := hd3.kept ha hgl hG
        have hR4 := hR3.alloc (.cells #[.int .i64 b0, .int .i64 b1, .int .i64 b2, .int .i64 b3, .slice AB B.len cB, .slice AE E.len cE] 36)
        have hgw : G w3.heap.size := hG.new _ hg03.size
        have hkeep : ∀ q : Addr, (G q.block ∧ q.block < w3.heap.size ∧ (Value.slice (some ⟨r, 0, none⟩) L.len cap).ownBlock ≠ some q.block) → (w3.alloc (.cells #[.int .i64 b0, .int .i64 b1, .int .i64 b2, .int .i64 b3, .slice AB B.len cB, .slice AE E.len cE] 36)).cell? q = w3.cell? q := fun q hq => World.cell?_of_block (w := w3) (Below.heap_alloc w3 _ _ hq.2.1)
        have hmono : ∀ b, (G b ∧ b < w3.heap.size ∧ (Value.slice (some ⟨r, 0, none⟩) L.len cap).ownBlock ≠ some b) → (G b ∧ b < (w3.alloc (.cells #[.int .i64 b0, .int .i64 b1, .int .i64 b2, .int .i64 b3, .slice AB B.len cB, .slice AE E.len cE] 36)).heap.size ∧ (Value.slice (some ⟨r, 0, none⟩) L.len cap).ownBlock ≠ some b) := fun b hb => ⟨hb.1, by have := hb.2.1; simp; omega, hb.2.2⟩
        have hM := one_new w3 b0 b1 b2 b3 ((hsB.keep hkeep).mono hmono) ((hsE.keep hkeep).mono hmono) ⟨hgw, by simp, by simp [Value.ownBlock]; omega⟩
        obtain ⟨L', hdL, hlL, hsL⟩ := hdd4.setBody hM (k := kn) (j := 4) hkn (.inl rfl)
        obtain ⟨d0, d1, d2, d3, B', E', AB', cB', AE', cE', _, _, _, _, r4, _⟩ := hdd4.get (k := kn) hkn
        have cc : (w3.alloc (.cells #[.int .i64 b0, .int .i64 b1, .int .i64 b2, .int .i64 b3, .slice AB B.len cB, .slice AE E.len cE] 36)).cell? ⟨r, kn * 6 + 4, none⟩ = some (.slice AB' B'.len cB') := by rw [ho4.cellAt _ (by omega)]; exact r4
        have cf := ho4.frozenAt (kn * 6 + 4)
        obtain ⟨hRz, hgz⟩ := store_frame (j := kn * 6 + 4) (u := .slice (some ⟨w3.heap.size, 0, none⟩) 1 1) hR4 (hg03.trans ha) hgl hr0
        have hfin := bent_end (M := 2 * L.size + 20) (n0 := L.len) (OwnB.store (j := kn * 6 + 4) (u := .slice (some ⟨w3.heap.size, 0, none⟩) 1 1) ho4 hlL.symm hdL) hG (by simp [SL.size] at hsL; omega) (by omega) (p := p) (q := p + 1 + 1) (by omega) (by omega) hRz hgz
        rw [hlL, World.setCell_alloc_past _ _ _ _ hr3] at hfin
        have HF := Lib.hid hfin
        clear ho3 hdd3 ho4 hdd4 hdL hfin hRz hgz q0 q1 q2 q3 q4 q5 hM hkeep hmono hd3 r4
        go_wp2_with fail
        go_ret
        exact HF.out
      · go_wp2_with fail
        go_loopw [5] (fun v wr => BendRel G L g (p + 1 + 1) w v wr) (fun v _ => 20 - lenV v)
        case atStart => exact ⟨L, r, cap, rfl, hd3, Nat.le_refl _, by omega, by omega, hR3, hg03⟩
        case round =>
          clear hd3 hR3 hg03
          obtain ⟨L', r', cap', rfl, hd', hl1, hl2, hs', hR', hg'⟩ := hrel
          by_cases hlt : L'.len ≤ 14
          · obtain ⟨xs', ho', hdd'⟩ := id hd'
            have hvb := fun b hb => own_blocks ho' (b := b) hb
            have HV := Lib.hid hvb
            have HD' := Lib.hid hdd'
            clear hvb hdd'
            have hwz := hg'.size
            go_wp2_with (at_builtin; refine wpList_append_at _ rfl (.tmp 80) (.tmp 82) 23 rfl w.heap.size 36 i0 _ 6 80 Tryz.underlying23 hi hz0 hz1 hz2 rfl (by decide) _ _ _ rfl (ho'.alloc _) ⟨wr.heap.size, 0, none⟩ 1 1 [.int .i64 11, .int .i64 0, .int .i64 0, .int .i64 0, .slice none 0 0, .slice none 0 0] rfl rfl (cells_six _ _ _ _ _ _ _ _) (six_one _ _ _ _ _ _ _ _ _ _) (by unfold maxLen; omega) (by omega) (by simp; omega) (by omega) ?_)
            intro v' w4 ho4 hg4 hw4
            obtain ⟨r4, cap4, rfl, hr40, hr41⟩ := own_some ho4 (fun e => by rw [e] at hw4; simp [Value.ownBlock] at hw4)
            have hsn := OwnB.snoc0 HD'.out ho4 hg4 hw4
            have hgr4 : w.grownBy w4 (some g) := grown_own hg' ((World.grownBy_alloc wr _ _).trans hg4) (fun b hb => (HV.out b hb).1)
            have hR4 : Rd w4 g (p + 1 + 1) := hR'.keep fun k hk => (hg4.block k (by simp; omega) (fun e => by have := (HV.out k e.symm).1; omega)).trans (Below.heap_alloc wr _ k (by omega))
            clear ho' ho4 hg4 hw4 hd'
            go_wp2_with fail
            go_roundw
            case rel => exact ⟨L'.app (.cons 11 0 0 0 .nil .nil .nil), r4, cap4, by rw [SL.len_app]; rfl, by rw [SL.len_app]; exact hsn, by rw [SL.len_app]; omega, by rw [SL.len_app]; simp only [SL.len]; omega, by rw [SL.len_app, SL.size_app]; simp only [SL.len, SL.size]; omega, hR4, hgr4⟩
            case measure => simp [lenV]; omega
          · have HF := Lib.hid (bent_end (M := 2 * L.size + 20) (n0 := L.len) hd' hG (by omega) hl1 (p := p) (q := p + 1 + 1) (by omega) (by omega) hR' hg')
            clear hd'
            go_wp2_with fail
            go_ret
            exact HF.out
    · have n0 : z ≠ 0 := by omega
      have n1 : z ≠ 1 := by omega
      have n2 : z ≠ 2 := by omega
      have n3 : z ≠ 3 := by omega
      have n4 : z ≠ 4 := by omega
      have n5 : z ≠ 5 := by omega
      have n6 : z ≠ 6 := by omega
      clear hz
      have HF := Lib.hid (bent_end (M := 2 * L.size + 20) (n0 := L.len) hd3 hG (by omega) (Nat.le_refl _) (p := p) (q := p + 1 + 1) (by omega) (by omega) hR3 hg03)
      clear hd3
      go_wp2_with fail
      go_ret
      exact HF.out
end Go.Proofs.YtnfnjhbaaefbpaaGreatDoor
