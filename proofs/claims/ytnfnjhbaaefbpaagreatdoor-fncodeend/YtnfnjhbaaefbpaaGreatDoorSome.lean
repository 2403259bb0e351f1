/- What the laws draw of chapter 2: as much of a list as is right. -/
import Derived.Test.YtnfnjhbaaefbpaaGreatDoorBentOwn
import Derived.Test.YtnfnjhbaaefbpaaGreatDoorStmtsSpec
namespace Go.Proofs.YtnfnjhbaaefbpaaGreatDoor
open Go.ChangeShapes Go.WideShapes Go.ChangeAt Go.RowKit

/-- Behind the reader. -/
def Past (g : Nat) (w : World) (b : Nat) : Prop := g < b ∧ b < w.heap.size

theorem SlP.past {g g' : Nat} {w w' : World} {L : SL} {A : Option Addr} {n c : Nat} (h : SlP w (Past g' w) L A n c) (hg : w.grownBy w' (some g)) (hle : g ≤ g') : SlP w' (Past g' w') L A n c :=
  (h.keep (grown_keep hg fun b hb => ⟨hb.2, fun e => by have := hb.1; injection e; omega⟩)).mono fun b hb => ⟨hb.1, Nat.lt_of_lt_of_le hb.2 hg.size⟩
theorem SlP.pastB {g : Nat} {w w' : World} {L : SL} {A : Option Addr} {n c : Nat} (h : SlP w (Past g w) L A n c) (hg : Below w.heap.size w w') : SlP w' (Past g w') L A n c :=
  (h.keep fun _ hp => hg.cell hp.2).mono fun _ hb => ⟨hb.1, Nat.lt_of_lt_of_le hb.2 hg.size⟩

theorem grown_below {g : Nat} {w w1 w2 : World} (h : w.grownBy w1 (some g)) (hb : Below w1.heap.size w1 w2) : w.grownBy w2 (some g) :=
  ⟨hb.os.trans h.os, hb.tape.trans h.tape, hb.output.trans h.output, Nat.le_trans h.size hb.size, fun k hk hne => (hb.block k (Nat.lt_of_lt_of_le hk h.size)).trans (h.block k hk hne)⟩

/-- A statement appended to a list that the call owns. -/
theorem OwnB.snoc {G : Nat → Prop} {w wr w2 : World} {v v' : Value} {L : SL} {k x y n : Int} {B E : SL} {A A' : Option Addr} {c c' : Nat} {o : Obj} {xs : List Value}
    (hd : Dec wr (fun b => G b ∧ b < wr.heap.size ∧ v.ownBlock ≠ some b) L xs) (hB : SlP wr (fun b => G b ∧ b < wr.heap.size ∧ v.ownBlock ≠ some b) B A B.len c) (hE : SlP wr (fun b => G b ∧ b < wr.heap.size ∧ v.ownBlock ≠ some b) E A' E.len c')
    (hw2 : w2.ownsRow w.heap.size 36 6 v' (L.len + 1) (xs ++ [.int .i64 k, .int .i64 x, .int .i64 y, .int .i64 n, .slice A B.len c, .slice A' E.len c']))
    (hg2 : (wr.alloc o).grownBy w2 v.ownBlock) (hnew : v'.ownBlock = v.ownBlock ∨ v'.ownBlock = some (wr.heap.size + 1)) : OwnB G w w2 v' (L.app (.cons k x y n B E .nil)) := by
  have hsz : wr.heap.size < w2.heap.size := by have := hg2.size; simp at this; omega
  have hk : ∀ p : Addr, (G p.block ∧ p.block < wr.heap.size ∧ v.ownBlock ≠ some p.block) → w2.cell? p = wr.cell? p := fun p hp => by
    rw [World.cell?_of_block (hg2.block p.block (by have := hp.2.1; simp; omega) (fun e => hp.2.2 e.symm)), World.cell?_of_block (w := wr) (Below.heap_alloc wr o p.block hp.2.1)]
  have hm : ∀ b, (G b ∧ b < wr.heap.size ∧ v.ownBlock ≠ some b) → (G b ∧ b < w2.heap.size ∧ v'.ownBlock ≠ some b) := fun b hb => by
    refine ⟨hb.1, by omega, fun e => ?_⟩
    rcases hnew with h | h
    · rw [h] at e; exact hb.2.2 e
    · rw [h] at e; injection e with e; omega
  exact ⟨_, by rw [SL.len_app]; exact hw2, Dec.app ((hd.keep hk).mono hm) ⟨A, c, A', c', [], rfl, (hB.keep hk).mono hm, (hE.keep hk).mono hm, rfl⟩⟩

theorem num_row1 (g : Nat) (p : Int) (w : World) (vs : Array Value) (t : TypeId) (n b : Nat) (lo hi : Int) (hb : b = w.heap.size) (h : Rd w g p) (hp : 0 ≤ p) (hp' : p ≤ 1000000000000) (hn : vs.size = n) (hl : 1 ≤ n) (hl' : n ≤ 1000000) (hin : intsIn vs lo hi = true) :
    Calls Tryz.prog 56 #[.pointer (some ⟨g, 0, none⟩), .slice (some ⟨b, 0, none⟩) n n] (w.alloc (.cells vs t)) fun e w' => ∃ x : Int, (lo ≤ x ∧ x ≤ hi) ∧ e = .returned (.int .i64 x) ∧ Rd w' g (p + 1) ∧ w.grownBy w' (some g) := by
  subst hb; exact num_row g p w vs t n lo hi h hp hp' hn hl hl' hin

/-- Some list that is right, behind the reader. -/
def SomePost (g : Nat) (p : Int) (w : World) (e : Ending) (w' : World) : Prop :=
  ∃ (L : SL) (a : Addr) (c : Nat) (q : Int), e = .returned (.slice (some a) L.len c) ∧ SlP w' (Born w w') L (some a) L.len c ∧ okP L = true ∧ L.len ≤ 6 ∧ L.size ≤ 2922 ∧ p ≤ q ∧ q ≤ p + 2917 ∧ Rd w' g q ∧ w.grownBy w' (some g)
def SomeRel (g : Nat) (p : Int) (w : World) (v i : Value) (wr : World) : Prop :=
  ∃ (L : SL) (a : Addr) (c : Nat) (q z : Int), v = .slice (some a) L.len c ∧ i = .int .i64 z ∧ 0 ≤ z ∧ L.len + z ≤ 6 ∧ SlP wr (Past (w.heap.size - 1) wr) L (some a) L.len c ∧ okP L = true ∧ L.size ≤ L.len * 487 ∧ p ≤ q ∧ q ≤ p + 1 + (6 - z) * 486 ∧ Rd wr g q ∧ w.grownBy wr (some g)

set_option maxRecDepth 100000 in
set_option maxHeartbeats 4000000 in
theorem some_ (g : Nat) (p : Int) (w : World) (hR : Rd w g p) (hp0 : 0 ≤ p) (hp1 : p ≤ 300000000000) :
    Calls Tryz.prog 30 #[.pointer (some ⟨g, 0, none⟩)] w (SomePost g p w) := by
  have hgl := hR.lt
  obtain ⟨i0, hi, hz0, hz1, hz2⟩ := info_parts info_St
  have ba : w.grownBy (w.alloc (.cells #[] 36)) (some g) := World.grownBy_alloc w _ _
  have hR0 := hR.alloc (.cells #[] 36)
  go_enter Tryz.func30, Tryz.ntmps30
  go_wp2_with fail
  refine (num_row1 g p (w.alloc (.cells #[] 36)) _ _ _ _ 0 6 (by simp) hR0 hp0 (by omega) (by rfl) (by decide) (by decide) (by simp [intsIn])).mono ?_
  rintro e w1 ⟨k, ⟨k0, k1⟩, rfl, hR1, hg1⟩
  have hgw := ba.trans hg1
  have hgp : g ≤ w.heap.size - 1 := by omega
  have hsl : SlP w1 (Past (w.heap.size - 1) w1) .nil (some ⟨w.heap.size, 0, none⟩) SL.nil.len 0 := ⟨rfl, Nat.le_refl _, Nat.zero_le _, fun _ => rfl, fun p hp => trivial⟩
  go_wp2_with fail
  go_loopw [3, 4] (fun v i wr => SomeRel g p w v i wr) (fun _ i _ => (intOf i).toNat)
  case atStart => exact ⟨.nil, _, _, p + 1, k, rfl, rfl, k0, by simp [SL.len]; omega, hsl, rfl, by simp [SL.size], by omega, by omega, hR1, hgw⟩
  case round =>
    clear hR1 hg1 hgw hsl ba hR0
    obtain ⟨L, a, c, q, z, rfl, rfl, z0, z6, hs, hok, hsz, hq0, hq1, hRr, hgr⟩ := hrel
    have hwz := hgr.size
    by_cases hlt : 0 < z
    · have hLl : L.len ≤ 5 := by omega
      have hLs : L.size ≤ 2435 := by omega
      obtain ⟨xs, hdec, hcell, hone⟩ := (hs.at_ a rfl).dec
      have hxl := hdec.length
      have hcell' : ∀ j u, xs[j]? = some u → (wr.alloc (.cells #[] 36)).cell? (a.add j) = some u := fun j u h => by
        have := hcell j u h
        rw [World.cell?_of_block (w := wr) (Below.heap_alloc wr _ _ (World.block_lt_of_cell? _ _ this))]; exact this
      have hown0 : (wr.alloc (.cells #[] 36)).ownsRow wr.heap.size 36 6 (.slice (some ⟨wr.heap.size, 0, none⟩) 0 0) 0 [] := World.ownsRow_lit wr #[] 0 (Nat.le_refl _) (Nat.zero_le _) rfl
      have HC := Lib.hid hcell'
      have HO := Lib.hid hone
      have HX := Lib.hid hxl
      have HD := Lib.hid hdec
      have HS := Lib.hid hs
      clear hcell hcell' hone hxl hdec hs
      go_wp2_with (at_builtin; refine wpList_append_own _ rfl (.tmp 14) (.tmp 15) 23 rfl wr.heap.size 36 i0 _ 6 80 Tryz.underlying23 hi hz0 hz1 hz2 rfl (by decide) _ _ _ rfl hown0 a L.len c xs rfl HX.out HC.out HO.out (by unfold maxLen; omega) (by omega) (by simp) ?_)
      intro v' w1 ho1 hg1 hn1
      obtain ⟨r, cap, rfl, hr0, hr1⟩ := own_some ho1 hn1
      have hg01 : wr.grownBy w1 (some g) := grown_own (World.grownBy_alloc wr (.cells #[] 36) (some g)) hg1 (fun b hb => by simp [Value.ownBlock] at hb; omega)
      have hR1 : Rd w1 g q := (hRr.alloc (.cells #[] 36)).keep fun k hk => hg1.block k (by simp; omega) (fun e => by simp [Value.ownBlock] at e; omega)
      have hG : Reg (fun b => w.heap.size - 1 < b) g wr := ⟨fun b hb => by have : w.heap.size - 1 < b := hb; omega, fun b hb => by show w.heap.size - 1 < b; omega⟩
      have hd1 : OwnB (fun b => w.heap.size - 1 < b) wr w1 (.slice (some ⟨r, 0, none⟩) L.len cap) L := ⟨xs, by simpa using ho1, (HD.out.keep (fun q hq => by
        rw [World.cell?_of_block (hg1.block q.block (by have := hq.2; simp; omega) (fun e => by have := hq.2; simp [Value.ownBlock] at e; omega)), World.cell?_of_block (w := wr) (Below.heap_alloc wr _ _ hq.2)])).mono fun b hb => ⟨hb.1, by have := hg01.size; have := hb.2; omega, by have := hb.2; simp [Value.ownBlock]; omega⟩⟩
      clear ho1 hg1 hn1 hown0
      go_wp2_with fail
      refine (drawStmt 400000000000 (by omega) g q (-1) w1 hR1 (by omega) (by omega)).mono ?_
      rintro e w2 ⟨K, x, y, v, B, E, AB, cB, AE, cE, q', rfl, sB, sE, hsz', hq2, hq3, hR2, hg2⟩
      have hwz2 := hg2.size
      have hwz1 := hg01.size
      obtain ⟨xs2, ho2, hdd2⟩ := hd1.kept hg2 (by omega) hG
      have hm : ∀ b, Born w1 w2 b → (w.heap.size - 1 < b ∧ b < w2.heap.size ∧ (Value.slice (some ⟨r, 0, none⟩) L.len cap).ownBlock ≠ some b) := fun b hb => ⟨by have := hb.1; omega, hb.2, by have := hb.1; simp [Value.ownBlock]; omega⟩
      have sB' := sB.mono hm
      have sE' := sE.mono hm
      have hg02 := hg01.trans hg2
      have HD2 := Lib.hid hdd2
      have HB := Lib.hid sB'
      have HE := Lib.hid sE'
      clear hd1 sB sE hm sB' sE' hdd2 hR1 hg2
      go_wp2_with (at_builtin; refine wpList_append_at _ rfl (.tmp 16) (.tmp 19) 23 rfl wr.heap.size 36 i0 _ 6 80 Tryz.underlying23 hi hz0 hz1 hz2 rfl (by decide) _ _ _ rfl (ho2.alloc _) ⟨w2.heap.size, 0, none⟩ 1 1 [.int .i64 K, .int .i64 x, .int .i64 y, .int .i64 v, .slice AB B.len cB, .slice AE E.len cE] rfl rfl (cells_six _ _ _ _ _ _ _ _) (six_one _ _ _ _ _ _ _ _ _ _) (by unfold maxLen; omega) (by omega) (by simp; omega) (by omega) ?_)
      intro v' w3 ho3 hg3 hw3
      have hsn := OwnB.snoc HD2.out HB.out HE.out ho3 hg3 hw3
      obtain ⟨r3, cap3, rfl, hr30, hr31⟩ := own_some ho3 (fun e => by rw [e] at hw3; simp [Value.ownBlock] at hw3)
      have hgr3 : wr.grownBy w3 (some g) := grown_own hg02 ((World.grownBy_alloc w2 _ _).trans hg3) (fun b hb => by simp [Value.ownBlock] at hb; omega)
      have hR3 : Rd w3 g q' := hR2.keep fun k hk => (hg3.block k (by simp; omega) (fun e => by simp [Value.ownBlock] at e; omega)).trans (Below.heap_alloc w2 _ k (by omega))
      obtain ⟨A3, c3, e3, sl3⟩ := hsn.sl hG
      have hln : (L.app (.cons K x y v B E .nil)).len = L.len + 1 := by rw [SL.len_app]; rfl
      have hss : (L.app (.cons K x y v B E .nil)).size ≤ L.size + 487 := by rw [SL.size_app]; simp only [SL.size]; omega
      generalize hL' : L.app (.cons K x y v B E .nil) = L' at *
      injection e3 with e31 e32 e33
      subst e31 e33
      have sl3' : SlP w3 (Past (w.heap.size - 1) w3) L' (some ⟨r3, 0, none⟩) L'.len cap3 := sl3
      have HS3 := Lib.hid sl3'
      clear ho2 ho3 hg3 hw3 hsn sl3 sl3' hL'
      rw [← hln]
      have hl6 : (L'.len : Int) + (z - 1) ≤ 6 := by omega
      have hs6 : L'.size ≤ L'.len * 487 := by omega
      clear e32 hln
      go_wp2_with fail
      cases hb : okP L'
      · refine (specStmtsOk L' (by omega) _ _ _ w3.heap.size w3 (HS3.out.sl fun b hb => hb.2) (Nat.le_refl _)).mono ?_
        rintro e w4 ⟨rfl, hb4⟩
        rw [hb]
        have hf := HS.out.past (grown_below hgr3 hb4) hgp
        have hR4 : Rd w4 g q' := hR3.below hb4 hR3.lt
        have hg4 := hgr.trans (grown_below hgr3 hb4)
        have HF := Lib.hid hf
        clear hf hb4
        go_wp2_with fail
        go_roundw
        case rel => exact ⟨L, a, c, q', z - 1, rfl, rfl, by omega, by omega, HF.out, hok, hsz, by omega, by omega, hR4, hg4⟩
        case measure => simp [intOf]; omega
      · refine (specStmtsOk L' (by omega) _ _ _ w3.heap.size w3 (HS3.out.sl fun b hb => hb.2) (Nat.le_refl _)).mono ?_
        rintro e w4 ⟨rfl, hb4⟩
        rw [hb]
        have hf := HS3.out.pastB hb4
        have hR4 : Rd w4 g q' := hR3.below hb4 hR3.lt
        have hg4 := hgr.trans (grown_below hgr3 hb4)
        have HF := Lib.hid hf
        clear hf hb4
        go_wp2_with fail
        go_roundw
        case rel => exact ⟨L', _, _, q', z - 1, rfl, rfl, by omega, hl6, HF.out, hb, hs6, by omega, by omega, hR4, hg4⟩
        case measure => simp [intOf]; omega
    · have HA := Lib.hid (show SomePost g p w (.returned (.slice (some a) L.len c)) wr from ⟨L, a, c, q, rfl, hs.mono fun b hb => ⟨by have := hb.1; omega, hb.2⟩, hok, by omega, by omega, hq0, by omega, hRr, hgr⟩)
      clear hs
      go_wp2_with fail
      go_ret
      exact HA.out
end Go.Proofs.YtnfnjhbaaefbpaaGreatDoor
