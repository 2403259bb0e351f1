/- The laws' copies of lists of statements: every new block is a plain row. -/
import Derived.Test.YtlmgbpbiljnohaaCopy
namespace Go.Proofs.Ytlmgbpbiljnohaa
open Go.ChangeShapes Go.WideShapes Go.ChangeAt Go.RowKit

/-- A plain row: cells, nothing frozen. -/
def Pl (w : World) (b : Nat) : Prop := ∃ cs t, w.heap[b]? = some (.cells cs t (0, 0))
/-- Whatever came into being between two worlds is a plain row. -/
def News (w w' : World) : Prop := ∀ b, w.heap.size ≤ b → b < w'.heap.size → Pl w' b

theorem Pl.below {w w' : World} {b : Nat} (h : Pl w b) (hb : Below w.heap.size w w') : Pl w' b := by
  obtain ⟨cs, t, h⟩ := h
  exact ⟨cs, t, (hb.block _ (Array.getElem?_eq_some_iff.1 h).1).trans h⟩
theorem Pl.set {w : World} {b : Nat} (h : Pl w b) (g o : Nat) (v : Value) : Pl (w.setCell ⟨g, o, none⟩ v) b := by
  obtain ⟨cs, t, h⟩ := h
  by_cases e : b = g
  · subst e; exact ⟨_, _, row_set h v⟩
  · exact ⟨cs, t, (row_other e v).trans h⟩
theorem News.refl (w : World) : News w w := fun b h1 h2 => by omega
theorem News.alloc {w w' : World} (h : News w w') (vs : Array Value) (t : TypeId) : News w (w'.alloc (.cells vs t)) := fun b h1 h2 => by
  by_cases e : b = w'.heap.size
  · subst e; exact ⟨vs, t, new_row w' vs t⟩
  · exact (h b h1 (by simp at h2; omega)).below ((Below.refl _ _).alloc (Nat.le_refl _) _)
theorem News.set {w w' : World} (h : News w w') (g o : Nat) (v : Value) : News w (w'.setCell ⟨g, o, none⟩ v) := fun b h1 h2 => (h b h1 (by rw [size_set] at h2; exact h2)).set g o v
theorem News.trans {w w1 w2 : World} (h : News w w1) (k : News w1 w2) (hb : Below w1.heap.size w1 w2) : News w w2 := fun b h1 h2 => by
  by_cases e : b < w1.heap.size
  · exact (h b h1 e).below hb
  · exact k b (by omega) h2
theorem News.drew {w w' : World} (h : News w w') : News w w'.drew := h

/-- What a copy of a list is. -/
def CopySaysN (L : SL) : Prop := ∀ (A : Option Addr) (n c N : Nat) (w : World), Sl w N L A n c → N ≤ w.heap.size →
  Calls Try.prog 25 #[.slice A n c] w fun e w' => ∃ (A' : Option Addr) (c' : Nat), e = .returned (.slice A' L.len c') ∧ SlP w' (Born w w') L A' L.len c' ∧ Below w.heap.size w w' ∧ News w w'

def OnePostN (k x y n : Int) (B E : SL) (w : World) (e : Ending) (w' : World) : Prop :=
  ∃ (A : Option Addr) (c : Nat) (A' : Option Addr) (c' : Nat), e = .returned (.agg #[.int .i64 k, .int .i64 x, .int .i64 y, .int .i64 n, .slice A B.len c, .slice A' E.len c']) ∧ SlP w' (Born w w') B A B.len c ∧ SlP w' (Born w w') E A' E.len c' ∧ Below w.heap.size w w' ∧ News w w'

set_option maxRecDepth 100000 in
theorem toStmt_ofN (k x y n : Int) (B E : SL) (hB : CopySaysN B) (hE : CopySaysN E) (A A' : Option Addr) (c c' N : Nat) (w : World) (sB : Sl w N B A B.len c) (sE : Sl w N E A' E.len c') (hN : N ≤ w.heap.size) :
    Calls Try.prog 46 #[.agg #[.int .i64 k, .int .i64 x, .int .i64 y, .int .i64 n, .slice A B.len c, .slice A' E.len c']] w (OnePostN k x y n B E w) := by
  have HB := Lib.hid hB
  have HE := Lib.hid hE
  clear hB hE
  go_enter Try.func46, Try.ntmps46
  go_wp2_with fail
  refine (HB.out A B.len c N _ (sB.below (by repeat' (first | exact Below.refl _ _ | (refine Below.alloc ?_ (by first | exact hN | (simp; omega)) _)))) (by simp; omega)).mono ?_
  rintro e w1 ⟨A1, c1, rfl, sB1, hb1, hn1⟩
  have N1 := Lib.hid (((((News.refl w).alloc _ _).alloc _ _).alloc _ _).trans hn1 hb1)
  clear hn1
  obtain ⟨hz1, hbw1, r0, r1, r2⟩ := blk3 hb1
  have q5 : w1.cell? ⟨w.heap.size, 5, none⟩ = some (.slice A' E.len c') := by rw [row_cell r0]; rfl
  have q4 : w1.cell? ⟨w.heap.size + 1 + 1, 4, none⟩ = some (.slice none 0 0) := by rw [row_cell r2]; rfl
  have qf := row_frozen r2 4
  have sB1' : SlP w1 (fun b => w.heap.size + 3 ≤ b ∧ b < w1.heap.size) B A1 B.len c1 := sB1.mono fun b hb => ⟨by have := hb.1; simp at this; omega, hb.2⟩
  have R1 := Lib.hid r1
  have R2 := Lib.hid r2
  clear hb1 r0 r1 r2 sB1
  go_wp2_with fail
  have hset : Below w.heap.size w (w1.setCell ⟨w.heap.size + 1 + 1, 4, none⟩ (.slice A1 B.len c1)) := hbw1.setCell (by show _ ≤ w.heap.size + 1 + 1; omega) _
  have hz1' : (w1.setCell ⟨w.heap.size + 1 + 1, 4, none⟩ (.slice A1 B.len c1)).heap.size = w1.heap.size := by simp [World.setCell]
  refine (HE.out A' E.len c' N _ (sE.below (hset.mono hN)) (by omega)).mono ?_
  rintro e w2 ⟨A2, c2, rfl, sE2, hb2, hn2⟩
  have N2 := Lib.hid ((N1.out.set (w.heap.size + 1 + 1) 4 (.slice A1 B.len c1)).trans hn2 hb2)
  clear hn2 N1
  have hz2 := hb2.size
  rw [hz1'] at hz2
  have hbw2 := hset.trans (hb2.mono (by omega))
  have r1 : w2.heap[w.heap.size + 1]? = some (.cells #[.int .i64 0, .int .i64 0, .int .i64 0, .int .i64 0, .slice none 0 0, .slice none 0 0] 29 (0, 0)) := by
    rw [hb2.block _ (by omega), row_other (by omega)]; exact R1.out
  have r2 : w2.heap[w.heap.size + 1 + 1]? = some (.cells #[.int .i64 k, .int .i64 x, .int .i64 y, .int .i64 n, .slice A1 B.len c1, .slice none 0 0] 29 (0, 0)) := by
    rw [hb2.block _ (by omega), row_set R2.out]; rfl
  have sB2 : SlP w2 (fun b => w.heap.size + 3 ≤ b ∧ b < w2.heap.size) B A1 B.len c1 := (sB1'.keep (w' := w2) fun p hp => by
    rw [hb2.cell (by omega), World.cell?_setCell_other _ _ _ _ (fun e => by rw [← e] at hp; have := hp.1; simp at this; omega)]).mono fun b hb => ⟨hb.1, by omega⟩
  have sE2' : SlP w2 (fun b => w.heap.size + 3 ≤ b ∧ b < w2.heap.size) E A2 E.len c2 := sE2.mono fun b hb => ⟨by have := hb.1; omega, hb.2⟩
  clear hb2 hset hz1' sB1' sE2 q5 q4 qf R1 R2
  have c0 : w2.cell? ⟨w.heap.size + 1 + 1, 0, none⟩ = some (.int .i64 k) := by rw [row_cell r2]; rfl
  have c1' : w2.cell? ⟨w.heap.size + 1 + 1, 1, none⟩ = some (.int .i64 x) := by rw [row_cell r2]; rfl
  have c2' : w2.cell? ⟨w.heap.size + 1 + 1, 2, none⟩ = some (.int .i64 y) := by rw [row_cell r2]; rfl
  have c3 : w2.cell? ⟨w.heap.size + 1 + 1, 3, none⟩ = some (.int .i64 n) := by rw [row_cell r2]; rfl
  have c4 : w2.cell? ⟨w.heap.size + 1 + 1, 4, none⟩ = some (.slice A1 B.len c1) := by rw [row_cell r2]; rfl
  have c5 : w2.cell? ⟨w.heap.size + 1 + 1, 5, none⟩ = some (.slice none 0 0) := by rw [row_cell r2]; rfl
  have cf := row_frozen r2 5
  have d0 : w2.cell? ⟨w.heap.size + 1, 0, none⟩ = some (.int .i64 0) := by rw [row_cell r1]; rfl
  have d1 : w2.cell? ⟨w.heap.size + 1, 1, none⟩ = some (.int .i64 0) := by rw [row_cell r1]; rfl
  have d2 : w2.cell? ⟨w.heap.size + 1, 2, none⟩ = some (.int .i64 0) := by rw [row_cell r1]; rfl
  have d3 : w2.cell? ⟨w.heap.size + 1, 3, none⟩ = some (.int .i64 0) := by rw [row_cell r1]; rfl
  have d4 : w2.cell? ⟨w.heap.size + 1, 4, none⟩ = some (.slice none 0 0) := by rw [row_cell r1]; rfl
  have d5 : w2.cell? ⟨w.heap.size + 1, 5, none⟩ = some (.slice none 0 0) := by rw [row_cell r1]; rfl
  have df0 := row_frozen r1 0
  have df1 := row_frozen r1 1
  have df2 := row_frozen r1 2
  have df3 := row_frozen r1 3
  have df4 := row_frozen r1 4
  have df5 := row_frozen r1 5
  have R1 := Lib.hid r1
  have R2 := Lib.hid r2
  clear r1 r2
  go_wp2_with fail
  have n2 : ¬ (fun b => w.heap.size + 3 ≤ b ∧ b < w2.heap.size) (⟨w.heap.size + 1 + 1, 5, none⟩ : Addr).block := fun h => by have := h.1; change w.heap.size + 3 ≤ w.heap.size + 1 + 1 at this; omega
  have n1 : ∀ j, ¬ (fun b => w.heap.size + 3 ≤ b ∧ b < w2.heap.size) (⟨w.heap.size + 1, j, none⟩ : Addr).block := fun j h => by have := h.1; change w.heap.size + 3 ≤ w.heap.size + 1 at this; omega
  have m1 : w.heap.size ≤ w.heap.size + 1 := by omega
  have m2 : w.heap.size ≤ w.heap.size + 1 + 1 := by omega
  refine bodyPost_ret (v := .agg #[.int .i64 k, .int .i64 x, .int .i64 y, .int .i64 n, .slice A1 B.len c1, .slice A2 E.len c2]) (by simp [results, Try.results46, go_sem, *]) rfl ⟨A1, c1, A2, c2, rfl, ?_, ?_, ?_, ?_⟩
  · exact ((((((((sB2.set n2 (.slice A2 E.len c2)).set (n1 0) (.int .i64 k)).set (n1 1) (.int .i64 x)).set (n1 2) (.int .i64 y)).set (n1 3) (.int .i64 n)).set (n1 4) (.slice A1 B.len c1)).set (n1 5) (.slice A2 E.len c2)).mono (fun b hb => ⟨by have := hb.1; omega, by simp only [size_set]; exact hb.2⟩))
  · exact ((((((((sE2'.set n2 (.slice A2 E.len c2)).set (n1 0) (.int .i64 k)).set (n1 1) (.int .i64 x)).set (n1 2) (.int .i64 y)).set (n1 3) (.int .i64 n)).set (n1 4) (.slice A1 B.len c1)).set (n1 5) (.slice A2 E.len c2)).mono (fun b hb => ⟨by have := hb.1; omega, by simp only [size_set]; exact hb.2⟩))
  · exact ((((((hbw2.setCell (p := ⟨w.heap.size + 1 + 1, 5, none⟩) m2 _).setCell (p := ⟨w.heap.size + 1, 0, none⟩) m1 _).setCell (p := ⟨w.heap.size + 1, 1, none⟩) m1 _).setCell (p := ⟨w.heap.size + 1, 2, none⟩) m1 _).setCell (p := ⟨w.heap.size + 1, 3, none⟩) m1 _).setCell (p := ⟨w.heap.size + 1, 4, none⟩) m1 _).setCell (p := ⟨w.heap.size + 1, 5, none⟩) m1 _
  · exact (((((((N2.out.set _ _ _).set _ _ _).set _ _ _).set _ _ _).set _ _ _).set _ _ _).set _ _ _)

/-- At a round's head: the copies of the first k lie in block g. -/
def CopyRelN (L : SL) (w : World) (i : Value) (wr : World) : Prop :=
  ∃ (k : Nat) (vs : Array Value), k ≤ L.len ∧ i = .int .i64 k ∧ wr.heap[w.heap.size]? = some (.cells vs 29 (0, 0)) ∧ vs.size = L.len * 6 ∧ w.heap.size < wr.heap.size ∧
    (∀ j, j < k → Elem wr (fun b => w.heap.size < b ∧ b < wr.heap.size) w.heap.size (j * 6) (L.drop j)) ∧ Below w.heap.size w wr ∧ News w wr

theorem toStmtSN_any (m : Nat) : ∀ L : SL, L.size < m → L.size ≤ 1048576 → CopySaysN L := by
  induction m with
  | zero => intro L hL; omega
  | succ m ih =>
    intro L hL hS A n c N w hs hN
    have IH := Lib.hid ih
    clear ih
    have hlen : n ≤ L.len := Nat.le_of_eq hs.len
    have hlen' : L.len ≤ n := Nat.le_of_eq hs.len.symm
    have hll := L.len_le
    have hmk := fun W => make_Stmt n (by omega) W
    go_enter Try.func25, Try.ntmps25
    go_wp2_with fail
    go_loopw [4] (fun i wr => CopyRelN L w i wr) (fun i _ => n - (intOf i).toNat)
    case atStart =>
      refine ⟨0, madeCells #[.int .i64 0, .int .i64 0, .int .i64 0, .int .i64 0, .slice none 0 0, .slice none 0 0] (n * 6), Nat.zero_le _, rfl, ?_, ?_, by simp, fun j hj => by omega, (Below.refl _ _).alloc (Nat.le_refl _) _, (News.refl w).alloc _ _⟩
      · show (w.heap.push _)[w.heap.size]? = _
        rw [Array.getElem?_push, if_pos rfl]
      · rw [size_madeCells, hs.len]
    case round =>
      clear hmk
      obtain ⟨k, vs, hk, rfl, hrow, hvs, hzr, hel, hb, hnw⟩ := hrel
      have HNW := Lib.hid hnw
      clear hnw
      have HROW := Lib.hid hrow
      have HEL := Lib.hid hel
      have HVS := Lib.hid hvs
      clear hrow hel hvs
      by_cases hlt : k < n
      · obtain ⟨K, x, y, v, B, E, R, hd⟩ := SL.drop_cons (L := L) (i := k) (by omega)
        have HD := Lib.hid hd
        have s1 := SL.drop_size2 hd
        clear hd
        obtain ⟨a, rfl⟩ := hs.some (by omega)
        have hat := ((hs.at_ a rfl).below (hb.mono hN)).drop k
        rw [HD.out] at hat
        obtain ⟨_, c0, c1, c2, c3, AB, cB, AE, cE, c4, c5, sB, sE, _⟩ := hat.first
        have hsz := hb.size
        go_wp2_with fail
        refine (toStmt_ofN K x y v B E (IH.out B (by omega) (by omega)) (IH.out E (by omega) (by omega)) AB AE cB cE N wr sB sE (by omega)).mono ?_
        rintro e w1 ⟨A1, c1', A2, c2', rfl, sB1, sE1, hb1, hn1⟩
        have HN1 := Lib.hid (HNW.out.trans hn1 hb1)
        clear hn1
        have hst := copy_step (by omega) HD.out HROW.out HVS.out hzr HEL.out hb sB1 sE1 hb1
        have hrow1 : w1.heap[w.heap.size]? = some (.cells vs 29 (0, 0)) := by rw [hb1.block _ hzr]; exact HROW.out
        have hin : ∀ i, i < 6 → w1.cell? ⟨w.heap.size, k * 6 + i, none⟩ = some (vs[k * 6 + i]!) := fun i hi => by
          have : k * 6 + i < vs.size := by rw [HVS.out]; omega
          rw [row_cell hrow1, getElem!_pos vs _ this, Array.getElem?_eq_getElem this]
        have o0 := hin 0 (by omega)
        have o1 := hin 1 (by omega)
        have o2 := hin 2 (by omega)
        have o3 := hin 3 (by omega)
        have o4 := hin 4 (by omega)
        have o5 := hin 5 (by omega)
        have z0 := row_frozen hrow1 (k * 6)
        have z1 := row_frozen hrow1 (k * 6 + 1)
        have z2 := row_frozen hrow1 (k * 6 + 2)
        have z3 := row_frozen hrow1 (k * 6 + 3)
        have z4 := row_frozen hrow1 (k * 6 + 4)
        have z5 := row_frozen hrow1 (k * 6 + 5)
        have HST := Lib.hid hst
        clear hst hin hrow1
        rw [Nat.add_zero] at o0
        go_wp2_with fail
        go_roundw
        case rel =>
          obtain ⟨vs', a1, a2, a3, a4, a5⟩ := HST.out
          exact ⟨k + 1, vs', by omega, by go_num, a1, a2, a3, a4, a5, (((((HN1.out.set _ _ _).set _ _ _).set _ _ _).set _ _ _).set _ _ _).set _ _ _⟩
        case measure => simp [intOf]; omega
      · go_wp2_with fail
        go_ret
        obtain rfl : k = L.len := by omega
        refine ⟨some ⟨w.heap.size, 0, none⟩, n, ?_, ⟨rfl, by omega, by unfold maxLen; omega, (fun h => by cases h), fun p hp => ?_⟩, hb, HNW.out⟩
        · obtain rfl : n = L.len := by omega
          rfl
        · obtain rfl : p = ⟨w.heap.size, 0, none⟩ := by injection hp with h; exact h.symm
          refine AtP.of_elems ⟨Nat.le_refl _, hzr⟩ fun j hj => ?_
          rw [Nat.zero_add]
          exact (HEL.out j hj).mono fun b hb => ⟨by omega, hb.2⟩

theorem toStmtSN (L : SL) (h : L.size ≤ 1048576) : CopySaysN L := toStmtSN_any (L.size + 1) L (by omega) h
end Go.Proofs.Ytlmgbpbiljnohaa
