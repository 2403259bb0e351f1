/- The laws' copy of a list of statements: no two of its parts share a block, and all are new. -/
import Derived.Test.YtlmgbpbiljnohaaDoorCopy
import Derived.Test.YtlmgbpbiljnohaaDoorFp
namespace Go.Proofs.YtlmgbpbiljnohaaDoor
open Go.ChangeShapes Go.WideShapes Go.ChangeAt Go.RowKit

def CopyFSays (L : SL) : Prop := ∀ (A : Option Addr) (n c N : Nat) (w : World), Sl w N L A n c → N ≤ w.heap.size →
  Calls Tryd.prog 9 #[.slice A n c] w fun e w' => ∃ (A' : Option Addr) (c' : Nat) (F : List Nat), e = .returned (.slice A' L.len c') ∧ SlF w' L A' c' F ∧ F.Nodup ∧ (∀ d ∈ F, w.heap.size ≤ d ∧ d < w'.heap.size) ∧ Below w.heap.size w w'

def OneFPost (k x y n : Int) (B E : SL) (w : World) (e : Ending) (w' : World) : Prop :=
  ∃ (A : Option Addr) (c : Nat) (A' : Option Addr) (c' : Nat) (FB FE : List Nat), e = .returned (.agg #[.int .i64 k, .int .i64 x, .int .i64 y, .int .i64 n, .slice A B.len c, .slice A' E.len c']) ∧ SlF w' B A c FB ∧ SlF w' E A' c' FE ∧ (FB ++ FE).Nodup ∧ (∀ d ∈ FB ++ FE, w.heap.size + 3 ≤ d ∧ d < w'.heap.size) ∧ Below w.heap.size w w'

set_option maxRecDepth 100000 in
theorem toStmt_ofF (k x y n : Int) (B E : SL) (hB : CopyFSays B) (hE : CopyFSays E) (A A' : Option Addr) (c c' N : Nat) (w : World) (sB : Sl w N B A B.len c) (sE : Sl w N E A' E.len c') (hN : N ≤ w.heap.size) :
    Calls Tryd.prog 21 #[.agg #[.int .i64 k, .int .i64 x, .int .i64 y, .int .i64 n, .slice A B.len c, .slice A' E.len c']] w (OneFPost k x y n B E w) := by
  have HB := Lib.hid hB
  have HE := Lib.hid hE
  clear hB hE
  go_enter Tryd.func21, Tryd.ntmps21
  go_wp2_with fail
  refine (HB.out A B.len c N _ (sB.below (by repeat' (first | exact Below.refl _ _ | (refine Below.alloc ?_ (by first | exact hN | (simp; omega)) _)))) (by simp; omega)).mono ?_
  rintro e w1 ⟨A1, c1, FB, rfl, sB1, nB, rB, hb1⟩
  obtain ⟨hz1, hbw1, r0, r1, r2⟩ := blk3 hb1
  have q5 : w1.cell? ⟨w.heap.size, 5, none⟩ = some (.slice A' E.len c') := by rw [row_cell r0]; rfl
  have q4 : w1.cell? ⟨w.heap.size + 1 + 1, 4, none⟩ = some (.slice none 0 0) := by rw [row_cell r2]; rfl
  have qf := row_frozen r2 4
  have RB := Lib.hid (show ∀ d ∈ FB, w.heap.size + 3 ≤ d ∧ d < w1.heap.size from fun d hd => ⟨by have := (rB d hd).1; simp at this; omega, (rB d hd).2⟩)
  have SB1 := Lib.hid sB1
  have NB := Lib.hid nB
  have R1 := Lib.hid r1
  have R2 := Lib.hid r2
  clear hb1 r0 r1 r2 sB1 rB nB
  go_wp2_with fail
  have hset : Below w.heap.size w (w1.setCell ⟨w.heap.size + 1 + 1, 4, none⟩ (.slice A1 B.len c1)) := hbw1.setCell (by show _ ≤ w.heap.size + 1 + 1; omega) _
  have hz1' : (w1.setCell ⟨w.heap.size + 1 + 1, 4, none⟩ (.slice A1 B.len c1)).heap.size = w1.heap.size := by simp [World.setCell]
  refine (HE.out A' E.len c' N _ (sE.below (hset.mono hN)) (by omega)).mono ?_
  rintro e w2 ⟨A2, c2, FE, rfl, sE2, nE, rE, hb2⟩
  have hz2 := hb2.size
  rw [hz1'] at hz2
  have hbw2 := hset.trans (hb2.mono (by omega))
  have r1 : w2.heap[w.heap.size + 1]? = some (.cells #[.int .i64 0, .int .i64 0, .int .i64 0, .int .i64 0, .slice none 0 0, .slice none 0 0] 44 (0, 0)) := by
    rw [hb2.block _ (by omega), row_other (by omega)]; exact R1.out
  have r2 : w2.heap[w.heap.size + 1 + 1]? = some (.cells #[.int .i64 k, .int .i64 x, .int .i64 y, .int .i64 n, .slice A1 B.len c1, .slice none 0 0] 44 (0, 0)) := by
    rw [hb2.block _ (by omega), row_set R2.out]; rfl
  have SB2 := Lib.hid (SB1.out.keep (w' := w2) fun b hb => (hb2.block b (by rw [hz1']; exact (RB.out b hb).2)).trans (Below.heap_setCell w1 _ _ b (by show b ≠ w.heap.size + 1 + 1; have := (RB.out b hb).1; omega)))
  have SE2 := Lib.hid sE2
  have RE := Lib.hid (show ∀ d ∈ FE, w1.heap.size ≤ d ∧ d < w2.heap.size from fun d hd => ⟨by have := (rE d hd).1; rw [hz1'] at this; exact this, (rE d hd).2⟩)
  have NE := Lib.hid nE
  clear hb2 hset hz1' sE2 q5 q4 qf R1 R2 rE nE SB1
  have c0 : w2.cell? ⟨w.heap.size + 1 + 1, 0, none⟩ = some (.int .i64 k) := by rw [row_cell r2]; rfl
  have c1' : w2.cell? ⟨w.heap.size + 1 + 1, 1, none⟩ = some (.int .i64 x) := by rw [row_cell r2]; rfl
  have c2' : w2.cell? ⟨w.heap.size + 1 + 1, 2, none⟩ = some (.int .i64 y) := by rw [row_cell r2]; rfl
  have c3 : w2.cell? ⟨w.heap.size + 1 + 1, 3, none⟩ = some (.int .i64 n) := by rw [row_cell r2]; rfl
  have c4 : w2.cell? ⟨w.heap.size + 1 + 1, 4, none⟩ = some (.slice A1 B.len c1) := by rw [row_cell r2]; rfl
  have c5 : w2.cell? ⟨w.heap.size + 1 + 1, 5, none⟩ = some (.slice none 0 0) := by rw [row_cell r2]; rfl
  have cf := row_frozen r2 5
  have d0 : w2.cell? ⟨w.heap.size + 1, 0, none⟩ = some (.int .i64 0) := by rw [row_cell r1]; rfl
  have d1 : w2.cell? ⟨w.heap.size + 1, 1, none⟩ = some (.int .i64 0) := by rw [row_cell r1]; rfl
  have d2 : w2.cell? ⟨w.heap.size + 1, 2, none⟩ = some (.int .i64 0) := by rw [row_cell r1]; rfl
  have d3 : w2.cell? ⟨w.heap.size + 1, 3, none⟩ = some (.int .i64 0) := by rw [row_cell r1]; rfl
  have d4 : w2.cell? ⟨w.heap.size + 1, 4, none⟩ = some (.slice none 0 0) := by rw [row_cell r1]; rfl
  have d5 : w2.cell? ⟨w.heap.size + 1, 5, none⟩ = some (.slice none 0 0) := by rw [row_cell r1]; rfl
  have df0 := row_frozen r1 0
  have df1 := row_frozen r1 1
  have df2 := row_frozen r1 2
  have df3 := row_frozen r1 3
  have df4 := row_frozen r1 4
  have df5 := row_frozen r1 5
  clear r1 r2
  go_wp2_with fail
  have m1 : w.heap.size ≤ w.heap.size + 1 := by omega
  have m2 : w.heap.size ≤ w.heap.size + 1 + 1 := by omega
  refine bodyPost_ret (v := .agg #[.int .i64 k, .int .i64 x, .int .i64 y, .int .i64 n, .slice A1 B.len c1, .slice A2 E.len c2]) (by simp [results, Tryd.results21, go_sem, *]) rfl ⟨A1, c1, A2, c2, FB, FE, rfl, ?_, ?_, ?_, ?_, ?_⟩
  · refine SB2.out.keep fun b hb => ?_
    have := (RB.out b hb).1
    have n1 : b ≠ w.heap.size + 1 := by omega
    have n2 : b ≠ w.heap.size + 1 + 1 := by omega
    have e1 : ∀ (W : World) (o : Nat) (u : Value), (W.setCell ⟨w.heap.size + 1, o, none⟩ u).heap[b]? = W.heap[b]? := fun W o u => Below.heap_setCell W ⟨w.heap.size + 1, o, none⟩ u b n1
    have e2 : ∀ (W : World) (o : Nat) (u : Value), (W.setCell ⟨w.heap.size + 1 + 1, o, none⟩ u).heap[b]? = W.heap[b]? := fun W o u => Below.heap_setCell W ⟨w.heap.size + 1 + 1, o, none⟩ u b n2
    rw [e1, e1, e1, e1, e1, e1, e2]
  · refine SE2.out.keep fun b hb => ?_
    have := (RE.out b hb).1
    have n1 : b ≠ w.heap.size + 1 := by omega
    have n2 : b ≠ w.heap.size + 1 + 1 := by omega
    have e1 : ∀ (W : World) (o : Nat) (u : Value), (W.setCell ⟨w.heap.size + 1, o, none⟩ u).heap[b]? = W.heap[b]? := fun W o u => Below.heap_setCell W ⟨w.heap.size + 1, o, none⟩ u b n1
    have e2 : ∀ (W : World) (o : Nat) (u : Value), (W.setCell ⟨w.heap.size + 1 + 1, o, none⟩ u).heap[b]? = W.heap[b]? := fun W o u => Below.heap_setCell W ⟨w.heap.size + 1 + 1, o, none⟩ u b n2
    rw [e1, e1, e1, e1, e1, e1, e2]
  · refine List.nodup_append.2 ⟨NB.out, NE.out, fun a ha b hb e => ?_⟩
    have := (RB.out a ha).2
    have := (RE.out b hb).1
    omega
  · intro d hd
    simp only [size_set]
    rcases List.mem_append.1 hd with h | h
    · have := RB.out d h; omega
    · have := RE.out d h; omega
  · exact ((((((hbw2.setCell (p := ⟨w.heap.size + 1 + 1, 5, none⟩) m2 _).setCell (p := ⟨w.heap.size + 1, 0, none⟩) m1 _).setCell (p := ⟨w.heap.size + 1, 1, none⟩) m1 _).setCell (p := ⟨w.heap.size + 1, 2, none⟩) m1 _).setCell (p := ⟨w.heap.size + 1, 3, none⟩) m1 _).setCell (p := ⟨w.heap.size + 1, 4, none⟩) m1 _).setCell (p := ⟨w.heap.size + 1, 5, none⟩) m1 _

/-- A round's step: the j-th copy goes into its place. -/
theorem copyF_step {P : SL} {w wr w1 : World} {j g m : Nat} {vs : Array Value} {K x y v : Int} {B E : SL} {A1 A2 : Option Addr} {c1 c2 : Nat} {F1 FB FE : List Nat} (hj : P.len = j) (hjm : j < m)
    (hrow : wr.heap[g]? = some (.cells vs 44 (0, 0))) (hvs : vs.size = m * 6) (hg : g = w.heap.size) (hz : g < wr.heap.size)
    (hp : AtF wr P g 0 F1) (hn : F1.Nodup) (hr : ∀ d ∈ F1, g < d ∧ d < wr.heap.size) (hb : Below w.heap.size w wr)
    (sB : SlF w1 B A1 c1 FB) (sE : SlF w1 E A2 c2 FE) (hn2 : (FB ++ FE).Nodup) (hr2 : ∀ d ∈ FB ++ FE, wr.heap.size + 3 ≤ d ∧ d < w1.heap.size) (hb1 : Below wr.heap.size wr w1) :
    ∃ vs', (set6 w1 g (j * 6) (.int .i64 K) (.int .i64 x) (.int .i64 y) (.int .i64 v) (.slice A1 B.len c1) (.slice A2 E.len c2)).heap[g]? = some (.cells vs' 44 (0, 0)) ∧ vs'.size = m * 6 ∧
      g < (set6 w1 g (j * 6) (.int .i64 K) (.int .i64 x) (.int .i64 y) (.int .i64 v) (.slice A1 B.len c1) (.slice A2 E.len c2)).heap.size ∧
      AtF (set6 w1 g (j * 6) (.int .i64 K) (.int .i64 x) (.int .i64 y) (.int .i64 v) (.slice A1 B.len c1) (.slice A2 E.len c2)) (P.plus (.cons K x y v B E .nil)) g 0 (F1 ++ (FB ++ FE)) ∧
      (F1 ++ (FB ++ FE)).Nodup ∧ (∀ d ∈ F1 ++ (FB ++ FE), g < d ∧ d < (set6 w1 g (j * 6) (.int .i64 K) (.int .i64 x) (.int .i64 y) (.int .i64 v) (.slice A1 B.len c1) (.slice A2 E.len c2)).heap.size) ∧
      Below w.heap.size w (set6 w1 g (j * 6) (.int .i64 K) (.int .i64 x) (.int .i64 y) (.int .i64 v) (.slice A1 B.len c1) (.slice A2 E.len c2)) := by
  have hz1 := hb1.size
  have hrow1 : w1.heap[g]? = some (.cells vs 44 (0, 0)) := by rw [hb1.block _ hz]; exact hrow
  have hbw1 := hb.trans (hb1.mono (by omega))
  obtain ⟨vs', hr', hs', hq⟩ := set6_row (o := j * 6) hrow1 (.int .i64 K) (.int .i64 x) (.int .i64 y) (.int .i64 v) (.slice A1 B.len c1) (.slice A2 E.len c2)
  have hsz := set6_size w1 g (j * 6) (.int .i64 K) (.int .i64 x) (.int .i64 y) (.int .i64 v) (.slice A1 B.len c1) (.slice A2 E.len c2)
  have hoth : ∀ b, b ≠ g → (set6 w1 g (j * 6) (.int .i64 K) (.int .i64 x) (.int .i64 y) (.int .i64 v) (.slice A1 B.len c1) (.slice A2 E.len c2)).heap[b]? = w1.heap[b]? := fun b hb => by
    have e1 : ∀ (W : World) (o : Nat) (u : Value), (W.setCell ⟨g, o, none⟩ u).heap[b]? = W.heap[b]? := fun W o u => Below.heap_setCell W ⟨g, o, none⟩ u b hb
    unfold set6
    rw [e1, e1, e1, e1, e1, e1]
  have hbel := set6_below (o := j * 6) (.int .i64 K) (.int .i64 x) (.int .i64 y) (.int .i64 v) (.slice A1 B.len c1) (.slice A2 E.len c2) hbw1 (g := g) (by omega)
  generalize set6 w1 g (j * 6) (.int .i64 K) (.int .i64 x) (.int .i64 y) (.int .i64 v) (.slice A1 B.len c1) (.slice A2 E.len c2) = w' at *
  have hkey : ∀ q, w'.cell? ⟨g, q, none⟩ = vs'[q]? := fun q => row_cell hr' q
  have hlt : ∀ i, i < 6 → j * 6 + i < vs.size := fun i hi => by rw [hvs]; omega
  refine ⟨vs', hr', by omega, by omega, ?_, ?_, ?_, hbel⟩
  · refine (hp.keep (fun i hi => ?_) (fun b hb' => ?_)).join ?_
    · rw [Nat.zero_add]
      refine ⟨?_, (row_frozen hr' i).trans (row_frozen hrow i).symm⟩
      rw [hkey, hq, if_pos (by rw [hvs]; omega), if_neg (by omega), if_neg (by omega), if_neg (by omega), if_neg (by omega), if_neg (by omega), if_neg (by omega), row_cell hrow]
    · have := hr b hb'
      rw [hoth b (by omega), hb1.block b (by omega)]
    · rw [Nat.zero_add, hj]
      refine AtF.cons_iff.2 ⟨?_, ?_, ?_, ?_, ⟨row_frozen hr' _, row_frozen hr' _, row_frozen hr' _, row_frozen hr' _⟩, A1, c1, A2, c2, FB, FE, [], ?_, ?_, ?_, ?_, rfl, by simp⟩
      · rw [hkey, hq, if_pos (by have := hlt 0 (by omega); omega), if_neg (by omega), if_neg (by omega), if_neg (by omega), if_neg (by omega), if_neg (by omega), if_pos rfl]
      · rw [hkey, hq, if_pos (hlt 1 (by omega)), if_neg (by omega), if_neg (by omega), if_neg (by omega), if_neg (by omega), if_pos rfl]
      · rw [hkey, hq, if_pos (hlt 2 (by omega)), if_neg (by omega), if_neg (by omega), if_neg (by omega), if_pos rfl]
      · rw [hkey, hq, if_pos (hlt 3 (by omega)), if_neg (by omega), if_neg (by omega), if_pos rfl]
      · rw [hkey, hq, if_pos (hlt 4 (by omega)), if_neg (by omega), if_pos rfl]
      · rw [hkey, hq, if_pos (hlt 5 (by omega)), if_pos rfl]
      · exact sB.keep fun b hb' => hoth b (by have := (hr2 b (by simp [hb'])).1; omega)
      · exact sE.keep fun b hb' => hoth b (by have := (hr2 b (by simp [hb'])).1; omega)
  · refine List.nodup_append.2 ⟨hn, hn2, fun a ha b hb' e => ?_⟩
    have := (hr a ha).2
    have := (hr2 b hb').1
    omega
  · intro d hd
    rcases List.mem_append.1 hd with h | h
    · have := hr d h; omega
    · have := hr2 d h; omega

set_option maxRecDepth 100000 in
theorem toStmtSF_any (m : Nat) : ∀ L : SL, L.size < m → L.size ≤ 1048576 → CopyFSays L := by
  induction m with
  | zero => intro L hL; omega
  | succ m ih =>
    intro L hL hS A n c N w hs hN
    have IH := Lib.hid ih
    clear ih
    have hlen : n ≤ L.len := Nat.le_of_eq hs.len
    have hlen' : L.len ≤ n := Nat.le_of_eq hs.len.symm
    have hll := L.len_le
    have hmk := fun W => make_Stmt n (by omega) W
    obtain ⟨g, hg⟩ : ∃ g, g = w.heap.size := ⟨_, rfl⟩
    have HG := Lib.hid hg
    go_enter Tryd.func9, Tryd.ntmps9
    go_wp2_with fail
    rw [← HG.out]
    clear hg
    go_loopw [4] (fun i wr => ∃ (j : Nat) (F1 : List Nat) (vs : Array Value), j ≤ L.len ∧ i = .int .i64 j ∧ wr.heap[g]? = some (.cells vs 44 (0, 0)) ∧ vs.size = L.len * 6 ∧ g < wr.heap.size ∧ AtF wr (L.first j) g 0 F1 ∧ F1.Nodup ∧ (∀ d ∈ F1, g < d ∧ d < wr.heap.size) ∧ Below w.heap.size w wr) (fun i _ => n - (intOf i).toNat)
    case atStart =>
      refine ⟨0, [], madeCells #[.int .i64 0, .int .i64 0, .int .i64 0, .int .i64 0, .slice none 0 0, .slice none 0 0] (n * 6), Nat.zero_le _, rfl, ?_, ?_, ?_, by rw [SL.first_zero]; rfl, List.nodup_nil, fun d hd => (by cases hd), (Below.refl _ _).alloc (Nat.le_refl _) _⟩
      · rw [HG.out]; exact new_row w _ _
      · rw [size_madeCells, hs.len]
      · rw [HG.out]; simp
    case round =>
      clear hmk
      obtain ⟨k, F1, vs, hk, rfl, hrow, hvs, hzr, hat1, hnd, hrg, hb⟩ := hrel
      have HROW := Lib.hid hrow
      have HAT := Lib.hid hat1
      have HVS := Lib.hid hvs
      have HND := Lib.hid hnd
      have HRG := Lib.hid hrg
      clear hrow hat1 hvs hnd hrg
      by_cases hlt : k < n
      · obtain ⟨K, x, y, v, B, E, R, hd⟩ := SL.drop_cons (L := L) (i := k) (by omega)
        have HD := Lib.hid hd
        have s1 := SL.drop_size2 hd
        have HF := Lib.hid (SL.first_succ hd)
        clear hd
        obtain ⟨a, rfl⟩ := hs.some (by omega)
        have hat := ((hs.at_ a rfl).below (hb.mono hN)).drop k
        rw [HD.out] at hat
        obtain ⟨_, c0, c1, c2, c3, AB, cB, AE, cE, c4, c5, sB, sE, _⟩ := hat.first
        have hsz := hb.size
        go_wp2_with fail
        refine (toStmt_ofF K x y v B E (IH.out B (by omega) (by omega)) (IH.out E (by omega) (by omega)) AB AE cB cE N wr sB sE (by omega)).mono ?_
        rintro e w1 ⟨A1, c1', A2, c2', FB, FE, rfl, sB1, sE1, hn1, hr1, hb1⟩
        have hst := copyF_step (K := K) (x := x) (y := y) (v := v) (L.first_len k (by omega)) (show k < L.len by omega) HROW.out HVS.out HG.out hzr HAT.out HND.out HRG.out hb sB1 sE1 hn1 hr1 hb1
        have hrow1 : w1.heap[g]? = some (.cells vs 44 (0, 0)) := by rw [hb1.block _ hzr]; exact HROW.out
        have hin : ∀ i, i < 6 → w1.cell? ⟨g, k * 6 + i, none⟩ = some (vs[k * 6 + i]!) := fun i hi => by
          have : k * 6 + i < vs.size := by rw [HVS.out]; omega
          rw [row_cell hrow1, getElem!_pos vs _ this, Array.getElem?_eq_getElem this]
        have o0 := hin 0 (by omega)
        have o1 := hin 1 (by omega)
        have o2 := hin 2 (by omega)
        have o3 := hin 3 (by omega)
        have o4 := hin 4 (by omega)
        have o5 := hin 5 (by omega)
        have z0 := row_frozen hrow1 (k * 6)
        have z1 := row_frozen hrow1 (k * 6 + 1)
        have z2 := row_frozen hrow1 (k * 6 + 2)
        have z3 := row_frozen hrow1 (k * 6 + 3)
        have z4 := row_frozen hrow1 (k * 6 + 4)
        have z5 := row_frozen hrow1 (k * 6 + 5)
        have HST := Lib.hid hst
        clear hst hin hrow1 sB1 sE1 hn1 hr1 hat sB sE c0 c1 c2 c3 c4 c5
        rw [Nat.add_zero] at o0
        go_wp2_with fail
        go_roundw
        case rel =>
          obtain ⟨vs', a1, a2, a3, a4, a5, a6, a7⟩ := HST.out
          exact ⟨k + 1, F1 ++ (FB ++ FE), vs', by omega, by go_num, a1, a2, a3, by rw [HF.out]; exact a4, a5, a6, a7⟩
        case measure => simp [intOf]; omega
      · obtain rfl : k = L.len := by omega
        obtain rfl : n = L.len := by omega
        have H1 := Lib.hid (show AtF wr L g 0 F1 from by have := HAT.out; rw [L.first_all] at this; exact this)
        go_wp2_with fail
        go_ret
        refine ⟨some ⟨g, 0, none⟩, L.len, g :: F1, rfl, ⟨Nat.le_refl _, by unfold maxLen; omega, (fun h => by cases h), fun p hp => ?_⟩, ?_, ?_, hb⟩
        · exact ⟨g, F1, by injection hp with h; exact h.symm, rfl, H1.out⟩
        · exact List.nodup_cons.2 ⟨fun hin => by have := (HRG.out g hin).1; omega, HND.out⟩
        · intro d hd
          have := HG.out
          rcases List.mem_cons.1 hd with rfl | h
          · omega
          · have := HRG.out d h; omega

theorem toStmtSF (L : SL) (h : L.size ≤ 1048576) : CopyFSays L := toStmtSF_any (L.size + 1) L (by omega) h
end Go.Proofs.YtlmgbpbiljnohaaDoor
