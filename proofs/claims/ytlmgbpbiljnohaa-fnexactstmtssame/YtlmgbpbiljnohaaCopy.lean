/- The laws' copies of lists of statements. -/
import Derived.Test.YtlmgbpbiljnohaaSz
import Derived.Test.YtlmgbpbiljnohaaNew
import Derived.Laws.MakeOwn
namespace Go.Proofs.Ytlmgbpbiljnohaa
open Go.ChangeShapes Go.WideShapes Go.ChangeAt Go.RowKit

/-- What a copy of a list is. -/
def CopySays (L : SL) : Prop := ∀ (A : Option Addr) (n c N : Nat) (w : World), Sl w N L A n c → N ≤ w.heap.size →
  Calls Try.prog 25 #[.slice A n c] w fun e w' => ∃ (A' : Option Addr) (c' : Nat), e = .returned (.slice A' L.len c') ∧ SlP w' (Born w w') L A' L.len c' ∧ Below w.heap.size w w'

def OnePost (k x y n : Int) (B E : SL) (w : World) (e : Ending) (w' : World) : Prop :=
  ∃ (A : Option Addr) (c : Nat) (A' : Option Addr) (c' : Nat), e = .returned (.agg #[.int .i64 k, .int .i64 x, .int .i64 y, .int .i64 n, .slice A B.len c, .slice A' E.len c']) ∧ SlP w' (Born w w') B A B.len c ∧ SlP w' (Born w w') E A' E.len c' ∧ Below w.heap.size w w'

set_option maxRecDepth 100000 in
theorem toStmt_of (k x y n : Int) (B E : SL) (hB : CopySays B) (hE : CopySays E) (A A' : Option Addr) (c c' N : Nat) (w : World) (sB : Sl w N B A B.len c) (sE : Sl w N E A' E.len c') (hN : N ≤ w.heap.size) :
    Calls Try.prog 46 #[.agg #[.int .i64 k, .int .i64 x, .int .i64 y, .int .i64 n, .slice A B.len c, .slice A' E.len c']] w (OnePost k x y n B E w) := by
  have HB := Lib.hid hB
  have HE := Lib.hid hE
  clear hB hE
  go_enter Try.func46, Try.ntmps46
  go_wp2_with fail
  refine (HB.out A B.len c N _ (sB.below (by repeat' (first | exact Below.refl _ _ | (refine Below.alloc ?_ (by first | exact hN | (simp; omega)) _)))) (by simp; omega)).mono ?_
  rintro e w1 ⟨A1, c1, rfl, sB1, hb1⟩
  obtain ⟨hz1, hbw1, r0, r1, r2⟩ := blk3 hb1
  have q5 : w1.cell? ⟨w.heap.size, 5, none⟩ = some (.slice A' E.len c') := by rw [row_cell r0]; rfl
  have q4 : w1.cell? ⟨w.heap.size + 1 + 1, 4, none⟩ = some (.slice none 0 0) := by rw [row_cell r2]; rfl
  have qf := row_frozen r2 4
  have sB1' : SlP w1 (fun b => w.heap.size + 3 ≤ b ∧ b < w1.heap.size) B A1 B.len c1 := sB1.mono fun b hb => ⟨by have := hb.1; simp at this; omega, hb.2⟩
  have R1 := Lib.hid r1
  have R2 := Lib.hid r2
  clear hb1 r0 r1 r2 sB1
  go_wp2_with fail
  have hset : Below w.heap.size w (w1.setCell ⟨w.heap.size + 1 + 1, 4, none⟩ (.slice A1 B.len c1)) := hbw1.setCell (by show _ ≤ w.heap.size + 1 + 1; omega) _
  have hz1' : (w1.setCell ⟨w.heap.size + 1 + 1, 4, none⟩ (.slice A1 B.len c1)).heap.size = w1.heap.size := by simp [World.setCell]
  refine (HE.out A' E.len c' N _ (sE.below (hset.mono hN)) (by omega)).mono ?_
  rintro e w2 ⟨A2, c2, rfl, sE2, hb2⟩
  have hz2 := hb2.size
  rw [hz1'] at hz2
  have hbw2 := hset.trans (hb2.mono (by omega))
  have r1 : w2.heap[w.heap.size + 1]? = some (.cells #[.int .i64 0, .int .i64 0, .int .i64 0, .int .i64 0, .slice none 0 0, .slice none 0 0] 29 (0, 0)) := by
    rw [hb2.block _ (by omega), row_other (by omega)]; exact R1.out
  have r2 : w2.heap[w.heap.size + 1 + 1]? = some (.cells #[.int .i64 k, .int .i64 x, .int .i64 y, .int .i64 n, .slice A1 B.len c1, .slice none 0 0] 29 (0, 0)) := by
    rw [hb2.block _ (by omega), row_set R2.out]; rfl
  have sB2 : SlP w2 (fun b => w.heap.size + 3 ≤ b ∧ b < w2.heap.size) B A1 B.len c1 := (sB1'.keep (w' := w2) fun p hp => by
    rw [hb2.cell (by omega), World.cell?_setCell_other _ _ _ _ (fun e => by rw [← e] at hp; have := hp.1; simp at this; omega)]).mono fun b hb => ⟨hb.1, by omega⟩
  have sE2' : SlP w2 (fun b => w.heap.size + 3 ≤ b ∧ b < w2.heap.size) E A2 E.len c2 := sE2.mono fun b hb => ⟨by have := hb.1; omega, hb.2⟩
  clear hb2 hset hz1' sB1' sE2 q5 q4 qf R1 R2
  have c0 : w2.cell? ⟨w.heap.size + 1 + 1, 0, none⟩ = some (.int .i64 k) := by rw [row_cell r2]; rfl
  have c1' : w2.cell? ⟨w.heap.size + 1 + 1, 1, none⟩ = some (.int .i64 x) := by rw [row_cell r2]; rfl
  have c2' : w2.cell? ⟨w.heap.size + 1 + 1, 2, none⟩ = some (.int .i64 y) := by rw [row_cell r2]; rfl
  have c3 : w2.cell? ⟨w.heap.size + 1 + 1, 3, none⟩ = some (.int .i64 n) := by rw [row_cell r2]; rfl
  have c4 : w2.cell? ⟨w.heap.size + 1 + 1, 4, none⟩ = some (.slice A1 B.len c1) := by rw [row_cell r2]; rfl
  have c5 : w2.cell? ⟨w.heap.size + 1 + 1, 5, none⟩ = some (.slice none 0 0) := by rw [row_cell r2]; rfl
  have cf := row_frozen r2 5
  have d0 : w2.cell? ⟨w.heap.size + 1, 0, none⟩ = some (.int .i64 0) := by rw [row_cell r1]; rfl
  have d1 : w2.cell? ⟨w.heap.size + 1, 1, none⟩ = some (.int .i64 0) := by rw [row_cell r1]; rfl
  have d2 : w2.cell? ⟨w.heap.size + 1, 2, none⟩ = some (.int .i64 0) := by rw [row_cell r1]; rfl
  have d3 : w2.cell? ⟨w.heap.size + 1, 3, none⟩ = some (.int .i64 0) := by rw [row_cell r1]; rfl
  have d4 : w2.cell? ⟨w.heap.size + 1, 4, none⟩ = some (.slice none 0 0) := by rw [row_cell r1]; rfl
  have d5 : w2.cell? ⟨w.heap.size + 1, 5, none⟩ = some (.slice none 0 0) := by rw [row_cell r1]; rfl
  have df0 := row_frozen r1 0
  have df1 := row_frozen r1 1
  have df2 := row_frozen r1 2
  have df3 := row_frozen r1 3
  have df4 := row_frozen r1 4
  have df5 := row_frozen r1 5
  have R1 := Lib.hid r1
  have R2 := Lib.hid r2
  clear r1 r2
  go_wp2_with fail
  have n2 : ¬ (fun b => w.heap.size + 3 ≤ b ∧ b < w2.heap.size) (⟨w.heap.size + 1 + 1, 5, none⟩ : Addr).block := fun h => by have := h.1; change w.heap.size + 3 ≤ w.heap.size + 1 + 1 at this; omega
  have n1 : ∀ j, ¬ (fun b => w.heap.size + 3 ≤ b ∧ b < w2.heap.size) (⟨w.heap.size + 1, j, none⟩ : Addr).block := fun j h => by have := h.1; change w.heap.size + 3 ≤ w.heap.size + 1 at this; omega
  have m1 : w.heap.size ≤ w.heap.size + 1 := by omega
  have m2 : w.heap.size ≤ w.heap.size + 1 + 1 := by omega
  refine bodyPost_ret (v := .agg #[.int .i64 k, .int .i64 x, .int .i64 y, .int .i64 n, .slice A1 B.len c1, .slice A2 E.len c2]) (by simp [results, Try.results46, go_sem, *]) rfl ⟨A1, c1, A2, c2, rfl, ?_, ?_, ?_⟩
  · exact ((((((((sB2.set n2 (.slice A2 E.len c2)).set (n1 0) (.int .i64 k)).set (n1 1) (.int .i64 x)).set (n1 2) (.int .i64 y)).set (n1 3) (.int .i64 n)).set (n1 4) (.slice A1 B.len c1)).set (n1 5) (.slice A2 E.len c2)).mono (fun b hb => ⟨by have := hb.1; omega, by simp only [size_set]; exact hb.2⟩))
  · exact ((((((((sE2'.set n2 (.slice A2 E.len c2)).set (n1 0) (.int .i64 k)).set (n1 1) (.int .i64 x)).set (n1 2) (.int .i64 y)).set (n1 3) (.int .i64 n)).set (n1 4) (.slice A1 B.len c1)).set (n1 5) (.slice A2 E.len c2)).mono (fun b hb => ⟨by have := hb.1; omega, by simp only [size_set]; exact hb.2⟩))
  · exact ((((((hbw2.setCell (p := ⟨w.heap.size + 1 + 1, 5, none⟩) m2 _).setCell (p := ⟨w.heap.size + 1, 0, none⟩) m1 _).setCell (p := ⟨w.heap.size + 1, 1, none⟩) m1 _).setCell (p := ⟨w.heap.size + 1, 2, none⟩) m1 _).setCell (p := ⟨w.heap.size + 1, 3, none⟩) m1 _).setCell (p := ⟨w.heap.size + 1, 4, none⟩) m1 _).setCell (p := ⟨w.heap.size + 1, 5, none⟩) m1 _

/-- A round's step: the k-th copy goes into its place. -/
theorem copy_step {L : SL} {w wr w1 : World} {k : Nat} {vs : Array Value} {K x y v : Int} {B E R : SL} {A1 A2 : Option Addr} {c1 c2 : Nat} (hk : k < L.len) (hd : L.drop k = .cons K x y v B E R)
    (hrow : wr.heap[w.heap.size]? = some (.cells vs 29 (0, 0))) (hvs : vs.size = L.len * 6) (hz : w.heap.size < wr.heap.size)
    (hel : ∀ j, j < k → Elem wr (fun b => w.heap.size < b ∧ b < wr.heap.size) w.heap.size (j * 6) (L.drop j)) (hb : Below w.heap.size w wr)
    (sB : SlP w1 (Born wr w1) B A1 B.len c1) (sE : SlP w1 (Born wr w1) E A2 E.len c2) (hb1 : Below wr.heap.size wr w1) :
    ∃ vs', (set6 w1 w.heap.size (k * 6) (.int .i64 K) (.int .i64 x) (.int .i64 y) (.int .i64 v) (.slice A1 B.len c1) (.slice A2 E.len c2)).heap[w.heap.size]? = some (.cells vs' 29 (0, 0)) ∧ vs'.size = L.len * 6 ∧
      w.heap.size < (set6 w1 w.heap.size (k * 6) (.int .i64 K) (.int .i64 x) (.int .i64 y) (.int .i64 v) (.slice A1 B.len c1) (.slice A2 E.len c2)).heap.size ∧
      (∀ j, j < k + 1 → Elem (set6 w1 w.heap.size (k * 6) (.int .i64 K) (.int .i64 x) (.int .i64 y) (.int .i64 v) (.slice A1 B.len c1) (.slice A2 E.len c2)) (fun b => w.heap.size < b ∧ b < (set6 w1 w.heap.size (k * 6) (.int .i64 K) (.int .i64 x) (.int .i64 y) (.int .i64 v) (.slice A1 B.len c1) (.slice A2 E.len c2)).heap.size) w.heap.size (j * 6) (L.drop j)) ∧
      Below w.heap.size w (set6 w1 w.heap.size (k * 6) (.int .i64 K) (.int .i64 x) (.int .i64 y) (.int .i64 v) (.slice A1 B.len c1) (.slice A2 E.len c2)) := by
  have hz1 := hb1.size
  have hrow1 : w1.heap[w.heap.size]? = some (.cells vs 29 (0, 0)) := by rw [hb1.block _ hz]; exact hrow
  have hbw1 := hb.trans (hb1.mono (by omega))
  obtain ⟨vs', hr', hs', hq⟩ := set6_row (o := k * 6) hrow1 (.int .i64 K) (.int .i64 x) (.int .i64 y) (.int .i64 v) (.slice A1 B.len c1) (.slice A2 E.len c2)
  have hsz := set6_size w1 w.heap.size (k * 6) (.int .i64 K) (.int .i64 x) (.int .i64 y) (.int .i64 v) (.slice A1 B.len c1) (.slice A2 E.len c2)
  have hoth : ∀ p : Addr, p.block ≠ w.heap.size → (set6 w1 w.heap.size (k * 6) (.int .i64 K) (.int .i64 x) (.int .i64 y) (.int .i64 v) (.slice A1 B.len c1) (.slice A2 E.len c2)).cell? p = w1.cell? p := fun p hp => set6_other hp
  have hbel := set6_below (o := k * 6) (.int .i64 K) (.int .i64 x) (.int .i64 y) (.int .i64 v) (.slice A1 B.len c1) (.slice A2 E.len c2) hbw1 (Nat.le_refl _)
  generalize set6 w1 w.heap.size (k * 6) (.int .i64 K) (.int .i64 x) (.int .i64 y) (.int .i64 v) (.slice A1 B.len c1) (.slice A2 E.len c2) = w' at *
  refine ⟨vs', hr', by omega, by omega, fun j hj => ?_, hbel⟩
  have hkey : ∀ q, w'.cell? ⟨w.heap.size, q, none⟩ = vs'[q]? := fun q => row_cell hr' q
  by_cases hjk : j = k
  · subst hjk
    rw [hd]
    have hlt : ∀ i, i < 6 → j * 6 + i < vs.size := fun i hi => by rw [hvs]; omega
    have mono : ∀ b, Born wr w1 b → w.heap.size < b ∧ b < w'.heap.size := fun b hb => ⟨by have := hb.1; omega, by have := hb.2; omega⟩
    have keep : ∀ p : Addr, Born wr w1 p.block → w'.cell? p = w1.cell? p := fun p hp => hoth p (by have := hp.1; omega)
    refine ⟨?_, ?_, ?_, ?_, A1, c1, A2, c2, ?_, ?_, (sB.keep keep).mono mono, (sE.keep keep).mono mono⟩
    · rw [hkey, hq, if_pos (by have := hlt 0 (by omega); omega), if_neg (by omega), if_neg (by omega), if_neg (by omega), if_neg (by omega), if_neg (by omega), if_pos rfl]
    · rw [hkey, hq, if_pos (hlt 1 (by omega)), if_neg (by omega), if_neg (by omega), if_neg (by omega), if_neg (by omega), if_pos rfl]
    · rw [hkey, hq, if_pos (hlt 2 (by omega)), if_neg (by omega), if_neg (by omega), if_neg (by omega), if_pos rfl]
    · rw [hkey, hq, if_pos (hlt 3 (by omega)), if_neg (by omega), if_neg (by omega), if_pos rfl]
    · rw [hkey, hq, if_pos (hlt 4 (by omega)), if_neg (by omega), if_pos rfl]
    · rw [hkey, hq, if_pos (hlt 5 (by omega)), if_pos rfl]
  · have hj' : j < k := by omega
    refine ((hel j hj').keep (w' := w') (fun i hi => ?_) (fun p hp => ?_)).mono fun b hb => ⟨hb.1, by have := hb.2; omega⟩
    · rw [hkey, hq, if_pos (by rw [hvs]; omega), if_neg (by omega), if_neg (by omega), if_neg (by omega), if_neg (by omega), if_neg (by omega), if_neg (by omega), row_cell hrow]
    · rw [hoth p (by have := hp.1; omega), hb1.cell hp.2]

/-- At a round's head: the copies of the first k lie in block g. -/
def CopyRel (L : SL) (w : World) (i : Value) (wr : World) : Prop :=
  ∃ (k : Nat) (vs : Array Value), k ≤ L.len ∧ i = .int .i64 k ∧ wr.heap[w.heap.size]? = some (.cells vs 29 (0, 0)) ∧ vs.size = L.len * 6 ∧ w.heap.size < wr.heap.size ∧
    (∀ j, j < k → Elem wr (fun b => w.heap.size < b ∧ b < wr.heap.size) w.heap.size (j * 6) (L.drop j)) ∧ Below w.heap.size w wr

theorem info_Stmt : (Try.prog.info? 29).map (fun i => (i.zero, i.size, i.bytes)) = some (some (.agg #[.int .i64 0, .int .i64 0, .int .i64 0, .int .i64 0, .slice none 0 0, .slice none 0 0]), 6, 80) := by kernel_rfl

theorem make_Stmt (n : Nat) (hn : n ≤ 1048576) (w : World) : (Instr.makeSlice 23 (.int .i64 (n : Int)) (.int .i64 (n : Int))).run Try.prog w =
    .ok (.slice (some ⟨w.heap.size, 0, none⟩) n n) (w.alloc (.cells (madeCells #[.int .i64 0, .int .i64 0, .int .i64 0, .int .i64 0, .slice none 0 0, .slice none 0 0] (n * 6)) 29)) := by
  have hi := info_Stmt
  obtain ⟨i, hi0, hi1⟩ := Option.map_eq_some_iff.1 hi
  simp only [Prod.mk.injEq] at hi1
  obtain ⟨e0, e1, e2⟩ := hi1
  have h := run_make (P := Try.prog) w 23 29 i _ Try.underlying23 hi0 e0 .i64 .i64 (n : Int) (n : Int) (by omega) (by omega) (by rw [e2]; omega) (by omega)
  rw [e1] at h
  simp only [Int.toNat_natCast] at h
  exact h

theorem toStmtS_any (m : Nat) : ∀ L : SL, L.size < m → L.size ≤ 1048576 → CopySays L := by
  induction m with
  | zero => intro L hL; omega
  | succ m ih =>
    intro L hL hS A n c N w hs hN
    have IH := Lib.hid ih
    clear ih
    have hlen : n ≤ L.len := Nat.le_of_eq hs.len
    have hlen' : L.len ≤ n := Nat.le_of_eq hs.len.symm
    have hll := L.len_le
    have hmk := fun W => make_Stmt n (by omega) W
    go_enter Try.func25, Try.ntmps25
    go_wp2_with fail
    go_loopw [4] (fun i wr => CopyRel L w i wr) (fun i _ => n - (intOf i).toNat)
    case atStart =>
      refine ⟨0, madeCells #[.int .i64 0, .int .i64 0, .int .i64 0, .int .i64 0, .slice none 0 0, .slice none 0 0] (n * 6), Nat.zero_le _, rfl, ?_, ?_, by simp, fun j hj => by omega, (Below.refl _ _).alloc (Nat.le_refl _) _⟩
      · show (w.heap.push _)[w.heap.size]? = _
        rw [Array.getElem?_push, if_pos rfl]
      · rw [size_madeCells, hs.len]
    case round =>
      clear hmk
      obtain ⟨k, vs, hk, rfl, hrow, hvs, hzr, hel, hb⟩ := hrel
      have HROW := Lib.hid hrow
      have HEL := Lib.hid hel
      have HVS := Lib.hid hvs
      clear hrow hel hvs
      by_cases hlt : k < n
      · obtain ⟨K, x, y, v, B, E, R, hd⟩ := SL.drop_cons (L := L) (i := k) (by omega)
        have HD := Lib.hid hd
        have s1 := SL.drop_size2 hd
        clear hd
        obtain ⟨a, rfl⟩ := hs.some (by omega)
        have hat := ((hs.at_ a rfl).below (hb.mono hN)).drop k
        rw [HD.out] at hat
        obtain ⟨_, c0, c1, c2, c3, AB, cB, AE, cE, c4, c5, sB, sE, _⟩ := hat.first
        have hsz := hb.size
        go_wp2_with fail
        refine (toStmt_of K x y v B E (IH.out B (by omega) (by omega)) (IH.out E (by omega) (by omega)) AB AE cB cE N wr sB sE (by omega)).mono ?_
        rintro e w1 ⟨A1, c1', A2, c2', rfl, sB1, sE1, hb1⟩
        have hst := copy_step (by omega) HD.out HROW.out HVS.out hzr HEL.out hb sB1 sE1 hb1
        have hrow1 : w1.heap[w.heap.size]? = some (.cells vs 29 (0, 0)) := by rw [hb1.block _ hzr]; exact HROW.out
        have hin : ∀ i, i < 6 → w1.cell? ⟨w.heap.size, k * 6 + i, none⟩ = some (vs[k * 6 + i]!) := fun i hi => by
          have : k * 6 + i < vs.size := by rw [HVS.out]; omega
          rw [row_cell hrow1, getElem!_pos vs _ this, Array.getElem?_eq_getElem this]
        have o0 := hin 0 (by omega)
        have o1 := hin 1 (by omega)
        have o2 := hin 2 (by omega)
        have o3 := hin 3 (by omega)
        have o4 := hin 4 (by omega)
        have o5 := hin 5 (by omega)
        have z0 := row_frozen hrow1 (k * 6)
        have z1 := row_frozen hrow1 (k * 6 + 1)
        have z2 := row_frozen hrow1 (k * 6 + 2)
        have z3 := row_frozen hrow1 (k * 6 + 3)
        have z4 := row_frozen hrow1 (k * 6 + 4)
        have z5 := row_frozen hrow1 (k * 6 + 5)
        have HST := Lib.hid hst
        clear hst hin hrow1
        rw [Nat.add_zero] at o0
        go_wp2_with fail
        go_roundw
        case rel =>
          obtain ⟨vs', a1, a2, a3, a4, a5⟩ := HST.out
          exact ⟨k + 1, vs', by omega, by go_num, a1, a2, a3, a4, a5⟩
        case measure => simp [intOf]; omega
      · go_wp2_with fail
        go_ret
        obtain rfl : k = L.len := by omega
        refine ⟨some ⟨w.heap.size, 0, none⟩, n, ?_, ⟨rfl, by omega, by unfold maxLen; omega, (fun h => by cases h), fun p hp => ?_⟩, hb⟩
        · obtain rfl : n = L.len := by omega
          rfl
        · obtain rfl : p = ⟨w.heap.size, 0, none⟩ := by injection hp with h; exact h.symm
          refine AtP.of_elems ⟨Nat.le_refl _, hzr⟩ fun j hj => ?_
          rw [Nat.zero_add]
          exact (HEL.out j hj).mono fun b hb => ⟨by omega, hb.2⟩

theorem toStmtS (L : SL) (h : L.size ≤ 1048576) : CopySays L := toStmtS_any (L.size + 1) L (by omega) h
theorem toStmt (k x y n : Int) (B E : SL) (hB : B.size ≤ 1048576) (hE : E.size ≤ 1048576) (A A' : Option Addr) (c c' N : Nat) (w : World) (sB : Sl w N B A B.len c) (sE : Sl w N E A' E.len c') (hN : N ≤ w.heap.size) :
    Calls Try.prog 46 #[.agg #[.int .i64 k, .int .i64 x, .int .i64 y, .int .i64 n, .slice A B.len c, .slice A' E.len c']] w (OnePost k x y n B E w) := toStmt_of k x y n B E (toStmtS B hB) (toStmtS E hE) A A' c c' N w sB sE hN
end Go.Proofs.Ytlmgbpbiljnohaa
