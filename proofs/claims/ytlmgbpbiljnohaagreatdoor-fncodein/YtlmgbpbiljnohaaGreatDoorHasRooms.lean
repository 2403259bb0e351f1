/- The program's search of the rooms of code. -/
import Derived.Test.YtlmgbpbiljnohaaGreatDoorPassed
import Derived.Test.YtlmgbpbiljnohaaGreatDoorApp
import Derived.Deep.RegionHeld3
import Derived.Deep.LoopGhost
namespace Go.Proofs.YtlmgbpbiljnohaaGreatDoor
open Go.ChangeShapes Go.WideShapes Go.ChangeAt Go.RowKit

theorem infoBool : (Tryz.prog.info? 4).map (fun i => (i.zero, i.size, i.bytes)) = some (some (.bool false), 1, 1) := by kernel_rfl
theorem infoInt : (Tryz.prog.info? 3).map (fun i => (i.zero, i.size, i.bytes)) = some (some (.int .i64 0), 1, 8) := by kernel_rfl
theorem infoVis : (Tryz.prog.info? 74).map (fun i => (i.zero, i.size, i.bytes)) = some (some (.agg #[.int .i64 0, .int .i64 0]), 2, 16) := by kernel_rfl
theorem makeBools (n : Nat) (hn : n ≤ 60) (w : World) : (Instr.makeSlice 71 (.int .i64 (n : Int)) (.int .i64 (n : Int))).run Tryz.prog w =
    .ok (.slice (some ⟨w.heap.size, 0, none⟩) n n) (w.alloc (.cells (madeCells #[.bool false] n) 4)) := by
  obtain ⟨i, hi0, e0, e1, e2⟩ := info_parts infoBool
  have h := run_make (P := Tryz.prog) w 71 4 i _ Tryz.underlying71 hi0 e0 .i64 .i64 (n : Int) (n : Int) (by omega) (by omega) (by rw [e2]; omega) (by omega)
  rw [e1] at h
  simp only [Int.toNat_natCast, Nat.mul_one] at h
  exact h
theorem makeInts (n : Nat) (hn : n ≤ 60) (w : World) : (Instr.makeSlice 72 (.int .i64 (n : Int)) (.int .i64 (n : Int))).run Tryz.prog w =
    .ok (.slice (some ⟨w.heap.size, 0, none⟩) n n) (w.alloc (.cells (madeCells #[.int .i64 0] n) 3)) := by
  obtain ⟨i, hi0, e0, e1, e2⟩ := info_parts infoInt
  have h := run_make (P := Tryz.prog) w 72 3 i _ Tryz.underlying72 hi0 e0 .i64 .i64 (n : Int) (n : Int) (by omega) (by omega) (by rw [e2]; omega) (by omega)
  rw [e1] at h
  simp only [Int.toNat_natCast, Nat.mul_one] at h
  exact h

/-- Yes and no as cells. -/
def bls (M : List Bool) : List Value := M.map Value.bool
theorem bls_get {M : List Bool} {j : Nat} (h : j < M.length) : (bls M)[j]? = some (.bool (M.getD j false)) := by simp [bls, List.getD, h]
theorem bls_set (M : List Bool) (j : Nat) (x : Bool) : (bls M).set j (.bool x) = bls (M.set j x) := by simp [bls, List.map_set]
theorem madeB (n : Nat) : (madeCells #[.bool false] n).toList = bls (List.replicate n false) := by
  apply List.ext_getElem?
  intro j
  by_cases hj : j < n <;> simp [madeCells, hj, bls, Nat.mod_one]
theorem madeI (n : Nat) : (madeCells #[.int .i64 0] n).toList = ints (List.replicate n 0) := by
  apply List.ext_getElem?
  intro j
  by_cases hj : j < n <;> simp [madeCells, hj, ints, Nat.mod_one]

/-- Visits as numbers. -/
def flatV : List (Nat × Int) → List Int
  | [] => []
  | (v, r) :: t => (v : Int) :: r :: flatV t
theorem flatV_app (V U : List (Nat × Int)) : flatV (V ++ U) = flatV V ++ flatV U := by
  induction V with
  | nil => rfl
  | cons p V ih => obtain ⟨v, r⟩ := p; simp [flatV, ih]
theorem flatV_len (V : List (Nat × Int)) : (flatV V).length = V.length * 2 := by
  induction V with
  | nil => rfl
  | cons p V ih => obtain ⟨v, r⟩ := p; simp [flatV, ih]; omega
theorem own_cut {w : World} {base : Nat} {e : TypeId} {g cap n : Nat} {xs ys : List Value} (h : w.ownsRow base e 2 (.slice (some ⟨g, 0, none⟩) (n + 1) cap) (n + 1) (xs ++ ys)) (hx : xs.length = n * 2) : w.ownsRow base e 2 (.slice (some ⟨g, 0, none⟩) n cap) n xs := by
  obtain ⟨hl, ⟨h0, _⟩ | ⟨g', cap', cur, hv, hb, hr, h1, h2, h3, h4⟩⟩ := h
  · cases h0
  · simp only [Value.slice.injEq, Option.some.injEq, Addr.mk.injEq, and_true, true_and] at hv
    obtain ⟨rfl, rfl⟩ := hv
    refine ⟨hx, .inr ⟨g, cap, cur, rfl, hb, hr, by omega, h2, h3, ?_⟩⟩
    have : cur.toList.take (n * 2) = (cur.toList.take ((n + 1) * 2)).take (n * 2) := by rw [List.take_take, Nat.min_eq_left (by omega)]
    rw [this, h4, ← hx, List.take_left]

theorem own_slc' {w : World} {N z m : Nat} {e : TypeId} {v : Value} {fs : List Value} (ho : w.ownsRow N e z v m fs) : ∃ A c, v = .slice A m c := by
  obtain ⟨_, ⟨rfl, rfl⟩ | ⟨g, cap, cur, rfl, _⟩⟩ := ho
  · exact ⟨_, _, rfl⟩
  · exact ⟨_, _, rfl⟩
theorem own_some' {w : World} {base : Nat} {e : TypeId} {z : Nat} {v : Value} {n : Nat} {xs : List Value} (ho : w.ownsRow base e z v n xs) (h : 0 < n) : ∃ g cap, v = .slice (some ⟨g, 0, none⟩) n cap ∧ n ≤ cap ∧ cap ≤ maxLen := by
  obtain ⟨_, ⟨_, h0⟩ | ⟨g, cap, cur, h, _, _, h1, h2, _⟩⟩ := ho
  · omega
  · exact ⟨g, cap, h, h1, h2⟩
/-- What an op's form passes, wherever the table lies. -/
theorem passOf {w : World} {n g b : Nat} (hf : Forms w n g b) (k : Nat) (h1 : 1 ≤ k) (h2 : k ≤ 13) : ∃ (s : ByteArray) (u0 u1 u2 u3 : Value),
    w.cell? ⟨g, k * 5, none⟩ = some (.string s) ∧ w.cell? ⟨g, k * 5 + 1, none⟩ = some u0 ∧ w.cell? ⟨g, k * 5 + 2, none⟩ = some u1 ∧ w.cell? ⟨g, k * 5 + 3, none⟩ = some u2 ∧ w.cell? ⟨g, k * 5 + 4, none⟩ = some u3 ∧
    ∀ (a b t r : Int) (W : World), (r = -1 ∨ r = 0 ∨ r = 1) → Calls Tryz.prog 43 #[.agg #[.string s, u0, u1, u2, u3], .agg #[.int .i64 k, .int .i64 a, .int .i64 b, .int .i64 t], .int .i64 r] W (PassPost k a r W) := by
  have hk : k = 1 ∨ k = 2 ∨ k = 3 ∨ k = 4 ∨ k = 5 ∨ k = 6 ∨ k = 7 ∨ k = 8 ∨ k = 9 ∨ k = 10 ∨ k = 11 ∨ k = 12 ∨ k = 13 := by omega
  rcases hk with rfl | rfl | rfl | rfl | rfl | rfl | rfl | rfl | rfl | rfl | rfl | rfl | rfl
  · obtain ⟨q0, q1, q2, q3, q4⟩ := fc1 b
    exact ⟨_, _, _, _, _, (hf.cell _).trans q0, (hf.cell _).trans q1, (hf.cell _).trans q2, (hf.cell _).trans q3, (hf.cell _).trans q4, fun a b t r W hr => passed_nil _ _ _ _ 1 a b t r W (by omega)⟩
  · obtain ⟨q0, q1, q2, q3, q4⟩ := fc2 b
    exact ⟨_, _, _, _, _, (hf.cell _).trans q0, (hf.cell _).trans q1, (hf.cell _).trans q2, (hf.cell _).trans q3, (hf.cell _).trans q4, fun a b t r W hr => passed_nil _ _ _ _ 2 a b t r W (by omega)⟩
  · obtain ⟨q0, q1, q2, q3, q4⟩ := fc3 b
    exact ⟨_, _, _, _, _, (hf.cell _).trans q0, (hf.cell _).trans q1, (hf.cell _).trans q2, (hf.cell _).trans q3, (hf.cell _).trans q4, fun a b t r W hr => passed_nil _ _ _ _ 3 a b t r W (by omega)⟩
  · obtain ⟨q0, q1, q2, q3, q4⟩ := fc4 b
    exact ⟨_, _, _, _, _, (hf.cell _).trans q0, (hf.cell _).trans q1, (hf.cell _).trans q2, (hf.cell _).trans q3, (hf.cell _).trans q4, fun a b t r W hr => passed_nil _ _ _ _ 4 a b t r W (by omega)⟩
  · obtain ⟨q0, q1, q2, q3, q4⟩ := fc5 b
    exact ⟨_, _, _, _, _, (hf.cell _).trans q0, (hf.cell _).trans q1, (hf.cell _).trans q2, (hf.cell _).trans q3, (hf.cell _).trans q4, fun a b t r W hr => passed_nil _ _ _ _ 5 a b t r W (by omega)⟩
  · obtain ⟨q0, q1, q2, q3, q4⟩ := fc6 b
    exact ⟨_, _, _, _, _, (hf.cell _).trans q0, (hf.cell _).trans q1, (hf.cell _).trans q2, (hf.cell _).trans q3, (hf.cell _).trans q4, fun a b t r W hr => passed_nil _ _ _ _ 6 a b t r W (by omega)⟩
  · obtain ⟨q0, q1, q2, q3, q4⟩ := fc7 b
    exact ⟨_, _, _, _, _, (hf.cell _).trans q0, (hf.cell _).trans q1, (hf.cell _).trans q2, (hf.cell _).trans q3, (hf.cell _).trans q4, fun a b t r W hr => passed_nil _ _ _ _ 7 a b t r W (by omega)⟩
  · obtain ⟨q0, q1, q2, q3, q4⟩ := fc8 b
    exact ⟨_, _, _, _, _, (hf.cell _).trans q0, (hf.cell _).trans q1, (hf.cell _).trans q2, (hf.cell _).trans q3, (hf.cell _).trans q4, fun a b t r W hr => passed_passEnter _ _ _ _ a b t r W hr⟩
  · obtain ⟨q0, q1, q2, q3, q4⟩ := fc9 b
    exact ⟨_, _, _, _, _, (hf.cell _).trans q0, (hf.cell _).trans q1, (hf.cell _).trans q2, (hf.cell _).trans q3, (hf.cell _).trans q4, fun a b t r W hr => passed_passLeave _ _ _ _ a b t r W hr⟩
  · obtain ⟨q0, q1, q2, q3, q4⟩ := fc10 b
    exact ⟨_, _, _, _, _, (hf.cell _).trans q0, (hf.cell _).trans q1, (hf.cell _).trans q2, (hf.cell _).trans q3, (hf.cell _).trans q4, fun a b t r W hr => passed_passWait _ _ _ _ a b t r W hr⟩
  · obtain ⟨q0, q1, q2, q3, q4⟩ := fc11 b
    exact ⟨_, _, _, _, _, (hf.cell _).trans q0, (hf.cell _).trans q1, (hf.cell _).trans q2, (hf.cell _).trans q3, (hf.cell _).trans q4, fun a b t r W hr => passed_nil _ _ _ _ 11 a b t r W (by omega)⟩
  · obtain ⟨q0, q1, q2, q3, q4⟩ := fc12 b
    exact ⟨_, _, _, _, _, (hf.cell _).trans q0, (hf.cell _).trans q1, (hf.cell _).trans q2, (hf.cell _).trans q3, (hf.cell _).trans q4, fun a b t r W hr => passed_nil _ _ _ _ 12 a b t r W (by omega)⟩
  · obtain ⟨q0, q1, q2, q3, q4⟩ := fc13 b
    exact ⟨_, _, _, _, _, (hf.cell _).trans q0, (hf.cell _).trans q1, (hf.cell _).trans q2, (hf.cell _).trans q3, (hf.cell _).trans q4, fun a b t r W hr => passed_passEnd _ _ _ _ a b t r W hr⟩

/-- While the visits that follow are laid. -/
def PushRel (w : World) (n gm gr : Nat) (M : List Bool) (R : List Int) (V : List (Nat × Int)) (N : List Nat) (z : Int) (B : Nat) (vN lv i : Value) (wr : World) : Prop :=
  ∃ q : Nat, i = .int .i64 q ∧ q ≤ N.length ∧ wr.ownsRow w.heap.size 4 1 (.slice (some ⟨gm, 0, none⟩) n n) n (bls M) ∧ wr.ownsRow w.heap.size 3 1 (.slice (some ⟨gr, 0, none⟩) n n) n (ints R) ∧
    wr.ownsRow w.heap.size 74 2 lv (V.length + q) (ints (flatV (V ++ (N.take q).map fun j => (j, z)))) ∧ wr.ownsRow B 3 1 vN N.length (ints (N.map fun (j : Nat) => (j : Int))) ∧
    lv.ownBlock ≠ some gm ∧ lv.ownBlock ≠ some gr ∧ (∀ b, vN.ownBlock = some b → lv.ownBlock ≠ some b) ∧ Below w.heap.size w wr

/-- At a round's head. -/
def LeftRel (xs : List Int) (n : Nat) (w : World) (gm gr : Nat) (k : Nat) (lv : Value) (wr : World) : Prop :=
  ∃ (M : List Bool) (R : List Int) (V : List (Nat × Int)), k = 3 * unm M + V.length ∧ k ≤ 3 * n + 1 ∧ Dfs xs n M R V ∧ wr.ownsRow w.heap.size 4 1 (.slice (some ⟨gm, 0, none⟩) n n) n (bls M) ∧ wr.ownsRow w.heap.size 3 1 (.slice (some ⟨gr, 0, none⟩) n n) n (ints R) ∧
    wr.ownsRow w.heap.size 74 2 lv V.length (ints (flatV V)) ∧ lv.ownBlock ≠ some gm ∧ lv.ownBlock ≠ some gr ∧ Below w.heap.size w wr

set_option maxRecDepth 100000 in
set_option maxHeartbeats 4000000 in
theorem hasRooms {xs : List Int} {A : Option Addr} {n c g b : Nat} {S : Nat → Prop} {w : World} (hs : Fl w S 4 xs A n c) (hr : Right xs n) (hf : Forms w n g b) :
    Calls Tryz.prog 21 #[.slice A n c, .pointer (some ⟨g, 0, none⟩)] w fun e w' => e = .returned (.bool (roomsB xs n)) ∧ Below w.heap.size w w' := by
  have hn60 := hr.hi
  have hn1 := hr.lo
  have hmb := fun W => makeBools n hn60 W
  have hmi := fun W => makeInts n hn60 W
  have HR := Lib.hid hr
  have HF := Lib.hid hf
  clear hr hf
  go_enter Tryz.func21, Tryz.ntmps21
  go_wp2_with fail
  go_loopg [7] (3 * n + 1) (fun k lv wr => LeftRel xs n w w.heap.size (w.heap.size + 1) k lv wr)
  case atStart =>
    have o1 := World.ownsRow_lit (base := w.heap.size) (e := 4) (size := 1) w (madeCells #[.bool false] n) n (Nat.le_refl _) (by unfold maxLen; omega) (by rw [size_madeCells]; omega)
    rw [madeB] at o1
    have o2 := World.ownsRow_lit (base := w.heap.size) (e := 3) (size := 1) (w.alloc (.cells (madeCells #[.bool false] n) 4)) (madeCells #[.int .i64 0] n) n (by simp) (by unfold maxLen; omega) (by rw [size_madeCells]; omega)
    rw [madeI, World.size_alloc] at o2
    have o3 := World.ownsRow_lit (base := w.heap.size) (e := 74) (size := 2) ((w.alloc (.cells (madeCells #[.bool false] n) 4)).alloc (.cells (madeCells #[.int .i64 0] n) 3)) #[.int .i64 0, .int .i64 (-1)] 1 (by simp; omega) (by unfold maxLen; omega) rfl
    rw [World.size_alloc, World.size_alloc] at o3
    exact ⟨_, _, _, by rw [unm_rep]; simp, Nat.le_refl _, Dfs.start HR.out, (o1.alloc _).alloc _, o2.alloc _, o3, by simp [Value.ownBlock]; omega, by simp [Value.ownBlock], (((Below.refl _ _).alloc (Nat.le_refl _) _).alloc (by simp) _).alloc (by simp; omega) _⟩
  case round =>
    clear hmb hmi
    obtain ⟨M, R, V, rfl, hk, dfs, oM, oR, oL, nM, nR, hb⟩ := hrel
    have hsz := hb.size
    have hML := dfs.mlen
    have hRL := dfs.rlen
    have hcat : V = [] ∨ ∃ V' p, V = V' ++ [p] := by
      rcases List.eq_nil_or_concat V with h | ⟨V', p, h⟩
      · exact .inl h
      · exact .inr ⟨V', p, by rw [h, List.concat_eq_append]⟩
    rcases hcat with rfl | ⟨V, ⟨v, r⟩, rfl⟩
    · have hend := dfs.end HR.out
      have HE := Lib.hid hend
      obtain ⟨AL, cL, hlv⟩ := own_slc' oL
      subst hlv
      clear hend dfs oM oR oL
      simp only [List.length_nil] at *
      go_wp2_with fail
      go_ret
      exact ⟨by rw [HE.out]; rfl, hb⟩
    · obtain ⟨gl, cap, rfl, hc1, hc2⟩ := own_some' oL (by simp)
      have hlen : (V ++ [(v, r)]).length = V.length + 1 := by simp
      obtain ⟨v1, v2, v3, v4⟩ := dfs.vis (v, r) (by simp)
      simp only at v1 v2 v3 v4
      rw [hlen, flatV_app, ints_app] at oL
      have hfl : (ints (flatV V)).length = V.length * 2 := by rw [ints_len, flatV_len]
      have q0 : wr.cell? ⟨gl, V.length * 2, none⟩ = some (.int .i64 v) := by
        rw [oL.cellAt (V.length * 2) (by omega), List.getElem?_append_right (by omega), hfl, Nat.sub_self]; rfl
      have q1 : wr.cell? ⟨gl, V.length * 2 + 1, none⟩ = some (.int .i64 r) := by
        rw [oL.cellAt (V.length * 2 + 1) (by omega), List.getElem?_append_right (by omega), hfl, show V.length * 2 + 1 - V.length * 2 = 1 from by omega]; rfl
      have oL' := own_cut oL hfl
      have m0 := oM.cellAt v (by omega)
      rw [bls_get (by omega)] at m0
      have r0 := oR.cellAt v (by omega)
      rw [ints_get (by omega)] at r0
      have hgl := own_at oL (b := gl) rfl
      have hgm := own_at oM (b := w.heap.size) rfl
      have hgr := own_at oR (b := w.heap.size + 1) rfl
      rw [hlen] at hk hc1 ⊢
      unfold maxLen at hc2
      have DF := Lib.hid dfs
      have OM := Lib.hid oM
      have OR := Lib.hid oR
      have OL := Lib.hid oL'
      clear dfs oM oR oL oL' hfl
      generalize hm : V.length = m at *
      have g0 : (0 : Int) ≤ (m : Int) := by omega
      have g1 : (m : Int) < (m : Int) + 1 := by omega
      cases hmet : M.getD v false
      · rw [hmet] at m0
        have zm := OM.out.frozenAt v
        have zr := OR.out.frozenAt v
        obtain ⟨a, rfl⟩ := hs.some (by omega)
        obtain ⟨c0, c1, c2, c3⟩ := (hs.later hb).four v v1
        have HMET := Lib.hid hmet
        clear hmet
        generalize hy : R.getD v 0 = y at r0
        clear hy
        go_wp2_with fail
        have s1 := OM.out.stored v (.bool true)
        rw [bls_set] at s1
        have oR1 := own_block OR.out (w' := wr.setCell ⟨w.heap.size, v, none⟩ (.bool true)) fun bb hb' => s1.2.block bb (own_at OR.out hb').2 (fun e => by simp only [Value.ownBlock, Option.some.injEq] at hb' e; omega)
        have s2 := oR1.stored v (.int .i64 r)
        rw [ints_set] at s2
        have z12 : (wr.setCell ⟨w.heap.size, v, none⟩ (.bool true)).heap.size = wr.heap.size := by simp
        have oM2 := own_block s1.1 (w' := (wr.setCell ⟨w.heap.size, v, none⟩ (.bool true)).setCell ⟨w.heap.size + 1, v, none⟩ (.int .i64 r)) fun bb hb' => s2.2.block bb (own_at s1.1 hb').2 (fun e => by simp only [Value.ownBlock, Option.some.injEq] at hb' e; omega)
        have oL1 := own_block OL.out (w' := wr.setCell ⟨w.heap.size, v, none⟩ (.bool true)) fun bb hb' => s1.2.block bb (own_at OL.out hb').2 (fun e => by simp only [Value.ownBlock, Option.some.injEq] at hb' e; exact nM (by simp only [Value.ownBlock]; rw [hb', e]))
        have oL2 := own_block oL1 (w' := (wr.setCell ⟨w.heap.size, v, none⟩ (.bool true)).setCell ⟨w.heap.size + 1, v, none⟩ (.int .i64 r)) fun bb hb' => s2.2.block bb (own_at oL1 hb').2 (fun e => by simp only [Value.ownBlock, Option.some.injEq] at hb' e; exact nR (by simp only [Value.ownBlock]; rw [hb', e]))
        have bS : Below w.heap.size w ((wr.setCell ⟨w.heap.size, v, none⟩ (.bool true)).setCell ⟨w.heap.size + 1, v, none⟩ (.int .i64 r)) := (hb.setCell (p := ⟨w.heap.size, v, none⟩) (Nat.le_refl _) _).setCell (p := ⟨w.heap.size + 1, v, none⟩) (by show w.heap.size ≤ w.heap.size + 1; omega) _
        have zS : ((wr.setCell ⟨w.heap.size, v, none⟩ (.bool true)).setCell ⟨w.heap.size + 1, v, none⟩ (.int .i64 r)).heap.size = wr.heap.size := by simp
        have HO := Lib.hid (And.intro oM2 (And.intro s2.1 (And.intro oL2 bS)))
        have HZ := Lib.hid zS
        clear s1 oR1 s2 z12 oM2 oL1 oL2 bS zS
        go_region
        obtain ⟨oM2, oR2, oL2, bS⟩ := HO.out
        have zS := HZ.out
        clear HO HZ m0 r0 zm zr q0 q1 c0 c1 c2 c3
        generalize (wr.setCell ⟨w.heap.size, v, none⟩ (.bool true)).setCell ⟨w.heap.size + 1, v, none⟩ (.int .i64 r) = wS at *
        have bD : Below wS.heap.size wS ((wS.alloc (.cells #[.int .i64 v, .int .i64 r] 74)).drew) := ((Below.refl _ _).alloc (Nat.le_refl _) _).drew
        have nr : ((wS.alloc (.cells #[.int .i64 v, .int .i64 r] 74)).drew).heap[wS.heap.size]? = some (.cells #[.int .i64 v, .int .i64 r] 74 (0, 0)) := (MapKept.heap_alloc wS (.cells #[.int .i64 v, .int .i64 r] 74)).1
        have zD : ((wS.alloc (.cells #[.int .i64 v, .int .i64 r] 74)).drew).heap.size = wS.heap.size + 1 := by show (wS.alloc _).heap.size = _; simp
        generalize (wS.alloc (.cells #[.int .i64 v, .int .i64 r] 74)).drew = wD at *
        have oM3 := own_below oM2 bD
        have oR3 := own_below oR2 bD
        have oL3 := own_below oL2 bD
        have b3 : Below w.heap.size w wD := bS.trans (bD.mono (by omega))
        rw [zS] at nr zD
        have i0 : wD.cell? ⟨wr.heap.size, 0, none⟩ = some (.int .i64 v) := by simp [World.cell?, nr]
        have i1 : wD.cell? ⟨wr.heap.size, 1, none⟩ = some (.int .i64 r) := by simp [World.cell?, nr]
        obtain ⟨c0, c1, c2, c3⟩ := (hs.later b3).four v v1
        have HO3 := Lib.hid (And.intro oM3 (And.intro oR3 (And.intro oL3 b3)))
        clear nr oM2 oR2 oL2 oM3 oR3 oL3 bS bD
        obtain ⟨k, hk0⟩ : ∃ k : Nat, xs.getD (v * 4) 0 = (k : Int) := ⟨(xs.getD (v * 4) 0).toNat, by have : opC xs v = xs.getD (v * 4) 0 := rfl; have := HR.out.op v1; omega⟩
        have hk1 : 1 ≤ k ∧ k ≤ 13 := by have : opC xs v = xs.getD (v * 4) 0 := rfl; have := HR.out.op v1; omega
        have hfD : Forms wD n g b := HF.out.below b3 (by have := (Array.getElem?_eq_some_iff.1 HF.out.1).1; exact this) HF.out.2.2
        obtain ⟨s, u0, u1, u2, u3, p0, p1, p2, p3, p4, hps⟩ := passOf hfD k hk1.1 hk1.2
        have hgD : g < wD.heap.size := (Array.getElem?_eq_some_iff.1 hfD.1).1
        have hrv : r = -1 ∨ r = 0 ∨ r = 1 := by omega
        have hheld : heldX xs v r = heldO (k : Int) (xs.getD (v * 4 + 1) 0) r := by rw [← hk0]; rfl
        have hfol := fun W => followers HR.out v v1 W
        rw [hk0] at c0 hfol
        have hps' := fun W => hps (xs.getD (v * 4 + 1) 0) (xs.getD (v * 4 + 2) 0) (xs.getD (v * 4 + 3) 0) r W hrv
        generalize xs.getD (v * 4 + 1) 0 = x1 at c1 hps' hheld hfol
        generalize xs.getD (v * 4 + 2) 0 = x2 at c2 hps' hfol
        generalize xs.getD (v * 4 + 3) 0 = x3 at c3 hps' hfol
        have HPS := Lib.hid hps'
        have HFOL := Lib.hid hfol
        have HHELD := Lib.hid hheld
        have hk14 : (k : Int) < 14 := by omega
        have hk00 : (0 : Int) ≤ (k : Int) := by omega
        clear hps hps' hfol hheld hfD hk0
        go_wp2_with fail
        have nr := (MapKept.heap_alloc wD (.cells #[.int .i64 k, .int .i64 x1, .int .i64 x2, .int .i64 x3] 32)).1
        have bI : Below wD.heap.size wD (wD.alloc (.cells #[.int .i64 k, .int .i64 x1, .int .i64 x2, .int .i64 x3] 32)) := (Below.refl _ _).alloc (Nat.le_refl _) _
        generalize hwI : wD.alloc (.cells #[.int .i64 k, .int .i64 x1, .int .i64 x2, .int .i64 x3] 32) = wI at *
        have zI : wI.heap.size = wD.heap.size + 1 := by rw [← hwI]; simp
        clear hwI c0 c1 c2 c3
        rw [zD] at nr
        have j0 : wI.cell? ⟨wr.heap.size + 1, 0, none⟩ = some (.int .i64 k) := by simp [World.cell?, nr]
        have j1 : wI.cell? ⟨wr.heap.size + 1, 1, none⟩ = some (.int .i64 x1) := by simp [World.cell?, nr]
        have j2 : wI.cell? ⟨wr.heap.size + 1, 2, none⟩ = some (.int .i64 x2) := by simp [World.cell?, nr]
        have j3 : wI.cell? ⟨wr.heap.size + 1, 3, none⟩ = some (.int .i64 x3) := by simp [World.cell?, nr]
        have hcI : ∀ (bb o : Nat), bb < wD.heap.size → wI.cell? ⟨bb, o, none⟩ = wD.cell? ⟨bb, o, none⟩ := fun bb o h => bI.cell (p := ⟨bb, o, none⟩) h
        rw [← hcI g _ hgD] at p0 p1 p2 p3 p4
        rw [← hcI _ _ (by omega)] at i0 i1
        have ks : ∀ W, Below wI.heap.size wI W → (W.cell? ⟨wr.heap.size + 1, 0, none⟩ = some (.int .i64 k) ∧ W.cell? ⟨wr.heap.size + 1, 1, none⟩ = some (.int .i64 x1) ∧ W.cell? ⟨wr.heap.size + 1, 2, none⟩ = some (.int .i64 x2) ∧ W.cell? ⟨wr.heap.size + 1, 3, none⟩ = some (.int .i64 x3) ∧
            W.cell? ⟨g, k * 5, none⟩ = some (.string s) ∧ W.cell? ⟨g, k * 5 + 1, none⟩ = some u0 ∧ W.cell? ⟨g, k * 5 + 2, none⟩ = some u1 ∧ W.cell? ⟨g, k * 5 + 3, none⟩ = some u2 ∧ W.cell? ⟨g, k * 5 + 4, none⟩ = some u3 ∧ W.cell? ⟨wr.heap.size, 0, none⟩ = some (.int .i64 v) ∧ W.cell? ⟨wr.heap.size, 1, none⟩ = some (.int .i64 r) ∧ Below wI.heap.size wI W) := fun W hW => by
          have h : ∀ (bb o : Nat), bb < wI.heap.size → W.cell? ⟨bb, o, none⟩ = wI.cell? ⟨bb, o, none⟩ := fun bb o h => hW.cell (p := ⟨bb, o, none⟩) h
          exact ⟨(h _ _ (by omega)).trans j0, (h _ _ (by omega)).trans j1, (h _ _ (by omega)).trans j2, (h _ _ (by omega)).trans j3, (h _ _ (by omega)).trans p0, (h _ _ (by omega)).trans p1, (h _ _ (by omega)).trans p2, (h _ _ (by omega)).trans p3, (h _ _ (by omega)).trans p4, (h _ _ (by omega)).trans i0, (h _ _ (by omega)).trans i1, hW⟩
        have KS := Lib.hid ks
        clear ks nr hcI
        go_region_held3 (fun W => W.cell? ⟨wr.heap.size + 1, 0, none⟩ = some (.int .i64 k) ∧ W.cell? ⟨wr.heap.size + 1, 1, none⟩ = some (.int .i64 x1) ∧ W.cell? ⟨wr.heap.size + 1, 2, none⟩ = some (.int .i64 x2) ∧ W.cell? ⟨wr.heap.size + 1, 3, none⟩ = some (.int .i64 x3) ∧
            W.cell? ⟨g, k * 5, none⟩ = some (.string s) ∧ W.cell? ⟨g, k * 5 + 1, none⟩ = some u0 ∧ W.cell? ⟨g, k * 5 + 2, none⟩ = some u1 ∧ W.cell? ⟨g, k * 5 + 3, none⟩ = some u2 ∧ W.cell? ⟨g, k * 5 + 4, none⟩ = some u3 ∧ W.cell? ⟨wr.heap.size, 0, none⟩ = some (.int .i64 v) ∧ W.cell? ⟨wr.heap.size, 1, none⟩ = some (.int .i64 r) ∧ Below wI.heap.size wI W)
          (first | exact KS.out _ (by assumption) | exact KS.out _ (Below.refl _ _) | exact KS.out _ (Below.refl _ _).drew)
          (first
            | (go_at_call 43; refine (HPS.out _).mono ?_; rintro e w1 ⟨⟨z, rfl, hz⟩, hb1⟩
               have hb1' : Below wI.heap.size wI w1 := (Below.refl wI.heap.size wI).drew.trans hb1))
        obtain ⟨k0, k1, k2, k3, _, _, _, _, _, k4, k5, _⟩ := KS.out w1 hb1'
        rw [← HHELD.out] at hz ⊢
        have z1 := hb1'.size
        have bw1 : Below wD.heap.size wD w1 := bI.trans (hb1'.mono (by omega))
        obtain ⟨oM3, oR3, oL3, _⟩ := HO3.out
        have oM4 := own_below oM3 bw1
        have oR4 := own_below oR3 bw1
        have oL4 := own_below oL3 bw1
        have b4 : Below w.heap.size w w1 := b3.trans (bw1.mono (by omega))
        clear oM3 oR3 oL3 HO3 HPS KS p0 p1 p2 p3 p4 i0 i1 j0 j1 j2 j3 bI hb1
        cases hh : heldX xs v r with
        | none =>
          have hfl := DF.out.fail1 hh
          have HFL := Lib.hid hfl
          clear hfl hz hh oM4 oR4 oL4
          simp only [Option.isSome_none]
          go_wp2_with fail
          go_ret
          exact ⟨by rw [HFL.out]; rfl, b4⟩
        | some r' =>
          obtain rfl := hz r' hh
          have hpush := DF.out.push HR.out HMET.out hh
          have hrb := HR.out.held v1 (by omega) (by omega) hh
          have hunm := unm_set (M := M) (i := v) (by omega) HMET.out
          have HPU := Lib.hid hpush
          have HO4 := Lib.hid (And.intro oM4 (And.intro oR4 oL4))
          clear hpush hz hh oM4 oR4 oL4
          simp only [Option.isSome_some]
          go_wp2_with fail
          refine (HFOL.out w1).mono ?_
          rintro e w2 ⟨vN, rfl, oN, hb2⟩
          have z2 := hb2.size
          have b5 := b4.trans (hb2.mono (by omega))
          obtain ⟨oM4, oR4, oL4⟩ := HO4.out
          have hnv : ∀ bb, vN.ownBlock = some bb → (Value.slice (some ⟨gl, 0, none⟩) m cap).ownBlock ≠ some bb := fun bb h1 h2 => by have := (own_at oN h1).1; have := (own_at oL4 h2).2; omega
          have hnl : (nextX xs v).length ≤ 2 := by
            unfold nextX nextO
            repeat' split
            all_goals simp
          have hNM := fun bb (h : vN.ownBlock = some bb) => own_at oN h
          obtain ⟨AN, cN, rfl⟩ := own_slc' oN
          have RE := Lib.hid (show PushRel w n w.heap.size (w.heap.size + 1) (M.set v true) (R.set v r) V (nextX xs v) z w1.heap.size (.slice AN (nextX xs v).length cN) (.slice (some ⟨gl, 0, none⟩) m cap) (.int .i64 (0 : Nat)) w2 from
            ⟨0, rfl, Nat.zero_le _, own_below oM4 hb2, own_below oR4 hb2, by simpa [hm] using own_below oL4 hb2, oN, nM, nR, hnv, b5⟩)
          clear HO4 oM4 oR4 oL4 oN hnv HFOL HHELD k0 k1 k2 k3 k4 k5 hb2 DF OM OR OL
          generalize hNl : (nextX xs v).length = ln at *
          have hbv : ∀ bb, (Value.slice AN ln cN).ownBlock = some bb → w.heap.size + 1 < bb := fun bb h => by have := (hNM bb h).1; omega
          obtain ⟨i0, hi, hz0, hz1, hz2⟩ := info_parts infoVis
          clear hNM
          go_wp2_with fail
          go_loopw [7, 84] (fun lv i wr => PushRel w n w.heap.size (w.heap.size + 1) (M.set v true) (R.set v r) V (nextX xs v) z w1.heap.size (.slice AN ln cN) lv i wr) (fun _ i _ => ln - (intOf i).toNat)
          case atStart => exact RE.out
          case round =>
            clear RE
            obtain ⟨q, rfl, hq, oM, oR, oL, oN, eM, eR, eN, hbq⟩ := hrel
            rw [hNl] at hq oN
            rw [hm] at oL
            have hszq := hbq.size
            obtain ⟨AL, cL, rfl⟩ := own_slc' oL
            by_cases hlt : q < ln
            · obtain ⟨gn, capN, hvn, _, _⟩ := own_some' oN (by omega)
              simp only [Value.slice.injEq, true_and] at hvn
              obtain ⟨rfl, rfl⟩ := hvn
              have cn := oN.cellAt q (by omega)
              rw [ints_get (by simp; omega)] at cn
              have hjj : ((nextX xs v).map fun (j : Nat) => (j : Int)).getD q 0 = (((nextX xs v).getD q 0 : Nat) : Int) := by simp [List.getD, show q < (nextX xs v).length from by omega]
              rw [hjj] at cn
              have htk : (nextX xs v).take (q + 1) = (nextX xs v).take q ++ [(nextX xs v).getD q 0] := by
                rw [List.take_add_one]; congr 1; simp [List.getD, show q < (nextX xs v).length from by omega]
              have e1 : ints (flatV (V ++ ((nextX xs v).take q).map fun j => (j, z))) ++ [.int .i64 (((nextX xs v).getD q 0 : Nat) : Int), .int .i64 z] = ints (flatV (V ++ ((nextX xs v).take (q + 1)).map fun j => (j, z))) := by
                rw [htk, List.map_append, ← List.append_assoc, flatV_app (V ++ _), ints_app]; rfl
              have E1 := Lib.hid e1
              have hgn := own_at oN (b := gn) rfl
              have hbn := hbv gn rfl
              clear htk hjj e1
              generalize (nextX xs v).getD q 0 = j at *
              have OL := Lib.hid oL
              have OM := Lib.hid oM
              have OR := Lib.hid oR
              have ON := Lib.hid oN
              clear oL oM oR oN
              go_wp2_with (first | (at_builtin; refine wpList_append_at _ rfl _ _ 75 rfl w.heap.size 74 i0 (.agg #[.int .i64 0, .int .i64 0]) 2 16 Tryz.underlying75 hi hz0 hz1 hz2 rfl (by decide) _ _ _ rfl (OL.out.alloc _) ⟨wr.heap.size, 0, none⟩ 1 1 [.int .i64 j, .int .i64 z] rfl rfl ?c1 ?c2 ?c3 ?c4 ?c5 (by decide) ?_) | fail)
              case c1 =>
                intro i u hj'
                match i, hj' with
                | 0, hj' => simp at hj'; subst hj'; simp [Addr.add]
                | 1, hj' => simp at hj'; subst hj'; simp [Addr.add]
              case c2 => intro u hu; simp at hu; rcases hu with rfl | rfl <;> rfl
              case c3 => unfold maxLen; omega
              case c4 => omega
              case c5 => simp; omega
              intro v' w3 hown' hgrow hat
              rw [← List.map_take, E1.out, show m + q + 1 = m + (q + 1) from by omega] at hown'
              have kp : ∀ bb, bb < wr.heap.size → (Value.slice AL (m + q) cL).ownBlock ≠ some bb → w3.heap[bb]? = wr.heap[bb]? := fun bb h1 h2 => by
                rw [hgrow.block bb (by simp; omega) (fun e => h2 e.symm), Below.heap_alloc _ _ _ h1]
              have oM3 := own_block OM.out (w' := w3) fun bb hb' => kp bb (own_at OM.out hb').2 (fun e => by simp only [Value.ownBlock, Option.some.injEq] at hb'; rw [← hb'] at e; exact eM e)
              have oR3 := own_block OR.out (w' := w3) fun bb hb' => kp bb (own_at OR.out hb').2 (fun e => by simp only [Value.ownBlock, Option.some.injEq] at hb'; rw [← hb'] at e; exact eR e)
              have oN3 := own_block ON.out (w' := w3) fun bb hb' => kp bb (own_at ON.out hb').2 (eN bb hb')
              have hb3 : Below w.heap.size w w3 := (hbq.alloc hszq _).grown hgrow (by simp; omega) (fun bb hb' => (own_at OL.out hb').1)
              have eM3 : v'.ownBlock ≠ some w.heap.size := fun e => by
                rcases hat with h | h
                · rw [h] at e; exact eM e
                · rw [h] at e; injection e; omega
              have eR3 : v'.ownBlock ≠ some (w.heap.size + 1) := fun e => by
                rcases hat with h | h
                · rw [h] at e; exact eR e
                · rw [h] at e; injection e; have := (own_at OR.out (b := w.heap.size + 1) rfl).2; omega
              have eN3 : ∀ bb, (Value.slice (some ⟨gn, 0, none⟩) ln cN).ownBlock = some bb → v'.ownBlock ≠ some bb := fun bb hb' e => by
                rcases hat with h | h
                · rw [h] at e; exact eN bb hb' e
                · rw [h] at e; injection e; have := (own_at ON.out hb').2; omega
              have RR := Lib.hid (show PushRel w n w.heap.size (w.heap.size + 1) (M.set v true) (R.set v r) V (nextX xs v) z w1.heap.size (.slice (some ⟨gn, 0, none⟩) ln cN) v' (.int .i64 ((q : Int) + 1)) w3 from
                ⟨q + 1, by go_num, by omega, oM3, oR3, by rw [hm]; exact hown', by rw [hNl]; exact oN3, eM3, eR3, eN3, hb3⟩)
              obtain ⟨AL', cL', rfl⟩ := own_slc' hown'
              clear hown' oM3 oR3 oN3 kp hgrow hat eM3 eR3 eN3 OL OM OR ON cn E1
              go_wp2_with fail
              go_roundw
              case rel => exact RR.out
              case measure => simp [intOf]; omega
            · obtain rfl : q = ln := by omega
              have hall : (nextX xs v).take q = nextX xs v := List.take_of_length_le (by omega)
              rw [hall] at oL
              have hfin := HPU.out
              have OL := Lib.hid oL
              have OM := Lib.hid oM
              have OR := Lib.hid oR
              clear oL oM oR oN hall hfin
              go_wp2_with fail
              go_roundg (3 * unm (M.set v true) + (m + q))
              case measure => omega
              case rel =>
                exact ⟨M.set v true, R.set v r, V ++ (nextX xs v).map fun j => (j, z), by simp [hm, hNl], by omega, HPU.out, OM.out, OR.out, by simpa [hm, hNl] using OL.out, eM, eR, hbq⟩
      · rw [hmet] at m0
        by_cases hrr : R.getD v 0 = r
        · rw [hrr] at r0
          have HD := Lib.hid (DF.out.skip hmet hrr)
          clear hmet hrr
          go_wp2_with fail
          go_region
          all_goals (try go_wp2)
          go_roundg (3 * unm M + m)
          case measure => omega
          case rel =>
            have bz : Below wr.heap.size wr ((wr.alloc (.cells #[.int .i64 v, .int .i64 r] 74)).drew) := ((Below.refl _ _).alloc (Nat.le_refl _) _).drew
            exact ⟨M, R, V, by rw [hm], by omega, HD.out, own_below OM.out bz, own_below OR.out bz, by rw [hm]; exact own_below OL.out bz, nM, nR, hb.trans (bz.mono hsz)⟩
        · have HF0 := Lib.hid (DF.out.fail0 hmet hrr)
          generalize R.getD v 0 = y at r0 hrr
          have hne : (y == r) = false := by simpa using hrr
          have bz : Below wr.heap.size wr ((wr.alloc (.cells #[.int .i64 v, .int .i64 r] 74)).drew) := ((Below.refl _ _).alloc (Nat.le_refl _) _).drew
          clear hmet hrr
          go_wp2_with fail
          go_region
          all_goals (try go_wp2)
          go_ret
          exact ⟨by rw [HF0.out]; rfl, hb.trans (bz.mono hsz)⟩
end Go.Proofs.YtlmgbpbiljnohaaGreatDoor
