/- The program's SlimReach. -/
import Derived.Test.YtogpfagdpkjmmaaImplCodeOk
namespace Go.Proofs.Ytogpfagdpkjmmaa
open Go.ChangeShapes Go.WideShapes Go.ChangeAt Go.RowKit Go.Shelf

attribute [local go_sem] Oper.semAt_some wideFnR

/-- What it keeps between two rounds: the row of those met so far, in a box. -/
structure ReachI (n : Nat) (w : World) (pre : List Nat) (V : World) : Prop where
  box : V.heap[w.heap.size + 1]? = some (.cells #[.slice (some ⟨w.heap.size, 0, none⟩) n n] 29 (0, 0))
  row : ∃ M : List Bool, M.length = n ∧ (∀ i, i < n → (M.getD i false = true ↔ i ∈ pre)) ∧ V.ownsRow w.heap.size 4 1 (.slice (some ⟨w.heap.size, 0, none⟩) n n) n (bls M)
  below : Below w.heap.size w V

theorem ReachI.same {n N : Nat} {w : World} {pre : List Nat} {V V' : World} (h : ReachI n w pre V) (hN : w.heap.size + 2 ≤ N) (hb : Below N V V') : ReachI n w pre V' := by
  obtain ⟨M, h1, h2, h3⟩ := h.row
  refine ⟨(hb.block _ (by omega)).trans h.box, ⟨M, h1, h2, own_block h3 fun b hb' => hb.block b ?_⟩, h.below.trans (hb.mono (by omega))⟩
  simp only [Value.ownBlock, Option.some.injEq] at hb'; omega

set_option maxRecDepth 100000 in
set_option maxHeartbeats 4000000 in
theorem slimReachR {xs : List Int} {A : Option Addr} {n c : Nat} {S : Nat → Prop} {w : World} (hs : Fl w S 4 xs A n c) (hr : Right xs n) (hc : codeB xs n = true) :
    CallsIn Fence.wide 6 Try.prog 20 #[.slice A n c] w fun e w' => ∃ v, e = .returned v ∧ w'.ownsRow w.heap.size 4 1 v n (bls (comeL xs n)) ∧ Below w.heap.size w w' := by
  have hn60 := hr.hi
  have hn1 := hr.lo
  obtain ⟨a, rfl⟩ := hs.some (by omega)
  have hmb := fun W => makeBools n hn60 W
  have HS := Lib.hid hs
  have HR := Lib.hid hr
  have HC := Lib.hid hc
  clear hs hr hc
  refine CallsIn.mono ?_ (fun e w' (h : ∃ v, e = .returned v ∧ (w'.ownsRow w.heap.size 4 1 v n (bls (comeL xs n)) ∧ Below w.heap.size w w')) => h)
  refine callsIn_of_wp_marks Try.func20 rfl trivial ?_ rfl
  simp only [Try.ntmps20, List.size_toArray, List.length_cons, List.length_nil, Nat.reduceAdd, Nat.reduceSub, Array.replicate_succ, Array.replicate_zero, List.push_toArray, List.append_toArray, List.nil_append, List.cons_append]
  have hdd : ∀ k : Nat, (Fence.wide.depth.isSome = true → 1 ≤ k) := fun k h => by cases h
  gi_wp2_with (first
    | ((try refine ⟨hdd _, ?_⟩); gi_at_call 17; refine ((callsIn_wide (n := _)).2 (codeOk HS.out)).mono ?_; rintro e w1 ⟨rfl, hb1⟩; rw [HC.out])
    | ((try refine ⟨hdd _, ?_⟩); gi_at_call 49; refine (eachReachable _ (some a) n c _).mono ?_; rintro e w6 ⟨rfl, rfl⟩))
  have hz1 := hb1.size
  have o1 := World.ownsRow_lit (base := w1.heap.size) (e := 4) (size := 1) w1 (madeCells #[.bool false] n) n (Nat.le_refl _) (by unfold maxLen; omega) (by rw [size_madeCells]; omega)
  rw [madeB] at o1
  obtain ⟨W1, hW1⟩ : ∃ W1, w1.alloc (.cells (madeCells #[.bool false] n) 4) = W1 := ⟨_, rfl⟩
  have z1 : W1.heap.size = w1.heap.size + 1 := by rw [← hW1]; simp
  have bb1 : Below w1.heap.size w1 W1 := by rw [← hW1]; exact (Below.refl _ _).alloc (Nat.le_refl _) _
  rw [hW1] at o1
  have hb2 := World.alloc_heap_new W1 (.cells #[.slice (some ⟨w1.heap.size, 0, none⟩) n n] 29)
  obtain ⟨W2, hW2⟩ : ∃ W2, W1.alloc (.cells #[.slice (some ⟨w1.heap.size, 0, none⟩) n n] 29) = W2 := ⟨_, rfl⟩
  have z2 : W2.heap.size = w1.heap.size + 2 := by rw [← hW2]; simp [z1]
  rw [hW2, z1] at hb2
  have hb3 := World.alloc_heap_new W2 (.cells #[.slice (some a) n c] 25)
  rw [z2] at hb3
  have i2 : ReachI n w1 [] W2 := ⟨hb2, ⟨List.replicate n false, by simp, fun i hi => by simp [List.getD, hi], by rw [← hW2]; exact o1.alloc _⟩, by rw [← hW2]; exact bb1.alloc (by omega) _⟩
  have iW : ReachI n w1 [] (W2.alloc (.cells #[.slice (some a) n c] 25)) := i2.same (N := W2.heap.size) (by omega) ((Below.refl _ _).alloc (Nat.le_refl _) _)
  have zW : (W2.alloc (.cells #[.slice (some a) n c] 25)).heap.size = w1.heap.size + 3 := by simp [z2]
  rw [hW1, hW2]
  clear hmb hW1 hW2 o1 bb1 hb2 i2
  generalize W2.alloc (.cells #[.slice (some a) n c] 25) = W at *
  have hseq := reach_gs (w0 := w) (w := W) (wb := w1.heap.size + 1 + 1) (B := W.heap.size + 2) 5 HS.out HR.out (hb1.trans (iW.below.mono hz1)) hb3 (by omega) (by omega)
  clear hb3
  refine wpIn_rangeFunc_gs rfl (by omega) (gf := 79) (lb := #[.pointer (some ⟨w1.heap.size + 1 + 1, 0, none⟩)]) rfl trivial (enters_of Try.func79 (by kernel_rfl) rfl)
    hseq (Below.refl _ _) (fun _ => rfl) (ReachI n w1) (fun _ _ _ => False)
    ?ia ?ip ?rp ?xp ?im iW (fun x : Nat => { tmps := #[.slice (some a) n c, undef, .slice none 0 0, .pointer (some ⟨w1.heap.size + 1, 0, none⟩), .int .i64 (x : Int), .slice (some a) n c, .bool true, .bool false, .slice (some a) n c, .int .i64 n, .slice (some ⟨w1.heap.size, 0, none⟩) n n, .slice (some a) n c, .func (.func 79) #[] #[.pointer (some ⟨w1.heap.size + 1 + 1, 0, none⟩)], .int .i64 (x : Int), undef, undef, undef, undef], defers := [] }) ?assign ?body ?done ?stop
  case ia => exact fun ys V o h => h.same (N := V.heap.size) (by have := heapLt h.box; omega) ((Below.refl _ _).alloc (Nat.le_refl _) _)
  case ip => exact fun ys V l o o' hl h ho hc => h.same (N := W.heap.size) (by omega) ((Below.refl _ _).grown (grownBy_putObj' V l o') (by have := heapLt ho; omega) (fun k e => by cases e; omega))
  case rp => exact fun s V l o o' hl h ho hc => ReachRd.put hl h ho hc (by omega) (by omega)
  case xp => exact fun cd ys V l o o' hl h ho hc => h.elim
  case im => exact fun ys V V' h hb => h.same (N := W.heap.size + 2) (by omega) hb
  case assign =>
    intro l x V K hK
    have HK := Lib.hid hK
    clear hK
    simp only [List.zip_toArray, List.zip_cons_cons, List.zip_nil_right, List.size_toArray, List.foldl_toArray', List.foldl_cons, List.foldl_nil, List.setIfInBounds_toArray, List.set_cons_succ, List.set_cons_zero]
    gi_wp2
    exact HK.out
  case body =>
    intro l pre x s V hok hI hR
    obtain ⟨M, hM1, hM2, hM3⟩ := hI.row
    have hx : x < n := hok.1
    have cb := boxCell hI.box
    have cm := hM3.cellAt x (by omega)
    rw [bls_get (by omega)] at cm
    have fm := hM3.frozenAt x
    have st := hM3.stored x (.bool true)
    rw [bls_set] at st
    have HI := Lib.hid hI
    have HRD := Lib.hid hR
    have ST := Lib.hid st
    have HM2 := Lib.hid hM2
    clear hI hR st hM2 hM3 hseq iW
    gi_wp2_with fail
    have hsame : ∀ j, j ≠ w1.heap.size → (V.setCell ⟨w1.heap.size, x, none⟩ (.bool true)).heap[j]? = V.heap[j]? := fun j hj => Below.heap_setCell _ _ _ j (fun e => hj e)
    have hbv : Below w1.heap.size w1 (V.setCell ⟨w1.heap.size, x, none⟩ (.bool true)) := HI.out.below.setCell (p := ⟨w1.heap.size, x, none⟩) (Nat.le_refl _) _
    refine ⟨⟨by simp, fun j o hj ho _ => (hsame j (by omega)).trans ho⟩, ⟨(hsame _ (by omega)).trans HI.out.box, ⟨M.set x true, by simp [hM1], fun i hi => ?_, ST.out.1⟩, hbv⟩,
      HRD.out.kept (X := w1.heap.size) (by omega) (by omega) (hb1.trans (hbv.mono hz1)) (fun j o hj ho _ => (hsame j hj).trans ho)⟩
    rw [getD_set _ _ _ _ _ (by omega)]
    by_cases e : i = x
    · subst e; simp
    · rw [if_neg e, HM2.out i hi]; simp [e]
  case done =>
    intro D ys V hD hys hI hV
    obtain ⟨M, hM1, hM2, hM3⟩ := hI.row
    obtain rfl : M = comeL xs n := comeL_of hM1 fun i hi => (hM2 i hi).trans (hys i).symm
    have cb := boxCell hI.box
    have hb := hI.below
    have HM3 := Lib.hid hM3
    clear hseq iW hI hM2 hM3
    gi_wp2
    refine ⟨by simp, .inl ⟨D, _, rfl, run_takeDeferred hV, ?_⟩⟩
    refine ⟨.slice (some ⟨w1.heap.size, 0, none⟩) n n, by simp [results, Try.results20, go_sem], _, rfl, own_mono (ownsRow_putObj HM3.out _ hV rfl) hz1, ?_⟩
    exact (hb1.trans (hb.mono hz1)).trans ((Below.refl _ V).grown (grownBy_putObj' V D _) (by have := heapLt hV; omega) (fun k e => by cases e; omega))
  case stop =>
    intro D cd ys V hD _ hX hV
    exact hX.elim
end Go.Proofs.Ytogpfagdpkjmmaa
