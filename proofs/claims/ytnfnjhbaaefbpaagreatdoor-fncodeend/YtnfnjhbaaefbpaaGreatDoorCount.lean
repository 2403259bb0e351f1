/- The program's count of statements: a range over an iterator that visits a list and what is in its bodies, each with the room that it is in. -/
import Derived.Test.YtnfnjhbaaefbpaaGreatDoorNew
import Derived.Test.YtnfnjhbaaefbpaaGreatDoorRoomIn
import Derived.RangeFuncNested
import Derived.RangeFuncBound
import Derived.RangeFuncCalls
import Derived.RangeFuncLeaves
import Derived.RangeFuncFrom
import Derived.Shelf.Abstract
import Derived.OwnWalkIn
import Derived.TacticsInMore
import Derived.LoopNIn
import Derived.LoopIn
namespace Go.Proofs.YtnfnjhbaaefbpaaGreatDoor
open Go.ChangeShapes Go.WideShapes Go.ChangeAt Go.RowKit Go.Shelf

attribute [local go_sem] Oper.semAt_some

/-- All blocks of cells but g are as they were. -/
def KeptC (g : Nat) (W W' : World) : Prop := W.heap.size ≤ W'.heap.size ∧ ∀ b vs t z, b ≠ g → W.heap[b]? = some (.cells vs t z) → W'.heap[b]? = some (.cells vs t z)

theorem lt_heap {w : World} {b : Nat} {o : Obj} (h : w.heap[b]? = some o) : b < w.heap.size := (Array.getElem?_eq_some_iff.1 h).1
theorem KeptC.refl (g : Nat) (W : World) : KeptC g W W := ⟨Nat.le_refl _, fun _ _ _ _ _ h => h⟩
theorem KeptC.trans {g : Nat} {A B C : World} (h : KeptC g A B) (k : KeptC g B C) : KeptC g A C := ⟨Nat.le_trans h.1 k.1, fun b vs t z hb hc => k.2 b vs t z hb (h.2 b vs t z hb hc)⟩
theorem KeptC.alloc (g : Nat) (W : World) (o : Obj) : KeptC g W (W.alloc o) := ⟨by simp, fun b vs t z _ hc => (Below.heap_alloc W o b (Array.getElem?_eq_some_iff.1 hc).1).trans hc⟩
theorem KeptC.setCell (g i : Nat) (W : World) (v : Value) : KeptC g W (W.setCell ⟨g, i, none⟩ v) := ⟨by simp [World.setCell], fun b vs t z hb hc => (Below.heap_setCell W ⟨g, i, none⟩ v b hb).trans hc⟩
theorem KeptC.putObj {g : Nat} (W : World) (l : Nat) (o o' : Obj) (h : W.heap[l]? = some o) (ho : o.isCells = false) : KeptC g W (W.putObj l o') :=
  ⟨by simp, fun b vs t z _ hc => by
    rw [World.putObj_heap_other (fun e => by subst e; rw [h] at hc; injection hc with hc; subst hc; simp [Obj.isCells] at ho)]
    exact hc⟩
theorem KeptC.cell {g : Nat} {W W' : World} (h : KeptC g W W') {p : Addr} {v : Value} (hc : W.cell? p = some v) (hp : p.block ≠ g) : W'.cell? p = some v := by
  obtain ⟨o, ho, hcl⟩ := cells_of_cell hc
  cases o with
  | cells vs t z => rw [World.cell?_of_block (w := W) (by rw [h.2 _ _ _ _ hp ho, ho])]; exact hc
  | _ => simp [Obj.isCells] at hcl

theorem At.keptC {g N : Nat} {W W' : World} (h : KeptC g W W') (hN : N ≤ g) {L : SL} : ∀ {a : Addr}, At W N L a → At W' N L a := by
  induction L with
  | nil => intro a _; trivial
  | cons k x y n B E R hB hE hR =>
    rintro a ⟨ha, h0, h1, h2, h3, ⟨A, c, h4, l4, m4, n4, p4⟩, ⟨A', c', h5, l5, m5, n5, p5⟩, h6⟩
    have hb : ∀ j, (a.add j).block ≠ g := fun j => by rw [show (a.add j).block = a.block from by unfold Addr.add; split <;> rfl]; omega
    exact ⟨ha, h.cell h0 (by omega), h.cell h1 (hb 1), h.cell h2 (hb 2), h.cell h3 (hb 3), ⟨A, c, h.cell h4 (hb 4), l4, m4, n4, fun p hp => hB (p4 p hp)⟩, ⟨A', c', h.cell h5 (hb 5), l5, m5, n5, fun p hp => hE (p5 p hp)⟩, hR h6⟩
theorem Sl.keptC {g N : Nat} {W W' : World} (h : KeptC g W W') (hN : N ≤ g) {L : SL} {A : Option Addr} {n c : Nat} (hs : Sl W N L A n c) : Sl W' N L A n c := ⟨hs.len, hs.le, hs.top, hs.nil, fun p hp => (hs.at_ p hp).keptC h hN⟩

theorem yield_anyDepth {F : Fence} (hd : F.depth = none) {m : Nat} (m' : Nat) {P : Program} {l : Nat} {args : Array Value} {W : World} {R : Ending → World → Prop} (h : YieldAt F m P l args W R) : YieldAt F m' P l args W R := by
  obtain ⟨fn, tmps, assign, body, hy, hR⟩ := h
  exact ⟨fn, tmps, assign, body, hy, hR.1, fun c cs _ => hR.2 c cs (fun d hd' => by rw [hd] at hd'; cases hd')⟩

theorem SL.drop_size3 {L : SL} {i : Nat} {k x y n : Int} {B E R : SL} (h : L.drop i = .cons k x y n B E R) : (L.drop i).size = 1 + B.size + E.size + (L.drop (i + 1)).size := by
  rw [SL.drop_succ h, h]; rfl
theorem SL.drop_size_le (L : SL) (i : Nat) : (L.drop i).size ≤ L.size := by
  induction L generalizing i with
  | nil => cases i <;> simp [SL.drop]
  | cons k x y n B E R _ _ ih => cases i with
    | zero => simp [SL.drop]
    | succ i => simp only [SL.drop, SL.size]; have := ih i; omega

/-- A statement that is visited, with the room that it is in. -/
structure It (G : Int → Int → Int → Int → Int → Prop) where
  k : Int
  x : Int
  y : Int
  n : Int
  r : Int
  AB : Option Addr
  lB : Nat
  cB : Nat
  AE : Option Addr
  lE : Nat
  cE : Nat
  ok : G k x y n r
abbrev It.vB {G : Int → Int → Int → Int → Int → Prop} (i : It G) : Value := .slice i.AB i.lB i.cB
abbrev It.vE {G : Int → Int → Int → Int → Int → Prop} (i : It G) : Value := .slice i.AE i.lE i.cE
def It.key {G : Int → Int → Int → Int → Int → Prop} (i : It G) : Int × Int × Int × Int × Int := (i.k, i.x, i.y, i.n, i.r)
def It.enc {G : Int → Int → Int → Int → Int → Prop} (i : It G) : Array Value := #[.agg #[.int .i64 i.k, .int .i64 i.x, .int .i64 i.y, .int .i64 i.n, i.vB, i.vE], .int .i64 i.r]

/-- All that is visited, in order. -/
def flatL : SL → Int → List (Int × Int × Int × Int × Int)
  | .nil, _ => []
  | .cons k x y n B E R, r => (k, x, y, n, r) :: (flatL B (inR k x r) ++ flatL E (inR k x r) ++ flatL R r)
theorem flatL_len (L : SL) : ∀ r : Int, (flatL L r).length = L.size := by
  induction L with
  | nil => intro r; rfl
  | cons k x y n B E R hB hE hR => intro r; simp only [flatL, List.length_cons, List.length_append, hB, hE, hR, SL.size]; omega
theorem flatL_drop {L : SL} : ∀ {i : Nat} {k x y n : Int} {B E R : SL}, L.drop i = .cons k x y n B E R → ∀ r : Int, flatL (L.drop i) r = (k, x, y, n, r) :: (flatL B (inR k x r) ++ flatL E (inR k x r) ++ flatL (L.drop (i + 1)) r) := by
  intro i k x y n B E R h r
  rw [SL.drop_succ h, h]; rfl
/-- All that is visited is G. -/
def AllG (G : Int → Int → Int → Int → Int → Prop) (L : SL) (r : Int) : Prop := ∀ q ∈ flatL L r, G q.1 q.2.1 q.2.2.1 q.2.2.2.1 q.2.2.2.2
theorem AllG.drop {G : Int → Int → Int → Int → Int → Prop} {L : SL} {r : Int} (h : AllG G L r) (i : Nat) : AllG G (L.drop i) r := by
  induction i generalizing L with
  | zero => rw [SL.drop_zero]; exact h
  | succ i ih => cases L with
    | nil => exact h
    | cons k x y n B E R => exact ih (L := R) fun q hq => h q (List.mem_cons_of_mem _ (List.mem_append_right _ hq))
theorem AllG.parts {G : Int → Int → Int → Int → Int → Prop} {k x y n r : Int} {B E R : SL} (h : AllG G (.cons k x y n B E R) r) : G k x y n r ∧ AllG G B (inR k x r) ∧ AllG G E (inR k x r) ∧ AllG G R r :=
  ⟨h _ (List.mem_cons_self ..), fun q hq => h q (List.mem_cons_of_mem _ (List.mem_append_left _ (List.mem_append_left _ hq))), fun q hq => h q (List.mem_cons_of_mem _ (List.mem_append_left _ (List.mem_append_right _ hq))), fun q hq => h q (List.mem_cons_of_mem _ (List.mem_append_right _ hq))⟩

section
variable {G : Int → Int → Int → Int → Int → Prop}

/-- How a visit ends: all came, or a round said that no more shall. -/
def VisitPost (L : SL) (r : Int) (g : Nat) (J Jx : List (It G) → World → Prop) (pre : List (It G)) (W : World) (e : Ending) (W' : World) : Prop :=
  (e = .returned (.bool true) ∧ (∃ q : List (It G), q.map It.key = flatL L r ∧ J (pre ++ q) W') ∧ KeptC g W W') ∨ (e = .returned (.bool false) ∧ ∃ q : List (It G), q.map It.key <+: flatL L r ∧ Jx (pre ++ q) W')

/-- At a round's head of a visit. -/
def VisitRel (L : SL) (r : Int) (g : Nat) (J : List (It G) → World → Prop) (pre : List (It G)) (W : World) (i : Value) (wr : World) : Prop :=
  ∃ (k : Nat) (q : List (It G)), k ≤ L.len ∧ i = .int .i64 k ∧ q.map It.key ++ flatL (L.drop k) r = flatL L r ∧ J (pre ++ q) wr ∧ KeptC g W wr

theorem pre_len {L : SL} {r : Int} {q : List (It G)} {T : List (Int × Int × Int × Int × Int)} (h : q.map It.key ++ T = flatL L r) : q.length + T.length = L.size := by
  have := congrArg List.length h
  rw [flatL_len] at this
  simpa using this

set_option maxRecDepth 100000 in
set_option maxHeartbeats 2000000 in
theorem visit_in (F : Fence) (hd : F.depth = none) (hf : F.fn 70) (hfr : F.fn 62) (hro : F.round = none) (l g N₀ M : Nat) (hN₀ : N₀ ≤ g) (J Jx : List (It G) → World → Prop) (hJ : ∀ s W o, J s W → J s (W.alloc o))
    (hY : ∀ m pre x W, J pre W → pre.length < M → YieldAt F m Tryz.prog l (It.enc x) W fun e W' => (e = .returned (.bool true) ∧ J (pre ++ [x]) W' ∧ KeptC g W W') ∨ (e = .returned (.bool false) ∧ Jx (pre ++ [x]) W')) (m : Nat) :
    ∀ (L : SL), L.size < m → ∀ (r : Int), AllG G L r → ∀ (n : Nat) (A : Option Addr) (len c : Nat) (pre : List (It G)) (W : World), Sl W N₀ L A len c → g < W.heap.size → J pre W → pre.length + L.size ≤ M →
      CallsIn F n Tryz.prog 70 #[.slice A len c, .int .i64 r, .func (.yield l) #[] #[]] W (VisitPost L r g J Jx pre W) := by
  induction m with
  | zero => intro L hL; omega
  | succ m ih =>
    intro L hL r hG n A len c pre W hs hg hJ0 hM
    have IH := Lib.hid ih
    have HY := Lib.hid hY
    have HJ := Lib.hid hJ
    clear ih hY hJ
    have hdd : ∀ k : Nat, (F.depth.isSome = true → 1 ≤ k) := fun k h => by rw [hd] at h; cases h
    have hlen : len ≤ L.len := Nat.le_of_eq hs.len
    have hlen' : L.len ≤ len := Nat.le_of_eq hs.len.symm
    have hmax : len ≤ 9223372036854775807 := by have := hs.le; have := hs.top; unfold maxLen at this; omega
    refine callsIn_of_wp Tryz.func70 rfl hf ?_ hro
    simp only [Tryz.ntmps70, List.size_toArray, List.length_cons, List.length_nil, Nat.reduceAdd, Nat.reduceSub, Array.replicate_succ, Array.replicate_zero, List.push_toArray, List.append_toArray, List.nil_append, List.cons_append]
    gi_wp2
    gi_loopw [12] (fun i wr => VisitRel L r g J pre W i wr) (fun i _ => len - (intOf i).toNat)
    case atStart => exact ⟨0, [], Nat.zero_le _, rfl, by simp [SL.drop_zero], by simpa using hJ0, KeptC.refl _ _⟩
    case round =>
      obtain ⟨k, q, hk, rfl, hq, hJq, hkc⟩ := hrel
      have HQ := Lib.hid hq
      clear hq
      by_cases hlt : k < len
      · obtain ⟨K, x, y, v, B, E, R, hd'⟩ := SL.drop_cons (L := L) (i := k) (by omega)
        have HD := Lib.hid hd'
        have HF := Lib.hid (flatL_drop hd' r)
        have s3 := SL.drop_size3 hd'
        have s4 := SL.drop_size_le L k
        have H3 := Lib.hid s3
        have hpl := pre_len HQ.out
        rw [flatL_len] at hpl
        have HPL := Lib.hid hpl
        obtain ⟨G1, G2, G3, _⟩ := AllG.parts (hd' ▸ hG.drop k)
        have lB : B.size < m := by have := SL.drop_size hd'; omega
        have lE : E.size < m := by have := SL.drop_size hd'; omega
        obtain ⟨a, rfl⟩ := hs.some (by omega)
        have hat := ((hs.at_ a rfl).keptC hkc hN₀).drop k
        rw [HD.out] at hat
        obtain ⟨_, c0, c1, c2, c3, AB, cB, AE, cE, c4, c5, sB, sE, _⟩ := hat.first
        have hgr : g < wr.heap.size := Nat.lt_of_lt_of_le hg hkc.1
        have b1 : pre.length + q.length < M := by omega
        have b2 : pre.length + q.length + 1 + B.size + E.size ≤ M := by omega
        clear s3 s4 hd' hpl
        obtain ⟨wr2, hwr2⟩ : ∃ wr2, (wr.alloc (.cells #[.int .i64 K, .int .i64 x, .int .i64 y, .int .i64 v, .slice AB B.len cB, .slice AE E.len cE] 36)).alloc (.cells #[.int .i64 K, .int .i64 x, .int .i64 y, .int .i64 v, .slice AB B.len cB, .slice AE E.len cE] 36) = wr2 := ⟨_, rfl⟩
        have hJ2 : J (pre ++ q) wr2 := by rw [← hwr2]; exact HJ.out _ _ _ (HJ.out _ _ _ hJq)
        have kA : KeptC g wr wr2 := by rw [← hwr2]; exact (KeptC.alloc g wr _).trans (KeptC.alloc g _ _)
        have boxA : wr2.heap[wr.heap.size]? = some (.cells #[.int .i64 K, .int .i64 x, .int .i64 y, .int .i64 v, .slice AB B.len cB, .slice AE E.len cE] 36 (0, 0)) := by
          rw [← hwr2]
          show ((wr.heap.push _).push _)[wr.heap.size]? = _
          rw [Array.getElem?_push, if_neg (by simp), Array.getElem?_push, if_pos rfl]
        have BOXA := Lib.hid boxA
        have HW2 := Lib.hid hwr2
        have zA : wr.heap.size < wr2.heap.size := lt_heap boxA
        obtain ⟨d0, d1, d2, d3, d4, d5⟩ := cells6 boxA
        clear hwr2 boxA
        obtain ⟨fn, tmps, assign, body, hy, hR⟩ := HY.out (n - 1) (pre ++ q) ⟨K, x, y, v, r, AB, B.len, cB, AE, E.len, cE, G1⟩ wr2 hJ2 (by simpa using b1)
        unfold It.enc at hy
        simp only [It.vB, It.vE] at hy
        gi_wp2_with ((try refine ⟨hdd _, ?_⟩); gi_at_call 62; refine (room_in F _ hfr hro K x y v r _ _ _).mono ?_; rintro e w' ⟨rfl, hw'⟩; rw [HW2.out] at hw'; subst hw')
        refine hR.mono ?_
        clear hR hy
        rintro e W2 (⟨rfl, hJ2, hk2⟩ | ⟨rfl, hx2⟩)
        · have k02 : KeptC g wr W2 := kA.trans hk2
          have box2 : W2.heap[wr.heap.size]? = some (.cells #[.int .i64 K, .int .i64 x, .int .i64 y, .int .i64 v, .slice AB B.len cB, .slice AE E.len cE] 36 (0, 0)) := hk2.2 _ _ _ _ (by omega) BOXA.out
          have e4 : W2.cell? ⟨wr.heap.size, 4, none⟩ = some (.slice AB B.len cB) := by rw [row_cell box2]; rfl
          have BOX2 := Lib.hid box2
          have z2 : g < W2.heap.size := Nat.lt_of_lt_of_le hgr k02.1
          clear box2 hk2 c0 c1 c2 c3 c4 c5 d0 d1 d2 d3 d4 d5
          have hcB := Lib.hid ((IH.out B lB (inR K x r) G2 (n - 1) AB B.len cB _ W2 (sB.keptC k02 hN₀) z2 hJ2 (by simp; omega)).mono (R' := fun e W3 =>
              (e = .returned (.bool true) ∧ (∃ qB : List (It G), qB.map It.key = flatL B (inR K x r) ∧ J (pre ++ q ++ [⟨K, x, y, v, r, AB, B.len, cB, AE, E.len, cE, G1⟩] ++ qB) W3) ∧ KeptC g wr W3 ∧ W3.cell? ⟨wr.heap.size, 5, none⟩ = some (.slice AE E.len cE)) ∨
              (e = .returned (.bool false) ∧ ∃ qB : List (It G), qB.map It.key <+: flatL B (inR K x r) ∧ Jx (pre ++ q ++ [⟨K, x, y, v, r, AB, B.len, cB, AE, E.len, cE, G1⟩] ++ qB) W3))
            (fun e W3 h => h.elim (fun ⟨he, hq, hk3⟩ => .inl ⟨he, hq, k02.trans hk3, by rw [row_cell (hk3.2 _ _ _ _ (by omega) BOX2.out)]; rfl⟩) .inr))
          gi_wp2_with (first
            | ((try refine ⟨hdd _, ?_⟩); gi_at_call 70; refine hcB.out.mono ?_; clear hcB; rintro e W3 (⟨rfl, ⟨qB, hqB, hJ3⟩, k03, e5⟩ | ⟨rfl, qB, hqB, hx3⟩); all_goals (have HQB := Lib.hid hqB; clear hqB))
            | ((try refine ⟨hdd _, ?_⟩); gi_at_call 70; refine (IH.out E lE (inR K x r) G3 (n - 1) AE E.len cE _ W3 (sE.keptC k03 hN₀) (Nat.lt_of_lt_of_le hgr k03.1) hJ3 (by have := congrArg List.length HQB.out; rw [flatL_len] at this; simp at this; simp; omega)).mono ?_; rintro e W4 (⟨rfl, ⟨qE, hqE, hJ4⟩, hk4⟩ | ⟨rfl, qE, hqE, hx4⟩)))
          · go_roundw
            case rel =>
              refine ⟨k + 1, q ++ ([⟨K, x, y, v, r, AB, B.len, cB, AE, E.len, cE, G1⟩] ++ qB ++ qE), by omega, by go_num, ?_, by simpa [List.append_assoc] using hJ4, hkc.trans (k03.trans hk4)⟩
              rw [← HQ.out, HF.out]
              simp [HQB.out, hqE, It.key, List.append_assoc]
            case measure => simp [intOf]; omega
          · go_ret
            refine .inr ⟨rfl, q ++ ([⟨K, x, y, v, r, AB, B.len, cB, AE, E.len, cE, G1⟩] ++ qB ++ qE), ?_, by simpa [List.append_assoc] using hx4⟩
            rw [← HQ.out, HF.out]
            obtain ⟨t, ht⟩ := hqE
            refine ⟨t ++ flatL (L.drop (k + 1)) r, ?_⟩
            rw [← ht]
            simp [HQB.out, It.key, List.append_assoc]
          · go_ret
            refine .inr ⟨rfl, q ++ ([⟨K, x, y, v, r, AB, B.len, cB, AE, E.len, cE, G1⟩] ++ qB), ?_, by simpa [List.append_assoc] using hx3⟩
            rw [← HQ.out, HF.out]
            obtain ⟨t, ht⟩ := HQB.out
            refine ⟨t ++ flatL E (inR K x r) ++ flatL (L.drop (k + 1)) r, ?_⟩
            rw [← ht]
            simp [It.key, List.append_assoc]
        · gi_wp2
          go_ret
          refine .inr ⟨rfl, q ++ [⟨K, x, y, v, r, AB, B.len, cB, AE, E.len, cE, G1⟩], ?_, by simpa [List.append_assoc] using hx2⟩
          rw [← HQ.out, HF.out]
          exact ⟨flatL B (inR K x r) ++ flatL E (inR K x r) ++ flatL (L.drop (k + 1)) r, by simp [It.key, List.append_assoc]⟩
      · have hend := SL.drop_end (L := L) (i := k) (by omega)
        have hq' : q.map It.key = flatL L r := by have := HQ.out; rw [hend] at this; simpa [flatL] using this
        have H4 := Lib.hid hq'
        clear hend hq'
        gi_wp2
        go_ret
        exact .inl ⟨rfl, ⟨q, H4.out, hJq⟩, hkc⟩

set_option maxHeartbeats 1000000 in
/-- The iterator's function. -/
theorem each1_in (F : Fence) (hd : F.depth = none) (n : Nat) (hf1 : F.fn 69) (hf : F.fn 70) (hfr : F.fn 62) (hro : F.round = none) (l g bx N₀ : Nat) (hN₀ : N₀ ≤ g) (L : SL) (hG : AllG G L (-1)) (A : Option Addr) (len c : Nat) (J Jx : List (It G) → World → Prop) (hJ : ∀ s W o, J s W → J s (W.alloc o))
    (hY : ∀ pre x W, J pre W → pre.length < L.size → YieldAt F (n - 1) Tryz.prog l (It.enc x) W fun e W' => (e = .returned (.bool true) ∧ J (pre ++ [x]) W' ∧ KeptC g W W') ∨ (e = .returned (.bool false) ∧ Jx (pre ++ [x]) W'))
    (W : World) (hbx : W.cell? ⟨bx, 0, none⟩ = some (.slice A len c)) (hs : Sl W N₀ L A len c) (hg : g < W.heap.size) (h0 : J [] W) :
    CallsIn F n Tryz.prog 69 #[.func (.yield l) #[] #[], .pointer (some ⟨bx, 0, none⟩)] W fun e W' => (∃ v, e = .returned v) ∧
      ((∃ ys : List (It G), ys.map It.key = flatL L (-1) ∧ J ys W') ∨ (∃ pre : List (It G), pre.map It.key <+: flatL L (-1) ∧ Jx pre W')) := by
  have hdd : ∀ k : Nat, (F.depth.isSome = true → 1 ≤ k) := fun k h => by rw [hd] at h; cases h
  have hv := Lib.hid (visit_in F hd hf hfr hro l g N₀ L.size hN₀ J Jx hJ (fun m pre x W hj hl => yield_anyDepth hd m (hY pre x W hj hl)) (L.size + 1) L (by omega) (-1) hG (n - 1) A len c [] W hs hg h0 (by simp))
  clear hY
  refine callsIn_of_wp Tryz.func69 rfl hf1 ?_ hro
  simp only [Tryz.ntmps69, List.size_toArray, List.length_cons, List.length_nil, Nat.reduceAdd, Nat.reduceSub, Array.replicate_succ, Array.replicate_zero, List.push_toArray, List.append_toArray, List.nil_append, List.cons_append]
  gi_wp2_with ((try refine ⟨hdd _, ?_⟩); gi_at_call 70; refine hv.out.mono ?_; clear hv; rintro e W1 (⟨rfl, ⟨q, hq, hJ1⟩, _⟩ | ⟨rfl, q, hq, hx⟩))
  · go_end0
    exact ⟨⟨_, rfl⟩, .inl ⟨q, hq, by simpa using hJ1⟩⟩
  · go_end0
    exact ⟨⟨_, rfl⟩, .inr ⟨q, hq, by simpa using hx⟩⟩
end

set_option maxHeartbeats 1000000 in
theorem each_in (F : Fence) (n : Nat) (h : F.fn 54) (hro : F.round = none) (A : Option Addr) (len c : Nat) (w : World) :
    CallsIn F n Tryz.prog 54 #[.slice A len c] w fun e w' => e = .returned (.func (.func 69) #[] #[.pointer (some ⟨w.heap.size, 0, none⟩)]) ∧ w.alloc (.cells #[.slice A len c] 23) = w' := by
  refine callsIn_of_wp Tryz.func54 rfl h ?_ hro
  simp only [Tryz.ntmps54, List.size_toArray, List.length_cons, List.length_nil, Nat.reduceAdd, Nat.reduceSub, Array.replicate_succ, Array.replicate_zero, List.push_toArray, List.append_toArray, List.nil_append, List.cons_append]
  gi_wp2
  go_ret
  exact ⟨rfl, rfl⟩

/-- What is visited where nothing is asked of it. -/
abbrev ItT := It (fun _ _ _ _ _ => True)
theorem allT (L : SL) (r : Int) : AllG (fun _ _ _ _ _ => True) L r := fun _ _ => trivial

/-- What the program counts: all, or one more than a process may have. -/
def cntI (m : Nat) : Int := if m ≤ 14 then m else 15

set_option maxRecDepth 100000 in
set_option maxHeartbeats 2000000 in
theorem count_in (F : Fence) (hd : F.depth = none) (n : Nat) (h37 : F.fn 27) (h45 : F.fn 54) (h49 : F.fn 69) (h50 : F.fn 70) (h48 : F.fn 62) (hro : F.round = none) (hn : 3 ≤ n) (L : SL) (A : Option Addr) (len c N : Nat) (w : World) (hs : Sl w N L A len c) (hN : N ≤ w.heap.size) :
    CallsIn F n Tryz.prog 27 #[.slice A len c] w fun e W' => e = .returned (.int .i64 (cntI L.size)) ∧ Below w.heap.size w W' := by
  have h1 : 1 ≤ n := by omega
  refine callsIn_of_wp_marks Tryz.func27 rfl h37 ?_ hro
  simp only [Tryz.ntmps27, List.size_toArray, List.length_cons, List.length_nil, Nat.reduceAdd, Nat.reduceSub, Array.replicate_succ, Array.replicate_zero, List.push_toArray, List.append_toArray, List.nil_append, List.cons_append]
  gi_wp2_with (gi_at_call 54; refine (each_in F (n - 1) h45 hro _ _ _ _).mono ?_; rintro e w' ⟨rfl, rfl⟩)
  have hB0 : Below w.heap.size w ((w.alloc (.cells #[.int .i64 0] 3)).alloc (.cells #[.slice A len c] 23)) := ((Below.refl _ w).alloc (Nat.le_refl _) _).alloc (by simp) _
  have g0 : ((w.alloc (.cells #[.int .i64 0] 3)).alloc (.cells #[.slice A len c] 23)).heap[w.heap.size]? = some (.cells #[.int .i64 0] 3 (0, 0)) := by
    show ((w.heap.push _).push _)[w.heap.size]? = _
    rw [Array.getElem?_push, if_neg (by simp), Array.getElem?_push, if_pos rfl]
  have g1 : ((w.alloc (.cells #[.int .i64 0] 3)).alloc (.cells #[.slice A len c] 23)).heap[w.heap.size + 1]? = some (.cells #[.slice A len c] 23 (0, 0)) := by
    show ((w.heap.push _).push _)[w.heap.size + 1]? = _
    rw [Array.getElem?_push, if_pos (by simp)]
  have hseq : SeqStopsK F (n - 1) Tryz.prog 69 #[.pointer (some ⟨w.heap.size + 1, 0, none⟩)] (fun x : ItT => x.enc) (KeptC w.heap.size) (fun ys => ys.map It.key = flatL L (-1)) (fun pre => pre.map It.key <+: flatL L (-1)) L.size ((w.alloc (.cells #[.int .i64 0] 3)).alloc (.cells #[.slice A len c] 23)) :=
    fun l J Jx W hW hJ _ hY h0 => each1_in F hd (n - 1) h49 h50 h48 hro l w.heap.size (w.heap.size + 1) N hN L (allT L _) A len c J Jx (fun s W o h => hJ s W _ none h (World.grownBy_alloc W o none) (fun r e => by cases e)) hY W
      (by rw [row_cell (show W.heap[w.heap.size + 1]? = _ from (hW.block _ (by simp)).trans g1)]; rfl) (hs.below ((hB0.mono hN).trans (hW.mono (by simp; omega)))) (by have := hW.size; simp at this; omega) h0
  have c0 : ((w.alloc (.cells #[.int .i64 0] 3)).alloc (.cells #[.slice A len c] 23)).cell? ⟨w.heap.size, 0, none⟩ = some (.int .i64 0) := by rw [row_cell g0]; rfl
  have f0 := row_frozen g0 0
  refine wpIn_rangeFunc_ownF hro h1 (gf := 69) (lb := #[.pointer (some ⟨w.heap.size + 1, 0, none⟩)]) rfl h49 (enters_of Tryz.func69 (by kernel_rfl) rfl)
    hseq (fun h k => h.trans k) (fun W l o o' _ h ho _ => KeptC.putObj W l o o' h ho) (Below.refl _ _) (fun _ => rfl)
    (fun pre W => (W.cell? ⟨w.heap.size, 0, none⟩ = some (.int .i64 pre.length) ∧ W.frozen? ⟨w.heap.size, 0, none⟩ = false ∧ pre.length ≤ 14) ∧ Below w.heap.size w W)
    (fun c pre W => (c = .exit 0 ∧ pre.length = 15 ∧ W.cell? ⟨w.heap.size, 0, none⟩ = some (.int .i64 15)) ∧ Below w.heap.size w W)
    (OwnFrom.and (Own.from (fun s A B row hs hg hr => ⟨cell_kept hs.1 hg hr, (frozen_kept hs.1 hg hr).trans hs.2.1, hs.2.2⟩) _) (ownFrom_below (Nat.le_refl _) (by simp; omega)))
    (fun c => OwnFrom.and (Own.from (fun s A B row hs hg hr => ⟨hs.1, hs.2.1, cell_kept hs.2.2 hg hr⟩) _) (ownFrom_below (Nat.le_refl _) (by simp; omega)))
    ⟨⟨c0, f0, by simp⟩, hB0⟩
    (fun x => { tmps := #[.slice A len c, undef, .int .i64 0, .pointer (some ⟨w.heap.size, 0, none⟩), .slice A len c, .func (.func 69) #[] #[.pointer (some ⟨w.heap.size + 1, 0, none⟩)], .agg #[.int .i64 x.k, .int .i64 x.x, .int .i64 x.y, .int .i64 x.n, x.vB, x.vE], .int .i64 x.r, undef, undef, undef, undef, undef], defers := [] }) ?assign ?body ?done ?stop
  case assign =>
    intro l x W K hK
    have e : ((#[6, 7] : Array Tmp).zip x.enc).foldl (fun t (p, v) => t.setIfInBounds p v) #[.slice A len c, undef, .int .i64 0, .pointer (some ⟨w.heap.size, 0, none⟩), .slice A len c, .func (.func 69) #[] #[.pointer (some ⟨w.heap.size + 1, 0, none⟩)], undef, undef, undef, undef, undef, undef, undef] =
        #[.slice A len c, undef, .int .i64 0, .pointer (some ⟨w.heap.size, 0, none⟩), .slice A len c, .func (.func 69) #[] #[.pointer (some ⟨w.heap.size + 1, 0, none⟩)], .agg #[.int .i64 x.k, .int .i64 x.x, .int .i64 x.y, .int .i64 x.n, x.vB, x.vE], .int .i64 x.r, undef, undef, undef, undef, undef] := by simp [It.enc]
    rw [e]
    gi_wp2
    exact hK
  case body =>
    rintro l pre x W ⟨⟨hc, hf, h14⟩, hB⟩ _
    clear hseq
    have bs : (W.setCell ⟨w.heap.size, 0, none⟩ (.int .i64 ((pre.length : Int) + 1))).cell? ⟨w.heap.size, 0, none⟩ = some (.int .i64 ((pre.length : Int) + 1)) := World.cell?_setCell_same' _ _ _ (by rw [hc]; rfl)
    by_cases h : 14 < pre.length + 1
    · have bs15 : (W.setCell ⟨w.heap.size, 0, none⟩ (.int .i64 ((pre.length : Int) + 1))).cell? ⟨w.heap.size, 0, none⟩ = some (.int .i64 15) := by rw [bs, show (pre.length : Int) + 1 = 15 from by omega]
      have BS := Lib.hid bs15
      clear bs bs15
      gi_wp2
      exact ⟨KeepsOthers.setCell _ _ _, ⟨rfl, by simp; omega, BS.out⟩, hB.setCell (p := ⟨w.heap.size, 0, none⟩) (Nat.le_refl _) _⟩
    · have BS := Lib.hid bs
      clear bs
      gi_wp2
      exact ⟨KeepsOthers.setCell _ _ _, KeptC.setCell _ _ _ _, ⟨by rw [BS.out]; simp, by rw [World.frozen?_setCell]; exact hf, by simp; omega⟩, hB.setCell (p := ⟨w.heap.size, 0, none⟩) (Nat.le_refl _) _⟩
  case done =>
    rintro D ys W hD hys ⟨⟨hc, _, h14⟩, hB⟩ hK
    gi_wp2
    refine ⟨by simp, .inl ⟨_, _, rfl, run_takeDeferred hK, ?_⟩⟩
    refine ⟨_, results_tmp rfl _ _ _, ?_, hB.trans (belowK_b (w := w) (Nat.le_refl _) W D _ _ (by simp at hD; omega) hK rfl rfl)⟩
    have hy2 := congrArg List.length hys
    rw [flatL_len, List.length_map] at hy2
    rw [cntI, if_pos (by omega), ← hy2]
    rfl
  case stop =>
    rintro D c pre W hD hpre ⟨⟨rfl, h15, hc⟩, hB⟩ hK
    gi_wp2
    refine ⟨by simp, .inl ⟨_, _, rfl, run_takeDeferred hK, ?_⟩⟩
    refine ⟨_, results_tmp rfl _ _ _, ?_, hB.trans (belowK_b (w := w) (Nat.le_refl _) W D _ _ (by simp at hD; omega) hK rfl rfl)⟩
    have hp2 := hpre.length_le
    rw [flatL_len, List.length_map] at hp2
    rw [cntI, if_neg (by omega)]
    rfl

/-- The program's countStmts. -/
theorem countStmts (L : SL) (A : Option Addr) (len c N : Nat) (w : World) (hs : Sl w N L A len c) (hN : N ≤ w.heap.size) :
    Calls Tryz.prog 27 #[.slice A len c] w fun e W' => e = .returned (.int .i64 (cntI L.size)) ∧ Below w.heap.size w W' :=
  (callsIn_wide (n := 3)).1 (count_in Fence.wide rfl 3 trivial trivial trivial trivial trivial rfl (by omega) L A len c N w hs hN)
end Go.Proofs.YtnfnjhbaaefbpaaGreatDoor
