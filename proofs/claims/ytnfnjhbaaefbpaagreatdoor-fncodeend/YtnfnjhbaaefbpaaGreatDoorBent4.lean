/- What the laws do to code that they have drawn. -/
import Derived.Test.YtnfnjhbaaefbpaaGreatDoorSome
import Derived.Test.YtnfnjhbaaefbpaaGreatDoorIns
import Derived.Deep.AppendLies
import Derived.Deep.RegionHeld3
namespace Go.Proofs.YtnfnjhbaaefbpaaGreatDoor
open Go.ChangeShapes Go.WideShapes Go.ChangeAt Go.RowKit

theorem info_In4 : (Tryz.prog.info? 34).map (fun i => (i.zero, i.size, i.bytes)) = some (some (.agg #[.int .i64 0, .int .i64 0, .int .i64 0, .int .i64 0]), 4, 32) := by kernel_rfl

/-- The first k of what is owned. -/
theorem own_take {w : World} {base : Nat} {e : TypeId} {z g n cap k : Nat} {xs : List Value} (h : w.ownsRow base e z (.slice (some ⟨g, 0, none⟩) n cap) n xs) (hk : k ≤ n) : w.ownsRow base e z (.slice (some ⟨g, 0, none⟩) k cap) k (xs.take (k * z)) := by
  obtain ⟨hl, ⟨h0, _⟩ | ⟨g', cap', cur, hv, hb, hr, h1, h2, h3, h4⟩⟩ := h
  · cases h0
  · simp only [Value.slice.injEq, Option.some.injEq, Addr.mk.injEq, and_true, true_and] at hv
    obtain ⟨rfl, rfl⟩ := hv
    have hkz : k * z ≤ n * z := Nat.mul_le_mul_right z hk
    refine ⟨by rw [List.length_take]; omega, .inr ⟨g, cap, cur, rfl, hb, hr, by omega, h2, h3, ?_⟩⟩
    rw [← h4, List.take_take, Nat.min_eq_left hkz]

theorem own_cap {w : World} {base : Nat} {e : TypeId} {z r n cap : Nat} {xs : List Value} (h : w.ownsRow base e z (.slice (some ⟨r, 0, none⟩) n cap) n xs) : n ≤ cap := by
  obtain ⟨_, ⟨h0, _⟩ | ⟨g', cap', cur, hv, hb, hr, h1, _⟩⟩ := h
  · cases h0
  · simp only [Value.slice.injEq, true_and] at hv
    obtain ⟨_, rfl⟩ := hv
    exact h1
theorem own_fl4 {w : World} {base : Nat} {e : TypeId} {z : Nat} {A : Option Addr} {c n : Nat} {xs : List Int} (ho : w.ownsRow base e z (.slice A n c) n (ints xs)) : Fl w (fun _ => True) z xs A n c := by
  obtain ⟨_, _, e, f⟩ := own_fl ho
  simp only [Value.slice.injEq, true_and] at e
  obtain ⟨rfl, rfl⟩ := e
  exact f.mono fun _ _ => trivial
theorem Fl.take4 {w : World} {S : Nat → Prop} {xs : List Int} {a : Addr} {n c k : Nat} (h : Fl w S 4 xs (Option.some a) n c) (hk : k ≤ n) : Fl w S 4 (xs.take (k * 4)) (Option.some a) k c :=
  ⟨by rw [List.length_take, h.len]; omega, by have := h.le; omega, h.top, (fun e => by cases e), fun b hb j hj => by
    rw [List.length_take] at hj
    obtain ⟨h1, h2⟩ := h.at_ b hb j (by omega)
    refine ⟨h1, ?_⟩
    rw [h2]
    simp only [List.getD_eq_getElem?_getD]
    rw [List.getElem?_take_of_lt (by omega)]⟩
theorem Fl.drop4 {w : World} {S : Nat → Prop} {xs : List Int} {g : Nat} {n c k : Nat} (h : Fl w S 4 xs (Option.some ⟨g, 0, none⟩) n c) (hk : k ≤ n) : Fl w S 4 (xs.drop (k * 4)) (Option.some ⟨g, k * 4, none⟩) (n - k) (c - k) :=
  ⟨by rw [List.length_drop, h.len]; omega, by have := h.le; omega, by have := h.top; omega, (fun e => by cases e), fun b hb j hj => by
    obtain rfl : b = ⟨g, k * 4, none⟩ := by injection hb with e; exact e.symm
    rw [List.length_drop] at hj
    obtain ⟨h1, h2⟩ := h.at_ ⟨g, 0, none⟩ rfl (k * 4 + j) (by omega)
    refine ⟨h1, ?_⟩
    rw [add_off] at h2
    rw [show (⟨g, k * 4, none⟩ : Addr).add j = ⟨g, k * 4 + j, none⟩ from by unfold Addr.add; split <;> simp_all, h2]
    simp only [List.getD_eq_getElem?_getD]
    rw [List.getElem?_drop]⟩

/-- Code that the call owns, with the reader behind it. -/
structure Out4 (w : World) (g : Nat) (q : Int) (v : Value) (n : Nat) (xs : List Int) (W : World) : Prop where
  own : W.ownsRow w.heap.size 34 4 v n (ints xs)
  rd : Rd W g q
  grown : w.grownBy W (some g)

def Bent4Post (M : Nat) (g : Nat) (p : Int) (w : World) (e : Ending) (w' : World) : Prop :=
  ∃ (ys : List Int) (m : Nat) (v : Value) (q : Int), e = .returned v ∧ m ≤ M ∧ p ≤ q ∧ q ≤ p + 4 ∧ Out4 w g q v m ys w'

theorem Out4.read {w : World} {g : Nat} {q q' : Int} {v : Value} {n : Nat} {xs : List Int} {W W' : World} (h : Out4 w g q v n xs W) (hg : W.grownBy W' (some g)) (hR : Rd W' g q') (hgl : g < w.heap.size) : Out4 w g q' v n xs W' :=
  ⟨own_block h.own fun b hb => hg.block b (own_at h.own hb).2 (fun e => by have := (own_at h.own hb).1; injection e; omega), hR, h.grown.trans hg⟩

theorem Out4.store {w : World} {g : Nat} {q : Int} {r n cap : Nat} {xs : List Int} {W : World} (h : Out4 w g q (.slice (some ⟨r, 0, none⟩) n cap) n xs W) (hgl : g < w.heap.size) (j : Nat) (x : Int) : Out4 w g q (.slice (some ⟨r, 0, none⟩) n cap) n (xs.set j x) (W.setCell ⟨r, j, none⟩ (.int .i64 x)) := by
  have hr := (own_at h.own (b := r) rfl).1
  obtain ⟨h1, h2⟩ := h.own.stored j (.int .i64 x)
  rw [ints_set] at h1
  obtain ⟨h3, h4⟩ := store_frame (j := j) (u := .int .i64 x) h.rd h.grown hgl hr
  exact ⟨h1, h3, h4⟩

section
variable {ops : Array Oper} {o : Oper} {a : Act} {K : Act → World → Prop} {Q : Exit → Act → World → Prop} {E : Prop} {W w4 : World}

/-- append of a slice of fours to a row of the call's own, at a step of a region that draws. -/
theorem step_app4 (hgd : o.guard = none) (s x : Operand) (ho : o.op = .call { callee := .builtin .append, args := #[s, x], argTypes := #[25, 25] })
    (v : Value) (n : Nat) (ys : List Int) (hs : a.eval s = v) (hown : W.ownsRow w4.heap.size 34 4 v n (ints ys)) (hB : Below w4.heap.size w4 W)
    (zs : List Int) (ad : Addr) (m c : Nat) (hx : a.eval x = .slice (some ad) m c) (hf : Fl W (fun _ => True) 4 zs (some ad) m c) (hb : n + m ≤ 100000)
    (h : ∀ v' w', w'.ownsRow w4.heap.size 34 4 v' (n + m) (ints (ys ++ zs)) → Below w4.heap.size w4 w' → (∀ b, b < W.heap.size → v.ownBlock ≠ some b → w'.heap[b]? = W.heap[b]?) → K (a.put o.dst v') w') :
    if Region.wanted o (yielded ops a.tmps) = true then Oper.wp Tryz.prog o a W K Q else E := by
  have hw : Region.wanted o (yielded ops a.tmps) = true := by simp [Region.wanted, hgd]
  rw [if_pos hw]
  obtain ⟨i0, hi, hz0, hz1, hz2⟩ := info_parts info_In4
  have hl := hf.len
  obtain ⟨v', w', hr, h2, h3, _, _⟩ := run_append_own_at (P := Tryz.prog) W w4.heap.size 25 o.type 34 i0 _ 4 32 Tryz.underlying25 hi hz0 hz1 hz2 rfl (by decide) v n (ints ys) hown ad m c (ints zs) (by rw [ints_len]; exact hl)
    (fun j u hj => by
      have hj' : j < zs.length := by have := (List.getElem?_eq_some_iff.1 hj).1; rwa [ints_len] at this
      rw [ints_get hj'] at hj
      rw [(hf.at_ ad rfl j hj').2, hj])
    (fun u hu => by obtain ⟨x, _, rfl⟩ := List.mem_map.1 hu; rfl) (by unfold maxLen; omega) (by omega) hB.size
  have hK := h v' w' (by rw [ints_app]; exact h2) (hB.trans ⟨h3.os, h3.tape, h3.output, by have := h3.size; exact this, fun k hk => h3.block k (by have := hB.size; omega) (fun e => by have := (own_at hown e.symm).1; omega)⟩) (fun b hb hne => h3.block b hb (fun e => hne e.symm))
  unfold Oper.wp execOp
  simp only [ho, resolve, invoke, builtin, Sem.run_bind, Sem.run_pure, Result.andThen_ok, List.map_toArray, List.map_cons, List.map_nil, hs, hx, hr]
  exact hK
end

/-- An empty row that has just been laid. -/
theorem lit0 {w4 : World} (W0 : World) (b : Nat) (hb : b = W0.heap.size) (h : w4.heap.size ≤ W0.heap.size) : (W0.alloc (.cells #[] 34)).ownsRow w4.heap.size 34 4 (.slice (some ⟨b, 0, none⟩) 0 0) 0 (ints []) := by
  subst hb
  exact World.ownsRow_lit W0 #[] 0 h (Nat.zero_le _) rfl
/-- One instruction that lies alone in a block. -/
theorem one4 {W : World} {b : Nat} {x y z u : Int} {t : TypeId} {fr : Nat × Nat} (h : W.heap[b]? = some (.cells #[.int .i64 x, .int .i64 y, .int .i64 z, .int .i64 u] t fr)) : Fl W (fun _ => True) 4 [x, y, z, u] (some ⟨b, 0, none⟩) 1 1 :=
  ⟨rfl, Nat.le_refl _, by unfold maxLen; omega, (fun h => by cases h), fun a ha j hj => by
    obtain rfl : a = ⟨b, 0, none⟩ := by injection ha with h; exact h.symm
    refine ⟨trivial, ?_⟩
    rw [add_off, cell_of_row W b j _ _ _ h]
    match j, hj with
    | 0, _ => rfl
    | 1, _ => rfl
    | 2, _ => rfl
    | 3, _ => rfl⟩

theorem size_one (w : World) (o : Obj) : (w.alloc o).heap.size = w.heap.size + 1 := by simp
theorem size_le (w : World) (o : Obj) : w.heap.size ≤ (w.alloc o).heap.size := by simp
theorem below_two (w : World) (o o' : Obj) : Below w.heap.size w ((w.alloc o).alloc o') := ((Below.refl _ _).alloc (Nat.le_refl _) _).alloc (by simp) _
theorem two_old (w : World) (vs : Array Value) (t : TypeId) (o : Obj) : ((w.alloc (.cells vs t)).alloc o).drew.heap[w.heap.size]? = some (.cells vs t (0, 0)) :=
  (Below.heap_alloc (w.alloc (.cells vs t)) o w.heap.size (by simp)).trans (new_row w vs t)
theorem two_young (w : World) (vs : Array Value) (t : TypeId) (o : Obj) : ((w.alloc o).alloc (.cells vs t)).drew.heap[w.heap.size + 1]? = some (.cells vs t (0, 0)) := by
  have h := new_row (w.alloc o) vs t
  rw [size_one] at h
  exact h

set_option maxRecDepth 100000 in
set_option maxHeartbeats 4000000 in
theorem bent4 {xs : List Int} {a : Addr} {n c : Nat} {S : Nat → Prop} (g : Nat) (p : Int) (w : World) (hs : Fl w S 4 xs (some a) n c) (h1 : 1 ≤ n) (hn : n ≤ 1000) (hR : Rd w g p) (hp0 : 0 ≤ p) (hp1 : p ≤ 900000000000) :
    Calls Tryz.prog 29 #[.pointer (some ⟨g, 0, none⟩), .slice (some a) n c] w (Bent4Post (n + 1) g p w) := by
  have hgl := hR.lt
  obtain ⟨i0, hi, hz0, hz1, hz2⟩ := info_parts info_In4
  have hl := hs.len
  have hcell : ∀ j u, (ints xs)[j]? = some u → (w.alloc (.cells #[] 34)).cell? (a.add j) = some u := fun j u h => by
    have hj : j < xs.length := by have := (List.getElem?_eq_some_iff.1 h).1; rwa [ints_len] at this
    rw [ints_get hj] at h
    have h2 := (hs.at_ a rfl j hj).2
    rw [World.cell?_of_block (w := w) (Below.heap_alloc w _ _ (World.block_lt_of_cell? _ _ h2)), h2, h]
  have hone : ∀ u ∈ ints xs, u.oneCell' = true := fun u hu => by
    obtain ⟨x, _, rfl⟩ := List.mem_map.1 hu
    rfl
  have hown0 : (w.alloc (.cells #[] 34)).ownsRow w.heap.size 34 4 (.slice (some ⟨w.heap.size, 0, none⟩) 0 0) 0 [] := World.ownsRow_lit w #[] 0 (Nat.le_refl _) (Nat.zero_le _) rfl
  have HC := Lib.hid hcell
  have HO := Lib.hid hone
  have HX := Lib.hid (show (ints xs).length = n * 4 by rw [ints_len]; exact hl)
  clear hcell hone hl
  go_enter Tryz.func29, Tryz.ntmps29
  go_wp2_with (at_builtin; refine wpList_append_at _ rfl (.tmp 7) (.tmp 8) 25 rfl w.heap.size 34 i0 _ 4 32 Tryz.underlying25 hi hz0 hz1 hz2 rfl (by decide) _ _ _ rfl hown0 a n c (ints xs) rfl HX.out HC.out HO.out (by unfold maxLen; omega) (by omega) (by simp) (by omega) ?_)
  intro v' w1 ho1 hg1 hw1
  obtain ⟨r, cap, rfl, hr0, hr1⟩ := own_some ho1 (fun e => by rw [e] at hw1; simp [Value.ownBlock] at hw1)
  have K1 : Out4 w g p (.slice (some ⟨r, 0, none⟩) n cap) n xs w1 :=
    ⟨by simpa using ho1, (hR.alloc (.cells #[] 34)).keep fun k hk => hg1.block k (by simp; omega) (fun e => by simp [Value.ownBlock] at e; omega),
      grown_own (World.grownBy_alloc w (.cells #[] 34) (some g)) hg1 (fun b hb => by simp [Value.ownBlock] at hb; omega)⟩
  clear ho1 hg1 hw1 hown0 HC HO
  have hnz : ((n : Int) == 0) = false := beq_eq_false_iff_ne.2 (by omega)
  go_wp2_with fail
  refine (pick g p 3 _ K1.rd hp0 (by omega) (by omega)).mono ?_
  rintro e w2 ⟨k, k0, k1, rfl, hR2, hg2⟩
  have K2 := K1.read hg2 hR2 hgl
  clear K1 hR2 hg2
  by_cases hk : 0 < k
  · have HF := Lib.hid (show Bent4Post (n + 1) g p w (.returned (.slice (some ⟨r, 0, none⟩) n cap)) w2 from ⟨xs, n, _, p + 1, rfl, by omega, by omega, by omega, K2⟩)
    clear K2
    go_wp2_with fail
    go_ret
    exact HF.out
  · go_wp2_with fail
    refine (pick g (p + 1) n _ K2.rd (by omega) (by omega) (by omega)).mono ?_
    rintro e w3 ⟨z, z0, z1, rfl, hR3, hg3⟩
    obtain ⟨kn, rfl⟩ := Int.eq_ofNat_of_zero_le z0
    have hkn : kn < n := by omega
    have K3 := K2.read hg3 hR3 hgl
    clear K2 hR3 hg3 hk k0 k1
    go_wp2_with fail
    refine (pick g (p + 1 + 1) 6 _ K3.rd (by omega) (by omega) (by omega)).mono ?_
    rintro e w4 ⟨z, z0', z1', rfl, hR4, hg4⟩
    have K4 := K3.read hg4 hR4 hgl
    clear K3 hR4 hg4
    have hz : z = 0 ∨ z = 1 ∨ z = 2 ∨ z = 3 ∨ z = 4 ∨ z = 5 := by omega
    clear z0' z1'
    rcases hz with rfl | rfl | rfl | rfl | rfl | rfl
    · go_wp2_with fail
      refine (num_row1 g (p + 1 + 1 + 1) _ _ _ _ _ (-1) 14 rfl K4.rd (by omega) (by omega) (by rfl) (by decide) (by decide) (by simp [intsIn])).mono ?_
      rintro e w5 ⟨x, _, rfl, hR5, hg5⟩
      have K5 := K4.read hg5 hR5 hgl
      have cc := K5.own.cellAt (kn * 4) (by omega)
      have hxl := HX.out
      rw [ints_len] at hxl
      rw [ints_get (by omega)] at cc
      have cf := K5.own.frozenAt (kn * 4)
      have HF := Lib.hid (show Bent4Post (n + 1) g p w (.returned (.slice (some ⟨r, 0, none⟩) n cap)) _ from ⟨_, n, _, p + 1 + 1 + 1 + 1, rfl, by omega, by omega, by omega, K5.store hgl (kn * 4) x⟩)
      clear K4 K5 hR5 hg5
      go_wp2_with fail
      go_ret
      exact HF.out
    · go_wp2_with fail
      refine (num_row1 g (p + 1 + 1 + 1) _ _ _ _ _ (-1) 14 rfl K4.rd (by omega) (by omega) (by rfl) (by decide) (by decide) (by simp [intsIn])).mono ?_
      rintro e w5 ⟨x, _, rfl, hR5, hg5⟩
      have K5 := K4.read hg5 hR5 hgl
      have cc := K5.own.cellAt (kn * 4 + 1) (by omega)
      have hxl := HX.out
      rw [ints_len] at hxl
      rw [ints_get (by omega)] at cc
      have cf := K5.own.frozenAt (kn * 4 + 1)
      have HF := Lib.hid (show Bent4Post (n + 1) g p w (.returned (.slice (some ⟨r, 0, none⟩) n cap)) _ from ⟨_, n, _, p + 1 + 1 + 1 + 1, rfl, by omega, by omega, by omega, K5.store hgl (kn * 4 + 1) x⟩)
      clear K4 K5 hR5 hg5
      go_wp2_with fail
      go_ret
      exact HF.out
    · go_wp2_with fail
      refine (num_row1 g (p + 1 + 1 + 1) _ _ _ _ _ (-1) 1000 rfl K4.rd (by omega) (by omega) (by rfl) (by decide) (by decide) (by simp [intsIn]; omega)).mono ?_
      rintro e w5 ⟨x, _, rfl, hR5, hg5⟩
      have K5 := K4.read hg5 hR5 hgl
      have cc := K5.own.cellAt (kn * 4 + 3) (by omega)
      have hxl := HX.out
      rw [ints_len] at hxl
      rw [ints_get (by omega)] at cc
      have cf := K5.own.frozenAt (kn * 4 + 3)
      have HF := Lib.hid (show Bent4Post (n + 1) g p w (.returned (.slice (some ⟨r, 0, none⟩) n cap)) _ from ⟨_, n, _, p + 1 + 1 + 1 + 1, rfl, by omega, by omega, by omega, K5.store hgl (kn * 4 + 3) x⟩)
      clear K4 K5 hR5 hg5
      go_wp2_with fail
      go_ret
      exact HF.out
    · have HF := Lib.hid (show Bent4Post (n + 1) g p w (.returned (.slice (some ⟨r, 0, none⟩) kn cap)) w4 from ⟨xs.take (kn * 4), kn, _, p + 1 + 1 + 1, rfl, by omega, by omega, by omega, ⟨by have := own_take K4.own (Nat.le_of_lt hkn); rwa [show (ints xs).take (kn * 4) = ints (xs.take (kn * 4)) from by simp [ints, List.map_take]] at this, K4.rd, K4.grown⟩⟩)
      have hnc : n ≤ cap := by
        obtain ⟨_, ⟨h0, _⟩ | ⟨g', cap', cur, hv, hb, hr, h1, _⟩⟩ := K4.own
        · cases h0
        · simp only [Value.slice.injEq, true_and] at hv
          obtain ⟨_, rfl⟩ := hv
          exact h1
      clear K4
      go_wp2_with fail
      go_ret
      exact HF.out
    · have hnc : n ≤ cap := own_cap K4.own
      have hxl := HX.out
      rw [ints_len] at hxl
      have f4 := own_fl4 K4.own
      have HF1 := Lib.hid (fun (W : World) (hW : Below w4.heap.size w4 W) => (f4.later hW).take4 (Nat.le_of_lt hkn))
      have HF2 := Lib.hid (fun (W : World) (hW : Below w4.heap.size w4 W) => (f4.later hW).drop4 (Nat.le_of_lt hkn))
      obtain ⟨c0, c1, c2, c3⟩ := f4.four kn hkn
      rw [add_off] at c0 c1 c2 c3
      generalize xs.getD (kn * 4) 0 = x0 at c0
      generalize xs.getD (kn * 4 + 1) 0 = x1 at c1
      generalize xs.getD (kn * 4 + 2) 0 = x2 at c2
      generalize xs.getD (kn * 4 + 3) 0 = x3 at c3
      have hr4 := (own_at K4.own (b := r) rfl).2
      have ks : ∀ W, Below w4.heap.size w4 W → (W.cell? ⟨r, kn * 4, none⟩ = some (.int .i64 x0) ∧ W.cell? ⟨r, kn * 4 + 1, none⟩ = some (.int .i64 x1) ∧ W.cell? ⟨r, kn * 4 + 2, none⟩ = some (.int .i64 x2) ∧ W.cell? ⟨r, kn * 4 + 3, none⟩ = some (.int .i64 x3) ∧ Below w4.heap.size w4 W) := fun W hW =>
        ⟨(hW.cell hr4).trans c0, (hW.cell (p := ⟨r, _, none⟩) hr4).trans c1, (hW.cell (p := ⟨r, _, none⟩) hr4).trans c2, (hW.cell (p := ⟨r, _, none⟩) hr4).trans c3, hW⟩
      have KS := Lib.hid ks
      have K4' := Lib.hid K4
      have g1 : (0 : Int) ≤ (kn : Int) := by omega
      have g2 : (kn : Int) < (n : Int) := by omega
      have g3 : (kn : Int) ≤ (n : Int) := by omega
      have g4 : (n : Int) ≤ (cap : Int) := by omega
      have g5 : (kn : Int) ≤ (cap : Int) := by omega
      have g6 : ¬ cap = kn := by omega
      clear ks K4 f4 hs
      go_wp2_with fail
      go_region_held3 (fun W => W.cell? ⟨r, kn * 4, none⟩ = some (.int .i64 x0) ∧ W.cell? ⟨r, kn * 4 + 1, none⟩ = some (.int .i64 x1) ∧ W.cell? ⟨r, kn * 4 + 2, none⟩ = some (.int .i64 x2) ∧ W.cell? ⟨r, kn * 4 + 3, none⟩ = some (.int .i64 x3) ∧ Below w4.heap.size w4 W)
        (first | exact KS.out _ bC | exact KS.out _ bB | exact KS.out _ bA | exact KS.out _ (bA.alloc bA.size _) | exact KS.out _ (Below.refl _ _) | exact KS.out _ (Below.refl _ _).drew
               | exact KS.out _ ((Below.refl _ _).alloc (Nat.le_refl _) _) | exact KS.out _ ((Below.refl _ _).alloc (Nat.le_refl _) _).drew
               | exact KS.out _ (below_two _ _ _) | exact KS.out _ (below_two _ _ _).drew)
        (first
          | (refine step_app4 (w4 := w4) rfl (.tmp 74) (.tmp 77) rfl _ 0 [] rfl ?ownA ?belowA (xs.take (kn * 4)) ⟨r, 0, none⟩ kn cap rfl ?flA ?leA ?_
             case ownA => first | exact (lit0 w4 _ rfl (Nat.le_refl _)).drew | exact ((lit0 w4 _ rfl (Nat.le_refl _)).alloc _).drew | exact (lit0 (w4.alloc _) _ (size_one _ _).symm (size_le _ _)).drew
             case belowA => first | exact ((Below.refl _ _).alloc (Nat.le_refl _) _).drew | exact (below_two _ _ _).drew
             case flA => first | exact HF1.out _ ((Below.refl _ _).alloc (Nat.le_refl _) _).drew | exact HF1.out _ (below_two _ _ _).drew
             case leA => omega
             intro vA wA oA bA fA)
          | (refine step_app4 (w4 := w4) rfl (.tmp 84) (.tmp 87) rfl _ _ _ rfl oB bB (xs.drop (kn * 4)) ⟨r, kn * 4, none⟩ (n - kn) (cap - kn) rfl (HF2.out _ bB) ?leC ?_
             case leC => omega
             intro vC wC oC bC fC)
          | (refine step_app4 (w4 := w4) rfl (.tmp 78) (.tmp 83) rfl _ (0 + kn) ([] ++ xs.take (kn * 4)) rfl ?ownB ?belowB [x0, x1, x2, x3] _ 1 1 rfl ?flB ?leB ?_
             case ownB => first | exact oA | exact oA.alloc _
             case belowB => first | exact bA | exact bA.alloc bA.size _
             case flB => first | exact one4 (new_row wA _ _) | exact one4 ((fA w4.heap.size (by simp; omega) (by show (Value.slice (some ⟨w4.heap.size + 1, 0, none⟩) 0 0).ownBlock ≠ _; simp [Value.ownBlock])).trans (two_old w4 _ _ _)) | exact one4 ((fA (w4.heap.size + 1) (by simp) (by show (Value.slice (some ⟨w4.heap.size, 0, none⟩) 0 0).ownBlock ≠ _; simp [Value.ownBlock])).trans (two_young w4 _ _ _))
             case leB => omega
             intro vB wB oB bB fB))
      all_goals
        have HF := Lib.hid (show Bent4Post (n + 1) g p w (.returned vC) wC from ⟨_, _, vC, p + 1 + 1 + 1, rfl, by omega, by omega, by omega, ⟨own_mono oC (K4'.out.grown.size), K4'.out.rd.below bC (by have := K4'.out.grown.size; omega), grown_below K4'.out.grown bC⟩⟩)
        clear oA oB oC fA fB fC bA bB bC
        go_wp2_with fail
        go_ret
        exact HF.out
    · have hnc : n ≤ cap := own_cap K4.own
      have f4 := own_fl4 K4.own
      have HF1 := Lib.hid (fun (W : World) (hW : Below w4.heap.size w4 W) => (f4.later hW).take4 (Nat.le_of_lt hkn))
      have HF2 := Lib.hid (fun (W : World) (hW : Below w4.heap.size w4 W) => (f4.later hW).drop4 (k := kn + 1) hkn)
      have K4' := Lib.hid K4
      have g1 : (0 : Int) ≤ (kn : Int) := by omega
      have g3 : (kn : Int) ≤ (n : Int) := by omega
      have g5 : (kn : Int) ≤ (cap : Int) := by omega
      have g7 : (kn : Int) + 1 ≤ (n : Int) := by omega
      have g8 : (kn : Int) + 1 ≤ (cap : Int) := by omega
      have g9 : (0 : Int) ≤ (kn : Int) + 1 := by omega
      have g10 : IntKind.i64.wrap ((kn : Int) + 1) = (kn : Int) + 1 := by rw [IntKind.wrap_i64]; omega
      have hc63 : cap ≤ 9223372036854775807 := by have := f4.top; unfold maxLen at this; omega
      clear K4 hs
      by_cases hc : cap = kn + 1
      · obtain rfl : n = kn + 1 := by omega
        subst hc
        have g12 : (kn : Int) ≤ (kn : Int) + 1 := by omega
        have HF0 := Lib.hid (fun (W : World) (_ : Below w4.heap.size w4 W) => (show Fl W (fun _ => True) 4 [] (some ⟨r, 0, none⟩) 0 0 from ⟨rfl, Nat.le_refl _, Nat.zero_le _, fun _ => rfl, fun a _ j hj => by simp at hj⟩))
        clear f4
        go_wp2_with fail
        go_region_held3 (fun W => Below w4.heap.size w4 W)
          (first | exact bC | exact bA | exact Below.refl _ _ | exact (Below.refl _ _).drew | exact (Below.refl _ _).alloc (Nat.le_refl _) _ | exact ((Below.refl _ _).alloc (Nat.le_refl _) _).drew)
          (first
            | (refine step_app4 (w4 := w4) rfl (.tmp 25) (.tmp 28) rfl _ 0 [] rfl (lit0 w4 _ rfl (Nat.le_refl _)).drew ((Below.refl _ _).alloc (Nat.le_refl _) _).drew (xs.take (kn * 4)) ⟨r, 0, none⟩ kn (kn + 1) rfl (HF1.out _ ((Below.refl _ _).alloc (Nat.le_refl _) _).drew) ?leD ?_
               case leD => omega
               intro vA wA oA bA fA)
            | (refine step_app4 (w4 := w4) rfl (.tmp 29) (.tmp 33) rfl _ _ _ rfl oA bA [] ⟨r, 0, none⟩ 0 0 rfl (HF0.out _ bA) ?leE ?_
               case leE => omega
               intro vC wC oC bC fC))
        all_goals
          have HF := Lib.hid (show Bent4Post (kn + 1 + 1) g p w (.returned vC) wC from ⟨_, _, vC, p + 1 + 1 + 1, rfl, by omega, by omega, by omega, ⟨own_mono oC (K4'.out.grown.size), K4'.out.rd.below bC (by have := K4'.out.grown.size; omega), grown_below K4'.out.grown bC⟩⟩)
          clear oA oC fA fC bA bC
          go_wp2_with fail
          go_ret
          exact HF.out
      · clear f4
        have g11 : ¬ (cap : Int) = (kn : Int) + 1 := by omega
        go_wp2_with fail
        go_region_held3 (fun W => Below w4.heap.size w4 W)
          (first | exact bC | exact bA | exact Below.refl _ _ | exact (Below.refl _ _).drew | exact (Below.refl _ _).alloc (Nat.le_refl _) _ | exact ((Below.refl _ _).alloc (Nat.le_refl _) _).drew)
          (first
            | (refine step_app4 (w4 := w4) rfl (.tmp 25) (.tmp 28) rfl _ 0 [] rfl (lit0 w4 _ rfl (Nat.le_refl _)).drew ((Below.refl _ _).alloc (Nat.le_refl _) _).drew (xs.take (kn * 4)) ⟨r, 0, none⟩ kn cap rfl (HF1.out _ ((Below.refl _ _).alloc (Nat.le_refl _) _).drew) ?leF ?_
               case leF => omega
               intro vA wA oA bA fA)
            | (refine step_app4 (w4 := w4) rfl (.tmp 29) (.tmp 33) rfl _ _ _ rfl oA bA (xs.drop ((kn + 1) * 4)) ⟨r, (kn + 1) * 4, none⟩ (n - (kn + 1)) (cap - (kn + 1)) rfl (HF2.out _ bA) ?leG ?_
               case leG => omega
               intro vC wC oC bC fC))
        all_goals
          have HF := Lib.hid (show Bent4Post (n + 1) g p w (.returned vC) wC from ⟨_, _, vC, p + 1 + 1 + 1, rfl, by omega, by omega, by omega, ⟨own_mono oC (K4'.out.grown.size), K4'.out.rd.below bC (by have := K4'.out.grown.size; omega), grown_below K4'.out.grown bC⟩⟩)
          clear oA oC fA fC bA bC
          go_wp2_with fail
          go_ret
          exact HF.out
end Go.Proofs.YtnfnjhbaaefbpaaGreatDoor
