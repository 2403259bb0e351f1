/- What the laws draw of chapter 2: some statement. -/
import Derived.Test.YtnfnjhbaaefbpaaGreatDoorDraw
import Derived.Deep.RegionWith
namespace Go.Proofs.YtnfnjhbaaefbpaaGreatDoor
open Go.ChangeShapes Go.WideShapes Go.ChangeAt Go.RowKit

/-- All of a row are integers within bounds. -/
def intsIn (vs : Array Value) (lo hi : Int) : Bool := vs.all fun v => match v with
  | .int .i64 x => decide (lo ≤ x ∧ x ≤ hi)
  | _ => false

theorem intsIn_get {vs : Array Value} {lo hi : Int} (h : intsIn vs lo hi = true) {i : Nat} (hi' : i < vs.size) : ∃ x : Int, vs[i]? = some (.int .i64 x) ∧ lo ≤ x ∧ x ≤ hi := by
  have := (Array.all_eq_true.1 h) i hi'
  split at this
  · rename_i x hx
    exact ⟨x, by rw [Array.getElem?_eq_getElem hi', hx], of_decide_eq_true this⟩
  · cases this

/-- One of a row of integers that has just been written out. -/
theorem num_row (g : Nat) (p : Int) (w : World) (vs : Array Value) (t : TypeId) (n : Nat) (lo hi : Int) (h : Rd w g p) (hp : 0 ≤ p) (hp' : p ≤ 1000000000000) (hn : vs.size = n) (hl : 1 ≤ n) (hl' : n ≤ 1000000) (hin : intsIn vs lo hi = true) :
    Calls Tryz.prog 56 #[.pointer (some ⟨g, 0, none⟩), .slice (some ⟨w.heap.size, 0, none⟩) n n] (w.alloc (.cells vs t)) fun e w' => ∃ x : Int, (lo ≤ x ∧ x ≤ hi) ∧ e = .returned (.int .i64 x) ∧ Rd w' g (p + 1) ∧ w.grownBy w' (some g) := by
  subst hn
  have hcell : ∀ i, (w.alloc (.cells vs t)).cell? ((⟨w.heap.size, 0, none⟩ : Addr).add i) = vs[i]? := fun i => by rw [add_off, row_cell (new_row w vs t)]
  refine (num g p _ _ _ _ (h.alloc _) hp hp' hl hl' (by have := h.lt; show w.heap.size ≠ g; omega) (fun i hi => by obtain ⟨x, hx, _⟩ := intsIn_get hin hi; exact ⟨x, by rw [hcell]; exact hx⟩)).mono ?_
  rintro e w' ⟨k, x, hk, hc, rfl, hR, hg⟩
  obtain ⟨x', hx', hb⟩ := intsIn_get hin hk
  rw [hcell, hx'] at hc
  injection hc with hc
  injection hc with _ hc
  subst hc
  exact ⟨x', hb, rfl, hR, (World.grownBy_alloc w _ (some g)).trans hg⟩

/-- Behind six stores into the result's block. -/
theorem Inv.stored {w : World} {g : Nat} {p q : Int} {m : Nat} {wc : World} (h : Inv w g p q m wc) (v0 v1 v2 v3 v4 v5 : Value) :
    Rd (set6 wc w.heap.size 0 v0 v1 v2 v3 v4 v5) g q ∧ w.grownBy (set6 wc w.heap.size 0 v0 v1 v2 v3 v4 v5) (some g) := by
  have hb : Below w.heap.size wc (set6 wc w.heap.size 0 v0 v1 v2 v3 v4 v5) := set6_below v0 v1 v2 v3 v4 v5 (Below.refl w.heap.size wc) (Nat.le_refl _)
  generalize set6 wc w.heap.size 0 v0 v1 v2 v3 v4 v5 = ws at hb ⊢
  have hgl := h.gl
  exact ⟨h.rd.keep fun k hle => hb.block k (by omega), ⟨hb.os.trans h.gr.os, hb.tape.trans h.gr.tape, hb.output.trans h.gr.output, Nat.le_trans h.gr.size hb.size, fun k hlt hne => (hb.block k hlt).trans (h.gr.block k hlt hne)⟩⟩

/-- What was drawn, in the result's block. -/
theorem Inv.full {w : World} {g : Nat} {p q : Int} {m : Nat} {wc : World} (h : Inv w g p q m wc) (k x y n : Int) {B E : SL} {A A' : Option Addr} {c c' : Nat} (hB : SlP wc (fun b => w.heap.size < b ∧ b < wc.heap.size) B A B.len c) (hE : SlP wc (fun b => w.heap.size < b ∧ b < wc.heap.size) E A' E.len c') (hs : B.size + E.size ≤ m) :
    StPost m g p w (.returned (.agg #[.int .i64 k, .int .i64 x, .int .i64 y, .int .i64 n, .slice A B.len c, .slice A' E.len c'])) (set6 wc w.heap.size 0 (.int .i64 k) (.int .i64 x) (.int .i64 y) (.int .i64 n) (.slice A B.len c) (.slice A' E.len c')) := by
  obtain ⟨h1, h2⟩ := h.stored (.int .i64 k) (.int .i64 x) (.int .i64 y) (.int .i64 n) (.slice A B.len c) (.slice A' E.len c')
  have hk : ∀ p : Addr, (w.heap.size < p.block ∧ p.block < wc.heap.size) → (set6 wc w.heap.size 0 (.int .i64 k) (.int .i64 x) (.int .i64 y) (.int .i64 n) (.slice A B.len c) (.slice A' E.len c')).cell? p = wc.cell? p := fun p hp => set6_other (by omega)
  have hsz := set6_size wc w.heap.size 0 (.int .i64 k) (.int .i64 x) (.int .i64 y) (.int .i64 n) (.slice A B.len c) (.slice A' E.len c')
  have hm : ∀ b, (w.heap.size < b ∧ b < wc.heap.size) → Born w (set6 wc w.heap.size 0 (.int .i64 k) (.int .i64 x) (.int .i64 y) (.int .i64 n) (.slice A B.len c) (.slice A' E.len c')) b := fun b hb => ⟨Nat.le_of_lt hb.1, by rw [hsz]; exact hb.2⟩
  exact ⟨k, x, y, n, B, E, A, c, A', c', q, rfl, (hB.keep hk).mono hm, (hE.keep hk).mono hm, hs, h.lo, h.hi, h1, h2⟩
theorem none_in (w : World) (S : Nat → Prop) : SlP w S .nil none SL.nil.len 0 := ⟨rfl, Nat.le_refl _, Nat.zero_le _, fun _ => rfl, fun p hp => by cases hp⟩
theorem Inv.leaf {w : World} {g : Nat} {p q : Int} {m : Nat} {wc : World} (h : Inv w g p q m wc) (k x y n : Int) :
    StPost m g p w (.returned (.agg #[.int .i64 k, .int .i64 x, .int .i64 y, .int .i64 n, .slice none 0 0, .slice none 0 0])) (set6 wc w.heap.size 0 (.int .i64 k) (.int .i64 x) (.int .i64 y) (.int .i64 n) (.slice none 0 0) (.slice none 0 0)) :=
  h.full k x y n (none_in _ _) (none_in _ _) (by simp [SL.size])

set_option maxRecDepth 100000 in
set_option maxHeartbeats 20000000 in
theorem draw_of (d : Int) (m' : Nat) (T : Int) (hT : T ≤ 500000000000) (hd1 : 1 ≤ d) (hd3 : d ≤ 3) (hm : m' ≤ 1000000) (hrec : 2 ≤ d → DrawsSays (d - 1) m' (T + 10000000)) : DrawSays d (2 * m' + 10) T := by
  intro g p r w hR hp0 hp1
  have HREC := Lib.hid hrec
  clear hrec
  have hgl := hR.lt
  obtain ⟨i0, hi, hz0, hz1, hz2⟩ := info_parts info_St
  have inv0 : Inv w g p p (2 * m' + 10) (w.alloc (.cells #[.int .i64 0, .int .i64 0, .int .i64 0, .int .i64 0, .slice none 0 0, .slice none 0 0] 36)) := ⟨hR.alloc _, Int.le_refl _, by omega, World.grownBy_alloc w _ _, by simp, new_row _ _ _, hgl⟩
  go_enter Tryz.func57, Tryz.ntmps57
  go_wp2_with fail
  refine (pick g p _ _ inv0.rd hp0 (by omega) (by omega)).mono ?_
  rintro e w1 ⟨a, a0, a1, rfl, hR1, hg1⟩
  have inv1 := inv0.step hR1 (by omega) (by omega) hg1
  clear inv0 hR1 hg1
  go_wp2_with fail
  refine (pick g (p + 1) _ _ inv1.rd (by omega) (by omega) (by omega)).mono ?_
  rintro e w2 ⟨b, b0, b1, rfl, hR2, hg2⟩
  have inv2 := inv1.step hR2 (by omega) (by omega) hg2
  clear inv1 hR2 hg2
  go_wp2_with fail
  refine (num_new g (p + 1 + 1) w2 [1, 2, 3, 4, 5, 3, 4, 2, 8, 6, 7, 10, 9, 11, 8, 5] _ _ _ inv2.rd (by omega) (by omega) rfl rfl (by decide) (by decide)).mono ?_
  rintro e w3 ⟨kd, hkd, rfl, hR3, hg3⟩
  have inv3 := inv2.step hR3 (by omega) (by omega) hg3
  clear inv2 hR3 hg3
  have hk1 : 1 ≤ kd := by simp at hkd; omega
  have hk2 : kd ≤ 11 := by simp at hkd; omega
  clear hkd
  have inv := inv3
  clear inv3
  obtain ⟨hcl, hfz⟩ := inv.cells
  go_wp2_with (first
    | (go_at_call 55; ((with_reducible refine (pick g _ _ _ inv.rd (by omega) (by omega) (by omega)).mono ?_); rintro e wn ⟨xk, x0, x1, rfl, hRn, hgn⟩; replace inv := inv.step hRn (by omega) (by omega) hgn; clear hRn hgn hcl hfz; obtain ⟨hcl, hfz⟩ := inv.cells))
    | (go_at_call_of 56 (Value.slice (some ⟨w3.heap.size, 0, none⟩) 5 5); (refine (num_row g _ _ _ _ _ 1 5 inv.rd (by omega) (by omega) (by rfl) (by decide) (by decide) (by simp [intsIn])).mono ?_); rintro e wn ⟨xn, ⟨y1, y2⟩, rfl, hRn, hgn⟩; replace inv := inv.step hRn (by omega) (by omega) hgn; clear hRn hgn hcl hfz; obtain ⟨hcl, hfz⟩ := inv.cells)
    | (go_at_call 56; (refine (num_row g _ _ _ _ _ (-1) 5 inv.rd (by omega) (by omega) (by rfl) (by decide) (by decide) (by simp [intsIn])).mono ?_); rintro e wn ⟨xm, _, rfl, hRn, hgn⟩; replace inv := inv.step hRn (by omega) (by omega) hgn; clear hRn hgn hcl hfz; obtain ⟨hcl, hfz⟩ := inv.cells))
  all_goals first
    | (refine bodyPost_ret (by simp [results, Tryz.results57, go_sem, hcl]; exact rfl) rfl ?_; exact inv.leaf _ _ _ _)
    | skip
  all_goals
    have hd2 : 2 ≤ d := by omega
    refine (HREC.out hd2 g _ _ _ _ inv.rd (by omega) (by omega) (by omega) (by omega)).mono ?_
    rintro e wa ⟨va, La, qa, rfl, hoa, hla, hsa, hq0, hq1, hRa, hga⟩
    have inva := inv.step hRa (by omega) (by omega) hga
    obtain ⟨Aa, ca, rfl, sla⟩ := hoa.sl
    clear hcl hfz
    obtain ⟨hcl, hfz⟩ := inva.cells
    go_wp2_with fail
  · have hwl := inv.lt
    refine bodyPost_ret (v := .agg #[.int .i64 8, .int .i64 xk, .int .i64 0, .int .i64 0, .slice Aa La.len ca, .slice none 0 0]) (by simp [results, Tryz.results57, go_sem, hcl]) rfl ?_
    exact inva.full 8 xk 0 0 (sla.mono fun b hb => ⟨by have := hb.1; omega, hb.2⟩) (none_in _ _) (by simp [SL.size]; omega)
  · obtain rfl : kd = 6 := by have h : (kd == 6) = true := by assumption
                              simpa using h
    have hwl := inv.lt
    refine (HREC.out hd2 g _ _ _ _ inva.rd (by omega) (by omega) (by omega) (by omega)).mono ?_
    rintro e wb ⟨vb, Lb, qb, rfl, hob, hlb, hsb, hq2, hq3, hRb, hgb⟩
    have invb := inva.step hRb (by omega) (by omega) hgb
    obtain ⟨Ab, cb, rfl, slb⟩ := hob.sl
    have hwa := hga.size
    have slb' := sla.keep (grown_keep hgb fun b hb => ⟨hb.2, fun e => by have := hb.1; injection e; omega⟩)
    have hwb := hgb.size
    clear hcl hfz
    obtain ⟨hcl, hfz⟩ := invb.cells
    go_wp2_with fail
    refine bodyPost_ret (v := .agg #[.int .i64 6, .int .i64 a, .int .i64 0, .int .i64 0, .slice Aa La.len ca, .slice Ab Lb.len cb]) (by simp [results, Tryz.results57, go_sem, hcl]) rfl ?_
    exact invb.full 6 a 0 0 (slb'.mono fun b hb => ⟨by have := hb.1; omega, by have := hb.2; omega⟩) (slb.mono fun b hb => ⟨by have := hb.1; omega, hb.2⟩) (by omega)
  · obtain rfl : kd = 7 := by have h : (kd == 7) = true := by assumption
                              simpa using h
    have hwl := inv.lt
    have hwa := hga.size
    refine (num_row g _ _ _ _ _ (-1) 5 inva.rd (by omega) (by omega) (by rfl) (by decide) (by decide) (by simp [intsIn])).mono ?_
    rintro e wb ⟨xm, _, rfl, hRb, hgb⟩
    have invb := inva.step hRb (by omega) (by omega) hgb
    have hwb := hgb.size
    obtain ⟨xs, ho1, ho2⟩ := hoa
    have hnb : v_blk (.slice Aa La.len ca) g := fun e => by have := (own_blocks ho1 e).1; omega
    have hvb := fun b hb => (own_blocks ho1 (b := b) hb).2
    have h1 : wb.ownsRow w3.heap.size 36 6 (.slice Aa La.len ca) La.len xs := ho1.kept hgb (.inr hnb)
    have h2 : Dec wb (fun b => Born w3 wa b ∧ (Value.slice Aa La.len ca).ownBlock ≠ some b) La xs := ho2.keep (grown_keep hgb fun b hb => ⟨hb.1.2, fun e => by have := hb.1.1; injection e; omega⟩)
    have H2 := Lib.hid h2
    have HV := Lib.hid hvb
    have hrow : ∀ b, (Value.slice Aa La.len ca).ownBlock = some b → w3.heap.size ≤ b := fun b hb => (own_blocks ho1 hb).1
    have HR := Lib.hid hrow
    clear ho1 ho2 h2 hvb hcl hfz hrow sla
    go_wp2_with (at_builtin; refine wpList_append_at _ rfl (.tmp 99) (.tmp 105) 23 rfl w3.heap.size 36 i0 _ 6 80 Tryz.underlying23 hi hz0 hz1 hz2 rfl (by decide) _ _ _ rfl (h1.alloc _) ⟨wb.heap.size, 0, none⟩ 1 1 [.int .i64 1, .int .i64 a, .int .i64 0, .int .i64 xm, .slice none 0 0, .slice none 0 0] rfl rfl (cells_six _ _ _ _ _ _ _ _) (six_one _ _ _ _ _ _ _ _ _ _) (by unfold maxLen; omega) (by omega) (by simp; omega) (by omega) ?_)
    intro v' wc ho3 hg3 hw3
    have hsn := OwnL.snoc (w := w3) (wr := wa) (B := .nil) (E := .nil) H2.out hwb hwa HV.out (none_in _ _) (none_in _ _) ho3 hg3 hw3
    obtain ⟨A3, c3, rfl, slc⟩ := hsn.sl
    have hgc := (World.grownBy_alloc wb (.cells #[.int .i64 1, .int .i64 a, .int .i64 0, .int .i64 xm, .slice none 0 0, .slice none 0 0] 36) _).trans hg3
    have invc : Inv w g p (qa + 1) (2 * m' + 10) wc := by
      have hlt : ∀ k, k < w3.heap.size → wc.heap[k]? = wb.heap[k]? := fun k hk => hgc.block k (by omega) (fun e => by have := HR.out k e.symm; omega)
      exact ⟨invb.rd.keep fun k hk => hlt k (by omega), invb.lo, invb.hi, grown_own invb.gr hgc (fun b hb => by have := HR.out b hb; omega), Nat.lt_of_lt_of_le invb.lt hgc.size, by rw [hlt _ hwl]; exact invb.row, invb.gl⟩
    have hln : (La.app (.cons 1 a 0 xm .nil .nil .nil)).size ≤ m' + 1 := by rw [SL.size_app]; simp only [SL.size]; omega
    clear h1 ho3 hg3 hw3 hgc hsn
    generalize La.app (.cons 1 a 0 xm .nil .nil .nil) = Lc at *
    obtain ⟨hcl, hfz⟩ := invc.cells
    go_wp2_with fail
    refine bodyPost_ret (v := .agg #[.int .i64 7, .int .i64 a, .int .i64 0, .int .i64 0, .slice A3 Lc.len c3, .slice none 0 0]) (by simp [results, Tryz.results57, go_sem, hcl]) rfl ?_
    exact invc.full 7 a 0 0 (slc.mono fun b hb => ⟨by have := hb.1; omega, hb.2⟩) (none_in _ _) (by simp [SL.size]; omega)

/-- A statement that the laws draw: so much within it at most. -/
theorem drawStmt (T : Int) (hT : T ≤ 400000000000) : DrawSays 3 486 T := by
  have h1 : DrawSays 1 10 (T + 10000000 + 10000000 + 10000000 + 10000000) := draw_of 1 0 _ (by omega) (by omega) (by omega) (by omega) (fun h => by omega)
  have h1' : DrawsSays 1 34 (T + 10000000 + 10000000 + 10000000) := draws_of 1 10 _ (by omega) (by omega) h1
  have h2 : DrawSays 2 78 (T + 10000000 + 10000000) := draw_of 2 34 _ (by omega) (by omega) (by omega) (by omega) (fun _ => h1')
  have h2' : DrawsSays 2 238 (T + 10000000) := draws_of 2 78 _ (by omega) (by omega) h2
  exact draw_of 3 238 T (by omega) (by omega) (by omega) (by omega) (fun _ => h2')
end Go.Proofs.YtnfnjhbaaefbpaaGreatDoor
