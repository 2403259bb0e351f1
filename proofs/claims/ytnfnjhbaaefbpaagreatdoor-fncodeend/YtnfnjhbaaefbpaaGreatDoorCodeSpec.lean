/- CodeOf of the model: the code of a list, in new memory. -/
import Derived.Test.YtnfnjhbaaefbpaaGreatDoorCodePure
import Derived.Test.YtnfnjhbaaefbpaaGreatDoorNew
import Derived.Test.YtnfnjhbaaefbpaaGreatDoorFl
import Derived.Deep.RegionHeld3
import Derived.Deep.AppendLies
namespace Go.Proofs.YtnfnjhbaaefbpaaGreatDoor
open Go.ChangeShapes Go.WideShapes Go.ChangeAt Go.RowKit

theorem info_Ins' : (Tryz.prog.info? 34).map (fun i => (i.zero, i.size, i.bytes)) = some (some (.agg #[.int .i64 0, .int .i64 0, .int .i64 0, .int .i64 0]), 4, 32) := by kernel_rfl

/-- A row of m instructions that reads as xs, not nil. -/
def Cd (w : World) (base : Nat) (v : Value) (m : Nat) (xs : List Int) : Prop := w.ownsRow base 34 4 v m (ints xs) ∧ ∃ g c, v = .slice (some ⟨g, 0, none⟩) m c

theorem Cd.of_own {w : World} {base m : Nat} {v : Value} {xs : List Int} (h : w.ownsRow base 34 4 v m (ints xs)) (h0 : 0 < m) : Cd w base v m xs := by
  refine ⟨h, ?_⟩
  obtain ⟨_, ⟨_, h1⟩ | ⟨g, cap, cur, rfl, _⟩⟩ := h
  · omega
  · exact ⟨g, cap, rfl⟩
theorem Cd.below {w w' : World} {base m : Nat} {v : Value} {xs : List Int} (h : Cd w base v m xs) (hb : Below w.heap.size w w') : Cd w' base v m xs := ⟨own_below h.1 hb, h.2⟩
theorem Cd.grown {w w' : World} {base m : Nat} {v : Value} {xs : List Int} {row : Option Nat} (h : Cd w base v m xs) (hg : w.grownBy w' row) (hne : ∀ b, v.ownBlock = some b → row ≠ some b) : Cd w' base v m xs :=
  ⟨own_block h.1 fun b hb => hg.block b (own_at h.1 hb).2 fun e => hne b hb e.symm, h.2⟩
theorem Cd.len {w : World} {base m : Nat} {v : Value} {xs : List Int} (h : Cd w base v m xs) : xs.length = m * 4 := by have := h.1.1; rw [ints_len] at this; omega
/-- What an append of it reads. -/
theorem Cd.cells {w : World} {base m g c : Nat} {xs : List Int} (h : Cd w base (.slice (some ⟨g, 0, none⟩) m c) m xs) : ∀ j u, (ints xs)[j]? = some u → w.cell? ((⟨g, 0, none⟩ : Addr).add j) = some u := by
  intro j u hj
  have hl : j < (ints xs).length := by
    have := List.getElem?_eq_some_iff.1 hj
    exact this.1
  have e : (⟨g, 0, none⟩ : Addr).add j = ⟨g, j, none⟩ := by
    unfold Addr.add
    split
    · rename_i h; simp_all
    · simp
  rw [e, h.1.cellAt j (by have := h.len; rw [ints_len] at hl; omega)]
  exact hj
theorem ints_one (xs : List Int) : ∀ u ∈ ints xs, u.oneCell' = true := by
  intro u hu
  simp only [ints, List.mem_map] at hu
  obtain ⟨x, _, rfl⟩ := hu
  rfl

theorem new_row_eq' {w W : World} {vs : Array Value} {t : TypeId} (h : w.alloc (.cells vs t) = W) : W.heap[w.heap.size]? = some (.cells vs t (0, 0)) := by
  subst h; exact new_row _ _ _

/-- A literal of one instruction, read by an append. -/
theorem lit_cells (w : World) (xs : List Int) (t : TypeId) : ∀ j u, (ints xs)[j]? = some u → (w.alloc (.cells (ints xs).toArray t)).cell? ((⟨w.heap.size, 0, none⟩ : Addr).add j) = some u := by
  intro j u hj
  have e : (⟨w.heap.size, 0, none⟩ : Addr).add j = ⟨w.heap.size, j, none⟩ := by
    unfold Addr.add
    split
    · rename_i h; simp_all
    · simp
  rw [e, row_cell (new_row w (ints xs).toArray t)]
  simpa using hj

theorem lit_kept {X w3 : World} {row : Option Nat} {ys : List Int} {t : TypeId} (hg : X.grownBy w3 row) (g : Nat) (h : X.heap[g]? = some (.cells (ints ys).toArray t (0, 0))) (hne : some g ≠ row) : ∀ j u, (ints ys)[j]? = some u → w3.cell? ((⟨g, 0, none⟩ : Addr).add j) = some u := by
  intro j u hj
  have e : (⟨g, 0, none⟩ : Addr).add j = ⟨g, j, none⟩ := by
    unfold Addr.add
    split
    · rename_i h; simp_all
    · simp
  have h3 : w3.heap[g]? = some (.cells (ints ys).toArray t (0, 0)) := (hg.block g (Array.getElem?_eq_some_iff.1 h).1 hne).trans h
  rw [e, row_cell h3]
  simpa using hj

/-- An append of instructions, at a step of a region that draws its order. -/
theorem step_app {ops : Array Oper} {o : Oper} {a : Act} {K : Act → World → Prop} {Q : Exit → Act → World → Prop} {E : Prop} (w : World) (hgd : o.guard = none) (s x : Operand)
    (ho : o.op = .call { callee := .builtin .append, args := #[s, x], argTypes := #[25, 25] })
    (base : Nat) (v : Value) (n : Nat) (xs : List Int) (hs : a.eval s = v) (hown : w.ownsRow base 34 4 v n (ints xs))
    (ad : Addr) (m c : Nat) (ys : List Int) (hx : a.eval x = .slice (some ad) m c) (hl : ys.length = m * 4) (hnews : ∀ j u, (ints ys)[j]? = some u → w.cell? (ad.add j) = some u)
    (hnm : n + m ≤ 100000) (hbase : base ≤ w.heap.size)
    (h : ∀ v' w', w'.ownsRow base 34 4 v' (n + m) (ints (xs ++ ys)) → w.grownBy w' v.ownBlock → K (a.put o.dst v') w') :
    if Region.wanted o (yielded ops a.tmps) = true then Oper.wp Tryz.prog o a w K Q else E := by
  obtain ⟨i0, hi, hz0, hz1, hz2⟩ := info_parts info_Ins'
  have hw : Region.wanted o (yielded ops a.tmps) = true := by simp [Region.wanted, hgd]
  rw [if_pos hw]
  obtain ⟨v', w', hr, h2, h3, _⟩ := run_append_own (P := Tryz.prog) w base 25 o.type 34 i0 _ 4 32 Tryz.underlying25 hi hz0 hz1 hz2 rfl (by decide) v n (ints xs) hown ad m c (ints ys) (by rw [ints_len]; exact hl) hnews (ints_one _) (by unfold maxLen; omega) (by omega) hbase
  rw [← ints_app] at h2
  unfold Oper.wp execOp
  simp only [ho, resolve, invoke, builtin, Sem.run_bind, Sem.run_pure, Result.andThen_ok, List.map_toArray, List.map_cons, List.map_nil, hs, hx, hr]
  exact h v' w' h2 h3

def OneSays (k x y n : Int) (B E : SL) : Prop := ∀ (A A' : Option Addr) (c c' M p : Nat) (w : World), Sl w M B A B.len c → Sl w M E A' E.len c' → M ≤ w.heap.size → p + lenS k B E ≤ 100000 →
  Calls Tryz.prog 37 #[.agg #[.int .i64 k, .int .i64 x, .int .i64 y, .int .i64 n, .slice A B.len c, .slice A' E.len c'], .int .i64 p] w fun e w' => ∃ v, e = .returned v ∧ Cd w' w.heap.size v (lenS k B E) (codeS k x y n B E p) ∧ Below w.heap.size w w'
def OfSays (L : SL) : Prop := ∀ (A : Option Addr) (n c M p : Nat) (w : World), Sl w M L A n c → M ≤ w.heap.size → p + L.lenC ≤ 100000 →
  Calls Tryz.prog 21 #[.slice A n c, .int .i64 p] w fun e w' => ∃ v, e = .returned v ∧ Cd w' w.heap.size v L.lenC (codeL L p) ∧ Below w.heap.size w w'

theorem lenS_pos (k : Int) (B E : SL) : 0 < lenS k B E := by
  unfold lenS
  repeat' split
  all_goals omega

theorem lenC_take_le' (L : SL) (i : Nat) : (L.take i).lenC ≤ L.lenC := by
  induction L generalizing i with
  | nil => cases i <;> simp [SL.take, SL.lenC]
  | cons k x y n B E R _ _ ih => cases i with
    | zero => simp [SL.take, SL.lenC]
    | succ i => have := ih i; rw [SL.take, lenC_cons, lenC_cons]; omega

def OfRel (L : SL) (p : Nat) (w : World) (v i : Value) (wr : World) : Prop :=
  ∃ k : Nat, k ≤ L.len ∧ i = .int .i64 k ∧ Cd wr w.heap.size v (L.take k).lenC (codeL (L.take k) p) ∧ Below w.heap.size w wr

set_option maxRecDepth 100000 in
theorem specOf_of (L : SL) (hS : ∀ i k x y n B E R, L.drop i = .cons k x y n B E R → OneSays k x y n B E) : OfSays L := by
  intro A n c M p w hs hM hlen
  obtain ⟨i0, hi, hz0, hz1, hz2⟩ := info_parts info_Ins'
  have HS := Lib.hid hS
  clear hS
  have hn : n ≤ L.len := Nat.le_of_eq hs.len
  have hn' : L.len ≤ n := Nat.le_of_eq hs.len.symm
  have hmax : n ≤ 9223372036854775807 := by have := hs.le; have := hs.top; unfold maxLen at this; omega
  go_enter Tryz.func21, Tryz.ntmps21
  go_wp2_with fail
  go_loopw [5, 6] (fun v i wr => OfRel L p w v i wr) (fun _ i _ => n - (intOf i).toNat)
  case atStart =>
    refine ⟨0, Nat.zero_le _, rfl, ?_, (Below.refl _ _).alloc (Nat.le_refl _) _⟩
    rw [SL.take_zero]
    refine ⟨?_, _, _, rfl⟩
    exact World.ownsRow_lit (base := w.heap.size) (e := 34) (size := 4) w #[] 0 (Nat.le_refl _) (Nat.zero_le _) rfl
  case round =>
    obtain ⟨k, hk, rfl, hcd, hb⟩ := hrel
    have hz := hb.size
    by_cases hlt : k < n
    · obtain ⟨K, x, y, v, B, E, R, hd⟩ := SL.drop_cons (L := L) (i := k) (by omega)
      have hst := HS.out k _ _ _ _ _ _ _ hd
      have hstep := codeL_step hd p
      have hle := lenC_take_le' L (k + 1)
      have hpos := lenS_pos K B E
      obtain ⟨a, rfl⟩ := hs.some (by omega)
      have hat := ((hs.at_ a rfl).below (hb.mono hM)).drop k
      rw [hd] at hat
      obtain ⟨_, c0, c1, c2, c3, AB, cB, AE, cE, c4, c5, sB, sE, _⟩ := hat.first
      obtain ⟨ho, g, cg, rfl⟩ := hcd
      have hcall := hst AB AE cB cE M (p + (L.take k).lenC) wr sB sE (by omega) (by omega)
      rw [Int.natCast_add] at hcall
      have HC := Lib.hid hcall
      have HT := Lib.hid hstep
      have HO := Lib.hid ho
      have HB := Lib.hid hb
      have hlk : (L.take k).lenC ≤ 100000 := by omega
      have hl1 : p + (L.take k).lenC + lenS K B E ≤ 100000 := by omega
      generalize hlk' : (L.take k).lenC = lk at *
      clear hst hstep hcall ho hb hle hd hlk'
      go_wp2_with fail
      refine HC.out.mono ?_
      rintro e w1 ⟨u, rfl, hcd1, hb1⟩
      have z1 := hb1.size
      have ho1 := own_below HO.out hb1
      have hg1 : g < wr.heap.size := (own_at HO.out (b := g) rfl).2
      have hcells := hcd1
      obtain ⟨hou, gu, cu, rfl⟩ := hcd1
      have hcl := hcells.cells
      have hln := hcells.len
      have hgu : wr.heap.size ≤ gu := (own_at hou (b := gu) rfl).1
      have HCL := Lib.hid hcl
      have HLN := Lib.hid hln
      have HO1 := Lib.hid ho1
      clear hcells hcl hln ho1 hou
      go_wp2_with (first | (at_builtin; refine wpList_append_own _ rfl _ _ 25 rfl w.heap.size 34 i0 (.agg #[.int .i64 0, .int .i64 0, .int .i64 0, .int .i64 0]) 4 32 Tryz.underlying25 hi hz0 hz1 hz2 rfl (by decide) _ _ _ rfl HO1.out ⟨gu, 0, none⟩ (lenS K B E) cu (ints (codeS K x y v B E (p + lk))) rfl ?c1 HCL.out (ints_one _) ?c3 ?c4 ?c5 ?_) | fail)
      case c1 => rw [ints_len]; exact HLN.out
      case c3 => unfold maxLen; omega
      case c4 => omega
      case c5 => omega
      intro v' w2 ho2 hg2 _
      have hbw : Below w.heap.size w w2 := (HB.out.trans (hb1.mono hz)).grown hg2 (by omega) (fun b hb' => (own_at HO.out hb').1)
      rw [← ints_app, ← HT.out.1, ← HT.out.2] at ho2
      have H2 := Lib.hid (Cd.of_own ho2 (by rw [HT.out.2]; omega))
      clear ho2 hg2
      go_wp2_with fail
      go_roundw
      case rel => exact ⟨k + 1, by omega, by go_num, H2.out, hbw⟩
      case measure => simp [intOf]; omega
    · have hfin : L.take k = L := SL.take_all L (by omega)
      rw [hfin] at hcd
      have HCD := Lib.hid hcd
      have HB := Lib.hid hb
      clear hcd hb hfin
      go_wp2_with fail
      go_ret
      exact ⟨_, rfl, HCD.out, HB.out⟩

set_option maxRecDepth 100000 in
set_option maxHeartbeats 4000000 in
theorem specOne_of (k x y n : Int) (B E : SL) (hB : OfSays B) (hE : OfSays E) : OneSays k x y n B E := by
  intro A A' c c' M p w sB sE hM hlen
  obtain ⟨i0, hi, hz0, hz1, hz2⟩ := info_parts info_Ins'
  have HBA := Lib.hid hB
  have HEA := Lib.hid hE
  clear hB hE
  have bW : ∀ k' : Int, Below w.heap.size w (w.alloc (.cells #[.int .i64 k', .int .i64 x, .int .i64 y, .int .i64 n, .slice A B.len c, .slice A' E.len c'] 36)) := fun k' => (Below.refl _ _).alloc (Nat.le_refl _) _
  by_cases h6 : k = 6
  · subst h6
    have lS : lenS 6 B E = 2 + B.lenC + E.lenC := rfl
    have hb1 := HBA.out A B.len c M (p + 1) _ (sB.below ((bW 6).mono (by omega))) (by simp; omega) (by omega)
    rw [Int.natCast_add] at hb1
    have HB1 := Lib.hid hb1
    clear hb1
    have b6 := bW 6
    go_enter Tryz.func37, Tryz.ntmps37
    go_wp2_with fail
    generalize hW : World.alloc w _ = W at HB1 b6 ⊢
    have s0 := new_row_eq' hW
    have zW : W.heap.size = w.heap.size + 1 := by rw [← hW]; simp
    clear hW bW
    refine HB1.out.mono ?_
    clear HB1
    rintro e w1 ⟨u, rfl, cd1, hb1⟩
    have z1 := hb1.size
    obtain ⟨hou, gu, cu, rfl⟩ := id cd1
    have s1 := (hb1.block _ (by omega)).trans s0
    have bw1 : Below w.heap.size w w1 := b6.trans (hb1.mono (by omega))
    have gu1 := own_at hou (b := gu) rfl
    have c1 : w1.cell? ⟨w.heap.size, 1, none⟩ = some (.int .i64 x) := (row_cell s1 1).trans rfl
    have c5 : w1.cell? ⟨w.heap.size, 5, none⟩ = some (.slice A' E.len c') := (row_cell s1 5).trans rfl
    have hb2 := HEA.out A' E.len c' M (p + 2 + B.lenC) w1 (sE.below (bw1.mono hM)) (by omega) (by omega)
    rw [Int.natCast_add, Int.natCast_add] at hb2
    have HB2 := Lib.hid hb2
    have CD1 := Lib.hid cd1
    have S1 := Lib.hid s1
    clear hb2 cd1 hou s0 s1
    go_wp2_with fail
    refine HB2.out.mono ?_
    clear HB2
    rintro e w2 ⟨t, rfl, cd2, hb2⟩
    have z2 := hb2.size
    obtain ⟨hot, gt, ct, rfl⟩ := id cd2
    have bw2 : Below w.heap.size w w2 := bw1.trans (hb2.mono (by omega))
    have gt1 := own_at hot (b := gt) rfl
    have s2 := (hb2.block _ (by omega)).trans S1.out
    have c1' : w2.cell? ⟨w.heap.size, 1, none⟩ = some (.int .i64 x) := (row_cell s2 1).trans rfl
    have CD1' := Lib.hid (CD1.out.below hb2)
    have CD2 := Lib.hid cd2
    clear cd2 hot s2 S1 CD1 c1 c5
    have lit := World.ownsRow_lit (base := w2.heap.size) (e := 34) (size := 4) w2 #[.int .i64 6, .int .i64 x, .int .i64 0, .int .i64 ((p : Int) + 2 + (B.lenC : Int))] 1 (by omega) (by unfold maxLen; omega) rfl
    have LIT := Lib.hid lit
    clear lit
    have bl : Below w2.heap.size w2 (w2.alloc (.cells #[.int .i64 6, .int .i64 x, .int .i64 0, .int .i64 ((p : Int) + 2 + (B.lenC : Int))] 34)) := (Below.refl _ _).alloc (Nat.le_refl _) _
    have CDA := Lib.hid (CD1'.out.below bl)
    have BL := Lib.hid bl
    clear bl
    go_wp2_with (first | (at_builtin; refine wpList_append_own _ rfl _ _ 25 rfl w2.heap.size 34 i0 (.agg #[.int .i64 0, .int .i64 0, .int .i64 0, .int .i64 0]) 4 32 Tryz.underlying25 hi hz0 hz1 hz2 rfl (by decide) _ _ _ rfl LIT.out ⟨gu, 0, none⟩ B.lenC cu (ints (codeL B (p + 1))) rfl ?c1 CDA.out.cells (ints_one _) ?c3 ?c4 ?c5 ?_) | fail)
    case c1 => rw [ints_len]; exact CDA.out.len
    case c3 => unfold maxLen; omega
    case c4 => omega
    case c5 => simp <;> omega
    intro v3 w3 ho3 hg3 _
    have ho3' : w3.ownsRow w2.heap.size 34 4 v3 (1 + B.lenC) (ints ([6, x, 0, (p : Int) + 2 + (B.lenC : Int)] ++ codeL B (p + 1))) := ho3
    have z3 := hg3.size
    have zb : (w2.alloc (.cells #[.int .i64 6, .int .i64 x, .int .i64 0, .int .i64 ((p : Int) + 2 + (B.lenC : Int))] 34)).heap.size = w2.heap.size + 1 := by simp
    rw [zb] at z3
    have bw3 : Below w2.heap.size w2 w3 := BL.out.grown hg3 (by rw [zb]; omega) (fun b hb' => by simp [Value.ownBlock] at hb'; omega)
    have CD3 := Lib.hid (CD2.out.below bw3)
    obtain ⟨_, g3, k3, rfl⟩ := Cd.of_own ho3' (by omega)
    have HO3 := Lib.hid ho3'
    have g31 := own_at ho3' (b := g3) rfl
    clear ho3 ho3' hg3 LIT CDA BL CD2 CD1' c1' zb
    have al := HO3.out.alloc (.cells #[.int .i64 7, .int .i64 0, .int .i64 0, .int .i64 ((p : Int) + 2 + (B.lenC : Int) + (E.lenC : Int))] 34)
    have AL := Lib.hid al
    clear al
    go_wp2_with (first | (at_builtin; refine wpList_append_own _ rfl _ _ 25 rfl w2.heap.size 34 i0 (.agg #[.int .i64 0, .int .i64 0, .int .i64 0, .int .i64 0]) 4 32 Tryz.underlying25 hi hz0 hz1 hz2 rfl (by decide) _ _ _ rfl AL.out ⟨w3.heap.size, 0, none⟩ 1 1 (ints [7, 0, 0, (p : Int) + 2 + (B.lenC : Int) + (E.lenC : Int)]) rfl rfl ?c1 (ints_one _) ?c3 ?c4 ?c5 ?_) | fail)
    case c1 => exact lit_cells _ _ _
    case c3 => unfold maxLen; omega
    case c4 => omega
    case c5 => simp <;> omega
    intro v4 w4 ho4 hg4 _
    rw [← ints_app] at ho4
    have z4 := hg4.size
    have zb : (w3.alloc (.cells #[.int .i64 7, .int .i64 0, .int .i64 0, .int .i64 ((p : Int) + 2 + (B.lenC : Int) + (E.lenC : Int))] 34)).heap.size = w3.heap.size + 1 := by simp
    rw [zb] at z4
    have ba : Below w3.heap.size w3 (w3.alloc (.cells #[.int .i64 7, .int .i64 0, .int .i64 0, .int .i64 ((p : Int) + 2 + (B.lenC : Int) + (E.lenC : Int))] 34)) := (Below.refl _ _).alloc (Nat.le_refl _) _
    have bw4 : Below w2.heap.size w2 w4 := (bw3.trans (ba.mono (by omega))).grown hg4 (by rw [zb]; omega) (fun b hb' => by simp [Value.ownBlock] at hb'; omega)
    have CD4 := Lib.hid ((CD3.out.below ba).grown hg4 (fun b hb' => by simp [Value.ownBlock] at hb' ⊢; omega))
    obtain ⟨_, g4, k4, rfl⟩ := Cd.of_own ho4 (by omega)
    have HO4 := Lib.hid ho4
    clear ho4 hg4 CD3 AL HO3 zb ba
    go_wp2_with (first | (at_builtin; refine wpList_append_own _ rfl _ _ 25 rfl w2.heap.size 34 i0 (.agg #[.int .i64 0, .int .i64 0, .int .i64 0, .int .i64 0]) 4 32 Tryz.underlying25 hi hz0 hz1 hz2 rfl (by decide) _ _ _ rfl HO4.out ⟨gt, 0, none⟩ E.lenC ct (ints (codeL E (p + 2 + B.lenC))) rfl ?c1 CD4.out.cells (ints_one _) ?c3 ?c4 ?c5 ?_) | fail)
    case c1 => rw [ints_len]; exact CD4.out.len
    case c3 => unfold maxLen; omega
    case c4 => omega
    case c5 => omega
    intro v5 w5 ho5 hg5 _
    rw [← ints_app] at ho5
    have bw5 : Below w2.heap.size w2 w5 := bw4.grown hg5 (by omega) (fun b hb' => (own_at HO4.out hb').1)
    have HO5 := Lib.hid ho5
    clear ho5 hg5 CD4 HO4
    go_wp2_with fail
    go_ret
    refine ⟨_, rfl, Cd.of_own ?_ (by omega), bw2.trans (bw5.mono (by omega))⟩
    have e : codeS 6 x y n B E p = [6, x, 0, (p : Int) + 2 + (B.lenC : Int)] ++ codeL B (p + 1) ++ [7, 0, 0, (p : Int) + 2 + (B.lenC : Int) + (E.lenC : Int)] ++ codeL E (p + 2 + B.lenC) := by
      rw [List.append_assoc ([6, x, 0, (p : Int) + 2 + (B.lenC : Int)] ++ codeL B (p + 1))]; rfl
    rw [e, lS, show 2 + B.lenC + E.lenC = 1 + B.lenC + 1 + E.lenC from by omega]
    exact own_mono HO5.out (by omega)
  · by_cases h7 : k = 7
    · subst h7
      have lS : lenS 7 B E = 2 + B.lenC := rfl
      have hb1 := HBA.out A B.len c M (p + 1) _ (sB.below ((bW 7).mono (by omega))) (by simp; omega) (by omega)
      rw [Int.natCast_add] at hb1
      have HB1 := Lib.hid hb1
      clear hb1
      have b6 := bW 7
      go_enter Tryz.func37, Tryz.ntmps37
      go_wp2_with fail
      generalize hW : World.alloc w _ = W at HB1 b6 ⊢
      have s0 := new_row_eq' hW
      have zW : W.heap.size = w.heap.size + 1 := by rw [← hW]; simp
      clear hW bW
      refine HB1.out.mono ?_
      clear HB1
      rintro e w2 ⟨u, rfl, cd1, hb1⟩
      have z1 := hb1.size
      obtain ⟨hou, gu, cu, rfl⟩ := id cd1
      have s1 := (hb1.block _ (by omega)).trans s0
      have bw2 : Below w.heap.size w w2 := b6.trans (hb1.mono (by omega))
      have gu1 := own_at hou (b := gu) rfl
      have c1' : w2.cell? ⟨w.heap.size, 1, none⟩ = some (.int .i64 x) := (row_cell s1 1).trans rfl
      have CD1' := Lib.hid cd1
      clear cd1 hou s0 s1
      have lit := World.ownsRow_lit (base := w2.heap.size) (e := 34) (size := 4) w2 #[.int .i64 6, .int .i64 x, .int .i64 0, .int .i64 ((p : Int) + 2 + (B.lenC : Int))] 1 (by omega) (by unfold maxLen; omega) rfl
      have LIT := Lib.hid lit
      clear lit
      have bl : Below w2.heap.size w2 (w2.alloc (.cells #[.int .i64 6, .int .i64 x, .int .i64 0, .int .i64 ((p : Int) + 2 + (B.lenC : Int))] 34)) := (Below.refl _ _).alloc (Nat.le_refl _) _
      have CDA := Lib.hid (CD1'.out.below bl)
      have BL := Lib.hid bl
      clear bl
      go_wp2_with (first | (at_builtin; refine wpList_append_own _ rfl _ _ 25 rfl w2.heap.size 34 i0 (.agg #[.int .i64 0, .int .i64 0, .int .i64 0, .int .i64 0]) 4 32 Tryz.underlying25 hi hz0 hz1 hz2 rfl (by decide) _ _ _ rfl LIT.out ⟨gu, 0, none⟩ B.lenC cu (ints (codeL B (p + 1))) rfl ?c1 CDA.out.cells (ints_one _) ?c3 ?c4 ?c5 ?_) | fail)
      case c1 => rw [ints_len]; exact CDA.out.len
      case c3 => unfold maxLen; omega
      case c4 => omega
      case c5 => simp <;> omega
      intro v3 w3 ho3 hg3 _
      have ho3' : w3.ownsRow w2.heap.size 34 4 v3 (1 + B.lenC) (ints ([6, x, 0, (p : Int) + 2 + (B.lenC : Int)] ++ codeL B (p + 1))) := ho3
      have z3 := hg3.size
      have zb : (w2.alloc (.cells #[.int .i64 6, .int .i64 x, .int .i64 0, .int .i64 ((p : Int) + 2 + (B.lenC : Int))] 34)).heap.size = w2.heap.size + 1 := by simp
      rw [zb] at z3
      have bw3 : Below w2.heap.size w2 w3 := BL.out.grown hg3 (by rw [zb]; omega) (fun b hb' => by simp [Value.ownBlock] at hb'; omega)
      obtain ⟨_, g3, k3, rfl⟩ := Cd.of_own ho3' (by omega)
      have HO3 := Lib.hid ho3'
      have g31 := own_at ho3' (b := g3) rfl
      clear ho3 ho3' hg3 LIT CDA BL CD1' c1' zb
      have al := HO3.out.alloc (.cells #[.int .i64 7, .int .i64 0, .int .i64 0, .int .i64 (p : Int)] 34)
      have AL := Lib.hid al
      clear al
      go_wp2_with (first | (at_builtin; refine wpList_append_own _ rfl _ _ 25 rfl w2.heap.size 34 i0 (.agg #[.int .i64 0, .int .i64 0, .int .i64 0, .int .i64 0]) 4 32 Tryz.underlying25 hi hz0 hz1 hz2 rfl (by decide) _ _ _ rfl AL.out ⟨w3.heap.size, 0, none⟩ 1 1 (ints [7, 0, 0, (p : Int)]) rfl rfl ?c1 (ints_one _) ?c3 ?c4 ?c5 ?_) | fail)
      case c1 => exact lit_cells _ _ _
      case c3 => unfold maxLen; omega
      case c4 => omega
      case c5 => simp <;> omega
      intro v4 w4 ho4 hg4 _
      rw [← ints_app] at ho4
      have zb : (w3.alloc (.cells #[.int .i64 7, .int .i64 0, .int .i64 0, .int .i64 (p : Int)] 34)).heap.size = w3.heap.size + 1 := by simp
      have ba : Below w3.heap.size w3 (w3.alloc (.cells #[.int .i64 7, .int .i64 0, .int .i64 0, .int .i64 (p : Int)] 34)) := (Below.refl _ _).alloc (Nat.le_refl _) _
      have bw4 : Below w2.heap.size w2 w4 := (bw3.trans (ba.mono (by omega))).grown hg4 (by rw [zb]; omega) (fun b hb' => by simp [Value.ownBlock] at hb'; omega)
      have HO4 := Lib.hid ho4
      clear ho4 hg4 AL HO3 zb ba
      go_wp2_with fail
      go_ret
      refine ⟨_, rfl, Cd.of_own ?_ (by omega), bw2.trans (bw4.mono (by omega))⟩
      have e : codeS 7 x y n B E p = [6, x, 0, (p : Int) + 2 + (B.lenC : Int)] ++ codeL B (p + 1) ++ [7, 0, 0, (p : Int)] := rfl
      rw [e, lS, show 2 + B.lenC = 1 + B.lenC + 1 from by omega]
      exact own_mono HO4.out (by omega)
    · by_cases h8 : k = 8
      · subst h8
        have lS : lenS 8 B E = 2 + B.lenC := rfl
        have hb1 := HBA.out A B.len c M (p + 1) _ (sB.below ((bW 8).mono (by omega))) (by simp; omega) (by omega)
        rw [Int.natCast_add] at hb1
        have HB1 := Lib.hid hb1
        clear hb1
        have b6 := bW 8
        go_enter Tryz.func37, Tryz.ntmps37
        go_wp2_with fail
        generalize hW : World.alloc w _ = W at HB1 b6 ⊢
        have s0 := new_row_eq' hW
        have zW : W.heap.size = w.heap.size + 1 := by rw [← hW]; simp
        clear hW bW
        refine HB1.out.mono ?_
        clear HB1
        rintro e w2 ⟨u, rfl, cd1, hb1⟩
        have z1 := hb1.size
        obtain ⟨hou, gu, cu, rfl⟩ := id cd1
        have s1 := (hb1.block _ (by omega)).trans s0
        have bw2 : Below w.heap.size w w2 := b6.trans (hb1.mono (by omega))
        have gu1 := own_at hou (b := gu) rfl
        have c1' : w2.cell? ⟨w.heap.size, 1, none⟩ = some (.int .i64 x) := (row_cell s1 1).trans rfl
        have CD1' := Lib.hid cd1
        have S1 := Lib.hid s1
        clear cd1 hou s0 s1
        have ks : ∀ X : World, Below w2.heap.size w2 X → X.cell? ⟨w.heap.size, 1, none⟩ = some (.int .i64 x) ∧ Below w2.heap.size w2 X := fun X hX => ⟨(hX.cell (p := ⟨w.heap.size, 1, none⟩) (by show w.heap.size < w2.heap.size; omega)).trans c1', hX⟩
        have litA : ∀ (X : World) (g : Nat), Below w2.heap.size w2 X → X.heap.size = g → (X.alloc (.cells #[.int .i64 8, .int .i64 x, .int .i64 0, .int .i64 0] 34)).ownsRow w2.heap.size 34 4 (.slice (some ⟨g, 0, none⟩) 1 1) 1 (ints [8, x, 0, 0]) := fun X g hX hg => by
          subst hg; exact World.ownsRow_lit (base := w2.heap.size) (e := 34) (size := 4) X #[.int .i64 8, .int .i64 x, .int .i64 0, .int .i64 0] 1 hX.size (by unfold maxLen; omega) rfl
        have cdb : ∀ X : World, Below w2.heap.size w2 X → ∀ j u, (ints (codeL B (p + 1)))[j]? = some u → X.cell? ((⟨gu, 0, none⟩ : Addr).add j) = some u := fun X hX => (CD1'.out.below hX).cells
        have lnB := CD1'.out.len
        have KS := Lib.hid ks
        have LITA := Lib.hid litA
        have CDB := Lib.hid cdb
        have LNB := Lib.hid lnB
        clear ks litA cdb lnB CD1' c1' S1 hb1 b6
        have lb1 : ∀ w3, (((w2.alloc (.cells #[.int .i64 8, .int .i64 x, .int .i64 0, .int .i64 0] 34)).alloc (.cells #[.int .i64 9, .int .i64 x, .int .i64 0, .int .i64 0] 34)).drew).grownBy w3 (Value.slice (some ⟨w2.heap.size, 0, none⟩) 1 1).ownBlock → ∀ j u, (ints [9, x, 0, 0])[j]? = some u → w3.cell? ((⟨w2.heap.size + 1, 0, none⟩ : Addr).add j) = some u := fun w3 hg =>
          lit_kept hg (w2.heap.size + 1) (by
            show ((w2.alloc _).alloc (.cells (ints [9, x, 0, 0]).toArray 34)).heap[w2.heap.size + 1]? = _
            have := new_row (w2.alloc (.cells #[.int .i64 8, .int .i64 x, .int .i64 0, .int .i64 0] 34)) (ints [9, x, 0, 0]).toArray 34
            simpa only [World.size_alloc] using this) (by simp [Value.ownBlock])
        have lb2 : ∀ w3, (((w2.alloc (.cells #[.int .i64 9, .int .i64 x, .int .i64 0, .int .i64 0] 34)).alloc (.cells #[.int .i64 8, .int .i64 x, .int .i64 0, .int .i64 0] 34)).drew).grownBy w3 (Value.slice (some ⟨w2.heap.size + 1, 0, none⟩) 1 1).ownBlock → ∀ j u, (ints [9, x, 0, 0])[j]? = some u → w3.cell? ((⟨w2.heap.size, 0, none⟩ : Addr).add j) = some u := fun w3 hg =>
          lit_kept hg w2.heap.size (by
            show ((w2.alloc (.cells (ints [9, x, 0, 0]).toArray 34)).alloc _).heap[w2.heap.size]? = _
            rw [Below.heap_alloc _ _ _ (by simp)]
            exact new_row w2 (ints [9, x, 0, 0]).toArray 34) (by simp [Value.ownBlock])
        have LB1 := Lib.hid lb1
        have LB2 := Lib.hid lb2
        clear lb1 lb2
        go_wp2_with fail
        go_region_held3 (fun X => X.cell? ⟨w.heap.size, 1, none⟩ = some (.int .i64 x) ∧ Below w2.heap.size w2 X)
          (first
            | exact KS.out _ (by assumption)
            | exact KS.out _ (Below.refl _ _)
            | exact KS.out _ (Below.refl _ _).drew
            | exact KS.out _ ((Below.refl _ _).alloc (Nat.le_refl _) _).drew
            | exact KS.out _ (((Below.refl _ _).alloc (Nat.le_refl _) _).alloc (by simp) _).drew
            | exact KS.out _ (Below.alloc (by assumption) (by omega) _))
          (first
            | (refine step_app _ (by rfl) _ _ (by rfl) w2.heap.size _ 1 [8, x, 0, 0] (by rfl) (LITA.out _ _ (Below.refl _ _) (by simp)).drew ⟨gu, 0, none⟩ B.lenC cu (codeL B (p + 1)) (by rfl) LNB.out (CDB.out _ ((Below.refl _ _).alloc (Nat.le_refl _) _).drew) (by omega) (by show w2.heap.size ≤ (w2.alloc _).heap.size; simp) ?_
               intro v3 w3 ho3 hg3
               have b3 : Below w2.heap.size w2 w3 := ((Below.refl w2.heap.size w2).alloc (Nat.le_refl _) _).drew.grown hg3 (by show w2.heap.size ≤ (w2.alloc _).heap.size; simp) (fun b hb' => by simp [Value.ownBlock] at hb'; omega)
               have z3 := b3.size)
            | (refine step_app _ (by rfl) _ _ (by rfl) w2.heap.size _ 1 [8, x, 0, 0] (by rfl) ((LITA.out _ _ (Below.refl _ _) (by simp)).alloc _).drew ⟨gu, 0, none⟩ B.lenC cu (codeL B (p + 1)) (by rfl) LNB.out (CDB.out _ (((Below.refl _ _).alloc (Nat.le_refl _) _).alloc (by simp) _).drew) (by omega) (by show w2.heap.size ≤ ((w2.alloc _).alloc _).heap.size; simp; omega) ?_
               intro v3 w3 ho3 hg3
               have hB := LB1.out _ hg3
               have b3 : Below w2.heap.size w2 w3 := (((Below.refl w2.heap.size w2).alloc (Nat.le_refl _) _).alloc (by simp) _).drew.grown hg3 (by show w2.heap.size ≤ ((w2.alloc _).alloc _).heap.size; simp; omega) (fun b hb' => by simp [Value.ownBlock] at hb'; omega)
               have z3 := b3.size)
            | (refine step_app _ (by rfl) _ _ (by rfl) w2.heap.size _ 1 [8, x, 0, 0] (by rfl) (LITA.out _ _ ((Below.refl _ _).alloc (Nat.le_refl _) _) (by simp)).drew ⟨gu, 0, none⟩ B.lenC cu (codeL B (p + 1)) (by rfl) LNB.out (CDB.out _ (((Below.refl _ _).alloc (Nat.le_refl _) _).alloc (by simp) _).drew) (by omega) (by show w2.heap.size ≤ ((w2.alloc _).alloc _).heap.size; simp; omega) ?_
               intro v3 w3 ho3 hg3
               have hB := LB2.out _ hg3
               have b3 : Below w2.heap.size w2 w3 := (((Below.refl w2.heap.size w2).alloc (Nat.le_refl _) _).alloc (by simp) _).drew.grown hg3 (by show w2.heap.size ≤ ((w2.alloc _).alloc _).heap.size; simp; omega) (fun b hb' => by simp [Value.ownBlock] at hb'; omega)
               have z3 := b3.size)
            | (refine step_app _ (by rfl) _ _ (by rfl) w2.heap.size _ (1 + B.lenC) ([8, x, 0, 0] ++ codeL B (p + 1)) (by rfl) (by first | exact ho3 | exact ho3.alloc _) ⟨_, 0, none⟩ 1 1 [9, x, 0, 0] (by rfl) rfl (by first | exact hB | exact lit_cells _ _ _) (by omega) (by first | exact z3 | (simp; omega)) ?_
               intro v4 w4 ho4 hg4
               have b4 : Below w2.heap.size w2 w4 := Below.grown (by first | exact b3 | exact b3.alloc z3 _) hg4 (by first | exact z3 | (simp; omega)) (fun b hb' => (own_at ho3 hb').1)))
        all_goals
          have HO4 := Lib.hid ho4
          clear ho3 hg3 ho4 hg4
          go_wp2_with fail
          go_ret
          refine ⟨_, rfl, Cd.of_own ?_ (by omega), bw2.trans (b4.mono (by omega))⟩
          have e : codeS 8 x y n B E p = [8, x, 0, 0] ++ codeL B (p + 1) ++ [9, x, 0, 0] := rfl
          rw [e, lS, show 2 + B.lenC = 1 + B.lenC + 1 from by omega]
          exact own_mono HO4.out (by omega)
      · have lS : lenS k B E = 1 := by unfold lenS; rw [if_neg h6, if_neg h7, if_neg h8]
        have hcode : codeS k x y n B E p = leafC k x y n := by unfold codeS; rw [if_neg h6, if_neg h7, if_neg h8]
        have bk := bW k
        rw [lS, hcode]
        clear hcode bW HBA HEA
        have fin : ∀ (W : World) (a b c d : Int) (g : Nat), Below w.heap.size w W → g = W.heap.size → Cd (W.alloc (.cells #[.int .i64 a, .int .i64 b, .int .i64 c, .int .i64 d] 34)) w.heap.size (.slice (some ⟨g, 0, none⟩) 1 1) 1 [a, b, c, d] := fun W a b c d g h hg => by
          subst hg
          exact ⟨World.ownsRow_lit (base := w.heap.size) (e := 34) (size := 4) W #[.int .i64 a, .int .i64 b, .int .i64 c, .int .i64 d] 1 h.size (by unfold maxLen; omega) rfl, _, _, rfl⟩
        have FIN := Lib.hid fin
        clear fin
        by_cases h15 : 1 ≤ k ∧ k ≤ 5
        · have hl : leafC k x y n = [k, x, y, n] := by unfold leafC; rw [if_pos h15]
          rw [hl]
          have hk : k = 1 ∨ k = 2 ∨ k = 3 ∨ k = 4 ∨ k = 5 := by omega
          clear hl h15 h6 h7 h8
          rcases hk with rfl | rfl | rfl | rfl | rfl
          all_goals
            go_enter Tryz.func37, Tryz.ntmps37
            go_wp2_with fail
            go_ret
            exact ⟨_, rfl, FIN.out _ _ _ _ _ _ bk (by simp), bk.alloc bk.size _⟩
        · by_cases h9 : k = 9
          · subst h9
            have hl : leafC 9 x y n = [10, x, 0, 0] := rfl
            rw [hl]
            clear hl h15 h6 h7 h8
            go_enter Tryz.func37, Tryz.ntmps37
            go_wp2_with fail
            go_ret
            exact ⟨_, rfl, FIN.out _ _ _ _ _ _ bk (by simp), bk.alloc bk.size _⟩
          · by_cases h10 : k = 10
            · subst h10
              have hl : leafC 10 x y n = [11, x, 0, 0] := rfl
              rw [hl]
              clear hl h15 h6 h7 h8 h9
              go_enter Tryz.func37, Tryz.ntmps37
              go_wp2_with fail
              go_ret
              exact ⟨_, rfl, FIN.out _ _ _ _ _ _ bk (by simp), bk.alloc bk.size _⟩
            · have hl : leafC k x y n = [12, 0, 0, 0] := by unfold leafC; rw [if_neg h15, if_neg h9, if_neg h10]
              rw [hl]
              have n1 : k ≠ 1 := by omega
              have n2 : k ≠ 2 := by omega
              have n3 : k ≠ 3 := by omega
              have n4 : k ≠ 4 := by omega
              have n5 : k ≠ 5 := by omega
              clear hl h15
              go_enter Tryz.func37, Tryz.ntmps37
              go_wp2_with fail
              go_ret
              exact ⟨_, rfl, FIN.out _ _ _ _ _ _ bk (by simp), bk.alloc bk.size _⟩

theorem specOf (L : SL) : OfSays L := by
  suffices h : ∀ m, ∀ L : SL, L.size < m → OfSays L from h (L.size + 1) L (by omega)
  intro m
  induction m with
  | zero => intro L h; omega
  | succ m ih =>
    intro L h
    refine specOf_of L fun i k x y n B E R hd => ?_
    have := SL.drop_size hd
    exact specOne_of k x y n B E (ih B (by omega)) (ih E (by omega))
end Go.Proofs.YtnfnjhbaaefbpaaGreatDoor
