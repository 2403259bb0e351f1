/- The program's compiler: statements and lists. -/
import Derived.Test.YtnfnjhbaaefbpaaGreatDoorEmitAdd
import Derived.Test.YtnfnjhbaaefbpaaGreatDoorOkMore
import Derived.StillTailTactics
namespace Go.Proofs.YtnfnjhbaaefbpaaGreatDoor
open Go.ChangeShapes Go.WideShapes Go.ChangeAt Go.RowKit

/-- The table of the ops of plain statements. -/
def Ops (w : World) : Prop := w.cell? ⟨0, 1, none⟩ = some (.int .i64 1) ∧ w.cell? ⟨0, 2, none⟩ = some (.int .i64 2) ∧ w.cell? ⟨0, 3, none⟩ = some (.int .i64 3) ∧ w.cell? ⟨0, 4, none⟩ = some (.int .i64 4) ∧ w.cell? ⟨0, 5, none⟩ = some (.int .i64 5) ∧
  w.cell? ⟨0, 9, none⟩ = some (.int .i64 10) ∧ w.cell? ⟨0, 10, none⟩ = some (.int .i64 11) ∧ w.cell? ⟨0, 11, none⟩ = some (.int .i64 12)
theorem Ops.below {w w' : World} {N : Nat} (h : Ops w) (hb : Below N w w') (h0 : 0 < N) : Ops w' := by
  have e : ∀ i : Nat, w'.cell? ⟨0, i, none⟩ = w.cell? ⟨0, i, none⟩ := fun i => hb.cell (p := ⟨0, i, none⟩) h0
  unfold Ops
  simp only [e]
  exact h

def EmitPost (w : World) (N cb : Nat) (fs : List Value) (q : List Int) (e : Ending) (w' : World) : Prop :=
  e = .returned (.tuple #[]) ∧ ∃ gs, Emit w' N cb (fs ++ gs) ∧ EvL w' w.heap.size gs q ∧ KF cb w w' ∧ Below N w w'

def StmtAdds (k x y n : Int) (B E : SL) : Prop := ∀ (A A' : Option Addr) (c c' M N cb : Nat) (fs : List Value) (d r : Int) (w : World), Sl w M B A B.len c → Sl w M E A' E.len c' → M ≤ N → N ≤ w.heap.size → 0 < N → Emit w N cb fs → okS k x y n B E d r = true → fs.length + lenS k B E ≤ 1000 → Ops w →
  Calls Tryz.prog 35 #[.pointer (some ⟨cb, 0, none⟩), .agg #[.int .i64 k, .int .i64 x, .int .i64 y, .int .i64 n, .slice A B.len c, .slice A' E.len c']] w (EmitPost w N cb fs (codeS k x y n B E fs.length))

def ListAdds (L : SL) : Prop := ∀ (A : Option Addr) (n c M N cb : Nat) (fs : List Value) (d r : Int) (w : World), Sl w M L A n c → M ≤ N → N ≤ w.heap.size → 0 < N → Emit w N cb fs → okL L d r = true → fs.length + L.lenC ≤ 1000 → Ops w →
  Calls Tryz.prog 17 #[.pointer (some ⟨cb, 0, none⟩), .slice A n c] w (EmitPost w N cb fs (codeL L fs.length))

/-- What was made before stays as it was made. -/
theorem KF.evl {cb s : Nat} {w w' : World} {gs : List Value} {q : List Int} (h : KF cb w w') (hs : cb < s) (he : EvL w s gs q) : EvL w' s gs q := he.keep fun b vs t z hb ht hc => h.keep b vs t z (by omega) ht hc

theorem lenC_take_le (L : SL) (i : Nat) : (L.take i).lenC ≤ L.lenC := by
  induction L generalizing i with
  | nil => cases i <;> simp [SL.take, SL.lenC]
  | cons k x y n B E R _ _ ih => cases i with
    | zero => simp [SL.take, SL.lenC]
    | succ i => have := ih i; rw [SL.take, lenC_cons, lenC_cons]; omega

def AddRel (L : SL) (N cb : Nat) (fs : List Value) (w : World) (i : Value) (wr : World) : Prop :=
  ∃ (k : Nat) (gs : List Value), k ≤ L.len ∧ i = .int .i64 k ∧ Emit wr N cb (fs ++ gs) ∧ EvL wr w.heap.size gs (codeL (L.take k) fs.length) ∧ KF cb w wr ∧ Below N w wr

set_option maxRecDepth 100000 in
theorem addStmts_of (L : SL) (hS : ∀ i k x y n B E R, L.drop i = .cons k x y n B E R → StmtAdds k x y n B E) : ListAdds L := by
  intro A n c M N cb fs d r w hs hMN hN h0 he hok hlen hop
  have HS := Lib.hid hS
  have HE := Lib.hid he
  have HOP := Lib.hid hop
  have HOK := Lib.hid hok
  have hcb : cb < w.heap.size := (he.cells).choose_spec.2.2.2.2
  clear hS he hop hok
  have hn : n ≤ L.len := Nat.le_of_eq hs.len
  have hn' : L.len ≤ n := Nat.le_of_eq hs.len.symm
  have hmax : n ≤ 9223372036854775807 := by have := hs.le; have := hs.top; unfold maxLen at this; omega
  go_enter Tryz.func17, Tryz.ntmps17
  go_wp2_with fail
  go_loopw [8] (fun i wr => AddRel L N cb fs w i wr) (fun i _ => n - (intOf i).toNat)
  case atStart => exact ⟨0, [], Nat.zero_le _, rfl, by simpa using HE.out, by rw [SL.take_zero]; exact trivial, KF.refl _ _, Below.refl _ _⟩
  case round =>
    obtain ⟨k, gs, hk, rfl, hem, hev, hkf, hb⟩ := hrel
    have hz := hkf.size
    by_cases hlt : k < n
    · obtain ⟨K, x, y, v, B, E, R, hd⟩ := SL.drop_cons (L := L) (i := k) (by omega)
      have hst := HS.out k _ _ _ _ _ _ _ hd
      have hstep := codeL_step hd fs.length
      have hle := lenC_take_le L (k + 1)
      have hgl : gs.length = (L.take k).lenC := by have := hev.len; rw [codeL_len] at this; omega
      obtain ⟨a, rfl⟩ := hs.some (by omega)
      have hat := ((hs.at_ a rfl).below (hb.mono hMN)).drop k
      rw [hd] at hat
      obtain ⟨_, c0, c1, c2, c3, AB, cB, AE, cE, c4, c5, sB, sE, _⟩ := hat.first
      have hokS := okL_at HOK.out hd
      have hal : Below wr.heap.size wr (wr.alloc (.cells #[.int .i64 K, .int .i64 x, .int .i64 y, .int .i64 v, .slice AB B.len cB, .slice AE E.len cE] 36)) := (Below.refl _ _).alloc (Nat.le_refl _) _
      have hcall := hst AB AE cB cE M N cb (fs ++ gs) d r _ (sB.below (hal.mono (by omega))) (sE.below (hal.mono (by omega))) hMN (by simp; omega) h0 (hem.below hal) hokS (by rw [List.length_append]; omega) (HOP.out.below (hb.trans (hal.mono (by omega))) h0)
      rw [List.length_append, hgl] at hcall
      have HC := Lib.hid hcall
      have HT := Lib.hid hstep
      have HEV := Lib.hid hev
      have HB := Lib.hid hb
      have HK := Lib.hid hkf
      clear hst hstep hcall hev hem hokS hal hb hkf hle hgl hd
      go_wp2_with fail
      refine HC.out.mono ?_
      rintro e w2 ⟨rfl, gs2, hem2, hev2, hkf2, hb2⟩
      have k2 := (KF.alloc cb wr (.cells #[.int .i64 K, .int .i64 x, .int .i64 y, .int .i64 v, .slice AB B.len cB, .slice AE E.len cE] 36)).trans hkf2
      have hw2 := HEV.out
      have b2 : Below N wr w2 := ((Below.refl N wr).alloc (by omega) _).trans hb2
      have ev := (k2.evl hcb HEV.out).app (hev2.mono (s' := w.heap.size) (by simp; omega))
      rw [← HT.out.1] at ev
      rw [List.append_assoc] at hem2
      have HEM := Lib.hid hem2
      have HEV2 := Lib.hid ev
      clear hem2 ev hw2 hev2 hkf2 hb2
      go_wp2_with fail
      go_roundw
      case rel => exact ⟨k + 1, gs ++ gs2, by omega, by go_num, HEM.out, HEV2.out, HK.out.trans k2, HB.out.trans b2⟩
      case measure => simp [intOf]; omega
    · have hfin : L.take k = L := SL.take_all L (by omega)
      rw [hfin] at hev
      have HEV := Lib.hid hev
      have HEM := Lib.hid hem
      have HB := Lib.hid hb
      have HK := Lib.hid hkf
      clear hev hem hb hkf hfin
      go_wp2_with fail
      go_end0
      exact ⟨rfl, gs, HEM.out, HEV.out, HK.out, HB.out⟩

set_option maxRecDepth 100000 in
theorem addIf_of (x y n : Int) (B E : SL) (hB : ListAdds B) (hE : ListAdds E) (A A' : Option Addr) (c c' M N cb : Nat) (fs : List Value) (d r : Int) (w : World) (sB : Sl w M B A B.len c) (sE : Sl w M E A' E.len c') (hMN : M ≤ N) (hN : N ≤ w.heap.size) (h0 : 0 < N) (he : Emit w N cb fs)
    (okB : okL B d r = true) (okE : okL E d r = true) (hlen : fs.length + lenS 6 B E ≤ 1000) (hop : Ops w) :
    Calls Tryz.prog 65 #[.pointer (some ⟨cb, 0, none⟩), .agg #[.int .i64 6, .int .i64 x, .int .i64 y, .int .i64 n, .slice A B.len c, .slice A' E.len c']] w (EmitPost w N cb fs (codeS 6 x y n B E fs.length)) := by
  have HE := Lib.hid he
  have HOP := Lib.hid hop
  have HBA := Lib.hid hB
  have HEA := Lib.hid hE
  have hcb : cb < w.heap.size := (he.cells).choose_spec.2.2.2.2
  clear he hop hB hE
  go_enter Tryz.func65, Tryz.ntmps65
  go_wp2_with fail
  obtain ⟨W, hW⟩ : ∃ W, W = ((w.alloc (.cells #[.int .i64 6, .int .i64 x, .int .i64 y, .int .i64 n, .slice A B.len c, .slice A' E.len c'] 36)).alloc (.cells #[.int .i64 0] 3)).alloc (.cells #[.int .i64 0] 3) := ⟨_, rfl⟩
  rw [← hW]
  have bW : Below w.heap.size w W := by rw [hW]; exact (((Below.refl _ _).alloc (Nat.le_refl _) _).alloc (by simp) _).alloc (by simp <;> omega) _
  have kW : KF cb w W := KF.of_below bW
  have zW : W.heap.size = w.heap.size + 3 := by rw [hW]; simp
  have s0 : W.heap[w.heap.size]? = some (.cells #[.int .i64 6, .int .i64 x, .int .i64 y, .int .i64 n, .slice A B.len c, .slice A' E.len c'] 36 (0, 0)) := by
    rw [hW, Below.heap_alloc _ _ _ (by simp <;> omega), Below.heap_alloc _ _ _ (by simp), new_row]
  have o0 : W.heap[w.heap.size + 1]? = some (.cells #[.int .i64 0] 3 (0, 0)) := by
    rw [hW, Below.heap_alloc _ _ _ (by simp)]
    have := new_row (w.alloc (.cells #[.int .i64 6, .int .i64 x, .int .i64 y, .int .i64 n, .slice A B.len c, .slice A' E.len c'] 36)) #[.int .i64 0] 3
    simpa only [World.size_alloc] using this
  have a0 : W.heap[w.heap.size + 1 + 1]? = some (.cells #[.int .i64 0] 3 (0, 0)) := by
    rw [hW]
    have := new_row ((w.alloc (.cells #[.int .i64 6, .int .i64 x, .int .i64 y, .int .i64 n, .slice A B.len c, .slice A' E.len c'] 36)).alloc (.cells #[.int .i64 0] 3)) #[.int .i64 0] 3
    simpa only [World.size_alloc] using this
  have eW := HE.out.below bW
  have lS : lenS 6 B E = 2 + B.lenC + E.lenC := rfl
  clear hW
  refine (emitJump eW (by omega) (by omega) 6 x (w.heap.size + 1)).mono ?_
  rintro e w4 ⟨rfl, f0, em4, ev4, kf4, b4⟩
  have z4 := kf4.size
  have s4 := kf4.keep _ _ _ _ (by omega) (by decide) s0
  have o4 := kf4.keep _ _ _ _ (by omega) (by decide) o0
  have a4 := kf4.keep _ _ _ _ (by omega) (by decide) a0
  have bw4 : Below N w w4 := (bW.mono hN).trans b4
  have cB4 := (row_cell s4 4).trans rfl
  have l4 : (fs ++ [f0]).length = fs.length + 1 := by simp
  have hb5 := HBA.out A B.len c M N cb (fs ++ [f0]) d r w4 (sB.below (bw4.mono hMN)) hMN (by omega) h0 em4 okB (by omega) (HOP.out.below bw4 h0)
  rw [l4] at hb5
  have HB5 := Lib.hid hb5
  have S4 := Lib.hid s4
  have O4 := Lib.hid o4
  have A4 := Lib.hid a4
  have EV4 := Lib.hid ev4
  have KF4 := Lib.hid kf4
  clear hb5 s0 o0 a0 s4 o4 a4 ev4 kf4 em4
  go_wp2_with fail
  refine HB5.out.mono ?_
  rintro e w5 ⟨rfl, gB, em5, ev5, kf5, b5⟩
  have z5 := kf5.size
  have lB : gB.length = B.lenC := by have := ev5.len; rw [codeL_len] at this; omega
  have s5 := kf5.keep _ _ _ _ (by omega) (by decide) S4.out
  have o5 := kf5.keep _ _ _ _ (by omega) (by decide) O4.out
  have a5 := kf5.keep _ _ _ _ (by omega) (by decide) A4.out
  have bw5 : Below N w w5 := bw4.trans b5
  have l5 : ((fs ++ [f0]) ++ gB).length = fs.length + 1 + B.lenC := by simp [lB]; omega
  have hb6 := emitJump em5 (by omega) (by omega) 7 0 (w.heap.size + 1 + 1)
  have HB6 := Lib.hid hb6
  have S5 := Lib.hid s5
  have O5 := Lib.hid o5
  have A5 := Lib.hid a5
  have EV5 := Lib.hid ev5
  have KF5 := Lib.hid kf5
  clear hb6 s5 o5 a5 ev5 kf5 em5 S4 O4 A4 HB5 cB4
  go_wp2_with fail
  refine HB6.out.mono ?_
  rintro e w6 ⟨rfl, f1, em6, ev6, kf6, b6⟩
  have z6 := kf6.size
  have s6 := kf6.keep _ _ _ _ (by omega) (by decide) S5.out
  have o6 := kf6.keep _ _ _ _ (by omega) (by decide) O5.out
  have a6 := kf6.keep _ _ _ _ (by omega) (by decide) A5.out
  have bw6 : Below N w w6 := bw5.trans b6
  have l6 : (((fs ++ [f0]) ++ gB) ++ [f1]).length = fs.length + 2 + B.lenC := by rw [List.length_append, l5]; simp; omega
  have hh := emitHere em6
  rw [l6] at hh
  have HH := Lib.hid hh
  have ho6 := row_cell o6 0
  have hf6 := row_frozen o6 0
  have S6 := Lib.hid s6
  have O6 := Lib.hid o6
  have A6 := Lib.hid a6
  have EV6 := Lib.hid ev6
  have KF6 := Lib.hid kf6
  have EM6 := Lib.hid em6
  clear hh s6 o6 a6 ev6 kf6 em6 S5 O5 A5 HB6
  go_wp2_with fail
  refine HH.out.mono ?_
  rintro e w7 ⟨rfl, rfl⟩
  have em7 := EM6.out.set O6.out (.int .i64 ((fs.length : Int) + 2 + (B.lenC : Int)))
  have c5 : w7.cell? ⟨w.heap.size, 5, none⟩ = some (.slice A' E.len c') := (row_cell S6.out 5).trans rfl
  have o7 := row_set (i := 0) O6.out (.int .i64 ((fs.length : Int) + 2 + (B.lenC : Int)))
  have a7 : (w7.setCell ⟨w.heap.size + 1, 0, none⟩ (.int .i64 ((fs.length : Int) + 2 + (B.lenC : Int)))).heap[w.heap.size + 1 + 1]? = some (.cells #[.int .i64 0] 3 (0, 0)) := by rw [row_other (by omega)]; exact A6.out
  have kg7 : ∀ s, w.heap.size + 1 < s → KG s w7 (w7.setCell ⟨w.heap.size + 1, 0, none⟩ (.int .i64 ((fs.length : Int) + 2 + (B.lenC : Int)))) := fun s hs => KG.set _ _ hs
  have z7 : (w7.setCell ⟨w.heap.size + 1, 0, none⟩ (.int .i64 ((fs.length : Int) + 2 + (B.lenC : Int)))).heap.size = w7.heap.size := size_set _ _ _
  have bw7 : Below N w (w7.setCell ⟨w.heap.size + 1, 0, none⟩ (.int .i64 ((fs.length : Int) + 2 + (B.lenC : Int)))) := bw6.setCell (p := ⟨w.heap.size + 1, 0, none⟩) (by show N ≤ w.heap.size + 1; omega) _
  have hb8 := HEA.out A' E.len c' M N cb _ d r _ (sE.below (bw7.mono hMN)) hMN (by rw [z7]; omega) h0 em7 okE (by rw [l6]; omega) (HOP.out.below bw7 h0)
  rw [l6] at hb8
  have HB8 := Lib.hid hb8
  have O7 := Lib.hid o7
  have A7 := Lib.hid a7
  have KG7 := Lib.hid kg7
  have Z7 := Lib.hid z7
  have BW7 := Lib.hid bw7
  clear hb8 o7 a7 kg7 z7 bw7 em7 HH
  go_wp2_with fail
  refine HB8.out.mono ?_
  rintro e w8 ⟨rfl, gE, em8, ev8, kf8, b8⟩
  have z8 := kf8.size
  rw [Z7.out] at z8
  have lE : gE.length = E.lenC := by have := ev8.len; rw [codeL_len] at this; omega
  have o8 := kf8.keep _ _ _ _ (by omega) (by decide) O7.out
  have a8 := kf8.keep _ _ _ _ (by omega) (by decide) A7.out
  have bw8 : Below N w w8 := BW7.out.trans b8
  have l8 : ((((fs ++ [f0]) ++ gB) ++ [f1]) ++ gE).length = fs.length + 2 + B.lenC + E.lenC := by rw [List.length_append, l6, lE]
  have hh := emitHere em8
  rw [l8] at hh
  have HH := Lib.hid hh
  have ha8 : w8.cell? ⟨w.heap.size + 1 + 1, 0, none⟩ = some (.int .i64 0) := (row_cell a8 0).trans rfl
  have hf8 := row_frozen a8 0
  have O8 := Lib.hid o8
  have A8 := Lib.hid a8
  have EV8 := Lib.hid ev8
  have KF8 := Lib.hid kf8
  have EM8 := Lib.hid em8
  clear hh o8 a8 ev8 kf8 em8 HB8 ho6 hf6 c5
  go_wp2_with fail
  refine HH.out.mono ?_
  rintro e w9 ⟨rfl, rfl⟩
  go_wp2_with fail
  go_end0
  have kg9 : ∀ s, w.heap.size + 1 + 1 < s → KG s w9 (w9.setCell ⟨w.heap.size + 1 + 1, 0, none⟩ (.int .i64 ((fs.length : Int) + 2 + (B.lenC : Int) + (E.lenC : Int)))) := fun s hs => KG.set _ _ hs
  have a9 := row_set (i := 0) A8.out (.int .i64 ((fs.length : Int) + 2 + (B.lenC : Int) + (E.lenC : Int)))
  have o9 : (w9.setCell ⟨w.heap.size + 1 + 1, 0, none⟩ (.int .i64 ((fs.length : Int) + 2 + (B.lenC : Int) + (E.lenC : Int)))).heap[w.heap.size + 1]? = _ := (row_other (by omega) _).trans O8.out
  have em9 := EM8.out.set A8.out (.int .i64 ((fs.length : Int) + 2 + (B.lenC : Int) + (E.lenC : Int)))
  have g79 : ∀ s, cb < s → w.heap.size + 1 + 1 < s → KG s w7 (w9.setCell ⟨w.heap.size + 1 + 1, 0, none⟩ (.int .i64 ((fs.length : Int) + 2 + (B.lenC : Int) + (E.lenC : Int)))) := fun s h1 h2 => ((KG7.out s (by omega)).trans (KF8.out.kg h1)).trans (kg9 s h2)
  refine ⟨rfl, ([f0] ++ gB) ++ ([f1] ++ gE), by simpa [List.append_assoc] using em9, ?_, ?_, ?_⟩
  · have e : codeS 6 x y n B E fs.length = ([6, x, 0, ((fs.length + 2 + B.lenC : Nat) : Int)] ++ codeL B (fs.length + 1)) ++ ([7, 0, 0, ((fs.length + 2 + B.lenC + E.lenC : Nat) : Int)] ++ codeL E (fs.length + 2 + B.lenC)) := rfl
    rw [e]
    refine EvL.app (EvL.app (EvL.one (.inr ⟨rfl, w.heap.size + 1, by omega, ?_, ?_⟩)) ?_) (EvL.app (EvL.one (.inr ⟨rfl, w.heap.size + 1 + 1, by omega, ?_, ?_⟩)) ?_)
    · exact (EV4.out.kg (((KF5.out.kg (by omega)).trans (KF6.out.kg (by omega))).trans (g79 _ (by omega) (by omega)))).mono (by omega)
    · rw [o9]; simp
    · exact (EV5.out.kg ((KF6.out.kg (by omega)).trans (g79 _ (by omega) (by omega)))).mono (by omega)
    · exact (EV6.out.kg (g79 _ (by omega) (by omega))).mono (by omega)
    · rw [a9]; simp
    · exact (EV8.out.kg (kg9 _ (by rw [Z7.out]; omega))).mono (by rw [Z7.out]; omega)
  · refine ⟨by rw [size_set]; omega, fun b vs t z hb ht hc => ?_⟩
    have hbl := (Array.getElem?_eq_some_iff.1 hc).1
    have h7 := KF6.out.keep b vs t z hb ht (KF5.out.keep b vs t z hb ht (KF4.out.keep b vs t z hb ht (kW.keep b vs t z hb ht hc)))
    rw [row_other (by omega)]
    exact KF8.out.keep b vs t z hb ht (by rw [row_other (by omega)]; exact h7)
  · exact bw8.setCell (p := ⟨w.heap.size + 1 + 1, 0, none⟩) (by show N ≤ w.heap.size + 1 + 1; omega) _

set_option maxRecDepth 100000 in
theorem addWhile_of (x y n : Int) (B E : SL) (hB : ListAdds B) (A A' : Option Addr) (c c' M N cb : Nat) (fs : List Value) (d r : Int) (w : World) (sB : Sl w M B A B.len c) (hMN : M ≤ N) (hN : N ≤ w.heap.size) (h0 : 0 < N) (he : Emit w N cb fs)
    (okB : okL B d r = true) (hlen : fs.length + lenS 7 B E ≤ 1000) (hop : Ops w) :
    Calls Tryz.prog 66 #[.pointer (some ⟨cb, 0, none⟩), .agg #[.int .i64 7, .int .i64 x, .int .i64 y, .int .i64 n, .slice A B.len c, .slice A' E.len c']] w (EmitPost w N cb fs (codeS 7 x y n B E fs.length)) := by
  have HE := Lib.hid he
  have HOP := Lib.hid hop
  have HBA := Lib.hid hB
  have hcb : cb < w.heap.size := (he.cells).choose_spec.2.2.2.2
  clear he hop hB
  go_enter Tryz.func66, Tryz.ntmps66
  go_wp2_with fail
  obtain ⟨W, hW⟩ : ∃ W, W = (w.alloc (.cells #[.int .i64 7, .int .i64 x, .int .i64 y, .int .i64 n, .slice A B.len c, .slice A' E.len c'] 36)).alloc (.cells #[.int .i64 0] 3) := ⟨_, rfl⟩
  rw [← hW]
  have bW : Below w.heap.size w W := by rw [hW]; exact ((Below.refl _ _).alloc (Nat.le_refl _) _).alloc (by simp) _
  have kW : KF cb w W := KF.of_below bW
  have zW : W.heap.size = w.heap.size + 2 := by rw [hW]; simp
  have s0 : W.heap[w.heap.size]? = some (.cells #[.int .i64 7, .int .i64 x, .int .i64 y, .int .i64 n, .slice A B.len c, .slice A' E.len c'] 36 (0, 0)) := by
    rw [hW, Below.heap_alloc _ _ _ (by simp), new_row]
  have a0 : W.heap[w.heap.size + 1]? = some (.cells #[.int .i64 0] 3 (0, 0)) := by
    rw [hW]
    have := new_row (w.alloc (.cells #[.int .i64 7, .int .i64 x, .int .i64 y, .int .i64 n, .slice A B.len c, .slice A' E.len c'] 36)) #[.int .i64 0] 3
    simpa only [World.size_alloc] using this
  have eW := HE.out.below bW
  have lS : lenS 7 B E = 2 + B.lenC := rfl
  have c1 : W.cell? ⟨w.heap.size, 1, none⟩ = some (.int .i64 x) := (row_cell s0 1).trans rfl
  have S0 := Lib.hid s0
  have A0 := Lib.hid a0
  clear hW s0 a0
  refine (emitHere eW).mono ?_
  rintro e W ⟨rfl, rfl⟩
  have hb4 := emitJump eW (by omega) (by omega) 6 x (w.heap.size + 1)
  have HB4 := Lib.hid hb4
  clear hb4
  go_wp2_with fail
  refine HB4.out.mono ?_
  rintro e w4 ⟨rfl, f0, em4, ev4, kf4, b4⟩
  have z4 := kf4.size
  have s4 := kf4.keep _ _ _ _ (by omega) (by decide) S0.out
  have a4 := kf4.keep _ _ _ _ (by omega) (by decide) A0.out
  have bw4 : Below N w w4 := (bW.mono hN).trans b4
  have cB4 : w4.cell? ⟨w.heap.size, 4, none⟩ = some (.slice A B.len c) := (row_cell s4 4).trans rfl
  have l4 : (fs ++ [f0]).length = fs.length + 1 := by simp
  have hb5 := HBA.out A B.len c M N cb (fs ++ [f0]) d r w4 (sB.below (bw4.mono hMN)) hMN (by omega) h0 em4 okB (by omega) (HOP.out.below bw4 h0)
  rw [l4] at hb5
  have HB5 := Lib.hid hb5
  have A4 := Lib.hid a4
  have EV4 := Lib.hid ev4
  have KF4 := Lib.hid kf4
  clear hb5 s4 a4 ev4 kf4 em4 S0 A0 HB4
  go_wp2_with fail
  refine HB5.out.mono ?_
  rintro e w5 ⟨rfl, gB, em5, ev5, kf5, b5⟩
  have z5 := kf5.size
  have lB : gB.length = B.lenC := by have := ev5.len; rw [codeL_len] at this; omega
  have a5 := kf5.keep _ _ _ _ (by omega) (by decide) A4.out
  have bw5 : Below N w w5 := bw4.trans b5
  have l5 : ((fs ++ [f0]) ++ gB).length = fs.length + 1 + B.lenC := by simp [lB]; omega
  have A5 := Lib.hid a5
  have EV5 := Lib.hid ev5
  have KF5 := Lib.hid kf5
  have EM5 := Lib.hid em5
  clear a5 ev5 kf5 em5 A4 HB5 cB4
  go_wp2_with fail
  have hb6 := emitAdd EM5.out (by omega) (by omega) 7 0 0 (fs.length : Int)
  refine hb6.mono ?_
  clear hb6
  rintro e w6 ⟨rfl, f1, em6, ev6, kf6, b6⟩
  have z6 := kf6.size
  have a6 := kf6.keep _ _ _ _ (by omega) (by decide) A5.out
  have bw6 : Below N w w6 := bw5.trans b6
  have l6 : (((fs ++ [f0]) ++ gB) ++ [f1]).length = fs.length + 2 + B.lenC := by rw [List.length_append, l5]; simp; omega
  have hh := emitHere em6
  rw [l6] at hh
  have HH := Lib.hid hh
  have ha6 : w6.cell? ⟨w.heap.size + 1, 0, none⟩ = some (.int .i64 0) := (row_cell a6 0).trans rfl
  have hf6 := row_frozen a6 0
  have A6 := Lib.hid a6
  have EV6 := Lib.hid ev6
  have KF6 := Lib.hid kf6
  have EM6 := Lib.hid em6
  clear hh a6 ev6 kf6 em6
  go_wp2_with fail
  refine HH.out.mono ?_
  rintro e w9 ⟨rfl, rfl⟩
  go_wp2_with fail
  go_end0
  have kg9 : ∀ s, w.heap.size + 1 < s → KG s w9 (w9.setCell ⟨w.heap.size + 1, 0, none⟩ (.int .i64 ((fs.length : Int) + 2 + (B.lenC : Int)))) := fun s hs => KG.set _ _ hs
  have a9 := row_set (i := 0) A6.out (.int .i64 ((fs.length : Int) + 2 + (B.lenC : Int)))
  have em9 := EM6.out.set A6.out (.int .i64 ((fs.length : Int) + 2 + (B.lenC : Int)))
  refine ⟨rfl, ([f0] ++ gB) ++ [f1], by simpa [List.append_assoc] using em9, ?_, ?_, ?_⟩
  · have e : codeS 7 x y n B E fs.length = ([6, x, 0, ((fs.length + 2 + B.lenC : Nat) : Int)] ++ codeL B (fs.length + 1)) ++ [7, 0, 0, (fs.length : Int)] := rfl
    rw [e]
    refine EvL.app (EvL.app (EvL.one (.inr ⟨rfl, w.heap.size + 1, by omega, ?_, ?_⟩)) ?_) ?_
    · exact (EV4.out.kg (((KF5.out.kg (by omega)).trans (KF6.out.kg (by omega))).trans (kg9 _ (by omega)))).mono (by omega)
    · rw [a9]; simp
    · exact (EV5.out.kg ((KF6.out.kg (by omega)).trans (kg9 _ (by omega)))).mono (by omega)
    · exact (EvL.one EV6.out).kg (kg9 _ (by omega)) |>.mono (by omega)
  · refine ⟨by rw [size_set]; omega, fun b vs t z hb ht hc => ?_⟩
    have hbl := (Array.getElem?_eq_some_iff.1 hc).1
    have h7 := KF6.out.keep b vs t z hb ht (KF5.out.keep b vs t z hb ht (KF4.out.keep b vs t z hb ht (kW.keep b vs t z hb ht hc)))
    rw [row_other (by omega)]
    exact h7
  · exact bw6.setCell (p := ⟨w.heap.size + 1, 0, none⟩) (by show N ≤ w.heap.size + 1; omega) _

theorem new_row_eq {w W : World} {vs : Array Value} {t : TypeId} (h : w.alloc (.cells vs t) = W) : W.heap[w.heap.size]? = some (.cells vs t (0, 0)) := by
  subst h; exact new_row _ _ _

theorem leaf_kinds {k x y n r : Int} (h : leafB k x y n r = true) : k = 1 ∨ k = 2 ∨ k = 3 ∨ k = 4 ∨ k = 5 ∨ (k = 9 ∧ y = 0 ∧ n = 0) ∨ (k = 10 ∧ y = 0 ∧ n = 0) ∨ (k = 11 ∧ x = 0 ∧ y = 0 ∧ n = 0) := by
  unfold leafB at h
  repeat' split at h
  all_goals ((try simp at h) <;> omega)

set_option maxRecDepth 100000 in
set_option maxHeartbeats 8000000 in
theorem addStmt_of (k x y n : Int) (B E : SL) (hB : ListAdds B) (hE : ListAdds E) : StmtAdds k x y n B E := by
  intro A A' c c' M N cb fs d r w sB sE hMN hN h0 he hok hlen hop
  obtain ⟨hh, okB, okE⟩ := okS_parts hok
  have hcb : cb < w.heap.size := (he.cells).choose_spec.2.2.2.2
  have bW : ∀ k' : Int, Below w.heap.size w (w.alloc (.cells #[.int .i64 k', .int .i64 x, .int .i64 y, .int .i64 n, .slice A B.len c, .slice A' E.len c'] 36)) := fun k' => (Below.refl _ _).alloc (Nat.le_refl _) _
  by_cases h6 : k = 6
  · subst h6
    have hc := addIf_of x y n B E hB hE A A' c c' M N cb fs _ _ _ (sB.below ((bW 6).mono (by omega))) (sE.below ((bW 6).mono (by omega))) hMN (by simp; omega) h0 (he.below (bW 6)) okB okE hlen (hop.below ((bW 6).mono hN) h0)
    have HC := Lib.hid hc
    clear hc hB hE he hok hop hh okB okE
    go_enter Tryz.func35, Tryz.ntmps35
    go_wp2_with fail
    refine HC.out.mono ?_
    rintro e w1 ⟨rfl, gs, em, ev, kf, b1⟩
    go_wp2_with fail
    go_end0
    exact ⟨rfl, gs, em, ev.mono (by simp), (KF.alloc _ _ _).trans kf, ((bW 6).mono hN).trans b1⟩
  · by_cases h7 : k = 7
    · subst h7
      have hc := addWhile_of x y n B E hB A A' c c' M N cb fs _ _ _ (sB.below ((bW 7).mono (by omega))) hMN (by simp; omega) h0 (he.below (bW 7)) okB hlen (hop.below ((bW 7).mono hN) h0)
      have HC := Lib.hid hc
      clear hc hB hE he hok hop hh okB okE
      go_enter Tryz.func35, Tryz.ntmps35
      go_wp2_with fail
      refine HC.out.mono ?_
      rintro e w1 ⟨rfl, gs, em, ev, kf, b1⟩
      go_wp2_with fail
      go_end0
      exact ⟨rfl, gs, em, ev.mono (by simp), (KF.alloc _ _ _).trans kf, ((bW 7).mono hN).trans b1⟩
    · by_cases h8 : k = 8
      · subst h8
        have lS : lenS 8 B E = 2 + B.lenC := rfl
        have em0 := he.below (bW 8)
        have HE := Lib.hid em0
        have HOP := Lib.hid hop
        have HBA := Lib.hid hB
        have OKB := Lib.hid okB
        clear em0 hB hE he hok hop hh okB okE
        go_enter Tryz.func35, Tryz.ntmps35
        go_wp2_with fail
        obtain ⟨W, hW⟩ : ∃ W, W = w.alloc (.cells #[.int .i64 8, .int .i64 x, .int .i64 y, .int .i64 n, .slice A B.len c, .slice A' E.len c'] 36) := ⟨_, rfl⟩
        have eW := HE.out
        have bw := bW 8
        rw [← hW] at eW bw ⊢
        have zW : W.heap.size = w.heap.size + 1 := by rw [hW]; simp
        have s0 : W.heap[w.heap.size]? = some (.cells #[.int .i64 8, .int .i64 x, .int .i64 y, .int .i64 n, .slice A B.len c, .slice A' E.len c'] 36 (0, 0)) := by rw [hW, new_row]
        clear hW HE bW
        refine (emitAdd eW (by omega) (by omega) 8 x 0 0).mono ?_
        rintro e w4 ⟨rfl, f0, em4, ev4, kf4, b4⟩
        have z4 := kf4.size
        have s4 := kf4.keep _ _ _ _ (by omega) (by decide) s0
        have bw4 : Below N w w4 := (bw.mono hN).trans b4
        have cB4 : w4.cell? ⟨w.heap.size, 4, none⟩ = some (.slice A B.len c) := (row_cell s4 4).trans rfl
        have l4 : (fs ++ [f0]).length = fs.length + 1 := by simp
        have hb5 := HBA.out A B.len c M N cb (fs ++ [f0]) _ _ w4 (sB.below (bw4.mono hMN)) hMN (by omega) h0 em4 OKB.out (by omega) (HOP.out.below bw4 h0)
        rw [l4] at hb5
        have HB5 := Lib.hid hb5
        have S4 := Lib.hid s4
        have EV4 := Lib.hid ev4
        have KF4 := Lib.hid kf4
        clear hb5 s4 ev4 kf4 em4 s0
        go_wp2_with fail
        refine HB5.out.mono ?_
        rintro e w5 ⟨rfl, gB, em5, ev5, kf5, b5⟩
        have z5 := kf5.size
        have lB : gB.length = B.lenC := by have := ev5.len; rw [codeL_len] at this; omega
        have s5 := kf5.keep _ _ _ _ (by omega) (by decide) S4.out
        have bw5 : Below N w w5 := bw4.trans b5
        have l5 : ((fs ++ [f0]) ++ gB).length = fs.length + 1 + B.lenC := by simp [lB]; omega
        have c51 : w5.cell? ⟨w.heap.size, 1, none⟩ = some (.int .i64 x) := (row_cell s5 1).trans rfl
        have EV5 := Lib.hid ev5
        have KF5 := Lib.hid kf5
        have EM5 := Lib.hid em5
        clear s5 ev5 kf5 em5 HB5 cB4 S4
        go_wp2_with fail
        refine (emitAdd EM5.out (by omega) (by omega) 9 x 0 0).mono ?_
        rintro e w6 ⟨rfl, f1, em6, ev6, kf6, b6⟩
        have z6 := kf6.size
        have EV6 := Lib.hid ev6
        have KF6 := Lib.hid kf6
        have EM6 := Lib.hid em6
        clear ev6 kf6 em6
        go_wp2_with fail
        go_end0
        refine ⟨rfl, ([f0] ++ gB) ++ [f1], by simpa [List.append_assoc] using EM6.out, ?_, (KF.of_below bw).trans ((KF4.out.trans KF5.out).trans KF6.out), bw5.trans b6⟩
        have e : codeS 8 x y n B E fs.length = ([8, x, 0, 0] ++ codeL B (fs.length + 1)) ++ [9, x, 0, 0] := rfl
        rw [e]
        refine EvL.app (EvL.app (((EvL.one EV4.out).kg ((KF5.out.kg (by omega)).trans (KF6.out.kg (by omega)))).mono (by omega)) ((EV5.out.kg (KF6.out.kg (by omega))).mono (by omega))) ((EvL.one EV6.out).mono (by omega))
      · have hl : leafB k x y n r = true := by
          unfold headB at hh
          rw [if_neg h6, if_neg h7, if_neg h8, Bool.and_eq_true, Bool.and_eq_true] at hh
          exact hh.2.2
        have lS : lenS k B E = 1 := by unfold lenS; rw [if_neg h6, if_neg h7, if_neg h8]
        have hcode : codeS k x y n B E fs.length = leafC k x y n := by unfold codeS; rw [if_neg h6, if_neg h7, if_neg h8]
        obtain ⟨p1, p2, p3, p4, p5, p9, p10, p11⟩ := hop
        have bk := (bW k).drew
        have em0 := he.below bk
        clear bW
        rcases leaf_kinds hl with rfl | rfl | rfl | rfl | rfl | ⟨rfl, rfl, rfl⟩ | ⟨rfl, rfl, rfl⟩ | ⟨rfl, rfl, rfl, rfl⟩
        all_goals
          have HE := Lib.hid em0
          have HCO := Lib.hid hcode
          have hw0 : 0 < w.heap.size := by omega
          clear em0 hB hE he hok hh okB okE hl hcode h6 h7 h8
          go_enter Tryz.func35, Tryz.ntmps35
          go_wp2_with fail
          generalize hW : World.alloc w _ = W at HE bk ⊢
          have s0 := new_row_eq hW
          have c0 : W.cell? ⟨w.heap.size, 0, none⟩ = some _ := (row_cell s0 0).trans rfl
          have c1 : W.cell? ⟨w.heap.size, 1, none⟩ = some _ := (row_cell s0 1).trans rfl
          have c2 : W.cell? ⟨w.heap.size, 2, none⟩ = some _ := (row_cell s0 2).trans rfl
          have c3 : W.cell? ⟨w.heap.size, 3, none⟩ = some _ := (row_cell s0 3).trans rfl
          have q : ∀ i : Nat, W.cell? ⟨0, i, none⟩ = w.cell? ⟨0, i, none⟩ := fun i => bk.cell (p := ⟨0, i, none⟩) hw0
          have zW : N ≤ W.heap.size := Nat.le_trans hN bk.size
          have q1 := (q 1).trans p1
          have q2 := (q 2).trans p2
          have q3 := (q 3).trans p3
          have q4 := (q 4).trans p4
          have q5 := (q 5).trans p5
          have q9 := (q 9).trans p9
          have q10 := (q 10).trans p10
          have q11 := (q 11).trans p11
          clear hW s0 q p1 p2 p3 p4 p5 p9 p10 p11
          go_still_tail 12, (by kernel_rfl)
          change wpList _ _ _ _ _ (World.drew _)
          go_wp2_with fail
          refine (emitAdd HE.out (by omega) zW _ _ _ _).mono ?_
          rintro e w1 ⟨rfl, f, em, ev, kf, b1⟩
          go_wp2_with fail
          go_end0
          refine ⟨rfl, [f], em, ?_, (KF.of_below bk).trans kf, (bk.mono hN).trans b1⟩
          rw [HCO.out]
          exact (EvL.one ev).mono bk.size

theorem addStmts (L : SL) : ListAdds L := by
  suffices h : ∀ m, ∀ L : SL, L.size < m → ListAdds L from h (L.size + 1) L (by omega)
  intro m
  induction m with
  | zero => intro L h; omega
  | succ m ih =>
    intro L h
    refine addStmts_of L fun i k x y n B E R hd => ?_
    have := SL.drop_size hd
    exact addStmt_of k x y n B E (ih B (by omega)) (ih E (by omega))
end Go.Proofs.YtnfnjhbaaefbpaaGreatDoor
