/- PROVED: laws.FnWholeOk returns true for every input, and its arguments read as before. No condition. -/
import Derived.Test.YtoinagefhbpakaaOwnImplC
import Derived.Test.YtoinagefhbpakaaOwnWalk
import Derived.Test.YtoinagefhbpakaaDrawWhole
import Derived.Test.YtoinagefhbpakaaFlipPure
import Derived.Test.YtoinagefhbpakaaRows
import Derived.WalkKit
import Derived.ProofKit
import Derived.OpenShut
import Derived.Below
import Derived.Carry
import Derived.Test.YtoinagefhbpakaaOpen
/- WholeOk of the program, whatever comes in; the walk of laws.FnExactWholeOk. -/
namespace Go.Proofs.Ytoinagefhbpakaa
open Go.ChangeShapes Go.WideShapes Go.ChangeAt Go.RowKit

theorem implWholeOk : WholeSays := fun Ls A n c N o B b c' S w hs hN ho => by
  refine (callsIn_wide (n := 6)).1 ?_
  cases hp : okPr Ls
  · exact implWhole_a Ls A n c N o B b c' S w hs hN ho hp
  · cases hr : roomsB o
    · exact implWhole_b Ls A n c N o B b c' S w hs hN ho hp hr
    · exact implWhole_c Ls A n c N o B b c' S w hs hN ho hp hr

theorem wFnExactWholeOk (L : List SL) (A : Option Addr) (n c : Nat) (xs : List Int) (B : Option Addr) (b c' : Nat) (w : World) (hs : Ps w w.heap.size L A n c) (ht : Fl w (fun _ => True) 1 xs B b c') :
    Calls Try.prog 9 #[.slice A n c, .slice B b c'] w fun e w' => e = .returned (.bool true) ∧ Below w.heap.size w w' :=
  walkWholeOk implWholeOk L A n c xs B b c' w hs ht
end Go.Proofs.Ytoinagefhbpakaa

/- The walk of laws.FnWholeOk. -/
namespace Go.Proofs.Ytoinagefhbpakaa
open Go.ChangeShapes Go.WideShapes Go.ChangeAt Go.RowKit

theorem drawWholeOk (A : Option Addr) (n c : Nat) (w : World) (h : Bytes w A n) (hn : n ≤ c) (hc : c ≤ maxLen) :
    Calls Try.prog 32 #[.slice A n c] w fun e w' => ∃ (Ls : List SL) (r m cap : Nat) (xs : List Int) (B : Option Addr) (b c' : Nat), e = .returned (.tuple #[.slice (some ⟨r, 0, none⟩) m cap, .slice B b c']) ∧ Ps w' w'.heap.size Ls (some ⟨r, 0, none⟩) m cap ∧ sizeP Ls ≤ 1048576 ∧ Fl w' (fun _ => True) 1 xs B b c' ∧ Below w.heap.size w w' := by
  go_enter Try.func32, Try.ntmps32
  go_wp2_with fail
  refine (l11Open A n c _ h hn hc).mono ?_
  rintro e w1 ⟨rfl, hR, hb⟩
  go_wp2_with fail
  refine (someW_ _ _ hR).mono ?_
  rintro e w2 ⟨Ls, r, m, cap, xs, B, b, c', q, rfl, hps, hz, hfl, _, _, _, hg⟩
  have HP := Lib.hid (hps.ps (N := w2.heap.size) fun b hb => hb.2)
  have HF := Lib.hid (hfl.mono (T := fun _ => True) fun _ _ => trivial)
  clear hps hfl
  go_wp2_with fail
  go_ret2
  exact ⟨Ls, r, m, cap, xs, B, b, c', rfl, HP.out, hz, HF.out, hb.trans (Below.of_grown hg (Nat.le_refl _) hR.lt)⟩

theorem ints_one (xs : List Int) : ∀ u ∈ ints xs, u.oneCell' = true := by
  intro u hu
  unfold ints at hu
  obtain ⟨x, _, rfl⟩ := List.mem_map.1 hu
  rfl

theorem fl_cells {w : World} {S : Nat → Prop} {xs : List Int} {a : Addr} {n c : Nat} (h : Fl w S 1 xs (some a) n c) : ∀ j u, (ints xs)[j]? = some u → w.cell? (a.add j) = some u := by
  intro j u hj
  have hlt : j < xs.length := by have := (List.getElem?_eq_some_iff.1 hj).1; rwa [ints_len] at this
  rw [ints_get hlt] at hj
  injection hj with hj
  rw [← hj]
  exact (h.at_ a rfl j hlt).2

/-- What stands behind the first number. -/
theorem fl_tail {w : World} {S : Nat → Prop} {xs : List Int} {a : Addr} {n c : Nat} (h : Fl w S 1 xs (some a) n c) (h0 : 0 < n) : Fl w S 1 (xs.drop 1) (some (a.add 1)) (n - 1) (c - 1) := by
  have hl := h.len
  have hle := h.le
  have htop := h.top
  refine ⟨by rw [List.length_drop]; omega, by omega, by omega, (fun h => by cases h), fun b hb j hj => ?_⟩
  injection hb with hb
  subst hb
  have hj' : 1 + j < xs.length := by rw [List.length_drop] at hj; omega
  obtain ⟨h1, h2⟩ := h.at_ a rfl (1 + j) hj'
  refine ⟨by rw [add_bl]; exact h1, ?_⟩
  rw [add_ad, h2]
  simp [List.getD_eq_getElem?_getD, Nat.add_comm 1 j]

set_option maxRecDepth 100000 in
set_option maxHeartbeats 8000000 in
theorem wFnWholeOk (A : Option Addr) (n c : Nat) (w : World) (h : Bytes w A n) (hn : n ≤ c) (hc : c ≤ maxLen) :
    Calls Try.prog 10 #[.slice A n c] w fun e w' => e = .returned (.bool true) ∧ Below w.heap.size w w' := by
  obtain ⟨i0, hi, hz0, hz1, hz2⟩ := info_parts info_Int6
  have n9 : n ≤ 9223372036854775807 := by unfold maxLen at hc; omega
  by_cases hl : 1048576 < n
  · go_enter Try.func10, Try.ntmps10
    go_wp2_with fail
    go_ret
    exact ⟨rfl, Below.refl _ _⟩
  have hl1 : ¬ 1048576 < (n : Int) := by omega
  go_enter Try.func10, Try.ntmps10
  go_wp2_with fail
  refine (drawWholeOk A n c _ h hn hc).mono ?_
  rintro e w1 ⟨Ls, r, m, cap, xs, B, b, c', rfl, hps, hsz, hfl, b1⟩
  obtain ⟨ok, hok⟩ : ∃ ok, wholeB Ls xs = ok := ⟨_, rfl⟩
  have HK := Lib.hid hok
  have HP := Lib.hid hps
  have HF := Lib.hid hfl
  have z1 := b1.size
  clear hok hps hfl
  go_wp2_with fail
  refine (implWholeOk Ls _ m cap w1.heap.size xs B b c' _ w1 HP.out (Nat.le_refl _) HF.out).mono ?_
  rintro e w2 ⟨rfl, b2⟩
  rw [HK.out]
  go_wp2_with fail
  refine (specWholeOk Ls hsz _ m cap w1.heap.size xs B b c' _ w2 (HP.out.below b2) b2.size (HF.out.later b2)).mono ?_
  rintro e w3 ⟨rfl, hb3⟩
  rw [HK.out]
  have b3 := b2.trans (hb3.mono b2.size)
  clear hb3 b2
  cases ok
  · go_wp2_with fail
    refine (specWholeOk Ls hsz _ m cap w1.heap.size xs B b c' _ w3 (HP.out.below b3) b3.size (HF.out.later b3)).mono ?_
    rintro e w4 ⟨rfl, hb4⟩
    rw [HK.out]
    have b4 := b3.trans (hb4.mono b3.size)
    go_wp2_with fail
    go_ret
    exact ⟨rfl, b1.trans (b4.mono z1)⟩
  · obtain ⟨hpr, hrm, _⟩ := whole_parts HK.out
    have h5 : xs.length = 5 := by unfold roomsB at hrm; rw [Bool.and_eq_true] at hrm; exact of_decide_eq_true hrm.1
    have hb5 : b = 5 := by have := HF.out.len; omega
    subst hb5
    obtain ⟨a, rfl⟩ := HF.out.some (by omega)
    have hx : ∀ j : Nat, j < 5 → 0 ≤ xs.getD j 0 ∧ xs.getD j 0 < 2 := fun j hj => by
      unfold roomsB at hrm
      rw [Bool.and_eq_true] at hrm
      exact rmB_true (List.all_eq_true.1 hrm.2 _ (by rw [List.getD_eq_getElem?_getD, List.getElem?_eq_getElem (by omega)]; exact List.getElem_mem _))
    have H5 := Lib.hid h5
    have HX := Lib.hid hx
    have HPR := Lib.hid hpr
    have hcap : 5 ≤ c' := HF.out.le
    have hcap2 : c' ≤ 9223372036854775807 := by have := HF.out.top; unfold maxLen at this; omega
    clear hpr hrm h5 hx
    go_wp2_with fail
    go_loopw [6, 7] (fun i _ wr => ∃ j : Nat, j ≤ 5 ∧ i = .int .i64 j ∧ Below w1.heap.size w1 wr) (fun i _ _ => 5 - (intOf i).toNat)
    case atStart => exact ⟨0, by omega, rfl, b3⟩
    case round =>
      clear b3
      obtain ⟨j, hj, rfl, hb⟩ := hrel
      have hsz' := hb.size
      by_cases hlt : j < 5
      · have own0 : (wr.alloc (.cells #[] 3)).ownsRow wr.heap.size 3 1 (.slice (some ⟨wr.heap.size, 0, none⟩) 0 0) 0 [] := World.ownsRow_lit (base := wr.heap.size) (e := 3) (size := 1) wr #[] 0 (Nat.le_refl _) (Nat.zero_le _) rfl
        have hsrc := Lib.hid (fl_cells ((HF.out.later hb).later ((Below.refl wr.heap.size wr).alloc (Nat.le_refl _) (.cells #[] 3))))
        have HLI := Lib.hid (show (ints xs).length = 5 * 1 by rw [ints_len, H5.out])
        have HON := Lib.hid (ints_one xs)
        obtain ⟨x, hx⟩ : ∃ x, xs.getD j 0 = x := ⟨_, rfl⟩
        obtain ⟨x0, x2⟩ := HX.out j hlt
        rw [hx] at x0 x2
        have HXJ := Lib.hid hx
        clear hx
        go_wp2_with (first | (at_builtin; refine wpList_append_own _ rfl _ _ 22 rfl wr.heap.size 3 i0 (.int .i64 0) 1 8 Try.underlying22 hi hz0 hz1 hz2 rfl (by decide) _ _ _ rfl own0 a 5 c' (ints xs) rfl HLI.out hsrc.out HON.out (by unfold maxLen; omega) (by omega) (by simp) ?_) | fail)
        intro v4 w4 ho4 hg4 hn4
        obtain ⟨r4, cap4, rfl, hr40, hr41⟩ := own_some ho4 hn4
        have b4 : Below wr.heap.size wr w4 := ((Below.refl wr.heap.size wr).alloc (Nat.le_refl _) _).grown hg4 (by simp) (fun k hk => by simp [Value.ownBlock] at hk; omega)
        have ho4' : w4.ownsRow wr.heap.size 3 1 (.slice (some ⟨r4, 0, none⟩) 5 cap4) 5 (ints xs) := by simpa using ho4
        have co := ((HF.out.later hb).later b4).one j hlt
        rw [HXJ.out] at co
        have q0 := ho4'.cellAt j (by omega)
        rw [ints_get (by rw [H5.out]; exact hlt)] at q0
        have f0 := ho4'.frozenAt j
        obtain ⟨ho5, _⟩ := ho4'.stored j (.int .i64 (1 - x))
        rw [ints_set] at ho5
        have b5 := b4.setCell (p := ⟨r4, j, none⟩) hr40 (.int .i64 (1 - x))
        have b5' := hb.trans (b5.mono hsz')
        have HO5 := Lib.hid (own_fl1 ho5)
        have HFL := Lib.hid (show wholeB Ls (xs.set j (1 - x)) = !touchP (j : Int) Ls by rw [← HXJ.out]; exact whole_flip HK.out hlt)
        clear ho4 ho4' hg4 hn4 ho5 own0
        go_wp2_with fail
        refine (implWholeOk Ls _ m cap w1.heap.size (xs.set j (1 - x)) _ _ _ _ _ (HP.out.below b5') b5'.size HO5.out).mono ?_
        rintro e w6 ⟨rfl, hb6⟩
        rw [HFL.out]
        have b6 := b5'.trans (hb6.mono b5'.size)
        clear hb6 b5 b5' HO5
        go_wp2_with fail
        refine (wpTouches_ (j : Int) Ls _ m cap w1.heap.size w6 (HP.out.below b6) b6.size HPR.out).mono ?_
        rintro e w7 ⟨rfl, hb7⟩
        have b7 := b6.trans (hb7.mono b6.size)
        generalize touchP (j : Int) Ls = tp
        clear HFL
        cases tp
        · go_wp2_with fail
          go_roundw
          case rel => exact ⟨j + 1, by omega, by go_num, b7⟩
          case measure => simp [intOf]; omega
        · go_wp2_with fail
          go_roundw
          case rel => exact ⟨j + 1, by omega, by go_num, b7⟩
          case measure => simp [intOf]; omega
      · obtain rfl : j = 5 := by omega
        have HT := Lib.hid (fl_tail (HF.out.later hb) (by omega))
        have HW := Lib.hid (whole_short Ls (o := xs.drop 1) (by rw [List.length_drop, H5.out]; omega))
        go_wp2_with fail
        refine (implWholeOk Ls _ m cap w1.heap.size (xs.drop 1) _ _ _ _ _ (HP.out.below hb) hsz' HT.out).mono ?_
        rintro e w6 ⟨rfl, hb6⟩
        rw [HW.out]
        have b6 := hb.trans (hb6.mono hsz')
        go_wp2_with fail
        go_ret
        exact ⟨rfl, b1.trans (b6.mono z1)⟩
end Go.Proofs.Ytoinagefhbpakaa

/- From a walk to the statement: the row's last step where nothing old has turned, whatever came in. -/
namespace Go.Proofs.Ytoinagefhbpakaa
open Go.ChangeShapes Go.WideShapes Go.ChangeAt Go.RowKit

theorem own : ownKnob Try.prog.godebug = none := by kernel_rfl
theorem laidOut : laidOutB Try.prog = true := by kernel_rfl

section
variable {H : Type} {enc : TypeId × Value → H}

variable {P : Program}
/-- The row's last step where below the heap's old size nothing has turned. -/
theorem post_below {f : Func} {s : ChangeSpec} {apart fresh handsOn again : Bool} {W W' : World} {args : Array Value} {v : Value} {ds gs : List (DataW H)} {before pa pv : List MemPlace}
    (hW : DataW.Whole enc P f.params.toList s.vars apart W args.toList ds gs before)
    (hres : ∀ (b : Nat) (sp : Nat → Bool) (hd : Bool), DataW.TrodAll enc P W' b sp hd f.resultTypes.toList (v.resultList f.resultTypes.size) (s.fn H (ds ++ gs)).results [])
    (hargs : ∀ sp : Nat → Bool, (∀ p ∈ before, sp p.block = true) → DataW.TrodAll enc P W' 0 sp true f.params.toList args.toList (s.fn H (ds ++ gs)).args pa)
    (hvars : ∀ sp : Nat → Bool, (∀ p ∈ before, sp p.block = true) → DataW.TrodVars enc P W' sp s.vars (s.fn H (ds ++ gs)).vars pv)
    (hps : before = pa ++ pv) (hb : Below W.heap.size W W')
    (hok : ∀ (j : Nat) (t : TypeId) (r : Value), f.resultTypes[j]? = some t → (v.resultList f.resultTypes.size)[j]? = some r → Value.okWide P W' .any 0 t r) :
    s.post enc P f apart fresh handsOn again W args v W' := by
  have lt : ∀ p ∈ before, p.block < W.heap.size := fun p hp => hW.lt p hp
  have old : ∀ p ∈ before, (fun b => decide (b < W.heap.size)) p.block = true := fun p hp => decide_eq_true (lt p hp)
  have frame : W.keptBut W' (fun p => p ∈ before ∧ (p ∈ ([] : List MemPlace) ∨ p ∈ pa ∨ p ∈ pv)) :=
    World.keptBut_mono (fun p hp => ⟨hp, Or.inr (by rw [hps] at hp; simpa using hp)⟩) (hb.frame (· ∈ before))
  obtain ⟨_, _, _, _, _, hz, hn⟩ := id hW
  refine ⟨ds, gs, before, [], pa, pv, hW, hres _ _ _, hargs _ old, hvars _ old, by simpa using frame, fun _ => ?_⟩
  refine ⟨hok, _, _, ([] ++ pa) ++ pv, ⟨[] ++ pa, pv, trodAll_append (hargs _ (fun _ _ => rfl)) (hres _ _ _), hvars _ (fun _ _ => rfl), rfl, fun b off hp => ?_, fun ha => ?_⟩, fun p hp _ => ?_⟩
  · have hin : MemPlace.cell b off ∈ before := by rw [hps]; simpa using hp
    rw [hb.frozen (lt _ hin)]
    exact hz b off hin
  · have := hn ha
    rw [hps] at this
    simpa using this
  · rw [hps]
    simpa using hp

/-- An argument reads behind the call as it did, whatever counts as spare. -/
theorem arg_kept {t : TypeId} (hl : laidOutB P = true) (hr : P.readableRec t = true) (hrow : t < P.types.size) {W W' : World} {v : Value} {d : DataW H} {ps : List MemPlace} {sp : Nat → Bool}
    (h : DataW.Trod enc P W 0 (fun _ => true) true t v d ps) (hb : Below W.heap.size W W') (hlt : ∀ x ∈ ps, x.block < W.heap.size) (hsp : ∀ x ∈ ps, sp x.block = true) : DataW.Trod enc P W' 0 sp true t v d ps :=
  WideElems.Trod_stays hl hr hrow h (fun x hx => hb.same (hlt x hx)) (fun x hx => hsp x hx)
end
end Go.Proofs.Ytoinagefhbpakaa

/- From a walk to the statement: what a slice of bytes that comes in gives a walk, and the row's last step where nothing old has turned. -/
namespace Go.Proofs.Ytoinagefhbpakaa
open Go.ChangeShapes Go.WideShapes Go.ChangeAt Go.RowKit

theorem cellsU8 : Try.prog.cellsOf 5 = 1 := by kernel_rfl

section
variable {H : Type} {enc : TypeId × Value → H}

set_option maxRecDepth 100000 in
/-- A slice of bytes that came in: its length fits, and each of its bytes can be read. -/
theorem open_code {W : World} {base : Nat} {v : Value} {d : DataW H} {ps : List MemPlace} (hval : Value.okWide Try.prog W .any base 34 v) (h : DataW.Trod enc Try.prog W 0 (fun _ => true) true 34 v d ps) :
    ∃ (A : Option Addr) (n c : Nat), v = .slice A n c ∧ n ≤ c ∧ c ≤ maxLen ∧ Bytes W A n := by
  obtain ⟨A, n, c, rfl⟩ := okWide_slice Try.underlying34 hval
  obtain ⟨fuel, hf⟩ := h
  rcases open_ints Try.underlying34 Try.underlying5 cellsU8 hf with ⟨hcs, _⟩ | ⟨a, n', c', zs, hcs, _, hl, hm, hz, _, hcell, hwz⟩
  · simp [Value.cells] at hcs
    obtain ⟨rfl, rfl, rfl⟩ := hcs
    exact ⟨none, 0, 0, rfl, Nat.le_refl _, Nat.zero_le _, fun h => absurd h (by omega)⟩
  · simp [Value.cells] at hcs
    obtain ⟨rfl, rfl, rfl⟩ := hcs
    simp only [if_true] at hz
    refine ⟨_, _, _, rfl, hl, hm, fun h0 => ⟨a, rfl, ?_, fun i hi => ?_⟩⟩
    · have := World.block_lt_of_cell? _ _ (hcell 0 (by omega))
      rwa [add_block] at this
    · have hb := range_u8 hwz i
      exact ⟨zs.getD i 0, by simpa [List.getD] using hb.1, by simpa [List.getD] using hb.2, hcell i (by omega)⟩

end
end Go.Proofs.Ytoinagefhbpakaa

namespace Go.Proofs.Ytoinagefhbpakaa.pFnWholeOk
open Go.ChangeShapes Go.WideShapes Go.ChangeAt Go.RowKit

set_option maxRecDepth 100000 in
theorem lifted (os : Os) (started : os.Started) (H : Type) (enc : TypeId × Value → H) :
    ReturnsInHanded {} Try.checked os 10 .any (Rows.fnWholeOkSpec.pre6 enc Try.prog Try.f10 Rows.fnWholeOkRow.domain false) (Rows.fnWholeOkSpec.post enc Try.prog Try.f10 false true false false) := by
  refine returnsInHanded_of_change (C := Try.checked) own started (by kernel_rfl) Try.func10
    (ChangeSpec.witness6 (enc := enc) (C := Try.checked) false ⟨#[], #[.slice none 0 0], []⟩ 8 (by kernel_rfl) (by kernel_rfl) (by kernel_rfl) (by kernel_rfl)) ?_
  intro W base args ds gs before hval0 hW hcnd _
  have hval : ∀ (j : Nat) t v, Try.f10.params[j]? = some t → args[j]? = some v → Value.okWide Try.prog W .any base t v := hval0
  have hW' := hW
  obtain ⟨p, q, hA0, hV, rfl, _, _⟩ := hW
  have hA : DataW.TrodAll enc Try.prog W 0 (fun _ => true) true Try.f10.params.toList args.toList ds p := hA0
  rw [Try.params10] at hA hval
  obtain ⟨v0, vs0, d0, ds0, p0, q0, hargs, rfl, rfl, h0, r0⟩ := trodAll_cons hA
  obtain ⟨rfl, rfl, rfl⟩ := trodAll_nil r0
  obtain rfl : args = #[v0] := by cases args; simp_all
  obtain ⟨rfl, rfl⟩ := trodVars_none hV
  obtain ⟨A0, n0, c0, rfl, l0, m0, b0⟩ := open_code (hval 0 34 v0 rfl rfl) h0
  clear hA0 hval0
  simp only [List.append_nil] at hW'
  refine (wFnWholeOk A0 n0 c0 W b0 l0 m0).mono fun e W' ⟨he, hb⟩ => ?_
  subst he
  have lt0 : ∀ x ∈ p0, x.block < W.heap.size := fun x hx => hW'.lt x (hx)
  have hargs' : ∀ sp : Nat → Bool, (∀ x ∈ p0, sp x.block = true) → DataW.TrodAll enc Try.prog W' 0 sp true [34] [.slice A0 n0 c0] [d0] (p0) := fun sp hsp => by
    have h : DataW.TrodAll enc Try.prog W' 0 sp true _ _ _ _ := (trodAll_cons_mk (arg_kept laidOut (by kernel_rfl) (of_decide_eq_true (by kernel_rfl)) h0 hb lt0 (fun x hx => hsp x (hx))) trodAll_mk0)
    simpa only [List.append_nil] using h
  exact ⟨_, rfl, post_below (pa := p0) (pv := []) hW' (fun _ _ _ => (trodAll_cons_mk (shut_bool Try.underlying4 _) trodAll_mk0)) (fun sp hsp => hargs' sp hsp) (fun _ _ => rfl) (by simp)
    hb (ok_one (by kernel_rfl) rfl (okWide_bool_mk Try.underlying4 _))⟩

/-- THE STATEMENT. -/
theorem proved : Rows.FnWholeOkSaid :=
  OpenClaim.holds_of_wide 10 Try.f10 rfl rfl rfl rfl rfl rfl rfl ⟨rfl, rfl, rfl, rfl, rfl⟩ rfl rfl rfl rfl rfl (by kernel_rfl) Try.func10 (by kernel_rfl)
    (of_decide_eq_true (by kernel_rfl)) (by unfold Func.isWrapper; first | (rw [if_pos (by decide +kernel)]; kernel_rfl) | (rw [if_neg (by decide +kernel)]; exact ⟨rfl, rfl⟩))
    (fun os started H enc _ => lifted os started H enc)
#print axioms proved
end Go.Proofs.Ytoinagefhbpakaa.pFnWholeOk
