/- The program's WholeOk where the program or the owners are not right; the rest is under way. -/
import Derived.Test.YtoinagefhbpakaaOwnImpl
import Derived.Test.YtoinagefhbpakaaOwnLoop
import Derived.Test.YtoinagefhbpakaaOwnRooms
import Derived.Test.YtoinagefhbpakaaOwnWalk
import Derived.Test.YtoinagefhbpakaaShape
import Derived.ControlIn
namespace Go.Proofs.Ytoinagefhbpakaa
open Go.ChangeShapes Go.WideShapes Go.ChangeAt Go.RowKit Go.Shelf

attribute [local go_sem] Oper.semAt_some

attribute [local go_sem] wideFn

set_option maxRecDepth 100000 in
set_option maxHeartbeats 4000000 in
theorem implWhole_c (Ls : List SL) (A : Option Addr) (n c N : Nat) (o : List Int) (B : Option Addr) (b c' : Nat) (S : Nat → Prop) (w : World) (hs : Ps w N Ls A n c) (hN : N ≤ w.heap.size) (ho : Fl w S 1 o B b c') (hok : okPr Ls = true) (hyes : roomsB o = true) :
    CallsIn Fence.wide 6 Try.prog 30 #[.slice A n c, .slice B b c'] w fun e w' => e = .returned (.bool (wholeB Ls o)) ∧ Below w.heap.size w w' := by
  have hW : wholeB Ls o = Ls.all fun L => ownL o L (-1) := by unfold wholeB; rw [hok, hyes]; rfl
  rw [hW]
  have HNO := Lib.hid hyes
  have HOK := Lib.hid hok
  have HO := Lib.hid ho
  clear hyes hW hok ho
  have R9 := Lib.hid (row_first w #[.slice B b c'] #[.bool false] 22 4)
  have bz : Below w.heap.size w ((w.alloc (.cells #[.slice B b c'] 22)).alloc (.cells #[.bool false] 4)) := ((Below.refl _ _).alloc (Nat.le_refl _) _).alloc (by simp) _
  have R0 := Lib.hid (row_second w #[.slice B b c'] #[.bool false] 22 4)
  refine callsIn_of_wp_marks Try.func30 rfl trivial ?_ rfl
  simp only [Try.ntmps30, List.size_toArray, List.length_cons, List.length_nil, Nat.reduceAdd, Nat.reduceSub, Array.replicate_succ, Array.replicate_zero, List.push_toArray, List.append_toArray, List.nil_append, List.cons_append]
  gi_wp2_with (first
    | (gi_at_call 44; refine ((callsIn_wide (n := _)).2 (progOk Ls A n c N _ (hs.below (bz.mono hN)) (by simp; omega))).mono ?_; rintro e w1 ⟨rfl, hb1⟩; rw [HOK.out]; have R1 := (hb1.block (w.heap.size + 1) (by simp)).trans R0.out; have Q1 := (hb1.block w.heap.size (by simp; omega)).trans R9.out; have b1 := bz.trans (hb1.mono bz.size); have z1 := hb1.size; have co : w1.cell? ⟨w.heap.size, 0, none⟩ = some (.slice B b c') := (by rw [row_cell Q1]; rfl); have R2 := Lib.hid R1; have Q2 := Lib.hid Q1; clear R1 hb1 Q1)
    | (gi_at_call 45; refine ((callsIn_wide (n := _)).2 (isOwnership_ (HO.out.later b1))).mono ?_; rintro e w2 ⟨rfl, hb2⟩; rw [HNO.out]; simp only [World.size_alloc] at z1; have R3 := (hb2.block (w.heap.size + 1) (by omega)).trans R2.out; have b2 := b1.trans (hb2.mono b1.size); have Q3 := Lib.hid ((hb2.block w.heap.size (by omega)).trans Q2.out); have R4 := Lib.hid R3; clear R3 hb2 co))
  have hlen : n ≤ Ls.length := Nat.le_of_eq hs.len
  have hlen' : Ls.length ≤ n := Nat.le_of_eq hs.len.symm
  refine wpIn_loop (fun a W => ∃ (k : Nat) (Ds : List Nat) (u6 u22 u23 u24 u25 u26 u43 : Value), k ≤ n ∧ a = { tmps := #[.slice A n c, .slice B b c', undef, .pointer (some ⟨w.heap.size, 0, none⟩), .pointer (some ⟨w.heap.size + 1, 0, none⟩), undef, u6, undef, undef, undef, undef, .slice A n c, .bool true, .bool false, .bool false, .slice B b c', .bool true, .bool false, .bool false, .slice A n c, .int .i64 n, .int .i64 k, u22, u23, u24, u25, u26, undef, undef, undef, undef, undef, undef, undef, undef, undef, undef, undef, undef, undef, undef, undef, undef, u43], defers := marks Ds } ∧
      Ds.Nodup ∧ (∀ D ∈ Ds, w.heap.size + 2 ≤ D ∧ W.heap[D]? = some (.deferred (some []))) ∧ W.heap[w.heap.size]? = some (.cells #[.slice B b c'] 22 (0, 0)) ∧ W.heap[w.heap.size + 1]? = some (.cells #[.bool false] 4 (0, 0)) ∧ Below w.heap.size w W ∧ Go.RowKit.Hid ((Ls.take k).all (fun L => ownL o L (-1)) = true))
    (fun a _ => n - (intOf (a.tmps.getD 21 undef)).toNat) ⟨0, [], _, _, _, _, _, _, _, Nat.zero_le _, rfl, List.nodup_nil, by simp, Q3.out, R4.out, b2, Lib.hid (by simp)⟩ ?_
  rintro a W ⟨k, Ds, u6, u22, u23, u24, u25, u26, u43, hk, rfl, hnd, hDs, q, r, hb, HT⟩
  have Q := Lib.hid q
  have R := Lib.hid r
  have HD := Lib.hid hDs
  clear q r hDs
  by_cases hlt : k < n
  · have hk' : k < Ls.length := by omega
    obtain ⟨a, A1, c1, rfl, _, hc, hsl⟩ := (hs.below (hb.mono hN)).at_ k hk'
    gi_wp2_with (gi_at_call 46; refine (each_in Fence.wide _ trivial rfl _ _ _ _).mono ?_; rintro e w' ⟨rfl, rfl⟩)
    have hG := okPr_things HOK.out k hk'
    have hTK := HT.out
    have hLk : Ls[k]? = some Ls[k] := List.getElem?_eq_getElem hk'
    have hz5 : o.length = 5 := by have := HNO.out; unfold roomsB at this; simp at this; exact this.1
    have hb5 : b = 5 := by have := HO.out.len; omega
    subst hb5
    obtain ⟨ao, rfl⟩ := HO.out.some (by omega)
    have hzW : w.heap.size + 2 ≤ W.heap.size := lt_heap R.out
    have HTake := Lib.hid (show ownL o Ls[k] (-1) = true → (Ls.take (k + 1)).all (fun L => ownL o L (-1)) = true from fun h => by
      rw [List.take_add_one, List.all_append, hTK, hLk]; simp [h])
    have HBad := Lib.hid (show ownL o Ls[k] (-1) = false → (Ls.all fun L => ownL o L (-1)) = false from fun h => by
      rw [List.all_eq_false]; exact ⟨Ls[k], List.getElem_mem hk', by simp [h]⟩)
    clear hTK hLk hz5
    generalize Ls[k] = L at *
    have hW1 : (W.alloc (.cells #[.slice A1 L.len c1] 58)).heap.size = W.heap.size + 1 := World.size_alloc ..
    have bW : Below w.heap.size w (W.alloc (.cells #[.slice A1 L.len c1] 58)) := hb.alloc (by omega) _
    have q1 : (W.alloc (.cells #[.slice A1 L.len c1] 58)).heap[w.heap.size]? = some (.cells #[.slice (some ao) 5 c'] 22 (0, 0)) := (Below.heap_alloc _ _ _ (by omega)).trans Q.out
    have r1 : (W.alloc (.cells #[.slice A1 L.len c1] 58)).heap[w.heap.size + 1]? = some (.cells #[.bool false] 4 (0, 0)) := (Below.heap_alloc _ _ _ (by omega)).trans R.out
    have d1 : ∀ D ∈ Ds, (W.alloc (.cells #[.slice A1 L.len c1] 58)).heap[D]? = some (.deferred (some [])) := fun D hD => (Below.heap_alloc _ _ _ (lt_heap (HD.out D hD).2)).trans (HD.out D hD).2
    have dl : ∀ D ∈ Ds, D < W.heap.size + 1 := fun D hD => by have := lt_heap (HD.out D hD).2; omega
    have dg : ∀ D ∈ Ds, w.heap.size + 2 ≤ D := fun D hD => (HD.out D hD).1
    have l1 : (W.alloc (.cells #[.slice A1 L.len c1] 58)).heap[W.heap.size]? = some (.cells #[.slice A1 L.len c1] 58 (0, 0)) := World.alloc_heap_new ..
    have s1 : Sl (W.alloc (.cells #[.slice A1 L.len c1] 58)) N L A1 L.len c1 := hsl.below ((Below.refl _ _).alloc (by omega) _)
    generalize hWW : (W.alloc (.cells #[.slice A1 L.len c1] 58)) = W1 at *
    have hseq : SeqStopsK Fence.wide (6 - 1) Try.prog 59 #[.pointer (some ⟨W.heap.size, 0, none⟩)] (fun x : It GThing => x.enc) (KeptC (w.heap.size + 1)) (fun ys => ys.map It.key = flatL L (-1)) (fun pre => pre.map It.key <+: flatL L (-1)) L.size W1 :=
      fun l J Jx V hV hJ _ hY h0 => each1_in Fence.wide rfl 5 trivial trivial trivial rfl l (w.heap.size + 1) W.heap.size N (by omega) L hG A1 L.len c1 J Jx (fun s V o h => hJ s V _ none h (World.grownBy_alloc V o none) (fun r e => by cases e)) hY V
        (by rw [row_cell ((hV.block _ (by omega)).trans l1)]; rfl) (s1.below (hV.mono (by omega))) (by have := hV.size; omega) h0
    have hI : OwnFrom W1.heap.size (fun (pre : List (It GThing)) (V : World) => (V.heap[w.heap.size]? = some (.cells #[.slice (some ao) 5 c'] 22 (0, 0)) ∧ V.heap[w.heap.size + 1]? = some (.cells #[.bool false] 4 (0, 0)) ∧ (∀ D ∈ Ds, V.heap[D]? = some (.deferred (some [])))) ∧ Below w.heap.size w V ∧ Go.RowKit.Hid (∀ x ∈ pre, ownS o x.k x.x x.y x.r = true)) :=
      ((ownFrom_at _ _ (by omega)).and ((ownFrom_at _ _ (by omega)).and (ownFrom_marks Ds _ (fun D hD => by have := dl D hD; omega)))).and ((ownFrom_below (Nat.le_refl _) (by omega)).and (ownFrom_pure _ _))
    have hIx : ∀ cd : Code, OwnFrom W1.heap.size (fun (pre : List (It GThing)) (V : World) => (V.heap[w.heap.size + 1]? = some (.cells #[.bool false] 4 (0, 0)) ∧ (∀ D ∈ Ds, V.heap[D]? = some (.deferred (some [])))) ∧ Below w.heap.size w V ∧ Go.RowKit.Hid (cd = .ret ∧ ∃ x ∈ pre, ownS o x.k x.x x.y x.r = false)) := fun cd =>
      ((ownFrom_at _ _ (by omega)).and (ownFrom_marks Ds _ (fun D hD => by have := dl D hD; omega))).and ((ownFrom_below (Nat.le_refl _) (by omega)).and (ownFrom_pure _ _))
    refine wpIn_rangeFunc_ownH rfl (by omega) (gf := 59) (lb := #[.pointer (some ⟨W.heap.size, 0, none⟩)]) rfl trivial (enters_of Try.func59 (by kernel_rfl) rfl)
      hseq (fun h k => h.trans k) (fun V l o o' _ h ho _ => KeptC.putObj V l o o' h ho) (Below.refl _ _) (fun _ => rfl) _ _ hI hIx ⟨⟨q1, r1, d1⟩, bW, Lib.hid (by simp)⟩
      (fun x a' V => ∃ p, a' = { tmps := #[.slice (some a) n c, .slice (some ao) 5 c', undef, .pointer (some ⟨w.heap.size, 0, none⟩), .pointer (some ⟨w.heap.size + 1, 0, none⟩), undef, .slice A1 L.len c1, .pointer (some ⟨p, 0, none⟩), .int .i64 x.r, undef, undef, .slice (some a) n c, .bool true, .bool false, .bool false, .slice (some ao) 5 c', .bool true, .bool false, .bool false, .slice (some a) n c, .int .i64 n, .int .i64 k, .bool true, .pointer (some (a.add k)), .slice A1 L.len c1, .slice A1 L.len c1, .func (.func 59) #[] #[.pointer (some ⟨W.heap.size, 0, none⟩)], .agg #[.int .i64 x.k, .int .i64 x.x, .int .i64 x.y, .int .i64 x.n, x.vB, x.vE], .int .i64 x.r, undef, undef, undef, undef, undef, undef, undef, undef, undef, undef, undef, undef, undef, undef, u43], defers := [] } ∧ V.heap[p]? = some (.cells #[.int .i64 x.k, .int .i64 x.x, .int .i64 x.y, .int .i64 x.n, x.vB, x.vE] 65 (0, 0)))
      (fun x a' s X Y row hs hg hr => by
        obtain ⟨p, e, hbx⟩ := hs
        exact ⟨p, e, (ownFrom_row (β := Unit) (fun _ => p) (fun _ => #[.int .i64 x.k, .int .i64 x.x, .int .i64 x.y, .int .i64 x.n, x.vB, x.vE]) 65) () X Y row hbx hg hr⟩) ?assign ?body ?done ?stop
    case assign =>
      intro l pre x V K hIV hK
      have e : ((#[27, 28] : Array Tmp).zip x.enc).foldl (fun t (p, v) => t.setIfInBounds p v) #[.slice (some a) n c, .slice (some ao) 5 c', undef, .pointer (some ⟨w.heap.size, 0, none⟩), .pointer (some ⟨w.heap.size + 1, 0, none⟩), undef, .slice A1 L.len c1, undef, undef, undef, undef, .slice (some a) n c, .bool true, .bool false, .bool false, .slice (some ao) 5 c', .bool true, .bool false, .bool false, .slice (some a) n c, .int .i64 n, .int .i64 k, .bool true, .pointer (some (a.add k)), .slice A1 L.len c1, .slice A1 L.len c1, .func (.func 59) #[] #[.pointer (some ⟨W.heap.size, 0, none⟩)], undef, undef, undef, undef, undef, undef, undef, undef, undef, undef, undef, undef, undef, undef, undef, undef, u43] =
          #[.slice (some a) n c, .slice (some ao) 5 c', undef, .pointer (some ⟨w.heap.size, 0, none⟩), .pointer (some ⟨w.heap.size + 1, 0, none⟩), undef, .slice A1 L.len c1, undef, undef, undef, undef, .slice (some a) n c, .bool true, .bool false, .bool false, .slice (some ao) 5 c', .bool true, .bool false, .bool false, .slice (some a) n c, .int .i64 n, .int .i64 k, .bool true, .pointer (some (a.add k)), .slice A1 L.len c1, .slice A1 L.len c1, .func (.func 59) #[] #[.pointer (some ⟨W.heap.size, 0, none⟩)], .agg #[.int .i64 x.k, .int .i64 x.x, .int .i64 x.y, .int .i64 x.n, x.vB, x.vE], .int .i64 x.r, undef, undef, undef, undef, undef, undef, undef, undef, undef, undef, undef, undef, undef, undef, u43] := by simp [It.enc]
      rw [e]
      have kf : KeepsFrom W1.heap.size V (V.alloc (.cells #[.int .i64 x.k, .int .i64 x.x, .int .i64 x.y, .int .i64 x.n, x.vB, x.vE] 65)) := (Laid.one (w := V) (.cells #[.int .i64 x.k, .int .i64 x.x, .int .i64 x.y, .int .i64 x.n, x.vB, x.vE] 65) (.none _)).keepsFrom _
      have kc : KeptC (w.heap.size + 1) V (V.alloc (.cells #[.int .i64 x.k, .int .i64 x.x, .int .i64 x.y, .int .i64 x.n, x.vB, x.vE] 65)) := KeptC.alloc _ _ _
      have ki := hI.alloc (.cells #[.int .i64 x.k, .int .i64 x.x, .int .i64 x.y, .int .i64 x.n, x.vB, x.vE] 65) hIV
      have kb : (V.alloc (.cells #[.int .i64 x.k, .int .i64 x.x, .int .i64 x.y, .int .i64 x.n, x.vB, x.vE] 65)).heap[V.heap.size]? = some (.cells #[.int .i64 x.k, .int .i64 x.x, .int .i64 x.y, .int .i64 x.n, x.vB, x.vE] 65 (0, 0)) := World.alloc_heap_new ..
      have HK := Lib.hid hK
      have KI := Lib.hid ki
      clear hK hIV ki hI hIx hseq
      gi_wp2
      exact HK.out _ _ kf kc KI.out ⟨_, rfl, kb⟩
    case body =>
      rintro l pre x a' V _ _ hIV ⟨p, rfl, hbox⟩ _
      obtain ⟨e0, e1, e2, e3, e4, e5⟩ := cells6 hbox
      have HIV := Lib.hid hIV
      have HII := Lib.hid hI
      have HBOX := Lib.hid hbox
      obtain ⟨⟨_, hrr, _⟩, hbV, _⟩ := hIV
      have RR := Lib.hid hrr
      clear hseq hIx hI hbox hrr
      rcases atV_cases x.ok with ⟨ea, eo⟩ | ⟨j, hj, ea, eo⟩
      · have EA := Lib.hid ea
        have EO := Lib.hid (eo o x.r)
        clear ea eo
        gi_wp2_with (gi_at_call 47; refine ((ownedAt_in Fence.wide rfl _ trivial trivial rfl x.k x.x x.y x.n x.vB x.vE V x.ok.2.2).inRound l).mono ?_; rintro e V2 ⟨rfl, hL⟩; rw [EA.out]; have HL := Lib.hid hL; clear hL)
        obtain ⟨⟨q3, r3, d3⟩, b3, h3⟩ := ownFrom_laid HII.out HL.out HIV.out
        exact ⟨HL.out.keepsFrom _, HL.out.keptC _, ⟨q3, r3, d3⟩, b3, Lib.hid fun y hy => by
          rcases List.mem_append.1 hy with hy | hy
          · exact h3.out y hy
          · obtain rfl : y = x := by simpa using hy
            exact EO.out⟩
      · have EA := Lib.hid ea
        clear ea
        by_cases hr : o.getD j 0 = x.r
        · have EO := Lib.hid (show ownS o x.k x.x x.y x.r = true by rw [eo, decide_eq_true hr])
          have HR := Lib.hid hr
          clear eo hr
          gi_wp2_with (gi_at_call 47; refine ((ownedAt_in Fence.wide rfl _ trivial trivial rfl x.k x.x x.y x.n x.vB x.vE V x.ok.2.2).inRound l).mono ?_; rintro e V2 ⟨rfl, hL⟩; rw [EA.out]; have HL := Lib.hid hL; have hI2 := ownFrom_laid HII.out HL.out HIV.out; have co : V2.cell? ⟨w.heap.size, 0, none⟩ = some (.slice (some ao) 5 c') := (by rw [row_cell hI2.1.1]; rfl); have cj := (HO.out.later hI2.2.1).one j hj; rw [HR.out] at cj; have HI2 := Lib.hid hI2; clear hL hI2)
          obtain ⟨⟨q3, r3, d3⟩, b3, h3⟩ := HI2.out
          exact ⟨HL.out.keepsFrom _, HL.out.keptC _, ⟨q3, r3, d3⟩, b3, Lib.hid fun y hy => by
            rcases List.mem_append.1 hy with hy | hy
            · exact h3.out y hy
            · obtain rfl : y = x := by simpa using hy
              exact EO.out⟩
        · have EO := Lib.hid (show ownS o x.k x.x x.y x.r = false by rw [eo, decide_eq_false hr])
          obtain ⟨z, hz⟩ : ∃ z, o.getD j 0 = z := ⟨_, rfl⟩
          rw [hz] at hr
          have HR := Lib.hid hz
          have hne : (z != x.r) = true := by simpa using hr
          clear eo hz
          gi_wp2_with (gi_at_call 47; refine ((ownedAt_in Fence.wide rfl _ trivial trivial rfl x.k x.x x.y x.n x.vB x.vE V x.ok.2.2).inRound l).mono ?_; rintro e V2 ⟨rfl, hL⟩; rw [EA.out]; have HL := Lib.hid hL; have hI2 := ownFrom_laid HII.out HL.out HIV.out; have co : V2.cell? ⟨w.heap.size, 0, none⟩ = some (.slice (some ao) 5 c') := (by rw [row_cell hI2.1.1]; rfl); have cr : V2.cell? ⟨w.heap.size + 1, 0, none⟩ = some (.bool false) := (by rw [row_cell hI2.1.2.1]; rfl); have fr := row_frozen hI2.1.2.1 0; have cj := (HO.out.later hI2.2.1).one j hj; rw [HR.out] at cj; have HI2 := Lib.hid hI2; clear hL hI2)
          obtain ⟨⟨q3, r3, d3⟩, b3, h3⟩ := HI2.out
          refine ⟨(HL.out.keepsFrom _).trans ((KeepsOthers.setCell _ _ _).from _), ⟨by rw [row_set r3]; rfl, fun D hD => by rw [row_other (by have := dg D hD; omega)]; exact d3 D hD⟩, b3.setCell (p := ⟨w.heap.size + 1, 0, none⟩) (by simp) _, Lib.hid ⟨rfl, x, by simp, EO.out⟩⟩
    case done =>
      intro D ys V hDl hys hIV hDV
      obtain ⟨⟨qq, rr, hm⟩, hbV, HX⟩ := hIV
      have HA := Lib.hid (HTake.out (all_own hys HX.out))
      clear hseq hI hIx
      have hk1 : k + 1 ≤ n := hlt
      have hnd' : (D :: Ds).Nodup := List.nodup_cons.2 ⟨fun h => by have := dl D h; omega, hnd⟩
      have hDs' : ∀ E ∈ D :: Ds, w.heap.size + 2 ≤ E ∧ V.heap[E]? = some (.deferred (some [])) := fun E hE => by
        rcases List.mem_cons.1 hE with rfl | hE
        · exact ⟨by omega, hDV⟩
        · exact ⟨dg E hE, hm E hE⟩
      have HK1 := Lib.hid hk1
      have HND := Lib.hid hnd'
      have HDS := Lib.hid hDs'
      clear hk1 hnd' hDs'
      have hkk : wrap64 ((k : Int) + 1) = ((k + 1 : Nat) : Int) := by have := (hs.le : n ≤ c); have := hs.top; unfold maxLen at this; unfold Go.RowKit.wrap64; omega
      gi_wp2
      rw [hkk]
      refine ⟨⟨k + 1, D :: Ds, _, _, _, _, _, _, _, HK1.out, rfl, HND.out, HDS.out, qq, rr, hbV, HA⟩, ?_⟩
      clear hkk hk hlen hlen' hk' HK1
      simp [intOf]
      omega
    case stop =>
      intro D cd pre V hDl hpre hIV hDV
      obtain ⟨⟨rr, hm⟩, hbV, HX⟩ := hIV
      obtain ⟨rfl, hbad⟩ := HX.out
      have HA := Lib.hid (HBad.out (not_own hpre hbad))
      gi_wp2
      rw [HA.out]
      exact leave_marks _ rfl false (D :: Ds) _ (List.nodup_cons.2 ⟨fun h => by have := dl D h; omega, hnd⟩) (fun E hE => by
        rcases List.mem_cons.1 hE with rfl | hE
        · exact ⟨by omega, hDV⟩
        · exact ⟨by have := dg E hE; omega, hm E hE⟩) rr hbV
  · have hall : (Ls.all fun L => ownL o L (-1)) = true := by have := HT.out; rwa [List.take_of_length_le (by omega)] at this
    have HA := Lib.hid hall
    clear hall
    have cr : W.cell? ⟨w.heap.size + 1, 0, none⟩ = some (.bool false) := by rw [row_cell R.out]; rfl
    have fr := row_frozen R.out 0
    gi_wp2
    rw [HA.out]
    exact leave_marks _ rfl true Ds _ hnd (fun D hD => ⟨by have := (HD.out D hD).1; omega, by rw [row_other (by have := (HD.out D hD).1; omega)]; exact (HD.out D hD).2⟩) (by rw [row_set R.out]; rfl) (hb.setCell (p := ⟨w.heap.size + 1, 0, none⟩) (by simp) _)
end Go.Proofs.Ytoinagefhbpakaa
