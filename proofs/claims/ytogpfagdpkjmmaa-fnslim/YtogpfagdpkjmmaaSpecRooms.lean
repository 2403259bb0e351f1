/- The model's search of the rooms of code. -/
import Derived.Test.YtogpfagdpkjmmaaCodeOkSmall
import Derived.Test.YtogpfagdpkjmmaaReachP
import Derived.Test.YtogpfagdpkjmmaaApp
import Derived.Deep.RegionHeld3
namespace Go.Proofs.Ytogpfagdpkjmmaa
open Go.ChangeShapes Go.WideShapes Go.ChangeAt Go.RowKit

theorem info_int : (Try.prog.info? 3).map (fun i => (i.zero, i.size, i.bytes)) = some (some (.int .i64 0), 1, 8) := by kernel_rfl

theorem own_slc {w : World} {N z m : Nat} {e : TypeId} {v : Value} {fs : List Value} (ho : w.ownsRow N e z v m fs) : ∃ A c, v = .slice A m c := by
  obtain ⟨_, ⟨rfl, rfl⟩ | ⟨g, cap, cur, rfl, _⟩⟩ := ho
  · exact ⟨_, _, rfl⟩
  · exact ⟨_, _, rfl⟩
theorem new_one (W : World) (u : Value) (e : TypeId) (s : Nat) (hs : W.heap.size = s) : (W.alloc (.cells #[u] e)).cell? ((⟨s, 0, none⟩ : Addr).add 0) = some u := by
  subst hs; simp [Addr.add]
theorem own_someR {w : World} {base : Nat} {e : TypeId} {z : Nat} {v : Value} {n : Nat} {xs : List Value} (ho : w.ownsRow base e z v n xs) (h : 0 < n) : ∃ g cap, v = .slice (some ⟨g, 0, none⟩) n cap := by
  obtain ⟨_, ⟨_, h0⟩ | ⟨g, cap, cur, h, _⟩⟩ := ho
  · omega
  · exact ⟨g, cap, h⟩
/-- Numbers of places. -/
def nats (l : List Nat) : List Int := l.map fun (j : Nat) => (j : Int)
theorem nats_len (l : List Nat) : (nats l).length = l.length := by simp [nats]
theorem nats_get (l : List Nat) (k : Nat) : (nats l).getD k 0 = ((l.getD k 0 : Nat) : Int) := by
  unfold nats
  by_cases h : k < l.length <;> simp [List.getD, h]

theorem insB_a {o a b t : Int} {m : Nat} (h : insB o a b t m = true) : 0 ≤ a ∧ a < 3 := by
  have ho := insB_op h
  by_cases h5 : o ≤ 5
  · have e : insB o a b t m = leafB o a b t (-1) := by unfold insB; rw [if_pos (by omega)]
    rw [e] at h
    have : o = 1 ∨ o = 2 ∨ o = 3 ∨ o = 4 ∨ o = 5 := by omega
    rcases this with rfl | rfl | rfl | rfl | rfl <;> simp [leafB] at h <;> omega
  · unfold insB at h
    rw [if_neg (by omega)] at h
    split at h
    · have := of_decide_eq_true h; omega
    split at h
    · have := of_decide_eq_true h; omega
    split at h
    · have := of_decide_eq_true h; omega
    split at h
    · have := of_decide_eq_true h; omega
    cases h

/-- At a round's head of the search from one place. -/
def NextRel (xs : List Int) (n : Nat) (w : World) (g cap k v : Nat) (r r' : Int) (B : Nat) (vN : Value) (tv i : Value) (wr : World) : Prop :=
  ∃ (R : List Int) (T : List Nat) (q : Nat), i = .int .i64 q ∧ q ≤ (nextX xs v).length ∧ k < T.length ∧ T.getD k 0 = v ∧ R.getD v 0 = r + 1 ∧ Bfs xs n R T k ∧ (∀ j ∈ (nextX xs v).take q, R.getD j 0 = r' + 1) ∧
    wr.ownsRow w.heap.size 3 1 (.slice (some ⟨g, 0, none⟩) n cap) n (ints R) ∧ wr.ownsRow w.heap.size 3 1 tv T.length (ints (nats T)) ∧ wr.ownsRow B 3 1 vN (nextX xs v).length (ints (nats (nextX xs v))) ∧
    tv.ownBlock ≠ some g ∧ (∀ b, vN.ownBlock = some b → tv.ownBlock ≠ some b) ∧ Below w.heap.size w wr

/-- At a round's head of the search. -/
def RoomsRel (xs : List Int) (n : Nat) (w : World) (g cap : Nat) (tv i : Value) (wr : World) : Prop :=
  ∃ (R : List Int) (T : List Nat) (k : Nat), i = .int .i64 k ∧ k ≤ T.length ∧ Bfs xs n R T k ∧ wr.ownsRow w.heap.size 3 1 (.slice (some ⟨g, 0, none⟩) n cap) n (ints R) ∧ wr.ownsRow w.heap.size 3 1 tv T.length (ints (nats T)) ∧ tv.ownBlock ≠ some g ∧ Below w.heap.size w wr

/-- What the model's rooms are, where they fit. -/
def RoomsRow (xs : List Int) (n N : Nat) (v : Value) (w : World) : Prop := ∃ R, w.ownsRow N 3 1 v n (ints R) ∧ ∀ i, i < n → (0 ≤ R.getD i 0 ↔ Come xs i)

set_option maxRecDepth 100000 in
set_option maxHeartbeats 4000000 in
theorem specRoomsR {xs : List Int} {A : Option Addr} {n c : Nat} {S : Nat → Prop} {w : World} (hs : Fl w S 4 xs A n c) (hr : Right xs n) :
    Calls Try.prog 42 #[.slice A n c] w fun e w' => (∃ v, e = .returned (.tuple #[v, .bool (roomsB xs n)]) ∧ (roomsB xs n = true → RoomsRow xs n w.heap.size v w')) ∧ Below w.heap.size w w' := by
  obtain ⟨i0, hi, hz0, hz1, hz2⟩ := info_parts info_int
  have hn60 := hr.hi
  have hn1 := hr.lo
  have HR := Lib.hid hr
  clear hr
  go_enter Try.func42, Try.ntmps42
  go_wp2_with fail
  go_loopw [4, 5] (fun v i wr => ∃ k : Nat, k ≤ n ∧ i = .int .i64 k ∧ wr.ownsRow w.heap.size 3 1 v k (ints (List.replicate k (-1))) ∧ Below w.heap.size w wr) (fun _ i _ => n - (intOf i).toNat)
  case atStart =>
    refine ⟨0, Nat.zero_le _, rfl, ?_, (Below.refl _ _).alloc (Nat.le_refl _) _⟩
    exact World.ownsRow_lit (base := w.heap.size) (e := 3) (size := 1) w #[] 0 (Nat.le_refl _) (Nat.zero_le _) rfl
  case round =>
    obtain ⟨k, hk, rfl, hown, hb⟩ := hrel
    have hsz := hb.size
    by_cases hlt : k < n
    · go_wp2_with (first | (at_builtin; refine wpList_append_own _ rfl _ _ 43 rfl w.heap.size 3 i0 (.int .i64 0) 1 8 Try.underlying43 hi hz0 hz1 hz2 rfl (by decide) _ _ _ rfl (hown.alloc _) ⟨wr.heap.size, 0, none⟩ 1 1 [.int .i64 (-1)] rfl rfl ?c1 ?c2 ?c3 ?c4 ?c5 ?_) | fail)
      case c1 =>
        intro j u hj
        match j, hj with
        | 0, hj => simp at hj; subst hj; simp [Addr.add]
      case c2 => intro u hu; simp at hu; subst hu; rfl
      case c3 => unfold maxLen; omega
      case c4 => omega
      case c5 => simp; omega
      intro v' w1 hown' hgrow _
      have hbw : Below w.heap.size w w1 := (hb.alloc hsz _).grown hgrow (by simp; omega) (fun b hb' => (own_at hown hb').1)
      have e1 : ints (List.replicate k (-1)) ++ [Value.int .i64 (-1)] = ints (List.replicate (k + 1) (-1)) := by rw [List.replicate_succ', ints_app]; rfl
      rw [e1] at hown'
      have HO := Lib.hid hown'
      clear hown' hown hgrow e1
      go_wp2_with fail
      go_roundw
      case rel => exact ⟨k + 1, by omega, by go_num, HO.out, hbw⟩
      case measure => simp [intOf]; omega
    · have hkn : n = k := by omega
      subst hkn
      obtain ⟨g, cap, rfl⟩ := own_someR hown (by omega)
      have q0 := hown.cellAt 0 (by omega)
      rw [ints_get (by simp; omega)] at q0
      have z0 := hown.frozenAt 0
      have s1 := hown.stored 0 (.int .i64 0)
      rw [ints_set] at s1
      have hgl := own_at hown (b := g) rfl
      have hB := hb.setCell (p := ⟨g, 0, none⟩) hgl.1 (.int .i64 0)
      have st := Bfs.start HR.out
      generalize hR0 : (List.replicate n (-1 : Int)).set 0 0 = R0 at s1 st
      have S1 := Lib.hid s1
      have HB := Lib.hid hB
      have ST := Lib.hid st
      clear s1 hown st hR0 hB
      go_wp2_with fail
      go_loopw [6, 7] (fun tv i wr => RoomsRel xs n w g cap tv i wr) (fun _ i _ => n - (intOf i).toNat)
      case atStart =>
        refine ⟨R0, [0], 0, rfl, Nat.zero_le _, ST.out, S1.out.1.alloc _, ?_, ?_, HB.out.alloc (by simp; omega) _⟩
        · have := World.ownsRow_lit (base := w.heap.size) (e := 3) (size := 1) (wr.setCell ⟨g, 0, none⟩ (.int .i64 0)) #[.int .i64 0] 1 (by simp; omega) (by unfold maxLen; omega) rfl
          simpa [nats, ints] using this
        · simp [Value.ownBlock]; omega
      case round =>
        clear S1 HB ST hb q0 z0 hgl hsz
        obtain ⟨R, T, k, rfl, hkT, bfs, oR, oT, hne, hb⟩ := hrel
        have hsz := hb.size
        have hfew := bfs.few
        by_cases hlt : k < T.length
        · obtain ⟨gt, capT, rfl⟩ := own_someR oT (by omega)
          obtain ⟨v1, v2⟩ := bfs.at hlt
          have ct := oT.cellAt k (by omega)
          rw [ints_get (by rw [nats_len]; omega), nats_get] at ct
          have hRl := bfs.rlen
          have cr := oR.cellAt (T.getD k 0) (by omega)
          rw [ints_get (by omega)] at cr
          obtain ⟨a, rfl⟩ := hs.some (by omega)
          obtain ⟨c0, c1, c2, c3⟩ := (hs.later hb).four (T.getD k 0) v1
          have hbd := bfs.bd _ v1
          obtain ⟨r, hrr⟩ : ∃ r, R.getD (T.getD k 0) 0 = r + 1 := ⟨R.getD (T.getD k 0) 0 - 1, by omega⟩
          have hrv : r = -1 ∨ r = 0 ∨ r = 1 := by omega
          rw [hrr] at cr
          have hNX := fun (W : World) (hW : Below wr.heap.size wr W) => specNext ((hs.later hb).later hW) HR.out (T.getD k 0) v1
          have HNX := Lib.hid hNX
          have ha3 := insB_a (HR.out.ins _ v1)
          have hheld : heldX xs (T.getD k 0) r = heldO (xs.getD (T.getD k 0 * 4) 0) (xs.getD (T.getD k 0 * 4 + 1) 0) r := rfl
          have hac : aC xs (T.getD k 0) = xs.getD (T.getD k 0 * 4 + 1) 0 := rfl
          clear hNX
          generalize hv : T.getD k 0 = v at *
          rw [hac] at ha3
          have hhd := fun W => specHeld (xs.getD (v * 4) 0) (xs.getD (v * 4 + 1) 0) (xs.getD (v * 4 + 2) 0) (xs.getD (v * 4 + 3) 0) r W hrv (by omega) (by omega)
          rw [← hheld] at hhd
          generalize xs.getD (v * 4) 0 = x0 at c0 hhd hheld
          generalize xs.getD (v * 4 + 1) 0 = x1 at c1 hhd hheld ha3 hac
          generalize xs.getD (v * 4 + 2) 0 = x2 at c2 hhd
          generalize xs.getD (v * 4 + 3) 0 = x3 at c3 hhd
          clear hheld hac
          have HHD := Lib.hid hhd
          have HBF := Lib.hid bfs
          have OR := Lib.hid oR
          have OT := Lib.hid oT
          clear hhd bfs oR oT
          have hr1 : 0 ≤ r + 1 := by omega
          have ba := World.block_lt_of_cell? _ _ c0
          have bg := (own_at OR.out (b := g) rfl).2
          have ks : ∀ W, Below wr.heap.size wr W → (W.cell? (a.add (v * 4)) = some (.int .i64 x0) ∧ W.cell? ⟨(a.add (v * 4)).block, (a.add (v * 4)).off + 1, none⟩ = some (.int .i64 x1) ∧ W.cell? ⟨(a.add (v * 4)).block, (a.add (v * 4)).off + 2, none⟩ = some (.int .i64 x2) ∧ W.cell? ⟨(a.add (v * 4)).block, (a.add (v * 4)).off + 3, none⟩ = some (.int .i64 x3) ∧ W.cell? ⟨g, v, none⟩ = some (.int .i64 (r + 1)) ∧ Below wr.heap.size wr W) := fun W hW =>
            ⟨(hW.cell ba).trans c0, (hW.cell (p := ⟨(a.add (v * 4)).block, _, none⟩) ba).trans c1, (hW.cell (p := ⟨(a.add (v * 4)).block, _, none⟩) ba).trans c2, (hW.cell (p := ⟨(a.add (v * 4)).block, _, none⟩) ba).trans c3, (hW.cell (p := ⟨g, v, none⟩) bg).trans cr, hW⟩
          have KS := Lib.hid ks
          clear ks
          go_wp2_with fail
          go_region_held3 (fun X => X.cell? (a.add (v * 4)) = some (.int .i64 x0) ∧ X.cell? ⟨(a.add (v * 4)).block, (a.add (v * 4)).off + 1, none⟩ = some (.int .i64 x1) ∧ X.cell? ⟨(a.add (v * 4)).block, (a.add (v * 4)).off + 2, none⟩ = some (.int .i64 x2) ∧ X.cell? ⟨(a.add (v * 4)).block, (a.add (v * 4)).off + 3, none⟩ = some (.int .i64 x3) ∧ X.cell? ⟨g, v, none⟩ = some (.int .i64 (r + 1)) ∧ Below wr.heap.size wr X)
            (first | exact KS.out _ (by assumption) | exact KS.out _ (Below.refl _ _) | exact KS.out _ (Below.refl _ _).drew)
            (first
              | (go_at_call 63; refine (HHD.out _).mono ?_; rintro e w1 ⟨⟨z, rfl, hz⟩, hb1⟩
                 have hb1' : Below wr.heap.size wr w1 := (Below.refl wr.heap.size wr).drew.trans hb1))
          clear hb1 HHD KS c0 c1 c2 c3
          cases hh : heldX xs v r with
          | none =>
            have hfl : roomsB xs n = false := HBF.out.fail hlt (by rw [hv, hrr, show r + 1 - 1 = r from by omega]; exact hh)
            have HF := Lib.hid hfl
            clear hfl hz hh
            have bx := hb.trans (hb1'.mono hsz)
            simp only [Option.isSome_none]
            go_wp2_with fail
            go_ret2
            exact ⟨⟨_, by rw [HF.out]; rfl, fun h => by rw [HF.out] at h; cases h⟩, bx⟩
          | some r' =>
            obtain rfl := hz r' hh
            have HH := Lib.hid hh
            have hr'b := HR.out.held v1 (by omega) (by omega) hh
            clear hz hh
            simp only [Option.isSome_some]
            have z1 := hb1'.size
            have bx := hb.trans (hb1'.mono hsz)
            go_wp2_with fail
            refine (HNX.out w1 hb1').mono ?_
            rintro e w2 ⟨vN, rfl, oN, hb2⟩
            have z2 := hb2.size
            have b2 := bx.trans (hb2.mono (by omega))
            have oR2 := own_below (own_below OR.out hb1') hb2
            have oT2 := own_below (own_below OT.out hb1') hb2
            have hnv : ∀ b, vN.ownBlock = some b → (Value.slice (some ⟨gt, 0, none⟩) T.length capT).ownBlock ≠ some b := fun b h1 h2 => by have := (own_at oN h1).1; have := (own_at OT.out h2).2; omega
            have hnl : (nextX xs v).length ≤ 2 := by unfold nextX nextO; repeat' split
                                                     all_goals simp
            obtain ⟨AN, cN, rfl⟩ := own_slc oN
            have RE := Lib.hid (show NextRel xs n w g cap k v r r' w1.heap.size (.slice AN (nextX xs v).length cN) (.slice (some ⟨gt, 0, none⟩) T.length capT) (.int .i64 (0 : Nat)) w2 from
              ⟨R, T, 0, rfl, Nat.zero_le _, hlt, hv, hrr, HBF.out, fun j hj => by simp at hj, oR2, oT2, oN, hne, hnv, b2⟩)
            clear OR OT oN oR2 oT2 hnv hb2 HBF HNX hb1' ct cr hs
            generalize hNl : (nextX xs v).length = ln at *
            go_wp2_with fail
            go_loopw [6, 12] (fun tv i wr => NextRel xs n w g cap k v r r' w1.heap.size (.slice AN ln cN) tv i wr) (fun _ i _ => ln - (intOf i).toNat)
            case atStart => exact RE.out
            case round =>
              clear RE
              obtain ⟨R, T, q, rfl, hq, hkT, hTv, hRv, bfs, hdone, oR, oT, oN, hne, hnv, hb⟩ := hrel
              rw [hNl] at hq oN
              have hsz := hb.size
              have hfew := bfs.few
              obtain ⟨gt, capT, rfl⟩ := own_someR oT (by omega)
              have HBF := Lib.hid bfs
              have HD := Lib.hid hdone
              clear bfs hdone
              by_cases hlt : q < ln
              · obtain ⟨gn, capN, hvn⟩ := own_someR oN (by omega)
                simp only [Value.slice.injEq, true_and] at hvn
                obtain ⟨rfl, rfl⟩ := hvn
                have hjm : (nextX xs v).getD q 0 ∈ nextX xs v := mem_getD (by omega)
                have hjn := HR.out.next v1 _ hjm
                have cn := oN.cellAt q (by omega)
                rw [ints_get (by rw [nats_len]; omega), nats_get] at cn
                have hRl := HBF.out.rlen
                have cr := oR.cellAt ((nextX xs v).getD q 0) (by omega)
                rw [ints_get (by omega)] at cr
                have hbd := HBF.out.bd _ hjn
                have hfj : ∀ ρ, Lab xs n ρ → ρ ((nextX xs v).getD q 0) = some r' := HBF.out.push hkT (by rw [hTv, hRv, show r + 1 - 1 = r from by omega]; exact HH.out) (by rw [hTv]; exact hjm)
                have HFJ := Lib.hid hfj
                have htk : (nextX xs v).take (q + 1) = (nextX xs v).take q ++ [(nextX xs v).getD q 0] := by
                  rw [List.take_add_one]; congr 1; simp [List.getD, show q < (nextX xs v).length from by omega]
                have HTK := Lib.hid htk
                clear hfj htk
                generalize hj : (nextX xs v).getD q 0 = j at *
                have hgn := own_at oN (b := gn) rfl
                have hgt := own_at oT (b := gt) rfl
                have hgg := own_at oR (b := g) rfl
                have hgne : gn ≠ g := by omega
                have htg : gt ≠ g := fun e => hne (by rw [e]; rfl)
                have htn : gt ≠ gn := fun e => hnv gn rfl (by rw [e]; rfl)
                by_cases hneg : R.getD j 0 < 0
                · have zf := oR.frozenAt j
                  have hst := oR.stored j (.int .i64 (r' + 1))
                  rw [ints_set] at hst
                  have hset := HBF.out.set HR.out hjn hneg hr'b.1 hr'b.2 HFJ.out (by omega)
                  have hgs : ∀ i, (R.set j (r' + 1)).getD i 0 = if i = j then r' + 1 else R.getD i 0 := fun i => getD_set R i j _ 0 (by omega)
                  have cr' := hst.1.cellAt j (by omega)
                  rw [ints_get (by simp; omega), hgs, if_pos rfl] at cr'
                  have cn' : (wr.setCell ⟨g, j, none⟩ (.int .i64 (r' + 1))).cell? ⟨gn, q, none⟩ = some (.int .i64 j) := by
                    rw [World.cell?_of_block (hst.2.block gn (by omega) (by simp; omega))]; exact cn
                  have oTs := own_block oT (w' := wr.setCell ⟨g, j, none⟩ (.int .i64 (r' + 1))) fun b hb' => hst.2.block b (own_at oT hb').2 (fun e => by simp only [Value.ownBlock, Option.some.injEq] at hb' e; omega)
                  have oNs := own_block oN (w' := wr.setCell ⟨g, j, none⟩ (.int .i64 (r' + 1))) fun b hb' => hst.2.block b (own_at oN hb').2 (fun e => by simp only [Value.ownBlock, Option.some.injEq] at hb' e; omega)
                  have hbs : Below w.heap.size w (wr.setCell ⟨g, j, none⟩ (.int .i64 (r' + 1))) := hb.setCell (p := ⟨g, j, none⟩) hgg.1 _
                  have hx : ∀ i ∈ (nextX xs v).take (q + 1), (R.set j (r' + 1)).getD i 0 = r' + 1 := fun i hi => by
                    rw [hgs]
                    rw [HTK.out] at hi
                    rcases List.mem_append.1 hi with hi | hi
                    · by_cases e : i = j
                      · rw [if_pos e]
                      · rw [if_neg e]; exact HD.out i hi
                    · simp at hi; rw [if_pos hi]
                  have hvj : v ≠ j := fun e => by rw [← e, hRv] at hneg; omega
                  have hRv' : (R.set j (r' + 1)).getD v 0 = r + 1 := by rw [hgs, if_neg hvj]; exact hRv
                  have hTv' : (T ++ [j]).getD k 0 = v := by rw [← hTv]; simp [List.getD, List.getElem?_append_left hkT]
                  have HX := Lib.hid (And.intro hx (And.intro hRv' (And.intro hTv' hset)))
                  have OR := Lib.hid hst.1
                  have OT := Lib.hid oTs
                  have ON := Lib.hid oNs
                  generalize hy : R.getD j 0 = y at cr hneg
                  clear hx hRv' hTv' hset hst oTs oNs oR oT oN hgs hy HD HBF hbd
                  go_wp2_with (first | (at_builtin; refine wpList_append_at _ rfl _ _ 43 rfl w.heap.size 3 i0 (.int .i64 0) 1 8 Try.underlying43 hi hz0 hz1 hz2 rfl (by decide) _ _ _ rfl (OT.out.alloc _) ⟨wr.heap.size, 0, none⟩ 1 1 [.int .i64 j] rfl rfl ?c1 ?c2 ?c3 ?c4 ?c5 (by decide) ?_) | fail)
                  case c1 =>
                    intro i u hj'
                    match i, hj' with
                    | 0, hj' => simp at hj'; subst hj'; exact new_one _ _ _ _ (by simp)
                  case c2 => intro u hu; simp at hu; subst hu; rfl
                  case c3 => unfold maxLen; omega
                  case c4 => omega
                  case c5 => simp; omega
                  intro v' w3 hown' hgrow hat
                  have e1 : ints (nats T) ++ [Value.int .i64 j] = ints (nats (T ++ [j])) := by simp [ints, nats]
                  have e2 : T.length + 1 = (T ++ [j]).length := by simp
                  rw [e1, e2] at hown'
                  have hzs : (wr.setCell ⟨g, j, none⟩ (.int .i64 (r' + 1))).heap.size = wr.heap.size := by simp
                  have kp : ∀ b, b < wr.heap.size → b ≠ gt → w3.heap[b]? = (wr.setCell ⟨g, j, none⟩ (.int .i64 (r' + 1))).heap[b]? := fun b hb1 hb2 => by
                    rw [hgrow.block b (by simp; omega) (by simp [Value.ownBlock]; exact hb2), Below.heap_alloc _ _ _ (by rw [hzs]; exact hb1)]
                  have oR3 := own_block OR.out (w' := w3) fun b hb' => kp b (by simp only [Value.ownBlock, Option.some.injEq] at hb'; omega) (by simp only [Value.ownBlock, Option.some.injEq] at hb'; omega)
                  have oN3 := own_block ON.out (w' := w3) fun b hb' => kp b (by simp only [Value.ownBlock, Option.some.injEq] at hb'; omega) (by simp only [Value.ownBlock, Option.some.injEq] at hb'; omega)
                  have cr3 : w3.cell? ⟨g, j, none⟩ = some (.int .i64 (r' + 1)) := (World.cell?_of_block (kp g hgg.2 (fun e => htg e.symm))).trans cr'
                  have cn3 : w3.cell? ⟨gn, q, none⟩ = some (.int .i64 j) := (World.cell?_of_block (kp gn hgn.2 (fun e => htn e.symm))).trans cn'
                  have hb3 : Below w.heap.size w w3 := (hbs.alloc (by rw [hzs]; exact hsz) _).grown hgrow (by simp; omega) (fun b hb' => by simp only [Value.ownBlock, Option.some.injEq] at hb'; omega)
                  have hne3 : v'.ownBlock ≠ some g := fun e => by
                    rcases hat with h | h
                    · rw [h] at e; exact hne e
                    · rw [h] at e; injection e; omega
                  have hnv3 : ∀ b, (Value.slice (some ⟨gn, 0, none⟩) ln cN).ownBlock = some b → v'.ownBlock ≠ some b := fun b hb' e => by
                    simp only [Value.ownBlock, Option.some.injEq] at hb'
                    rcases hat with h | h
                    · rw [h] at e; simp only [Value.ownBlock, Option.some.injEq] at e; omega
                    · rw [h] at e; injection e; omega
                  have RR := Lib.hid (show NextRel xs n w g cap k v r r' w1.heap.size (.slice (some ⟨gn, 0, none⟩) ln cN) v' (.int .i64 ((q : Int) + 1)) w3 from
                    ⟨R.set j (r' + 1), T ++ [j], q + 1, by go_num, by omega, by simp; omega, HX.out.2.2.1, HX.out.2.1, HX.out.2.2.2, HX.out.1, oR3, hown', by rw [hNl]; exact oN3, hne3, hnv3, hb3⟩)
                  obtain ⟨AT', cT', rfl⟩ := own_slc hown'
                  clear hown' oR3 oN3 kp hgrow e1 e2 cn cr cn' cr' OR ON OT HX
                  go_wp2_with fail
                  go_roundw
                  case rel => exact RR.out
                  case measure => simp [intOf]; omega
                · by_cases heq : R.getD j 0 = r' + 1
                  · rw [heq] at cr
                    have hr0 : ¬ r' + 1 < 0 := by omega
                    have hx : ∀ i ∈ (nextX xs v).take (q + 1), R.getD i 0 = r' + 1 := fun i hi => by
                      rw [HTK.out] at hi
                      rcases List.mem_append.1 hi with hi | hi
                      · exact HD.out i hi
                      · simp at hi; subst hi; exact heq
                    have HX := Lib.hid hx
                    have OR := Lib.hid oR
                    have OT := Lib.hid oT
                    have ON := Lib.hid oN
                    clear hx oR oT oN heq
                    go_wp2_with fail
                    go_roundw
                    case rel => exact ⟨R, T, q + 1, by go_num, by omega, hkT, hTv, hRv, HBF.out, HX.out, OR.out, OT.out, by rw [hNl]; exact ON.out, hne, hnv, hb⟩
                    case measure => simp [intOf]; omega
                  · have hf := HBF.out.other hjn (by omega) HFJ.out heq
                    have HF := Lib.hid hf
                    generalize R.getD j 0 = y at *
                    have hyr : (y == r' + 1) = false := by simpa using heq
                    clear hf oR oT oN heq
                    go_wp2_with fail
                    go_ret2
                    exact ⟨⟨_, by rw [HF.out]; rfl, fun h => by rw [HF.out] at h; cases h⟩, hb⟩
              · obtain rfl : q = ln := by omega
                have hall : ∀ j ∈ nextX xs v, R.getD j 0 = r' + 1 := fun j hj => HD.out j (by rw [List.take_of_length_le (by omega)]; exact hj)
                have hstep := HBF.out.step (by rw [hTv, hRv, show r + 1 - 1 = r from by omega]; exact HH.out) (by rw [hTv]; exact hall)
                have RR := Lib.hid (show RoomsRel xs n w g cap (.slice (some ⟨gt, 0, none⟩) T.length capT) (.int .i64 ((k : Int) + 1)) wr from ⟨R, T, k + 1, by go_num, by omega, hstep, oR, oT, hne, hb⟩)
                obtain ⟨AN', cN', hvN⟩ := own_slc oN
                clear hall hstep oR oT oN HBF HD
                go_wp2_with fail
                go_roundw
                case rel => exact RR.out
                case measure => simp [intOf]; omega
        · have hend := Bfs.end HR.out bfs (by omega)
          have HE := Lib.hid hend
          have HRR := Lib.hid (show RoomsRow xs n w.heap.size (.slice (some ⟨g, 0, none⟩) n cap) wr from ⟨R, oR, Bfs.come HR.out bfs (by omega)⟩)
          obtain ⟨AT, cT, rfl⟩ := own_slc oT
          clear hend oR oT bfs
          go_wp2_with fail
          go_ret2
          exact ⟨⟨_, by rw [HE.out]; rfl, fun _ => HRR.out⟩, hb⟩

theorem specRooms {xs : List Int} {A : Option Addr} {n c : Nat} {S : Nat → Prop} {w : World} (hs : Fl w S 4 xs A n c) (hr : Right xs n) :
    Calls Try.prog 42 #[.slice A n c] w fun e w' => (∃ v, e = .returned (.tuple #[v, .bool (roomsB xs n)])) ∧ Below w.heap.size w w' :=
  (specRoomsR hs hr).mono fun _ _ ⟨⟨v, h, _⟩, hb⟩ => ⟨⟨v, h⟩, hb⟩
end Go.Proofs.Ytogpfagdpkjmmaa
