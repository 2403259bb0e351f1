/- The contract of what visits the places to which one may come in code. -/
import Derived.Test.YtogpfagdpkjmmaaReachP
import Derived.Test.YtogpfagdpkjmmaaSeqStopG
import Derived.Test.YtogpfagdpkjmmaaAppRow
import Derived.Test.YtogpfagdpkjmmaaBools
import Derived.Test.YtogpfagdpkjmmaaSpecRooms
import Derived.Sort.LoopGhostIn
import Derived.ControlIn
namespace Go.Proofs.Ytogpfagdpkjmmaa
open Go.ChangeShapes Go.WideShapes Go.ChangeAt Go.RowKit

theorem wideFnR (k : Nat) : Fence.wide.fn k ↔ True := ⟨fun _ => trivial, fun _ => trivial⟩
attribute [local go_sem] Oper.semAt_some wideFnR

theorem heapLt {w : World} {b : Nat} {o : Obj} (h : w.heap[b]? = some o) : b < w.heap.size := (Array.getElem?_eq_some_iff.1 h).1
theorem boxCell {w : World} {b : Nat} {v : Value} {t : TypeId} (h : w.heap[b]? = some (.cells #[v] t (0, 0))) : w.cell? ⟨b, 0, none⟩ = some v := by simp [World.cell?, h]

theorem grownSet (W : World) (p : Addr) (v : Value) : W.grownBy (W.setCell p v) (some p.block) := ⟨rfl, rfl, rfl, (KeepsWalks.setCell W _ v).size, fun k _ hk => Below.heap_setCell _ _ _ k (fun e => hk (by rw [e]))⟩

/-- What it reads: the code, its own box, its own two rows. -/
structure ReachRd (w0 : World) (wb : Nat) (A : Option Addr) (n c : Nat) (B : Nat) (s : List Bool × List Nat × Nat × Value) (W : World) : Prop where
  below : Below w0.heap.size w0 W
  box : W.heap[wb]? = some (.cells #[.slice A n c] 25 (0, 0))
  met : W.ownsRow B 4 1 (.slice (some ⟨s.2.2.1, 0, none⟩) n n) n (bls s.1)
  left : W.ownsRow B 3 1 s.2.2.2 s.2.1.length (ints (nats s.2.1))
  ne : s.2.2.2.ownBlock ≠ some s.2.2.1

theorem ReachRd.kept {w0 W W' : World} {wb : Nat} {A : Option Addr} {n c B X : Nat} {s : List Bool × List Nat × Nat × Value} (h : ReachRd w0 wb A n c B s W) (hX : X < B) (hXb : X ≠ wb) (hb : Below w0.heap.size w0 W') (hk : ∀ k o, k ≠ X → W.heap[k]? = some o → o.isCells = true → W'.heap[k]? = some o) : ReachRd w0 wb A n c B s W' := by
  have row : ∀ {e : TypeId} {v : Value} {m : Nat} {xs : List Value}, W.ownsRow B e 1 v m xs → W'.ownsRow B e 1 v m xs := by
    rintro e v m xs ⟨h1, h2 | ⟨g, cap, cur, q1, q2, q3, q4⟩⟩
    · exact ⟨h1, .inl h2⟩
    · exact ⟨h1, .inr ⟨g, cap, cur, q1, q2, hk g _ (by omega) q3 rfl, q4⟩⟩
  exact ⟨hb, hk wb _ (fun e => hXb e.symm) h.box rfl, row h.met, row h.left, h.ne⟩

theorem ReachRd.put {w0 W : World} {wb : Nat} {A : Option Addr} {n c B l : Nat} {o : Obj} {s : List Bool × List Nat × Nat × Value} {o' : Obj} {N : Nat} (hl : N ≤ l) (h : ReachRd w0 wb A n c B s W) (ho : W.heap[l]? = some o) (hc : o.isCells = false) (hw : wb < N) (h0 : w0.heap.size ≤ N) : ReachRd w0 wb A n c B s (W.putObj l o') := by
  have hlt := heapLt ho
  have hg := grownBy_putObj' W l o'
  have row : ∀ {e : TypeId} {v : Value} {m : Nat} {xs : List Value}, W.ownsRow B e 1 v m xs → (W.putObj l o').ownsRow B e 1 v m xs := by
    intro e v m xs hr
    exact ownsRow_putObj hr o' ho hc
  exact ⟨h.below.trans ((Below.refl _ _).grown hg (by have := h.below.size; omega) (fun k e => by cases e; omega)), (hg.block wb (heapLt h.box) (by simp; omega)).trans h.box, row h.met, row h.left, h.ne⟩
theorem own_cut1 {w : World} {base : Nat} {e : TypeId} {g cap n : Nat} {zs xs ys : List Value} (h : w.ownsRow base e 1 (.slice (some ⟨g, 0, none⟩) (n + 1) cap) (n + 1) zs) (hz : zs = xs ++ ys) (hx : xs.length = n) : w.ownsRow base e 1 (.slice (some ⟨g, 0, none⟩) n cap) n xs := by
  subst hz
  obtain ⟨hl, ⟨h0, _⟩ | ⟨g', cap', cur, hv, hb, hr, h1, h2, h3, h4⟩⟩ := h
  · cases h0
  · simp only [Value.slice.injEq, Option.some.injEq, Addr.mk.injEq, and_true, true_and] at hv
    obtain ⟨rfl, rfl⟩ := hv
    refine ⟨by omega, .inr ⟨g, cap, cur, rfl, hb, hr, by omega, h2, h3, ?_⟩⟩
    have : cur.toList.take (n * 1) = (cur.toList.take ((n + 1) * 1)).take n := by rw [List.take_take, Nat.min_eq_left (by omega), Nat.mul_one]
    rw [this, h4, ← hx, List.take_left]

set_option maxRecDepth 100000 in
set_option maxHeartbeats 4000000 in
theorem reach_gs {xs : List Int} {A : Option Addr} {n c wb B : Nat} {S : Nat → Prop} {w0 w : World} (k : Nat) (hs : Fl w0 S 4 xs A n c) (hr : Right xs n) (hw : Below w0.heap.size w0 w) (hbx : w.heap[wb]? = some (.cells #[.slice A n c] 25 (0, 0))) (hB0 : w0.heap.size ≤ B) (hBw : wb < B) :
    SeqStopG Fence.wide k Try.prog 79 #[.pointer (some ⟨wb, 0, none⟩)] (fun x : Nat => #[.int .i64 x]) (ReachRd w0 wb A n c B) (fun pre x _ => ROk xs n pre x) (RAll xs) (fun _ => True) B w := by
  intro l J Jx W hB hbW hJ hY h0
  obtain ⟨i0, hi, hz0, hz1, hz2⟩ := info_parts infoInt
  have hn60 := hr.hi
  have hn1 := hr.lo
  have hmb := fun W => makeBools n hn60 W
  have HJ := Lib.hid hJ
  have HY := Lib.hid hY
  have HS := Lib.hid hs
  have HR := Lib.hid hr
  have H0 := Lib.hid h0
  have hbx' : W.heap[wb]? = some (.cells #[.slice A n c] 25 (0, 0)) := (hbW.block wb (heapLt hbx)).trans hbx
  have hwW : Below w0.heap.size w0 W := hw.trans (hbW.mono hw.size)
  have cb := boxCell hbx'
  clear hJ hY hs hr h0 hbx hw hbW
  refine callsIn_of_wp Try.func79 rfl trivial ?_ rfl
  simp only [Try.ntmps79, List.size_toArray, List.length_cons, List.length_nil, Nat.reduceAdd, Nat.reduceSub, Array.replicate_succ, Array.replicate_zero, List.push_toArray, List.append_toArray, List.nil_append, List.cons_append]
  have hdd : ∀ k : Nat, (Fence.wide.depth.isSome = true → 1 ≤ k) := fun k h => by cases h
  gi_wp2_with fail
  gi_loopg [4] (3 * n + 1) (fun k lv wr => ∃ (pre : List Nat) (M : List Bool) (L : List Nat), k = 3 * unm M + L.length ∧ k ≤ 3 * n + 1 ∧ RS xs n pre M L ∧ J pre wr ∧ ReachRd w0 wb A n c B (M, L, W.heap.size, lv) wr ∧ B ≤ wr.heap.size)
  case atStart =>
    have o1 := World.ownsRow_lit (base := B) (e := 4) (size := 1) W (madeCells #[.bool false] n) n hB (by unfold maxLen; omega) (by rw [size_madeCells]; omega)
    rw [madeB] at o1
    have o2 := World.ownsRow_lit (base := B) (e := 3) (size := 1) (W.alloc (.cells (madeCells #[.bool false] n) 4)) #[.int .i64 0] 1 (by simp; omega) (by unfold maxLen; omega) rfl
    rw [World.size_alloc] at o2
    have b1 : Below W.heap.size W ((W.alloc (.cells (madeCells #[.bool false] n) 4)).alloc (.cells #[.int .i64 0] 3)) := ((Below.refl _ _).alloc (Nat.le_refl _) _).alloc (by simp) _
    refine ⟨[], _, [0], by rw [unm_rep]; simp, Nat.le_refl _, RS.start HR.out, HJ.out _ _ _ H0.out (b1.mono hB), ⟨hwW.trans (b1.mono hwW.size), (b1.block wb (heapLt hbx')).trans hbx', o1.alloc _, ?_, by simp [Value.ownBlock]⟩, by simp; omega⟩
    simpa [nats, ints] using o2
  case round =>
    obtain ⟨pre, M, L, rfl, hk, hrs, hj, hrd, hBr⟩ := hrel
    clear hmb cb hbx' H0
    have hML := hrs.mlen
    have hleft : wr.ownsRow B 3 1 u4 L.length (ints (nats L)) := hrd.left
    have hmet : wr.ownsRow B 4 1 (.slice (some ⟨W.heap.size, 0, none⟩) n n) n (bls M) := hrd.met
    have hne : u4.ownBlock ≠ some W.heap.size := hrd.ne
    have hbel : Below w0.heap.size w0 wr := hrd.below
    have hbox := hrd.box
    clear hrd
    by_cases hlt : 0 < L.length
    · obtain ⟨L', v, rfl⟩ : ∃ L' v, L = L' ++ [v] := ⟨L.dropLast, L.getLast (fun e => by rw [e] at hlt; cases hlt), (List.dropLast_concat_getLast _).symm⟩
      obtain ⟨m, hm⟩ : ∃ m, L'.length = m := ⟨_, rfl⟩
      have hll : (L' ++ [v]).length = m + 1 := by simp [hm]
      rw [hll] at hleft hlt hk
      obtain ⟨gl, cap, rfl, hcap1, hcap2⟩ := own_some' hleft hlt
      have hm60 : m ≤ 181 := by omega
      have cl := hleft.cellAt m (by omega)
      rw [ints_get (by rw [nats_len]; simp; omega), nats_get] at cl
      have hvv : (L' ++ [v]).getD m 0 = v := by simp [List.getD, ← hm]
      rw [hvv] at cl
      have cut := own_cut1 (n := m) hleft (ys := [Value.int .i64 v]) (xs := ints (nats L')) (by simp [nats, ints]) (by simp [ints, nats, hm])
      have hv := hrs.stk v (by simp)
      have cm := hmet.cellAt v (by have := hv.1; omega)
      rw [bls_get (by omega)] at cm
      have fm := hmet.frozenAt v
      have hv1 := hv.1
      have CUT := Lib.hid cut
      have HRS := Lib.hid hrs
      have HJJ := Lib.hid hj
      have HMET := Lib.hid hmet
      clear cut hrs hj hv hleft hvv hmet
      cases hmv : M.getD v false
      · rw [hmv] at cm
        have smet := HMET.out.stored v (.bool true)
        rw [bls_set] at smet
        have hgs := grownSet wr ⟨W.heap.size, v, none⟩ (.bool true)
        have hb1 : Below B wr (wr.setCell ⟨W.heap.size, v, none⟩ (.bool true)) := (Below.refl B wr).grown hgs hBr (fun b e => by cases e; exact hB)
        have hrd1 : ReachRd w0 wb A n c B (M.set v true, L', W.heap.size, .slice (some ⟨gl, 0, none⟩) m cap) (wr.setCell ⟨W.heap.size, v, none⟩ (.bool true)) :=
          ⟨hbel.trans (hb1.mono hB0), (hb1.block wb hBw).trans hbox, smet.1, by rw [hm]; exact CUT.out.kept hgs (.inr (by simpa [Value.ownBlock] using hne)), by simpa [Value.ownBlock] using hne⟩
        have hj1 := HJ.out _ _ _ HJJ.out hb1
        obtain ⟨fn, tmps, assign, body, hy, hR⟩ := HY.out pre v _ _ (HRS.out.ok hmv) hj1 hrd1
        have HR1 := Lib.hid hR
        have GO := Lib.hid (HRS.out.go HR.out hmv)
        have hun := unm_set (M := M) (i := v) (by omega) hmv
        clear smet hj1 hrd1 hb1 hgs hR HRS HJJ HMET CUT hne
        gi_wp2_with fail
        refine ⟨hdd _, HR1.out.mono ?_⟩
        clear HR1 hy
        rintro e w5 (⟨rfl, hJ5, hR5⟩ | ⟨rfl, hX5⟩)
        · obtain ⟨a, rfl⟩ := HS.out.some (by omega)
          obtain ⟨c0, c1, c2, c3⟩ := (HS.out.later hR5.below).four v hv1
          have cb5 := boxCell hR5.box
          have HFO := Lib.hid (fun W => followers HR.out v hv1 W)
          have hl5 := hR5.left
          have hB5 : B ≤ gl ∧ gl < w5.heap.size := own_at hl5 (b := gl) rfl
          have HL5 := Lib.hid hl5
          have HR5 := Lib.hid hR5
          have HJ5 := Lib.hid hJ5
          have hnl : (nextX xs v).length ≤ 2 := by
            unfold nextX nextO
            repeat' split
            all_goals simp
          clear hl5 hR5 hJ5 cl cm fm
          generalize xs.getD (v * 4) 0 = x0 at *
          generalize xs.getD (v * 4 + 1) 0 = x1 at *
          generalize xs.getD (v * 4 + 2) 0 = x2 at *
          generalize xs.getD (v * 4 + 3) 0 = x3 at *
          gi_wp2_with (first
            | ((try refine ⟨hdd _, ?_⟩); gi_at_call 78; refine ((callsIn_wide (n := _)).2 (HFO.out _)).mono ?_; rintro e w6 ⟨vN, rfl, oN, hb6⟩; have OL6 := Lib.hid (own_below HL5.out hb6); have hz6 := hb6.size; have HB6 := Lib.hid hb6; have ON := Lib.hid oN; clear hb6 oN)
            | (gi_at_builtin; refine wpListIn_append_row rfl _ _ 43 rfl B w5.heap.size 3 i0 (.int .i64 0) 1 8 Try.underlying43 hi hz0 hz1 hz2 rfl (by decide) _ _ _ rfl OL6.out _ _ _ rfl ON.out ?c1 ?c2 ?c3 ?c4 ?_))
          case c1 => intro u hu; obtain ⟨q, _, rfl⟩ := List.mem_map.1 hu; rfl
          case c2 => unfold maxLen; omega
          case c3 => omega
          case c4 => omega
          intro v' w7 hown' hgrow hloc
          obtain ⟨ln, hln⟩ : ∃ ln, (nextX xs v).length = ln := ⟨_, rfl⟩
          have hB5' : B ≤ w5.heap.size := by omega
          have hb7 : Below B w6 w7 := (Below.refl B w6).grown hgrow (by omega) (fun b hb' => by simp only [Value.ownBlock, Option.some.injEq] at hb'; omega)
          have hb57 : Below B w5 w7 := (HB6.out.mono hB5').trans hb7
          have hW5 : W.heap.size < w5.heap.size := (own_at HR5.out.met (b := W.heap.size) rfl).2
          have hne5 : gl ≠ W.heap.size := fun e => HR5.out.ne (by simp [Value.ownBlock, e])
          have hrd7 : ReachRd w0 wb (some a) n c B (M.set v true, L' ++ nextX xs v, W.heap.size, v') w7 :=
            ⟨HR5.out.below.trans (hb57.mono hB0), (hb57.block wb hBw).trans HR5.out.box, (own_below HR5.out.met HB6.out).kept hgrow (.inr (by simp only [Value.ownBlock, ne_eq, Option.some.injEq]; omega)),
              by rw [List.length_append, show nats (L' ++ nextX xs v) = nats L' ++ (nextX xs v).map (fun (j : Nat) => (j : Int)) from by simp [nats], ints_app, hm]; exact hown',
              fun e => by
                change v'.ownBlock = some W.heap.size at e
                rcases hloc with h | h
                · rw [h] at e; simp only [Value.ownBlock, Option.some.injEq] at e; omega
                · rw [h] at e; injection e; omega⟩
          have hj7 := HJ.out _ _ _ HJ5.out hb57
          have RR := Lib.hid (And.intro hrd7 (And.intro hj7 (show B ≤ w7.heap.size from Nat.le_trans hB5' hb57.size)))
          obtain ⟨AL', cL', rfl⟩ := own_slc' hown'
          clear hown' hgrow hloc hb7 hb57 hrd7 hj7 ON OL6 HB6 HR5 HJ5 HL5 HFO
          gi_wp2_with fail
          gi_roundg (3 * unm (M.set v true) + (m + ln))
          case measure => rw [hll]; omega
          case rel => exact ⟨pre ++ [v], M.set v true, L' ++ nextX xs v, by rw [List.length_append, hm, hln], by omega, GO.out, RR.out.2.1, RR.out.1, RR.out.2.2⟩
        · gi_wp2_with fail
          refine bodyPost_ret (results_none rfl _ _ _) rfl ?_
          exact ⟨⟨_, rfl⟩, .inr ⟨_, trivial, hX5⟩⟩
      · rw [hmv] at cm
        have SK := Lib.hid (HRS.out.skip hmv)
        clear hmv
        gi_wp2_with fail
        gi_roundg (3 * unm M + m)
        case measure => omega
        case rel => exact ⟨pre, M, L', by rw [hm], by omega, SK.out, HJJ.out, ⟨hbel, hbox, HMET.out, by rw [hm]; exact CUT.out, hne⟩, hBr⟩
    · obtain rfl : L = [] := List.eq_nil_of_length_eq_zero (by omega)
      have ALL := Lib.hid hrs.all
      have HJJ := Lib.hid hj
      obtain ⟨AL, cL, rfl⟩ := own_slc' hleft
      clear hj hrs hmet hleft
      gi_wp2_with fail
      go_end0
      exact ⟨⟨_, rfl⟩, .inl ⟨pre, ALL.out, HJJ.out⟩⟩

/-- What it hands back: a function over a box of its own. -/
theorem eachReachable (k : Nat) (A : Option Addr) (n c : Nat) (w : World) :
    CallsIn Fence.wide k Try.prog 49 #[.slice A n c] w fun e w' => e = .returned (.func (.func 79) #[] #[.pointer (some ⟨w.heap.size, 0, none⟩)]) ∧ w' = w.alloc (.cells #[.slice A n c] 25) := by
  refine callsIn_of_wp Try.func49 rfl trivial ?_ rfl
  simp only [Try.ntmps49, List.size_toArray, List.length_cons, List.length_nil, Nat.reduceAdd, Nat.reduceSub, Array.replicate_succ, Array.replicate_zero, List.push_toArray, List.append_toArray, List.nil_append, List.cons_append]
  gi_wp2
  go_ret
  exact ⟨rfl, rfl⟩
end Go.Proofs.Ytogpfagdpkjmmaa
