/- The walk of impl.sameStmts. -/
import Derived.Test.YtlmgbpbiljnohaaSameInv
import Derived.Test.YtlmgbpbiljnohaaMapK
import Derived.Carry
import Derived.WalkSmall
import Derived.Deep.LoopGhost
import Derived.StillTailTactics
import Derived.Deep.AppendLies
import Derived.Deep.RegionWith
import Derived.Deep.RegionLaw
namespace Go.Proofs.Ytlmgbpbiljnohaa
open Go.ChangeShapes Go.WideShapes Go.ChangeAt Go.RowKit

set_option maxRecDepth 100000 in
theorem sameNumbers (k x y n k' x' y' n' : Int) (v4 v5 u4 u5 : Value) (w : World) :
    Calls Try.prog 54 #[.agg #[.int .i64 k, .int .i64 x, .int .i64 y, .int .i64 n, v4, v5], .agg #[.int .i64 k', .int .i64 x', .int .i64 y', .int .i64 n', u4, u5]] w fun e w' => e = .returned (.bool (decide (k = k' ∧ x = x' ∧ y = y' ∧ n = n'))) ∧ Below w.heap.size w w' := by
  have hb : Below w.heap.size w ((w.alloc (.cells #[.int .i64 k, .int .i64 x, .int .i64 y, .int .i64 n, v4, v5] 29)).alloc (.cells #[.int .i64 k', .int .i64 x', .int .i64 y', .int .i64 n', u4, u5] 29)) :=
    ((Below.refl _ _).alloc (Nat.le_refl _) _).alloc (by simp) _
  by_cases h1 : k = k'
  · subst h1
    by_cases h2 : x = x'
    · subst h2
      by_cases h3 : y = y'
      · subst h3
        by_cases h4 : n = n'
        · subst h4
          go_enter Try.func54, Try.ntmps54
          go_wp2
          go_ret
          exact ⟨by simp, hb⟩
        · have e : (n == n') = false := by simpa using h4
          go_enter Try.func54, Try.ntmps54
          go_wp2
          go_ret
          exact ⟨by simp [h4], hb⟩
      · have e : (y == y') = false := by simpa using h3
        go_enter Try.func54, Try.ntmps54
        go_wp2
        go_ret
        exact ⟨by simp [h3], hb⟩
    · have e : (x == x') = false := by simpa using h2
      go_enter Try.func54, Try.ntmps54
      go_wp2
      go_ret
      exact ⟨by simp [h2], hb⟩
  · have e : (k == k') = false := by simpa using h1
    go_enter Try.func54, Try.ntmps54
    go_wp2
    go_ret
    exact ⟨by simp [h1], hb⟩

theorem sameNumbers_yes (k x y n : Int) (v4 v5 u4 u5 : Value) (w : World) :
    Calls Try.prog 54 #[.agg #[.int .i64 k, .int .i64 x, .int .i64 y, .int .i64 n, v4, v5], .agg #[.int .i64 k, .int .i64 x, .int .i64 y, .int .i64 n, u4, u5]] w fun e w' => e = .returned (.bool true) ∧ Below w.heap.size w w' :=
  (sameNumbers k x y n k x y n v4 v5 u4 u5 w).mono fun _ _ ⟨he, hb⟩ => ⟨by rw [he, decide_eq_true ⟨rfl, rfl, rfl, rfl⟩], hb⟩
theorem sameNumbers_no (k x y n k' x' y' n' : Int) (v4 v5 u4 u5 : Value) (w : World) (h : ¬ (k = k' ∧ x = x' ∧ y = y' ∧ n = n')) :
    Calls Try.prog 54 #[.agg #[.int .i64 k, .int .i64 x, .int .i64 y, .int .i64 n, v4, v5], .agg #[.int .i64 k', .int .i64 x', .int .i64 y', .int .i64 n', u4, u5]] w fun e w' => e = .returned (.bool false) ∧ Below w.heap.size w w' :=
  (sameNumbers k x y n k' x' y' n' v4 v5 u4 u5 w).mono fun _ _ ⟨he, hb⟩ => ⟨by rw [he, decide_eq_false h], hb⟩

theorem info_pair : (Try.prog.info? 87).map (fun i => (i.zero, i.size, i.bytes)) = some (some (.agg #[.slice none 0 0, .slice none 0 0]), 2, 48) := by kernel_rfl

def OutRel (w : World) (S : Nat → Prop) (L0 L0' : SL) (T : Nat) (k : Nat) (v : Value) (wr : World) : Prop :=
  ∃ (st : List Pr) (ms : List (SL × SL)) (ks : List (Addr × Addr × Int)) (g cap : Nat), v = .slice (some ⟨g, 0, none⟩) st.length cap ∧ wr.ownsRow (w.heap.size + 1) 87 2 (.slice (some ⟨g, 0, none⟩) st.length cap) st.length (cellsOf st) ∧
    MapIs wr w.heap.size ks ∧ w.heap.size < wr.heap.size ∧ Below w.heap.size w wr ∧ k = wt st ∧ wt st ≤ T ∧ SameInv w S L0 L0' st ms ks

theorem news4 (W : World) (v0 v1 v2 v3 : Value) (t : TypeId) : ∀ j u, [v0, v1, v2, v3][j]? = some u → (W.alloc (.cells #[v0, v1, v2, v3] t)).cell? ((⟨W.heap.size, 0, none⟩ : Addr).add j) = some u := by
  intro j u hj
  have hr := new_row W #[v0, v1, v2, v3] t
  have e : (⟨W.heap.size, 0, none⟩ : Addr).add j = ⟨W.heap.size, j, none⟩ := by unfold Addr.add; split <;> simp_all
  rw [e, row_cell hr]
  simpa using hj
theorem ones4 (A A' C C' : Option Addr) (a b c d a' b' c' d' : Nat) : ∀ u ∈ [Value.slice A a b, .slice A' a' b', .slice C c d, .slice C' c' d'], u.oneCell' = true := by
  intro u hu
  simp only [List.mem_cons, List.not_mem_nil, or_false] at hu
  rcases hu with rfl | rfl | rfl | rfl <;> rfl

/-- From element i on. -/
theorem AtP.drop {w : World} {S : Nat → Prop} {L : SL} : ∀ {a : Addr} (i : Nat), AtP w S L a → AtP w S (L.drop i) (a.add (i * 6)) := by
  induction L with
  | nil => intro a i _; cases i <;> trivial
  | cons k x y n B E R _ _ hR =>
    intro a i h
    cases i with
    | zero => simpa [SL.drop, Addr.add] using h
    | succ i =>
      obtain ⟨_, _, _, _, _, _, _, h6⟩ := h
      have := hR i h6
      rw [addr_add] at this
      rw [show (i + 1) * 6 = 6 + i * 6 from by omega]
      exact this
/-- The cells of a statement that lies in blocks of S, in a later world, and its bodies. -/
theorem AtP.six {w W : World} {S : Nat → Prop} {k x y n : Int} {B E R : SL} {a : Addr} (h : AtP w S (.cons k x y n B E R) a) (hW : ∀ p : Addr, S p.block → W.cell? p = w.cell? p) :
    W.cell? a = some (.int .i64 k) ∧ W.cell? ⟨a.block, a.off + 1, none⟩ = some (.int .i64 x) ∧ W.cell? ⟨a.block, a.off + 2, none⟩ = some (.int .i64 y) ∧ W.cell? ⟨a.block, a.off + 3, none⟩ = some (.int .i64 n) ∧
      ∃ (A : Option Addr) (c : Nat) (A' : Option Addr) (c' : Nat), W.cell? ⟨a.block, a.off + 4, none⟩ = some (.slice A B.len c) ∧ W.cell? ⟨a.block, a.off + 5, none⟩ = some (.slice A' E.len c') ∧ SlP w S B A B.len c ∧ SlP w S E A' E.len c' := by
  obtain ⟨ha, h0, h1, h2, h3, ⟨A, c, h4, l4, m4, n4, p4⟩, ⟨A', c', h5, l5, m5, n5, p5⟩, _⟩ := h
  have hk : ∀ j, W.cell? (a.add j) = w.cell? (a.add j) := fun j => hW _ (by rw [add_bl]; exact ha)
  exact ⟨(hW a ha).trans h0, (hk 1).trans h1, (hk 2).trans h2, (hk 3).trans h3, A, c, A', c', (hk 4).trans h4, (hk 5).trans h5, ⟨rfl, l4, m4, n4, p4⟩, ⟨rfl, l5, m5, n5, p5⟩⟩

def InRel (w : World) (S : Nat → Prop) (L0 L0' : SL) (ms : List (SL × SL)) (ks : List (Addr × Addr × Int)) (p : Pr) (W0 : Nat) (k : Nat) (i v : Value) (wr : World) : Prop :=
  ∃ (j : Nat) (st : List Pr) (g cap : Nat), j ≤ p.L.len ∧ k = p.L.len - j ∧ i = .int .i64 j ∧ v = .slice (some ⟨g, 0, none⟩) st.length cap ∧ wr.ownsRow (w.heap.size + 1) 87 2 (.slice (some ⟨g, 0, none⟩) st.length cap) st.length (cellsOf st) ∧
    MapIs wr w.heap.size ks ∧ w.heap.size < wr.heap.size ∧ Below w.heap.size w wr ∧ wt st = W0 + 2 * (p.L.first j).size ∧ Half w S L0 L0' st ms p ks j

/-- The last pair is taken off. -/
theorem own_pop {w : World} {base : Nat} {e : TypeId} {g cap n : Nat} {xs ys : List Value} (h : w.ownsRow base e 2 (.slice (some ⟨g, 0, none⟩) (n + 1) cap) (n + 1) (xs ++ ys)) (hx : xs.length = n * 2) : w.ownsRow base e 2 (.slice (some ⟨g, 0, none⟩) n cap) n xs := by
  obtain ⟨hl, ⟨h0, _⟩ | ⟨g', cap', cur, hv, hb, hr, h1, h2, h3, h4⟩⟩ := h
  · cases h0
  · simp only [Value.slice.injEq, Option.some.injEq, Addr.mk.injEq, and_true, true_and] at hv
    obtain ⟨rfl, rfl⟩ := hv
    refine ⟨hx, .inr ⟨g, cap, cur, rfl, hb, hr, by omega, h2, h3, ?_⟩⟩
    have : cur.toList.take (n * 2) = (cur.toList.take ((n + 1) * 2)).take (n * 2) := by rw [List.take_take, Nat.min_eq_left (by omega)]
    rw [this, h4, ← hx, List.take_left]
theorem MapIs.below {w w' : World} {r N : Nat} {ks : List (Addr × Addr × Int)} (h : MapIs w r ks) (hb : Below N w w') (hr : r < N) : MapIs w' r ks := by
  obtain ⟨es, cl, h1, h2⟩ := h
  exact ⟨es, cl, (hb.block r hr).trans h1, h2⟩

open Classical in
set_option maxRecDepth 100000 in
set_option maxHeartbeats 16000000 in
theorem sameStmts (S : Nat → Prop) (L L' : SL) (A A' : Option Addr) (c c' : Nat) (w : World) (hs : SlP w S L A L.len c) (ht : SlP w S L' A' L'.len c') (hS : ∀ b, S b → ∃ cs t, w.heap[b]? = some (.cells cs t (0, 0))) (hz : L.size ≤ 1048576) :
    Calls Try.prog 47 #[.slice A L.len c, .slice A' L'.len c'] w fun e w' => e = .returned (.bool (decide (L = L'))) ∧ Below w.heap.size w w' := by
  have hmm := @run_makeMap Try.prog
  obtain ⟨i0, hi, hz0, hz1, hz2⟩ := info_parts info_pair
  have HI := Lib.hid (SameInv.start hs ht)
  have HS := Lib.hid hS
  clear hS
  go_enter Try.func47, Try.ntmps47
  go_wp2_with fail
  go_loopg [6] (1 + 2 * L.size) (fun k v wr => OutRel w S L L' (1 + 2 * L.size) k v wr)
  case atStart =>
    refine ⟨[⟨A, c, L, A', c', L'⟩], [], [], w.heap.size + 1, 1, rfl, ?_, ?_, ?_, ?_, ?_, ?_, HI.out⟩
    · have h := World.ownsRow_lit (base := w.heap.size + 1) (e := 87) (size := 2) (w.alloc (.map #[] 0)) #[.slice A L.len c, .slice A' L'.len c'] 1 (by simp) (by unfold maxLen; simp) rfl
      simpa [cellsOf, Pr.cells] using h
    · refine ⟨#[], 0, ?_, rfl⟩
      show ((w.heap.push _).push _)[w.heap.size]? = _
      rw [Array.getElem?_push, if_neg (by simp), Array.getElem?_push, if_pos rfl]
    · simp; omega
    · exact ((Below.refl _ _).alloc (Nat.le_refl _) _).alloc (by simp) _
    · simp [wt]
    · simp [wt]
  case round =>
    obtain ⟨st, ms, ks, g, cap, rfl, hown, hmap, hzr, hb, rfl, hT, hinv⟩ := hrel
    have HOWN := Lib.hid hown
    have HMAP := Lib.hid hmap
    clear hown hmap hmm HI
    have hcat : st = [] ∨ ∃ st' p, st = st' ++ [p] := by
      rcases List.eq_nil_or_concat st with h | ⟨st', p, h⟩
      · exact .inl h
      · exact .inr ⟨st', p, by rw [h, List.concat_eq_append]⟩
    rcases hcat with rfl | ⟨st, p, rfl⟩
    · have HL := Lib.hid hinv.same
      clear hinv
      go_wp2_with fail
      go_ret
      exact ⟨by rw [decide_eq_true HL.out]; rfl, hb⟩
    · obtain ⟨pA, pc, X, pA', pc', Y⟩ := p
      have hlen : (st ++ [⟨pA, pc, X, pA', pc', Y⟩] : List Pr).length = st.length + 1 := by simp
      have hwt : wt (st ++ [⟨pA, pc, X, pA', pc', Y⟩]) = wt st + (1 + 2 * X.size) := by rw [wt_app]; simp [wt]
      have hge := wt_ge st
      rw [hwt] at hT
      obtain ⟨oX, oY⟩ := hinv.ok ⟨pA, pc, X, pA', pc', Y⟩ (by simp)
      have q0 : wr.cell? ⟨g, st.length * 2, none⟩ = some (.slice pA X.len pc) := by
        have := HOWN.out.cellAt (st.length * 2) (by rw [hlen]; omega)
        rw [this, cellsOf_app, List.getElem?_append_right (by rw [cellsOf_len]; omega), cellsOf_len, Nat.sub_self]; rfl
      have q1 : wr.cell? ⟨g, st.length * 2 + 1, none⟩ = some (.slice pA' Y.len pc') := by
        have := HOWN.out.cellAt (st.length * 2 + 1) (by rw [hlen]; omega)
        rw [this, cellsOf_app, List.getElem?_append_right (by rw [cellsOf_len]; omega), cellsOf_len, show st.length * 2 + 1 - st.length * 2 = 1 from by omega]; rfl
      have hcap : st.length + 1 ≤ cap ∧ cap ≤ 9223372036854775807 := by
        obtain ⟨_, ⟨h, _⟩ | ⟨g', cap', cur, h, _, _, h1, h2, _⟩⟩ := HOWN.out
        · cases h
        · simp only [Value.slice.injEq, true_and] at h
          obtain ⟨_, rfl⟩ := h
          unfold maxLen at h2
          rw [hlen] at h1
          omega
      obtain ⟨hc1, hc2⟩ := hcap
      rw [hlen]
      generalize hm : st.length = m at *
      have HM := Lib.hid hm
      have HLEN := Lib.hid hlen
      have HINV := Lib.hid hinv
      have HWT := Lib.hid hwt
      have OX := Lib.hid (show SlP w S X pA X.len pc from oX)
      have OY := Lib.hid (show SlP w S Y pA' Y.len pc' from oY)
      have hXm : X.len ≤ 9223372036854775807 := by
        have h1 : X.len ≤ pc := oX.le
        have h2 : pc ≤ maxLen := oX.top
        unfold maxLen at h2; omega
      have hYm : Y.len ≤ 9223372036854775807 := by
        have h1 : Y.len ≤ pc' := oY.le
        have h2 : pc' ≤ maxLen := oY.top
        unfold maxLen at h2; omega
      clear hm hlen hinv hwt oX oY
      have g0 : (0 : Int) ≤ (m : Int) := by omega
      have g1 : (m : Int) < (m : Int) + 1 := by omega
      by_cases hl : X.len = Y.len
      · rw [← hl] at q1
        have HLL := Lib.hid hl
        clear hl
        have ho := HOWN.out
        rw [HLEN.out, cellsOf_app] at ho
        have HO := Lib.hid (own_pop ho (by rw [cellsOf_len, HM.out]))
        clear ho HOWN
        by_cases h0 : X.len = 0
        · rw [h0] at q0 q1
          go_wp2_with fail
          go_quiet (fail)
          have hq : Below wr.heap.size wr (wr.drewN nq) := below_drewN (Below.refl _ _) nq
          generalize wr.drewN nq = wq at *
          go_wp2_with fail
          go_quiet (fail)
          have hq2 : Below wr.heap.size wr (wq.drewN nq) := below_drewN hq nq
          generalize wq.drewN nq = wp at *
          go_wp2_with fail
          go_roundg (wt st)
          case measure => rw [HWT.out]; omega
          case rel =>
            have hX : X = .nil := SL.nil_of_len h0
            have hY : Y = .nil := SL.nil_of_len (by rw [← HLL.out]; exact h0)
            refine ⟨st, ms, ks, g, cap, by rw [HM.out], ?_, HMAP.out.below hq2 hzr, ?_, hb.trans (hq2.mono (by omega)), rfl, by omega, HINV.out.drop (.inl ⟨hX, hY⟩)⟩
            · rw [HM.out]; exact own_below HO.out hq2
            · have := hq2.size; omega
        · obtain ⟨a, rfl⟩ : ∃ a, pA = some a := by
            cases pA with
            | none => exact absurd (by have := OX.out.nil rfl; rw [this]; rfl) h0
            | some a => exact ⟨a, rfl⟩
          obtain ⟨b, rfl⟩ : ∃ b, pA' = some b := by
            cases pA' with
            | none => exact absurd (by rw [HLL.out]; have := OY.out.nil rfl; rw [this]; rfl) h0
            | some b => exact ⟨b, rfl⟩
          have g2 : (((X.len : Nat) : Int) == 0) = false := by rw [beq_eq_false_iff_ne]; omega
          have g3 : (0 : Int) < (X.len : Int) := by omega
          have g4 : decide ((X.len : Int) = 0) = false := decide_eq_false (by omega)
          have g5 : ¬ (X.len : Int) = 0 := by omega
          have hplW : ∀ (W : World) (q : Addr), S q.block → Below w.heap.size w W → PlainAt W q := fun W q hq hW => by
            obtain ⟨cs, t, h⟩ := HS.out q.block hq
            exact ⟨cs, t, (hW.block _ (Array.getElem?_eq_some_iff.1 h).1).trans h⟩
          have sXa : S a.block := by
            have := OX.out.at_ a rfl
            cases hX : X with
            | nil => rw [hX] at h0; exact absurd rfl h0
            | cons => rw [hX] at this; exact this.1
          have sYb : S b.block := by
            have := OY.out.at_ b rfl
            cases hY : Y with
            | nil => rw [HLL.out, hY] at h0; exact absurd rfl h0
            | cons => rw [hY] at this; exact this.1
          have HAP := Lib.hid (show ∀ W, Below w.heap.size w W → AllPlain W ks from fun W hW k hk => by
            obtain ⟨_, _, _, _, _, _, _, s1, s2⟩ := HINV.out.keys k hk
            exact ⟨hplW W k.1 s1 hW, hplW W k.2.1 s2 hW⟩)
          have HPL := Lib.hid hplW
          clear hplW
          go_wp2_with fail
          go_quiet (fail)
          have hq : Below wr.heap.size wr (wr.drewN nq) := below_drewN (Below.refl _ _) nq
          generalize wr.drewN nq = wq at *
          have bq := hb.trans (hq.mono (by omega))
          have HMQ := Lib.hid (HMAP.out.below hq hzr)
          have HOQ := Lib.hid (own_below HO.out hq)
          have zq := hq.size
          clear q0 q1 HMAP HO hq hb
          have hlk : ∀ q, (Instr.lookup 86 (.map (some w.heap.size)) (.agg #[.pointer (some a), .pointer (some b), .int .i64 X.len]) false).run Try.prog (wq.drewN q) = .ok (.bool (decide ((a, b, (X.len : Int)) ∈ ks))) (wq.drewN q) := fun q =>
            lookK (wq.drewN q) w.heap.size ks a b X.len (HMQ.out.below (below_drewN (Below.refl wq.heap.size _) q) (by omega)) (HAP.out _ (below_drewN bq q)) (HPL.out _ _ sXa (below_drewN bq q)) (HPL.out _ _ sYb (below_drewN bq q))
          by_cases hin : (a, b, (X.len : Int)) ∈ ks
          · simp only [hin, decide_true] at hlk
            have HM2 := Lib.hid (HINV.out.found hin rfl rfl rfl (by simp only; rw [← HLL.out]))
            clear hin
            go_wp2_with fail
            go_quiet (fail)
            have hq2 : Below wq.heap.size wq (wq.drewN nq) := below_drewN (Below.refl _ _) nq
            clear hlk
            generalize wq.drewN nq = wp at *
            go_wp2_with fail
            go_roundg (wt st)
            case measure => rw [HWT.out]; omega
            case rel =>
              refine ⟨st, ms, ks, g, cap, by rw [HM.out], ?_, HMQ.out.below hq2 (by omega), ?_, bq.trans (hq2.mono (by omega)), rfl, by omega, HINV.out.drop (.inr HM2.out)⟩
              · rw [HM.out]; exact own_below HOQ.out hq2
              · have := hq2.size; omega
          · simp only [hin, decide_false] at hlk
            have HNI := Lib.hid hin
            clear hin
            go_wp2_with fail
            go_quiet (fail)
            have hq2 : Below wq.heap.size wq (wq.drewN nq) := below_drewN (Below.refl _ _) nq
            clear hlk
            generalize wq.drewN nq = wp at *
            have bp := bq.trans (hq2.mono (by omega))
            have HMP := Lib.hid (HMQ.out.below hq2 (by omega))
            have HOP := Lib.hid (own_below HOQ.out hq2)
            have zp := hq2.size
            clear HMQ HOQ hq2 bq
            obtain ⟨w1, hput, hmap1, hgr1, hsz1⟩ := putK wp.drew w.heap.size ks a b X.len HMP.out (HAP.out _ bp.drew) (HPL.out _ _ sXa bp.drew) (HPL.out _ _ sYb bp.drew) HNI.out
            unfold keyV at hput
            go_wp2_with fail
            go_region
            clear hput
            go_wp2_with fail
            have HH := Lib.hid (HINV.out.begin (a := a) (b := b) rfl rfl HLL.out (by simp only; omega))
            have hd : Below w.heap.size w wp.drew := bp.drew
            have b1 : Below w.heap.size w w1 := hd.grown hgr1 (by show w.heap.size ≤ wp.heap.size; omega) (fun k hk => by injection hk with hk; omega)
            have o1 : w1.ownsRow (w.heap.size + 1) 87 2 (.slice (some ⟨g, 0, none⟩) m cap) m (cellsOf st) := by
              have h1 : wp.drew.ownsRow (w.heap.size + 1) 87 2 (.slice (some ⟨g, 0, none⟩) m cap) m (cellsOf st) := own_below HOP.out (Below.refl _ _).drew
              refine h1.kept hgr1 (.inr fun e => ?_)
              have := (own_at h1 (b := g) rfl).1
              injection e with e
              have e' : g = w.heap.size := e
              omega
            have z1 : w.heap.size < w1.heap.size := by rw [hsz1]; show w.heap.size < wp.heap.size; omega
            have hmap1' : MapIs w1 w.heap.size (ks ++ [(a, b, (X.len : Int))]) := hmap1
            have O1 := Lib.hid o1
            have M1 := Lib.hid hmap1'
            clear hmap1 hmap1' hgr1 hsz1 HMP HOP o1 hd bp HINV HAP HNI
            have hSlt : ∀ q, S q → q < w.heap.size := fun q hq => by
              obtain ⟨cs, t, h⟩ := HS.out q hq
              exact (Array.getElem?_eq_some_iff.1 h).1
            have HSLT := Lib.hid hSlt
            clear hSlt HPL
            go_loopg [65, 6] X.len (fun k i v wr => InRel w S L L' ms (ks ++ [(a, b, (X.len : Int))]) ⟨some a, pc, X, some b, pc', Y⟩ (wt st) k i v wr)
            case atStart =>
              refine ⟨0, st, g, cap, Nat.zero_le _, rfl, rfl, by rw [HM.out], by rw [HM.out]; exact O1.out, M1.out, z1, b1, ?_, HH.out⟩
              show wt st = wt st + 2 * (X.first 0).size
              rw [SL.first_zero]; rfl
            case round =>
              obtain ⟨j, st2, g2', cap2, hj, rfl, rfl, rfl, ho, hmap, hzs, hbs, hwt2, hhalf⟩ := hrel
              simp only at hj
              have HO2 := Lib.hid ho
              have HM3 := Lib.hid hmap
              have HHF := Lib.hid hhalf
              have HW2 := Lib.hid hwt2
              clear ho hmap hhalf hwt2
              by_cases hlt : j < X.len
              · obtain ⟨K, x, y, v, B, E, R, hdX⟩ := SL.drop_cons (L := X) (i := j) hlt
                obtain ⟨K', x', y', v', B', E', R', hdY⟩ := SL.drop_cons (L := Y) (i := j) (by rw [← HLL.out]; exact hlt)
                have hW : ∀ p : Addr, S p.block → wr.cell? p = w.cell? p := fun p hp => hbs.cell (HSLT.out _ hp)
                have aX := (OX.out.at_ a rfl).drop j
                have aY := (OY.out.at_ b rfl).drop j
                rw [hdX] at aX
                rw [hdY] at aY
                have bX := HSLT.out _ aX.1
                have bY := HSLT.out _ aY.1
                obtain ⟨c0, c1, c2, c3, AB, cB, AE, cE, c4, c5, sB, sE⟩ := aX.six hW
                obtain ⟨d0, d1, d2, d3, AB', cB', AE', cE', d4, d5, sB', sE'⟩ := aY.six hW
                have al : ∀ (o : Obj) (q : Addr), q.block = (b.add (j * 6)).block → (wr.alloc o).cell? q = wr.cell? q := fun o q hq => World.cell?_of_block (Below.heap_alloc wr o q.block (by rw [hq]; omega))
                have d0' : ∀ o, (wr.alloc o).cell? (b.add (j * 6)) = some (.int .i64 K') := fun o => (al o (b.add (j * 6)) rfl).trans d0
                have d1' : ∀ o, (wr.alloc o).cell? ⟨(b.add (j * 6)).block, (b.add (j * 6)).off + 1, none⟩ = some (.int .i64 x') := fun o => (al o ⟨(b.add (j * 6)).block, (b.add (j * 6)).off + 1, none⟩ rfl).trans d1
                have d2' : ∀ o, (wr.alloc o).cell? ⟨(b.add (j * 6)).block, (b.add (j * 6)).off + 2, none⟩ = some (.int .i64 y') := fun o => (al o ⟨(b.add (j * 6)).block, (b.add (j * 6)).off + 2, none⟩ rfl).trans d2
                have d3' : ∀ o, (wr.alloc o).cell? ⟨(b.add (j * 6)).block, (b.add (j * 6)).off + 3, none⟩ = some (.int .i64 v') := fun o => (al o ⟨(b.add (j * 6)).block, (b.add (j * 6)).off + 3, none⟩ rfl).trans d3
                have d4' : ∀ o, (wr.alloc o).cell? ⟨(b.add (j * 6)).block, (b.add (j * 6)).off + 4, none⟩ = some (.slice AB' B'.len cB') := fun o => (al o ⟨(b.add (j * 6)).block, (b.add (j * 6)).off + 4, none⟩ rfl).trans d4
                have d5' : ∀ o, (wr.alloc o).cell? ⟨(b.add (j * 6)).block, (b.add (j * 6)).off + 5, none⟩ = some (.slice AE' E'.len cE') := fun o => (al o ⟨(b.add (j * 6)).block, (b.add (j * 6)).off + 5, none⟩ rfl).trans d5
                have HDX := Lib.hid hdX
                have HDY := Lib.hid hdY
                have SS := Lib.hid (And.intro sB (And.intro sB' (And.intro sE sE')))
                have DD := Lib.hid (And.intro d4 d5)
                have hlt' : (j : Int) < (X.len : Int) := by omega
                have hj0 : (0 : Int) ≤ (j : Int) := by omega
                clear hdX hdY hW aX aY sB sE sB' sE' al d0 d1 d2 d3 d4 d5
                by_cases hsame : K = K' ∧ x = x' ∧ y = y' ∧ v = v'
                · obtain ⟨rfl, rfl, rfl, rfl⟩ := hsame
                  go_wp2_with fail
                  go_region_with (first
                    | (go_at_call 54; refine (sameNumbers_yes K x y v _ _ _ _ _).mono ?_; rintro e w5 ⟨rfl, hb5⟩))
                  all_goals
                    have hb5' : Below (wr.heap.size + 1) (wr.alloc (.cells #[.int .i64 K, .int .i64 x, .int .i64 y, .int .i64 v, .slice AB B.len cB, .slice AE E.len cE] 29)) w5 := by
                      have h := (Below.refl (wr.heap.size + 1) (wr.alloc (.cells #[.int .i64 K, .int .i64 x, .int .i64 y, .int .i64 v, .slice AB B.len cB, .slice AE E.len cE] 29))).drew
                      exact h.trans (hb5.mono (by simp [World.drew]))
                    clear hb5
                    have hz5 : wr.heap.size + 1 ≤ w5.heap.size := by have := hb5'.size; simp at this; exact this
                    have hbr : Below wr.heap.size wr w5 := ((Below.refl _ _).alloc (Nat.le_refl _) _).trans (hb5'.mono (by omega))
                    obtain ⟨r0, r1, r2, r3, r4, r5⟩ := cells6 ((hb5'.block wr.heap.size (by omega)).trans (new_row wr _ _))
                    have e4 : w5.cell? ⟨(b.add (j * 6)).block, (b.add (j * 6)).off + 4, none⟩ = some (.slice AB' B'.len cB') := (hbr.cell (p := ⟨(b.add (j * 6)).block, (b.add (j * 6)).off + 4, none⟩) (by show (b.add (j * 6)).block < wr.heap.size; omega)).trans DD.out.1
                    have e5 : w5.cell? ⟨(b.add (j * 6)).block, (b.add (j * 6)).off + 5, none⟩ = some (.slice AE' E'.len cE') := (hbr.cell (p := ⟨(b.add (j * 6)).block, (b.add (j * 6)).off + 5, none⟩) (by show (b.add (j * 6)).block < wr.heap.size; omega)).trans DD.out.2
                    have b5 : Below w.heap.size w w5 := hbs.trans (hbr.mono (by omega))
                    have HO5 := Lib.hid (own_below HO2.out hbr)
                    have HM5 := Lib.hid (HM3.out.below hbr hzs)
                    clear hb5' hbr c0 c1 c2 c3 c4 c5 d0' d1' d2' d3' d4' d5' DD HO2 HM3
                    go_wp2_with fail
                    have HO6 := Lib.hid (own_below HO5.out (Below.refl _ _).drew)
                    have hl2 := wt_ge st2
                    have hw2 : wt st2 = wt st + 2 * (X.first j).size := HW2.out
                    have hs2 := X.first_drop_size j
                    go_region_law (first
                      | (refine step_append_lies _ rfl _ _ 88 rfl (w.heap.size + 1) 87 i0 (.agg #[.slice none 0 0, .slice none 0 0]) 2 48 Try.underlying88 hi hz0 hz1 hz2 rfl (by decide) _ _ _ rfl (HO6.out.alloc _) ⟨w5.heap.size, 0, none⟩ 2 2 [.slice AB B.len cB, .slice AB' B'.len cB', .slice AE E.len cE, .slice AE' E'.len cE'] rfl rfl (news4 w5.drew _ _ _ _ _) (ones4 _ _ _ _ _ _ _ _ _ _ _ _) (by omega) (by unfold maxLen; omega) (by omega) (by simp; omega) _ rfl ?_; intro g6 cap6 w6 hown6 hgr6 _ hgl6))
                    all_goals
                      have bd : Below w.heap.size w w5.drew := b5.drew
                      have b6 : Below w.heap.size w w6 := (bd.alloc (by show w.heap.size ≤ w5.heap.size; omega) _).grown hgr6 (by simp; omega) (fun q hq => by have := (own_at HO6.out hq).1; omega)
                      have m6 : MapIs w6 w.heap.size (ks ++ [(a, b, (X.len : Int))]) := by
                        obtain ⟨es, cl, h1, h2⟩ := HM5.out
                        refine ⟨es, cl, ?_, h2⟩
                        rw [hgr6.block w.heap.size (by simp; omega) (fun e => by have := (own_at HO6.out e.symm).1; omega), ← h1]
                        exact Below.heap_alloc w5.drew _ _ (by show w.heap.size < w5.heap.size; omega)
                      have H6 := Lib.hid (And.intro hown6 (And.intro m6 b6))
                      have hz6 : w.heap.size < w6.heap.size := by have h6 := hgr6.size; simp at h6; omega
                      clear hown6 hgr6 m6 b6 bd HO6 HO5 HM5 r0 r1 r2 r3 r4 r5 e4 e5
                      go_wp2_with fail
                      go_roundg (X.len - (j + 1))
                      case measure => show X.len - (j + 1) < X.len - j; omega
                      case rel =>
                        obtain ⟨o6, m6, b6⟩ := H6.out
                        obtain ⟨sB, sB', sE, sE'⟩ := SS.out
                        refine ⟨j + 1, st2 ++ [⟨AB, cB, B, AB', cB', B'⟩, ⟨AE, cE, E, AE', cE', E'⟩], g6, cap6, by show j + 1 ≤ X.len; omega, rfl, by go_num, by simp, ?_, m6, hz6, b6, ?_, HHF.out.next HDX.out HDY.out sB sB' sE sE'⟩
                        · rw [cellsOf_app]
                          simpa [cellsOf, Pr.cells] using o6
                        · rw [wt_app, HW2.out, SL.first_succ HDX.out, SL.plus_size]
                          simp [wt, SL.size]
                          omega
                · have HD := Lib.hid hsame
                  have HF := Lib.hid (show ¬ L = L' from fun e => hsame (by
                    have h1 : X = Y := HHF.out.yesp e
                    have h2 := HDX.out
                    rw [h1, HDY.out] at h2
                    injection h2 with e1 e2 e3 e4
                    exact ⟨e1.symm, e2.symm, e3.symm, e4.symm⟩))
                  clear hsame
                  go_wp2_with fail
                  go_region_with (first
                    | (go_at_call 54; refine (sameNumbers_no K x y v K' x' y' v' _ _ _ _ _ HD.out).mono ?_; rintro e w5 ⟨rfl, hb5⟩))
                  all_goals
                    have b5 : Below w.heap.size w w5 := (hbs.alloc (by omega) _).drew.trans (hb5.mono (by show w.heap.size ≤ _; simp [World.drew]; omega))
                    clear hb5 HD
                    go_wp2_with fail
                    go_ret
                    exact ⟨by rw [decide_eq_false HF.out]; rfl, b5⟩
              · obtain rfl : j = X.len := by omega
                go_wp2_with fail
                go_roundg (wt st2)
                case measure =>
                  have h1 := HW2.out
                  simp only [SL.first_all] at h1
                  rw [HWT.out, h1]
                  omega
                case rel =>
                  refine ⟨st2, ms ++ [(X, Y)], ks ++ [(a, b, (X.len : Int))], g2', cap2, rfl, HO2.out, HM3.out, hzs, hbs, rfl, ?_, HHF.out.done HLL.out⟩
                  have h1 := HW2.out
                  simp only [SL.first_all] at h1
                  omega
      · have hne : ((X.len : Int) == (Y.len : Int)) = false := by rw [beq_eq_false_iff_ne]; omega
        have HF := Lib.hid (show ¬ L = L' from fun e => hl (by have := HINV.out.yes e ⟨pA, pc, X, pA', pc', Y⟩ (by simp); simp only at this; rw [this]))
        clear hl
        go_wp2_with fail
        go_quiet (fail)
        go_wp2_with fail
        go_ret
        exact ⟨by rw [decide_eq_false HF.out]; rfl, below_drewN hb _⟩
end Go.Proofs.Ytlmgbpbiljnohaa
