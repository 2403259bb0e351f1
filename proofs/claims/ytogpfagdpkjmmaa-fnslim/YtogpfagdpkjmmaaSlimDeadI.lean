/- SlimDead of the program, where the code is right. -/
import Derived.Test.YtogpfagdpkjmmaaDeadS
import Derived.Test.YtogpfagdpkjmmaaEachTarget
import Derived.Test.YtogpfagdpkjmmaaMapN
import Derived.Test.YtogpfagdpkjmmaaSlimJumpsI
namespace Go.Proofs.Ytogpfagdpkjmmaa
open Go.ChangeShapes Go.WideShapes Go.ChangeAt Go.RowKit Go.Shelf

attribute [local go_sem] Oper.semAt_some wideFnR

/-- What the map holds behind so many: of each place how many are kept ahead of it. -/
noncomputable def movedK (xs : List Int) (n k : Nat) : Nat → Option Int := fun i => if i < k then some ((cntK xs n i : Nat) : Int) else none
theorem movedK_succ (xs : List Int) (n k : Nat) : upd (movedK xs n k) k ((cntK xs n k : Nat) : Int) = movedK xs n (k + 1) := by
  funext i
  unfold upd movedK
  by_cases e : i = k
  · subst e; rw [if_pos rfl, if_pos (by omega)]
  · rw [if_neg e]
    by_cases h : i < k
    · rw [if_pos h, if_pos (by omega)]
    · rw [if_neg h, if_neg (by omega)]

/-- While what is kept is collected. -/
structure DeadI (xs : List Int) (n gs cs N mb : Nat) (w : World) (k : Nat) (v : Value) (V : World) : Prop where
  st : V.ownsRow N 4 1 (.slice (some ⟨gs, 0, none⟩) n cs) n (bls (standL xs n))
  box : V.heap[mb + 1]? = some (.cells #[.map (some mb)] 61 (0, 0))
  map : MapIs V mb k (movedK xs n k)
  row : V.ownsRow (mb + 2) 40 4 v (cntK xs n k) (ints (keptK xs n k))
  below : Below w.heap.size w V

theorem DeadI.pass {xs : List Int} {n gs cs N mb k : Nat} {w V V' : World} {v : Value} (h : DeadI xs n gs cs N mb w k v V) (hmb : w.heap.size ≤ mb) (hgs : gs < mb) (hg : V.grownBy V' (some mb)) :
    V'.ownsRow N 4 1 (.slice (some ⟨gs, 0, none⟩) n cs) n (bls (standL xs n)) ∧ V'.heap[mb + 1]? = some (.cells #[.map (some mb)] 61 (0, 0)) ∧ V'.ownsRow (mb + 2) 40 4 v (cntK xs n k) (ints (keptK xs n k)) ∧ Below w.heap.size w V' := by
  refine ⟨h.st.kept hg (.inr (by simp only [Value.ownBlock, ne_eq, Option.some.injEq]; omega)), (hg.block _ (heapLt h.box) (by simp)).trans h.box, own_block h.row fun b hb' => hg.block b (own_at h.row hb').2 (by have := (own_at h.row hb').1; simp; omega), h.below.grown hg (by have := h.below.size; omega) (fun b e => by cases e; exact hmb)⟩

/-- While the jumps' numbers are turned. -/
structure DeadJ (xs : List Int) (n m g cap mb : Nat) (w : World) (pre : List Nat) (V : World) : Prop where
  box : V.heap[mb + 1]? = some (.cells #[.map (some mb)] 61 (0, 0))
  map : MapIs V mb n (movedK xs n n)
  row : V.ownsRow (mb + 2) 40 4 (.slice (some ⟨g, 0, none⟩) m cap) m (ints (turnL (keptK xs n n) (movedF xs n) pre))
  below : Below w.heap.size w V
theorem DeadJ.same {xs : List Int} {n m g cap mb N : Nat} {w : World} {pre : List Nat} {V V' : World} (h : DeadJ xs n m g cap mb w pre V) (h1 : mb + 1 < N) (h2 : g < N) (hN : w.heap.size ≤ N) (hb : Below N V V') : DeadJ xs n m g cap mb w pre V' :=
  ⟨(hb.block _ h1).trans h.box, h.map.block (hb.block _ (by omega)), own_block h.row fun b hb' => hb.block b (by simp only [Value.ownBlock, Option.some.injEq] at hb'; omega), h.below.trans (hb.mono hN)⟩

theorem cntK_pos {xs : List Int} {n : Nat} (hr : Right xs n) : 0 < cntK xs n n := by
  have lo := hr.lo
  obtain ⟨m, rfl⟩ : ∃ m, n = m + 1 := ⟨n - 1, by omega⟩
  have h13 := (hr.last m (by omega)).2 rfl
  have hk : keepB xs (m + 1) m = true := by
    unfold keepB
    rw [standL_get xs (by omega), if_pos (by omega)]
    have : idleB xs (m + 1) m = false := by unfold idleB; simp [h13]
    rw [this]; rfl
  rw [cntK, if_pos hk]
  omega

set_option maxRecDepth 100000 in
set_option maxHeartbeats 4000000 in
theorem slimDeadR {xs : List Int} {A : Option Addr} {n c : Nat} {S : Nat → Prop} {w : World} (hs : Fl w S 4 xs A n c) (hr : Right xs n) (hc : codeB xs n = true) :
    CallsIn Fence.wide 6 Try.prog 29 #[.slice A n c] w fun e w' => ∃ v, e = .returned v ∧ w'.ownsRow w.heap.size 40 4 v (cntK xs n n) (ints (deadK xs n n)) ∧ Below w.heap.size w w' := by
  have hn60 := hr.hi
  have hn1 := hr.lo
  have hlen := hs.len
  obtain ⟨a, rfl⟩ := hs.some (by omega)
  obtain ⟨i0, hi, hz0, hz1, hz2⟩ := info_parts infoIns
  have hrs : reachR xs n = comeL xs n := by unfold reachR; rw [if_pos hc]
  have HS := Lib.hid hs
  have HR := Lib.hid hr
  have HC := Lib.hid hc
  clear hs hr hc
  refine callsIn_of_wp_marks Try.func29 rfl trivial ?_ rfl
  simp only [Try.ntmps29, List.size_toArray, List.length_cons, List.length_nil, Nat.reduceAdd, Nat.reduceSub, Array.replicate_succ, Array.replicate_zero, List.push_toArray, List.append_toArray, List.nil_append, List.cons_append]
  have hmk : ∀ W : World, (Instr.makeMap 61 none).run Try.prog W = .ok (.map (some W.heap.size)) (W.alloc (.map #[] 0)) := fun W => by kernel_rfl
  have hdd : ∀ k : Nat, (Fence.wide.depth.isSome = true → 1 ≤ k) := fun k h => by cases h
  gi_wp2_with (first
    | ((try refine ⟨hdd _, ?_⟩); gi_at_call 17; refine ((callsIn_wide (n := _)).2 (codeOk HS.out)).mono ?_; rintro e w1 ⟨rfl, hb1⟩; rw [HC.out]
       have HB1 := Lib.hid hb1
       clear hb1)
    | ((try refine ⟨hdd _, ?_⟩); gi_at_call 20; refine ((callsIn_wide (n := _)).2 (implSlimReach (HS.out.later HB1.out))).mono ?_; rintro e w2 ⟨v2, rfl, o2, hb2⟩
       rw [hrs, comeL_len] at o2
       obtain ⟨gs, cs, rfl, _, _⟩ := own_some' o2 (by omega)
       have z1 := HB1.out.size
       have z2 := hb2.size
       have hb12 := HB1.out.trans (hb2.mono z1)
       have hgs := own_at o2 (b := gs) rfl
       have cl := o2.cellAt (n - 1) (by omega)
       rw [bls_get (by rw [comeL_len]; omega)] at cl
       have fl := o2.frozenAt (n - 1)
       have st2 := o2.stored (n - 1) (.bool true)
       rw [bls_set] at st2
       have O2 := Lib.hid st2.1
       have HB2 := Lib.hid (hb12.setCell (p := ⟨gs, n - 1, none⟩) (show w.heap.size ≤ gs by omega) (.bool true))
       have gn1 : ((n - 1 : Nat) : Int) = (n : Int) - 1 := by omega
       have gn2 : ((n : Int) - 1).toNat = n - 1 := by omega
       clear o2 hb2 hb12 st2))
  clear cl fl
  obtain ⟨W2, hW2⟩ : ∃ W2, w2.setCell ⟨gs, n - 1, none⟩ (.bool true) = W2 := ⟨_, rfl⟩
  have zW2 : W2.heap.size = w2.heap.size := by rw [← hW2]; simp
  rw [hW2] at O2 HB2
  have hb0 := World.alloc_heap_new (W2.alloc (.map #[] 0)) (.cells #[.map (some w2.heap.size)] 61)
  rw [World.size_alloc, zW2] at hb0
  have m0 := (MapIs.made W2).alloc (.cells #[.map (some w2.heap.size)] 61)
  rw [zW2] at m0
  have i0' : DeadI xs n gs cs w1.heap.size w2.heap.size w 0 (.slice none 0 0) ((W2.alloc (.map #[] 0)).alloc (.cells #[.map (some w2.heap.size)] 61)) :=
    ⟨(O2.out.alloc _).alloc _, hb0, by rw [show movedK xs n 0 = fun _ => none from by funext i; simp [movedK]]; exact m0, World.ownsRow_nil _ _ _ _, (HB2.out.alloc (by omega) _).alloc (by rw [World.size_alloc]; omega) _⟩
  rw [hW2]
  generalize (W2.alloc (.map #[] 0)).alloc (.cells #[.map (some w2.heap.size)] 61) = V0 at *
  have I0 := Lib.hid i0'
  clear i0' hb0 m0 O2 HB2 hW2 zW2 hmk
  gi_wp2_with fail
  gi_loopw [5, 22] (fun v i wr => ∃ k : Nat, k ≤ n ∧ i = .int .i64 k ∧ DeadI xs n gs cs w1.heap.size w2.heap.size w k v wr) (fun _ i _ => n - (intOf i).toNat)
  case atStart => exact ⟨0, Nat.zero_le _, rfl, I0.out⟩
  case round =>
    clear I0
    obtain ⟨k, hk, rfl, hI⟩ := hrel
    by_cases hlt : k < n
    · obtain ⟨A5, c5, rfl⟩ := own_slc' hI.row
      obtain ⟨c0, c1, c2, c3⟩ := (HS.out.later hI.below).four k hlt
      have h0 : xs.getD (k * 4) 0 = opC xs k := rfl
      have h1 : xs.getD (k * 4 + 1) 0 = aC xs k := rfl
      have h2 : xs.getD (k * 4 + 2) 0 = bC xs k := rfl
      have h3 : xs.getD (k * 4 + 3) 0 = toC xs k := rfl
      rw [h0] at c0
      rw [h1] at c1
      rw [h2] at c2
      rw [h3] at c3
      have hcnt := cntK_le xs n k
      have hmm := hI.map.lt
      have hbm := heapLt hI.box
      have m1 := hI.map.alloc (.cells #[.int .i64 (opC xs k), .int .i64 (aC xs k), .int .i64 (bC xs k), .int .i64 (toC xs k)] 40)
      have q1 := World.alloc_heap_new wr (.cells #[.int .i64 (opC xs k), .int .i64 (aC xs k), .int .i64 (bC xs k), .int .i64 (toC xs k)] 40)
      have cb1 := boxCell ((Below.heap_alloc wr (.cells #[.int .i64 (opC xs k), .int .i64 (aC xs k), .int .i64 (bC xs k), .int .i64 (toC xs k)] 40) (w2.heap.size + 1) hbm).trans hI.box)
      have gA : wr.grownBy (wr.alloc (.cells #[.int .i64 (opC xs k), .int .i64 (aC xs k), .int .i64 (bC xs k), .int .i64 (toC xs k)] 40)) (some w2.heap.size) := World.grownBy_alloc _ _ _
      have HID := Lib.hid (fun (W : World) (h : W.ownsRow w1.heap.size 4 1 (.slice (some ⟨gs, 0, none⟩) n cs) n (bls (standL xs n))) => isIdle_ HR.out hlt h)
      have hinsL : ∀ t, ints (insL xs k t) = [.int .i64 (opC xs k), .int .i64 (aC xs k), .int .i64 (bC xs k), .int .i64 t] := fun t => rfl
      have HKN := Lib.hid (show keepB xs n k = false → cntK xs n (k + 1) = cntK xs n k ∧ keptK xs n (k + 1) = keptK xs n k from fun h => ⟨by rw [cntK, h]; rfl, by rw [keptK, h]; rfl⟩)
      have HKY := Lib.hid (show keepB xs n k = true → cntK xs n (k + 1) = cntK xs n k + 1 ∧ ints (keptK xs n (k + 1)) = ints (keptK xs n k) ++ [.int .i64 (opC xs k), .int .i64 (aC xs k), .int .i64 (bC xs k), .int .i64 (toC xs k)] from fun h => ⟨by rw [cntK, h]; rfl, by rw [keptK, if_pos h, ints_app]; rfl⟩)
      have HKB := Lib.hid (show keepB xs n k = ((standL xs n).getD k false && !idleB xs n k) from rfl)
      have HI := Lib.hid hI
      have GA := Lib.hid gA
      have Q1 := Lib.hid q1
      clear h0 h1 h2 h3 hI gA q1 hinsL
      generalize opC xs k = o at *
      generalize aC xs k = x1 at *
      generalize bC xs k = x2 at *
      generalize toC xs k = t at *
      cases hst : (standL xs n).getD k false
      · gi_wp2_with (refine wpListIn_put rfl _ _ _ (.inl rfl) w2.heap.size k (movedK xs n k) rfl m1 (by omega) k (cntK xs n k : Nat) rfl rfl (by omega) (by omega) (by omega) ?_
                     intro w4 hm4 hg4
                     have g4 := grown_trans GA.out hg4
                     have p4 := HI.out.pass (by omega) hgs.2 g4
                     rw [movedK_succ] at hm4
                     have c4 := p4.1.cellAt k (by omega)
                     rw [bls_get (by rw [standL_len]; omega), hst] at c4
                     have P4 := Lib.hid (And.intro hm4 p4)
                     clear hm4 p4 g4)
        go_roundw
        case rel =>
          have hk0 : keepB xs n k = false := by rw [HKB.out, hst]; rfl
          exact ⟨k + 1, by omega, by go_num, P4.out.2.1, P4.out.2.2.1, P4.out.1, by rw [(HKN.out hk0).1, (HKN.out hk0).2]; exact P4.out.2.2.2.1, P4.out.2.2.2.2⟩
        case measure => simp [intOf]; omega
      · obtain ⟨ib, hib⟩ : ∃ ib, idleB xs n k = ib := ⟨_, rfl⟩
        rw [hib] at HID
        have HIB := Lib.hid hib
        clear hib
        cases ib
        · gi_wp2_with (first
            | (refine wpListIn_put rfl _ _ _ (.inl rfl) w2.heap.size k (movedK xs n k) rfl m1 (by omega) k (cntK xs n k : Nat) rfl rfl (by omega) (by omega) (by omega) ?_
               intro w4 hm4 hg4
               have g4 := grown_trans GA.out hg4
               have p4 := HI.out.pass (by omega) hgs.2 g4
               rw [movedK_succ] at hm4
               have c4 := p4.1.cellAt k (by omega)
               rw [bls_get (by rw [standL_len]; omega), hst] at c4
               have q4 := (hg4.block wr.heap.size (by simp) (by simp; omega)).trans Q1.out
               have d0 : w4.cell? ⟨wr.heap.size, 0, none⟩ = some (.int .i64 o) := by simp [World.cell?, q4]
               have d1 : w4.cell? ⟨wr.heap.size, 1, none⟩ = some (.int .i64 x1) := by simp [World.cell?, q4]
               have d2 : w4.cell? ⟨wr.heap.size, 2, none⟩ = some (.int .i64 x2) := by simp [World.cell?, q4]
               have d3 : w4.cell? ⟨wr.heap.size, 3, none⟩ = some (.int .i64 t) := by simp [World.cell?, q4]
               have Q4 := Lib.hid q4
               have P4 := Lib.hid (And.intro hm4 p4)
               clear hm4 p4 g4 q4)
            | ((try refine ⟨hdd _, ?_⟩); gi_at_call 55; refine ((callsIn_wide (n := _)).2 (HID.out w4 P4.out.2.1)).mono ?_; rintro e w5 ⟨rfl, hb5⟩
               have q5 := (hb5.block wr.heap.size (heapLt Q4.out)).trans Q4.out
               have e0 : w5.cell? ⟨wr.heap.size, 0, none⟩ = some (.int .i64 o) := by simp [World.cell?, q5]
               have e1 : w5.cell? ⟨wr.heap.size, 1, none⟩ = some (.int .i64 x1) := by simp [World.cell?, q5]
               have e2 : w5.cell? ⟨wr.heap.size, 2, none⟩ = some (.int .i64 x2) := by simp [World.cell?, q5]
               have e3 : w5.cell? ⟨wr.heap.size, 3, none⟩ = some (.int .i64 t) := by simp [World.cell?, q5]
               have r5 := own_below P4.out.2.2.2.1 hb5
               have R5 := Lib.hid r5
               have z5 := hb5.size
               have HB5 := Lib.hid hb5
               have hq5 := heapLt q5
               clear q5 hb5 r5 d0 d1 d2 d3 c4)
            | (gi_at_builtin; refine wpListIn_append_own_at _ rfl _ _ 25 rfl (w2.heap.size + 2) 40 i0 (.agg #[.int .i64 0, .int .i64 0, .int .i64 0, .int .i64 0]) 4 32 Try.underlying25 hi hz0 hz1 hz2 rfl (by decide) _ _ _ rfl (R5.out.alloc _) ⟨w5.heap.size, 0, none⟩ 1 1 [.int .i64 o, .int .i64 x1, .int .i64 x2, .int .i64 t] rfl rfl ?c1 ?c2 ?c3 ?c4 ?c5 ?_))
          case c1 =>
            intro j u hj
            match j, hj with
            | 0, hj => simp at hj; subst hj; simp [Addr.add]
            | 1, hj => simp at hj; subst hj; simp [Addr.add]
            | 2, hj => simp at hj; subst hj; simp [Addr.add]
            | 3, hj => simp at hj; subst hj; simp [Addr.add]
            | (j + 4), hj => simp at hj
          case c2 => intro u hu; simp at hu; rcases hu with rfl | rfl | rfl | rfl <;> rfl
          case c3 => unfold maxLen; omega
          case c4 => omega
          case c5 => simp; omega
          intro v' w7 hown' hgrow _ hloc
          have hk1 : keepB xs n k = true := by rw [HKB.out, hst, HIB.out]; rfl
          have hbase := fun b (h : (Value.slice A5 (cntK xs n k) c5).ownBlock = some b) => own_at R5.out h
          have same7 : ∀ b, b < w5.heap.size → (Value.slice A5 (cntK xs n k) c5).ownBlock ≠ some b → w7.heap[b]? = w5.heap[b]? := fun b h1 h2 => (hgrow.block b (by simp; omega) (fun e => h2 e.symm)).trans (Below.heap_alloc _ _ _ h1)
          have st5 := own_below P4.out.2.1 HB5.out
          have bx5 := (HB5.out.block _ (heapLt P4.out.2.2.1)).trans P4.out.2.2.1
          have mp5 := P4.out.1.block (HB5.out.block _ P4.out.1.lt)
          have bl5 := P4.out.2.2.2.2.trans (HB5.out.mono P4.out.2.2.2.2.size)
          have fin : DeadI xs n gs cs w1.heap.size w2.heap.size w (k + 1) v' w7 :=
            ⟨own_block st5 fun b hb' => same7 b (own_at st5 hb').2 (fun e => by have := (hbase b e).1; simp only [Value.ownBlock, Option.some.injEq] at hb'; omega),
              (same7 _ (heapLt bx5) (fun e => by have := (hbase _ e).1; omega)).trans bx5, mp5.block (same7 _ mp5.lt (fun e => by have := (hbase _ e).1; omega)),
              by rw [(HKY.out hk1).1, (HKY.out hk1).2]; exact hown',
              (bl5.alloc bl5.size _).grown hgrow (by simp; have := bl5.size; omega) (fun b hb' => by have := (hbase b hb').1; omega)⟩
          have FIN := Lib.hid fin
          obtain ⟨A7, c7, rfl⟩ := own_slc' hown'
          clear fin hown' hgrow hloc same7 st5 bx5 mp5 bl5 hbase R5 HB5 P4
          gi_wp2_with fail
          go_roundw
          case rel => exact ⟨k + 1, by omega, by go_num, FIN.out⟩
          case measure => simp [intOf]; omega
        · gi_wp2_with (first
            | (refine wpListIn_put rfl _ _ _ (.inl rfl) w2.heap.size k (movedK xs n k) rfl m1 (by omega) k (cntK xs n k : Nat) rfl rfl (by omega) (by omega) (by omega) ?_
               intro w4 hm4 hg4
               have g4 := grown_trans GA.out hg4
               have p4 := HI.out.pass (by omega) hgs.2 g4
               rw [movedK_succ] at hm4
               have c4 := p4.1.cellAt k (by omega)
               rw [bls_get (by rw [standL_len]; omega), hst] at c4
               have q4 := (hg4.block wr.heap.size (by simp) (by simp; omega)).trans Q1.out
               have d0 : w4.cell? ⟨wr.heap.size, 0, none⟩ = some (.int .i64 o) := by simp [World.cell?, q4]
               have d1 : w4.cell? ⟨wr.heap.size, 1, none⟩ = some (.int .i64 x1) := by simp [World.cell?, q4]
               have d2 : w4.cell? ⟨wr.heap.size, 2, none⟩ = some (.int .i64 x2) := by simp [World.cell?, q4]
               have d3 : w4.cell? ⟨wr.heap.size, 3, none⟩ = some (.int .i64 t) := by simp [World.cell?, q4]
               have Q4 := Lib.hid q4
               have P4 := Lib.hid (And.intro hm4 p4)
               clear hm4 p4 g4 q4)
            | ((try refine ⟨hdd _, ?_⟩); gi_at_call 55; refine ((callsIn_wide (n := _)).2 (HID.out w4 P4.out.2.1)).mono ?_; rintro e w5 ⟨rfl, hb5⟩
               have q5 := (hb5.block wr.heap.size (heapLt Q4.out)).trans Q4.out
               have e0 : w5.cell? ⟨wr.heap.size, 0, none⟩ = some (.int .i64 o) := by simp [World.cell?, q5]
               have e1 : w5.cell? ⟨wr.heap.size, 1, none⟩ = some (.int .i64 x1) := by simp [World.cell?, q5]
               have e2 : w5.cell? ⟨wr.heap.size, 2, none⟩ = some (.int .i64 x2) := by simp [World.cell?, q5]
               have e3 : w5.cell? ⟨wr.heap.size, 3, none⟩ = some (.int .i64 t) := by simp [World.cell?, q5]
               have r5 := own_below P4.out.2.2.2.1 hb5
               have R5 := Lib.hid r5
               have z5 := hb5.size
               have HB5 := Lib.hid hb5
               have hq5 := heapLt q5
               clear q5 hb5 r5 d0 d1 d2 d3 c4))
          go_roundw
          case rel =>
            have hk0 : keepB xs n k = false := by rw [HKB.out, hst, HIB.out]; rfl
            exact ⟨k + 1, by omega, by go_num, own_below P4.out.2.1 HB5.out, (HB5.out.block _ (heapLt P4.out.2.2.1)).trans P4.out.2.2.1, P4.out.1.block (HB5.out.block _ P4.out.1.lt), by rw [(HKN.out hk0).1, (HKN.out hk0).2]; exact R5.out, P4.out.2.2.2.2.trans (HB5.out.mono P4.out.2.2.2.2.size)⟩
          case measure => simp [intOf]; omega
    · obtain rfl : k = n := by omega
      have hmp := cntK_pos HR.out
      obtain ⟨g, cap, rfl, hcp1, hcp2⟩ := own_some' hI.row hmp
      obtain ⟨m, hmk'⟩ : ∃ m, cntK xs k k = m := ⟨_, rfl⟩
      have hm60 : m ≤ 60 := by have := cntK_le xs k k; omega
      have hkl : (keptK xs k k).length = m * 4 := by rw [keptK_len, hmk']
      have HDT := Lib.hid (dead_turn HR.out)
      have HDK := Lib.hid (dead_kept HR.out k (Nat.le_refl _))
      have HI := Lib.hid hI
      have hgg := own_at hI.row (b := g) rfl
      rw [hmk'] at HDT HDK hmp hcp1 ⊢
      clear hI
      gi_wp2_with ((try refine ⟨hdd _, ?_⟩); gi_at_call 52; refine (eachTarget _ (some ⟨g, 0, none⟩) m cap _).mono ?_; rintro e w6 ⟨rfl, rfl⟩)
      have iW : DeadJ xs k m g cap w2.heap.size w [] (wr.alloc (.cells #[.slice (some ⟨g, 0, none⟩) m cap] 25)) :=
        DeadJ.same (N := wr.heap.size) ⟨HI.out.box, HI.out.map, by have := HI.out.row; rw [hmk'] at this; exact this, HI.out.below⟩ (by have := heapLt HI.out.box; omega) hgg.2 HI.out.below.size ((Below.refl _ _).alloc (Nat.le_refl _) _)
      have hb3 := World.alloc_heap_new wr (.cells #[.slice (some ⟨g, 0, none⟩) m cap] 25)
      have zW : (wr.alloc (.cells #[.slice (some ⟨g, 0, none⟩) m cap] 25)).heap.size = wr.heap.size + 1 := by simp
      have hbx := heapLt HI.out.box
      have hzz := HI.out.below.size
      clear HI
      generalize wr.alloc (.cells #[.slice (some ⟨g, 0, none⟩) m cap] 25) = W at *
      have hseq := target_gs (xs := keptK xs k k) (w := W) (wb := wr.heap.size) (g := g) (n := m) (cap := cap) (B := W.heap.size + 2) 5 hm60 ⟨hb3, keptK xs k k, _, iW.row, fun i _ => rfl⟩
      clear hb3
      refine wpIn_rangeFunc_gs rfl (by omega) (gf := 80) (lb := #[.pointer (some ⟨wr.heap.size, 0, none⟩)]) rfl trivial (enters_of Try.func80 (by kernel_rfl) rfl)
        hseq (Below.refl _ _) (fun _ => rfl) (DeadJ xs k m g cap w2.heap.size w) (fun _ _ _ => False)
        ?ia ?ip ?rp ?xp ?im iW (fun x : Nat => { tmps := #[.slice (some a) k c, undef, .slice none 0 0, .slice (some ⟨gs, 0, none⟩) k cs, .pointer (some ⟨w2.heap.size + 1, 0, none⟩), .slice (some ⟨g, 0, none⟩) m cap, u6, u7, .pointer (some ⟨g, x * 4 + 3, none⟩), .slice (some a) k c, .bool true, .bool false, .slice (some a) k c, .slice (some ⟨gs, 0, none⟩) k cs, .slice (some ⟨gs, 0, none⟩) k cs, .slice (some a) k c, .int .i64 (k : Int), .int .i64 ((k : Int) - 1), .pointer (some ⟨gs, k - 1, none⟩), .map (some w2.heap.size), .slice (some a) k c, .int .i64 (k : Int), .int .i64 (k : Int), .bool false, u24, u25, u26, u27, u28, u29, u30, u31, u32, u33, u34, u35, u36, u37, u38, u39, u40, u41, u42, u43, u44, u45, u46, .slice (some ⟨g, 0, none⟩) m cap, .func (.func 80) #[] #[.pointer (some ⟨wr.heap.size, 0, none⟩)], .pointer (some ⟨g, x * 4 + 3, none⟩), undef, undef, undef, undef, undef, undef, undef, undef], defers := [] }) ?assign ?body ?done ?stop
      case ia => exact fun ys V o h => h.same (N := V.heap.size) (heapLt h.box) (own_at h.row (b := g) rfl).2 h.below.size ((Below.refl _ _).alloc (Nat.le_refl _) _)
      case ip => exact fun ys V l o o' hl h ho hc => h.same (N := W.heap.size) (by omega) (by omega) (by omega) ((Below.refl _ _).grown (grownBy_putObj' V l o') (by have := heapLt ho; omega) (fun k e => by cases e; omega))
      case rp =>
        intro s V l o o' hl h ho hc
        obtain ⟨ys, base, h1, h2⟩ := h.row
        exact ⟨(World.putObj_heap_other (by omega)).trans h.box, ys, base, ownsRow_putObj h1 o' ho hc, h2⟩
      case xp => exact fun cd ys V l o o' hl h ho hc => h.elim
      case im => exact fun ys V V' h hb => h.same (N := W.heap.size + 2) (by omega) (by omega) (by omega) hb
      case assign =>
        intro l x V K hK
        have HK := Lib.hid hK
        clear hK
        simp only [List.zip_toArray, List.zip_cons_cons, List.zip_nil_right, List.size_toArray, List.foldl_toArray', List.foldl_cons, List.foldl_nil, List.setIfInBounds_toArray, List.set_cons_succ, List.set_cons_zero]
        gi_wp2
        exact HK.out
      case body =>
        rintro l pre x s V ⟨hx, hT, rfl⟩ hI hR
        have hmx : Try.prog.follows .mixedOrders = true := by kernel_rfl
        have hcb := boxCell hI.box
        have hrow := hI.row
        rw [turnL_tgs] at hrow
        have hyl : (turnK (keptK xs k k) (movedF xs k) x).length = m * 4 := by rw [turnK_len]; exact hkl
        have ct := hrow.cellAt (x * 4 + 3) (by omega)
        rw [ints_get (by omega)] at ct
        have h3 : (turnK (keptK xs k k) (movedF xs k) x).getD (x * 4 + 3) 0 = toC (keptK xs k k) x := by
          have := turnK_to hkl (movedF xs k) x x hx
          rw [if_neg (by omega)] at this
          exact this
        rw [h3] at ct
        have ft := hrow.frozenAt (x * 4 + 3)
        have hto := (HDK.out x hx).2.2.2.2 hT
        obtain ⟨t, ht⟩ : ∃ t : Nat, toC (keptK xs k k) x = (t : Int) := ⟨(toC (keptK xs k k) x).toNat, by omega⟩
        have hjf : movedF xs k x = (cntK xs k t : Nat) := by unfold movedF; rw [ht]; rfl
        rw [ht] at ct hto
        have lk : (Instr.lookup 61 (.map (some w2.heap.size)) (.int .i64 t) false).run Try.prog V.drew = .ok (.int .i64 (cntK xs k t : Nat)) V.drew :=
          (hI.map.block (w' := V.drew) rfl).run (by omega) (by unfold movedK; rw [if_pos (by omega)])
        have hst := hrow.stored (x * 4 + 3) (.int .i64 (cntK xs k t : Nat))
        rw [ints_set] at hst
        have hbv : Below w.heap.size w (V.setCell ⟨g, x * 4 + 3, none⟩ (.int .i64 (cntK xs k t : Nat))).drew := (hI.below.setCell (p := ⟨g, x * 4 + 3, none⟩) (show w.heap.size ≤ g by omega) _).drew
        have hsame : ∀ j, j ≠ g → (V.setCell ⟨g, x * 4 + 3, none⟩ (.int .i64 (cntK xs k t : Nat))).drew.heap[j]? = V.heap[j]? := fun j hj => Below.heap_setCell _ _ _ j (fun e => hj e)
        have hnew : turnL (keptK xs k k) (movedF xs k) (tgs (keptK xs k k) x ++ [x]) = (turnK (keptK xs k k) (movedF xs k) x).set (x * 4 + 3) (cntK xs k t : Nat) := by rw [turnL_snoc, turnL_tgs, hjf]
        have hops : ∀ i, i < m → opC ((turnK (keptK xs k k) (movedF xs k) x).set (x * 4 + 3) ((cntK xs k t : Nat) : Int)) i = opC (keptK xs k k) i := fun i _ => by
          have h1 : opC ((turnK (keptK xs k k) (movedF xs k) x).set (x * 4 + 3) ((cntK xs k t : Nat) : Int)) i = opC (turnK (keptK xs k k) (movedF xs k) x) i := getD_set' _ _ _ _ (by omega)
          rw [h1, turnK_op]
        have fin : gsPost W.heap.size (DeadJ xs k m g cap w2.heap.size w) (fun _ _ _ => False) (TgtRd (keptK xs k k) wr.heap.size g m cap) (tgs (keptK xs k k) x ++ [x]) s V .normal ⟨#[], []⟩ (V.setCell ⟨g, x * 4 + 3, none⟩ (.int .i64 (cntK xs k t : Nat))).drew :=
          ⟨⟨by simp, fun j o hj ho _ => (hsame j (by omega)).trans ho⟩, ⟨(hsame _ (by omega)).trans hI.box, hI.map.block (hsame _ (by omega)), by rw [hnew]; exact hst.1, hbv⟩, ⟨(hsame _ (by omega)).trans hR.box, _, _, hst.1, hops⟩⟩
        have FIN := Lib.hid fin
        clear hI hR hrow hjf h3 hseq iW ht hst hbv hsame hnew hops fin HDK HDT hyl hkl hmk'
        gi_wp2_with fail
        gi_region_with_o (fail)
        all_goals exact FIN.out
      case done =>
        rintro D ys V hD rfl hI hV
        have hrow := hI.row
        rw [turnL_tgs, HDT.out] at hrow
        have HROW := Lib.hid hrow
        have hb := hI.below
        clear hseq iW hI hrow
        gi_wp2
        refine ⟨by simp, .inl ⟨D, _, rfl, run_takeDeferred hV, ?_⟩⟩
        refine ⟨.slice (some ⟨g, 0, none⟩) m cap, by simp [results, Try.results29, go_sem], _, rfl, (by rw [hmk']; exact own_mono (ownsRow_putObj HROW.out _ hV rfl) (by omega)), ?_⟩
        exact hb.trans ((Below.refl _ V).grown (grownBy_putObj' V D _) (by have := heapLt hV; omega) (fun k e => by cases e; omega))
      case stop =>
        intro D cd ys V hD _ hX hV
        exact hX.elim
end Go.Proofs.Ytogpfagdpkjmmaa
