/- The program's search of the rooms of code. -/
import Derived.Test.YtogpfagdpkjmmaaReach
import Derived.Test.YtogpfagdpkjmmaaMapN
import Derived.Lib.QuietBelowIn
import Derived.Test.YtogpfagdpkjmmaaRegRound
import Derived.RangeFuncLeaves
import Derived.Shelf.Abstract
namespace Go.Proofs.Ytogpfagdpkjmmaa
open Go.ChangeShapes Go.WideShapes Go.ChangeAt Go.RowKit Go.Sort Go.Shelf

attribute [local go_sem] Oper.semAt_some wideFnR

/-- What the search keeps between two rounds. -/
structure RoomsI (xs : List Int) (n : Nat) (A : Option Addr) (c g : Nat) (w : World) (mb : Nat) (pre : List Nat) (V : World) : Prop where
  code : V.heap[w.heap.size]? = some (.cells #[.slice A n c] 25 (0, 0))
  forms : V.heap[w.heap.size + 1]? = some (.cells #[.pointer (some ⟨g, 0, none⟩)] 48 (0, 0))
  res : V.heap[w.heap.size + 2]? = some (.cells #[.bool false] 4 (0, 0))
  mbox : V.heap[mb]? = some (.cells #[.map (some (w.heap.size + 3))] 61 (0, 0))
  below : Below w.heap.size w V
  few : pre.length ≤ n
  map : ∃ (ρ : Nat → Option Int) (m : Nat), MapIs V (w.heap.size + 3) m ρ ∧ RInv xs n pre ρ ∧ m ≤ 1 + 2 * pre.length

/-- A function that leaves with the mark of one range over a function, its one result in a box: the mark's block is shut. -/
theorem leave_cell {F : Fence} {k N g D : Nat} {w0 W : World} (tmps : Array Value) (ht : tmps[4]? = some (.pointer (some ⟨g, 0, none⟩))) (v : Bool) (hND : N ≤ D) (hD : W.heap[D]? = some (.deferred (some []))) (hg : W.heap[g]? = some (.cells #[.bool v] 4 (0, 0))) (hb : Below N w0 W) :
    LeavesInM F k Try.prog Try.f46 tmps (fun e W' => e = .returned (.bool v) ∧ Below N w0 W') [{ target := .collected D, args := #[] }] .returning W := by
  refine ⟨by simp, .inl ⟨D, _, rfl, run_takeDeferred hD, ?_⟩⟩
  have hgD : g ≠ D := fun e => by subst e; rw [hD] at hg; cases hg
  have hg2 : (W.putObj D (.deferred none)).heap[g]? = some (.cells #[.bool v] 4 (0, 0)) := by rw [World.putObj_heap_other hgD]; exact hg
  have hc := boxCell hg2
  refine ⟨.bool v, ?_, rfl, hb.trans ((Below.refl N W).grown (grownBy_putObj' W D _) (by have := heapLt hD; omega) (fun k e => by cases e; omega))⟩
  simp [results, Try.results46, ht, go_sem, hc]

/-- While the rooms of the places that follow are laid. -/
def RoomsQ (xs : List Int) (n N x : Nat) (r r' : Int) (V : World) (B : Nat) (vN : Value) (pre : List Nat) (m : Nat) (i : Value) (wr : World) : Prop :=
  ∃ (q : Nat) (ρ : Nat → Option Int) (m' : Nat), i = .int .i64 q ∧ q ≤ (nextX xs x).length ∧ V.grownBy wr (some (N + 3)) ∧ MapIs wr (N + 3) m' ρ ∧ RInv xs n pre ρ ∧ m' ≤ m + q ∧ (∀ j ∈ (nextX xs x).take q, ρ j = some r') ∧ ρ x = some r ∧
    wr.ownsRow B 3 1 vN (nextX xs x).length (ints ((nextX xs x).map fun (j : Nat) => (j : Int)))

theorem RoomsI.same {xs : List Int} {n : Nat} {A : Option Addr} {c g : Nat} {w : World} {mb N : Nat} {pre : List Nat} {V V' : World} (h : RoomsI xs n A c g w mb pre V) (hmb : mb < N) (hN : w.heap.size + 4 ≤ N) (hb : Below N V V') : RoomsI xs n A c g w mb pre V' := by
  obtain ⟨ρ, m, h1, h2, h3⟩ := h.map
  exact ⟨(hb.block _ (by omega)).trans h.code, (hb.block _ (by omega)).trans h.forms, (hb.block _ (by omega)).trans h.res, (hb.block _ hmb).trans h.mbox, h.below.trans (hb.mono (by omega)), h.few, ρ, m, h1.block (hb.block _ (by omega)), h2, h3⟩

theorem roomsI_start {xs : List Int} {n : Nat} (hr : Right xs n) {A : Option Addr} {c g : Nat} {w W3 w5 : World} (z3 : W3.heap.size = w.heap.size + 3) (b3 : Below w.heap.size w W3) (p0 : W3.heap[w.heap.size]? = some (.cells #[.slice A n c] 25 (0, 0))) (p1 : W3.heap[w.heap.size + 1]? = some (.cells #[.pointer (some ⟨g, 0, none⟩)] 48 (0, 0))) (p2 : W3.heap[w.heap.size + 2]? = some (.cells #[.bool false] 4 (0, 0)))
    (hm : MapIs w5 (w.heap.size + 3) (0 + 1) (upd (fun _ => none) 0 (-1))) (hg : (W3.alloc (.map #[] 0)).grownBy w5 (some (w.heap.size + 3))) : RoomsI xs n A c g w w5.heap.size [] (w5.alloc (.cells #[.map (some (w.heap.size + 3))] 61)) := by
  have z5 := hg.size
  rw [World.size_alloc, z3] at z5
  have k : ∀ j, j < w.heap.size + 3 → (w5.alloc (.cells #[.map (some (w.heap.size + 3))] 61)).heap[j]? = W3.heap[j]? := fun j hj =>
    (Below.heap_alloc _ _ _ (by omega)).trans ((hg.block j (by rw [World.size_alloc]; omega) (by simp; omega)).trans (Below.heap_alloc _ _ _ (by omega)))
  refine ⟨(k _ (by omega)).trans p0, (k _ (by omega)).trans p1, (k _ (by omega)).trans p2, World.alloc_heap_new _ _, ?_, Nat.zero_le _, _, _, hm.alloc _, RInv.start hr, Nat.le_refl _⟩
  have hb := (((Below.refl w.heap.size W3).alloc (by omega) (.map #[] 0)).grown hg (by rw [World.size_alloc]; omega) (fun b e => by cases e; omega)).alloc (by omega) (.cells #[.map (some (w.heap.size + 3))] 61)
  exact b3.trans hb

theorem keepsGrown {V V' : World} {N X : Nat} (hg : V.grownBy V' (some X)) (hX : X < N) : KeepsFrom N V V' := ⟨hg.size, fun k _ hk ho _ => (hg.block k (heapLt ho) (by simp; omega)).trans ho⟩
theorem grown_trans {A B C : World} {r : Option Nat} (h : A.grownBy B r) (k : B.grownBy C r) : A.grownBy C r :=
  ⟨k.os.trans h.os, k.tape.trans h.tape, k.output.trans h.output, Nat.le_trans h.size k.size, fun j hj hn => (k.block j (Nat.lt_of_lt_of_le hj h.size) hn).trans (h.block j hj hn)⟩
theorem grownB9 {A B : World} {r : Option Nat} (h : Below A.heap.size A B) : A.grownBy B r := ⟨h.os, h.tape, h.output, h.size, fun j hj _ => h.block j hj⟩
theorem RoomsI.go {xs : List Int} {n : Nat} {A : Option Addr} {c g : Nat} {w : World} {mb x m : Nat} {ρ : Nat → Option Int} {pre : List Nat} {V V' : World} (h : RoomsI xs n A c g w mb pre V) (hg : V.grownBy V' (some (w.heap.size + 3))) (hmb : w.heap.size + 4 ≤ mb) (hm : MapIs V' (w.heap.size + 3) m ρ) (hr : RInv xs n (pre ++ [x]) ρ) (hm3 : m ≤ 1 + 2 * (pre.length + 1)) (hf : pre.length < n) : RoomsI xs n A c g w mb (pre ++ [x]) V' :=
  ⟨(hg.block _ (heapLt h.code) (by simp)).trans h.code, (hg.block _ (heapLt h.forms) (by simp)).trans h.forms, (hg.block _ (heapLt h.res) (by simp)).trans h.res, (hg.block _ (heapLt h.mbox) (by simp; omega)).trans h.mbox,
    h.below.grown hg (by have := h.below.size; omega) (fun b e => by cases e; omega), by simp; omega, ρ, m, hm, hr, by simp; omega⟩
theorem boxFree {w : World} {b : Nat} {v : Value} {t : TypeId} (h : w.heap[b]? = some (.cells #[v] t (0, 0))) : w.frozen? ⟨b, 0, none⟩ = false := by simp [World.frozen?, h]

set_option maxRecDepth 100000 in
set_option maxHeartbeats 4000000 in
theorem hasRoomsI {xs : List Int} {A : Option Addr} {n c g b : Nat} {S : Nat → Prop} {w : World} (hs : Fl w S 4 xs A n c) (hr : Right xs n) (hf : Forms w n g b) :
    CallsIn Fence.wide 6 Try.prog 46 #[.slice A n c, .pointer (some ⟨g, 0, none⟩)] w fun e w' => e = .returned (.bool (roomsB xs n)) ∧ Below w.heap.size w w' := by
  have hn60 := hr.hi
  have hn1 := hr.lo
  obtain ⟨a, rfl⟩ := hs.some (by omega)
  have HS := Lib.hid hs
  have HR := Lib.hid hr
  have HF := Lib.hid hf
  clear hs hr hf
  refine callsIn_of_wp_marks Try.func46 rfl trivial ?_ rfl
  simp only [Try.ntmps46, List.size_toArray, List.length_cons, List.length_nil, Nat.reduceAdd, Nat.reduceSub, Array.replicate_succ, Array.replicate_zero, List.push_toArray, List.append_toArray, List.nil_append, List.cons_append]
  have hdd : ∀ k : Nat, (Fence.wide.depth.isSome = true → 1 ≤ k) := fun k h => by cases h
  obtain ⟨W3, hW3⟩ : ∃ W3, ((w.alloc (.cells #[.slice (some a) n c] 25)).alloc (.cells #[.pointer (some ⟨g, 0, none⟩)] 48)).alloc (.cells #[.bool false] 4) = W3 := ⟨_, rfl⟩
  have z3 : W3.heap.size = w.heap.size + 3 := by rw [← hW3]; simp
  have mk := MapIs.made W3
  have hmk : (Instr.makeMap 61 none).run Try.prog W3 = .ok (.map (some (w.heap.size + 3))) (W3.alloc (.map #[] 0)) := by rw [← z3]; kernel_rfl
  rw [z3] at mk
  have b3 : Below w.heap.size w W3 := by rw [← hW3]; exact (((Below.refl _ _).alloc (Nat.le_refl _) _).alloc (by simp) _).alloc (by simp; omega) _
  have p0 : W3.heap[w.heap.size]? = some (.cells #[.slice (some a) n c] 25 (0, 0)) := by
    rw [← hW3]; exact (Below.heap_alloc _ _ _ (by simp; omega)).trans ((Below.heap_alloc _ _ _ (by simp)).trans (World.alloc_heap_new w _))
  have p1 : W3.heap[w.heap.size + 1]? = some (.cells #[.pointer (some ⟨g, 0, none⟩)] 48 (0, 0)) := by
    rw [← hW3]; refine (Below.heap_alloc _ _ _ (by simp)).trans ?_
    have := World.alloc_heap_new (w.alloc (.cells #[.slice (some a) n c] 25)) (.cells #[.pointer (some ⟨g, 0, none⟩)] 48)
    rwa [World.size_alloc] at this
  have p2 : W3.heap[w.heap.size + 2]? = some (.cells #[.bool false] 4 (0, 0)) := by
    rw [← hW3]
    have := World.alloc_heap_new ((w.alloc (.cells #[.slice (some a) n c] 25)).alloc (.cells #[.pointer (some ⟨g, 0, none⟩)] 48)) (.cells #[.bool false] 4)
    rwa [World.size_alloc, World.size_alloc] at this
  have P := Lib.hid (And.intro b3 (And.intro p0 (And.intro p1 p2)))
  clear b3 p0 p1 p2
  gi_wp2_with (first
    | ((try refine ⟨hdd _, ?_⟩); gi_at_call 49; refine (eachReachable _ (some a) n c _).mono ?_; rintro e w6 ⟨rfl, rfl⟩)
    | (refine wpListIn_put rfl _ _ _ (.inr rfl) (w.heap.size + 3) 0 _ rfl mk (by omega) 0 (-1) rfl rfl (by omega) (by omega) (by omega) ?_
       intro w5 hm5 hg5
       have i5 : RoomsI xs n (some a) c g w w5.heap.size [] (w5.alloc (.cells #[.map (some (w.heap.size + 3))] 61)) := roomsI_start HR.out z3 P.out.1 P.out.2.1 P.out.2.2.1 P.out.2.2.2 hm5 hg5
       have z5 : w.heap.size + 4 ≤ w5.heap.size := by have := hg5.size; rw [World.size_alloc, z3] at this; exact this
       have cc := boxCell i5.code
       have I5 := Lib.hid i5
       clear i5 hm5 hg5 mk hmk z3 P hW3))
  clear cc
  have hbx := World.alloc_heap_new (w5.alloc (.cells #[.map (some (w.heap.size + 3))] 61)) (.cells #[.slice (some a) n c] 25)
  rw [World.size_alloc] at hbx
  have iW : RoomsI xs n (some a) c g w w5.heap.size [] ((w5.alloc (.cells #[.map (some (w.heap.size + 3))] 61)).alloc (.cells #[.slice (some a) n c] 25)) :=
    I5.out.same (N := w5.heap.size + 1) (by omega) (by omega) ((Below.refl _ _).alloc (by simp) _)
  have zW : ((w5.alloc (.cells #[.map (some (w.heap.size + 3))] 61)).alloc (.cells #[.slice (some a) n c] 25)).heap.size = w5.heap.size + 2 := by simp
  generalize hWW : ((w5.alloc (.cells #[.map (some (w.heap.size + 3))] 61)).alloc (.cells #[.slice (some a) n c] 25)) = W at *
  have hseq := reach_gs (w0 := w) (w := W) (wb := w5.heap.size + 1) (B := W.heap.size + 2) 5 HS.out HR.out iW.below hbx (by omega) (by omega)
  clear hWW I5 hbx
  refine wpIn_rangeFunc_gs rfl (by omega) (gf := 79) (lb := #[.pointer (some ⟨w5.heap.size + 1, 0, none⟩)]) rfl trivial (enters_of Try.func79 (by kernel_rfl) rfl)
    hseq (Below.refl _ _) (fun _ => rfl) (RoomsI xs n (some a) c g w w5.heap.size) (fun cd _ V => cd = .ret ∧ V.heap[w.heap.size + 2]? = some (.cells #[.bool false] 4 (0, 0)) ∧ Below w.heap.size w V ∧ roomsB xs n = false)
    ?ia ?ip ?rp ?xp ?im iW (fun x : Nat => { tmps := #[.slice (some a) n c, .pointer (some ⟨g, 0, none⟩), .pointer (some ⟨w.heap.size, 0, none⟩), .pointer (some ⟨w.heap.size + 1, 0, none⟩), .pointer (some ⟨w.heap.size + 1 + 1, 0, none⟩), .pointer (some ⟨w5.heap.size, 0, none⟩), .int .i64 (x : Int), undef, undef, undef, undef, undef, undef, .map (some (w.heap.size + 3)), .map (some (w.heap.size + 3)), .slice (some a) n c, .func (.func 79) #[] #[.pointer (some ⟨w5.heap.size + 1, 0, none⟩)], .int .i64 (x : Int), undef, undef, undef, undef, undef, undef, undef, undef, undef, undef, undef, undef, undef, undef, undef, undef, undef, undef, undef, undef, undef, undef, undef, undef, undef, undef, undef, undef, undef, undef, undef, undef, undef, undef, undef, undef, undef, undef, undef, undef, undef, undef, undef, undef, undef, undef, undef, undef, undef], defers := [] }) ?assign ?body ?done ?stop
  case ia => exact fun ys V o h => h.same (N := V.heap.size) (heapLt h.mbox) (by obtain ⟨_, _, hq, _⟩ := h.map; have := hq.lt; omega) ((Below.refl _ _).alloc (Nat.le_refl _) _)
  case ip => exact fun ys V l o o' hl h ho hc => h.same (N := W.heap.size) (by omega) (by omega) ((Below.refl _ _).grown (grownBy_putObj' V l o') (by have := heapLt ho; omega) (fun k e => by cases e; omega))
  case rp => exact fun s V l o o' hl h ho hc => h.put hl ho hc (by omega) (by have := iW.below.size; omega)
  case xp => exact fun cd ys V l o o' hl ⟨h1, h2, h3, h4⟩ ho hc => ⟨h1, (World.putObj_heap_other (by omega)).trans h2, h3.grown (grownBy_putObj' V l o') (by have := heapLt ho; omega) (fun k e => by cases e; omega), h4⟩
  case im => exact fun ys V V' h hb => h.same (N := W.heap.size + 2) (by omega) (by omega) hb
  case assign =>
    intro l x V K hK
    have HK := Lib.hid hK
    clear hK
    simp only [List.zip_toArray, List.zip_cons_cons, List.zip_nil_right, List.size_toArray, List.foldl_toArray', List.foldl_cons, List.foldl_nil, List.setIfInBounds_toArray, List.set_cons_succ, List.set_cons_zero]
    gi_wp2
    exact HK.out
  case body =>
    intro l pre x s V hok hI hR
    obtain ⟨ρ, m, hm, hri, hm3⟩ := hI.map
    obtain ⟨r, hr1, hr2, hr3⟩ := hri.at hok
    have hx : x < n := hok.1
    obtain ⟨c0, c1, c2, c3⟩ := (HS.out.later hR.below).four x hx
    obtain ⟨k, hk0⟩ : ∃ k : Nat, xs.getD (x * 4) 0 = (k : Int) := ⟨(xs.getD (x * 4) 0).toNat, by have : opC xs x = xs.getD (x * 4) 0 := rfl; have := HR.out.op hx; omega⟩
    have hk1 : 1 ≤ k ∧ k ≤ 13 := by have : opC xs x = xs.getD (x * 4) 0 := rfl; have := HR.out.op hx; omega
    have hfD : Forms V n g b := HF.out.below hR.below (by have := (Array.getElem?_eq_some_iff.1 HF.out.1).1; exact this) HF.out.2.2
    obtain ⟨st, u0, u1, u2, u3, p0, p1, p2, p3, p4, hps⟩ := passOf hfD k hk1.1 hk1.2
    have hrv : r = -1 ∨ r = 0 ∨ r = 1 := by omega
    have hheld : heldX xs x r = heldO (k : Int) (xs.getD (x * 4 + 1) 0) r := by rw [← hk0]; rfl
    have hfol := fun W => followers HR.out x hx W
    rw [hk0] at c0 hfol
    have hps' := fun W => hps (xs.getD (x * 4 + 1) 0) (xs.getD (x * 4 + 2) 0) (xs.getD (x * 4 + 3) 0) r W hrv
    generalize xs.getD (x * 4 + 1) 0 = x1 at c1 hps' hheld hfol
    generalize xs.getD (x * 4 + 2) 0 = x2 at c2 hps' hfol
    generalize xs.getD (x * 4 + 3) 0 = x3 at c3 hps' hfol
    have HFOL := Lib.hid hfol
    have HHELD := Lib.hid hheld
    have cP : ∀ d os, CallsIn Fence.wide 3 Try.prog 77 #[.agg #[.string st, u0, u1, u2, u3], .agg #[.int .i64 k, .int .i64 x1, .int .i64 x2, .int .i64 x3], .int .i64 r] (grow (redrawn V d) os) fun e w'' => e = .returned (.tuple #[.int .i64 (zO k x1 r), .bool (heldO k x1 r).isSome]) ∧ ∃ p : Regrown, w'' = grow (redrawn V p.d) p.os :=
      fun d os => CallsIn.regrown_of (callsIn_wide.2 (hps' _))
    have lk : ∀ d os, (Instr.lookup 61 (.map (some (w.heap.size + 3))) (.int .i64 x) false).run Try.prog (grow (redrawn V d) os) = .ok (.int .i64 r) (grow (redrawn V d) os) :=
      fun d os => (hm.block ((below_regrown V d os).block _ hm.lt)).run (by omega) hr1
    have cc := cell_regrown (boxCell hI.code)
    have cf := cell_regrown (boxCell hI.forms)
    have cm := cell_regrown (boxCell hI.mbox)
    have e0 := cell_regrown c0
    have e1 := cell_regrown c1
    have e2 := cell_regrown c2
    have e3 := cell_regrown c3
    have f0 := cell_regrown p0
    have f1 := cell_regrown p1
    have f2 := cell_regrown p2
    have f3 := cell_regrown p3
    have f4 := cell_regrown p4
    have hk14 : (k : Int) < 14 := by omega
    have hk00 : (0 : Int) ≤ (k : Int) := by omega
    have HRI := Lib.hid hri
    have HM := Lib.hid hm
    have HI := Lib.hid hI
    have HRD := Lib.hid hR
    clear hps hps' hfol hheld hfD hk0 hri hm hI hR c0 c1 c2 c3 p0 p1 p2 p3 p4 hseq iW
    gi_wp2_with fail
    refine region_quiet_round (C := fun w' => ∃ p : Regrown, w' = grow (redrawn V p.d) p.os) rfl (by kernel_rfl) (by kernel_rfl) (by kernel_rfl) ⟨⟨V.drawn + 1, #[]⟩, by rw [grow_empty]; rfl⟩ ?_
    repeat (quiet_step_in (first | exact ⟨hdd _, cP _ _⟩ | exact cP _ _))
    refine wpQuietIn_nil ?_
    rintro V1 ⟨⟨dq, osq⟩, rfl⟩
    have b1 := below_regrown V dq osq
    have d0 := e0 dq osq
    have d1 := e1 dq osq
    have d2 := e2 dq osq
    have d3 := e3 dq osq
    have cc1 := cc dq osq
    have cm1 := cm dq osq
    have hr0 : V.heap[w.heap.size + 1 + 1]? = some (.cells #[.bool false] 4 (0, 0)) := HI.out.res
    have r1 := (b1.block _ (heapLt hr0)).trans hr0
    have cr1 := boxCell r1
    have fr1 := boxFree r1
    have m1 := HM.out.block (b1.block _ HM.out.lt)
    have g1 : V.grownBy (grow (redrawn V dq) osq) (some (w.heap.size + 3)) := ⟨b1.os, b1.tape, b1.output, b1.size, fun j hj _ => b1.block j hj⟩
    clear cc cf cm e0 e1 e2 e3 f0 f1 f2 f3 f4 cP lk hr0
    generalize grow (redrawn V dq) osq = V1 at *
    rw [← HHELD.out]
    cases hh : heldX xs x r with
    | none =>
      have HFL := Lib.hid (HRI.out.fail hx hr1 hh)
      have M1 := Lib.hid (And.intro r1 g1)
      clear m1 r1 g1 b1
      simp only [Option.isSome_none]
      gi_wp2_with fail
      have hg1 := M1.out.2
      have hb1 : Below w.heap.size w V1 := HI.out.below.grown hg1 (by have := HI.out.below.size; omega) (fun b e => by cases e; omega)
      refine ⟨⟨Nat.le_trans hg1.size (grownSet V1 ⟨w.heap.size + 1 + 1, 0, none⟩ (.bool false)).size, fun j o hj ho _ => (Below.heap_setCell _ _ _ j (by simp; omega)).trans ((hg1.block j (heapLt ho) (by simp; omega)).trans ho)⟩, rfl, Boxed.set (W := V1) (B := w.heap.size + 1 + 1) (t := 4) (v := .bool false) (.bool false) M1.out.1, hb1.setCell (p := ⟨w.heap.size + 1 + 1, 0, none⟩) (by simp; omega) _, HFL.out⟩
    | some r' =>
      have hz : zO k x1 r = r' := zO_held (by rw [← HHELD.out]; exact hh)
      have hrb := HR.out.held hx (by omega) (by omega) hh
      have HPU := Lib.hid (fun j (hj : j ∈ nextX xs x) => HRI.out.push hx hr1 hh hj)
      have HHH := Lib.hid hh
      have hnl : (nextX xs x).length ≤ 2 := by
        unfold nextX nextO
        repeat' split
        all_goals simp
      have hpl : pre.length < n := hok.2.2.2
      have hnx := fun j (hj : j ∈ nextX xs x) => HR.out.next hx j hj
      have HNX := Lib.hid hnx
      rw [hz]
      clear hz hh hnx
      simp only [Option.isSome_some]
      gi_wp2_with ((try refine ⟨hdd _, ?_⟩); gi_at_call 78; refine (CallsIn.inRound l ((callsIn_wide (n := _)).2 (HFOL.out _))).mono ?_; rintro e w2 ⟨vN, rfl, oN, hb2⟩
                   obtain ⟨AN, cN, rfl⟩ := own_slc' oN
                   have RE := Lib.hid (show RoomsQ xs n w.heap.size x r r' V V1.heap.size (.slice AN (nextX xs x).length cN) pre m (.int .i64 (0 : Nat)) w2 from
                     ⟨0, ρ, m, rfl, Nat.zero_le _, grown_trans g1 (grownB9 hb2), m1.block (hb2.block _ m1.lt), HRI.out, Nat.le_refl _, fun j hj => by simp at hj, hr1, oN⟩))
      have hX := m1.lt
      have HMB := Lib.hid HI.out.mbox
      have HRES : Go.RowKit.Hid (V.heap[w.heap.size + 1 + 1]? = some (.cells #[.bool false] 4 (0, 0))) := Lib.hid HI.out.res
      clear oN hb2 m1 g1 b1 r1 cr1 fr1 d0 d1 d2 d3 cc1 cm1 HM HFOL HRI hk1 hk14 hk00 hrv HHELD
      gi_loopw [47] (fun i wr => RoomsQ xs n w.heap.size x r r' V V1.heap.size (.slice AN (nextX xs x).length cN) pre m i wr) (fun i _ => (nextX xs x).length - (intOf i).toNat)
      case atStart => exact RE.out
      case round =>
        clear RE
        obtain ⟨q, ρq, m', rfl, hq, hgw, hmw, hriq, hm', hdn, hrx, oq⟩ := hrel
        by_cases hlt : q < (nextX xs x).length
        · obtain ⟨gn, capN, hvn, _, _⟩ := own_some' oq (by omega)
          simp only [Value.slice.injEq, true_and] at hvn
          obtain ⟨rfl, rfl⟩ := hvn
          have cn := oq.cellAt q (by omega)
          rw [ints_get (by simp; omega)] at cn
          have hjj : ((nextX xs x).map fun (j : Nat) => (j : Int)).getD q 0 = (((nextX xs x).getD q 0 : Nat) : Int) := by simp [List.getD, hlt]
          rw [hjj] at cn
          have htk : (nextX xs x).take (q + 1) = (nextX xs x).take q ++ [(nextX xs x).getD q 0] := by
            rw [List.take_add_one]; congr 1; simp [List.getD, hlt]
          have hjm : (nextX xs x).getD q 0 ∈ nextX xs x := mem_getD hlt
          have hgn := (own_at oq (b := gn) rfl).1
          have hj60 := HNX.out _ hjm
          have HF' := Lib.hid (HPU.out _ hjm)
          have HTK := Lib.hid htk
          clear hjj htk hjm
          generalize (nextX xs x).getD q 0 = j at *
          have cmr := boxCell ((hgw.block _ (heapLt HMB.out) (by simp; omega)).trans HMB.out)
          have rr := (hgw.block _ (heapLt HRES.out) (by simp)).trans HRES.out
          have crr := boxCell rr
          have frr := boxFree rr
          have hm1000 : m' < 1000 := by omega
          have HDN := Lib.hid hdn
          have HRQ := Lib.hid hriq
          have HRR := Lib.hid rr
          have HOQ := Lib.hid oq
          have fin : ∀ w4, (ρq j = none ∨ ρq j = some r') → MapIs w4 (w.heap.size + 3) (m' + 1) (upd ρq j r') → wr.grownBy w4 (some (w.heap.size + 3)) → RoomsQ xs n w.heap.size x r r' V V1.heap.size (.slice (some ⟨gn, 0, none⟩) (nextX xs x).length cN) pre m (.int .i64 ((q : Int) + 1)) w4 := fun w4 hk hm4 hg4 =>
            ⟨q + 1, upd ρq j r', m' + 1, by go_num, by omega, grown_trans hgw hg4, hm4, HRQ.out.put hj60 hrb.1 hrb.2 HF'.out hk, by omega, fun i hi => by
              rw [HTK.out] at hi
              rcases List.mem_append.1 hi with hi | hi
              · exact upd_keep hk (HDN.out i hi)
              · simp at hi; subst hi; exact upd_at _ _ _, upd_keep hk hrx, HOQ.out.kept hg4 (.inr (by simp only [Value.ownBlock, ne_eq, Option.some.injEq]; omega))⟩
          have FIN := Lib.hid fin
          clear fin hdn hriq rr oq
          cases hj : ρq j with
          | none =>
            gi_wp2_with (first
              | (gi_at_lookup; refine wpListIn_look rfl _ _ rfl (w.heap.size + 3) m' ρq rfl hmw j rfl (by omega) false (by rw [hj]; rfl) ?_; intro cv hcv)
              | (gi_at_mapUpdate; refine wpListIn_put rfl _ _ _ (.inl rfl) (w.heap.size + 3) m' ρq rfl hmw hm1000 j r' rfl rfl (by omega) hrb.1 (by omega) ?_; intro w4 hm4 hg4; have RR := Lib.hid (FIN.out w4 (.inl hj) hm4 hg4); clear hm4 hg4))
            go_roundw
            case rel => exact RR.out
            case measure => simp [intOf]; omega
          | some kn =>
            by_cases hkn : kn = r'
            · subst hkn
              gi_wp2_with (first
                | (gi_at_lookup; refine wpListIn_look rfl _ _ rfl (w.heap.size + 3) m' ρq rfl hmw j rfl (by omega) true (by rw [hj]; rfl) ?_; intro cv hcv; obtain rfl := hcv _ hj)
                | (gi_at_mapUpdate; refine wpListIn_put rfl _ _ _ (.inl rfl) (w.heap.size + 3) m' ρq rfl hmw hm1000 j _ rfl rfl (by omega) hrb.1 (by omega) ?_; intro w4 hm4 hg4; have RR := Lib.hid (FIN.out w4 (.inr hj) hm4 hg4); clear hm4 hg4))
              go_roundw
              case rel => exact RR.out
              case measure => simp [intOf]; omega
            · have hne : (kn != r') = true := by simpa using hkn
              gi_wp2_with (gi_at_lookup; refine wpListIn_look rfl _ _ rfl (w.heap.size + 3) m' ρq rfl hmw j rfl (by omega) true (by rw [hj]; rfl) ?_; intro cv hcv; obtain rfl := hcv _ hj)
              have hg9 := hgw
              have HFL := Lib.hid (HRQ.out.other hj HF'.out hkn)
              have hb1 : Below w.heap.size w wr := HI.out.below.grown hgw (by have := HI.out.below.size; omega) (fun b e => by cases e; omega)
              refine ⟨⟨Nat.le_trans hgw.size (grownSet wr ⟨w.heap.size + 1 + 1, 0, none⟩ (.bool false)).size, fun i o hi ho _ => (Below.heap_setCell _ _ _ i (by simp; omega)).trans ((hgw.block i (heapLt ho) (by simp; omega)).trans ho)⟩, rfl, Boxed.set (W := wr) (B := w.heap.size + 1 + 1) (t := 4) (v := .bool false) (.bool false) HRR.out, hb1.setCell (p := ⟨w.heap.size + 1 + 1, 0, none⟩) (by simp; omega) _, HFL.out⟩
        · obtain rfl : q = (nextX xs x).length := by omega
          have hall : ∀ j ∈ nextX xs x, ρq j = some r' := fun j hj => hdn j (by rw [List.take_of_length_le (Nat.le_refl _)]; exact hj)
          have HRM := Lib.hid (hriq.more hrx HHH.out hall)
          clear hall hdn hriq oq
          have hg9 := hgw
          gi_wp2_with fail
          refine ⟨keepsGrown hg9 (by omega), HI.out.go hg9 z5 hmw HRM.out (by omega) hpl, HRD.out.kept (X := w.heap.size + 3) (by omega) (by omega) (HI.out.below.grown hg9 (by have := HI.out.below.size; omega) (fun b e => by cases e; omega)) (fun i o hi ho _ => (hg9.block i (heapLt ho) (by simp; omega)).trans ho)⟩
  case done =>
    intro D ys V hD hys hI hV
    have HT : Go.RowKit.Hid (roomsB xs n = true) := Lib.hid (by obtain ⟨ρ, m, _, h2, _⟩ := hI.map; exact h2.end hys)
    have hr2 : V.heap[w.heap.size + 1 + 1]? = some (.cells #[.bool false] 4 (0, 0)) := hI.res
    have crr := boxCell hr2
    have frr := boxFree hr2
    have hb := hI.below
    clear hseq iW hI
    gi_wp2
    rw [HT.out]
    exact leave_cell _ rfl true (by omega) (by rw [show (V.setCell ⟨w.heap.size + 1 + 1, 0, none⟩ (.bool true)).heap[D]? = V.heap[D]? from Below.heap_setCell _ _ _ D (by simp; omega)]; exact hV) (Boxed.set (W := V) (B := w.heap.size + 1 + 1) (t := 4) (v := .bool false) (.bool true) hr2) (hb.setCell (p := ⟨w.heap.size + 1 + 1, 0, none⟩) (by simp; omega) _)
  case stop =>
    intro D cd ys V hD _ hX hV
    obtain ⟨rfl, hr2, hb, hf⟩ := hX
    have HT := Lib.hid hf
    clear hseq iW hf
    gi_wp2
    rw [HT.out]
    exact leave_cell _ rfl false (by omega) hV hr2 hb

/-- The program's search, outside a fence. -/
theorem hasRooms {xs : List Int} {A : Option Addr} {n c g b : Nat} {S : Nat → Prop} {w : World} (hs : Fl w S 4 xs A n c) (hr : Right xs n) (hf : Forms w n g b) :
    Calls Try.prog 46 #[.slice A n c, .pointer (some ⟨g, 0, none⟩)] w fun e w' => e = .returned (.bool (roomsB xs n)) ∧ Below w.heap.size w w' :=
  (callsIn_wide (n := 6)).1 (hasRoomsI hs hr hf)
end Go.Proofs.Ytogpfagdpkjmmaa
