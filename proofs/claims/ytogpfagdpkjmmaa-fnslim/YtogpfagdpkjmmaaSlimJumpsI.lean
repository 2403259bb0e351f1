/- SlimJumps of the program, where the code is right. -/
import Derived.Test.YtogpfagdpkjmmaaChainEnd
import Derived.Test.YtogpfagdpkjmmaaEachTarget
import Derived.Test.YtogpfagdpkjmmaaImplCodeOk
import Derived.Shelf.RegionOpen
namespace Go.Proofs.Ytogpfagdpkjmmaa
open Go.ChangeShapes Go.WideShapes Go.ChangeAt Go.RowKit Go.Shelf

attribute [local go_sem] Oper.semAt_some wideFnR

theorem infoIns : (Try.prog.info? 40).map (fun i => (i.zero, i.size, i.bytes)) = some (some (.agg #[.int .i64 0, .int .i64 0, .int .i64 0, .int .i64 0]), 4, 32) := by kernel_rfl
theorem someInss (a : Addr) (n c : Nat) (W : World) : (binOp .eql 25 (.slice (some a) n c) (.slice none 0 0)).run Try.prog W = .ok (.bool false) W := by kernel_rfl
theorem ints_one9 (xs : List Int) : ∀ u ∈ ints xs, u.oneCell' = true := by
  intro u hu
  obtain ⟨q, _, rfl⟩ := List.mem_map.1 hu
  rfl
theorem flNews {w : World} {S : Nat → Prop} {z : Nat} {xs : List Int} {a : Addr} {n c : Nat} (h : Fl w S z xs (some a) n c) : ∀ j u, (ints xs)[j]? = some u → w.cell? (a.add j) = some u := by
  intro j u hu
  have hj : j < xs.length := by
    have := (List.getElem?_eq_some_iff.1 hu).1
    rwa [ints_len] at this
  rw [(h.at_ a rfl j hj).2]
  rw [ints_get hj] at hu
  exact hu

set_option maxRecDepth 100000 in
theorem cloneIns {xs : List Int} {a : Addr} {n c : Nat} {S : Nat → Prop} {w : World} (hs : Fl w S 4 xs (some a) n c) (hn : n ≤ 60) :
    Calls Try.prog 51 #[.slice (some a) n c] w fun e w' => ∃ v, e = .returned v ∧ w'.ownsRow w.heap.size 40 4 v n (ints xs) ∧ Below w.heap.size w w' := by
  obtain ⟨i0, hi, hz0, hz1, hz2⟩ := info_parts infoIns
  have b0 : Below w.heap.size w (w.alloc (.cells #[] 40)) := (Below.refl _ _).alloc (Nat.le_refl _) _
  have hnil := World.ownsRow_lit (base := w.heap.size) (e := 40) (size := 4) w #[] 0 (Nat.le_refl _) (Nat.zero_le _) rfl
  have hc2 := flNews (hs.later b0)
  have hl : (ints xs).length = n * 4 := by rw [ints_len]; exact hs.len
  have h1 := ints_one9 xs
  have he := someInss
  clear hs
  go_enter Try.func51, Try.ntmps51
  go_wp2_with (first | (at_builtin; refine wpList_append_own _ rfl _ _ 25 rfl w.heap.size 40 i0 _ 4 32 Try.underlying25 hi hz0 hz1 hz2 rfl (by decide) _ 0 [] rfl hnil a n c (ints xs) rfl hl hc2 h1 ?c1 ?c2 b0.size ?_) | fail)
  case c1 => unfold maxLen; omega
  case c2 => omega
  intro v' w' hown' hgrow _
  have hb : Below w.heap.size w w' := b0.grown hgrow b0.size (fun b hb' => (own_at hnil hb').1)
  have HO := Lib.hid hown'
  clear hown' hgrow hnil hc2 hl h1
  go_wp2_with fail
  go_ret
  exact ⟨_, rfl, by simpa using HO.out, hb⟩

/-- The numbers of these turned by f. -/
def turnL (xs : List Int) (f : Nat → Int) (l : List Nat) : List Int := l.foldl (fun ys i => ys.set (i * 4 + 3) (f i)) xs
theorem turnL_snoc (xs : List Int) (f : Nat → Int) (l : List Nat) (x : Nat) : turnL xs f (l ++ [x]) = (turnL xs f l).set (x * 4 + 3) (f x) := by simp [turnL, List.foldl_append]
theorem turnL_tgs (xs : List Int) (f : Nat → Int) (k : Nat) : turnL xs f (tgs xs k) = turnK xs f k := by
  induction k with
  | zero => rfl
  | succ k ih =>
    rw [tgs_succ, turnK]
    by_cases h : isT xs k = true
    · rw [if_pos h, if_pos h, turnL_snoc, ih]
    · rw [if_neg h, if_neg h, List.append_nil, ih]

/-- What is kept between two rounds. -/
structure TurnI (xs : List Int) (f : Nat → Int) (A : Option Addr) (n c bb g cap : Nat) (w : World) (pre : List Nat) (V : World) : Prop where
  box : V.heap[bb]? = some (.cells #[.slice A n c] 25 (0, 0))
  row : V.ownsRow w.heap.size 40 4 (.slice (some ⟨g, 0, none⟩) n cap) n (ints (turnL xs f pre))
  below : Below w.heap.size w V

theorem TurnI.same {xs : List Int} {f : Nat → Int} {A : Option Addr} {n c bb g cap N : Nat} {w : World} {pre : List Nat} {V V' : World} (h : TurnI xs f A n c bb g cap w pre V) (h1 : bb < N) (h2 : g < N) (hN : w.heap.size ≤ N) (hb : Below N V V') : TurnI xs f A n c bb g cap w pre V' :=
  ⟨(hb.block _ h1).trans h.box, own_block h.row fun b hb' => hb.block b (by simp only [Value.ownBlock, Option.some.injEq] at hb'; omega), h.below.trans (hb.mono hN)⟩

set_option maxRecDepth 100000 in
set_option maxHeartbeats 4000000 in
theorem slimJumpsR {xs : List Int} {A : Option Addr} {n c : Nat} {S : Nat → Prop} {w : World} (hs : Fl w S 4 xs A n c) (hr : Right xs n) (hc : codeB xs n = true) :
    CallsIn Fence.wide 6 Try.prog 26 #[.slice A n c] w fun e w' => ∃ v, e = .returned v ∧ w'.ownsRow w.heap.size 40 4 v n (ints (turnK xs (jumpF xs n) n)) ∧ Below w.heap.size w w' := by
  have hn60 := hr.hi
  have hn1 := hr.lo
  have hlen := hs.len
  obtain ⟨a, rfl⟩ := hs.some (by omega)
  have HS := Lib.hid hs
  have HR := Lib.hid hr
  have HC := Lib.hid hc
  have hbA : Below w.heap.size w (w.alloc (.cells #[.slice (some a) n c] 25)) := (Below.refl _ _).alloc (Nat.le_refl _) _
  have hq := World.alloc_heap_new w (.cells #[.slice (some a) n c] 25)
  have HBA := Lib.hid hbA
  have HQ := Lib.hid hq
  clear hs hr hc hbA hq
  refine callsIn_of_wp_marks Try.func26 rfl trivial ?_ rfl
  simp only [Try.ntmps26, List.size_toArray, List.length_cons, List.length_nil, Nat.reduceAdd, Nat.reduceSub, Array.replicate_succ, Array.replicate_zero, List.push_toArray, List.append_toArray, List.nil_append, List.cons_append]
  have hdd : ∀ k : Nat, (Fence.wide.depth.isSome = true → 1 ≤ k) := fun k h => by cases h
  gi_wp2_with (first
    | ((try refine ⟨hdd _, ?_⟩); gi_at_call 17; refine ((callsIn_wide (n := _)).2 (codeOk (HS.out.later HBA.out))).mono ?_; rintro e w1 ⟨rfl, hb1⟩; rw [HC.out]
       have q1 := (hb1.block w.heap.size (by simp)).trans HQ.out
       have cb1 := boxCell q1
       have b1 := HBA.out.trans (hb1.mono (by simp))
       have HQ1 := Lib.hid q1
       have HB1 := Lib.hid b1
       clear q1 b1 hb1)
    | ((try refine ⟨hdd _, ?_⟩); gi_at_call 51; refine ((callsIn_wide (n := _)).2 (cloneIns (HS.out.later HB1.out) hn60)).mono ?_; rintro e w2 ⟨v2, rfl, o2, hb2⟩
       obtain ⟨g, cap, rfl, _, _⟩ := own_some' o2 (by omega)
       have z1 := HB1.out.size
       have q2 := (hb2.block w.heap.size (heapLt HQ1.out)).trans HQ1.out
       have i2 : TurnI xs (jumpF xs n) (some a) n c w.heap.size g cap w [] w2 := ⟨q2, own_mono o2 z1, HB1.out.trans (hb2.mono z1)⟩
       have I2 := Lib.hid i2
       have hg2 := own_at o2 (b := g) rfl
       have hw1 := heapLt HQ1.out
       clear q2 i2 o2 hb2 cb1)
    | ((try refine ⟨hdd _, ?_⟩); gi_at_call 52; refine (eachTarget _ (some ⟨g, 0, none⟩) n cap _).mono ?_; rintro e w6 ⟨rfl, rfl⟩))
  have iW : TurnI xs (jumpF xs n) (some a) n c w.heap.size g cap w [] (w2.alloc (.cells #[.slice (some ⟨g, 0, none⟩) n cap] 25)) := I2.out.same (N := w2.heap.size) (heapLt I2.out.box) hg2.2 I2.out.below.size ((Below.refl _ _).alloc (Nat.le_refl _) _)
  have hb3 := World.alloc_heap_new w2 (.cells #[.slice (some ⟨g, 0, none⟩) n cap] 25)
  have zW : (w2.alloc (.cells #[.slice (some ⟨g, 0, none⟩) n cap] 25)).heap.size = w2.heap.size + 1 := by simp
  generalize w2.alloc (.cells #[.slice (some ⟨g, 0, none⟩) n cap] 25) = W at *
  have hzz := iW.below.size
  have hw2 := heapLt I2.out.box
  clear I2
  have hseq := target_gs (xs := xs) (w := W) (wb := w2.heap.size) (g := g) (n := n) (cap := cap) (B := W.heap.size + 2) 5 hn60 ⟨hb3, xs, _, iW.row, fun i _ => rfl⟩
  clear hb3
  refine wpIn_rangeFunc_gs rfl (by omega) (gf := 80) (lb := #[.pointer (some ⟨w2.heap.size, 0, none⟩)]) rfl trivial (enters_of Try.func80 (by kernel_rfl) rfl)
    hseq (Below.refl _ _) (fun _ => rfl) (TurnI xs (jumpF xs n) (some a) n c w.heap.size g cap w) (fun _ _ _ => False)
    ?ia ?ip ?rp ?xp ?im iW (fun x : Nat => { tmps := #[.slice (some a) n c, .pointer (some ⟨w.heap.size, 0, none⟩), .slice none 0 0, .slice (some ⟨g, 0, none⟩) n cap, .pointer (some ⟨g, x * 4 + 3, none⟩), .slice (some a) n c, .bool true, .bool false, .slice (some a) n c, .slice (some ⟨g, 0, none⟩) n cap, .slice (some ⟨g, 0, none⟩) n cap, .func (.func 80) #[] #[.pointer (some ⟨w2.heap.size, 0, none⟩)], .pointer (some ⟨g, x * 4 + 3, none⟩), undef, undef, undef, undef, undef, undef, undef, undef], defers := [] }) ?assign ?body ?done ?stop
  case ia => exact fun ys V o h => h.same (N := V.heap.size) (heapLt h.box) (own_at h.row (b := g) rfl).2 h.below.size ((Below.refl _ _).alloc (Nat.le_refl _) _)
  case ip => exact fun ys V l o o' hl h ho hc => h.same (N := W.heap.size) (by omega) (by omega) (by omega) ((Below.refl _ _).grown (grownBy_putObj' V l o') (by have := heapLt ho; omega) (fun k e => by cases e; omega))
  case rp =>
    intro s V l o o' hl h ho hc
    obtain ⟨ys, base, h1, h2⟩ := h.row
    exact ⟨(World.putObj_heap_other (by omega)).trans h.box, ys, base, ownsRow_putObj h1 o' ho hc, h2⟩
  case xp => exact fun cd ys V l o o' hl h ho hc => h.elim
  case im => exact fun ys V V' h hb => h.same (N := W.heap.size + 2) (by omega) (by omega) (by omega) hb
  case assign =>
    intro l x V K hK
    have HK := Lib.hid hK
    clear hK
    simp only [List.zip_toArray, List.zip_cons_cons, List.zip_nil_right, List.size_toArray, List.foldl_toArray', List.foldl_cons, List.foldl_nil, List.setIfInBounds_toArray, List.set_cons_succ, List.set_cons_zero]
    gi_wp2
    exact HK.out
  case body =>
    rintro l pre x s V ⟨hx, hT, rfl⟩ hI hR
    have hmx : Try.prog.follows .mixedOrders = true := by kernel_rfl
    have hcb := boxCell hI.box
    have hrow := hI.row
    rw [turnL_tgs] at hrow
    have hyl : (turnK xs (jumpF xs n) x).length = n * 4 := by rw [turnK_len]; exact hlen
    have ct := hrow.cellAt (x * 4 + 3) (by omega)
    rw [ints_get (by omega)] at ct
    have h3 : (turnK xs (jumpF xs n) x).getD (x * 4 + 3) 0 = toC xs x := by
      have := turnK_to hlen (jumpF xs n) x x hx
      rw [if_neg (by omega)] at this
      exact this
    rw [h3] at ct
    have ft := hrow.frozenAt (x * 4 + 3)
    have h67 : opC xs x = 6 ∨ opC xs x = 7 := by unfold isT at hT; exact of_decide_eq_true hT
    have hto := insB_to (HR.out.ins x hx) h67
    obtain ⟨t, ht⟩ : ∃ t : Nat, toC xs x = (t : Int) := ⟨(toC xs x).toNat, by omega⟩
    have hjf : jumpF xs n x = (endTo xs n t : Nat) := by unfold jumpF; rw [ht]; rfl
    rw [ht] at ct hto
    have HCE := Lib.hid (fun (V' : World) (h : Below V.heap.size V V') => chainEnd_ (HS.out.later (hI.below.trans (h.mono hI.below.size))) HR.out t (by omega))
    have HI := Lib.hid hI
    have HRD := Lib.hid hR
    have HJF := Lib.hid hjf
    have HROW := Lib.hid hrow
    have hst := hrow.stored (x * 4 + 3) (.int .i64 (endTo xs n t : Nat))
    rw [ints_set] at hst
    have hgs := grownSet V ⟨g, x * 4 + 3, none⟩ (.int .i64 (endTo xs n t : Nat))
    have hbv : Below w.heap.size w (V.setCell ⟨g, x * 4 + 3, none⟩ (.int .i64 (endTo xs n t : Nat))).drew := (hI.below.setCell (p := ⟨g, x * 4 + 3, none⟩) (show w.heap.size ≤ g by omega) _).drew
    have hsame : ∀ j, j ≠ g → (V.setCell ⟨g, x * 4 + 3, none⟩ (.int .i64 (endTo xs n t : Nat))).drew.heap[j]? = V.heap[j]? := fun j hj => Below.heap_setCell _ _ _ j (fun e => hj e)
    have hnew : turnL xs (jumpF xs n) (tgs xs x ++ [x]) = (turnK xs (jumpF xs n) x).set (x * 4 + 3) (endTo xs n t : Nat) := by rw [turnL_snoc, turnL_tgs, hjf]
    have hops : ∀ i, i < n → opC ((turnK xs (jumpF xs n) x).set (x * 4 + 3) ((endTo xs n t : Nat) : Int)) i = opC xs i := fun i _ => by
      have h1 : opC ((turnK xs (jumpF xs n) x).set (x * 4 + 3) ((endTo xs n t : Nat) : Int)) i = opC (turnK xs (jumpF xs n) x) i := getD_set' _ _ _ _ (by omega)
      rw [h1, turnK_op]
    have fin : ∀ a' : Act, gsPost W.heap.size (TurnI xs (jumpF xs n) (some a) n c w.heap.size g cap w) (fun _ _ _ => False) (TgtRd xs w2.heap.size g n cap) (tgs xs x ++ [x]) s V .normal a' (V.setCell ⟨g, x * 4 + 3, none⟩ (.int .i64 (endTo xs n t : Nat))).drew := fun a' =>
      ⟨⟨by simp, fun j o hj ho _ => (hsame j (by omega)).trans ho⟩, ⟨(hsame _ (by omega)).trans hI.box, by rw [hnew]; exact hst.1, hbv⟩, ⟨(hsame _ (by omega)).trans hR.box, _, _, hst.1, hops⟩⟩
    have FIN := Lib.hid fin
    clear hI hR hrow hjf h3 hseq iW ht hst hgs hbv hsame hnew hops fin
    gi_wp2_with fail
    gi_region_with_o (gi_at_call 53; refine (CallsIn.inRound l ((callsIn_wide (n := _)).2 (HCE.out _ (Below.refl _ _).drew))).mono ?_; rintro e w' ⟨rfl, rfl⟩)
    all_goals exact FIN.out ⟨#[], []⟩
  case done =>
    rintro D ys V hD rfl hI hV
    have hrow := hI.row
    rw [turnL_tgs] at hrow
    have HROW := Lib.hid hrow
    have hb := hI.below
    clear hseq iW hI hrow
    gi_wp2
    refine ⟨by simp, .inl ⟨D, _, rfl, run_takeDeferred hV, ?_⟩⟩
    refine ⟨.slice (some ⟨g, 0, none⟩) n cap, by simp [results, Try.results26, go_sem], _, rfl, ownsRow_putObj HROW.out _ hV rfl, ?_⟩
    exact hb.trans ((Below.refl _ V).grown (grownBy_putObj' V D _) (by have := heapLt hV; omega) (fun k e => by cases e; omega))
  case stop =>
    intro D cd ys V hD _ hX hV
    exact hX.elim
end Go.Proofs.Ytogpfagdpkjmmaa
