/- Which instructions are kept: the program's and the model's. -/
import Derived.Test.YtogpfagdpkjmmaaDeadP
import Derived.Test.YtogpfagdpkjmmaaSlimReach
import Derived.Lib.QuietBelowIn
namespace Go.Proofs.Ytogpfagdpkjmmaa
open Go.ChangeShapes Go.WideShapes Go.ChangeAt Go.RowKit Go.Sort Go.Shelf

attribute [local go_sem] wideFnR

theorem idxT_at {l : List Bool} (h : idxT l < l.length) : l.getD (idxT l) false = true := by
  induction l with
  | nil => simp [idxT] at h
  | cons b r ih =>
    rw [idxT] at h ⊢
    by_cases hb : b = true
    · rw [if_pos hb]; simpa using hb
    · rw [if_neg hb] at h ⊢
      simpa using ih (by simpa using h)

set_option maxRecDepth 100000 in
/-- The first yes in a row that has one. -/
theorem index_ {l : List Bool} {g o m c : Nat} {w : World} (hm : m ≤ 60) (hl : l.length = m) (hc : ∀ j, j < m → w.cell? ⟨g, o + j, none⟩ = some (.bool (l.getD j false))) (hy : idxT l < m) :
    Calls Try.prog 82 #[.slice (some ⟨g, o, none⟩) m c, .bool true] w fun e w' => e = .returned (.int .i64 (idxT l)) ∧ w' = w := by
  have HC := Lib.hid hc
  clear hc
  have hyes := idxT_at (l := l) (by omega)
  go_enter Try.func82, Try.ntmps82
  go_wp2_with fail
  go_loopw [8] (fun q wr => ∃ k : Nat, k ≤ idxT l ∧ q = .int .i64 k ∧ wr = w) (fun q _ => m - (intOf q).toNat)
  case atStart => exact ⟨0, Nat.zero_le _, rfl, rfl⟩
  case round =>
    obtain ⟨k, hk, rfl, rfl⟩ := hrel
    have ck := HC.out k (by omega)
    by_cases hlt : k < idxT l
    · rw [idxT_no hlt] at ck
      go_wp2_with fail
      go_roundw
      case rel => exact ⟨k + 1, by omega, by go_num, by first | rfl | trivial⟩
      case measure => simp [intOf]; omega
    · have e : k = idxT l := by omega
      rw [← e] at hyes
      rw [hyes] at ck
      have E := Lib.hid e
      clear e hyes hlt
      go_wp2_with fail
      go_ret
      exact ⟨by rw [← E.out]; rfl, rfl⟩

set_option maxRecDepth 100000 in
set_option maxHeartbeats 2000000 in
/-- Whether an instruction is a jump to the next one that stands. -/
theorem isIdle_ {xs : List Int} {n g c N i : Nat} {w : World} (hr : Right xs n) (hi : i < n) (hst : w.ownsRow N 4 1 (.slice (some ⟨g, 0, none⟩) n c) n (bls (standL xs n))) :
    Calls Try.prog 55 #[.agg #[.int .i64 (opC xs i), .int .i64 (aC xs i), .int .i64 (bC xs i), .int .i64 (toC xs i)], .int .i64 i, .slice (some ⟨g, 0, none⟩) n c] w fun e w' => e = .returned (.bool (idleB xs n i)) ∧ Below w.heap.size w w' := by
  have hn60 := hr.hi
  have hlast := hr.last i hi
  have hcn : n ≤ c ∧ c ≤ maxLen := by
    obtain ⟨_, ⟨h, _⟩ | ⟨g', cap, cur, h, _, _, h1, h2, _⟩⟩ := hst
    · cases h
    · simp only [Value.slice.injEq] at h; omega
  refine (callsIn_wide (n := 6)).1 ?_
  have hdd : ∀ k : Nat, (Fence.wide.depth.isSome = true → 1 ≤ k) := fun k h => by cases h
  by_cases h7 : opC xs i = 7
  · have hin : i + 1 < n := by have := hlast.1; omega
    have hto := insB_to (hr.ins i hi) (.inr h7)
    have hx : idxT ((standL xs n).drop (i + 1)) < n - (i + 1) := by
      apply Classical.byContradiction
      intro hge
      have h1 := idxT_no (l := (standL xs n).drop (i + 1)) (j := n - 1 - (i + 1)) (by omega)
      rw [getD_drop, show i + 1 + (n - 1 - (i + 1)) = n - 1 from by omega, standL_get xs (by omega), if_pos rfl] at h1
      cases h1
    have hidx : ∀ W, Below w.heap.size w W → Calls Try.prog 82 #[.slice (some ⟨g, i + 1, none⟩) (n - (i + 1)) (c - (i + 1)), .bool true] W fun e w' => e = .returned (.int .i64 (idxT ((standL xs n).drop (i + 1)))) ∧ w' = W := fun W hW =>
      index_ (by omega) (by rw [List.length_drop, standL_len]) (fun j hj => by
        have := (own_below hst hW).cellAt (i + 1 + j) (by omega)
        rw [bls_get (by rw [standL_len]; omega)] at this
        rw [getD_drop]; exact this) hx
    have hb : idleB xs n i = decide (toC xs i = ((i : Int) + 1 + (idxT ((standL xs n).drop (i + 1)) : Nat))) := by
      unfold idleB nxt
      simp [h7]
    rw [hb, h7]
    generalize idxT ((standL xs n).drop (i + 1)) = q at *
    generalize toC xs i = t at *
    generalize aC xs i = x1 at *
    generalize bC xs i = x2 at *
    have bA : Below w.heap.size w (w.alloc (.cells #[.int .i64 7, .int .i64 x1, .int .i64 x2, .int .i64 t] 40)) := (Below.refl _ _).alloc (Nat.le_refl _) _
    obtain ⟨V, hV⟩ : ∃ V, w.alloc (.cells #[.int .i64 7, .int .i64 x1, .int .i64 x2, .int .i64 t] 40) = V := ⟨_, rfl⟩
    have zV : V.heap.size = w.heap.size + 1 := by rw [← hV]; simp
    have hq0 := World.alloc_heap_new w (.cells #[.int .i64 7, .int .i64 x1, .int .i64 x2, .int .i64 t] 40)
    rw [hV] at bA hq0
    have c0 : V.cell? ⟨w.heap.size, 0, none⟩ = some (.int .i64 7) := by simp [World.cell?, hq0]
    have c3 : V.cell? ⟨w.heap.size, 3, none⟩ = some (.int .i64 t) := by simp [World.cell?, hq0]
    have e0 := cell_regrown c0
    have e3 := cell_regrown c3
    have cI : ∀ d os, CallsIn Fence.wide 5 Try.prog 82 #[.slice (some ⟨g, i + 1, none⟩) (n - (i + 1)) (c - (i + 1)), .bool true] (grow (redrawn V d) os) fun e w'' => e = .returned (.int .i64 q) ∧ ∃ p : Regrown, w'' = grow (redrawn V p.d) p.os :=
      fun d os => CallsIn.regrown_of ((callsIn_wide.2 (hidx _ (bA.trans ((below_regrown V d os).mono (by omega))))).mono fun e w' ⟨h1, h2⟩ => ⟨h1, by rw [h2]; exact Below.refl _ _⟩)
    have wr1 : IntKind.i64.wrap ((i : Int) + 1) = (i : Int) + 1 := IntWalk.i64_in _ (by omega)
    have wr2 : IntKind.i64.wrap ((i : Int) + 1 + (q : Int)) = (i : Int) + 1 + q := IntWalk.i64_in _ (by omega)
    have g1 : (0 : Int) ≤ (i : Int) + 1 := by omega
    have g2 : (i : Int) + 1 ≤ (n : Int) := by omega
    have g3 : ¬ c = i + 1 := by omega
    have g4 : (i + 1) ≤ n := by omega
    clear hst hidx hb hq0 hlast hr
    refine callsIn_of_wp Try.func55 rfl trivial ?_ rfl
    simp only [Try.ntmps55, List.size_toArray, List.length_cons, List.length_nil, Nat.reduceAdd, Nat.reduceSub, Array.replicate_succ, Array.replicate_zero, List.push_toArray, List.append_toArray, List.nil_append, List.cons_append]
    gi_wp2_with fail
    refine wpIn_region_quiet_below rfl (by kernel_rfl) (by kernel_rfl) ?_
    repeat (quiet_step_in (first | exact ⟨hdd _, cI _ _⟩ | exact cI _ _))
    refine wpQuietIn_nil ?_
    rintro w' ⟨⟨dq, osq⟩, rfl⟩
    have bz := bA.trans ((below_regrown V dq osq).mono (by omega))
    clear e0 e3 cI
    generalize grow (redrawn V dq) osq = W1 at *
    gi_wp2_with fail
    go_ret
    refine ⟨?_, bz⟩
    congr 1
  · have hb : idleB xs n i = false := by unfold idleB; simp [h7]
    have hne : (opC xs i == 7) = false := by simpa using h7
    rw [hb]
    generalize opC xs i = o at *
    generalize toC xs i = t at *
    generalize aC xs i = x1 at *
    generalize bC xs i = x2 at *
    have bA : Below w.heap.size w (w.alloc (.cells #[.int .i64 o, .int .i64 x1, .int .i64 x2, .int .i64 t] 40)) := (Below.refl _ _).alloc (Nat.le_refl _) _
    obtain ⟨V, hV⟩ : ∃ V, w.alloc (.cells #[.int .i64 o, .int .i64 x1, .int .i64 x2, .int .i64 t] 40) = V := ⟨_, rfl⟩
    have zV : V.heap.size = w.heap.size + 1 := by rw [← hV]; simp
    have hq0 := World.alloc_heap_new w (.cells #[.int .i64 o, .int .i64 x1, .int .i64 x2, .int .i64 t] 40)
    rw [hV] at bA hq0
    have c0 : V.cell? ⟨w.heap.size, 0, none⟩ = some (.int .i64 o) := by simp [World.cell?, hq0]
    have e0 := cell_regrown c0
    clear hst hq0 hlast hr hb h7
    refine callsIn_of_wp Try.func55 rfl trivial ?_ rfl
    simp only [Try.ntmps55, List.size_toArray, List.length_cons, List.length_nil, Nat.reduceAdd, Nat.reduceSub, Array.replicate_succ, Array.replicate_zero, List.push_toArray, List.append_toArray, List.nil_append, List.cons_append]
    gi_wp2_with fail
    refine wpIn_region_quiet_below rfl (by kernel_rfl) (by kernel_rfl) ?_
    repeat (quiet_step_in (fail))
    refine wpQuietIn_nil ?_
    rintro w' ⟨⟨dq, osq⟩, rfl⟩
    have bz := bA.trans ((below_regrown V dq osq).mono (by omega))
    clear e0
    generalize grow (redrawn V dq) osq = W1 at *
    gi_wp2_with fail
    go_ret
    exact ⟨rfl, bz⟩

set_option maxRecDepth 100000 in
set_option maxHeartbeats 2000000 in
theorem l9Next_ {xs : List Int} {A : Option Addr} {n c c' N g i : Nat} {S : Nat → Prop} {w : World} (hs : Fl w S 4 xs A n c) (hr : Right xs n) (hi : i + 1 < n) (h7 : opC xs i = 7) (hst : w.ownsRow N 4 1 (.slice (some ⟨g, 0, none⟩) n c') n (bls (comeL xs n))) :
    Calls Try.prog 81 #[.slice A n c, .slice (some ⟨g, 0, none⟩) n c', .int .i64 i] w fun e w' => e = .returned (.bool (idleB xs n i)) ∧ Below w.heap.size w w' := by
  have hn60 := hr.hi
  have hto := insB_to (hr.ins i (by omega)) (.inr h7)
  obtain ⟨a, rfl⟩ := hs.some (by omega)
  have HST := Lib.hid hst
  have HS := Lib.hid hs
  clear hst hs hr
  go_enter Try.func81, Try.ntmps81
  go_wp2_with fail
  go_loopw [7] (fun q wr => ∃ k : Nat, i + 1 ≤ k ∧ k ≤ n - 1 ∧ q = .int .i64 k ∧ (∀ j, i + 1 ≤ j → j < k → (standL xs n).getD j false = false) ∧ Below w.heap.size w wr) (fun q _ => n - (intOf q).toNat)
  case atStart => exact ⟨i + 1, Nat.le_refl _, by omega, by go_num, fun j h1 h2 => by omega, Below.refl _ _⟩
  case round =>
    obtain ⟨k, hk1, hk2, rfl, hd, hb⟩ := hrel
    have HD := Lib.hid hd
    clear hd
    have fin : (standL xs n).getD k false = true → idleB xs n i = (toC xs i == (k : Int)) := fun h => by
      unfold idleB
      rw [nxt_eq hk1 HD.out h]
      rw [Bool.eq_iff_iff]
      simp [h7]
    have FIN := Lib.hid fin
    clear fin
    have ct := ((HS.out.later hb).four i (by omega)).2.2.2
    have h3 : xs.getD (i * 4 + 3) 0 = toC xs i := rfl
    rw [h3] at ct
    by_cases hlt : k < n - 1
    · have ck := (own_below HST.out hb).cellAt k (by omega)
      rw [bls_get (by rw [comeL_len]; omega)] at ck
      have hsg := standL_get xs (n := n) (i := k) (by omega)
      rw [if_neg (by omega)] at hsg
      have gk : (k : Int) < (n : Int) - 1 := by omega
      cases hc : (comeL xs n).getD k false
      · rw [hc] at ck hsg
        have HDD := Lib.hid (show ∀ j, i + 1 ≤ j → j < k + 1 → (standL xs n).getD j false = false from fun j h1 h2 => by
          by_cases e : j = k
          · subst e; exact hsg
          · exact HD.out j h1 (by omega))
        clear hc hsg h3
        go_wp2_with fail
        go_roundw
        case rel => exact ⟨k + 1, by omega, by omega, by go_num, HDD.out, hb⟩
        case measure => simp [intOf]; omega
      · rw [hc] at ck hsg
        have HE := Lib.hid (FIN.out hsg)
        generalize toC xs i = t at *
        clear hc hsg h3
        go_wp2_with fail
        go_ret
        exact ⟨by rw [HE.out]; rfl, hb⟩
    · obtain rfl : k = n - 1 := by omega
      have hsg := standL_get xs (n := n) (i := n - 1) (by omega)
      rw [if_pos rfl] at hsg
      have HE := Lib.hid (FIN.out hsg)
      have gk : ((n - 1 : Nat) : Int) = (n : Int) - 1 := by omega
      rw [gk] at HE ⊢
      generalize toC xs i = t at *
      clear hsg h3
      go_wp2_with fail
      go_ret
      exact ⟨by rw [HE.out]; rfl, hb⟩

set_option maxRecDepth 100000 in
set_option maxHeartbeats 2000000 in
theorem l9Keeps_ {xs : List Int} {A : Option Addr} {n c c' N g i : Nat} {S : Nat → Prop} {w : World} (hs : Fl w S 4 xs A n c) (hr : Right xs n) (hi : i < n) (hst : w.ownsRow N 4 1 (.slice (some ⟨g, 0, none⟩) n c') n (bls (comeL xs n))) :
    Calls Try.prog 54 #[.slice A n c, .slice (some ⟨g, 0, none⟩) n c', .int .i64 i] w fun e w' => e = .returned (.bool (keepB xs n i)) ∧ Below w.heap.size w w' := by
  have hn60 := hr.hi
  have hlast := hr.last i hi
  obtain ⟨a, rfl⟩ := hs.some (by omega)
  have hsg := standL_get xs (n := n) (i := i) hi
  by_cases he : i = n - 1
  · rw [if_pos he] at hsg
    have hid : idleB xs n i = false := by unfold idleB; have := hlast.2 (by omega); simp [this]
    have hk : keepB xs n i = true := by unfold keepB; rw [hsg, hid]; rfl
    have gi : (i : Int) = (n : Int) - 1 := by omega
    have GI := Lib.hid gi
    rw [hk]
    have hq : ((i : Int) == (n : Int) - 1) = true := by simpa using gi
    clear hst hs hr hlast hsg hid hk gi
    go_enter Try.func54, Try.ntmps54
    go_wp2_with fail
    go_ret
    exact ⟨rfl, Below.refl _ _⟩
  · rw [if_neg he] at hsg
    have hq : ((i : Int) == (n : Int) - 1) = false := by
      have : ¬ (i : Int) = (n : Int) - 1 := by omega
      simpa using this
    have ck := hst.cellAt i (by omega)
    rw [bls_get (by rw [comeL_len]; omega)] at ck
    cases hc : (comeL xs n).getD i false
    · rw [hc] at ck hsg
      have hk : keepB xs n i = false := by unfold keepB; rw [hsg]; rfl
      rw [hk]
      clear hst hs hr hlast hsg hk hc he
      go_enter Try.func54, Try.ntmps54
      go_wp2_with fail
      go_ret
      exact ⟨rfl, Below.refl _ _⟩
    · rw [hc] at ck hsg
      have c0 := (hs.four i hi).1
      have h0 : xs.getD (i * 4) 0 = opC xs i := rfl
      rw [h0] at c0
      by_cases h7 : opC xs i = 7
      · have HN := Lib.hid (l9Next_ hs hr (by omega) h7 hst)
        have hk : keepB xs n i = !idleB xs n i := by unfold keepB; rw [hsg]; rfl
        rw [hk]
        rw [h7] at c0
        clear hst hs hr hlast hsg hk hc h7 h0 he
        generalize idleB xs n i = ib at *
        go_enter Try.func54, Try.ntmps54
        go_wp2_with fail
        refine HN.out.mono ?_
        rintro e w1 ⟨rfl, hb⟩
        cases ib
        all_goals
          go_wp2_with fail
          go_ret
          exact ⟨rfl, hb⟩
      · have hid : idleB xs n i = false := by unfold idleB; simp [h7]
        have hk : keepB xs n i = true := by unfold keepB; rw [hsg, hid]; rfl
        have hne : (opC xs i != 7) = true := by simpa using h7
        rw [hk]
        generalize opC xs i = o at *
        clear hst hs hr hlast hsg hk hc hid h7 h0 he
        go_enter Try.func54, Try.ntmps54
        go_wp2_with fail
        go_ret
        exact ⟨rfl, Below.refl _ _⟩
end Go.Proofs.Ytogpfagdpkjmmaa
