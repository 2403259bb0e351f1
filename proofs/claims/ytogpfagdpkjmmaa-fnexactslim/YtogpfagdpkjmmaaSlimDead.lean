/- SlimDead, of the program and of the model. -/
import Derived.Test.YtogpfagdpkjmmaaSlimDeadI
namespace Go.Proofs.Ytogpfagdpkjmmaa
open Go.ChangeShapes Go.WideShapes Go.ChangeAt Go.RowKit

set_option maxRecDepth 100000 in
theorem implSlimDead {xs : List Int} {A : Option Addr} {n c : Nat} {S : Nat → Prop} {w : World} (hs : Fl w S 4 xs A n c) :
    Calls Try.prog 29 #[.slice A n c] w fun e w' => ∃ v, e = .returned v ∧ w'.ownsRow w.heap.size 40 4 v (deadN xs n) (ints (deadR xs n)) ∧ Below w.heap.size w w' := by
  cases hc : codeB xs n
  · have hco := codeOk hs
    rw [hc] at hco
    have HC := Lib.hid hco
    rw [show deadR xs n = [] from by unfold deadR; rw [hc]; rfl, show deadN xs n = 0 from by unfold deadN; rw [hc]; rfl]
    clear hco hc
    go_enter Try.func29, Try.ntmps29
    go_wp2_with fail
    refine HC.out.mono ?_
    rintro e w1 ⟨rfl, hb⟩
    go_wp2_with fail
    go_ret
    exact ⟨_, rfl, World.ownsRow_nil _ _ _ _, hb⟩
  · have h := (callsIn_wide (n := 6)).1 (slimDeadR hs (codeB_true hs.len hc) hc)
    rw [show deadR xs n = deadK xs n n from by unfold deadR; rw [if_pos hc], show deadN xs n = cntK xs n n from by unfold deadN; rw [if_pos hc]]
    exact h

theorem rowSet {w : World} {b i : Nat} {vs : Array Value} {t : TypeId} (h : w.heap[b]? = some (.cells vs t (0, 0))) (v : Value) : (w.setCell ⟨b, i, none⟩ v).heap[b]? = some (.cells (vs.setIfInBounds i v) t (0, 0)) := by
  simp [World.setCell, Array.getElem?_modify, h]
theorem four_cells {w : World} {b : Nat} {x y z u : Value} {t : TypeId} (h : w.heap[b]? = some (.cells #[x, y, z, u] t (0, 0))) : ∀ j v, [x, y, z, u][j]? = some v → w.cell? ((⟨b, 0, none⟩ : Addr).add j) = some v := by
  intro j v hj
  match j, hj with
  | 0, hj => simp at hj; subst hj; simp [World.cell?, h, Addr.add]
  | 1, hj => simp at hj; subst hj; simp [World.cell?, h, Addr.add]
  | 2, hj => simp at hj; subst hj; simp [World.cell?, h, Addr.add]
  | 3, hj => simp at hj; subst hj; simp [World.cell?, h, Addr.add]
  | (j + 4), hj => simp at hj

/-- How many are kept ahead of each of the first k. -/
noncomputable def placeL (xs : List Int) (n k : Nat) : List Int := (List.range k).map fun i => ((cntK xs n i : Nat) : Int)
theorem placeL_succ (xs : List Int) (n k : Nat) : ints (placeL xs n (k + 1)) = ints (placeL xs n k) ++ [.int .i64 (cntK xs n k : Nat)] := by
  unfold placeL
  rw [List.range_succ, List.map_append, ints_app]; rfl
theorem placeL_get {xs : List Int} {n k i : Nat} (h : i < k) : (placeL xs n k).getD i 0 = (cntK xs n i : Nat) := by
  simp [placeL, List.getD, h]
theorem placeL_len (xs : List Int) (n k : Nat) : (placeL xs n k).length = k := by simp [placeL]

set_option maxRecDepth 100000 in
set_option maxHeartbeats 8000000 in
theorem specSlimDead {xs : List Int} {A : Option Addr} {n c : Nat} {S : Nat → Prop} {w : World} (hs : Fl w S 4 xs A n c) :
    Calls Try.prog 28 #[.slice A n c] w fun e w' => ∃ v, e = .returned v ∧ w'.ownsRow w.heap.size 40 4 v (deadN xs n) (ints (deadR xs n)) ∧ Below w.heap.size w w' := by
  cases hc : codeB xs n
  · have hco := specCodeOk hs
    rw [hc] at hco
    have HC := Lib.hid hco
    rw [show deadR xs n = [] from by unfold deadR; rw [hc]; rfl, show deadN xs n = 0 from by unfold deadN; rw [hc]; rfl]
    clear hco hc
    go_enter Try.func28, Try.ntmps28
    go_wp2_with fail
    refine HC.out.mono ?_
    rintro e w1 ⟨rfl, hb⟩
    go_wp2_with fail
    go_ret
    have z1 := hb.size
    exact ⟨_, rfl, World.ownsRow_lit (base := w.heap.size) (e := 40) (size := 4) w1 #[] 0 z1 (Nat.zero_le _) rfl, hb.alloc z1 _⟩
  · have hr := codeB_true hs.len hc
    have hn60 := hr.hi
    have hn1 := hr.lo
    have hlen := hs.len
    obtain ⟨a, rfl⟩ := hs.some (by omega)
    obtain ⟨i0, hi, hz0, hz1, hz2⟩ := info_parts infoIns
    obtain ⟨j0, hj, jz0, jz1, jz2⟩ := info_parts infoInt
    have hco := specCodeOk hs
    rw [hc] at hco
    have HC := Lib.hid hco
    have HR := Lib.hid hr
    have HS := Lib.hid hs
    have HL := Lib.hid (fun (W : World) (h : Below w.heap.size w W) => l9Reach_ (hs.later h) hr hc)
    rw [show deadR xs n = deadK xs n n from by unfold deadR; rw [if_pos hc], show deadN xs n = cntK xs n n from by unfold deadN; rw [if_pos hc]]
    clear hco hc hs hr
    go_enter Try.func28, Try.ntmps28
    go_wp2_with fail
    refine HC.out.mono ?_
    rintro e w1 ⟨rfl, hb1⟩
    have z1 := hb1.size
    go_wp2_with fail
    refine (HL.out w1 hb1).mono ?_
    rintro e w2 ⟨v2, rfl, o2, hb2⟩
    have z2 := hb2.size
    obtain ⟨gr, cr, rfl, _, _⟩ := own_some' o2 (by omega)
    have b2 := hb1.trans (hb2.mono z1)
    have O2 := Lib.hid o2
    clear HC HL o2 hb2
    go_wp2_with fail
    go_loopw [4, 5, 6] (fun v q i wr => ∃ k : Nat, k ≤ n ∧ i = .int .i64 k ∧ q = .int .i64 (cntK xs n k : Nat) ∧ wr.ownsRow w2.heap.size 3 1 v k (ints (placeL xs n k)) ∧ Below w2.heap.size w2 wr) (fun _ _ i _ => n - (intOf i).toNat)
    case atStart =>
      refine ⟨0, Nat.zero_le _, rfl, rfl, ?_, (Below.refl _ _).alloc (Nat.le_refl _) _⟩
      exact World.ownsRow_lit (base := w2.heap.size) (e := 3) (size := 1) w2 #[] 0 (Nat.le_refl _) (Nat.zero_le _) rfl
    case round =>
      obtain ⟨k, hk, rfl, rfl, hown, hb⟩ := hrel
      have hsz := hb.size
      have hcnt := cntK_le xs n k
      by_cases hlt : k < n
      · have HPL := Lib.hid (placeL_succ xs n k)
        have HKE := Lib.hid (fun (W : World) (h : Below w2.heap.size w2 W) => l9Keeps_ (HS.out.later (b2.trans (h.mono (by omega)))) HR.out hlt (own_below O2.out h))
        have HCN := Lib.hid (show cntK xs n (k + 1) = cntK xs n k + if keepB xs n k = true then 1 else 0 from rfl)
        go_wp2_with (first | (at_builtin; refine wpList_append_at _ rfl _ _ 43 rfl w2.heap.size 3 j0 (.int .i64 0) 1 8 Try.underlying43 hj jz0 jz1 jz2 rfl (by decide) _ _ _ rfl (hown.alloc _) ⟨wr.heap.size, 0, none⟩ 1 1 [.int .i64 (cntK xs n k : Nat)] rfl rfl ?c1 ?c2 ?c3 ?c4 ?c5 (by decide) ?_) | fail)
        case c1 =>
          intro j u hj
          match j, hj with
          | 0, hj => simp at hj; subst hj; simp [Addr.add]
        case c2 => intro u hu; simp at hu; subst hu; rfl
        case c3 => unfold maxLen; omega
        case c4 => omega
        case c5 => simp; omega
        intro v' w3 hown' hgrow _
        have hbw : Below w2.heap.size w2 w3 := (hb.alloc hsz _).grown hgrow (by simp; omega) (fun b hb' => (own_at hown hb').1)
        rw [← HPL.out] at hown'
        have HO := Lib.hid hown'
        clear hown' hown hgrow HPL
        go_wp2_with fail
        refine (HKE.out w3 hbw).mono ?_
        rintro e w4 ⟨rfl, hb4⟩
        have hbw4 := hbw.trans (hb4.mono hbw.size)
        have HO4 := Lib.hid (own_below HO.out hb4)
        clear HKE HO hb4
        cases hkp : keepB xs n k
        · have HC1 := Lib.hid (show cntK xs n (k + 1) = cntK xs n k from by rw [HCN.out, hkp]; rfl)
          clear HCN hkp
          go_wp2_with fail
          go_roundw
          case rel => exact ⟨k + 1, by omega, by go_num, by rw [HC1.out], HO4.out, hbw4⟩
          case measure => simp [intOf]; omega
        · have HC1 := Lib.hid (show cntK xs n (k + 1) = cntK xs n k + 1 from by rw [HCN.out, hkp]; rfl)
          clear HCN hkp
          generalize cntK xs n k = q at *
          go_wp2_with fail
          go_roundw
          case rel => exact ⟨k + 1, by omega, by go_num, by rw [HC1.out]; go_num, HO4.out, hbw4⟩
          case measure => simp [intOf]; omega
      · obtain rfl : n = k := by omega
        obtain ⟨gp, cp, rfl, _, _⟩ := own_some' hown (by omega)
        have HP := Lib.hid hown
        have hgp := own_at hown (b := gp) rfl
        have bW := b2.trans (hb.mono (by omega))
        clear hown
        go_wp2_with fail
        generalize wr = W1 at *
        clear wr
        go_loopw [7, 8] (fun v i W => ∃ k : Nat, k ≤ n ∧ i = .int .i64 k ∧ W.ownsRow W1.heap.size 40 4 v (cntK xs n k) (ints (deadK xs n k)) ∧ Below W1.heap.size W1 W) (fun _ i _ => n - (intOf i).toNat)
        case atStart =>
          refine ⟨0, Nat.zero_le _, rfl, ?_, (Below.refl _ _).alloc (Nat.le_refl _) _⟩
          exact World.ownsRow_lit (base := W1.heap.size) (e := 40) (size := 4) W1 #[] 0 (Nat.le_refl _) (Nat.zero_le _) rfl
        case round =>
          obtain ⟨k, hk, rfl, hown, hbw⟩ := hrel
          have hsw := hbw.size
          by_cases hlt2 : k < n
          · have hcn := cntK_le xs n k
            have hbA : Below w2.heap.size w2 wr := hb.trans (hbw.mono hb.size)
            have HKE := Lib.hid (l9Keeps_ (HS.out.later (b2.trans (hbA.mono (by omega)))) HR.out hlt2 (own_below O2.out hbA))
            obtain ⟨A7, c7, rfl⟩ := own_slc' hown
            go_wp2_with fail
            refine HKE.out.mono ?_
            rintro e w4 ⟨rfl, hb4⟩
            have hbw4 := hbw.trans (hb4.mono hsw)
            have hown4 := own_below hown hb4
            have hz4 := hb4.size
            have hP4 := own_below (own_below HP.out hbw) hb4
            clear HKE hown hb4 hbA
            cases hkp : keepB xs n k
            · have HD := Lib.hid (show cntK xs n (k + 1) = cntK xs n k ∧ deadK xs n (k + 1) = deadK xs n k from ⟨by rw [cntK, hkp]; rfl, by rw [deadK, hkp]; rfl⟩)
              have HO4 := Lib.hid hown4
              clear hkp hown4 hP4
              go_wp2_with fail
              go_roundw
              case rel => exact ⟨k + 1, by omega, by go_num, by rw [HD.out.1, HD.out.2]; exact HO4.out, hbw4⟩
              case measure => simp [intOf]; omega
            · have HD := Lib.hid (show cntK xs n (k + 1) = cntK xs n k + 1 ∧ ints (deadK xs n (k + 1)) = ints (deadK xs n k) ++ ints (insL xs k (deadT xs n k)) from ⟨by rw [cntK, hkp]; rfl, by rw [deadK, if_pos hkp, ints_app]⟩)
              obtain ⟨c0, c1, c2, c3⟩ := (HS.out.later (bW.trans (hbw4.mono bW.size))).four k hlt2
              have h0 : xs.getD (k * 4) 0 = opC xs k := rfl
              have h1 : xs.getD (k * 4 + 1) 0 = aC xs k := rfl
              have h2 : xs.getD (k * 4 + 2) 0 = bC xs k := rfl
              have h3 : xs.getD (k * 4 + 3) 0 = toC xs k := rfl
              rw [h0] at c0
              rw [h1] at c1
              rw [h2] at c2
              rw [h3] at c3
              have HO4 := Lib.hid hown4
              clear hown4 h0 h1 h2 h3 hkp
              cases hT : isT xs k
              · have hdT : deadT xs n k = toC xs k := by unfold deadT; rw [hT]; rfl
                have hne : opC xs k ≠ 6 ∧ opC xs k ≠ 7 := by unfold isT at hT; have := of_decide_eq_false hT; omega
                have e6 : (opC xs k == 6) = false := by simpa using hne.1
                have e7 : (opC xs k == 7) = false := by simpa using hne.2
                have HIL := Lib.hid (show ints (insL xs k (deadT xs n k)) = [.int .i64 (opC xs k), .int .i64 (aC xs k), .int .i64 (bC xs k), .int .i64 (toC xs k)] from by rw [hdT]; rfl)
                clear hdT hne hP4
                generalize opC xs k = o at *
                generalize aC xs k = x1 at *
                generalize bC xs k = x2 at *
                generalize toC xs k = t at *
                obtain ⟨V1, hV1⟩ : ∃ V1, w4.alloc (.cells #[.int .i64 o, .int .i64 x1, .int .i64 x2, .int .i64 t] 40) = V1 := ⟨_, rfl⟩
                have q1 := World.alloc_heap_new w4 (.cells #[.int .i64 o, .int .i64 x1, .int .i64 x2, .int .i64 t] 40)
                have zV := World.size_alloc w4 (.cells #[.int .i64 o, .int .i64 x1, .int .i64 x2, .int .i64 t] 40)
                have HOV := Lib.hid (HO4.out.alloc (.cells #[.int .i64 o, .int .i64 x1, .int .i64 x2, .int .i64 t] 40))
                have hbV := hbw4.alloc hbw4.size (.cells #[.int .i64 o, .int .i64 x1, .int .i64 x2, .int .i64 t] 40)
                rw [hV1] at q1 zV HOV hbV
                have d0 : V1.cell? ⟨w4.heap.size, 0, none⟩ = some (.int .i64 o) := by simp [World.cell?, q1]
                have d1 : V1.cell? ⟨w4.heap.size, 1, none⟩ = some (.int .i64 x1) := by simp [World.cell?, q1]
                have d2 : V1.cell? ⟨w4.heap.size, 2, none⟩ = some (.int .i64 x2) := by simp [World.cell?, q1]
                have d3 : V1.cell? ⟨w4.heap.size, 3, none⟩ = some (.int .i64 t) := by simp [World.cell?, q1]
                clear q1
                go_wp2_with (first | (at_builtin; refine wpList_append_at _ rfl _ _ 25 rfl W1.heap.size 40 i0 (.agg #[.int .i64 0, .int .i64 0, .int .i64 0, .int .i64 0]) 4 32 Try.underlying25 hi hz0 hz1 hz2 rfl (by decide) _ _ _ rfl (HOV.out.alloc _) ⟨w4.heap.size + 1, 0, none⟩ 1 1 [.int .i64 o, .int .i64 x1, .int .i64 x2, .int .i64 t] rfl rfl ?c1 ?c2 ?c3 ?c4 ?c5 (by decide) ?_) | fail)
                case c1 =>
                  intro j u hj
                  have q := World.alloc_heap_new V1 (.cells #[.int .i64 o, .int .i64 x1, .int .i64 x2, .int .i64 t] 40)
                  rw [zV] at q
                  exact four_cells q j u hj
                case c2 => intro u hu; simp at hu; rcases hu with rfl | rfl | rfl | rfl <;> rfl
                case c3 => unfold maxLen; omega
                case c4 => omega
                case c5 => simp; omega
                intro v' w7 hown' hgrow _
                have hbw7 : Below W1.heap.size W1 w7 := (hbV.alloc hbV.size _).grown hgrow (by simp; omega) (fun b hb' => (own_at HOV.out hb').1)
                rw [← HIL.out, ← HD.out.2, ← HD.out.1] at hown'
                have HO7 := Lib.hid hown'
                obtain ⟨A8, c8, rfl⟩ := own_slc' hown'
                clear hown' hgrow HOV d0 d1 d2 d3 c0 c1 c2 c3 HIL
                have HC1 := Lib.hid HD.out.1
                rw [HC1.out] at HO7
                go_wp2_with fail
                go_roundw
                case rel => exact ⟨k + 1, by omega, by go_num, by rw [HC1.out]; exact HO7.out, hbw7⟩
                case measure => simp [intOf]; omega
              · have h67 : opC xs k = 6 ∨ opC xs k = 7 := by unfold isT at hT; exact of_decide_eq_true hT
                have hto := insB_to (HR.out.ins k hlt2) h67
                obtain ⟨t, ht⟩ : ∃ t : Nat, toC xs k = (t : Int) := ⟨(toC xs k).toNat, by omega⟩
                have hdT : deadT xs n k = (cntK xs n t : Nat) := by unfold deadT; rw [if_pos hT, ht]; rfl
                have HIL := Lib.hid (show ints (insL xs k (deadT xs n k)) = [.int .i64 (opC xs k), .int .i64 (aC xs k), .int .i64 (bC xs k), .int .i64 (cntK xs n t : Nat)] from by rw [hdT]; rfl)
                rw [ht] at c3 hto
                clear hdT ht hT
                have hpt := placeL_get (xs := xs) (n := n) (k := n) (i := t) (by omega)
                have hpl := placeL_len xs n n
                generalize opC xs k = o at *
                generalize aC xs k = x1 at *
                generalize bC xs k = x2 at *
                obtain ⟨V1, hV1⟩ : ∃ V1, w4.alloc (.cells #[.int .i64 o, .int .i64 x1, .int .i64 x2, .int .i64 (t : Int)] 40) = V1 := ⟨_, rfl⟩
                have q1 := World.alloc_heap_new w4 (.cells #[.int .i64 o, .int .i64 x1, .int .i64 x2, .int .i64 (t : Int)] 40)
                have zV := World.size_alloc w4 (.cells #[.int .i64 o, .int .i64 x1, .int .i64 x2, .int .i64 (t : Int)] 40)
                have hoV := HO4.out.alloc (.cells #[.int .i64 o, .int .i64 x1, .int .i64 x2, .int .i64 (t : Int)] 40)
                have hpV := hP4.alloc (.cells #[.int .i64 o, .int .i64 x1, .int .i64 x2, .int .i64 (t : Int)] 40)
                have hbV := hbw4.alloc hbw4.size (.cells #[.int .i64 o, .int .i64 x1, .int .i64 x2, .int .i64 (t : Int)] 40)
                rw [hV1] at q1 zV hoV hpV hbV
                have d0 : V1.cell? ⟨w4.heap.size, 0, none⟩ = some (.int .i64 o) := by simp [World.cell?, q1]
                have d3 : V1.cell? ⟨w4.heap.size, 3, none⟩ = some (.int .i64 (t : Int)) := by simp [World.cell?, q1]
                have f3 : V1.frozen? ⟨w4.heap.size, 3, none⟩ = false := by simp [World.frozen?, q1]
                have cpt := hpV.cellAt t (by omega)
                rw [ints_get (by omega), hpt] at cpt
                generalize cntK xs n t = ct at *
                have q2 := rowSet (i := 3) q1 (.int .i64 (ct : Int))
                obtain ⟨V2, hV2⟩ : ∃ V2, V1.setCell ⟨w4.heap.size, 3, none⟩ (.int .i64 (ct : Int)) = V2 := ⟨_, rfl⟩
                have zV2 : V2.heap.size = w4.heap.size + 1 := by rw [← hV2]; simp [zV]
                have hb2V := hbV.setCell (p := ⟨w4.heap.size, 3, none⟩) hbw4.size (.int .i64 (ct : Int))
                have ho2V := hoV.kept (grownSet V1 ⟨w4.heap.size, 3, none⟩ (.int .i64 (ct : Int))) (.inr (fun e => by have := (own_at HO4.out (b := w4.heap.size) e).2; omega))
                rw [hV2] at q2 hb2V ho2V
                have q2' : V2.heap[w4.heap.size]? = some (.cells #[.int .i64 o, .int .i64 x1, .int .i64 x2, .int .i64 (ct : Int)] 40 (0, 0)) := q2
                have g0 : V2.cell? ⟨w4.heap.size, 0, none⟩ = some (.int .i64 o) := by simp [World.cell?, q2']
                have g1 : V2.cell? ⟨w4.heap.size, 1, none⟩ = some (.int .i64 x1) := by simp [World.cell?, q2']
                have g2 : V2.cell? ⟨w4.heap.size, 2, none⟩ = some (.int .i64 x2) := by simp [World.cell?, q2']
                have g3 : V2.cell? ⟨w4.heap.size, 3, none⟩ = some (.int .i64 (ct : Int)) := by simp [World.cell?, q2']
                have HOV := Lib.hid ho2V
                clear q1 q2 q2' hoV hpV ho2V hP4 hpt hpl
                have he : (o == 7) = true ∨ ((o == 7) = false ∧ (o == 6) = true) := by
                  rcases h67 with h | h
                  · right; rw [h]; exact ⟨rfl, rfl⟩
                  · left; rw [h]; rfl
                clear h67
                rcases he with e7 | ⟨e7, e6⟩
                all_goals
                  go_wp2_with (first | (at_builtin; refine wpList_append_at _ rfl _ _ 25 rfl W1.heap.size 40 i0 (.agg #[.int .i64 0, .int .i64 0, .int .i64 0, .int .i64 0]) 4 32 Try.underlying25 hi hz0 hz1 hz2 rfl (by decide) _ _ _ rfl (HOV.out.alloc _) ⟨w4.heap.size + 1, 0, none⟩ 1 1 [.int .i64 o, .int .i64 x1, .int .i64 x2, .int .i64 (ct : Int)] rfl rfl ?c1 ?c2 ?c3 ?c4 ?c5 (by decide) ?_) | fail)
                  case c1 =>
                    intro j u hj
                    have q := World.alloc_heap_new V2 (.cells #[.int .i64 o, .int .i64 x1, .int .i64 x2, .int .i64 (ct : Int)] 40)
                    rw [zV2] at q
                    exact four_cells q j u hj
                  case c2 => intro u hu; simp at hu; rcases hu with rfl | rfl | rfl | rfl <;> rfl
                  case c3 => unfold maxLen; omega
                  case c4 => omega
                  case c5 => simp; omega
                  intro v' w7 hown' hgrow _
                  have hbw7 : Below W1.heap.size W1 w7 := (hb2V.alloc hb2V.size _).grown hgrow (by simp; omega) (fun b hb' => (own_at HOV.out hb').1)
                  rw [← HIL.out, ← HD.out.2, ← HD.out.1] at hown'
                  have HO7 := Lib.hid hown'
                  obtain ⟨A8, c8, rfl⟩ := own_slc' hown'
                  clear hown' hgrow HOV d0 d3 f3 cpt c0 c1 c2 c3 HIL g0 g1 g2 g3
                  have HC1 := Lib.hid HD.out.1
                  rw [HC1.out] at HO7
                  go_wp2_with fail
                  go_roundw
                  case rel => exact ⟨k + 1, by omega, by go_num, by rw [HC1.out]; exact HO7.out, hbw7⟩
                  case measure => simp [intOf]; omega
          · obtain rfl : n = k := by omega
            obtain ⟨A7, c7, rfl⟩ := own_slc' hown
            have HO := Lib.hid (own_mono hown bW.size)
            have hbF := bW.trans (hbw.mono bW.size)
            clear hown
            go_wp2_with fail
            go_ret
            exact ⟨_, rfl, HO.out, hbF⟩
end Go.Proofs.Ytogpfagdpkjmmaa
