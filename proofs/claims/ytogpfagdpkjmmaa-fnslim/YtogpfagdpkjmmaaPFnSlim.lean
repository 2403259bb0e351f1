/- PROVED: laws.FnSlim returns true for every input, and its arguments read as before. No condition. -/
import Derived.Test.YtogpfagdpkjmmaaSlimDeadI
import Derived.Test.YtogpfagdpkjmmaaSlimJumpsI
import Derived.Test.YtogpfagdpkjmmaaSlimReach
import Derived.Test.YtogpfagdpkjmmaaIns
import Derived.Laws.StructEq
import Derived.Test.YtogpfagdpkjmmaaDeadP
import Derived.Test.YtogpfagdpkjmmaaBent9
import Derived.Test.YtogpfagdpkjmmaaRows
import Derived.WalkKit
import Derived.ProofKit
import Derived.OpenShut
import Derived.Below
import Derived.Carry
import Derived.Test.YtogpfagdpkjmmaaOpen
/- SlimDead, of the program and of the model. -/
namespace Go.Proofs.Ytogpfagdpkjmmaa
open Go.ChangeShapes Go.WideShapes Go.ChangeAt Go.RowKit

set_option maxRecDepth 100000 in
theorem implSlimDead {xs : List Int} {A : Option Addr} {n c : Nat} {S : Nat → Prop} {w : World} (hs : Fl w S 4 xs A n c) :
    Calls Try.prog 29 #[.slice A n c] w fun e w' => ∃ v, e = .returned v ∧ w'.ownsRow w.heap.size 40 4 v (deadN xs n) (ints (deadR xs n)) ∧ Below w.heap.size w w' := by
  cases hc : codeB xs n
  · have hco := codeOk hs
    rw [hc] at hco
    have HC := Lib.hid hco
    rw [show deadR xs n = [] from by unfold deadR; rw [hc]; rfl, show deadN xs n = 0 from by unfold deadN; rw [hc]; rfl]
    clear hco hc
    go_enter Try.func29, Try.ntmps29
    go_wp2_with fail
    refine HC.out.mono ?_
    rintro e w1 ⟨rfl, hb⟩
    go_wp2_with fail
    go_ret
    exact ⟨_, rfl, World.ownsRow_nil _ _ _ _, hb⟩
  · have h := (callsIn_wide (n := 6)).1 (slimDeadR hs (codeB_true hs.len hc) hc)
    rw [show deadR xs n = deadK xs n n from by unfold deadR; rw [if_pos hc], show deadN xs n = cntK xs n n from by unfold deadN; rw [if_pos hc]]
    exact h

theorem rowSet {w : World} {b i : Nat} {vs : Array Value} {t : TypeId} (h : w.heap[b]? = some (.cells vs t (0, 0))) (v : Value) : (w.setCell ⟨b, i, none⟩ v).heap[b]? = some (.cells (vs.setIfInBounds i v) t (0, 0)) := by
  simp [World.setCell, Array.getElem?_modify, h]
theorem four_cells {w : World} {b : Nat} {x y z u : Value} {t : TypeId} (h : w.heap[b]? = some (.cells #[x, y, z, u] t (0, 0))) : ∀ j v, [x, y, z, u][j]? = some v → w.cell? ((⟨b, 0, none⟩ : Addr).add j) = some v := by
  intro j v hj
  match j, hj with
  | 0, hj => simp at hj; subst hj; simp [World.cell?, h, Addr.add]
  | 1, hj => simp at hj; subst hj; simp [World.cell?, h, Addr.add]
  | 2, hj => simp at hj; subst hj; simp [World.cell?, h, Addr.add]
  | 3, hj => simp at hj; subst hj; simp [World.cell?, h, Addr.add]
  | (j + 4), hj => simp at hj

/-- How many are kept ahead of each of the first k. -/
noncomputable def placeL (xs : List Int) (n k : Nat) : List Int := (List.range k).map fun i => ((cntK xs n i : Nat) : Int)
theorem placeL_succ (xs : List Int) (n k : Nat) : ints (placeL xs n (k + 1)) = ints (placeL xs n k) ++ [.int .i64 (cntK xs n k : Nat)] := by
  unfold placeL
  rw [List.range_succ, List.map_append, ints_app]; rfl
theorem placeL_get {xs : List Int} {n k i : Nat} (h : i < k) : (placeL xs n k).getD i 0 = (cntK xs n i : Nat) := by
  simp [placeL, List.getD, h]
theorem placeL_len (xs : List Int) (n k : Nat) : (placeL xs n k).length = k := by simp [placeL]

set_option maxRecDepth 100000 in
set_option maxHeartbeats 8000000 in
theorem specSlimDead {xs : List Int} {A : Option Addr} {n c : Nat} {S : Nat → Prop} {w : World} (hs : Fl w S 4 xs A n c) :
    Calls Try.prog 28 #[.slice A n c] w fun e w' => ∃ v, e = .returned v ∧ w'.ownsRow w.heap.size 40 4 v (deadN xs n) (ints (deadR xs n)) ∧ Below w.heap.size w w' := by
  cases hc : codeB xs n
  · have hco := specCodeOk hs
    rw [hc] at hco
    have HC := Lib.hid hco
    rw [show deadR xs n = [] from by unfold deadR; rw [hc]; rfl, show deadN xs n = 0 from by unfold deadN; rw [hc]; rfl]
    clear hco hc
    go_enter Try.func28, Try.ntmps28
    go_wp2_with fail
    refine HC.out.mono ?_
    rintro e w1 ⟨rfl, hb⟩
    go_wp2_with fail
    go_ret
    have z1 := hb.size
    exact ⟨_, rfl, World.ownsRow_lit (base := w.heap.size) (e := 40) (size := 4) w1 #[] 0 z1 (Nat.zero_le _) rfl, hb.alloc z1 _⟩
  · have hr := codeB_true hs.len hc
    have hn60 := hr.hi
    have hn1 := hr.lo
    have hlen := hs.len
    obtain ⟨a, rfl⟩ := hs.some (by omega)
    obtain ⟨i0, hi, hz0, hz1, hz2⟩ := info_parts infoIns
    obtain ⟨j0, hj, jz0, jz1, jz2⟩ := info_parts infoInt
    have hco := specCodeOk hs
    rw [hc] at hco
    have HC := Lib.hid hco
    have HR := Lib.hid hr
    have HS := Lib.hid hs
    have HL := Lib.hid (fun (W : World) (h : Below w.heap.size w W) => l9Reach_ (hs.later h) hr hc)
    rw [show deadR xs n = deadK xs n n from by unfold deadR; rw [if_pos hc], show deadN xs n = cntK xs n n from by unfold deadN; rw [if_pos hc]]
    clear hco hc hs hr
    go_enter Try.func28, Try.ntmps28
    go_wp2_with fail
    refine HC.out.mono ?_
    rintro e w1 ⟨rfl, hb1⟩
    have z1 := hb1.size
    go_wp2_with fail
    refine (HL.out w1 hb1).mono ?_
    rintro e w2 ⟨v2, rfl, o2, hb2⟩
    have z2 := hb2.size
    obtain ⟨gr, cr, rfl, _, _⟩ := own_some' o2 (by omega)
    have b2 := hb1.trans (hb2.mono z1)
    have O2 := Lib.hid o2
    clear HC HL o2 hb2
    go_wp2_with fail
    go_loopw [4, 5, 6] (fun v q i wr => ∃ k : Nat, k ≤ n ∧ i = .int .i64 k ∧ q = .int .i64 (cntK xs n k : Nat) ∧ wr.ownsRow w2.heap.size 3 1 v k (ints (placeL xs n k)) ∧ Below w2.heap.size w2 wr) (fun _ _ i _ => n - (intOf i).toNat)
    case atStart =>
      refine ⟨0, Nat.zero_le _, rfl, rfl, ?_, (Below.refl _ _).alloc (Nat.le_refl _) _⟩
      exact World.ownsRow_lit (base := w2.heap.size) (e := 3) (size := 1) w2 #[] 0 (Nat.le_refl _) (Nat.zero_le _) rfl
    case round =>
      obtain ⟨k, hk, rfl, rfl, hown, hb⟩ := hrel
      have hsz := hb.size
      have hcnt := cntK_le xs n k
      by_cases hlt : k < n
      · have HPL := Lib.hid (placeL_succ xs n k)
        have HKE := Lib.hid (fun (W : World) (h : Below w2.heap.size w2 W) => l9Keeps_ (HS.out.later (b2.trans (h.mono (by omega)))) HR.out hlt (own_below O2.out h))
        have HCN := Lib.hid (show cntK xs n (k + 1) = cntK xs n k + if keepB xs n k = true then 1 else 0 from rfl)
        go_wp2_with (first | (at_builtin; refine wpList_append_at _ rfl _ _ 43 rfl w2.heap.size 3 j0 (.int .i64 0) 1 8 Try.underlying43 hj jz0 jz1 jz2 rfl (by decide) _ _ _ rfl (hown.alloc _) ⟨wr.heap.size, 0, none⟩ 1 1 [.int .i64 (cntK xs n k : Nat)] rfl rfl ?c1 ?c2 ?c3 ?c4 ?c5 (by decide) ?_) | fail)
        case c1 =>
          intro j u hj
          match j, hj with
          | 0, hj => simp at hj; subst hj; simp [Addr.add]
        case c2 => intro u hu; simp at hu; subst hu; rfl
        case c3 => unfold maxLen; omega
        case c4 => omega
        case c5 => simp; omega
        intro v' w3 hown' hgrow _
        have hbw : Below w2.heap.size w2 w3 := (hb.alloc hsz _).grown hgrow (by simp; omega) (fun b hb' => (own_at hown hb').1)
        rw [← HPL.out] at hown'
        have HO := Lib.hid hown'
        clear hown' hown hgrow HPL
        go_wp2_with fail
        refine (HKE.out w3 hbw).mono ?_
        rintro e w4 ⟨rfl, hb4⟩
        have hbw4 := hbw.trans (hb4.mono hbw.size)
        have HO4 := Lib.hid (own_below HO.out hb4)
        clear HKE HO hb4
        cases hkp : keepB xs n k
        · have HC1 := Lib.hid (show cntK xs n (k + 1) = cntK xs n k from by rw [HCN.out, hkp]; rfl)
          clear HCN hkp
          go_wp2_with fail
          go_roundw
          case rel => exact ⟨k + 1, by omega, by go_num, by rw [HC1.out], HO4.out, hbw4⟩
          case measure => simp [intOf]; omega
        · have HC1 := Lib.hid (show cntK xs n (k + 1) = cntK xs n k + 1 from by rw [HCN.out, hkp]; rfl)
          clear HCN hkp
          generalize cntK xs n k = q at *
          go_wp2_with fail
          go_roundw
          case rel => exact ⟨k + 1, by omega, by go_num, by rw [HC1.out]; go_num, HO4.out, hbw4⟩
          case measure => simp [intOf]; omega
      · obtain rfl : n = k := by omega
        obtain ⟨gp, cp, rfl, _, _⟩ := own_some' hown (by omega)
        have HP := Lib.hid hown
        have hgp := own_at hown (b := gp) rfl
        have bW := b2.trans (hb.mono (by omega))
        clear hown
        go_wp2_with fail
        generalize wr = W1 at *
        clear wr
        go_loopw [7, 8] (fun v i W => ∃ k : Nat, k ≤ n ∧ i = .int .i64 k ∧ W.ownsRow W1.heap.size 40 4 v (cntK xs n k) (ints (deadK xs n k)) ∧ Below W1.heap.size W1 W) (fun _ i _ => n - (intOf i).toNat)
        case atStart =>
          refine ⟨0, Nat.zero_le _, rfl, ?_, (Below.refl _ _).alloc (Nat.le_refl _) _⟩
          exact World.ownsRow_lit (base := W1.heap.size) (e := 40) (size := 4) W1 #[] 0 (Nat.le_refl _) (Nat.zero_le _) rfl
        case round =>
          obtain ⟨k, hk, rfl, hown, hbw⟩ := hrel
          have hsw := hbw.size
          by_cases hlt2 : k < n
          · have hcn := cntK_le xs n k
            have hbA : Below w2.heap.size w2 wr := hb.trans (hbw.mono hb.size)
            have HKE := Lib.hid (l9Keeps_ (HS.out.later (b2.trans (hbA.mono (by omega)))) HR.out hlt2 (own_below O2.out hbA))
            obtain ⟨A7, c7, rfl⟩ := own_slc' hown
            go_wp2_with fail
            refine HKE.out.mono ?_
            rintro e w4 ⟨rfl, hb4⟩
            have hbw4 := hbw.trans (hb4.mono hsw)
            have hown4 := own_below hown hb4
            have hz4 := hb4.size
            have hP4 := own_below (own_below HP.out hbw) hb4
            clear HKE hown hb4 hbA
            cases hkp : keepB xs n k
            · have HD := Lib.hid (show cntK xs n (k + 1) = cntK xs n k ∧ deadK xs n (k + 1) = deadK xs n k from ⟨by rw [cntK, hkp]; rfl, by rw [deadK, hkp]; rfl⟩)
              have HO4 := Lib.hid hown4
              clear hkp hown4 hP4
              go_wp2_with fail
              go_roundw
              case rel => exact ⟨k + 1, by omega, by go_num, by rw [HD.out.1, HD.out.2]; exact HO4.out, hbw4⟩
              case measure => simp [intOf]; omega
            · have HD := Lib.hid (show cntK xs n (k + 1) = cntK xs n k + 1 ∧ ints (deadK xs n (k + 1)) = ints (deadK xs n k) ++ ints (insL xs k (deadT xs n k)) from ⟨by rw [cntK, hkp]; rfl, by rw [deadK, if_pos hkp, ints_app]⟩)
              obtain ⟨c0, c1, c2, c3⟩ := (HS.out.later (bW.trans (hbw4.mono bW.size))).four k hlt2
              have h0 : xs.getD (k * 4) 0 = opC xs k := rfl
              have h1 : xs.getD (k * 4 + 1) 0 = aC xs k := rfl
              have h2 : xs.getD (k * 4 + 2) 0 = bC xs k := rfl
              have h3 : xs.getD (k * 4 + 3) 0 = toC xs k := rfl
              rw [h0] at c0
              rw [h1] at c1
              rw [h2] at c2
              rw [h3] at c3
              have HO4 := Lib.hid hown4
              clear hown4 h0 h1 h2 h3 hkp
              cases hT : isT xs k
              · have hdT : deadT xs n k = toC xs k := by unfold deadT; rw [hT]; rfl
                have hne : opC xs k ≠ 6 ∧ opC xs k ≠ 7 := by unfold isT at hT; have := of_decide_eq_false hT; omega
                have e6 : (opC xs k == 6) = false := by simpa using hne.1
                have e7 : (opC xs k == 7) = false := by simpa using hne.2
                have HIL := Lib.hid (show ints (insL xs k (deadT xs n k)) = [.int .i64 (opC xs k), .int .i64 (aC xs k), .int .i64 (bC xs k), .int .i64 (toC xs k)] from by rw [hdT]; rfl)
                clear hdT hne hP4
                generalize opC xs k = o at *
                generalize aC xs k = x1 at *
                generalize bC xs k = x2 at *
                generalize toC xs k = t at *
                obtain ⟨V1, hV1⟩ : ∃ V1, w4.alloc (.cells #[.int .i64 o, .int .i64 x1, .int .i64 x2, .int .i64 t] 40) = V1 := ⟨_, rfl⟩
                have q1 := World.alloc_heap_new w4 (.cells #[.int .i64 o, .int .i64 x1, .int .i64 x2, .int .i64 t] 40)
                have zV := World.size_alloc w4 (.cells #[.int .i64 o, .int .i64 x1, .int .i64 x2, .int .i64 t] 40)
                have HOV := Lib.hid (HO4.out.alloc (.cells #[.int .i64 o, .int .i64 x1, .int .i64 x2, .int .i64 t] 40))
                have hbV := hbw4.alloc hbw4.size (.cells #[.int .i64 o, .int .i64 x1, .int .i64 x2, .int .i64 t] 40)
                rw [hV1] at q1 zV HOV hbV
                have d0 : V1.cell? ⟨w4.heap.size, 0, none⟩ = some (.int .i64 o) := by simp [World.cell?, q1]
                have d1 : V1.cell? ⟨w4.heap.size, 1, none⟩ = some (.int .i64 x1) := by simp [World.cell?, q1]
                have d2 : V1.cell? ⟨w4.heap.size, 2, none⟩ = some (.int .i64 x2) := by simp [World.cell?, q1]
                have d3 : V1.cell? ⟨w4.heap.size, 3, none⟩ = some (.int .i64 t) := by simp [World.cell?, q1]
                clear q1
                go_wp2_with (first | (at_builtin; refine wpList_append_at _ rfl _ _ 25 rfl W1.heap.size 40 i0 (.agg #[.int .i64 0, .int .i64 0, .int .i64 0, .int .i64 0]) 4 32 Try.underlying25 hi hz0 hz1 hz2 rfl (by decide) _ _ _ rfl (HOV.out.alloc _) ⟨w4.heap.size + 1, 0, none⟩ 1 1 [.int .i64 o, .int .i64 x1, .int .i64 x2, .int .i64 t] rfl rfl ?c1 ?c2 ?c3 ?c4 ?c5 (by decide) ?_) | fail)
                case c1 =>
                  intro j u hj
                  have q := World.alloc_heap_new V1 (.cells #[.int .i64 o, .int .i64 x1, .int .i64 x2, .int .i64 t] 40)
                  rw [zV] at q
                  exact four_cells q j u hj
                case c2 => intro u hu; simp at hu; rcases hu with rfl | rfl | rfl | rfl <;> rfl
                case c3 => unfold maxLen; omega
                case c4 => omega
                case c5 => simp; omega
                intro v' w7 hown' hgrow _
                have hbw7 : Below W1.heap.size W1 w7 := (hbV.alloc hbV.size _).grown hgrow (by simp; omega) (fun b hb' => (own_at HOV.out hb').1)
                rw [← HIL.out, ← HD.out.2, ← HD.out.1] at hown'
                have HO7 := Lib.hid hown'
                obtain ⟨A8, c8, rfl⟩ := own_slc' hown'
                clear hown' hgrow HOV d0 d1 d2 d3 c0 c1 c2 c3 HIL
                have HC1 := Lib.hid HD.out.1
                rw [HC1.out] at HO7
                go_wp2_with fail
                go_roundw
                case rel => exact ⟨k + 1, by omega, by go_num, by rw [HC1.out]; exact HO7.out, hbw7⟩
                case measure => simp [intOf]; omega
              · have h67 : opC xs k = 6 ∨ opC xs k = 7 := by unfold isT at hT; exact of_decide_eq_true hT
                have hto := insB_to (HR.out.ins k hlt2) h67
                obtain ⟨t, ht⟩ : ∃ t : Nat, toC xs k = (t : Int) := ⟨(toC xs k).toNat, by omega⟩
                have hdT : deadT xs n k = (cntK xs n t : Nat) := by unfold deadT; rw [if_pos hT, ht]; rfl
                have HIL := Lib.hid (show ints (insL xs k (deadT xs n k)) = [.int .i64 (opC xs k), .int .i64 (aC xs k), .int .i64 (bC xs k), .int .i64 (cntK xs n t : Nat)] from by rw [hdT]; rfl)
                rw [ht] at c3 hto
                clear hdT ht hT
                have hpt := placeL_get (xs := xs) (n := n) (k := n) (i := t) (by omega)
                have hpl := placeL_len xs n n
                generalize opC xs k = o at *
                generalize aC xs k = x1 at *
                generalize bC xs k = x2 at *
                obtain ⟨V1, hV1⟩ : ∃ V1, w4.alloc (.cells #[.int .i64 o, .int .i64 x1, .int .i64 x2, .int .i64 (t : Int)] 40) = V1 := ⟨_, rfl⟩
                have q1 := World.alloc_heap_new w4 (.cells #[.int .i64 o, .int .i64 x1, .int .i64 x2, .int .i64 (t : Int)] 40)
                have zV := World.size_alloc w4 (.cells #[.int .i64 o, .int .i64 x1, .int .i64 x2, .int .i64 (t : Int)] 40)
                have hoV := HO4.out.alloc (.cells #[.int .i64 o, .int .i64 x1, .int .i64 x2, .int .i64 (t : Int)] 40)
                have hpV := hP4.alloc (.cells #[.int .i64 o, .int .i64 x1, .int .i64 x2, .int .i64 (t : Int)] 40)
                have hbV := hbw4.alloc hbw4.size (.cells #[.int .i64 o, .int .i64 x1, .int .i64 x2, .int .i64 (t : Int)] 40)
                rw [hV1] at q1 zV hoV hpV hbV
                have d0 : V1.cell? ⟨w4.heap.size, 0, none⟩ = some (.int .i64 o) := by simp [World.cell?, q1]
                have d3 : V1.cell? ⟨w4.heap.size, 3, none⟩ = some (.int .i64 (t : Int)) := by simp [World.cell?, q1]
                have f3 : V1.frozen? ⟨w4.heap.size, 3, none⟩ = false := by simp [World.frozen?, q1]
                have cpt := hpV.cellAt t (by omega)
                rw [ints_get (by omega), hpt] at cpt
                generalize cntK xs n t = ct at *
                have q2 := rowSet (i := 3) q1 (.int .i64 (ct : Int))
                obtain ⟨V2, hV2⟩ : ∃ V2, V1.setCell ⟨w4.heap.size, 3, none⟩ (.int .i64 (ct : Int)) = V2 := ⟨_, rfl⟩
                have zV2 : V2.heap.size = w4.heap.size + 1 := by rw [← hV2]; simp [zV]
                have hb2V := hbV.setCell (p := ⟨w4.heap.size, 3, none⟩) hbw4.size (.int .i64 (ct : Int))
                have ho2V := hoV.kept (grownSet V1 ⟨w4.heap.size, 3, none⟩ (.int .i64 (ct : Int))) (.inr (fun e => by have := (own_at HO4.out (b := w4.heap.size) e).2; omega))
                rw [hV2] at q2 hb2V ho2V
                have q2' : V2.heap[w4.heap.size]? = some (.cells #[.int .i64 o, .int .i64 x1, .int .i64 x2, .int .i64 (ct : Int)] 40 (0, 0)) := q2
                have g0 : V2.cell? ⟨w4.heap.size, 0, none⟩ = some (.int .i64 o) := by simp [World.cell?, q2']
                have g1 : V2.cell? ⟨w4.heap.size, 1, none⟩ = some (.int .i64 x1) := by simp [World.cell?, q2']
                have g2 : V2.cell? ⟨w4.heap.size, 2, none⟩ = some (.int .i64 x2) := by simp [World.cell?, q2']
                have g3 : V2.cell? ⟨w4.heap.size, 3, none⟩ = some (.int .i64 (ct : Int)) := by simp [World.cell?, q2']
                have HOV := Lib.hid ho2V
                clear q1 q2 q2' hoV hpV ho2V hP4 hpt hpl
                have he : (o == 7) = true ∨ ((o == 7) = false ∧ (o == 6) = true) := by
                  rcases h67 with h | h
                  · right; rw [h]; exact ⟨rfl, rfl⟩
                  · left; rw [h]; rfl
                clear h67
                rcases he with e7 | ⟨e7, e6⟩
                all_goals
                  go_wp2_with (first | (at_builtin; refine wpList_append_at _ rfl _ _ 25 rfl W1.heap.size 40 i0 (.agg #[.int .i64 0, .int .i64 0, .int .i64 0, .int .i64 0]) 4 32 Try.underlying25 hi hz0 hz1 hz2 rfl (by decide) _ _ _ rfl (HOV.out.alloc _) ⟨w4.heap.size + 1, 0, none⟩ 1 1 [.int .i64 o, .int .i64 x1, .int .i64 x2, .int .i64 (ct : Int)] rfl rfl ?c1 ?c2 ?c3 ?c4 ?c5 (by decide) ?_) | fail)
                  case c1 =>
                    intro j u hj
                    have q := World.alloc_heap_new V2 (.cells #[.int .i64 o, .int .i64 x1, .int .i64 x2, .int .i64 (ct : Int)] 40)
                    rw [zV2] at q
                    exact four_cells q j u hj
                  case c2 => intro u hu; simp at hu; rcases hu with rfl | rfl | rfl | rfl <;> rfl
                  case c3 => unfold maxLen; omega
                  case c4 => omega
                  case c5 => simp; omega
                  intro v' w7 hown' hgrow _
                  have hbw7 : Below W1.heap.size W1 w7 := (hb2V.alloc hb2V.size _).grown hgrow (by simp; omega) (fun b hb' => (own_at HOV.out hb').1)
                  rw [← HIL.out, ← HD.out.2, ← HD.out.1] at hown'
                  have HO7 := Lib.hid hown'
                  obtain ⟨A8, c8, rfl⟩ := own_slc' hown'
                  clear hown' hgrow HOV d0 d3 f3 cpt c0 c1 c2 c3 HIL g0 g1 g2 g3
                  have HC1 := Lib.hid HD.out.1
                  rw [HC1.out] at HO7
                  go_wp2_with fail
                  go_roundw
                  case rel => exact ⟨k + 1, by omega, by go_num, by rw [HC1.out]; exact HO7.out, hbw7⟩
                  case measure => simp [intOf]; omega
          · obtain rfl : n = k := by omega
            obtain ⟨A7, c7, rfl⟩ := own_slc' hown
            have HO := Lib.hid (own_mono hown bW.size)
            have hbF := bW.trans (hbw.mono bW.size)
            clear hown
            go_wp2_with fail
            go_ret
            exact ⟨_, rfl, HO.out, hbF⟩
end Go.Proofs.Ytogpfagdpkjmmaa

/- SlimJumps, of the program and of the model. -/
namespace Go.Proofs.Ytogpfagdpkjmmaa
open Go.ChangeShapes Go.WideShapes Go.ChangeAt Go.RowKit

set_option maxRecDepth 100000 in
theorem implSlimJumps {xs : List Int} {A : Option Addr} {n c : Nat} {S : Nat → Prop} {w : World} (hs : Fl w S 4 xs A n c) :
    Calls Try.prog 26 #[.slice A n c] w fun e w' => ∃ v, e = .returned v ∧ w'.ownsRow w.heap.size 40 4 v (jumpsN xs n) (ints (jumpsR xs n)) ∧ Below w.heap.size w w' := by
  cases hc : codeB xs n
  · have hbA : Below w.heap.size w (w.alloc (.cells #[.slice A n c] 25)) := (Below.refl _ _).alloc (Nat.le_refl _) _
    have hco := codeOk (hs.later hbA)
    rw [hc] at hco
    have HC := Lib.hid hco
    rw [show jumpsR xs n = [] from by unfold jumpsR; rw [hc]; rfl, show jumpsN xs n = 0 from by unfold jumpsN; rw [hc]; rfl]
    clear hco hc
    go_enter Try.func26, Try.ntmps26
    go_wp2_with fail
    refine HC.out.mono ?_
    rintro e w1 ⟨rfl, hb⟩
    go_wp2_with fail
    go_ret
    exact ⟨_, rfl, World.ownsRow_nil _ _ _ _, hbA.trans (hb.mono (by simp))⟩
  · have h := (callsIn_wide (n := 6)).1 (slimJumpsR hs (codeB_true hs.len hc) hc)
    rw [show jumpsR xs n = turnK xs (jumpF xs n) n from by unfold jumpsR; rw [if_pos hc], show jumpsN xs n = n from by unfold jumpsN; rw [if_pos hc]]
    exact h

set_option maxRecDepth 100000 in
set_option maxHeartbeats 4000000 in
theorem specSlimJumps {xs : List Int} {A : Option Addr} {n c : Nat} {S : Nat → Prop} {w : World} (hs : Fl w S 4 xs A n c) :
    Calls Try.prog 25 #[.slice A n c] w fun e w' => ∃ v, e = .returned v ∧ w'.ownsRow w.heap.size 40 4 v (jumpsN xs n) (ints (jumpsR xs n)) ∧ Below w.heap.size w w' := by
  cases hc : codeB xs n
  · have hco := specCodeOk hs
    rw [hc] at hco
    have HC := Lib.hid hco
    rw [show jumpsR xs n = [] from by unfold jumpsR; rw [hc]; rfl, show jumpsN xs n = 0 from by unfold jumpsN; rw [hc]; rfl]
    clear hco hc
    go_enter Try.func25, Try.ntmps25
    go_wp2_with fail
    refine HC.out.mono ?_
    rintro e w1 ⟨rfl, hb⟩
    go_wp2_with fail
    go_ret
    have z1 := hb.size
    exact ⟨_, rfl, World.ownsRow_lit (base := w.heap.size) (e := 40) (size := 4) w1 #[] 0 z1 (Nat.zero_le _) rfl, hb.alloc z1 _⟩
  · have hr := codeB_true hs.len hc
    have hn60 := hr.hi
    have hn1 := hr.lo
    have hlen := hs.len
    obtain ⟨a, rfl⟩ := hs.some (by omega)
    obtain ⟨i0, hi, hz0, hz1, hz2⟩ := info_parts infoIns
    have hco := specCodeOk hs
    rw [hc] at hco
    have HC := Lib.hid hco
    have HR := Lib.hid hr
    have HS := Lib.hid hs
    have h1 := ints_one9 xs
    have hl : (ints xs).length = n * 4 := by rw [ints_len]; exact hlen
    rw [show jumpsR xs n = turnK xs (jumpF xs n) n from by unfold jumpsR; rw [if_pos hc], show jumpsN xs n = n from by unfold jumpsN; rw [if_pos hc]]
    clear hco hc hs hr
    go_enter Try.func25, Try.ntmps25
    go_wp2_with fail
    refine HC.out.mono ?_
    rintro e w1 ⟨rfl, hb⟩
    have z1 := hb.size
    have b0 : Below w1.heap.size w1 (w1.alloc (.cells #[] 40)) := (Below.refl _ _).alloc (Nat.le_refl _) _
    have hnil := World.ownsRow_lit (base := w1.heap.size) (e := 40) (size := 4) w1 #[] 0 (Nat.le_refl _) (Nat.zero_le _) rfl
    have hc2 := flNews ((HS.out.later hb).later b0)
    go_wp2_with (first | (at_builtin; refine wpList_append_own _ rfl _ _ 25 rfl w1.heap.size 40 i0 _ 4 32 Try.underlying25 hi hz0 hz1 hz2 rfl (by decide) _ 0 [] rfl hnil a n c (ints xs) rfl hl hc2 h1 ?c1 ?c2 b0.size ?_) | fail)
    case c1 => unfold maxLen; omega
    case c2 => omega
    intro v' w2 hown' hgrow _
    have hb2 : Below w1.heap.size w1 w2 := b0.grown hgrow b0.size (fun b hb' => (own_at hnil hb').1)
    have ho2 : w2.ownsRow w1.heap.size 40 4 v' n (ints xs) := by simpa using hown'
    obtain ⟨g, cap, rfl, _, _⟩ := own_some' ho2 (by omega)
    have HO := Lib.hid ho2
    clear hown' hgrow hnil hc2 hl h1 ho2 b0
    go_wp2_with fail
    go_loopw [4] (fun i wr => ∃ k : Nat, k ≤ n ∧ i = .int .i64 k ∧ wr.ownsRow w1.heap.size 40 4 (.slice (some ⟨g, 0, none⟩) n cap) n (ints (turnK xs (jumpF xs n) k)) ∧ Below w1.heap.size w1 wr) (fun i _ => n - (intOf i).toNat)
    case atStart => exact ⟨0, Nat.zero_le _, rfl, HO.out, hb2⟩
    case round =>
      clear HO hb2
      obtain ⟨k, hk, rfl, hown, hbw⟩ := hrel
      by_cases hlt : k < n
      · have hyl : (turnK xs (jumpF xs n) k).length = n * 4 := by rw [turnK_len]; exact hlen
        have c0 := hown.cellAt (k * 4) (by omega)
        rw [ints_get (by omega)] at c0
        have h0 : (turnK xs (jumpF xs n) k).getD (k * 4) 0 = opC xs k := turnK_op _ _ _ _
        rw [h0] at c0
        have hgg := own_at hown (b := g) rfl
        have HOW := Lib.hid hown
        cases hT : isT xs k
        · have HN := Lib.hid (show turnK xs (jumpF xs n) (k + 1) = turnK xs (jumpF xs n) k from by rw [turnK, hT]; rfl)
          have hne : opC xs k ≠ 6 ∧ opC xs k ≠ 7 := by unfold isT at hT; have := of_decide_eq_false hT; omega
          have e6 : (opC xs k == 6) = false := by simpa using hne.1
          have e7 : (opC xs k == 7) = false := by simpa using hne.2
          generalize opC xs k = o at *
          clear hown h0 hne
          go_wp2_with fail
          go_roundw
          case rel => exact ⟨k + 1, by omega, by go_num, by rw [HN.out]; exact HOW.out, hbw⟩
          case measure => simp [intOf]; omega
        · have h67 : opC xs k = 6 ∨ opC xs k = 7 := by unfold isT at hT; exact of_decide_eq_true hT
          have hto := insB_to (HR.out.ins k hlt) h67
          obtain ⟨t, ht⟩ : ∃ t : Nat, toC xs k = (t : Int) := ⟨(toC xs k).toNat, by omega⟩
          have hjf : jumpF xs n k = (endTo xs n t : Nat) := by unfold jumpF; rw [ht]; rfl
          have hfl := HS.out.later (hb.trans (hbw.mono z1))
          have c3 := (hfl.four k hlt).2.2.2
          have h3 : xs.getD (k * 4 + 3) 0 = (t : Int) := ht
          rw [h3] at c3
          rw [ht] at hto
          have HCE := Lib.hid (l9To_ hfl HR.out t (by omega))
          have f3 := hown.frozenAt (k * 4 + 3)
          have ct := hown.cellAt (k * 4 + 3) (by omega)
          rw [ints_get (by omega)] at ct
          have hst := hown.stored (k * 4 + 3) (.int .i64 (endTo xs n t : Nat))
          rw [ints_set] at hst
          have HST := Lib.hid hst.1
          have HN := Lib.hid (show turnK xs (jumpF xs n) (k + 1) = (turnK xs (jumpF xs n) k).set (k * 4 + 3) (endTo xs n t : Nat) from by rw [turnK, if_pos hT, hjf])
          have HBN := Lib.hid (hbw.setCell (p := ⟨g, k * 4 + 3, none⟩) hgg.1 (.int .i64 (endTo xs n t : Nat)))
          generalize opC xs k = o at *
          clear hown h0 hst hjf hfl h3 ht
          rcases h67 with rfl | rfl
          all_goals
            go_wp2_with fail
            refine HCE.out.mono ?_
            rintro e w5 ⟨rfl, rfl⟩
            go_wp2_with fail
            go_roundw
            case rel => exact ⟨k + 1, by omega, by go_num, by rw [HN.out]; exact HST.out, HBN.out⟩
            case measure => simp [intOf]; omega
      · obtain rfl : k = n := by omega
        have HOW := Lib.hid (own_mono hown z1)
        clear hown
        go_wp2_with fail
        go_ret
        exact ⟨_, rfl, HOW.out, hb.trans (hbw.mono z1)⟩
end Go.Proofs.Ytogpfagdpkjmmaa

/- CodeSame of the program (slices.Equal). -/
namespace Go.Proofs.Ytogpfagdpkjmmaa
open Go.ChangeShapes Go.WideShapes Go.ChangeAt Go.RowKit

theorem insHeld : Try.prog.stoodInHeld 40 = false := by kernel_rfl
theorem insU : Try.prog.underlying 40 = some (.struct (Try.prog.fieldsOf 40)) := by kernel_rfl

set_option maxRecDepth 100000 in
theorem neqIns (x y z u x' y' z' u' : Int) (w : World) :
    (binOp .neq 40 (.agg #[.int .i64 x, .int .i64 y, .int .i64 z, .int .i64 u]) (.agg #[.int .i64 x', .int .i64 y', .int .i64 z', .int .i64 u'])).run Try.prog w = .ok (.bool (!(x == x' && (y == y' && (z == z' && u == u'))))) w := by
  rw [run_neq_struct, run_equalIn_agg _ _ _ _ _ insU insHeld]
  simp only [Program.fieldsOf, Try.underlying40]
  by_cases h0 : x = x' <;> by_cases h1 : y = y' <;> by_cases h2 : z = z' <;> by_cases h3 : u = u' <;> simp [go_sem, Op.eqFields, h0, h1, h2, h3]

theorem more_four {xs ys : List Int} {k : Nat} (h : ∀ j, j < k * 4 → xs.getD j 0 = ys.getD j 0) (h0 : xs.getD (k * 4) 0 = ys.getD (k * 4) 0) (h1 : xs.getD (k * 4 + 1) 0 = ys.getD (k * 4 + 1) 0)
    (h2 : xs.getD (k * 4 + 2) 0 = ys.getD (k * 4 + 2) 0) (h3 : xs.getD (k * 4 + 3) 0 = ys.getD (k * 4 + 3) 0) : ∀ j, j < (k + 1) * 4 → xs.getD j 0 = ys.getD j 0 := by
  intro j hj
  have : j < k * 4 ∨ j = k * 4 ∨ j = k * 4 + 1 ∨ j = k * 4 + 2 ∨ j = k * 4 + 3 := by omega
  rcases this with h' | rfl | rfl | rfl | rfl
  · exact h j h'
  all_goals assumption

theorem eq_four {xs ys : List Int} (n : Nat) (hx : xs.length = n * 4) (hy : ys.length = n * 4) (h : ∀ j, j < n * 4 → xs.getD j 0 = ys.getD j 0) : xs = ys := by
  apply List.ext_getElem (by omega)
  intro j h1 h2
  have := h j (by omega)
  simpa [List.getD, h1, h2] using this

set_option maxRecDepth 100000 in
theorem sliceEqual {xs ys : List Int} {A A' : Option Addr} {n c n' c' : Nat} {S T : Nat → Prop} {w : World} (hs : Fl w S 4 xs A n c) (ht : Fl w T 4 ys A' n' c') :
    Calls Try.prog 60 #[.slice A n c, .slice A' n' c'] w fun e w' => e = .returned (.bool (decide (xs = ys))) ∧ Below w.heap.size w w' := by
  have hmax : n ≤ 9223372036854775807 := by have := hs.le; have := hs.top; unfold maxLen at this; omega
  have hmax' : n' ≤ 9223372036854775807 := by have := ht.le; have := ht.top; unfold maxLen at this; omega
  have lx := hs.len
  have ly := ht.len
  by_cases hn : n = n'
  · subst hn
    have LX := Lib.hid lx
    have LY := Lib.hid ly
    clear lx ly hmax'
    go_enter Try.func60, Try.ntmps60
    go_wp2_with fail
    go_loopw [13] (fun i wr => ∃ k : Nat, k ≤ n ∧ i = .int .i64 k ∧ (∀ j, j < k * 4 → xs.getD j 0 = ys.getD j 0) ∧ Below w.heap.size w wr) (fun i _ => n - (intOf i).toNat)
    case atStart => exact ⟨0, Nat.zero_le _, rfl, fun j hj => by omega, Below.refl _ _⟩
    case round =>
      obtain ⟨k, hk, rfl, heq, hb⟩ := hrel
      have HEQ := Lib.hid heq
      clear heq
      by_cases hlt : k < n
      · obtain ⟨a, rfl⟩ := hs.some (by omega)
        obtain ⟨b, rfl⟩ := ht.some (by omega)
        obtain ⟨c0, c1, c2, c3⟩ := (hs.later hb).four k hlt
        obtain ⟨d0, d1, d2, d3⟩ := (ht.later hb).four k hlt
        have hsz := hb.size
        generalize hx0 : xs.getD (k * 4) 0 = x0 at c0
        generalize hx1 : xs.getD (k * 4 + 1) 0 = x1 at c1
        generalize hx2 : xs.getD (k * 4 + 2) 0 = x2 at c2
        generalize hx3 : xs.getD (k * 4 + 3) 0 = x3 at c3
        generalize hy0 : ys.getD (k * 4) 0 = y0 at d0
        generalize hy1 : ys.getD (k * 4 + 1) 0 = y1 at d1
        generalize hy2 : ys.getD (k * 4 + 2) 0 = y2 at d2
        generalize hy3 : ys.getD (k * 4 + 3) 0 = y3 at d3
        have H8 := Lib.hid (And.intro hx0 (And.intro hx1 (And.intro hx2 (And.intro hx3 (And.intro hy0 (And.intro hy1 (And.intro hy2 hy3)))))))
        clear hx0 hx1 hx2 hx3 hy0 hy1 hy2 hy3
        by_cases hq : x0 = y0 ∧ x1 = y1 ∧ x2 = y2 ∧ x3 = y3
        · obtain ⟨rfl, rfl, rfl, rfl⟩ := hq
          have hne := fun W => neqIns x0 x1 x2 x3 x0 x1 x2 x3 W
          simp only [beq_self_eq_true, Bool.and_self, Bool.not_true] at hne
          go_wp2_with fail
          go_region
          all_goals (try go_wp2)
          obtain ⟨a0, a1, a2, a3, b0, b1, b2, b3⟩ := H8.out
          exact ⟨⟨k + 1, by omega, by go_num, more_four HEQ.out (a0.trans b0.symm) (a1.trans b1.symm) (a2.trans b2.symm) (a3.trans b3.symm), hb.drew⟩, by simp [intOf]; omega⟩
        · have hne := fun W => neqIns x0 x1 x2 x3 y0 y1 y2 y3 W
          have hb0 : (x0 == y0 && (x1 == y1 && (x2 == y2 && x3 == y3))) = false := by
            apply Bool.eq_false_iff.2
            intro h
            simp only [Bool.and_eq_true, beq_iff_eq] at h
            exact hq h
          simp only [hb0, Bool.not_false] at hne
          have HQ := Lib.hid hq
          clear hq hb0
          go_wp2_with fail
          go_region
          all_goals (try go_wp2)
          go_ret
          refine ⟨?_, hb.drew⟩
          have : ¬ xs = ys := by
            rintro rfl
            obtain ⟨a0, a1, a2, a3, b0, b1, b2, b3⟩ := H8.out
            exact HQ.out ⟨a0.symm.trans b0, a1.symm.trans b1, a2.symm.trans b2, a3.symm.trans b3⟩
          rw [decide_eq_false this]; rfl
      · obtain rfl : k = n := by omega
        go_wp2_with fail
        go_ret
        refine ⟨?_, hb⟩
        rw [decide_eq_true (eq_four k LX.out LY.out HEQ.out)]; rfl
  · have hd : decide (xs = ys) = false := decide_eq_false (by rintro rfl; omega)
    rw [hd]
    clear hd lx ly
    go_enter Try.func60, Try.ntmps60
    go_wp2
    go_ret
    exact ⟨rfl, Below.refl _ _⟩

theorem codeSame {xs ys : List Int} {A A' : Option Addr} {n c n' c' : Nat} {S T : Nat → Prop} {w : World} (hs : Fl w S 4 xs A n c) (ht : Fl w T 4 ys A' n' c') :
    Calls Try.prog 34 #[.slice A n c, .slice A' n' c'] w fun e w' => e = .returned (.bool (decide (xs = ys))) ∧ Below w.heap.size w w' := by
  have HE := Lib.hid (sliceEqual hs ht)
  go_enter Try.func34, Try.ntmps34
  go_wp2_with fail
  refine HE.out.mono ?_
  rintro e w1 ⟨rfl, b1⟩
  go_wp2_with fail
  go_ret
  exact ⟨rfl, b1⟩
end Go.Proofs.Ytogpfagdpkjmmaa

/- CodeSame of the model. -/
namespace Go.Proofs.Ytogpfagdpkjmmaa
open Go.ChangeShapes Go.WideShapes Go.ChangeAt Go.RowKit

set_option maxRecDepth 100000 in
theorem specCodeSame {xs ys : List Int} {A A' : Option Addr} {n c n' c' : Nat} {S T : Nat → Prop} {w : World} (hs : Fl w S 4 xs A n c) (ht : Fl w T 4 ys A' n' c') :
    Calls Try.prog 35 #[.slice A n c, .slice A' n' c'] w fun e w' => e = .returned (.bool (decide (xs = ys))) ∧ Below w.heap.size w w' := by
  have hmax : n ≤ 9223372036854775807 := by have := hs.le; have := hs.top; unfold maxLen at this; omega
  have hmax' : n' ≤ 9223372036854775807 := by have := ht.le; have := ht.top; unfold maxLen at this; omega
  have lx := hs.len
  have ly := ht.len
  by_cases hn : n = n'
  · subst hn
    have LX := Lib.hid lx
    have LY := Lib.hid ly
    clear lx ly hmax'
    go_enter Try.func35, Try.ntmps35
    go_wp2_with fail
    go_loopw [5] (fun i wr => ∃ k : Nat, k ≤ n ∧ i = .int .i64 k ∧ (∀ j, j < k * 4 → xs.getD j 0 = ys.getD j 0) ∧ Below w.heap.size w wr) (fun i _ => n - (intOf i).toNat)
    case atStart => exact ⟨0, Nat.zero_le _, rfl, fun j hj => by omega, Below.refl _ _⟩
    case round =>
      obtain ⟨k, hk, rfl, heq, hb⟩ := hrel
      have HEQ := Lib.hid heq
      clear heq
      by_cases hlt : k < n
      · obtain ⟨a, rfl⟩ := hs.some (by omega)
        obtain ⟨b, rfl⟩ := ht.some (by omega)
        obtain ⟨c0, c1, c2, c3⟩ := (hs.later hb).four k hlt
        obtain ⟨d0, d1, d2, d3⟩ := (ht.later hb).four k hlt
        have hsz := hb.size
        generalize hx0 : xs.getD (k * 4) 0 = x0 at c0
        generalize hx1 : xs.getD (k * 4 + 1) 0 = x1 at c1
        generalize hx2 : xs.getD (k * 4 + 2) 0 = x2 at c2
        generalize hx3 : xs.getD (k * 4 + 3) 0 = x3 at c3
        generalize hy0 : ys.getD (k * 4) 0 = y0 at d0
        generalize hy1 : ys.getD (k * 4 + 1) 0 = y1 at d1
        generalize hy2 : ys.getD (k * 4 + 2) 0 = y2 at d2
        generalize hy3 : ys.getD (k * 4 + 3) 0 = y3 at d3
        have H8 := Lib.hid (And.intro hx0 (And.intro hx1 (And.intro hx2 (And.intro hx3 (And.intro hy0 (And.intro hy1 (And.intro hy2 hy3)))))))
        clear hx0 hx1 hx2 hx3 hy0 hy1 hy2 hy3
        by_cases hq : x0 = y0 ∧ x1 = y1 ∧ x2 = y2 ∧ x3 = y3
        · obtain ⟨rfl, rfl, rfl, rfl⟩ := hq
          have hne := fun W => neqIns x0 x1 x2 x3 x0 x1 x2 x3 W
          simp only [beq_self_eq_true, Bool.and_self, Bool.not_true] at hne
          go_wp2_with fail
          go_region
          all_goals (try go_wp2)
          obtain ⟨a0, a1, a2, a3, b0, b1, b2, b3⟩ := H8.out
          exact ⟨⟨k + 1, by omega, by go_num, more_four HEQ.out (a0.trans b0.symm) (a1.trans b1.symm) (a2.trans b2.symm) (a3.trans b3.symm), hb.drew⟩, by simp [intOf]; omega⟩
        · have hne := fun W => neqIns x0 x1 x2 x3 y0 y1 y2 y3 W
          have hb0 : (x0 == y0 && (x1 == y1 && (x2 == y2 && x3 == y3))) = false := by
            apply Bool.eq_false_iff.2
            intro h
            simp only [Bool.and_eq_true, beq_iff_eq] at h
            exact hq h
          simp only [hb0, Bool.not_false] at hne
          have HQ := Lib.hid hq
          clear hq hb0
          go_wp2_with fail
          go_region
          all_goals (try go_wp2)
          go_ret
          refine ⟨?_, hb.drew⟩
          have : ¬ xs = ys := by
            rintro rfl
            obtain ⟨a0, a1, a2, a3, b0, b1, b2, b3⟩ := H8.out
            exact HQ.out ⟨a0.symm.trans b0, a1.symm.trans b1, a2.symm.trans b2, a3.symm.trans b3⟩
          rw [decide_eq_false this]; rfl
      · obtain rfl : k = n := by omega
        go_wp2_with fail
        go_ret
        refine ⟨?_, hb⟩
        rw [decide_eq_true (eq_four k LX.out LY.out HEQ.out)]; rfl
  · have hd : decide (xs = ys) = false := decide_eq_false (by rintro rfl; omega)
    rw [hd]
    clear hd lx ly
    go_enter Try.func35, Try.ntmps35
    go_wp2
    go_ret
    exact ⟨rfl, Below.refl _ _⟩
end Go.Proofs.Ytogpfagdpkjmmaa

/- Slim, of the program and of the model. -/
namespace Go.Proofs.Ytogpfagdpkjmmaa
open Go.ChangeShapes Go.WideShapes Go.ChangeAt Go.RowKit

open Classical in
/-- Both passes. -/
noncomputable def stp (p : List Int × Nat) : List Int × Nat := (deadR (jumpsR p.1 p.2) (jumpsN p.1 p.2), deadN (jumpsR p.1 p.2) (jumpsN p.1 p.2))
/-- .. until nothing turns, so many times at most. -/
noncomputable def slimI : Nat → List Int × Nat → List Int × Nat
  | 0, p => p
  | k + 1, p => if (stp p).1 = p.1 then stp p else slimI k (stp p)
theorem stp_le (p : List Int × Nat) : (stp p).2 ≤ p.2 := Nat.le_trans (deadN_le _ _) (jumpsN_le _ _)
theorem slimI_le (k : Nat) : ∀ p : List Int × Nat, (slimI k p).2 ≤ p.2 := by
  induction k with
  | zero => intro p; exact Nat.le_refl _
  | succ k ih =>
    intro p
    rw [slimI]
    split
    · exact stp_le p
    · exact Nat.le_trans (ih _) (stp_le p)
noncomputable def slimR (xs : List Int) (n : Nat) : List Int := (slimI 60 (xs, n)).1
noncomputable def slimN (xs : List Int) (n : Nat) : Nat := (slimI 60 (xs, n)).2
theorem slimN_le (xs : List Int) (n : Nat) : slimN xs n ≤ n := slimI_le 60 (xs, n)
theorem stp_bad {xs : List Int} {n : Nat} (h : codeB xs n = false) : stp (xs, n) = ([], 0) := by
  have h1 : jumpsR xs n = [] := by unfold jumpsR; rw [h]; rfl
  have h2 : jumpsN xs n = 0 := by unfold jumpsN; rw [h]; rfl
  have h3 : codeB [] 0 = false := codeB_few (by omega)
  unfold stp
  rw [h1, h2]
  unfold deadR deadN
  rw [h3]; rfl
theorem slim_bad {xs : List Int} {n : Nat} (h : codeB xs n = false) : slimI 60 (xs, n) = ([], 0) := by
  rw [slimI, stp_bad h]
  split
  · rfl
  · rw [slimI, stp_bad (codeB_few (by omega)), if_pos rfl]

/-- Between two rounds. -/
def SlimRel (xs : List Int) (n : Nat) (w : World) (k : Nat) (v : Value) (wr : World) : Prop :=
  ∃ (p : List Int × Nat) (A : Option Addr) (c : Nat) (S : Nat → Prop), v = .slice A p.2 c ∧ Fl wr S 4 p.1 A p.2 c ∧ (0 < k → wr.ownsRow w.heap.size 40 4 v p.2 (ints p.1)) ∧ slimI (60 - k) p = slimI 60 (xs, n) ∧ Below w.heap.size w wr

set_option maxRecDepth 100000 in
set_option maxHeartbeats 4000000 in
theorem specSlim {xs : List Int} {A : Option Addr} {n c : Nat} {S : Nat → Prop} {w : World} (hs : Fl w S 4 xs A n c) :
    Calls Try.prog 30 #[.slice A n c] w fun e w' => ∃ v, e = .returned v ∧ w'.ownsRow w.heap.size 40 4 v (slimN xs n) (ints (slimR xs n)) ∧ Below w.heap.size w w' := by
  unfold slimN slimR
  have hco := specCodeOk hs
  cases hc : codeB xs n
  · rw [hc] at hco
    have HC := Lib.hid hco
    rw [slim_bad hc]
    clear hco hc
    go_enter Try.func30, Try.ntmps30
    go_wp2_with fail
    refine HC.out.mono ?_
    rintro e w1 ⟨rfl, hb⟩
    go_wp2_with fail
    go_ret
    have z1 := hb.size
    exact ⟨_, rfl, World.ownsRow_lit (base := w.heap.size) (e := 40) (size := 4) w1 #[] 0 z1 (Nat.zero_le _) rfl, hb.alloc z1 _⟩
  · rw [hc] at hco
    have HC := Lib.hid hco
    have HS := Lib.hid hs
    clear hco hc hs
    go_enter Try.func30, Try.ntmps30
    go_wp2_with fail
    refine HC.out.mono ?_
    rintro e w1 ⟨rfl, hb⟩
    have hz := hb.size
    go_wp2_with fail
    go_loopw [0, 3] (fun v i wr => ∃ k : Nat, k ≤ 60 ∧ i = .int .i64 k ∧ SlimRel xs n w k v wr) (fun _ i _ => 60 - (intOf i).toNat)
    case atStart => exact ⟨0, Nat.zero_le _, rfl, (xs, n), _, _, _, rfl, HS.out.later hb, fun h => by omega, rfl, hb⟩
    case round =>
      obtain ⟨k, hk, rfl, p, Ap, cp, Sp, rfl, hfl, hrow, hsl, hbw⟩ := hrel
      have hzw := hbw.size
      by_cases hlt : k < 60
      · have gk : (k : Int) < 60 := by omega
        obtain ⟨d, hd⟩ : ∃ d, 60 - k = d + 1 := ⟨59 - k, by omega⟩
        rw [hd] at hsl
        have HSL := Lib.hid hsl
        have HFL := Lib.hid hfl
        clear hsl hfl hrow
        go_wp2_with fail
        refine (specSlimJumps HFL.out).mono ?_
        rintro e w2 ⟨v2, rfl, o2, hb2⟩
        obtain ⟨A2, c2, rfl, f2⟩ := own_fl o2
        have z2 := hb2.size
        have HFL2 := Lib.hid (HFL.out.later hb2)
        clear o2 HFL
        go_wp2_with fail
        refine (specSlimDead f2).mono ?_
        rintro e w3 ⟨v3, rfl, o3, hb3⟩
        have z3 := hb3.size
        obtain ⟨A3, c3, rfl, f3⟩ := own_fl o3
        have HFL3 := Lib.hid (HFL2.out.later hb3)
        have bw3 := hbw.trans ((hb2.trans (hb3.mono z2)).mono hzw)
        have O3 := Lib.hid (own_mono o3 (show w.heap.size ≤ w2.heap.size by omega))
        have F3 := Lib.hid f3
        clear f2 f3 o3 hb2 hb3 HFL2
        go_wp2_with fail
        refine (specCodeSame F3.out HFL3.out).mono ?_
        rintro e w4 ⟨rfl, hb4⟩
        have bw4 := bw3.trans (hb4.mono bw3.size)
        have O4 := Lib.hid (own_below O3.out hb4)
        have F4 := Lib.hid (F3.out.later hb4)
        clear O3 F3 HFL3 hb4
        by_cases he : deadR (jumpsR p.1 p.2) (jumpsN p.1 p.2) = p.1
        · have HE := Lib.hid (show slimI 60 (xs, n) = stp p from by rw [← HSL.out, slimI]; exact if_pos he)
          rw [decide_eq_true he]
          clear he
          go_wp2_with fail
          go_ret
          refine ⟨_, rfl, ?_, bw4⟩
          rw [HE.out]; exact O4.out
        · have HE := Lib.hid (show slimI d (stp p) = slimI 60 (xs, n) from by rw [← HSL.out, slimI]; exact (if_neg he).symm)
          rw [decide_eq_false he]
          clear he
          go_wp2_with fail
          go_roundw
          case rel => exact ⟨k + 1, by omega, by go_num, stp p, _, _, _, rfl, F4.out, fun _ => O4.out, by rw [show 60 - (k + 1) = d from by omega]; exact HE.out, bw4⟩
          case measure => simp [intOf]; omega
      · obtain rfl : k = 60 := by omega
        have O4 := Lib.hid (hrow (by omega))
        have HE := Lib.hid (show p = slimI 60 (xs, n) from hsl)
        clear hrow hsl hfl
        go_wp2_with fail
        go_ret
        refine ⟨_, rfl, ?_, hbw⟩
        rw [← HE.out]; exact O4.out

theorem indexPass0 (W : World) : (Instr.index 64 (.agg #[.func (.func 26) #[] #[], .func (.func 29) #[] #[]]) (.int .i64 0)).run Try.prog W = .ok (.func (.func 26) #[] #[]) W := by kernel_rfl
theorem indexPass1 (W : World) : (Instr.index 64 (.agg #[.func (.func 26) #[] #[], .func (.func 29) #[] #[]]) (.int .i64 1)).run Try.prog W = .ok (.func (.func 29) #[] #[]) W := by kernel_rfl

set_option maxRecDepth 100000 in
set_option maxHeartbeats 4000000 in
theorem implSlim {xs : List Int} {A : Option Addr} {n c : Nat} {S : Nat → Prop} {w : World} (hs : Fl w S 4 xs A n c) :
    Calls Try.prog 31 #[.slice A n c] w fun e w' => ∃ v, e = .returned v ∧ w'.ownsRow w.heap.size 40 4 v (slimN xs n) (ints (slimR xs n)) ∧ Below w.heap.size w w' := by
  unfold slimN slimR
  have HS := Lib.hid hs
  clear hs
  go_enter Try.func31, Try.ntmps31
  go_wp2_with fail
  go_loopw [0, 6] (fun v i wr => ∃ k : Nat, k ≤ 60 ∧ i = .int .i64 k ∧ SlimRel xs n w k v wr) (fun _ i _ => 60 - (intOf i).toNat)
  case atStart => exact ⟨0, Nat.zero_le _, rfl, (xs, n), _, _, _, rfl, HS.out, fun h => by omega, rfl, Below.refl _ _⟩
  case round =>
    obtain ⟨k, hk, rfl, p, Ap, cp, Sp, rfl, hfl, hrow, hsl, hbw⟩ := hrel
    have hzw := hbw.size
    by_cases hlt : k < 60
    · have gk : (k : Int) < 60 := by omega
      obtain ⟨d, hd⟩ : ∃ d, 60 - k = d + 1 := ⟨59 - k, by omega⟩
      rw [hd] at hsl
      have HSL := Lib.hid hsl
      have HFL := Lib.hid hfl
      clear hsl hfl hrow
      go_wp2_with fail
      generalize wr = W0 at *
      clear wr
      go_loopw [0, 10] (fun v i W => (i = .int .i64 (0 : Nat) ∧ v = .slice Ap p.2 cp ∧ W = W0) ∨
          (i = .int .i64 (1 : Nat) ∧ ∃ A2 c2, v = .slice A2 (jumpsN p.1 p.2) c2 ∧ W.ownsRow W0.heap.size 40 4 v (jumpsN p.1 p.2) (ints (jumpsR p.1 p.2)) ∧ Below W0.heap.size W0 W) ∨
          (i = .int .i64 (2 : Nat) ∧ ∃ A2 c2, v = .slice A2 (stp p).2 c2 ∧ W.ownsRow W0.heap.size 40 4 v (stp p).2 (ints (stp p).1) ∧ Below W0.heap.size W0 W)) (fun _ i _ => 2 - (intOf i).toNat)
      case atStart => exact .inl ⟨rfl, rfl, rfl⟩
      case round =>
        rcases hrel with ⟨rfl, rfl, rfl⟩ | ⟨rfl, A2, c2, rfl, o2, hb2⟩ | ⟨rfl, A2, c2, rfl, o3, hb3⟩
        · have ix := indexPass0 wr
          go_wp2_with fail
          refine (implSlimJumps HFL.out).mono ?_
          rintro e w2 ⟨v2, rfl, o2, hb2⟩
          obtain ⟨A2, c2, rfl⟩ := own_slc' o2
          have O2 := Lib.hid (And.intro o2 hb2)
          clear o2 hb2
          go_wp2_with fail
          go_roundw
          case rel => exact .inr (.inl ⟨by go_num, A2, c2, rfl, O2.out.1, O2.out.2⟩)
          case measure => simp [intOf]
        · have ix := indexPass1 wr
          have F2 := Lib.hid (own_fl1 o2)
          go_wp2_with fail
          refine (implSlimDead F2.out).mono ?_
          rintro e w3 ⟨v3, rfl, o3, hb3⟩
          obtain ⟨A3, c3, rfl⟩ := own_slc' o3
          have O3 := Lib.hid (And.intro (own_mono o3 hb2.size) (hb2.trans (hb3.mono hb2.size)))
          clear o2 hb2 o3 hb3 F2
          go_wp2_with fail
          go_roundw
          case rel => exact .inr (.inr ⟨by go_num, A3, c3, rfl, O3.out.1, O3.out.2⟩)
          case measure => simp [intOf]
        · have O3 := Lib.hid o3
          have HFL3 := Lib.hid (HFL.out.later hb3)
          have bw3 := hbw.trans (hb3.mono hzw)
          have F3 := Lib.hid (own_fl1 o3)
          clear o3
          go_wp2_with fail
          refine (codeSame F3.out HFL3.out).mono ?_
          rintro e w4 ⟨rfl, hb4⟩
          have bw4 := bw3.trans (hb4.mono bw3.size)
          have O4 := Lib.hid (own_mono (own_below O3.out hb4) hzw)
          have F4 := Lib.hid (F3.out.later hb4)
          clear O3 F3 HFL3 hb4 hb3
          by_cases he : (stp p).1 = p.1
          · have HE := Lib.hid (show slimI 60 (xs, n) = stp p from by rw [← HSL.out, slimI]; exact if_pos he)
            rw [decide_eq_true he]
            clear he
            go_wp2_with fail
            go_ret
            refine ⟨_, rfl, ?_, bw4⟩
            rw [HE.out]; exact O4.out
          · have HE := Lib.hid (show slimI d (stp p) = slimI 60 (xs, n) from by rw [← HSL.out, slimI]; exact (if_neg he).symm)
            rw [decide_eq_false he]
            clear he
            go_wp2_with fail
            go_roundw
            case rel => exact ⟨k + 1, by omega, by go_num, stp p, _, _, _, rfl, F4.out, fun _ => O4.out, by rw [show 60 - (k + 1) = d from by omega]; exact HE.out, bw4⟩
            case measure => simp [intOf]; omega
    · obtain rfl : k = 60 := by omega
      have O4 := Lib.hid (hrow (by omega))
      have HE := Lib.hid (show p = slimI 60 (xs, n) from hsl)
      clear hrow hsl hfl
      go_wp2_with fail
      go_ret
      refine ⟨_, rfl, ?_, hbw⟩
      rw [← HE.out]; exact O4.out
end Go.Proofs.Ytogpfagdpkjmmaa

/- Code whose jumps go to the ends of their chains is right: as plain data. -/
namespace Go.Proofs.Ytogpfagdpkjmmaa

theorem insB_jump {o a b t t' : Int} {m : Nat} (h : insB o a b t m = true) (ho : o = 6 ∨ o = 7) (h0 : 0 ≤ t') (h1 : t' < m) : insB o a b t' m = true := by
  unfold insB at h ⊢
  rw [if_neg (by omega)] at h ⊢
  rcases ho with rfl | rfl
  · rw [if_pos rfl] at h ⊢
    have := of_decide_eq_true h
    exact decide_eq_true (by omega)
  · rw [if_neg (by decide), if_pos rfl] at h ⊢
    have := of_decide_eq_true h
    exact decide_eq_true (by omega)

abbrev jumpsL (xs : List Int) (n : Nat) : List Int := turnK xs (jumpF xs n) n
theorem jumps_right {xs : List Int} {n : Nat} (hr : Right xs n) : Right (jumpsL xs n) n := by
  refine ⟨by rw [turnK_len]; exact hr.len, hr.lo, hr.hi, fun i hi => ?_, fun i hi => by rw [turnK_op]; exact hr.last i hi⟩
  rw [turnK_op, turnK_a, turnK_b, turnK_to hr.len _ _ _ hi]
  by_cases hT : isT xs i = true
  · rw [if_pos ⟨hi, hT⟩]
    have h67 : opC xs i = 6 ∨ opC xs i = 7 := by unfold isT at hT; exact of_decide_eq_true hT
    have ht := insB_to (hr.ins i hi) h67
    have := endTo_lt hr (i := (toC xs i).toNat) (by omega)
    exact insB_jump (hr.ins i hi) h67 (by unfold jumpF; omega) (by unfold jumpF; omega)
  · rw [if_neg (fun h => hT h.2)]
    exact hr.ins i hi

theorem lab_chase {xs : List Int} {n : Nat} (hr : Right xs n) {ρ : Nat → Option Int} (hρ : Lab xs n ρ) {r : Int} : ∀ k i, i < n → ρ i = some r → ρ (chase xs k i) = some r := by
  intro k
  induction k with
  | zero => intro i _ h; exact h
  | succ k ih =>
    intro i hi h
    rw [chase]
    split
    · rename_i h7
      have ht := insB_to (hr.ins i hi) (.inr h7)
      obtain ⟨r', h1, h2⟩ := hρ.step i r hi h
      have e : r = r' := by
        unfold heldX heldO at h1
        rw [h7, if_neg (by decide), if_neg (by decide), if_neg (by decide), if_neg (by decide)] at h1
        injection h1
      subst e
      exact ih _ (by omega) (h2 _ (by unfold nextX nextO; rw [h7, if_neg (by decide), if_pos rfl]; exact List.mem_cons_self ..))
    · exact h
theorem jumps_lab {xs : List Int} {n : Nat} (hr : Right xs n) {ρ : Nat → Option Int} (hρ : Lab xs n ρ) : Lab (jumpsL xs n) n ρ := by
  refine ⟨hρ.start, fun i r hi h => ?_⟩
  obtain ⟨r', h1, h2⟩ := hρ.step i r hi h
  refine ⟨r', by unfold heldX; rw [turnK_op, turnK_a]; exact h1, fun j hj => ?_⟩
  have go : ∀ t : Nat, t < n → ρ t = some r' → ρ (endTo xs n t) = some r' := fun t ht hr' => by
    unfold endTo
    split
    · exact hr'
    · exact lab_chase hr hρ n t ht hr'
  unfold nextX nextO at hj h2
  rw [turnK_op] at hj
  by_cases h6 : opC xs i = 6
  · have hT : isT xs i = true := by unfold isT; exact decide_eq_true (.inl h6)
    have ht := insB_to (hr.ins i hi) (.inl h6)
    rw [if_pos h6] at hj h2
    rw [turnK_to hr.len _ _ _ hi, if_pos ⟨hi, hT⟩] at hj
    rcases List.mem_cons.1 hj with e | hj
    · exact h2 _ (by rw [e]; exact List.mem_cons_self ..)
    · rcases List.mem_cons.1 hj with e | hj
      · rw [e]
        unfold jumpF
        rw [Int.toNat_natCast]
        exact go _ (by omega) (h2 _ (by simp))
      · cases hj
  · rw [if_neg h6] at hj h2
    by_cases h7 : opC xs i = 7
    · have hT : isT xs i = true := by unfold isT; exact decide_eq_true (.inr h7)
      have ht := insB_to (hr.ins i hi) (.inr h7)
      rw [if_pos h7] at hj h2
      rw [turnK_to hr.len _ _ _ hi, if_pos ⟨hi, hT⟩] at hj
      rcases List.mem_cons.1 hj with e | hj
      · rw [e]
        unfold jumpF
        rw [Int.toNat_natCast]
        exact go _ (by omega) (h2 _ (by simp))
      · cases hj
    · rw [if_neg h7] at hj h2
      exact h2 j hj
theorem jumps_ok {xs : List Int} {n : Nat} (hr : Right xs n) (hc : codeB xs n = true) : codeB (jumpsL xs n) n = true := by
  rw [codeB_right (jumps_right hr)]
  rw [codeB_right hr] at hc
  apply Classical.byContradiction
  intro hno
  have hl : ∀ ρ, Lab xs n ρ → False := fun ρ hρ => hno (roomsB_true (jumps_lab hr hρ))
  rw [roomsB_false hl] at hc
  cases hc

/-- One that goes to no jump but round for ever stays. -/
theorem endTo_op {xs : List Int} {n i : Nat} (h : endTo xs n i ≠ i) : opC xs (endTo xs n i) ≠ 7 := by
  unfold endTo at h ⊢
  split
  · rename_i h7
    rw [if_pos h7] at h
    exact absurd rfl h
  · rename_i h7; exact h7
/-- A chain without an end is in the turned code what it was. -/
theorem chase_turn {xs : List Int} {n : Nat} (hr : Right xs n) {i : Nat} (hi : i < n) (h : ∀ k, opC xs (chase xs k i) = 7) : ∀ k, chase (jumpsL xs n) k i = chase xs k i := by
  intro k
  induction k generalizing i with
  | zero => rfl
  | succ k ih =>
    have h7 : opC xs i = 7 := h 0
    have ht := insB_to (hr.ins i hi) (.inr h7)
    have hT : isT xs i = true := by unfold isT; exact decide_eq_true (.inr h7)
    have hn : ∀ q, opC xs (chase xs q (toC xs i).toNat) = 7 := fun q => by
      have := h (q + 1)
      rwa [chase, if_pos h7] at this
    have he : endTo xs n (toC xs i).toNat = (toC xs i).toNat := by unfold endTo; rw [if_pos (hn n)]
    have hto : toC (jumpsL xs n) i = toC xs i := by
      rw [turnK_to hr.len _ _ _ hi, if_pos ⟨hi, hT⟩]
      unfold jumpF
      rw [he]; omega
    rw [chase, chase, if_pos h7, turnK_op, if_pos h7, hto]
    exact ih (by omega) hn
theorem chase_ever {xs : List Int} {n : Nat} (hr : Right xs n) {t : Nat} (ht : t < n) (h : ∀ q, q < n → opC xs (chase xs q t) = 7) : ∀ k, opC xs (chase xs k t) = 7 := by
  intro k
  induction k generalizing t with
  | zero => exact h 0 (by omega)
  | succ k ih =>
    have hs : ∀ q, chase xs q (chase xs 1 t) = chase xs (q + 1) t := fun q => by rw [Nat.add_comm q 1, chase_add]
    rw [← hs k]
    refine ih (chase_lt hr ht 1) fun q hq => ?_
    rw [hs q]
    by_cases e : q + 1 = n
    · rw [e]; exact chase_round hr ht h
    · exact h _ (by omega)
/-- Done once more nothing turns. -/
theorem endTo_twice {xs : List Int} {n : Nat} (hr : Right xs n) {t : Nat} (ht : t < n) : endTo (jumpsL xs n) n (endTo xs n t) = endTo xs n t := by
  by_cases h7 : opC xs (chase xs n t) = 7
  · have he : endTo xs n t = t := by unfold endTo; rw [if_pos h7]
    rw [he]
    have hall : ∀ k, opC xs (chase xs k t) = 7 := fun k => by
      apply Classical.byContradiction
      intro hk
      by_cases hkn : k ≤ n
      · have := endTo_at hkn hk
        rw [show n = k + (n - k) from by omega, chase_add, chase_stop hk] at h7
        exact hk h7
      · -- all of the first n are jumps: then all are
        have hfirst : ∀ q, q < n → opC xs (chase xs q t) = 7 := fun q hq => by
          apply Classical.byContradiction
          intro hne
          rw [show n = q + (n - q) from by omega, chase_add, chase_stop hne] at h7
          exact hne h7
        exact hk (chase_ever hr ht hfirst k)
    unfold endTo
    rw [chase_turn hr ht hall, turnK_op, if_pos h7]
  · have he : endTo xs n t = chase xs n t := by unfold endTo; rw [if_neg h7]
    rw [he]
    have hs : opC (jumpsL xs n) (chase xs n t) ≠ 7 := by rw [turnK_op]; exact h7
    unfold endTo
    rw [chase_stop hs, if_neg hs]
theorem jumps_twice {xs : List Int} {n : Nat} (hr : Right xs n) : jumpsL (jumpsL xs n) n = jumpsL xs n := by
  refine ext4 (m := n) (by rw [turnK_len, turnK_len]; exact hr.len) (by rw [turnK_len]; exact hr.len) fun j hj => ⟨turnK_op _ _ _ _, turnK_a _ _ _ _, turnK_b _ _ _ _, ?_⟩
  rw [turnK_to (by rw [turnK_len]; exact hr.len) _ _ _ hj, turnK_isT]
  by_cases hT : isT xs j = true
  · have h67 : opC xs j = 6 ∨ opC xs j = 7 := by unfold isT at hT; exact of_decide_eq_true hT
    have ht := insB_to (hr.ins j hj) h67
    have e1 : toC (jumpsL xs n) j = jumpF xs n j := by rw [turnK_to hr.len _ _ _ hj, if_pos ⟨hj, hT⟩]
    rw [if_pos ⟨hj, hT⟩, e1]
    have e2 : jumpF (jumpsL xs n) n j = (endTo (jumpsL xs n) n (toC (jumpsL xs n) j).toNat : Nat) := rfl
    rw [e2, e1]
    unfold jumpF
    rw [Int.toNat_natCast, endTo_twice hr (by omega)]
  · rw [if_neg (fun h => hT h.2)]
end Go.Proofs.Ytogpfagdpkjmmaa

/- How many stay, and where their jumps go: as plain data. -/
namespace Go.Proofs.Ytogpfagdpkjmmaa

/-- How many of the first k are marked, or are the last one. -/
def cntS (R : List Bool) : Nat → Nat
  | 0 => 0
  | k + 1 => cntS R k + if R.getD k false = true ∨ k + 1 = R.length then 1 else 0
theorem cntS_le (R : List Bool) (k : Nat) : cntS R k ≤ k := by
  induction k with
  | zero => simp [cntS]
  | succ k ih => rw [cntS]; split <;> omega
theorem cntK_cntS {xs : List Int} {n : Nat} (k : Nat) (hk : k ≤ n) : cntK xs n k ≤ cntS (comeL xs n) k := by
  induction k with
  | zero => simp [cntK]
  | succ k ih =>
    have ih := ih (by omega)
    rw [cntK, cntS]
    by_cases h : keepB xs n k = true
    · rw [if_pos h]
      have hs : (comeL xs n).getD k false = true ∨ k + 1 = (comeL xs n).length := by
        unfold keepB at h
        rw [Bool.and_eq_true, standL_get xs (by omega)] at h
        by_cases e : k = n - 1
        · right; rw [comeL_len]; omega
        · left; rw [if_neg e] at h; exact h.1
      rw [if_pos hs]; omega
    · rw [if_neg h]; split <;> omega
theorem dead_few {xs : List Int} {n : Nat} : deadN xs n ≤ cntS (reachR xs n) (reachR xs n).length := by
  unfold deadN reachR
  split
  · rw [comeL_len]; exact cntK_cntS n (Nat.le_refl _)
  · exact Nat.zero_le _
theorem cntK_lt {xs : List Int} {n t : Nat} (hr : Right xs n) (ht : t < n) : cntK xs n t < cntK xs n n := by
  have lo := hr.lo
  obtain ⟨m, rfl⟩ : ∃ m, n = m + 1 := ⟨n - 1, by omega⟩
  have h13 := (hr.last m (by omega)).2 rfl
  have hk : keepB xs (m + 1) m = true := by
    unfold keepB
    rw [standL_get xs (by omega), if_pos (by omega)]
    have : idleB xs (m + 1) m = false := by unfold idleB; simp [h13]
    rw [this]; rfl
  have h1 := cntK_mono xs (m + 1) (show t ≤ m by omega)
  rw [show cntK xs (m + 1) (m + 1) = cntK xs (m + 1) m + 1 from by rw [cntK, if_pos hk]]
  omega
theorem dead_to {xs : List Int} {n j : Nat} (hl : xs.length = n * 4) (hj : j < deadN xs n) (hT : opC (deadR xs n) j = 6 ∨ opC (deadR xs n) j = 7) : toC (deadR xs n) j < deadN xs n := by
  by_cases hc : codeB xs n = true
  · have hr := codeB_true hl hc
    have e1 : deadR xs n = deadK xs n n := by unfold deadR; rw [if_pos hc]
    have e2 : deadN xs n = cntK xs n n := by unfold deadN; rw [if_pos hc]
    rw [e2] at hj ⊢
    rw [e1] at hT ⊢
    obtain ⟨h1, _, _, h4, h5⟩ := dead_kept hr n (Nat.le_refl _) j hj
    have hk : isT (keptK xs n n) j = true := by unfold isT; rw [← h1]; exact decide_eq_true hT
    have h5 := h5 hk
    rw [h4, if_pos hk]
    have := cntK_lt hr (t := (toC (keptK xs n n) j).toNat) (by omega)
    omega
  · have : deadN xs n = 0 := by unfold deadN; rw [if_neg hc]
    omega
end Go.Proofs.Ytogpfagdpkjmmaa

/- Code without what is dead is right: as plain data. -/
namespace Go.Proofs.Ytogpfagdpkjmmaa

/-- Where a kept instruction stands then. -/
theorem dead_at {xs : List Int} {n : Nat} : ∀ k, ∀ i, i < k → keepB xs n i = true →
    opC (deadK xs n k) (cntK xs n i) = opC xs i ∧ aC (deadK xs n k) (cntK xs n i) = aC xs i ∧ bC (deadK xs n k) (cntK xs n i) = bC xs i ∧ toC (deadK xs n k) (cntK xs n i) = deadT xs n i := by
  intro k
  induction k with
  | zero => intro i hi; omega
  | succ k ih =>
    intro i hi hk
    have l1 := deadK_len xs n k
    by_cases hkp : keepB xs n k = true
    · rw [deadK, if_pos hkp]
      by_cases e : i = k
      · subst e
        have q : ∀ (r : Nat), (deadK xs n i ++ insL xs i (deadT xs n i)).getD (cntK xs n i * 4 + r) 0 = (insL xs i (deadT xs n i)).getD r 0 := fun r => by
          rw [getD_right _ _ _ (by omega)]; congr 1; omega
        exact ⟨q 0, q 1, q 2, q 3⟩
      · have hlt : cntK xs n i < cntK xs n k := by
          have h1 : cntK xs n (i + 1) = cntK xs n i + 1 := by rw [cntK, if_pos hk]
          have h2 := cntK_mono xs n (show i + 1 ≤ k by omega)
          omega
        have q : ∀ (r : Nat), r < 4 → (deadK xs n k ++ insL xs k (deadT xs n k)).getD (cntK xs n i * 4 + r) 0 = (deadK xs n k).getD (cntK xs n i * 4 + r) 0 := fun r hr => getD_left _ _ _ (by omega)
        obtain ⟨h1, h2, h3, h4⟩ := ih i (by omega) hk
        exact ⟨(q 0 (by omega)).trans h1, (q 1 (by omega)).trans h2, (q 2 (by omega)).trans h3, (q 3 (by omega)).trans h4⟩
    · rw [deadK, if_neg hkp]
      exact ih i (by
        rcases Nat.lt_or_ge i k with h | h
        · exact h
        · have : i = k := by omega
          subst this; exact absurd hk hkp) hk

/-- Which one stands there then. -/
noncomputable def oldK (xs : List Int) (n : Nat) : Nat → Nat → Nat
  | 0, _ => 0
  | k + 1, j => if keepB xs n k = true ∧ cntK xs n k = j then k else oldK xs n k j
theorem oldK_spec {xs : List Int} {n : Nat} : ∀ k j, j < cntK xs n k → oldK xs n k j < k ∧ keepB xs n (oldK xs n k j) = true ∧ cntK xs n (oldK xs n k j) = j := by
  intro k
  induction k with
  | zero => intro j hj; simp [cntK] at hj
  | succ k ih =>
    intro j hj
    rw [oldK]
    split
    · rename_i h; exact ⟨by omega, h.1, h.2⟩
    · rename_i h
      rw [cntK] at hj
      by_cases hkp : keepB xs n k = true
      · rw [if_pos hkp] at hj
        obtain ⟨a, b, c⟩ := ih j (by
          rcases Nat.lt_or_ge j (cntK xs n k) with h1 | h1
          · exact h1
          · exact absurd ⟨hkp, by omega⟩ h)
        exact ⟨by omega, b, c⟩
      · rw [if_neg hkp] at hj
        obtain ⟨a, b, c⟩ := ih j (by omega)
        exact ⟨by omega, b, c⟩
theorem cntK_inj {xs : List Int} {n i k : Nat} (hi : keepB xs n i = true) (hk : keepB xs n k = true) (h : cntK xs n i = cntK xs n k) : i = k := by
  have key : ∀ a b, keepB xs n a = true → a < b → cntK xs n a < cntK xs n b := fun a b ha hab => by
    have h1 : cntK xs n (a + 1) = cntK xs n a + 1 := by rw [cntK, if_pos ha]
    have h2 := cntK_mono xs n (show a + 1 ≤ b by omega)
    omega
  rcases Nat.lt_trichotomy i k with h1 | h1 | h1
  · have := key i k hi h1; omega
  · exact h1
  · have := key k i hk h1; omega
theorem oldK_cnt {xs : List Int} {n i : Nat} (hi : i < n) (hk : keepB xs n i = true) : oldK xs n n (cntK xs n i) = i := by
  have hlt : cntK xs n i < cntK xs n n := by
    have h1 : cntK xs n (i + 1) = cntK xs n i + 1 := by rw [cntK, if_pos hk]
    have h2 := cntK_mono xs n (show i + 1 ≤ n by omega)
    omega
  obtain ⟨_, b, c⟩ := oldK_spec n _ hlt
  exact cntK_inj b hk c

theorem insB_other {o a b t : Int} {m m' : Nat} (h : insB o a b t m = true) (h6 : o ≠ 6) (h7 : o ≠ 7) : insB o a b t m' = true := by
  unfold insB at h ⊢
  rw [if_neg h6, if_neg h7] at h ⊢
  exact h
theorem insB_new {o a b t t' : Int} {m m' : Nat} (h : insB o a b t m = true) (ho : o = 6 ∨ o = 7) (h0 : 0 ≤ t') (h1 : t' < m') : insB o a b t' m' = true := by
  unfold insB at h ⊢
  rw [if_neg (by omega)] at h ⊢
  rcases ho with rfl | rfl
  · rw [if_pos rfl] at h ⊢
    have := of_decide_eq_true h
    exact decide_eq_true (by omega)
  · rw [if_neg (by decide), if_pos rfl] at h ⊢
    have := of_decide_eq_true h
    exact decide_eq_true (by omega)

theorem keep_last {xs : List Int} {n : Nat} (hr : Right xs n) : keepB xs n (n - 1) = true := by
  have lo := hr.lo
  have h13 := (hr.last (n - 1) (by omega)).2 (by omega)
  unfold keepB
  rw [standL_get xs (by omega), if_pos rfl]
  have : idleB xs n (n - 1) = false := by unfold idleB; simp [h13]
  rw [this]; rfl
theorem dead_right {xs : List Int} {n : Nat} (hr : Right xs n) : Right (deadK xs n n) (cntK xs n n) := by
  have lo := hr.lo
  have hkl := keep_last hr
  have hcl : cntK xs n n = cntK xs n (n - 1) + 1 := by
    obtain ⟨m, rfl⟩ : ∃ m, n = m + 1 := ⟨n - 1, by omega⟩
    rw [show m + 1 - 1 = m from rfl] at hkl ⊢
    rw [cntK, if_pos hkl]
  refine ⟨deadK_len xs n n, by omega, by have := cntK_le xs n n; have := hr.hi; omega, fun j hj => ?_, fun j hj => ?_⟩
  · obtain ⟨ha, hb, hc⟩ := oldK_spec n j hj
    generalize oldK xs n n j = i at *
    subst hc
    obtain ⟨h1, h2, h3, h4⟩ := dead_at n i ha hb
    rw [h1, h2, h3, h4]
    unfold deadT
    by_cases hT : isT xs i = true
    · rw [if_pos hT]
      have h67 : opC xs i = 6 ∨ opC xs i = 7 := by unfold isT at hT; exact of_decide_eq_true hT
      have ht := insB_to (hr.ins i ha) h67
      have := cntK_lt hr (t := (toC xs i).toNat) (by omega)
      exact insB_new (hr.ins i ha) h67 (by omega) (by omega)
    · rw [if_neg hT]
      have hne : opC xs i ≠ 6 ∧ opC xs i ≠ 7 := by unfold isT at hT; simp at hT; exact hT
      exact insB_other (hr.ins i ha) hne.1 hne.2
  · obtain ⟨ha, hb, hc⟩ := oldK_spec n j hj
    generalize oldK xs n n j = i at *
    subst hc
    rw [(dead_at n i ha hb).1, hr.last i ha]
    constructor
    · intro e
      have : i = n - 1 := by omega
      rw [this]; omega
    · intro e
      have := cntK_inj hb hkl (by omega)
      omega

/-- From a place to which one may come the next kept one is come to in the same room. -/
theorem kept_from {xs : List Int} {n : Nat} (hr : Right xs n) {ρ : Nat → Option Int} (hρ : Lab xs n ρ) {r : Int} : ∀ d k, n - k ≤ d → Come xs k → ρ k = some r → ∃ i, i < n ∧ keepB xs n i = true ∧ cntK xs n i = cntK xs n k ∧ Come xs i ∧ ρ i = some r := by
  intro d
  induction d with
  | zero => intro k hd hc _; have := hc.lt hr; omega
  | succ d ih =>
    intro k hd hc hk
    have hkn := hc.lt hr
    by_cases hkp : keepB xs n k = true
    · exact ⟨k, hkn, hkp, rfl, hc, hk⟩
    · -- it is a jump to the next one that stands
      have hst : (standL xs n).getD k false = true := by
        classical
        rw [standL_get xs hkn]
        split
        · rfl
        · rw [comeL_get hkn]; exact decide_eq_true hc
      have hid : idleB xs n k = true := by
        unfold keepB at hkp
        rw [hst] at hkp
        cases h : idleB xs n k
        · rw [h] at hkp; simp at hkp
        · rfl
      have hid' : opC xs k = 7 ∧ toC xs k = (nxt xs n k : Nat) := by unfold idleB at hid; exact of_decide_eq_true hid
      have ht := insB_to (hr.ins k hkn) (.inr hid'.1)
      have hnx : nxt xs n k ∈ nextX xs k := by
        unfold nextX nextO
        rw [hid'.1, if_neg (by decide), if_pos rfl, hid'.2, Int.toNat_natCast]
        exact List.mem_cons_self ..
      obtain ⟨r', h1, h2⟩ := hρ.step k r hkn hk
      have er : r = r' := by
        unfold heldX heldO at h1
        rw [hid'.1, if_neg (by decide), if_neg (by decide), if_neg (by decide), if_neg (by decide)] at h1
        injection h1
      subst er
      have hgt : k + 1 ≤ nxt xs n k := by unfold nxt; omega
      obtain ⟨i, i1, i2, i3, i4, i5⟩ := ih (nxt xs n k) (by omega) (.step hc hnx) (h2 _ hnx)
      refine ⟨i, i1, i2, i3.trans ?_, i4, i5⟩
      -- none is kept on the way
      have hno : ∀ q, k ≤ q → q < nxt xs n k → keepB xs n q = false := fun q h1 h2 => by
        by_cases e : q = k
        · subst e; exact Bool.eq_false_iff.2 hkp
        · have h3 : q - (k + 1) < idxT ((standL xs n).drop (k + 1)) := by unfold nxt at h2; omega
          have h4 := idxT_no h3
          rw [getD_drop, show k + 1 + (q - (k + 1)) = q from by omega] at h4
          unfold keepB; rw [h4]; rfl
      have hcn : ∀ e, k + e ≤ nxt xs n k → cntK xs n (k + e) = cntK xs n k := by
        intro e
        induction e with
        | zero => intro _; rfl
        | succ e ihe =>
          intro he
          have h5 := hno (k + e) (by omega) (by omega)
          rw [show k + (e + 1) = k + e + 1 from by omega, cntK, h5, ihe (by omega)]
          simp
      have := hcn (nxt xs n k - k) (by omega)
      rwa [show k + (nxt xs n k - k) = nxt xs n k from by omega] at this

open Classical in
theorem dead_lab {xs : List Int} {n : Nat} (hr : Right xs n) {ρ : Nat → Option Int} (hρ : Lab xs n ρ) : ∃ ρ', Lab (deadK xs n n) (cntK xs n n) ρ' := by
  have key : ∀ k r, Come xs k → ρ k = some r → (fun j => if Come xs (oldK xs n n j) then ρ (oldK xs n n j) else none) (cntK xs n k) = some r := fun k r hc hk => by
    obtain ⟨i, i1, i2, i3, i4, i5⟩ := kept_from hr hρ (n - k) k (Nat.le_refl _) hc hk
    show (if Come xs (oldK xs n n (cntK xs n k)) then ρ (oldK xs n n (cntK xs n k)) else none) = some r
    rw [← i3, oldK_cnt i1 i2, if_pos i4]; exact i5
  refine ⟨fun j => if Come xs (oldK xs n n j) then ρ (oldK xs n n j) else none, key 0 (-1) .zero hρ.start, fun j r hj h => ?_⟩
  obtain ⟨ha, hb, hc⟩ := oldK_spec n j hj
  have hcome : Come xs (oldK xs n n j) := by
    apply Classical.byContradiction
    intro hno
    have h' : (if Come xs (oldK xs n n j) then ρ (oldK xs n n j) else none) = some r := h
    rw [if_neg hno] at h'; cases h'
  have hri : ρ (oldK xs n n j) = some r := by
    have h' : (if Come xs (oldK xs n n j) then ρ (oldK xs n n j) else none) = some r := h
    rwa [if_pos hcome] at h'
  generalize oldK xs n n j = i at *
  subst hc
  obtain ⟨h1, h2, h3, h4⟩ := dead_at n i ha hb
  obtain ⟨r', s1, s2⟩ := hρ.step i r ha hri
  refine ⟨r', by unfold heldX; rw [h1, h2]; exact s1, fun q hq => ?_⟩
  have hsucc : cntK xs n (i + 1) = cntK xs n i + 1 := by rw [cntK, if_pos hb]
  have go : ∀ k, k ∈ nextX xs i → (fun j => if Come xs (oldK xs n n j) then ρ (oldK xs n n j) else none) (cntK xs n k) = some r' := fun k hk => key k r' (.step hcome hk) (s2 k hk)
  unfold nextX nextO at hq
  rw [h1, h4] at hq
  by_cases h6 : opC xs i = 6
  · have hT : isT xs i = true := by unfold isT; exact decide_eq_true (.inl h6)
    rw [if_pos h6] at hq
    unfold deadT at hq
    rw [if_pos hT, Int.toNat_natCast] at hq
    rcases List.mem_cons.1 hq with e | hq
    · rw [e, ← hsucc]; exact go _ (by unfold nextX nextO; rw [if_pos h6]; exact List.mem_cons_self ..)
    · rcases List.mem_cons.1 hq with e | hq
      · rw [e]; exact go _ (by unfold nextX nextO; rw [if_pos h6]; simp)
      · cases hq
  · rw [if_neg h6] at hq
    by_cases h7 : opC xs i = 7
    · have hT : isT xs i = true := by unfold isT; exact decide_eq_true (.inr h7)
      rw [if_pos h7] at hq
      unfold deadT at hq
      rw [if_pos hT, Int.toNat_natCast] at hq
      rcases List.mem_cons.1 hq with e | hq
      · rw [e]; exact go _ (by unfold nextX nextO; rw [if_neg h6, if_pos h7]; exact List.mem_cons_self ..)
      · cases hq
    · rw [if_neg h7] at hq
      by_cases h13 : opC xs i = 13
      · rw [if_pos h13] at hq; cases hq
      · rw [if_neg h13] at hq
        rcases List.mem_cons.1 hq with e | hq
        · rw [e, ← hsucc]; exact go _ (by unfold nextX nextO; rw [if_neg h6, if_neg h7, if_neg h13]; exact List.mem_cons_self ..)
        · cases hq
theorem dead_ok {xs : List Int} {n : Nat} (hr : Right xs n) (hc : codeB xs n = true) : codeB (deadK xs n n) (cntK xs n n) = true := by
  rw [codeB_right (dead_right hr)]
  rw [codeB_right hr] at hc
  apply Classical.byContradiction
  intro hno
  have hl : ∀ ρ, Lab xs n ρ → False := fun ρ hρ => by
    obtain ⟨ρ', h'⟩ := dead_lab hr hρ
    exact hno (roomsB_true h')
  rw [roomsB_false hl] at hc
  cases hc
end Go.Proofs.Ytogpfagdpkjmmaa

/- What Slim gives: as plain data. -/
namespace Go.Proofs.Ytogpfagdpkjmmaa

/-- Code that is right. -/
def Good (p : List Int × Nat) : Prop := p.1.length = p.2 * 4 ∧ codeB p.1 p.2 = true
theorem Good.right {p : List Int × Nat} (h : Good p) : Right p.1 p.2 := codeB_true h.1 h.2
theorem stp_good {p : List Int × Nat} (h : Good p) : stp p = (deadK (jumpsL p.1 p.2) p.2 p.2, cntK (jumpsL p.1 p.2) p.2 p.2) := by
  have h1 := jumps_ok h.right h.2
  have e1 : jumpsR p.1 p.2 = jumpsL p.1 p.2 := by unfold jumpsR; rw [if_pos h.2]
  have e2 : jumpsN p.1 p.2 = p.2 := by unfold jumpsN; rw [if_pos h.2]
  unfold stp
  rw [e1, e2]
  unfold deadR deadN
  rw [if_pos h1, if_pos h1]
theorem good_stp {p : List Int × Nat} (h : Good p) : Good (stp p) := by
  rw [stp_good h]
  have h1 := jumps_right h.right
  exact ⟨deadK_len _ _ _, dead_ok h1 (jumps_ok h.right h.2)⟩

theorem all_kept {xs : List Int} {n : Nat} : ∀ k, cntK xs n k = k → ∀ i, i < k → keepB xs n i = true := by
  intro k
  induction k with
  | zero => intro _ i hi; omega
  | succ k ih =>
    intro h i hi
    have hle := cntK_le xs n k
    rw [cntK] at h
    by_cases hk : keepB xs n k = true
    · rw [if_pos hk] at h
      rcases Nat.lt_or_ge i k with h1 | h1
      · exact ih (by omega) i h1
      · have : i = k := by omega
        subst this; exact hk
    · rw [if_neg hk] at h; omega
theorem cnt_all {xs : List Int} {n : Nat} : ∀ k, (∀ i, i < k → keepB xs n i = true) → cntK xs n k = k := by
  intro k
  induction k with
  | zero => intro _; rfl
  | succ k ih => intro h; rw [cntK, if_pos (h k (by omega)), ih (fun i hi => h i (by omega))]
theorem dead_all {xs : List Int} {n : Nat} (hr : Right xs n) (h : cntK xs n n = n) : deadK xs n n = xs := by
  have hk := all_kept n h
  have hi : ∀ i, i ≤ n → cntK xs n i = i := fun i hi => cnt_all i (fun j hj => hk j (by omega))
  refine ext4 (m := n) (by rw [deadK_len, h]) hr.len fun j hj => ?_
  obtain ⟨h1, h2, h3, h4⟩ := dead_at n j hj (hk j hj)
  rw [hi j (by omega)] at h1 h2 h3 h4
  refine ⟨h1, h2, h3, h4.trans ?_⟩
  unfold deadT
  split
  · rename_i hT
    have h67 : opC xs j = 6 ∨ opC xs j = 7 := by unfold isT at hT; exact of_decide_eq_true hT
    have ht := insB_to (hr.ins j hj) h67
    rw [hi _ (by omega)]; omega
  · rfl

theorem stp_same {p : List Int × Nat} (h : Good p) (hn : (stp p).2 = p.2) : stp p = (jumpsL p.1 p.2, p.2) := by
  rw [stp_good h] at hn ⊢
  have hn' : cntK (jumpsL p.1 p.2) p.2 p.2 = p.2 := hn
  rw [dead_all (jumps_right h.right) hn', hn']
theorem stp_twice {p : List Int × Nat} (h : Good p) (hn : (stp p).2 = p.2) : stp (stp p) = stp p := by
  have e := stp_same h hn
  have hg := good_stp h
  have hc : cntK (jumpsL p.1 p.2) p.2 p.2 = p.2 := by rw [stp_good h] at hn; exact hn
  rw [e] at hg ⊢
  rw [stp_good hg]
  show (deadK (jumpsL (jumpsL p.1 p.2) p.2) p.2 p.2, cntK (jumpsL (jumpsL p.1 p.2) p.2) p.2 p.2) = _
  rw [jumps_twice h.right, hc, dead_all (jumps_right h.right) hc]
theorem slimI_fix {p : List Int × Nat} (h : stp p = p) (k : Nat) : slimI k p = p := by
  cases k with
  | zero => rfl
  | succ k => rw [slimI, h, if_pos rfl]
theorem slim_fix : ∀ k, ∀ p : List Int × Nat, Good p → p.2 ≤ k → Good (slimI k p) ∧ stp (slimI k p) = slimI k p := by
  intro k
  induction k with
  | zero => intro p h hk; have := h.right.lo; omega
  | succ k ih =>
    intro p h hk
    have hg := good_stp h
    rw [slimI]
    split
    · rename_i he
      have hn : (stp p).2 = p.2 := by
        have l1 := hg.1
        have l2 := h.1
        rw [he] at l1
        omega
      exact ⟨hg, stp_twice h hn⟩
    · by_cases hn : (stp p).2 = p.2
      · have hf := stp_twice h hn
        rw [slimI_fix hf]
        exact ⟨hg, hf⟩
      · have hle := stp_le p
        exact ih _ hg (by omega)
/-- Where both passes turn nothing, all are come to but the last. -/
theorem fix_come {p : List Int × Nat} (h : Good p) (hf : stp p = p) {i : Nat} (hi : i + 1 < p.2) : (comeL p.1 p.2).getD i false = true := by
  have hn : (stp p).2 = p.2 := by rw [hf]
  have e := stp_same h hn
  rw [hf] at e
  have hj : jumpsL p.1 p.2 = p.1 := (congrArg Prod.fst e).symm
  have hc : cntK p.1 p.2 p.2 = p.2 := by
    rw [stp_good h, hj] at hn; exact hn
  have hk := all_kept p.2 hc i (by omega)
  unfold keepB at hk
  rw [Bool.and_eq_true, standL_get _ (by omega), if_neg (by omega)] at hk
  exact hk.1
/-- All of it. -/
theorem slim_ok {xs : List Int} {n : Nat} (hl : xs.length = n * 4) (hc : codeB xs n = true) :
    (slimR xs n).length = slimN xs n * 4 ∧ codeB (slimR xs n) (slimN xs n) = true ∧ 1 ≤ slimN xs n ∧ slimR (slimR xs n) (slimN xs n) = slimR xs n ∧ slimN (slimR xs n) (slimN xs n) = slimN xs n ∧
      ∀ i, i + 1 < slimN xs n → (comeL (slimR xs n) (slimN xs n)).getD i false = true := by
  have hg : Good (xs, n) := ⟨hl, hc⟩
  obtain ⟨g, f⟩ := slim_fix 60 (xs, n) hg hg.right.hi
  have e : slimI 60 (slimR xs n, slimN xs n) = (slimR xs n, slimN xs n) := slimI_fix f 60
  refine ⟨g.1, g.2, g.right.lo, congrArg Prod.fst e, congrArg Prod.snd e, fun i hi => fix_come g f hi⟩
end Go.Proofs.Ytogpfagdpkjmmaa

/- The walk of laws.FnSlim. -/
namespace Go.Proofs.Ytogpfagdpkjmmaa
open Go.ChangeShapes Go.WideShapes Go.ChangeAt Go.RowKit

set_option maxRecDepth 100000 in
set_option maxHeartbeats 8000000 in
theorem wFnSlim (A : Option Addr) (n c : Nat) (w : World) (h : Bytes w A n) (hn : n ≤ c) (hc : c ≤ maxLen) :
    Calls Try.prog 12 #[.slice A n c] w fun e w' => e = .returned (.bool true) ∧ Below w.heap.size w w' := by
  by_cases hl : 1048576 < n
  · go_enter Try.func12, Try.ntmps12
    go_wp2
    go_ret
    exact ⟨rfl, Below.refl _ _⟩
  · go_enter Try.func12, Try.ntmps12
    go_wp2_with fail
    refine (drawSlim A n c _ h hn hc).mono ?_
    rintro e w1 ⟨ys, m, B, cB, rfl, o1, hm50, b1⟩
    have f1 := own_fl1 o1
    have hyl := f1.len
    have z1 := b1.size
    clear o1
    go_wp2_with fail
    refine (implSlim f1).mono ?_
    rintro e w2 ⟨v2, rfl, o2, hb2⟩
    have z2 := hb2.size
    have b2 := b1.trans (hb2.mono z1)
    have f2 := f1.later hb2
    obtain ⟨A2, c2, rfl⟩ := own_slc' o2
    clear f1 hb2
    go_wp2_with fail
    refine (specSlim f2).mono ?_
    rintro e w3 ⟨v3, rfl, o3, hb3⟩
    have z3 := hb3.size
    have b3 := b2.trans (hb3.mono (by omega))
    have f3 := f2.later hb3
    have o23 := own_below o2 hb3
    obtain ⟨A3, c3, rfl⟩ := own_slc' o3
    clear f2 hb3 o2
    go_wp2_with fail
    refine (codeSame (own_fl1 o23) (own_fl1 o3)).mono ?_
    rintro e w4 ⟨rfl, hb4⟩
    rw [decide_eq_true rfl]
    have z4 := hb4.size
    have b4 := b3.trans (hb4.mono (by omega))
    have f4 := f3.later hb4
    have o24 := own_below o23 hb4
    clear f3 hb4 o23 o3
    go_wp2_with fail
    refine (specCodeOk f4).mono ?_
    rintro e w5 ⟨rfl, hb5⟩
    have z5 := hb5.size
    have b5 := b4.trans (hb5.mono (by omega))
    have o25 := own_below o24 hb5
    clear f4 hb5 o24
    have hle := slimN_le ys m
    cases hcb : codeB ys m
    · have hz : slimN ys m = 0 := congrArg Prod.snd (slim_bad hcb)
      rw [hz] at o25 ⊢
      clear hz hcb o25 hle
      go_wp2_with fail
      go_ret
      exact ⟨rfl, b5⟩
    · obtain ⟨k1, k2, k3, k4, k5, k6⟩ := slim_ok hyl hcb
      have hrr : reachR (slimR ys m) (slimN ys m) = comeL (slimR ys m) (slimN ys m) := by unfold reachR; rw [if_pos k2]
      have hRl := comeL_len (slimR ys m) (slimN ys m)
      clear hcb
      generalize slimR ys m = xs at *
      generalize slimN ys m = d at *
      generalize comeL xs d = R at *
      subst hRl
      have HOK := Lib.hid k2
      have HFX := Lib.hid (And.intro k4 k5)
      have HRR := Lib.hid hrr
      have HC := Lib.hid k6
      have HX := Lib.hid o25
      clear k1 k2 k4 k5 k6 hrr o25 hyl
      go_wp2_with fail
      refine (implSlimReach (own_fl1 HX.out)).mono ?_
      rintro e w6 ⟨v6, rfl, o6, hb6⟩
      rw [HRR.out] at o6
      have b6 := b5.trans (hb6.mono b5.size)
      have z6 := hb6.size
      have HX6 := Lib.hid (own_below HX.out hb6)
      obtain ⟨g6, c6, rfl, _, _⟩ := own_some' o6 (by omega)
      have HR := Lib.hid o6
      clear o6 hb6 HX HRR
      go_wp2_with fail
      go_loopw [6] (fun i wr => ∃ k : Nat, k + 1 ≤ R.length ∧ i = .int .i64 k ∧ Below w6.heap.size w6 wr) (fun i _ => R.length - (intOf i).toNat)
      case atStart => exact ⟨0, by omega, rfl, Below.refl _ _⟩
      case round =>
        obtain ⟨k, hk, rfl, hbw⟩ := hrel
        by_cases hlt : k + 1 < R.length
        · have ck := (own_below HR.out hbw).cellAt k (by omega)
          rw [bls_get (by omega), HC.out k hlt] at ck
          go_wp2_with fail
          go_roundw
          case rel => exact ⟨k + 1, by omega, by go_num, hbw⟩
          case measure => simp [intOf]; omega
        · have b7 := b6.trans (hbw.mono b6.size)
          have hcx := codeOk (own_fl1 (own_below HX6.out hbw))
          rw [HOK.out] at hcx
          have HCX := Lib.hid hcx
          have HX7 := Lib.hid (own_below HX6.out hbw)
          clear hcx HR HC HX6
          go_wp2_with fail
          refine HCX.out.mono ?_
          rintro e w8 ⟨rfl, hb8⟩
          have b8 := b7.trans (hb8.mono b7.size)
          have HX8 := Lib.hid (own_below HX7.out hb8)
          have gle : (R.length : Int) ≤ (m : Int) := by omega
          clear HX7 HCX hb8
          go_wp2_with fail
          refine (implSlim (own_fl1 HX8.out)).mono ?_
          rintro e w9 ⟨v9, rfl, o9, hb9⟩
          rw [HFX.out.1, HFX.out.2] at o9
          have b9 := b8.trans (hb9.mono b8.size)
          have HX9 := Lib.hid (own_below HX8.out hb9)
          obtain ⟨A9, c9, rfl⟩ := own_slc' o9
          have O9 := Lib.hid o9
          clear o9 hb9 HX8
          go_wp2_with fail
          refine (codeSame (own_fl1 O9.out) (own_fl1 HX9.out)).mono ?_
          rintro e w10 ⟨rfl, hb10⟩
          rw [decide_eq_true rfl]
          have b10 := b9.trans (hb10.mono b9.size)
          go_wp2_with fail
          go_ret
          exact ⟨rfl, b10⟩
end Go.Proofs.Ytogpfagdpkjmmaa

/- From a walk to the statement: the row's last step where nothing old has turned, whatever came in. -/
namespace Go.Proofs.Ytogpfagdpkjmmaa
open Go.ChangeShapes Go.WideShapes Go.ChangeAt Go.RowKit

theorem own : ownKnob Try.prog.godebug = none := by kernel_rfl
theorem laidOut : laidOutB Try.prog = true := by kernel_rfl

section
variable {H : Type} {enc : TypeId × Value → H}

variable {P : Program}
/-- The row's last step where below the heap's old size nothing has turned. -/
theorem post_below {f : Func} {s : ChangeSpec} {apart fresh handsOn again : Bool} {W W' : World} {args : Array Value} {v : Value} {ds gs : List (DataW H)} {before pa pv : List MemPlace}
    (hW : DataW.Whole enc P f.params.toList s.vars apart W args.toList ds gs before)
    (hres : ∀ (b : Nat) (sp : Nat → Bool) (hd : Bool), DataW.TrodAll enc P W' b sp hd f.resultTypes.toList (v.resultList f.resultTypes.size) (s.fn H (ds ++ gs)).results [])
    (hargs : ∀ sp : Nat → Bool, (∀ p ∈ before, sp p.block = true) → DataW.TrodAll enc P W' 0 sp true f.params.toList args.toList (s.fn H (ds ++ gs)).args pa)
    (hvars : ∀ sp : Nat → Bool, (∀ p ∈ before, sp p.block = true) → DataW.TrodVars enc P W' sp s.vars (s.fn H (ds ++ gs)).vars pv)
    (hps : before = pa ++ pv) (hb : Below W.heap.size W W')
    (hok : ∀ (j : Nat) (t : TypeId) (r : Value), f.resultTypes[j]? = some t → (v.resultList f.resultTypes.size)[j]? = some r → Value.okWide P W' .any 0 t r) :
    s.post enc P f apart fresh handsOn again W args v W' := by
  have lt : ∀ p ∈ before, p.block < W.heap.size := fun p hp => hW.lt p hp
  have old : ∀ p ∈ before, (fun b => decide (b < W.heap.size)) p.block = true := fun p hp => decide_eq_true (lt p hp)
  have frame : W.keptBut W' (fun p => p ∈ before ∧ (p ∈ ([] : List MemPlace) ∨ p ∈ pa ∨ p ∈ pv)) :=
    World.keptBut_mono (fun p hp => ⟨hp, Or.inr (by rw [hps] at hp; simpa using hp)⟩) (hb.frame (· ∈ before))
  obtain ⟨_, _, _, _, _, hz, hn⟩ := id hW
  refine ⟨ds, gs, before, [], pa, pv, hW, hres _ _ _, hargs _ old, hvars _ old, by simpa using frame, fun _ => ?_⟩
  refine ⟨hok, _, _, ([] ++ pa) ++ pv, ⟨[] ++ pa, pv, trodAll_append (hargs _ (fun _ _ => rfl)) (hres _ _ _), hvars _ (fun _ _ => rfl), rfl, fun b off hp => ?_, fun ha => ?_⟩, fun p hp _ => ?_⟩
  · have hin : MemPlace.cell b off ∈ before := by rw [hps]; simpa using hp
    rw [hb.frozen (lt _ hin)]
    exact hz b off hin
  · have := hn ha
    rw [hps] at this
    simpa using this
  · rw [hps]
    simpa using hp

/-- An argument reads behind the call as it did, whatever counts as spare. -/
theorem arg_kept {t : TypeId} (hl : laidOutB P = true) (hr : P.readableRec t = true) (hrow : t < P.types.size) {W W' : World} {v : Value} {d : DataW H} {ps : List MemPlace} {sp : Nat → Bool}
    (h : DataW.Trod enc P W 0 (fun _ => true) true t v d ps) (hb : Below W.heap.size W W') (hlt : ∀ x ∈ ps, x.block < W.heap.size) (hsp : ∀ x ∈ ps, sp x.block = true) : DataW.Trod enc P W' 0 sp true t v d ps :=
  WideElems.Trod_stays hl hr hrow h (fun x hx => hb.same (hlt x hx)) (fun x hx => hsp x hx)
end
end Go.Proofs.Ytogpfagdpkjmmaa

/- From a walk to the statement: what a slice of bytes that comes in gives a walk, and the row's last step where nothing old has turned. -/
namespace Go.Proofs.Ytogpfagdpkjmmaa
open Go.ChangeShapes Go.WideShapes Go.ChangeAt Go.RowKit

theorem cellsU8 : Try.prog.cellsOf 5 = 1 := by kernel_rfl

section
variable {H : Type} {enc : TypeId × Value → H}

set_option maxRecDepth 100000 in
/-- A slice of bytes that came in: its length fits, and each of its bytes can be read. -/
theorem open_code {W : World} {base : Nat} {v : Value} {d : DataW H} {ps : List MemPlace} (hval : Value.okWide Try.prog W .any base 35 v) (h : DataW.Trod enc Try.prog W 0 (fun _ => true) true 35 v d ps) :
    ∃ (A : Option Addr) (n c : Nat), v = .slice A n c ∧ n ≤ c ∧ c ≤ maxLen ∧ Bytes W A n := by
  obtain ⟨A, n, c, rfl⟩ := okWide_slice Try.underlying35 hval
  obtain ⟨fuel, hf⟩ := h
  rcases open_ints Try.underlying35 Try.underlying5 cellsU8 hf with ⟨hcs, _⟩ | ⟨a, n', c', zs, hcs, _, hl, hm, hz, _, hcell, hwz⟩
  · simp [Value.cells] at hcs
    obtain ⟨rfl, rfl, rfl⟩ := hcs
    exact ⟨none, 0, 0, rfl, Nat.le_refl _, Nat.zero_le _, fun h => absurd h (by omega)⟩
  · simp [Value.cells] at hcs
    obtain ⟨rfl, rfl, rfl⟩ := hcs
    simp only [if_true] at hz
    refine ⟨_, _, _, rfl, hl, hm, fun h0 => ⟨a, rfl, ?_, fun i hi => ?_⟩⟩
    · have := World.block_lt_of_cell? _ _ (hcell 0 (by omega))
      rwa [add_block] at this
    · have hb := range_u8 hwz i
      exact ⟨zs.getD i 0, by simpa [List.getD] using hb.1, by simpa [List.getD] using hb.2, hcell i (by omega)⟩

end
end Go.Proofs.Ytogpfagdpkjmmaa

namespace Go.Proofs.Ytogpfagdpkjmmaa.pFnSlim
open Go.ChangeShapes Go.WideShapes Go.ChangeAt Go.RowKit

set_option maxRecDepth 100000 in
theorem lifted (os : Os) (started : os.Started) (H : Type) (enc : TypeId × Value → H) :
    ReturnsInHanded {} Try.checked os 12 .any (Rows.fnSlimSpec.pre6 enc Try.prog Try.f12 Rows.fnSlimRow.domain false) (Rows.fnSlimSpec.post enc Try.prog Try.f12 false true false false) := by
  refine returnsInHanded_of_change (C := Try.checked) own started (by kernel_rfl) Try.func12
    (ChangeSpec.witness6 (enc := enc) (C := Try.checked) false ⟨#[], #[.slice none 0 0], []⟩ 8 (by kernel_rfl) (by kernel_rfl) (by kernel_rfl) (by kernel_rfl)) ?_
  intro W base args ds gs before hval0 hW hcnd _
  have hval : ∀ (j : Nat) t v, Try.f12.params[j]? = some t → args[j]? = some v → Value.okWide Try.prog W .any base t v := hval0
  have hW' := hW
  obtain ⟨p, q, hA0, hV, rfl, _, _⟩ := hW
  have hA : DataW.TrodAll enc Try.prog W 0 (fun _ => true) true Try.f12.params.toList args.toList ds p := hA0
  rw [Try.params12] at hA hval
  obtain ⟨v0, vs0, d0, ds0, p0, q0, hargs, rfl, rfl, h0, r0⟩ := trodAll_cons hA
  obtain ⟨rfl, rfl, rfl⟩ := trodAll_nil r0
  obtain rfl : args = #[v0] := by cases args; simp_all
  obtain ⟨rfl, rfl⟩ := trodVars_none hV
  obtain ⟨A0, n0, c0, rfl, l0, m0, b0⟩ := open_code (hval 0 35 v0 rfl rfl) h0
  clear hA0 hval0
  simp only [List.append_nil] at hW'
  refine (wFnSlim A0 n0 c0 W b0 l0 m0).mono fun e W' ⟨he, hb⟩ => ?_
  subst he
  have lt0 : ∀ x ∈ p0, x.block < W.heap.size := fun x hx => hW'.lt x (hx)
  have hargs' : ∀ sp : Nat → Bool, (∀ x ∈ p0, sp x.block = true) → DataW.TrodAll enc Try.prog W' 0 sp true [35] [.slice A0 n0 c0] [d0] (p0) := fun sp hsp => by
    have h : DataW.TrodAll enc Try.prog W' 0 sp true _ _ _ _ := (trodAll_cons_mk (arg_kept laidOut (by kernel_rfl) (of_decide_eq_true (by kernel_rfl)) h0 hb lt0 (fun x hx => hsp x (hx))) trodAll_mk0)
    simpa only [List.append_nil] using h
  exact ⟨_, rfl, post_below (pa := p0) (pv := []) hW' (fun _ _ _ => (trodAll_cons_mk (shut_bool Try.underlying4 _) trodAll_mk0)) (fun sp hsp => hargs' sp hsp) (fun _ _ => rfl) (by simp)
    hb (ok_one (by kernel_rfl) rfl (okWide_bool_mk Try.underlying4 _))⟩

/-- THE STATEMENT. -/
theorem proved : Rows.FnSlimSaid :=
  OpenClaim.holds_of_wide 12 Try.f12 rfl rfl rfl rfl rfl rfl rfl ⟨rfl, rfl, rfl, rfl, rfl⟩ rfl rfl rfl rfl rfl (by kernel_rfl) Try.func12 (by kernel_rfl)
    (of_decide_eq_true (by kernel_rfl)) (by unfold Func.isWrapper; first | (rw [if_pos (by decide +kernel)]; kernel_rfl) | (rw [if_neg (by decide +kernel)]; exact ⟨rfl, rfl⟩))
    (fun os started H enc _ => lifted os started H enc)
#print axioms proved
end Go.Proofs.Ytogpfagdpkjmmaa.pFnSlim
