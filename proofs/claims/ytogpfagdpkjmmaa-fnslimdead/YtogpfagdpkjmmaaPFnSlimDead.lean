/- PROVED: laws.FnSlimDead returns true for every input, and its arguments read as before. No condition. -/
import Derived.Test.YtogpfagdpkjmmaaSlimDeadI
import Derived.Test.YtogpfagdpkjmmaaIns
import Derived.Laws.StructEq
import Derived.Test.YtogpfagdpkjmmaaBools
import Derived.Test.YtogpfagdpkjmmaaBent9
import Derived.Test.YtogpfagdpkjmmaaRows
import Derived.WalkKit
import Derived.ProofKit
import Derived.OpenShut
import Derived.Below
import Derived.Carry
import Derived.Test.YtogpfagdpkjmmaaOpen
/- SlimDead, of the program and of the model. -/
namespace Go.Proofs.Ytogpfagdpkjmmaa
open Go.ChangeShapes Go.WideShapes Go.ChangeAt Go.RowKit

set_option maxRecDepth 100000 in
theorem implSlimDead {xs : List Int} {A : Option Addr} {n c : Nat} {S : Nat → Prop} {w : World} (hs : Fl w S 4 xs A n c) :
    Calls Try.prog 29 #[.slice A n c] w fun e w' => ∃ v, e = .returned v ∧ w'.ownsRow w.heap.size 40 4 v (deadN xs n) (ints (deadR xs n)) ∧ Below w.heap.size w w' := by
  cases hc : codeB xs n
  · have hco := codeOk hs
    rw [hc] at hco
    have HC := Lib.hid hco
    rw [show deadR xs n = [] from by unfold deadR; rw [hc]; rfl, show deadN xs n = 0 from by unfold deadN; rw [hc]; rfl]
    clear hco hc
    go_enter Try.func29, Try.ntmps29
    go_wp2_with fail
    refine HC.out.mono ?_
    rintro e w1 ⟨rfl, hb⟩
    go_wp2_with fail
    go_ret
    exact ⟨_, rfl, World.ownsRow_nil _ _ _ _, hb⟩
  · have h := (callsIn_wide (n := 6)).1 (slimDeadR hs (codeB_true hs.len hc) hc)
    rw [show deadR xs n = deadK xs n n from by unfold deadR; rw [if_pos hc], show deadN xs n = cntK xs n n from by unfold deadN; rw [if_pos hc]]
    exact h

theorem rowSet {w : World} {b i : Nat} {vs : Array Value} {t : TypeId} (h : w.heap[b]? = some (.cells vs t (0, 0))) (v : Value) : (w.setCell ⟨b, i, none⟩ v).heap[b]? = some (.cells (vs.setIfInBounds i v) t (0, 0)) := by
  simp [World.setCell, Array.getElem?_modify, h]
theorem four_cells {w : World} {b : Nat} {x y z u : Value} {t : TypeId} (h : w.heap[b]? = some (.cells #[x, y, z, u] t (0, 0))) : ∀ j v, [x, y, z, u][j]? = some v → w.cell? ((⟨b, 0, none⟩ : Addr).add j) = some v := by
  intro j v hj
  match j, hj with
  | 0, hj => simp at hj; subst hj; simp [World.cell?, h, Addr.add]
  | 1, hj => simp at hj; subst hj; simp [World.cell?, h, Addr.add]
  | 2, hj => simp at hj; subst hj; simp [World.cell?, h, Addr.add]
  | 3, hj => simp at hj; subst hj; simp [World.cell?, h, Addr.add]
  | (j + 4), hj => simp at hj

/-- How many are kept ahead of each of the first k. -/
noncomputable def placeL (xs : List Int) (n k : Nat) : List Int := (List.range k).map fun i => ((cntK xs n i : Nat) : Int)
theorem placeL_succ (xs : List Int) (n k : Nat) : ints (placeL xs n (k + 1)) = ints (placeL xs n k) ++ [.int .i64 (cntK xs n k : Nat)] := by
  unfold placeL
  rw [List.range_succ, List.map_append, ints_app]; rfl
theorem placeL_get {xs : List Int} {n k i : Nat} (h : i < k) : (placeL xs n k).getD i 0 = (cntK xs n i : Nat) := by
  simp [placeL, List.getD, h]
theorem placeL_len (xs : List Int) (n k : Nat) : (placeL xs n k).length = k := by simp [placeL]

set_option maxRecDepth 100000 in
set_option maxHeartbeats 8000000 in
theorem specSlimDead {xs : List Int} {A : Option Addr} {n c : Nat} {S : Nat → Prop} {w : World} (hs : Fl w S 4 xs A n c) :
    Calls Try.prog 28 #[.slice A n c] w fun e w' => ∃ v, e = .returned v ∧ w'.ownsRow w.heap.size 40 4 v (deadN xs n) (ints (deadR xs n)) ∧ Below w.heap.size w w' := by
  cases hc : codeB xs n
  · have hco := specCodeOk hs
    rw [hc] at hco
    have HC := Lib.hid hco
    rw [show deadR xs n = [] from by unfold deadR; rw [hc]; rfl, show deadN xs n = 0 from by unfold deadN; rw [hc]; rfl]
    clear hco hc
    go_enter Try.func28, Try.ntmps28
    go_wp2_with fail
    refine HC.out.mono ?_
    rintro e w1 ⟨rfl, hb⟩
    go_wp2_with fail
    go_ret
    have z1 := hb.size
    exact ⟨_, rfl, World.ownsRow_lit (base := w.heap.size) (e := 40) (size := 4) w1 #[] 0 z1 (Nat.zero_le _) rfl, hb.alloc z1 _⟩
  · have hr := codeB_true hs.len hc
    have hn60 := hr.hi
    have hn1 := hr.lo
    have hlen := hs.len
    obtain ⟨a, rfl⟩ := hs.some (by omega)
    obtain ⟨i0, hi, hz0, hz1, hz2⟩ := info_parts infoIns
    obtain ⟨j0, hj, jz0, jz1, jz2⟩ := info_parts infoInt
    have hco := specCodeOk hs
    rw [hc] at hco
    have HC := Lib.hid hco
    have HR := Lib.hid hr
    have HS := Lib.hid hs
    have HL := Lib.hid (fun (W : World) (h : Below w.heap.size w W) => l9Reach_ (hs.later h) hr hc)
    rw [show deadR xs n = deadK xs n n from by unfold deadR; rw [if_pos hc], show deadN xs n = cntK xs n n from by unfold deadN; rw [if_pos hc]]
    clear hco hc hs hr
    go_enter Try.func28, Try.ntmps28
    go_wp2_with fail
    refine HC.out.mono ?_
    rintro e w1 ⟨rfl, hb1⟩
    have z1 := hb1.size
    go_wp2_with fail
    refine (HL.out w1 hb1).mono ?_
    rintro e w2 ⟨v2, rfl, o2, hb2⟩
    have z2 := hb2.size
    obtain ⟨gr, cr, rfl, _, _⟩ := own_some' o2 (by omega)
    have b2 := hb1.trans (hb2.mono z1)
    have O2 := Lib.hid o2
    clear HC HL o2 hb2
    go_wp2_with fail
    go_loopw [4, 5, 6] (fun v q i wr => ∃ k : Nat, k ≤ n ∧ i = .int .i64 k ∧ q = .int .i64 (cntK xs n k : Nat) ∧ wr.ownsRow w2.heap.size 3 1 v k (ints (placeL xs n k)) ∧ Below w2.heap.size w2 wr) (fun _ _ i _ => n - (intOf i).toNat)
    case atStart =>
      refine ⟨0, Nat.zero_le _, rfl, rfl, ?_, (Below.refl _ _).alloc (Nat.le_refl _) _⟩
      exact World.ownsRow_lit (base := w2.heap.size) (e := 3) (size := 1) w2 #[] 0 (Nat.le_refl _) (Nat.zero_le _) rfl
    case round =>
      obtain ⟨k, hk, rfl, rfl, hown, hb⟩ := hrel
      have hsz := hb.size
      have hcnt := cntK_le xs n k
      by_cases hlt : k < n
      · have HPL := Lib.hid (placeL_succ xs n k)
        have HKE := Lib.hid (fun (W : World) (h : Below w2.heap.size w2 W) => l9Keeps_ (HS.out.later (b2.trans (h.mono (by omega)))) HR.out hlt (own_below O2.out h))
        have HCN := Lib.hid (show cntK xs n (k + 1) = cntK xs n k + if keepB xs n k = true then 1 else 0 from rfl)
        go_wp2_with (first | (at_builtin; refine wpList_append_at _ rfl _ _ 43 rfl w2.heap.size 3 j0 (.int .i64 0) 1 8 Try.underlying43 hj jz0 jz1 jz2 rfl (by decide) _ _ _ rfl (hown.alloc _) ⟨wr.heap.size, 0, none⟩ 1 1 [.int .i64 (cntK xs n k : Nat)] rfl rfl ?c1 ?c2 ?c3 ?c4 ?c5 (by decide) ?_) | fail)
        case c1 =>
          intro j u hj
          match j, hj with
          | 0, hj => simp at hj; subst hj; simp [Addr.add]
        case c2 => intro u hu; simp at hu; subst hu; rfl
        case c3 => unfold maxLen; omega
        case c4 => omega
        case c5 => simp; omega
        intro v' w3 hown' hgrow _
        have hbw : Below w2.heap.size w2 w3 := (hb.alloc hsz _).grown hgrow (by simp; omega) (fun b hb' => (own_at hown hb').1)
        rw [← HPL.out] at hown'
        have HO := Lib.hid hown'
        clear hown' hown hgrow HPL
        go_wp2_with fail
        refine (HKE.out w3 hbw).mono ?_
        rintro e w4 ⟨rfl, hb4⟩
        have hbw4 := hbw.trans (hb4.mono hbw.size)
        have HO4 := Lib.hid (own_below HO.out hb4)
        clear HKE HO hb4
        cases hkp : keepB xs n k
        · have HC1 := Lib.hid (show cntK xs n (k + 1) = cntK xs n k from by rw [HCN.out, hkp]; rfl)
          clear HCN hkp
          go_wp2_with fail
          go_roundw
          case rel => exact ⟨k + 1, by omega, by go_num, by rw [HC1.out], HO4.out, hbw4⟩
          case measure => simp [intOf]; omega
        · have HC1 := Lib.hid (show cntK xs n (k + 1) = cntK xs n k + 1 from by rw [HCN.out, hkp]; rfl)
          clear HCN hkp
          generalize cntK xs n k = q at *
          go_wp2_with fail
          go_roundw
          case rel => exact ⟨k + 1, by omega, by go_num, by rw [HC1.out]; go_num, HO4.out, hbw4⟩
          case measure => simp [intOf]; omega
      · obtain rfl : n = k := by omega
        obtain ⟨gp, cp, rfl, _, _⟩ := own_some' hown (by omega)
        have HP := Lib.hid hown
        have hgp := own_at hown (b := gp) rfl
        have bW := b2.trans (hb.mono (by omega))
        clear hown
        go_wp2_with fail
        generalize wr = W1 at *
        clear wr
        go_loopw [7, 8] (fun v i W => ∃ k : Nat, k ≤ n ∧ i = .int .i64 k ∧ W.ownsRow W1.heap.size 40 4 v (cntK xs n k) (ints (deadK xs n k)) ∧ Below W1.heap.size W1 W) (fun _ i _ => n - (intOf i).toNat)
        case atStart =>
          refine ⟨0, Nat.zero_le _, rfl, ?_, (Below.refl _ _).alloc (Nat.le_refl _) _⟩
          exact World.ownsRow_lit (base := W1.heap.size) (e := 40) (size := 4) W1 #[] 0 (Nat.le_refl _) (Nat.zero_le _) rfl
        case round =>
          obtain ⟨k, hk, rfl, hown, hbw⟩ := hrel
          have hsw := hbw.size
          by_cases hlt2 : k < n
          · have hcn := cntK_le xs n k
            have hbA : Below w2.heap.size w2 wr := hb.trans (hbw.mono hb.size)
            have HKE := Lib.hid (l9Keeps_ (HS.out.later (b2.trans (hbA.mono (by omega)))) HR.out hlt2 (own_below O2.out hbA))
            obtain ⟨A7, c7, rfl⟩ := own_slc' hown
            go_wp2_with fail
            refine HKE.out.mono ?_
            rintro e w4 ⟨rfl, hb4⟩
            have hbw4 := hbw.trans (hb4.mono hsw)
            have hown4 := own_below hown hb4
            have hz4 := hb4.size
            have hP4 := own_below (own_below HP.out hbw) hb4
            clear HKE hown hb4 hbA
            cases hkp : keepB xs n k
            · have HD := Lib.hid (show cntK xs n (k + 1) = cntK xs n k ∧ deadK xs n (k + 1) = deadK xs n k from ⟨by rw [cntK, hkp]; rfl, by rw [deadK, hkp]; rfl⟩)
              have HO4 := Lib.hid hown4
              clear hkp hown4 hP4
              go_wp2_with fail
              go_roundw
              case rel => exact ⟨k + 1, by omega, by go_num, by rw [HD.out.1, HD.out.2]; exact HO4.out, hbw4⟩
              case measure => simp [intOf]; omega
            · have HD := Lib.hid (show cntK xs n (k + 1) = cntK xs n k + 1 ∧ ints (deadK xs n (k + 1)) = ints (deadK xs n k) ++ ints (insL xs k (deadT xs n k)) from ⟨by rw [cntK, hkp]; rfl, by rw [deadK, if_pos hkp, ints_app]⟩)
              obtain ⟨c0, c1, c2, c3⟩ := (HS.out.later (bW.trans (hbw4.mono bW.size))).four k hlt2
              have h0 : xs.getD (k * 4) 0 = opC xs k := rfl
              have h1 : xs.getD (k * 4 + 1) 0 = aC xs k := rfl
              have h2 : xs.getD (k * 4 + 2) 0 = bC xs k := rfl
              have h3 : xs.getD (k * 4 + 3) 0 = toC xs k := rfl
              rw [h0] at c0
              rw [h1] at c1
              rw [h2] at c2
              rw [h3] at c3
              have HO4 := Lib.hid hown4
              clear hown4 h0 h1 h2 h3 hkp
              cases hT : isT xs k
              · have hdT : deadT xs n k = toC xs k := by unfold deadT; rw [hT]; rfl
                have hne : opC xs k ≠ 6 ∧ opC xs k ≠ 7 := by unfold isT at hT; have := of_decide_eq_false hT; omega
                have e6 : (opC xs k == 6) = false := by simpa using hne.1
                have e7 : (opC xs k == 7) = false := by simpa using hne.2
                have HIL := Lib.hid (show ints (insL xs k (deadT xs n k)) = [.int .i64 (opC xs k), .int .i64 (aC xs k), .int .i64 (bC xs k), .int .i64 (toC xs k)] from by rw [hdT]; rfl)
                clear hdT hne hP4
                generalize opC xs k = o at *
                generalize aC xs k = x1 at *
                generalize bC xs k = x2 at *
                generalize toC xs k = t at *
                obtain ⟨V1, hV1⟩ : ∃ V1, w4.alloc (.cells #[.int .i64 o, .int .i64 x1, .int .i64 x2, .int .i64 t] 40) = V1 := ⟨_, rfl⟩
                have q1 := World.alloc_heap_new w4 (.cells #[.int .i64 o, .int .i64 x1, .int .i64 x2, .int .i64 t] 40)
                have zV := World.size_alloc w4 (.cells #[.int .i64 o, .int .i64 x1, .int .i64 x2, .int .i64 t] 40)
                have HOV := Lib.hid (HO4.out.alloc (.cells #[.int .i64 o, .int .i64 x1, .int .i64 x2, .int .i64 t] 40))
                have hbV := hbw4.alloc hbw4.size (.cells #[.int .i64 o, .int .i64 x1, .int .i64 x2, .int .i64 t] 40)
                rw [hV1] at q1 zV HOV hbV
                have d0 : V1.cell? ⟨w4.heap.size, 0, none⟩ = some (.int .i64 o) := by simp [World.cell?, q1]
                have d1 : V1.cell? ⟨w4.heap.size, 1, none⟩ = some (.int .i64 x1) := by simp [World.cell?, q1]
                have d2 : V1.cell? ⟨w4.heap.size, 2, none⟩ = some (.int .i64 x2) := by simp [World.cell?, q1]
                have d3 : V1.cell? ⟨w4.heap.size, 3, none⟩ = some (.int .i64 t) := by simp [World.cell?, q1]
                clear q1
                go_wp2_with (first | (at_builtin; refine wpList_append_at _ rfl _ _ 25 rfl W1.heap.size 40 i0 (.agg #[.int .i64 0, .int .i64 0, .int .i64 0, .int .i64 0]) 4 32 Try.underlying25 hi hz0 hz1 hz2 rfl (by decide) _ _ _ rfl (HOV.out.alloc _) ⟨w4.heap.size + 1, 0, none⟩ 1 1 [.int .i64 o, .int .i64 x1, .int .i64 x2, .int .i64 t] rfl rfl ?c1 ?c2 ?c3 ?c4 ?c5 (by decide) ?_) | fail)
                case c1 =>
                  intro j u hj
                  have q := World.alloc_heap_new V1 (.cells #[.int .i64 o, .int .i64 x1, .int .i64 x2, .int .i64 t] 40)
                  rw [zV] at q
                  exact four_cells q j u hj
                case c2 => intro u hu; simp at hu; rcases hu with rfl | rfl | rfl | rfl <;> rfl
                case c3 => unfold maxLen; omega
                case c4 => omega
                case c5 => simp; omega
                intro v' w7 hown' hgrow _
                have hbw7 : Below W1.heap.size W1 w7 := (hbV.alloc hbV.size _).grown hgrow (by simp; omega) (fun b hb' => (own_at HOV.out hb').1)
                rw [← HIL.out, ← HD.out.2, ← HD.out.1] at hown'
                have HO7 := Lib.hid hown'
                obtain ⟨A8, c8, rfl⟩ := own_slc' hown'
                clear hown' hgrow HOV d0 d1 d2 d3 c0 c1 c2 c3 HIL
                have HC1 := Lib.hid HD.out.1
                rw [HC1.out] at HO7
                go_wp2_with fail
                go_roundw
                case rel => exact ⟨k + 1, by omega, by go_num, by rw [HC1.out]; exact HO7.out, hbw7⟩
                case measure => simp [intOf]; omega
              · have h67 : opC xs k = 6 ∨ opC xs k = 7 := by unfold isT at hT; exact of_decide_eq_true hT
                have hto := insB_to (HR.out.ins k hlt2) h67
                obtain ⟨t, ht⟩ : ∃ t : Nat, toC xs k = (t : Int) := ⟨(toC xs k).toNat, by omega⟩
                have hdT : deadT xs n k = (cntK xs n t : Nat) := by unfold deadT; rw [if_pos hT, ht]; rfl
                have HIL := Lib.hid (show ints (insL xs k (deadT xs n k)) = [.int .i64 (opC xs k), .int .i64 (aC xs k), .int .i64 (bC xs k), .int .i64 (cntK xs n t : Nat)] from by rw [hdT]; rfl)
                rw [ht] at c3 hto
                clear hdT ht hT
                have hpt := placeL_get (xs := xs) (n := n) (k := n) (i := t) (by omega)
                have hpl := placeL_len xs n n
                generalize opC xs k = o at *
                generalize aC xs k = x1 at *
                generalize bC xs k = x2 at *
                obtain ⟨V1, hV1⟩ : ∃ V1, w4.alloc (.cells #[.int .i64 o, .int .i64 x1, .int .i64 x2, .int .i64 (t : Int)] 40) = V1 := ⟨_, rfl⟩
                have q1 := World.alloc_heap_new w4 (.cells #[.int .i64 o, .int .i64 x1, .int .i64 x2, .int .i64 (t : Int)] 40)
                have zV := World.size_alloc w4 (.cells #[.int .i64 o, .int .i64 x1, .int .i64 x2, .int .i64 (t : Int)] 40)
                have hoV := HO4.out.alloc (.cells #[.int .i64 o, .int .i64 x1, .int .i64 x2, .int .i64 (t : Int)] 40)
                have hpV := hP4.alloc (.cells #[.int .i64 o, .int .i64 x1, .int .i64 x2, .int .i64 (t : Int)] 40)
                have hbV := hbw4.alloc hbw4.size (.cells #[.int .i64 o, .int .i64 x1, .int .i64 x2, .int .i64 (t : Int)] 40)
                rw [hV1] at q1 zV hoV hpV hbV
                have d0 : V1.cell? ⟨w4.heap.size, 0, none⟩ = some (.int .i64 o) := by simp [World.cell?, q1]
                have d3 : V1.cell? ⟨w4.heap.size, 3, none⟩ = some (.int .i64 (t : Int)) := by simp [World.cell?, q1]
                have f3 : V1.frozen? ⟨w4.heap.size, 3, none⟩ = false := by simp [World.frozen?, q1]
                have cpt := hpV.cellAt t (by omega)
                rw [ints_get (by omega), hpt] at cpt
                generalize cntK xs n t = ct at *
                have q2 := rowSet (i := 3) q1 (.int .i64 (ct : Int))
                obtain ⟨V2, hV2⟩ : ∃ V2, V1.setCell ⟨w4.heap.size, 3, none⟩ (.int .i64 (ct : Int)) = V2 := ⟨_, rfl⟩
                have zV2 : V2.heap.size = w4.heap.size + 1 := by rw [← hV2]; simp [zV]
                have hb2V := hbV.setCell (p := ⟨w4.heap.size, 3, none⟩) hbw4.size (.int .i64 (ct : Int))
                have ho2V := hoV.kept (grownSet V1 ⟨w4.heap.size, 3, none⟩ (.int .i64 (ct : Int))) (.inr (fun e => by have := (own_at HO4.out (b := w4.heap.size) e).2; omega))
                rw [hV2] at q2 hb2V ho2V
                have q2' : V2.heap[w4.heap.size]? = some (.cells #[.int .i64 o, .int .i64 x1, .int .i64 x2, .int .i64 (ct : Int)] 40 (0, 0)) := q2
                have g0 : V2.cell? ⟨w4.heap.size, 0, none⟩ = some (.int .i64 o) := by simp [World.cell?, q2']
                have g1 : V2.cell? ⟨w4.heap.size, 1, none⟩ = some (.int .i64 x1) := by simp [World.cell?, q2']
                have g2 : V2.cell? ⟨w4.heap.size, 2, none⟩ = some (.int .i64 x2) := by simp [World.cell?, q2']
                have g3 : V2.cell? ⟨w4.heap.size, 3, none⟩ = some (.int .i64 (ct : Int)) := by simp [World.cell?, q2']
                have HOV := Lib.hid ho2V
                clear q1 q2 q2' hoV hpV ho2V hP4 hpt hpl
                have he : (o == 7) = true ∨ ((o == 7) = false ∧ (o == 6) = true) := by
                  rcases h67 with h | h
                  · right; rw [h]; exact ⟨rfl, rfl⟩
                  · left; rw [h]; rfl
                clear h67
                rcases he with e7 | ⟨e7, e6⟩
                all_goals
                  go_wp2_with (first | (at_builtin; refine wpList_append_at _ rfl _ _ 25 rfl W1.heap.size 40 i0 (.agg #[.int .i64 0, .int .i64 0, .int .i64 0, .int .i64 0]) 4 32 Try.underlying25 hi hz0 hz1 hz2 rfl (by decide) _ _ _ rfl (HOV.out.alloc _) ⟨w4.heap.size + 1, 0, none⟩ 1 1 [.int .i64 o, .int .i64 x1, .int .i64 x2, .int .i64 (ct : Int)] rfl rfl ?c1 ?c2 ?c3 ?c4 ?c5 (by decide) ?_) | fail)
                  case c1 =>
                    intro j u hj
                    have q := World.alloc_heap_new V2 (.cells #[.int .i64 o, .int .i64 x1, .int .i64 x2, .int .i64 (ct : Int)] 40)
                    rw [zV2] at q
                    exact four_cells q j u hj
                  case c2 => intro u hu; simp at hu; rcases hu with rfl | rfl | rfl | rfl <;> rfl
                  case c3 => unfold maxLen; omega
                  case c4 => omega
                  case c5 => simp; omega
                  intro v' w7 hown' hgrow _
                  have hbw7 : Below W1.heap.size W1 w7 := (hb2V.alloc hb2V.size _).grown hgrow (by simp; omega) (fun b hb' => (own_at HOV.out hb').1)
                  rw [← HIL.out, ← HD.out.2, ← HD.out.1] at hown'
                  have HO7 := Lib.hid hown'
                  obtain ⟨A8, c8, rfl⟩ := own_slc' hown'
                  clear hown' hgrow HOV d0 d3 f3 cpt c0 c1 c2 c3 HIL g0 g1 g2 g3
                  have HC1 := Lib.hid HD.out.1
                  rw [HC1.out] at HO7
                  go_wp2_with fail
                  go_roundw
                  case rel => exact ⟨k + 1, by omega, by go_num, by rw [HC1.out]; exact HO7.out, hbw7⟩
                  case measure => simp [intOf]; omega
          · obtain rfl : n = k := by omega
            obtain ⟨A7, c7, rfl⟩ := own_slc' hown
            have HO := Lib.hid (own_mono hown bW.size)
            have hbF := bW.trans (hbw.mono bW.size)
            clear hown
            go_wp2_with fail
            go_ret
            exact ⟨_, rfl, HO.out, hbF⟩
end Go.Proofs.Ytogpfagdpkjmmaa

/- How many stay, and where their jumps go: as plain data. -/
namespace Go.Proofs.Ytogpfagdpkjmmaa

/-- How many of the first k are marked, or are the last one. -/
def cntS (R : List Bool) : Nat → Nat
  | 0 => 0
  | k + 1 => cntS R k + if R.getD k false = true ∨ k + 1 = R.length then 1 else 0
theorem cntS_le (R : List Bool) (k : Nat) : cntS R k ≤ k := by
  induction k with
  | zero => simp [cntS]
  | succ k ih => rw [cntS]; split <;> omega
theorem cntK_cntS {xs : List Int} {n : Nat} (k : Nat) (hk : k ≤ n) : cntK xs n k ≤ cntS (comeL xs n) k := by
  induction k with
  | zero => simp [cntK]
  | succ k ih =>
    have ih := ih (by omega)
    rw [cntK, cntS]
    by_cases h : keepB xs n k = true
    · rw [if_pos h]
      have hs : (comeL xs n).getD k false = true ∨ k + 1 = (comeL xs n).length := by
        unfold keepB at h
        rw [Bool.and_eq_true, standL_get xs (by omega)] at h
        by_cases e : k = n - 1
        · right; rw [comeL_len]; omega
        · left; rw [if_neg e] at h; exact h.1
      rw [if_pos hs]; omega
    · rw [if_neg h]; split <;> omega
theorem dead_few {xs : List Int} {n : Nat} : deadN xs n ≤ cntS (reachR xs n) (reachR xs n).length := by
  unfold deadN reachR
  split
  · rw [comeL_len]; exact cntK_cntS n (Nat.le_refl _)
  · exact Nat.zero_le _
theorem cntK_lt {xs : List Int} {n t : Nat} (hr : Right xs n) (ht : t < n) : cntK xs n t < cntK xs n n := by
  have lo := hr.lo
  obtain ⟨m, rfl⟩ : ∃ m, n = m + 1 := ⟨n - 1, by omega⟩
  have h13 := (hr.last m (by omega)).2 rfl
  have hk : keepB xs (m + 1) m = true := by
    unfold keepB
    rw [standL_get xs (by omega), if_pos (by omega)]
    have : idleB xs (m + 1) m = false := by unfold idleB; simp [h13]
    rw [this]; rfl
  have h1 := cntK_mono xs (m + 1) (show t ≤ m by omega)
  rw [show cntK xs (m + 1) (m + 1) = cntK xs (m + 1) m + 1 from by rw [cntK, if_pos hk]]
  omega
theorem dead_to {xs : List Int} {n j : Nat} (hl : xs.length = n * 4) (hj : j < deadN xs n) (hT : opC (deadR xs n) j = 6 ∨ opC (deadR xs n) j = 7) : toC (deadR xs n) j < deadN xs n := by
  by_cases hc : codeB xs n = true
  · have hr := codeB_true hl hc
    have e1 : deadR xs n = deadK xs n n := by unfold deadR; rw [if_pos hc]
    have e2 : deadN xs n = cntK xs n n := by unfold deadN; rw [if_pos hc]
    rw [e2] at hj ⊢
    rw [e1] at hT ⊢
    obtain ⟨h1, _, _, h4, h5⟩ := dead_kept hr n (Nat.le_refl _) j hj
    have hk : isT (keptK xs n n) j = true := by unfold isT; rw [← h1]; exact decide_eq_true hT
    have h5 := h5 hk
    rw [h4, if_pos hk]
    have := cntK_lt hr (t := (toC (keptK xs n n) j).toNat) (by omega)
    omega
  · have : deadN xs n = 0 := by unfold deadN; rw [if_neg hc]
    omega
end Go.Proofs.Ytogpfagdpkjmmaa

/- Code without what is dead is right: as plain data. -/
namespace Go.Proofs.Ytogpfagdpkjmmaa

/-- Where a kept instruction stands then. -/
theorem dead_at {xs : List Int} {n : Nat} : ∀ k, ∀ i, i < k → keepB xs n i = true →
    opC (deadK xs n k) (cntK xs n i) = opC xs i ∧ aC (deadK xs n k) (cntK xs n i) = aC xs i ∧ bC (deadK xs n k) (cntK xs n i) = bC xs i ∧ toC (deadK xs n k) (cntK xs n i) = deadT xs n i := by
  intro k
  induction k with
  | zero => intro i hi; omega
  | succ k ih =>
    intro i hi hk
    have l1 := deadK_len xs n k
    by_cases hkp : keepB xs n k = true
    · rw [deadK, if_pos hkp]
      by_cases e : i = k
      · subst e
        have q : ∀ (r : Nat), (deadK xs n i ++ insL xs i (deadT xs n i)).getD (cntK xs n i * 4 + r) 0 = (insL xs i (deadT xs n i)).getD r 0 := fun r => by
          rw [getD_right _ _ _ (by omega)]; congr 1; omega
        exact ⟨q 0, q 1, q 2, q 3⟩
      · have hlt : cntK xs n i < cntK xs n k := by
          have h1 : cntK xs n (i + 1) = cntK xs n i + 1 := by rw [cntK, if_pos hk]
          have h2 := cntK_mono xs n (show i + 1 ≤ k by omega)
          omega
        have q : ∀ (r : Nat), r < 4 → (deadK xs n k ++ insL xs k (deadT xs n k)).getD (cntK xs n i * 4 + r) 0 = (deadK xs n k).getD (cntK xs n i * 4 + r) 0 := fun r hr => getD_left _ _ _ (by omega)
        obtain ⟨h1, h2, h3, h4⟩ := ih i (by omega) hk
        exact ⟨(q 0 (by omega)).trans h1, (q 1 (by omega)).trans h2, (q 2 (by omega)).trans h3, (q 3 (by omega)).trans h4⟩
    · rw [deadK, if_neg hkp]
      exact ih i (by
        rcases Nat.lt_or_ge i k with h | h
        · exact h
        · have : i = k := by omega
          subst this; exact absurd hk hkp) hk

/-- Which one stands there then. -/
noncomputable def oldK (xs : List Int) (n : Nat) : Nat → Nat → Nat
  | 0, _ => 0
  | k + 1, j => if keepB xs n k = true ∧ cntK xs n k = j then k else oldK xs n k j
theorem oldK_spec {xs : List Int} {n : Nat} : ∀ k j, j < cntK xs n k → oldK xs n k j < k ∧ keepB xs n (oldK xs n k j) = true ∧ cntK xs n (oldK xs n k j) = j := by
  intro k
  induction k with
  | zero => intro j hj; simp [cntK] at hj
  | succ k ih =>
    intro j hj
    rw [oldK]
    split
    · rename_i h; exact ⟨by omega, h.1, h.2⟩
    · rename_i h
      rw [cntK] at hj
      by_cases hkp : keepB xs n k = true
      · rw [if_pos hkp] at hj
        obtain ⟨a, b, c⟩ := ih j (by
          rcases Nat.lt_or_ge j (cntK xs n k) with h1 | h1
          · exact h1
          · exact absurd ⟨hkp, by omega⟩ h)
        exact ⟨by omega, b, c⟩
      · rw [if_neg hkp] at hj
        obtain ⟨a, b, c⟩ := ih j (by omega)
        exact ⟨by omega, b, c⟩
theorem cntK_inj {xs : List Int} {n i k : Nat} (hi : keepB xs n i = true) (hk : keepB xs n k = true) (h : cntK xs n i = cntK xs n k) : i = k := by
  have key : ∀ a b, keepB xs n a = true → a < b → cntK xs n a < cntK xs n b := fun a b ha hab => by
    have h1 : cntK xs n (a + 1) = cntK xs n a + 1 := by rw [cntK, if_pos ha]
    have h2 := cntK_mono xs n (show a + 1 ≤ b by omega)
    omega
  rcases Nat.lt_trichotomy i k with h1 | h1 | h1
  · have := key i k hi h1; omega
  · exact h1
  · have := key k i hk h1; omega
theorem oldK_cnt {xs : List Int} {n i : Nat} (hi : i < n) (hk : keepB xs n i = true) : oldK xs n n (cntK xs n i) = i := by
  have hlt : cntK xs n i < cntK xs n n := by
    have h1 : cntK xs n (i + 1) = cntK xs n i + 1 := by rw [cntK, if_pos hk]
    have h2 := cntK_mono xs n (show i + 1 ≤ n by omega)
    omega
  obtain ⟨_, b, c⟩ := oldK_spec n _ hlt
  exact cntK_inj b hk c

theorem insB_other {o a b t : Int} {m m' : Nat} (h : insB o a b t m = true) (h6 : o ≠ 6) (h7 : o ≠ 7) : insB o a b t m' = true := by
  unfold insB at h ⊢
  rw [if_neg h6, if_neg h7] at h ⊢
  exact h
theorem insB_new {o a b t t' : Int} {m m' : Nat} (h : insB o a b t m = true) (ho : o = 6 ∨ o = 7) (h0 : 0 ≤ t') (h1 : t' < m') : insB o a b t' m' = true := by
  unfold insB at h ⊢
  rw [if_neg (by omega)] at h ⊢
  rcases ho with rfl | rfl
  · rw [if_pos rfl] at h ⊢
    have := of_decide_eq_true h
    exact decide_eq_true (by omega)
  · rw [if_neg (by decide), if_pos rfl] at h ⊢
    have := of_decide_eq_true h
    exact decide_eq_true (by omega)

theorem keep_last {xs : List Int} {n : Nat} (hr : Right xs n) : keepB xs n (n - 1) = true := by
  have lo := hr.lo
  have h13 := (hr.last (n - 1) (by omega)).2 (by omega)
  unfold keepB
  rw [standL_get xs (by omega), if_pos rfl]
  have : idleB xs n (n - 1) = false := by unfold idleB; simp [h13]
  rw [this]; rfl
theorem dead_right {xs : List Int} {n : Nat} (hr : Right xs n) : Right (deadK xs n n) (cntK xs n n) := by
  have lo := hr.lo
  have hkl := keep_last hr
  have hcl : cntK xs n n = cntK xs n (n - 1) + 1 := by
    obtain ⟨m, rfl⟩ : ∃ m, n = m + 1 := ⟨n - 1, by omega⟩
    rw [show m + 1 - 1 = m from rfl] at hkl ⊢
    rw [cntK, if_pos hkl]
  refine ⟨deadK_len xs n n, by omega, by have := cntK_le xs n n; have := hr.hi; omega, fun j hj => ?_, fun j hj => ?_⟩
  · obtain ⟨ha, hb, hc⟩ := oldK_spec n j hj
    generalize oldK xs n n j = i at *
    subst hc
    obtain ⟨h1, h2, h3, h4⟩ := dead_at n i ha hb
    rw [h1, h2, h3, h4]
    unfold deadT
    by_cases hT : isT xs i = true
    · rw [if_pos hT]
      have h67 : opC xs i = 6 ∨ opC xs i = 7 := by unfold isT at hT; exact of_decide_eq_true hT
      have ht := insB_to (hr.ins i ha) h67
      have := cntK_lt hr (t := (toC xs i).toNat) (by omega)
      exact insB_new (hr.ins i ha) h67 (by omega) (by omega)
    · rw [if_neg hT]
      have hne : opC xs i ≠ 6 ∧ opC xs i ≠ 7 := by unfold isT at hT; simp at hT; exact hT
      exact insB_other (hr.ins i ha) hne.1 hne.2
  · obtain ⟨ha, hb, hc⟩ := oldK_spec n j hj
    generalize oldK xs n n j = i at *
    subst hc
    rw [(dead_at n i ha hb).1, hr.last i ha]
    constructor
    · intro e
      have : i = n - 1 := by omega
      rw [this]; omega
    · intro e
      have := cntK_inj hb hkl (by omega)
      omega

/-- From a place to which one may come the next kept one is come to in the same room. -/
theorem kept_from {xs : List Int} {n : Nat} (hr : Right xs n) {ρ : Nat → Option Int} (hρ : Lab xs n ρ) {r : Int} : ∀ d k, n - k ≤ d → Come xs k → ρ k = some r → ∃ i, i < n ∧ keepB xs n i = true ∧ cntK xs n i = cntK xs n k ∧ Come xs i ∧ ρ i = some r := by
  intro d
  induction d with
  | zero => intro k hd hc _; have := hc.lt hr; omega
  | succ d ih =>
    intro k hd hc hk
    have hkn := hc.lt hr
    by_cases hkp : keepB xs n k = true
    · exact ⟨k, hkn, hkp, rfl, hc, hk⟩
    · -- it is a jump to the next one that stands
      have hst : (standL xs n).getD k false = true := by
        classical
        rw [standL_get xs hkn]
        split
        · rfl
        · rw [comeL_get hkn]; exact decide_eq_true hc
      have hid : idleB xs n k = true := by
        unfold keepB at hkp
        rw [hst] at hkp
        cases h : idleB xs n k
        · rw [h] at hkp; simp at hkp
        · rfl
      have hid' : opC xs k = 7 ∧ toC xs k = (nxt xs n k : Nat) := by unfold idleB at hid; exact of_decide_eq_true hid
      have ht := insB_to (hr.ins k hkn) (.inr hid'.1)
      have hnx : nxt xs n k ∈ nextX xs k := by
        unfold nextX nextO
        rw [hid'.1, if_neg (by decide), if_pos rfl, hid'.2, Int.toNat_natCast]
        exact List.mem_cons_self ..
      obtain ⟨r', h1, h2⟩ := hρ.step k r hkn hk
      have er : r = r' := by
        unfold heldX heldO at h1
        rw [hid'.1, if_neg (by decide), if_neg (by decide), if_neg (by decide), if_neg (by decide)] at h1
        injection h1
      subst er
      have hgt : k + 1 ≤ nxt xs n k := by unfold nxt; omega
      obtain ⟨i, i1, i2, i3, i4, i5⟩ := ih (nxt xs n k) (by omega) (.step hc hnx) (h2 _ hnx)
      refine ⟨i, i1, i2, i3.trans ?_, i4, i5⟩
      -- none is kept on the way
      have hno : ∀ q, k ≤ q → q < nxt xs n k → keepB xs n q = false := fun q h1 h2 => by
        by_cases e : q = k
        · subst e; exact Bool.eq_false_iff.2 hkp
        · have h3 : q - (k + 1) < idxT ((standL xs n).drop (k + 1)) := by unfold nxt at h2; omega
          have h4 := idxT_no h3
          rw [getD_drop, show k + 1 + (q - (k + 1)) = q from by omega] at h4
          unfold keepB; rw [h4]; rfl
      have hcn : ∀ e, k + e ≤ nxt xs n k → cntK xs n (k + e) = cntK xs n k := by
        intro e
        induction e with
        | zero => intro _; rfl
        | succ e ihe =>
          intro he
          have h5 := hno (k + e) (by omega) (by omega)
          rw [show k + (e + 1) = k + e + 1 from by omega, cntK, h5, ihe (by omega)]
          simp
      have := hcn (nxt xs n k - k) (by omega)
      rwa [show k + (nxt xs n k - k) = nxt xs n k from by omega] at this

open Classical in
theorem dead_lab {xs : List Int} {n : Nat} (hr : Right xs n) {ρ : Nat → Option Int} (hρ : Lab xs n ρ) : ∃ ρ', Lab (deadK xs n n) (cntK xs n n) ρ' := by
  have key : ∀ k r, Come xs k → ρ k = some r → (fun j => if Come xs (oldK xs n n j) then ρ (oldK xs n n j) else none) (cntK xs n k) = some r := fun k r hc hk => by
    obtain ⟨i, i1, i2, i3, i4, i5⟩ := kept_from hr hρ (n - k) k (Nat.le_refl _) hc hk
    show (if Come xs (oldK xs n n (cntK xs n k)) then ρ (oldK xs n n (cntK xs n k)) else none) = some r
    rw [← i3, oldK_cnt i1 i2, if_pos i4]; exact i5
  refine ⟨fun j => if Come xs (oldK xs n n j) then ρ (oldK xs n n j) else none, key 0 (-1) .zero hρ.start, fun j r hj h => ?_⟩
  obtain ⟨ha, hb, hc⟩ := oldK_spec n j hj
  have hcome : Come xs (oldK xs n n j) := by
    apply Classical.byContradiction
    intro hno
    have h' : (if Come xs (oldK xs n n j) then ρ (oldK xs n n j) else none) = some r := h
    rw [if_neg hno] at h'; cases h'
  have hri : ρ (oldK xs n n j) = some r := by
    have h' : (if Come xs (oldK xs n n j) then ρ (oldK xs n n j) else none) = some r := h
    rwa [if_pos hcome] at h'
  generalize oldK xs n n j = i at *
  subst hc
  obtain ⟨h1, h2, h3, h4⟩ := dead_at n i ha hb
  obtain ⟨r', s1, s2⟩ := hρ.step i r ha hri
  refine ⟨r', by unfold heldX; rw [h1, h2]; exact s1, fun q hq => ?_⟩
  have hsucc : cntK xs n (i + 1) = cntK xs n i + 1 := by rw [cntK, if_pos hb]
  have go : ∀ k, k ∈ nextX xs i → (fun j => if Come xs (oldK xs n n j) then ρ (oldK xs n n j) else none) (cntK xs n k) = some r' := fun k hk => key k r' (.step hcome hk) (s2 k hk)
  unfold nextX nextO at hq
  rw [h1, h4] at hq
  by_cases h6 : opC xs i = 6
  · have hT : isT xs i = true := by unfold isT; exact decide_eq_true (.inl h6)
    rw [if_pos h6] at hq
    unfold deadT at hq
    rw [if_pos hT, Int.toNat_natCast] at hq
    rcases List.mem_cons.1 hq with e | hq
    · rw [e, ← hsucc]; exact go _ (by unfold nextX nextO; rw [if_pos h6]; exact List.mem_cons_self ..)
    · rcases List.mem_cons.1 hq with e | hq
      · rw [e]; exact go _ (by unfold nextX nextO; rw [if_pos h6]; simp)
      · cases hq
  · rw [if_neg h6] at hq
    by_cases h7 : opC xs i = 7
    · have hT : isT xs i = true := by unfold isT; exact decide_eq_true (.inr h7)
      rw [if_pos h7] at hq
      unfold deadT at hq
      rw [if_pos hT, Int.toNat_natCast] at hq
      rcases List.mem_cons.1 hq with e | hq
      · rw [e]; exact go _ (by unfold nextX nextO; rw [if_neg h6, if_pos h7]; exact List.mem_cons_self ..)
      · cases hq
    · rw [if_neg h7] at hq
      by_cases h13 : opC xs i = 13
      · rw [if_pos h13] at hq; cases hq
      · rw [if_neg h13] at hq
        rcases List.mem_cons.1 hq with e | hq
        · rw [e, ← hsucc]; exact go _ (by unfold nextX nextO; rw [if_neg h6, if_neg h7, if_neg h13]; exact List.mem_cons_self ..)
        · cases hq
theorem dead_ok {xs : List Int} {n : Nat} (hr : Right xs n) (hc : codeB xs n = true) : codeB (deadK xs n n) (cntK xs n n) = true := by
  rw [codeB_right (dead_right hr)]
  rw [codeB_right hr] at hc
  apply Classical.byContradiction
  intro hno
  have hl : ∀ ρ, Lab xs n ρ → False := fun ρ hρ => by
    obtain ⟨ρ', h'⟩ := dead_lab hr hρ
    exact hno (roomsB_true h')
  rw [roomsB_false hl] at hc
  cases hc
end Go.Proofs.Ytogpfagdpkjmmaa

/- How many of each kind stay: as plain data. -/
namespace Go.Proofs.Ytogpfagdpkjmmaa

/-- How many of the first k do this and are marked, or are the last of n. -/
def cntD (xs : List Int) (R : List Bool) (n : Nat) (op : Int) : Nat → Nat
  | 0 => 0
  | k + 1 => cntD xs R n op k + if opC xs k = op ∧ (R.getD k false = true ∨ k + 1 = n) then 1 else 0
/-- How many of the first k do this. -/
def cntE (xs : List Int) (op : Int) : Nat → Nat
  | 0 => 0
  | k + 1 => cntE xs op k + if opC xs k = op then 1 else 0
theorem cntD_le (xs : List Int) (R : List Bool) (n : Nat) (op : Int) (k : Nat) : cntD xs R n op k ≤ k := by
  induction k with
  | zero => simp [cntD]
  | succ k ih => rw [cntD]; split <;> omega
theorem cntE_le (xs : List Int) (op : Int) (k : Nat) : cntE xs op k ≤ k := by
  induction k with
  | zero => simp [cntE]
  | succ k ih => rw [cntE]; split <;> omega
theorem cntE_app {A B : List Int} {op : Int} {q : Nat} (hq : A.length = q * 4) : ∀ k, k ≤ q → cntE (A ++ B) op k = cntE A op k := by
  intro k
  induction k with
  | zero => intro _; rfl
  | succ k ih =>
    intro hk
    have e : opC (A ++ B) k = opC A k := getD_left _ _ _ (by omega)
    rw [cntE, cntE, ih (by omega), e]
theorem dead_cnt {xs : List Int} {n : Nat} (op : Int) : ∀ k, k ≤ n → (op ≠ 7 → cntE (deadK xs n k) op (cntK xs n k) = cntD xs (comeL xs n) n op k) ∧ cntE (deadK xs n k) op (cntK xs n k) ≤ cntD xs (comeL xs n) n op k := by
  intro k
  induction k with
  | zero => intro _; exact ⟨fun _ => rfl, Nat.le_refl _⟩
  | succ k ih =>
    intro hk
    obtain ⟨ih1, ih2⟩ := ih (by omega)
    have l1 := deadK_len xs n k
    rw [cntD]
    by_cases hkp : keepB xs n k = true
    · have h1 := (dead_at (n := n) (k + 1) k (by omega) hkp).1
      rw [deadK, if_pos hkp] at h1 ⊢
      rw [cntK, if_pos hkp, cntE, h1, cntE_app l1 _ (Nat.le_refl _)]
      have hs : (comeL xs n).getD k false = true ∨ k + 1 = n := by
        unfold keepB at hkp
        rw [Bool.and_eq_true, standL_get xs (by omega)] at hkp
        by_cases e : k = n - 1
        · right; omega
        · left; rw [if_neg e] at hkp; exact hkp.1
      by_cases ho : opC xs k = op
      · rw [if_pos ho, if_pos ⟨ho, hs⟩]
        exact ⟨fun h => by rw [ih1 h], by omega⟩
      · rw [if_neg ho, if_neg (fun h => ho h.1)]
        exact ⟨fun h => by rw [ih1 h], by omega⟩
    · rw [deadK, if_neg hkp, cntK, if_neg hkp, Nat.add_zero]
      refine ⟨fun h => ?_, Nat.le_trans ih2 (Nat.le_add_right _ _)⟩
      have e0 : (if opC xs k = op ∧ ((comeL xs n).getD k false = true ∨ k + 1 = n) then 1 else 0) = 0 := by
        apply if_neg
        rintro ⟨ho, hs⟩
        apply hkp
        unfold keepB
        rw [standL_get xs (by omega)]
        have hid : idleB xs n k = false := by unfold idleB; exact decide_eq_false (fun hh => h (by rw [← ho]; exact hh.1))
        rw [hid]
        by_cases e : k = n - 1
        · rw [if_pos e]; rfl
        · rw [if_neg e]
          rcases hs with hs | hs
          · rw [hs]; rfl
          · omega
      have := ih1 h
      omega
end Go.Proofs.Ytogpfagdpkjmmaa

/- CodeSame of the program (slices.Equal). -/
namespace Go.Proofs.Ytogpfagdpkjmmaa
open Go.ChangeShapes Go.WideShapes Go.ChangeAt Go.RowKit

theorem insHeld : Try.prog.stoodInHeld 40 = false := by kernel_rfl
theorem insU : Try.prog.underlying 40 = some (.struct (Try.prog.fieldsOf 40)) := by kernel_rfl

set_option maxRecDepth 100000 in
theorem neqIns (x y z u x' y' z' u' : Int) (w : World) :
    (binOp .neq 40 (.agg #[.int .i64 x, .int .i64 y, .int .i64 z, .int .i64 u]) (.agg #[.int .i64 x', .int .i64 y', .int .i64 z', .int .i64 u'])).run Try.prog w = .ok (.bool (!(x == x' && (y == y' && (z == z' && u == u'))))) w := by
  rw [run_neq_struct, run_equalIn_agg _ _ _ _ _ insU insHeld]
  simp only [Program.fieldsOf, Try.underlying40]
  by_cases h0 : x = x' <;> by_cases h1 : y = y' <;> by_cases h2 : z = z' <;> by_cases h3 : u = u' <;> simp [go_sem, Op.eqFields, h0, h1, h2, h3]

theorem more_four {xs ys : List Int} {k : Nat} (h : ∀ j, j < k * 4 → xs.getD j 0 = ys.getD j 0) (h0 : xs.getD (k * 4) 0 = ys.getD (k * 4) 0) (h1 : xs.getD (k * 4 + 1) 0 = ys.getD (k * 4 + 1) 0)
    (h2 : xs.getD (k * 4 + 2) 0 = ys.getD (k * 4 + 2) 0) (h3 : xs.getD (k * 4 + 3) 0 = ys.getD (k * 4 + 3) 0) : ∀ j, j < (k + 1) * 4 → xs.getD j 0 = ys.getD j 0 := by
  intro j hj
  have : j < k * 4 ∨ j = k * 4 ∨ j = k * 4 + 1 ∨ j = k * 4 + 2 ∨ j = k * 4 + 3 := by omega
  rcases this with h' | rfl | rfl | rfl | rfl
  · exact h j h'
  all_goals assumption

theorem eq_four {xs ys : List Int} (n : Nat) (hx : xs.length = n * 4) (hy : ys.length = n * 4) (h : ∀ j, j < n * 4 → xs.getD j 0 = ys.getD j 0) : xs = ys := by
  apply List.ext_getElem (by omega)
  intro j h1 h2
  have := h j (by omega)
  simpa [List.getD, h1, h2] using this

set_option maxRecDepth 100000 in
theorem sliceEqual {xs ys : List Int} {A A' : Option Addr} {n c n' c' : Nat} {S T : Nat → Prop} {w : World} (hs : Fl w S 4 xs A n c) (ht : Fl w T 4 ys A' n' c') :
    Calls Try.prog 60 #[.slice A n c, .slice A' n' c'] w fun e w' => e = .returned (.bool (decide (xs = ys))) ∧ Below w.heap.size w w' := by
  have hmax : n ≤ 9223372036854775807 := by have := hs.le; have := hs.top; unfold maxLen at this; omega
  have hmax' : n' ≤ 9223372036854775807 := by have := ht.le; have := ht.top; unfold maxLen at this; omega
  have lx := hs.len
  have ly := ht.len
  by_cases hn : n = n'
  · subst hn
    have LX := Lib.hid lx
    have LY := Lib.hid ly
    clear lx ly hmax'
    go_enter Try.func60, Try.ntmps60
    go_wp2_with fail
    go_loopw [13] (fun i wr => ∃ k : Nat, k ≤ n ∧ i = .int .i64 k ∧ (∀ j, j < k * 4 → xs.getD j 0 = ys.getD j 0) ∧ Below w.heap.size w wr) (fun i _ => n - (intOf i).toNat)
    case atStart => exact ⟨0, Nat.zero_le _, rfl, fun j hj => by omega, Below.refl _ _⟩
    case round =>
      obtain ⟨k, hk, rfl, heq, hb⟩ := hrel
      have HEQ := Lib.hid heq
      clear heq
      by_cases hlt : k < n
      · obtain ⟨a, rfl⟩ := hs.some (by omega)
        obtain ⟨b, rfl⟩ := ht.some (by omega)
        obtain ⟨c0, c1, c2, c3⟩ := (hs.later hb).four k hlt
        obtain ⟨d0, d1, d2, d3⟩ := (ht.later hb).four k hlt
        have hsz := hb.size
        generalize hx0 : xs.getD (k * 4) 0 = x0 at c0
        generalize hx1 : xs.getD (k * 4 + 1) 0 = x1 at c1
        generalize hx2 : xs.getD (k * 4 + 2) 0 = x2 at c2
        generalize hx3 : xs.getD (k * 4 + 3) 0 = x3 at c3
        generalize hy0 : ys.getD (k * 4) 0 = y0 at d0
        generalize hy1 : ys.getD (k * 4 + 1) 0 = y1 at d1
        generalize hy2 : ys.getD (k * 4 + 2) 0 = y2 at d2
        generalize hy3 : ys.getD (k * 4 + 3) 0 = y3 at d3
        have H8 := Lib.hid (And.intro hx0 (And.intro hx1 (And.intro hx2 (And.intro hx3 (And.intro hy0 (And.intro hy1 (And.intro hy2 hy3)))))))
        clear hx0 hx1 hx2 hx3 hy0 hy1 hy2 hy3
        by_cases hq : x0 = y0 ∧ x1 = y1 ∧ x2 = y2 ∧ x3 = y3
        · obtain ⟨rfl, rfl, rfl, rfl⟩ := hq
          have hne := fun W => neqIns x0 x1 x2 x3 x0 x1 x2 x3 W
          simp only [beq_self_eq_true, Bool.and_self, Bool.not_true] at hne
          go_wp2_with fail
          go_region
          all_goals (try go_wp2)
          obtain ⟨a0, a1, a2, a3, b0, b1, b2, b3⟩ := H8.out
          exact ⟨⟨k + 1, by omega, by go_num, more_four HEQ.out (a0.trans b0.symm) (a1.trans b1.symm) (a2.trans b2.symm) (a3.trans b3.symm), hb.drew⟩, by simp [intOf]; omega⟩
        · have hne := fun W => neqIns x0 x1 x2 x3 y0 y1 y2 y3 W
          have hb0 : (x0 == y0 && (x1 == y1 && (x2 == y2 && x3 == y3))) = false := by
            apply Bool.eq_false_iff.2
            intro h
            simp only [Bool.and_eq_true, beq_iff_eq] at h
            exact hq h
          simp only [hb0, Bool.not_false] at hne
          have HQ := Lib.hid hq
          clear hq hb0
          go_wp2_with fail
          go_region
          all_goals (try go_wp2)
          go_ret
          refine ⟨?_, hb.drew⟩
          have : ¬ xs = ys := by
            rintro rfl
            obtain ⟨a0, a1, a2, a3, b0, b1, b2, b3⟩ := H8.out
            exact HQ.out ⟨a0.symm.trans b0, a1.symm.trans b1, a2.symm.trans b2, a3.symm.trans b3⟩
          rw [decide_eq_false this]; rfl
      · obtain rfl : k = n := by omega
        go_wp2_with fail
        go_ret
        refine ⟨?_, hb⟩
        rw [decide_eq_true (eq_four k LX.out LY.out HEQ.out)]; rfl
  · have hd : decide (xs = ys) = false := decide_eq_false (by rintro rfl; omega)
    rw [hd]
    clear hd lx ly
    go_enter Try.func60, Try.ntmps60
    go_wp2
    go_ret
    exact ⟨rfl, Below.refl _ _⟩

theorem codeSame {xs ys : List Int} {A A' : Option Addr} {n c n' c' : Nat} {S T : Nat → Prop} {w : World} (hs : Fl w S 4 xs A n c) (ht : Fl w T 4 ys A' n' c') :
    Calls Try.prog 34 #[.slice A n c, .slice A' n' c'] w fun e w' => e = .returned (.bool (decide (xs = ys))) ∧ Below w.heap.size w w' := by
  have HE := Lib.hid (sliceEqual hs ht)
  go_enter Try.func34, Try.ntmps34
  go_wp2_with fail
  refine HE.out.mono ?_
  rintro e w1 ⟨rfl, b1⟩
  go_wp2_with fail
  go_ret
  exact ⟨rfl, b1⟩
end Go.Proofs.Ytogpfagdpkjmmaa

/- The laws' other comparison of slices of yes and no. -/
namespace Go.Proofs.Ytogpfagdpkjmmaa
open Go.ChangeShapes Go.WideShapes Go.ChangeAt Go.RowKit

set_option maxRecDepth 100000 in
/-- The laws' other comparison of such rows. -/
theorem wpBools {M : List Bool} {A A' : Option Addr} {n c c' N N' : Nat} {w : World} (hs : w.ownsRow N 4 1 (.slice A n c) n (bls M)) (ht : w.ownsRow N' 4 1 (.slice A' n c') n (bls M)) :
    Calls Try.prog 37 #[.slice A n c, .slice A' n c'] w fun e w' => e = .returned (.bool true) ∧ Below w.heap.size w w' := by
  have hl : M.length = n := by have := hs.1; simp [bls] at this; omega
  have hmax : n ≤ 9223372036854775807 := by
    by_cases h0 : 0 < n
    · obtain ⟨_, _, _, h1, h2⟩ := own_some' hs h0
      unfold maxLen at h2; omega
    · omega
  go_enter Try.func37, Try.ntmps37
  go_wp2_with fail
  go_loopw [5] (fun i wr => ∃ k : Nat, k ≤ n ∧ i = .int .i64 k ∧ Below w.heap.size w wr) (fun i _ => n - (intOf i).toNat)
  case atStart => exact ⟨0, Nat.zero_le _, rfl, Below.refl _ _⟩
  case round =>
    obtain ⟨k, hk, rfl, hb⟩ := hrel
    by_cases hlt : k < n
    · have hs' := own_below hs hb
      have ht' := own_below ht hb
      obtain ⟨g, cap, hv, _, _⟩ := own_some' hs' (by omega)
      simp only [Value.slice.injEq, true_and] at hv
      obtain ⟨rfl, rfl⟩ := hv
      obtain ⟨g', cap', hv, _, _⟩ := own_some' ht' (by omega)
      simp only [Value.slice.injEq, true_and] at hv
      obtain ⟨rfl, rfl⟩ := hv
      have c0 := hs'.cellAt k (by omega)
      have d0 := ht'.cellAt k (by omega)
      rw [bls_get (by omega)] at c0 d0
      generalize M.getD k false = x at *
      clear hs ht hs' ht'
      cases x
      all_goals
        go_wp2_with fail
        go_region
        all_goals (try go_wp2)
        go_roundw
        case rel => exact ⟨k + 1, by omega, by go_num, hb.drew⟩
        case measure => simp [intOf]; omega
    · go_wp2_with fail
      go_ret
      exact ⟨rfl, hb⟩

end Go.Proofs.Ytogpfagdpkjmmaa

/- The walk of laws.FnSlimDead. -/
namespace Go.Proofs.Ytogpfagdpkjmmaa
open Go.ChangeShapes Go.WideShapes Go.ChangeAt Go.RowKit

set_option maxRecDepth 100000 in
set_option maxHeartbeats 8000000 in
theorem wFnSlimDead (A : Option Addr) (n c : Nat) (w : World) (h : Bytes w A n) (hn : n ≤ c) (hc : c ≤ maxLen) :
    Calls Try.prog 11 #[.slice A n c] w fun e w' => e = .returned (.bool true) ∧ Below w.heap.size w w' := by
  by_cases hl : 1048576 < n
  · go_enter Try.func11, Try.ntmps11
    go_wp2
    go_ret
    exact ⟨rfl, Below.refl _ _⟩
  · go_enter Try.func11, Try.ntmps11
    go_wp2_with fail
    refine (drawSlimDead A n c _ h hn hc).mono ?_
    rintro e w1 ⟨ys, m, B, cB, rfl, o1, hm50, b1⟩
    have f1 := own_fl1 o1
    have hyl := f1.len
    have z1 := b1.size
    clear o1
    go_wp2_with fail
    refine (implSlimDead f1).mono ?_
    rintro e w2 ⟨v2, rfl, o2, hb2⟩
    have z2 := hb2.size
    have b2 := b1.trans (hb2.mono z1)
    have f2 := f1.later hb2
    obtain ⟨A2, c2, rfl⟩ := own_slc' o2
    clear f1 hb2
    go_wp2_with fail
    refine (specSlimDead f2).mono ?_
    rintro e w3 ⟨v3, rfl, o3, hb3⟩
    have z3 := hb3.size
    have b3 := b2.trans (hb3.mono (by omega))
    have f3 := f2.later hb3
    have o23 := own_below o2 hb3
    obtain ⟨A3, c3, rfl⟩ := own_slc' o3
    clear f2 hb3 o2
    go_wp2_with fail
    refine (codeSame (own_fl1 o23) (own_fl1 o3)).mono ?_
    rintro e w4 ⟨rfl, hb4⟩
    rw [decide_eq_true rfl]
    have z4 := hb4.size
    have b4 := b3.trans (hb4.mono (by omega))
    have f4 := f3.later hb4
    have o24 := own_below o23 hb4
    clear f3 hb4 o23 o3
    go_wp2_with fail
    refine (specCodeOk f4).mono ?_
    rintro e w5 ⟨rfl, hb5⟩
    have z5 := hb5.size
    have b5 := b4.trans (hb5.mono (by omega))
    have f5 := f4.later hb5
    have o25 := own_below o24 hb5
    clear f4 hb5 o24
    cases hcb : codeB ys m
    · have hz : deadN ys m = 0 := by unfold deadN; rw [hcb]; rfl
      rw [hz] at o25 ⊢
      clear hz hcb f5 o25
      go_wp2_with fail
      go_ret
      exact ⟨rfl, b5⟩
    · have hr := codeB_true hyl hcb
      have hdn : deadN ys m = cntK ys m m := by unfold deadN; rw [if_pos hcb]
      have hds : deadR ys m = deadK ys m m := by unfold deadR; rw [if_pos hcb]
      have hrr : reachR ys m = comeL ys m := by unfold reachR; rw [if_pos hcb]
      have hok := dead_ok hr hcb
      have hd1 := (dead_right hr).lo
      have hm1 := hr.lo
      have hRl := comeL_len ys m
      have hcnt : ∀ q : Nat, ((q : Int) ≠ 7 → cntE (deadK ys m m) q (cntK ys m m) = cntD ys (comeL ys m) m q m) ∧ cntE (deadK ys m m) q (cntK ys m m) ≤ cntD ys (comeL ys m) m q m := fun q => dead_cnt (q : Int) m (Nat.le_refl _)
      have hdm := cntK_le ys m m
      rw [hds, hdn] at o25
      rw [hdn]
      have IR := Lib.hid (implSlimReach f5)
      rw [hrr] at IR
      clear hdn hds hrr hcb hr
      generalize deadK ys m m = ds at *
      generalize cntK ys m m = dn at *
      generalize comeL ys m = R at *
      subst hRl
      have HOK := Lib.hid hok
      have HC := Lib.hid hcnt
      clear hok hcnt
      go_wp2_with fail
      refine IR.out.mono ?_
      rintro e w6 ⟨v6, rfl, o6, hb6⟩
      have b6 := b5.trans (hb6.mono b5.size)
      have z6 := hb6.size
      have HF := Lib.hid (f5.later hb6)
      have HX := Lib.hid (own_below o25 hb6)
      obtain ⟨b, rfl⟩ := f5.some (by omega)
      obtain ⟨g2, c2', hv, _, _⟩ := own_some' o25 (by omega)
      simp only [Value.slice.injEq, true_and] at hv
      obtain ⟨rfl, rfl⟩ := hv
      obtain ⟨g6, c6, rfl, _, _⟩ := own_some' o6 (by omega)
      have HR := Lib.hid o6
      have hdl : ds.length = dn * 4 := by have := HX.out.1; rw [ints_len] at this; exact this
      clear IR f5 o25 o6 hb6
      go_wp2_with fail
      go_loopw [6] (fun o wr => ∃ q : Nat, q ≤ 14 ∧ o = .int .i64 q ∧ Below w6.heap.size w6 wr) (fun o _ => 14 - (intOf o).toNat)
      case atStart => exact ⟨1, by omega, rfl, Below.refl _ _⟩
      case round =>
        obtain ⟨q, hq, rfl, hbo⟩ := hrel
        by_cases hq13 : q ≤ 13
        · have HF1 := Lib.hid (HF.out.later hbo)
          have HX1 := Lib.hid (own_below HX.out hbo)
          have HR1 := Lib.hid (own_below HR.out hbo)
          go_wp2_with fail
          generalize wr = W7 at *
          clear wr
          go_loopw [7, 8] (fun a i wq => ∃ k : Nat, k ≤ R.length ∧ i = .int .i64 k ∧ a = .int .i64 (cntD ys R R.length q k : Nat) ∧ Below W7.heap.size W7 wq) (fun _ i _ => R.length - (intOf i).toNat)
          case atStart => exact ⟨0, Nat.zero_le _, rfl, rfl, Below.refl _ _⟩
          case round =>
            obtain ⟨k, hk, rfl, rfl, hbw⟩ := hrel
            have hcs := cntD_le ys R R.length q k
            by_cases hlt : k < R.length
            · obtain ⟨c0, _, _, _⟩ := (HF1.out.later hbw).four k hlt
              have h0 : ys.getD (k * 4) 0 = opC ys k := rfl
              rw [h0] at c0
              have ck := (own_below HR1.out hbw).cellAt k (by omega)
              rw [bls_get hlt] at ck
              have HST := Lib.hid (show cntD ys R R.length q (k + 1) = cntD ys R R.length q k + if opC ys k = q ∧ (R.getD k false = true ∨ k + 1 = R.length) then 1 else 0 from rfl)
              clear h0
              generalize hcr : cntD ys R R.length q k = cr at *
              clear hcr
              generalize opC ys k = o at *
              generalize R.getD k false = rb at *
              by_cases ho : o = (q : Int)
              · have he : (o == (q : Int)) = true := by simpa using ho
                have hyes : (rb = true ∨ k + 1 = R.length) → cntD ys R R.length q (k + 1) = cr + 1 := fun hh => by rw [HST.out, if_pos ⟨ho, hh⟩]
                have hno : ¬ (rb = true ∨ k + 1 = R.length) → cntD ys R R.length q (k + 1) = cr := fun hh => by rw [HST.out, if_neg (fun h => hh h.2)]; rfl
                clear HST ho
                cases rb
                · by_cases hlast : k + 1 = R.length
                  · have hq' : ((k : Int) == (R.length : Int) - 1) = true := by
                      have : (k : Int) = (R.length : Int) - 1 := by omega
                      simpa using this
                    have HE := Lib.hid (hyes (.inr hlast))
                    clear hyes hno
                    go_wp2_with fail
                    go_roundw
                    case rel => exact ⟨k + 1, by omega, by go_num, by rw [HE.out]; go_num, hbw⟩
                    case measure => simp [intOf]; omega
                  · have hq' : ((k : Int) == (R.length : Int) - 1) = false := by
                      have : ¬ (k : Int) = (R.length : Int) - 1 := by omega
                      simpa using this
                    have HE := Lib.hid (hno (by simp [hlast]))
                    clear hyes hno
                    go_wp2_with fail
                    go_roundw
                    case rel => exact ⟨k + 1, by omega, by go_num, by rw [HE.out], hbw⟩
                    case measure => simp [intOf]; omega
                · have HE := Lib.hid (hyes (.inl rfl))
                  clear hyes hno
                  go_wp2_with fail
                  go_roundw
                  case rel => exact ⟨k + 1, by omega, by go_num, by rw [HE.out]; go_num, hbw⟩
                  case measure => simp [intOf]; omega
              · have he : (o == (q : Int)) = false := by simpa using ho
                have HE := Lib.hid (show cntD ys R R.length q (k + 1) = cr from by rw [HST.out, if_neg (fun h => ho h.1)]; rfl)
                clear HST ho
                go_wp2_with fail
                go_roundw
                case rel => exact ⟨k + 1, by omega, by go_num, by rw [HE.out], hbw⟩
                case measure => simp [intOf]; omega
            · obtain rfl : k = R.length := by omega
              have b7 := hbo.trans (hbw.mono hbo.size)
              have HX2 := Lib.hid (own_below HX1.out hbw)
              have HQ := Lib.hid (HC.out q)
              clear HF1 HX1 HR1
              generalize cntD ys R R.length q R.length = cn at *
              go_wp2_with fail
              generalize wr = W8 at *
              clear wr
              go_loopw [9, 10] (fun a i wq => ∃ j : Nat, j ≤ dn ∧ i = .int .i64 j ∧ a = .int .i64 (cntE ds q j : Nat) ∧ Below W8.heap.size W8 wq) (fun _ i _ => dn - (intOf i).toNat)
              case atStart => exact ⟨0, Nat.zero_le _, rfl, rfl, Below.refl _ _⟩
              case round =>
                obtain ⟨j, hj, rfl, rfl, hbq⟩ := hrel
                have hce := cntE_le ds q j
                by_cases hlj : j < dn
                · have d0 := (own_below HX2.out hbq).cellAt (j * 4) (by omega)
                  rw [ints_get (by omega)] at d0
                  have h0 : ds.getD (j * 4) 0 = opC ds j := rfl
                  rw [h0] at d0
                  have HST := Lib.hid (show cntE ds q (j + 1) = cntE ds q j + if opC ds j = q then 1 else 0 from rfl)
                  clear h0
                  generalize hcr : cntE ds q j = cr at *
                  clear hcr
                  generalize opC ds j = o at *
                  by_cases ho : o = (q : Int)
                  · have he : (o == (q : Int)) = true := by simpa using ho
                    have HE := Lib.hid (show cntE ds q (j + 1) = cr + 1 from by rw [HST.out, if_pos ho])
                    clear HST ho
                    go_wp2_with fail
                    go_roundw
                    case rel => exact ⟨j + 1, by omega, by go_num, by rw [HE.out]; go_num, hbq⟩
                    case measure => simp [intOf]; omega
                  · have he : (o == (q : Int)) = false := by simpa using ho
                    have HE := Lib.hid (show cntE ds q (j + 1) = cr from by rw [HST.out, if_neg ho]; rfl)
                    clear HST ho
                    go_wp2_with fail
                    go_roundw
                    case rel => exact ⟨j + 1, by omega, by go_num, by rw [HE.out], hbq⟩
                    case measure => simp [intOf]; omega
                · obtain rfl : j = dn := by omega
                  have b8 := b7.trans (hbq.mono b7.size)
                  have hqe := HQ.out.1
                  have hqle := HQ.out.2
                  clear HQ
                  generalize cntE ds q j = ce at *
                  by_cases h7 : q = 7
                  · subst h7
                    clear hqe
                    have hgt : ¬ (cn : Int) < (ce : Int) := by omega
                    go_wp2_with fail
                    go_roundw
                    case rel => exact ⟨8, by omega, by go_num, b8⟩
                    case measure => simp [intOf]
                  · obtain rfl := hqe (by omega)
                    have e7 : ((q : Int) == 7) = false := by
                      have : ¬ (q : Int) = 7 := by omega
                      simpa using this
                    have enn : ((ce : Int) != (ce : Int)) = false := by simp
                    go_wp2_with fail
                    go_roundw
                    case rel => exact ⟨q + 1, by omega, by go_num, b8⟩
                    case measure => simp [intOf]; omega
        · have b7 := b6.trans (hbo.mono b6.size)
          have hcx := codeOk (own_fl1 (own_below HX.out hbo))
          rw [HOK.out] at hcx
          have HCX := Lib.hid hcx
          clear hcx HF HX HR HC
          go_wp2_with fail
          refine HCX.out.mono ?_
          rintro e w8 ⟨rfl, hb8⟩
          have b8 := b7.trans (hb8.mono b7.size)
          go_wp2_with fail
          go_ret
          exact ⟨rfl, b8⟩
end Go.Proofs.Ytogpfagdpkjmmaa

/- From a walk to the statement: the row's last step where nothing old has turned, whatever came in. -/
namespace Go.Proofs.Ytogpfagdpkjmmaa
open Go.ChangeShapes Go.WideShapes Go.ChangeAt Go.RowKit

theorem own : ownKnob Try.prog.godebug = none := by kernel_rfl
theorem laidOut : laidOutB Try.prog = true := by kernel_rfl

section
variable {H : Type} {enc : TypeId × Value → H}

variable {P : Program}
/-- The row's last step where below the heap's old size nothing has turned. -/
theorem post_below {f : Func} {s : ChangeSpec} {apart fresh handsOn again : Bool} {W W' : World} {args : Array Value} {v : Value} {ds gs : List (DataW H)} {before pa pv : List MemPlace}
    (hW : DataW.Whole enc P f.params.toList s.vars apart W args.toList ds gs before)
    (hres : ∀ (b : Nat) (sp : Nat → Bool) (hd : Bool), DataW.TrodAll enc P W' b sp hd f.resultTypes.toList (v.resultList f.resultTypes.size) (s.fn H (ds ++ gs)).results [])
    (hargs : ∀ sp : Nat → Bool, (∀ p ∈ before, sp p.block = true) → DataW.TrodAll enc P W' 0 sp true f.params.toList args.toList (s.fn H (ds ++ gs)).args pa)
    (hvars : ∀ sp : Nat → Bool, (∀ p ∈ before, sp p.block = true) → DataW.TrodVars enc P W' sp s.vars (s.fn H (ds ++ gs)).vars pv)
    (hps : before = pa ++ pv) (hb : Below W.heap.size W W')
    (hok : ∀ (j : Nat) (t : TypeId) (r : Value), f.resultTypes[j]? = some t → (v.resultList f.resultTypes.size)[j]? = some r → Value.okWide P W' .any 0 t r) :
    s.post enc P f apart fresh handsOn again W args v W' := by
  have lt : ∀ p ∈ before, p.block < W.heap.size := fun p hp => hW.lt p hp
  have old : ∀ p ∈ before, (fun b => decide (b < W.heap.size)) p.block = true := fun p hp => decide_eq_true (lt p hp)
  have frame : W.keptBut W' (fun p => p ∈ before ∧ (p ∈ ([] : List MemPlace) ∨ p ∈ pa ∨ p ∈ pv)) :=
    World.keptBut_mono (fun p hp => ⟨hp, Or.inr (by rw [hps] at hp; simpa using hp)⟩) (hb.frame (· ∈ before))
  obtain ⟨_, _, _, _, _, hz, hn⟩ := id hW
  refine ⟨ds, gs, before, [], pa, pv, hW, hres _ _ _, hargs _ old, hvars _ old, by simpa using frame, fun _ => ?_⟩
  refine ⟨hok, _, _, ([] ++ pa) ++ pv, ⟨[] ++ pa, pv, trodAll_append (hargs _ (fun _ _ => rfl)) (hres _ _ _), hvars _ (fun _ _ => rfl), rfl, fun b off hp => ?_, fun ha => ?_⟩, fun p hp _ => ?_⟩
  · have hin : MemPlace.cell b off ∈ before := by rw [hps]; simpa using hp
    rw [hb.frozen (lt _ hin)]
    exact hz b off hin
  · have := hn ha
    rw [hps] at this
    simpa using this
  · rw [hps]
    simpa using hp

/-- An argument reads behind the call as it did, whatever counts as spare. -/
theorem arg_kept {t : TypeId} (hl : laidOutB P = true) (hr : P.readableRec t = true) (hrow : t < P.types.size) {W W' : World} {v : Value} {d : DataW H} {ps : List MemPlace} {sp : Nat → Bool}
    (h : DataW.Trod enc P W 0 (fun _ => true) true t v d ps) (hb : Below W.heap.size W W') (hlt : ∀ x ∈ ps, x.block < W.heap.size) (hsp : ∀ x ∈ ps, sp x.block = true) : DataW.Trod enc P W' 0 sp true t v d ps :=
  WideElems.Trod_stays hl hr hrow h (fun x hx => hb.same (hlt x hx)) (fun x hx => hsp x hx)
end
end Go.Proofs.Ytogpfagdpkjmmaa

/- From a walk to the statement: what a slice of bytes that comes in gives a walk, and the row's last step where nothing old has turned. -/
namespace Go.Proofs.Ytogpfagdpkjmmaa
open Go.ChangeShapes Go.WideShapes Go.ChangeAt Go.RowKit

theorem cellsU8 : Try.prog.cellsOf 5 = 1 := by kernel_rfl

section
variable {H : Type} {enc : TypeId × Value → H}

set_option maxRecDepth 100000 in
/-- A slice of bytes that came in: its length fits, and each of its bytes can be read. -/
theorem open_code {W : World} {base : Nat} {v : Value} {d : DataW H} {ps : List MemPlace} (hval : Value.okWide Try.prog W .any base 35 v) (h : DataW.Trod enc Try.prog W 0 (fun _ => true) true 35 v d ps) :
    ∃ (A : Option Addr) (n c : Nat), v = .slice A n c ∧ n ≤ c ∧ c ≤ maxLen ∧ Bytes W A n := by
  obtain ⟨A, n, c, rfl⟩ := okWide_slice Try.underlying35 hval
  obtain ⟨fuel, hf⟩ := h
  rcases open_ints Try.underlying35 Try.underlying5 cellsU8 hf with ⟨hcs, _⟩ | ⟨a, n', c', zs, hcs, _, hl, hm, hz, _, hcell, hwz⟩
  · simp [Value.cells] at hcs
    obtain ⟨rfl, rfl, rfl⟩ := hcs
    exact ⟨none, 0, 0, rfl, Nat.le_refl _, Nat.zero_le _, fun h => absurd h (by omega)⟩
  · simp [Value.cells] at hcs
    obtain ⟨rfl, rfl, rfl⟩ := hcs
    simp only [if_true] at hz
    refine ⟨_, _, _, rfl, hl, hm, fun h0 => ⟨a, rfl, ?_, fun i hi => ?_⟩⟩
    · have := World.block_lt_of_cell? _ _ (hcell 0 (by omega))
      rwa [add_block] at this
    · have hb := range_u8 hwz i
      exact ⟨zs.getD i 0, by simpa [List.getD] using hb.1, by simpa [List.getD] using hb.2, hcell i (by omega)⟩

end
end Go.Proofs.Ytogpfagdpkjmmaa

namespace Go.Proofs.Ytogpfagdpkjmmaa.pFnSlimDead
open Go.ChangeShapes Go.WideShapes Go.ChangeAt Go.RowKit

set_option maxRecDepth 100000 in
theorem lifted (os : Os) (started : os.Started) (H : Type) (enc : TypeId × Value → H) :
    ReturnsInHanded {} Try.checked os 11 .any (Rows.fnSlimDeadSpec.pre6 enc Try.prog Try.f11 Rows.fnSlimDeadRow.domain false) (Rows.fnSlimDeadSpec.post enc Try.prog Try.f11 false true false false) := by
  refine returnsInHanded_of_change (C := Try.checked) own started (by kernel_rfl) Try.func11
    (ChangeSpec.witness6 (enc := enc) (C := Try.checked) false ⟨#[], #[.slice none 0 0], []⟩ 8 (by kernel_rfl) (by kernel_rfl) (by kernel_rfl) (by kernel_rfl)) ?_
  intro W base args ds gs before hval0 hW hcnd _
  have hval : ∀ (j : Nat) t v, Try.f11.params[j]? = some t → args[j]? = some v → Value.okWide Try.prog W .any base t v := hval0
  have hW' := hW
  obtain ⟨p, q, hA0, hV, rfl, _, _⟩ := hW
  have hA : DataW.TrodAll enc Try.prog W 0 (fun _ => true) true Try.f11.params.toList args.toList ds p := hA0
  rw [Try.params11] at hA hval
  obtain ⟨v0, vs0, d0, ds0, p0, q0, hargs, rfl, rfl, h0, r0⟩ := trodAll_cons hA
  obtain ⟨rfl, rfl, rfl⟩ := trodAll_nil r0
  obtain rfl : args = #[v0] := by cases args; simp_all
  obtain ⟨rfl, rfl⟩ := trodVars_none hV
  obtain ⟨A0, n0, c0, rfl, l0, m0, b0⟩ := open_code (hval 0 35 v0 rfl rfl) h0
  clear hA0 hval0
  simp only [List.append_nil] at hW'
  refine (wFnSlimDead A0 n0 c0 W b0 l0 m0).mono fun e W' ⟨he, hb⟩ => ?_
  subst he
  have lt0 : ∀ x ∈ p0, x.block < W.heap.size := fun x hx => hW'.lt x (hx)
  have hargs' : ∀ sp : Nat → Bool, (∀ x ∈ p0, sp x.block = true) → DataW.TrodAll enc Try.prog W' 0 sp true [35] [.slice A0 n0 c0] [d0] (p0) := fun sp hsp => by
    have h : DataW.TrodAll enc Try.prog W' 0 sp true _ _ _ _ := (trodAll_cons_mk (arg_kept laidOut (by kernel_rfl) (of_decide_eq_true (by kernel_rfl)) h0 hb lt0 (fun x hx => hsp x (hx))) trodAll_mk0)
    simpa only [List.append_nil] using h
  exact ⟨_, rfl, post_below (pa := p0) (pv := []) hW' (fun _ _ _ => (trodAll_cons_mk (shut_bool Try.underlying4 _) trodAll_mk0)) (fun sp hsp => hargs' sp hsp) (fun _ _ => rfl) (by simp)
    hb (ok_one (by kernel_rfl) rfl (okWide_bool_mk Try.underlying4 _))⟩

/-- THE STATEMENT. -/
theorem proved : Rows.FnSlimDeadSaid :=
  OpenClaim.holds_of_wide 11 Try.f11 rfl rfl rfl rfl rfl rfl rfl ⟨rfl, rfl, rfl, rfl, rfl⟩ rfl rfl rfl rfl rfl (by kernel_rfl) Try.func11 (by kernel_rfl)
    (of_decide_eq_true (by kernel_rfl)) (by unfold Func.isWrapper; first | (rw [if_pos (by decide +kernel)]; kernel_rfl) | (rw [if_neg (by decide +kernel)]; exact ⟨rfl, rfl⟩))
    (fun os started H enc _ => lifted os started H enc)
#print axioms proved
end Go.Proofs.Ytogpfagdpkjmmaa.pFnSlimDead
