/- Whether a list enters a room: the laws' wpEnters as a plain function, and what it says of lists that are right. -/
import Derived.Test.YtlmgbpbiljnohaaOkMore
namespace Go.Proofs.Ytlmgbpbiljnohaa
open Go.ChangeShapes Go.WideShapes Go.ChangeAt Go.RowKit

def ent : SL → Int → Bool
  | .nil, _ => false
  | .cons k _ _ _ B E R, d => (decide (0 < d) && (decide (k = 8) || ent B (d - 1) || ent E (d - 1))) || ent R d

theorem ent_none {L : SL} : ∀ {d : Int}, d ≤ 0 → ent L d = false := by
  induction L with
  | nil => intro d _; rfl
  | cons k x y n B E R _ _ ih =>
    intro d hd
    rw [ent, ih hd, show decide (0 < d) = false from decide_eq_false (by omega)]; rfl
theorem ent_cons {k x y n : Int} {B E R : SL} {d : Int} (hd : 0 < d) : ent (.cons k x y n B E R) d = (decide (k = 8) || ent B (d - 1) || ent E (d - 1) || ent R d) := by
  rw [ent, show decide (0 < d) = true from decide_eq_true hd, Bool.true_and]

set_option maxRecDepth 100000 in
set_option maxHeartbeats 1000000 in
theorem wpEnters_any (m : Nat) : ∀ L : SL, L.size < m → ∀ (d : Int) (A : Option Addr) (n c N : Nat) (w : World), Sl w N L A n c → -10 ≤ d → d ≤ 10 →
    Calls Try.prog 18 #[.slice A n c, .int .i64 d] w fun e w' => e = .returned (.bool (ent L d)) ∧ w' = w := by
  induction m with
  | zero => intro L hL; omega
  | succ m ih =>
    intro L hL d A n c N w hs hd0 hd1
    have IH := Lib.hid ih
    clear ih
    have hlen : n ≤ L.len := Nat.le_of_eq hs.len
    have hlen' : L.len ≤ n := Nat.le_of_eq hs.len.symm
    have hmax : n ≤ 9223372036854775807 := by have := hs.le; have := hs.top; unfold maxLen at this; omega
    go_enter Try.func18, Try.ntmps18
    go_wp2_with fail
    go_loopw [5] (fun i wr => ∃ j : Nat, j ≤ n ∧ i = .int .i64 j ∧ wr = w ∧ Go.RowKit.Hid (ent L d = ent (L.drop j) d)) (fun i _ => n - (intOf i).toNat)
    case atStart => exact ⟨0, Nat.zero_le _, rfl, rfl, Lib.hid (by rw [SL.drop_zero])⟩
    case round =>
      obtain ⟨j, hj, rfl, hwr, HE⟩ := hrel
      subst hwr
      by_cases hlt : j < n
      · by_cases hd : 0 < d
        · obtain ⟨K, x, y, v, B, E, R, hdr⟩ := SL.drop_cons (L := L) (i := j) (by omega)
          obtain ⟨s1, s2⟩ := SL.drop_size hdr
          have HR := Lib.hid (SL.drop_succ hdr)
          obtain ⟨a, rfl⟩ := hs.some (by omega)
          have hat := (hs.at_ a rfl).drop j
          have he := HE.out
          rw [hdr, ent_cons hd] at he
          rw [hdr] at hat
          have HE2 := Lib.hid he
          obtain ⟨_, c0, c1, c2, c3, AB, cB, AE, cE, c4, c5, sB, sE, _⟩ := hat.first
          clear hat hdr he HE
          by_cases hk : K = 8
          · subst hk
            have HT := Lib.hid (show ent L d = true from by rw [HE2.out]; simp)
            go_wp2_with fail
            go_ret
            exact ⟨by rw [HT.out]; rfl, rfl⟩
          · have hk' : (K == 8) = false := by simpa using hk
            have HK := Lib.hid (show decide (K = 8) = false from decide_eq_false hk)
            clear hk
            go_wp2_with fail
            refine (IH.out B (by omega) (d - 1) AB B.len cB N _ sB (by omega) (by omega)).mono ?_
            rintro e w1 ⟨rfl, rfl⟩
            cases hb : ent B (d - 1)
            · have HB := Lib.hid hb
              clear hb
              go_wp2_with fail
              refine (IH.out E (by omega) (d - 1) AE E.len cE N _ sE (by omega) (by omega)).mono ?_
              rintro e w2 ⟨rfl, rfl⟩
              cases hb : ent E (d - 1)
              · have HEE := Lib.hid hb
                clear hb
                go_wp2_with fail
                go_roundw
                case rel => exact ⟨j + 1, by omega, by go_num, trivial, Lib.hid (by rw [HE2.out, HK.out, HB.out, HEE.out, HR.out]; rfl)⟩
                case measure => simp [intOf]; omega
              · have HT := Lib.hid (show ent L d = true from by rw [HE2.out, hb]; simp)
                clear hb
                go_wp2_with fail
                go_ret
                exact ⟨by rw [HT.out]; rfl, rfl⟩
            · have HT := Lib.hid (show ent L d = true from by rw [HE2.out, hb]; simp)
              clear hb
              go_wp2_with fail
              go_ret
              exact ⟨by rw [HT.out]; rfl, rfl⟩
        · have HT := Lib.hid (show ent L d = false from ent_none (by omega))
          go_wp2_with fail
          go_ret
          exact ⟨by rw [HT.out]; rfl, rfl⟩
      · have HT := Lib.hid (show ent L d = false from by rw [HE.out, SL.drop_end (by omega)]; rfl)
        go_wp2_with fail
        go_ret
        exact ⟨by rw [HT.out]; rfl, rfl⟩

theorem wpEnters (L : SL) (d : Int) (A : Option Addr) (n c N : Nat) (w : World) (hs : Sl w N L A n c) (hd0 : -10 ≤ d) (hd1 : d ≤ 10) :
    Calls Try.prog 18 #[.slice A n c, .int .i64 d] w fun e w' => e = .returned (.bool (ent L d)) ∧ w' = w := wpEnters_any (L.size + 1) L (by omega) d A n c N w hs hd0 hd1

theorem leafB_room {k x y n : Int} (h : leafB k x y n (-1) = true) : leafB k x y n 0 = true ∧ k ≠ 9 ∧ k ≠ 8 := by
  unfold leafB at h
  have hk : k = 1 ∨ k = 2 ∨ k = 3 ∨ k = 4 ∨ k = 5 ∨ k = 9 ∨ k = 10 ∨ k = 11 ∨ (k ≠ 1 ∧ k ≠ 2 ∧ k ≠ 3 ∧ k ≠ 4 ∧ k ≠ 5 ∧ k ≠ 9 ∧ k ≠ 10 ∧ k ≠ 11) := by omega
  rcases hk with rfl | rfl | rfl | rfl | rfl | rfl | rfl | rfl | ⟨h1, h2, h3, h4, h5, h9, h10, h11⟩
  all_goals first
    | (simp at h; done)
    | (simp [h1, h2, h3, h4, h5, h9, h10, h11] at h; done)
    | (refine ⟨?_, by decide, by decide⟩; simpa [leafB] using h)

/-- What is right in no room is right in room 0 just if it enters none. -/
theorem okL_room {L : SL} : ∀ {d D : Int}, okL L d (-1) = true → d ≤ D → okL L d 0 = !(ent L D) := by
  induction L with
  | nil => intro d D _ _; rfl
  | cons k x y n B E R hB hE hR =>
    intro d D h hD
    rw [okL_cons, Bool.and_eq_true] at h
    obtain ⟨hs, hr⟩ := h
    obtain ⟨hh, h1, h2⟩ := okS_parts hs
    have hd := headB_one hh
    rw [okL_cons, hR hr hD, ent_cons (by omega)]
    have key : okS k x y n B E d 0 = !(decide (k = 8) || ent B (D - 1) || ent E (D - 1)) := by
      unfold headB at hh
      rw [Bool.and_eq_true] at hh
      have hh := hh.2
      by_cases k8 : k = 8
      · subst k8
        unfold okS headB
        simp
      · rw [show decide (k = 8) = false from decide_eq_false k8]
        rw [show inR k x (-1) = -1 from if_neg k8] at h1 h2
        have e0 : inR k x 0 = 0 := if_neg k8
        unfold okS
        rw [e0, hB (D := D - 1) h1 (by omega), hE (D := D - 1) h2 (by omega)]
        have : headB k x y n B.len E.len d 0 = true := by
          unfold headB
          rw [show decide (1 ≤ d) = true from decide_eq_true hd, Bool.true_and]
          by_cases k6 : k = 6
          · rw [if_pos k6] at hh ⊢; exact hh
          · rw [if_neg k6] at hh ⊢
            by_cases k7 : k = 7
            · rw [if_pos k7] at hh ⊢; exact hh
            · rw [if_neg k7, if_neg k8] at hh ⊢
              rw [Bool.and_eq_true] at hh ⊢
              exact ⟨hh.1, (leafB_room hh.2).1⟩
        rw [this]
        cases ent B (D - 1) <;> cases ent E (D - 1) <;> rfl
    rw [key]
    cases decide (k = 8) <;> cases ent B (D - 1) <;> cases ent E (D - 1) <;> cases ent R D <;> rfl

/-- What is right is so if it may be deeper. -/
theorem okL_up {L : SL} : ∀ {d r : Int}, okL L d r = true → okL L (d + 1) r = true := by
  induction L with
  | nil => intro d r _; rfl
  | cons k x y n B E R hB hE hR =>
    intro d r h
    rw [okL_cons, Bool.and_eq_true] at h
    obtain ⟨hs, hr⟩ := h
    obtain ⟨hh, h1, h2⟩ := okS_parts hs
    have hd := headB_one hh
    rw [okL_cons, hR hr, Bool.and_true]
    unfold okS
    have e : d + 1 - 1 = d - 1 + 1 := by omega
    rw [e, hB h1, hE h2]
    unfold headB at hh ⊢
    rw [Bool.and_eq_true] at hh
    rw [show decide (1 ≤ d + 1) = true from decide_eq_true (by omega), hh.2]
    rfl
theorem okS_one {k x y n : Int} {B E : SL} {d r : Int} : okL (.cons k x y n B E .nil) d r = okS k x y n B E d r := by rw [okL_cons, okL_nil, Bool.and_true]
theorem okS_up {k x y n : Int} {B E : SL} {d r : Int} (h : okS k x y n B E d r = true) : okS k x y n B E (d + 1) r = true := by
  rw [← okS_one] at h ⊢; exact okL_up h
theorem okS_room {k x y n : Int} {B E : SL} {d : Int} (h : okS k x y n B E d (-1) = true) (hd : d ≤ 3) : okS k x y n B E d 0 = !(ent (.cons k x y n B E .nil) 3) := by
  rw [← okS_one] at h ⊢; exact okL_room h hd
theorem okS_in {x y n : Int} {B E : SL} {d r : Int} (h : okS 8 x y n B E d r = true) : r < 0 := by
  have := (okS_parts h).1
  unfold headB at this
  simp at this
  omega
theorem okS_in_no (x y n : Int) (B E : SL) (d : Int) : okS 8 x y n B E d 0 = false := by
  refine okS_head ?_
  unfold headB
  simp
theorem okS_wait {x y n : Int} {B E : SL} {d r : Int} (h : okS 9 x y n B E d r = true) : 0 ≤ r := by
  have := (okS_parts h).1
  unfold headB leafB at this
  simp at this
  omega
theorem okS_wait_no (x y n : Int) (B E : SL) (d : Int) : okS 9 x y n B E d (-1) = false := by
  refine okS_head ?_
  unfold headB leafB
  simp
end Go.Proofs.Ytlmgbpbiljnohaa
