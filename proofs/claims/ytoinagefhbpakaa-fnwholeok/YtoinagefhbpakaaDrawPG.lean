/- What the laws draw of chapter 2: some program that is right, in new memory alone. -/
import Derived.Test.YtoinagefhbpakaaDrawP
namespace Go.Proofs.Ytoinagefhbpakaa
open Go.ChangeShapes Go.WideShapes Go.ChangeAt Go.RowKit

theorem OwnP.keptG {G g base : Nat} {wr w1 : World} {v : Value} {Ls : List SL} (ho : OwnP G base wr v Ls) (hg : wr.grownBy w1 (some g)) (hG : g ≤ G) (hgl : g < base) : OwnP G base w1 v Ls := by
  obtain ⟨xs, h1, h2⟩ := ho
  have hb := fun b hb => own_blocks h1 (b := b) hb
  refine ⟨xs, h1.kept hg ?_, (h2.keep (grown_keep hg fun b hb => ⟨hb.2.1, fun e => by have := hb.1; injection e; omega⟩)).mono fun b hb => ⟨hb.1, Nat.lt_of_lt_of_le hb.2.1 hg.size, hb.2.2⟩⟩
  cases hv : v.ownBlock with
  | none => exact .inl rfl
  | some b => exact .inr (fun e => by have := hb b hv; injection e; omega)

theorem OwnP.n_eq {G base r n cap : Nat} {wr : World} {Ls : List SL} (ho : OwnP G base wr (.slice (some ⟨r, 0, none⟩) n cap) Ls) : n = Ls.length := by
  obtain ⟨xs, h1, _⟩ := ho
  obtain ⟨_, ⟨e, _⟩ | ⟨r', cap', cur, e, _⟩⟩ := id h1
  · cases e
  · injection e

/-- The list behind some of a row's. -/
theorem OwnP.mid {G base r n cap : Nat} {wr : World} {Xs Ys : List SL} {L : SL} (ho : OwnP G base wr (.slice (some ⟨r, 0, none⟩) n cap) (Xs ++ L :: Ys)) :
    ∃ (a : Addr) (c : Nat), wr.cell? ⟨r, Xs.length, none⟩ = some (.slice (some a) L.len c) ∧ SlP wr (fun b => G < b ∧ b < wr.heap.size ∧ b ≠ r) L (some a) L.len c ∧ wr.frozen? ⟨r, Xs.length, none⟩ = false := by
  have hn := ho.n_eq
  obtain ⟨xs, h1, hd⟩ := ho
  rw [← hn] at h1
  have hlt : Xs.length < (Xs ++ L :: Ys).length := by simp
  obtain ⟨a, c, h3, h4⟩ := hd.get Xs.length hlt
  have e : (Xs ++ L :: Ys)[Xs.length] = L := by simp
  rw [e] at h3 h4
  refine ⟨a, c, ?_, h4.mono fun b hb => ⟨hb.1, hb.2.1, fun e => hb.2.2 (by rw [e]; rfl)⟩, h1.frozenAt _⟩
  rw [h1.cellAt _ (by omega)]
  exact h3

/-- Some program that is right: a row that the call owns. -/
def PrGPost (g : Nat) (p : Int) (w : World) (e : Ending) (w' : World) : Prop :=
  ∃ (Ls : List SL) (r cap : Nat) (q : Int), e = .returned (.slice (some ⟨r, 0, none⟩) Ls.length cap) ∧ OwnP (w.heap.size - 1) w.heap.size w' (.slice (some ⟨r, 0, none⟩) Ls.length cap) Ls ∧ 1 ≤ Ls.length ∧ Ls.length ≤ 3 ∧ (∀ L ∈ Ls, okP L = true ∧ L.size ≤ 2922) ∧ p ≤ q ∧ q ≤ p + 8752 ∧ Rd w' g q ∧ w.grownBy w' (some g)
def PrGRel (g : Nat) (p : Int) (w : World) (v i : Value) (wr : World) : Prop :=
  ∃ (Ls : List SL) (r cap : Nat) (q z : Int), v = .slice (some ⟨r, 0, none⟩) Ls.length cap ∧ i = .int .i64 z ∧ 0 ≤ z ∧ 1 ≤ Ls.length + z ∧ Ls.length + z ≤ 3 ∧ OwnP (w.heap.size - 1) w.heap.size wr (.slice (some ⟨r, 0, none⟩) Ls.length cap) Ls ∧ (∀ L ∈ Ls, okP L = true ∧ L.size ≤ 2922) ∧ p ≤ q ∧ q ≤ p + 1 + (3 - z) * 2917 ∧ Rd wr g q ∧ w.grownBy wr (some g)

set_option maxRecDepth 100000 in
set_option maxHeartbeats 4000000 in
theorem progG_ (g : Nat) (p : Int) (w : World) (hR : Rd w g p) (hp0 : 0 ≤ p) (hp1 : p ≤ 200000000000) :
    Calls Try.prog 63 #[.pointer (some ⟨g, 0, none⟩)] w (PrGPost g p w) := by
  have hgl := hR.lt
  obtain ⟨i0, hi, hz0, hz1, hz2⟩ := info_parts info_Ls
  have ba : w.grownBy (w.alloc (.cells #[] 58)) (some g) := World.grownBy_alloc w _ _
  have hown0 : OwnP (w.heap.size - 1) w.heap.size (w.alloc (.cells #[] 58)) (.slice (some ⟨w.heap.size, 0, none⟩) 0 0) [] := ⟨[], World.ownsRow_lit w #[] 0 (Nat.le_refl _) (Nat.zero_le _) rfl, rfl⟩
  go_enter Try.func63, Try.ntmps63
  go_wp2_with fail
  refine (pick g p _ _ (hR.alloc _) hp0 (by omega) (by omega)).mono ?_
  rintro e w1 ⟨k, k0, k1, rfl, hR1, hg1⟩
  have hgw := ba.trans hg1
  have ho1 := hown0.keptG hg1 (by omega) hgl
  clear hown0 ba
  go_wp2_with fail
  go_loopw [3, 4] (fun v i wr => PrGRel g p w v i wr) (fun _ i _ => (intOf i).toNat)
  case atStart => exact ⟨[], _, _, p + 1, 1 + k, rfl, rfl, by omega, by simp; omega, by simp; omega, ho1, (fun L h => by simp at h), by omega, by omega, hR1, hgw⟩
  case round =>
    clear hR1 hg1 hgw ho1
    obtain ⟨Ls, r, cap, q, z, rfl, rfl, z0, zl, z3, ho, hall, hq0, hq1, hRr, hgr⟩ := hrel
    have hwz := hgr.size
    by_cases hlt : 0 < z
    · go_wp2_with fail
      refine (some_ g q wr hRr (by omega) (by omega)).mono ?_
      rintro e w2 ⟨L, a, c, q', rfl, hs, hok, _, hsz, hq2, hq3, hR2, hg2⟩
      obtain ⟨xs, ho2, hd2⟩ := ho.keptG hg2 (by omega) hgl
      have hvb := fun b hb => own_blocks ho2 (b := b) hb
      have hz2' := hg2.size
      obtain ⟨_, h0, _⟩ := id ho
      have hrw := (own_blocks h0 (b := r) rfl)
      have hs' : SlP w2 (fun b => w.heap.size - 1 < b ∧ b < w2.heap.size ∧ (Value.slice (some ⟨r, 0, none⟩) Ls.length cap).ownBlock ≠ some b) L (some a) L.len c := hs.mono fun b hb => ⟨by have := hb.1; omega, hb.2, by have := hb.1; simp [Value.ownBlock]; omega⟩
      have hgr2 := hgr.trans hg2
      have hls : (Ls.length : Int) ≤ 2 := by omega
      have hls' : Ls.length ≤ 2 := by omega
      have HD := Lib.hid hd2
      have HL := Lib.hid hs'
      have HV := Lib.hid hvb
      clear hd2 hs hs' ho hvb h0 hg2 hRr
      go_wp2_with (at_builtin; refine wpList_append_at _ rfl (.tmp 13) (.tmp 16) 42 rfl w.heap.size 58 i0 _ 1 24 Try.underlying42 hi hz0 hz1 hz2 rfl (by decide) _ _ _ rfl (ho2.alloc _) ⟨w2.heap.size, 0, none⟩ 1 1 [.slice (some a) L.len c] rfl rfl (fun j u h => by rw [add_off, row_cell (new_row w2 _ _)]; simpa using h) (fun u h => by simp at h; subst h; rfl) (by unfold maxLen; omega) (by omega) (by simp; omega) (by omega) ?_)
      intro v' w3 ho3 hg3 hw3
      obtain ⟨r3, cap3, rfl, hr30, hr31⟩ := own_some ho3 (fun e => by rw [e] at hw3; simp [Value.ownBlock] at hw3)
      have hsn := OwnP.snoc HD.out HL.out ho3 hg3 hw3
      have hgr3 : w.grownBy w3 (some g) := grown_own hgr2 ((World.grownBy_alloc w2 _ _).trans hg3) (fun b hb => (HV.out b hb).1)
      have hR3 : Rd w3 g q' := hR2.keep fun k hk => (hg3.block k (by simp; omega) (fun e => by have := (HV.out k e.symm).1; omega)).trans (Below.heap_alloc w2 _ k (by omega))
      clear ho2 ho3 hg3 hw3
      go_wp2_with fail
      go_roundw
      case rel =>
        refine ⟨Ls ++ [L], r3, cap3, q', z - 1, by rw [List.length_append]; rfl, rfl, by omega, by simp; omega, by simp; omega, by rw [List.length_append]; exact hsn, fun M hM => ?_, by omega, by omega, hR3, hgr3⟩
        rcases List.mem_append.1 hM with h | h
        · exact hall M h
        · rw [List.mem_singleton.1 h]; exact ⟨hok, hsz⟩
      case measure => simp [intOf]; omega
    · have HA := Lib.hid (show PrGPost g p w (.returned (.slice (some ⟨r, 0, none⟩) Ls.length cap)) wr from ⟨Ls, r, cap, q, rfl, ho, by omega, by omega, hall, hq0, by omega, hRr, hgr⟩)
      clear ho
      go_wp2_with fail
      go_ret
      exact HA.out
end Go.Proofs.Ytoinagefhbpakaa
