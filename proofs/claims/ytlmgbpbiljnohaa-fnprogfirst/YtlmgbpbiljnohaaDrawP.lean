/- What the laws draw of chapter 2: some program that is right. -/
import Derived.Test.YtlmgbpbiljnohaaSome
import Derived.Test.YtlmgbpbiljnohaaPs
namespace Go.Proofs.Ytlmgbpbiljnohaa
open Go.ChangeShapes Go.WideShapes Go.ChangeAt Go.RowKit

/-- The cells of a row of lists. -/
def DecP (w : World) (S : Nat → Prop) : List SL → List Value → Prop
  | [], xs => xs = []
  | L :: Ls, xs => ∃ (a : Addr) (c : Nat) (ys : List Value), xs = .slice (some a) L.len c :: ys ∧ SlP w S L (some a) L.len c ∧ DecP w S Ls ys

theorem DecP.keep {w w' : World} {S : Nat → Prop} (hc : ∀ p : Addr, S p.block → w'.cell? p = w.cell? p) {Ls : List SL} : ∀ {xs : List Value}, DecP w S Ls xs → DecP w' S Ls xs := by
  induction Ls with
  | nil => intro xs h; exact h
  | cons L Ls ih => rintro xs ⟨a, c, ys, rfl, hs, hd⟩; exact ⟨a, c, ys, rfl, hs.keep hc, ih hd⟩
theorem DecP.mono {w : World} {S T : Nat → Prop} (h : ∀ b, S b → T b) {Ls : List SL} : ∀ {xs : List Value}, DecP w S Ls xs → DecP w T Ls xs := by
  induction Ls with
  | nil => intro xs h; exact h
  | cons L Ls ih => rintro xs ⟨a, c, ys, rfl, hs, hd⟩; exact ⟨a, c, ys, rfl, hs.mono h, ih hd⟩
theorem DecP.length {w : World} {S : Nat → Prop} {Ls : List SL} : ∀ {xs : List Value}, DecP w S Ls xs → xs.length = Ls.length := by
  induction Ls with
  | nil => rintro xs rfl; rfl
  | cons L Ls ih => rintro xs ⟨a, c, ys, rfl, hs, hd⟩; simp [ih hd]
theorem DecP.app {w : World} {S : Nat → Prop} {Ls Ms : List SL} : ∀ {xs ys : List Value}, DecP w S Ls xs → DecP w S Ms ys → DecP w S (Ls ++ Ms) (xs ++ ys) := by
  induction Ls with
  | nil => rintro xs ys rfl h; exact h
  | cons L Ls ih => rintro xs ys ⟨a, c, zs, rfl, hs, hd⟩ h; exact ⟨a, c, zs ++ ys, rfl, hs, ih hd h⟩
theorem DecP.one {w : World} {S : Nat → Prop} {Ls : List SL} : ∀ {xs : List Value}, DecP w S Ls xs → ∀ u ∈ xs, u.oneCell' = true := by
  induction Ls with
  | nil => rintro xs rfl u h; simp at h
  | cons L Ls ih =>
    rintro xs ⟨a, c, ys, rfl, hs, hd⟩ u h
    rcases List.mem_cons.1 h with rfl | h
    · rfl
    · exact ih hd u h
theorem DecP.get {w : World} {S : Nat → Prop} {Ls : List SL} : ∀ {xs : List Value}, DecP w S Ls xs → ∀ i (h : i < Ls.length), ∃ (a : Addr) (c : Nat), xs[i]? = some (.slice (some a) (Ls[i]).len c) ∧ SlP w S (Ls[i]) (some a) (Ls[i]).len c := by
  induction Ls with
  | nil => intro xs _ i h; simp at h
  | cons L Ls ih =>
    rintro xs ⟨a, c, ys, rfl, hs, hd⟩ i h
    cases i with
    | zero => exact ⟨a, c, rfl, hs⟩
    | succ i =>
      obtain ⟨a', c', h1, h2⟩ := ih hd i (by simpa using h)
      exact ⟨a', c', by simpa using h1, by simpa using h2⟩

/-- A row of lists that the call owns. -/
def OwnP (g base : Nat) (wr : World) (v : Value) (Ls : List SL) : Prop := ∃ xs, wr.ownsRow base 23 1 v Ls.length xs ∧ DecP wr (fun b => g < b ∧ b < wr.heap.size ∧ v.ownBlock ≠ some b) Ls xs

theorem OwnP.kept {g base : Nat} {wr w1 : World} {v : Value} {Ls : List SL} (ho : OwnP g base wr v Ls) (hg : wr.grownBy w1 (some g)) (hgl : g < base) : OwnP g base w1 v Ls := by
  obtain ⟨xs, h1, h2⟩ := ho
  have hb := fun b hb => own_blocks h1 (b := b) hb
  refine ⟨xs, h1.kept hg ?_, (h2.keep (grown_keep hg fun b hb => ⟨hb.2.1, fun e => by have := hb.1; injection e; omega⟩)).mono fun b hb => ⟨hb.1, Nat.lt_of_lt_of_le hb.2.1 hg.size, hb.2.2⟩⟩
  cases hv : v.ownBlock with
  | none => exact .inl rfl
  | some b => exact .inr (fun e => by have := hb b hv; injection e; omega)

/-- It reads as a program. -/
theorem OwnP.ps {g base r cap n : Nat} {wr : World} {Ls : List SL} (ho : OwnP g base wr (.slice (some ⟨r, 0, none⟩) n cap) Ls) (hgl : g < base) : PsP wr (Past g wr) Ls (some ⟨r, 0, none⟩) n cap := by
  obtain ⟨xs, h1, h2⟩ := ho
  have hb := own_blocks h1 (b := r) rfl
  obtain ⟨hx, ⟨e, _⟩ | ⟨r', cap', cur, e, _, hrow, hnc, hcm, _⟩⟩ := id h1
  · cases e
  · injection e with e1 e2 e3
    injection e1 with e1
    injection e1 with e1
    subst e1 e2 e3
    refine ⟨rfl, hnc, hcm, fun i hi => ?_⟩
    obtain ⟨a, c, h3, h4⟩ := h2.get i hi
    exact ⟨_, some a, c, rfl, ⟨by show g < r; omega, hb.2⟩, by rw [add_off, h1.cellAt _ (by omega)]; exact h3, h4.mono fun b hb => ⟨hb.1, hb.2.1⟩⟩

/-- A list appended to a row that the call owns. -/
theorem OwnP.snoc {g base : Nat} {wr w2 : World} {v v' : Value} {Ls : List SL} {L : SL} {a : Addr} {c : Nat} {o : Obj} {xs : List Value}
    (hd : DecP wr (fun b => g < b ∧ b < wr.heap.size ∧ v.ownBlock ≠ some b) Ls xs) (hL : SlP wr (fun b => g < b ∧ b < wr.heap.size ∧ v.ownBlock ≠ some b) L (some a) L.len c)
    (hw2 : w2.ownsRow base 23 1 v' (Ls.length + 1) (xs ++ [.slice (some a) L.len c]))
    (hg2 : (wr.alloc o).grownBy w2 v.ownBlock) (hnew : v'.ownBlock = v.ownBlock ∨ v'.ownBlock = some (wr.heap.size + 1)) : OwnP g base w2 v' (Ls ++ [L]) := by
  have hsz : wr.heap.size < w2.heap.size := by have := hg2.size; simp at this; omega
  have hk : ∀ p : Addr, (g < p.block ∧ p.block < wr.heap.size ∧ v.ownBlock ≠ some p.block) → w2.cell? p = wr.cell? p := fun p hp => by
    rw [World.cell?_of_block (hg2.block p.block (by have := hp.2.1; simp; omega) (fun e => hp.2.2 e.symm)), World.cell?_of_block (w := wr) (Below.heap_alloc wr o p.block hp.2.1)]
  have hm : ∀ b, (g < b ∧ b < wr.heap.size ∧ v.ownBlock ≠ some b) → (g < b ∧ b < w2.heap.size ∧ v'.ownBlock ≠ some b) := fun b hb => by
    refine ⟨hb.1, by omega, fun e => ?_⟩
    rcases hnew with h | h
    · rw [h] at e; exact hb.2.2 e
    · rw [h] at e; injection e with e; omega
  exact ⟨_, by rw [List.length_append]; exact hw2, DecP.app ((hd.keep hk).mono hm) ⟨a, c, [], rfl, (hL.keep hk).mono hm, rfl⟩⟩

theorem info_Ls : (Try.prog.info? 23).map (fun i => (i.zero, i.size, i.bytes)) = some (some (.slice none 0 0), 1, 24) := by kernel_rfl

/-- Some program that is right: a row that the call owns. -/
def PrDPost (g : Nat) (p : Int) (w : World) (e : Ending) (w' : World) : Prop :=
  ∃ (Ls : List SL) (r cap : Nat) (q : Int), e = .returned (.slice (some ⟨r, 0, none⟩) Ls.length cap) ∧ OwnP g w.heap.size w' (.slice (some ⟨r, 0, none⟩) Ls.length cap) Ls ∧ 1 ≤ Ls.length ∧ Ls.length ≤ 3 ∧ (∀ L ∈ Ls, okP L = true ∧ L.size ≤ 2922) ∧ p ≤ q ∧ q ≤ p + 8752 ∧ Rd w' g q ∧ w.grownBy w' (some g)
def PrDRel (g : Nat) (p : Int) (w : World) (v i : Value) (wr : World) : Prop :=
  ∃ (Ls : List SL) (r cap : Nat) (q z : Int), v = .slice (some ⟨r, 0, none⟩) Ls.length cap ∧ i = .int .i64 z ∧ 0 ≤ z ∧ 1 ≤ Ls.length + z ∧ Ls.length + z ≤ 3 ∧ OwnP g w.heap.size wr (.slice (some ⟨r, 0, none⟩) Ls.length cap) Ls ∧ (∀ L ∈ Ls, okP L = true ∧ L.size ≤ 2922) ∧ p ≤ q ∧ q ≤ p + 1 + (3 - z) * 2917 ∧ Rd wr g q ∧ w.grownBy wr (some g)

set_option maxRecDepth 100000 in
set_option maxHeartbeats 4000000 in
theorem prog_ (g : Nat) (p : Int) (w : World) (hR : Rd w g p) (hp0 : 0 ≤ p) (hp1 : p ≤ 200000000000) :
    Calls Try.prog 53 #[.pointer (some ⟨g, 0, none⟩)] w (PrDPost g p w) := by
  have hgl := hR.lt
  obtain ⟨i0, hi, hz0, hz1, hz2⟩ := info_parts info_Ls
  have ba : w.grownBy (w.alloc (.cells #[] 23)) (some g) := World.grownBy_alloc w _ _
  have hown0 : OwnP g w.heap.size (w.alloc (.cells #[] 23)) (.slice (some ⟨w.heap.size, 0, none⟩) 0 0) [] := ⟨[], World.ownsRow_lit w #[] 0 (Nat.le_refl _) (Nat.zero_le _) rfl, rfl⟩
  go_enter Try.func53, Try.ntmps53
  go_wp2_with fail
  refine (pick g p _ _ (hR.alloc _) hp0 (by omega) (by omega)).mono ?_
  rintro e w1 ⟨k, k0, k1, rfl, hR1, hg1⟩
  have hgw := ba.trans hg1
  have ho1 := hown0.kept hg1 hgl
  clear hown0 ba
  go_wp2_with fail
  go_loopw [3, 4] (fun v i wr => PrDRel g p w v i wr) (fun _ i _ => (intOf i).toNat)
  case atStart => exact ⟨[], _, _, p + 1, 1 + k, rfl, rfl, by omega, by simp; omega, by simp; omega, ho1, (fun L h => by simp at h), by omega, by omega, hR1, hgw⟩
  case round =>
    clear hR1 hg1 hgw ho1
    obtain ⟨Ls, r, cap, q, z, rfl, rfl, z0, zl, z3, ho, hall, hq0, hq1, hRr, hgr⟩ := hrel
    have hwz := hgr.size
    by_cases hlt : 0 < z
    · go_wp2_with fail
      refine (some_ g q wr hRr (by omega) (by omega)).mono ?_
      rintro e w2 ⟨L, a, c, q', rfl, hs, hok, _, hsz, hq2, hq3, hR2, hg2⟩
      obtain ⟨xs, ho2, hd2⟩ := ho.kept hg2 hgl
      have hvb := fun b hb => own_blocks ho2 (b := b) hb
      have hz2' := hg2.size
      obtain ⟨_, h0, _⟩ := id ho
      have hrw := (own_blocks h0 (b := r) rfl)
      have hs' : SlP w2 (fun b => g < b ∧ b < w2.heap.size ∧ (Value.slice (some ⟨r, 0, none⟩) Ls.length cap).ownBlock ≠ some b) L (some a) L.len c := hs.mono fun b hb => ⟨by have := hb.1; omega, hb.2, by have := hb.1; simp [Value.ownBlock]; omega⟩
      have hgr2 := hgr.trans hg2
      have hls : (Ls.length : Int) ≤ 2 := by omega
      have hls' : Ls.length ≤ 2 := by omega
      have HD := Lib.hid hd2
      have HL := Lib.hid hs'
      have HV := Lib.hid hvb
      clear hd2 hs hs' ho hvb h0 hg2 hRr
      go_wp2_with (at_builtin; refine wpList_append_at _ rfl (.tmp 13) (.tmp 16) 34 rfl w.heap.size 23 i0 _ 1 24 Try.underlying34 hi hz0 hz1 hz2 rfl (by decide) _ _ _ rfl (ho2.alloc _) ⟨w2.heap.size, 0, none⟩ 1 1 [.slice (some a) L.len c] rfl rfl (fun j u h => by rw [add_off, row_cell (new_row w2 _ _)]; simpa using h) (fun u h => by simp at h; subst h; rfl) (by unfold maxLen; omega) (by omega) (by simp; omega) (by omega) ?_)
      intro v' w3 ho3 hg3 hw3
      obtain ⟨r3, cap3, rfl, hr30, hr31⟩ := own_some ho3 (fun e => by rw [e] at hw3; simp [Value.ownBlock] at hw3)
      have hsn := OwnP.snoc HD.out HL.out ho3 hg3 hw3
      have hgr3 : w.grownBy w3 (some g) := grown_own hgr2 ((World.grownBy_alloc w2 _ _).trans hg3) (fun b hb => (HV.out b hb).1)
      have hR3 : Rd w3 g q' := hR2.keep fun k hk => (hg3.block k (by simp; omega) (fun e => by have := (HV.out k e.symm).1; omega)).trans (Below.heap_alloc w2 _ k (by omega))
      clear ho2 ho3 hg3 hw3
      go_wp2_with fail
      go_roundw
      case rel =>
        refine ⟨Ls ++ [L], r3, cap3, q', z - 1, by rw [List.length_append]; rfl, rfl, by omega, by simp; omega, by simp; omega, by rw [List.length_append]; exact hsn, fun M hM => ?_, by omega, by omega, hR3, hgr3⟩
        rcases List.mem_append.1 hM with h | h
        · exact hall M h
        · rw [List.mem_singleton.1 h]; exact ⟨hok, hsz⟩
      case measure => simp [intOf]; omega
    · have HA := Lib.hid (show PrDPost g p w (.returned (.slice (some ⟨r, 0, none⟩) Ls.length cap)) wr from ⟨Ls, r, cap, q, rfl, ho, by omega, by omega, hall, hq0, by omega, hRr, hgr⟩)
      clear ho
      go_wp2_with fail
      go_ret
      exact HA.out
end Go.Proofs.Ytlmgbpbiljnohaa
