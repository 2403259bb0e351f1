/- What the laws draw of chapter 2: some program, bent or not. -/
import Derived.Test.YtlmgbpbiljnohaaBentWalk
import Derived.Test.YtlmgbpbiljnohaaDrawP
namespace Go.Proofs.Ytlmgbpbiljnohaa
open Go.ChangeShapes Go.WideShapes Go.ChangeAt Go.RowKit

theorem sizeP_le {M : Nat} {Ls : List SL} (h : ∀ L ∈ Ls, L.size ≤ M) : sizeP Ls ≤ Ls.length * (M + 1) := by
  induction Ls with
  | nil => simp [sizeP]
  | cons L Ls ih =>
    have h1 := h L (List.mem_cons_self ..)
    have h2 := ih fun K hK => h K (List.mem_cons_of_mem _ hK)
    simp only [sizeP, List.length_cons, Nat.add_mul]
    omega

section
variable {P : Program} (w : World)
/-- Where the row lies behind an append: where it lay, or in a new block, all else as it was. -/
theorem append_where2 (base : Nat) (t ty e : TypeId) (i : TypeInfo) (z : Value) (ht : P.underlying t = some (.slice e)) (hi : P.info? e = some i) (hz : i.zero = some z)
    (v : Value) (n : Nat) (xs : List Value) (hown : w.ownsRow base e i.size v n xs)
    (a : Addr) (m c : Nat) (news : List Value) (hl : news.length = m * i.size) (hnews : ∀ j u, news[j]? = some u → w.cell? (a.add j) = some u) (h1 : ∀ u ∈ news, u.oneCell' = true)
    (h63 : n + m ≤ maxLen) (hbytes : (n + m) * i.bytes ≤ 140737488355328) (hm : 0 < m) {v' : Value} {w' : World} (hr : (Builtin.append_ #[t, t] ty #[v, .slice (some a) m c]).run P w = .ok v' w') :
    v'.ownBlock = v.ownBlock ∨ (v'.ownBlock = some w.heap.size ∧ ∀ k, k < w.heap.size → w'.heap[k]? = w.heap[k]?) := by
  have h63' : n + m ≤ 9223372036854775807 := by unfold maxLen at h63; omega
  obtain ⟨hxl, ⟨rfl, rfl⟩ | ⟨g, cap, cur, rfl, hbg, hg, hnc, hcm, hcs, htake⟩⟩ := id hown
  · right
    rw [run_append_nil (P := P) w t ty e i z ht hi hz a m c news hl hnews hm (by omega) (by rw [Nat.zero_add] at hbytes; omega)] at hr
    injection hr with hv hw
    rw [← hv, ← hw]; exact ⟨rfl, fun k hk => Below.heap_alloc _ _ _ hk⟩
  · by_cases hroom : n + m ≤ cap
    · left
      rw [run_append_room (P := P) w t ty e i ht hi g n cap cur hg a m c news hl hnews h1 hroom (by rw [hl, hcs, ← Nat.add_mul]; exact Nat.mul_le_mul_right _ hroom)] at hr
      injection hr with hv _
      rw [← hv]; rfl
    · right
      rw [run_append_grow (P := P) w t ty e i z ht hi hz ⟨g, 0, none⟩ n cap xs hxl (hown.cells (g := g) rfl) a m c news hl hnews (by omega) (by omega) (growslice_fits (by omega) hbytes)] at hr
      injection hr with hv hw
      rw [← hv, ← hw]; exact ⟨rfl, fun k hk => Below.heap_alloc _ _ _ hk⟩

theorem wpList_append_at2 {ops : Array Oper} {rest : List Oper} {o : Oper} {b : Act} {Q : Exit → Act → World → Prop} (hgd : o.guard = none) (s x : Operand) (t : TypeId)
    (ho : o.op = .call { callee := .builtin .append, args := #[s, x], argTypes := #[t, t] })
    (base : Nat) (e : TypeId) (i : TypeInfo) (z : Value) (size bytes : Nat) (ht : P.underlying t = some (.slice e)) (hi : P.info? e = some i) (hz : i.zero = some z) (hsize : i.size = size) (hby : i.bytes = bytes) (hzs : z.cells.size = size) (hsz : 0 < size)
    (v : Value) (n : Nat) (xs : List Value) (hs : b.eval s = v) (hown : w.ownsRow base e size v n xs)
    (ad : Addr) (m c : Nat) (news : List Value) (hx : b.eval x = .slice (some ad) m c) (hl : news.length = m * size) (hnews : ∀ j u, news[j]? = some u → w.cell? (ad.add j) = some u) (h1 : ∀ u ∈ news, u.oneCell' = true)
    (h63 : n + m ≤ maxLen) (hbytes : (n + m) * bytes ≤ 140737488355328) (hbase : base ≤ w.heap.size) (hm : 0 < m)
    (h : ∀ v' w', w'.ownsRow base e size v' (n + m) (xs ++ news) → w.grownBy w' v.ownBlock → (v'.ownBlock = v.ownBlock ∨ (v'.ownBlock = some w.heap.size ∧ ∀ k, k < w.heap.size → w'.heap[k]? = w.heap[k]?)) → wpList P ops Q rest (b.put o.dst v') w') : wpList P ops Q (o :: rest) b w := by
  subst hsize
  subst hby
  refine wpList_plain hgd fun _ hK => ?_
  obtain ⟨v', w', hr, h2, h3, _⟩ := run_append_own (P := P) w base t o.type e i z i.size i.bytes ht hi hz rfl rfl hzs hsz v n xs hown ad m c news hl hnews h1 h63 hbytes hbase
  have h4 := append_where2 (P := P) w base t o.type e i z ht hi hz v n xs hown ad m c news hl hnews h1 h63 hbytes hm hr
  unfold Oper.wp execOp
  simp only [ho, resolve, invoke, builtin, Sem.run_bind, Sem.run_pure, Result.andThen_ok, List.map_toArray, List.map_cons, List.map_nil, hs, hx, hr]
  exact hK _ _ (h v' w' h2 h3 h4)
end

/-- Lists beside a row that was appended to. -/
theorem DecP.moved {g : Nat} {wr w2 : World} {v v' : Value} {Ms : List SL} {ys : List Value} (hd : DecP wr (fun b => g < b ∧ b < wr.heap.size ∧ v.ownBlock ≠ some b) Ms ys)
    (hg2 : wr.grownBy w2 v.ownBlock) (hnew : v'.ownBlock = v.ownBlock ∨ (v'.ownBlock = some wr.heap.size ∧ ∀ k, k < wr.heap.size → w2.heap[k]? = wr.heap[k]?)) : DecP w2 (fun b => g < b ∧ b < w2.heap.size ∧ v'.ownBlock ≠ some b) Ms ys := by
  have hsz := hg2.size
  refine (hd.keep fun p hp => World.cell?_of_block (hg2.block p.block hp.2.1 (fun e => hp.2.2 e.symm))).mono fun b hb => ⟨hb.1, by omega, fun e => ?_⟩
  rcases hnew with h | h
  · rw [h] at e; exact hb.2.2 e
  · rw [h.1] at e; injection e with e; omega

/-- Some program, right or not. -/
def ProgsPost (g : Nat) (p : Int) (w : World) (e : Ending) (w' : World) : Prop :=
  ∃ (Ls : List SL) (r n cap : Nat) (q : Int), e = .returned (.slice (some ⟨r, 0, none⟩) n cap) ∧ PsP w' (Past g w') Ls (some ⟨r, 0, none⟩) n cap ∧ sizeP Ls ≤ 1048576 ∧ p ≤ q ∧ q ≤ p + 8765 ∧ Rd w' g q ∧ w.grownBy w' (some g)

theorem own_at {w : World} {base r n cap : Nat} {e : TypeId} {xs : List Value} (h : w.ownsRow base e 1 (.slice (some ⟨r, 0, none⟩) n cap) n xs) : ∀ j u, xs[j]? = some u → w.cell? ((⟨r, 0, none⟩ : Addr).add j) = some u := fun j u hj => by
  have hl : xs.length = n * 1 := h.1
  rw [add_off, h.cellAt _ (by have := (List.getElem?_eq_some_iff.1 hj).1; omega)]; exact hj

set_option maxRecDepth 100000 in
set_option maxHeartbeats 4000000 in
theorem progs_ (g : Nat) (p : Int) (w : World) (hR : Rd w g p) (hp0 : 0 ≤ p) (hp1 : p ≤ 100000000000) :
    Calls Try.prog 43 #[.pointer (some ⟨g, 0, none⟩)] w (ProgsPost g p w) := by
  have hgl := hR.lt
  obtain ⟨i0, hi, hz0, hz1, hz2⟩ := info_parts info_Ls
  go_enter Try.func43, Try.ntmps43
  go_wp2_with fail
  refine (prog_ g p w hR hp0 (by omega)).mono ?_
  rintro e w1 ⟨Ls, r, cap, q, rfl, ho, l1, l3, hall, q0, q1, hR1, hg1⟩
  go_wp2_with fail
  refine (pick g q _ _ hR1 (by omega) (by omega) (by omega)).mono ?_
  rintro e w2 ⟨k, k0, k1, rfl, hR2, hg2⟩
  have ho2 := ho.kept hg2 hgl
  have hg02 := hg1.trans hg2
  have hw2 := hg02.size
  have hsz := sizeP_le (M := 2922) (Ls := Ls) fun L hL => (hall L hL).2
  clear ho hR1 hg1 hg2
  by_cases hk : k = 0 ∨ k = 1 ∨ k = 2
  · rcases hk with rfl | rfl | rfl
    · obtain ⟨xs, h1, hd⟩ := ho2
      have hxl := hd.length
      have hrb := own_blocks h1 (b := r) rfl
      have HX := Lib.hid (show xs.length = Ls.length * 1 by rw [hxl, Nat.mul_one])
      have HC := Lib.hid (own_at h1)
      have HO := Lib.hid hd.one
      have HD := Lib.hid hd
      clear hd hxl
      go_wp2_with (at_builtin; refine wpList_append_at2 _ rfl (.tmp 10) (.tmp 11) 34 rfl w.heap.size 23 i0 _ 1 24 Try.underlying34 hi hz0 hz1 hz2 rfl (by decide) _ _ _ rfl h1 ⟨r, 0, none⟩ Ls.length cap xs rfl HX.out HC.out HO.out (by unfold maxLen; omega) (by omega) (by omega) (by omega) ?_)
      intro v3 w3 ho3 hg3 hw3
      obtain ⟨r3, cap3, rfl, hr30, hr31⟩ := own_some ho3 (fun e => by rw [e] at hw3; simp [Value.ownBlock] at hw3)
      have z3 := hg3.size
      have d3 := HD.out.moved hg3 hw3
      have HC3 := Lib.hid (show ∀ j u, xs[j]? = some u → w3.cell? ((⟨r, 0, none⟩ : Addr).add j) = some u from fun j u hj => by
        rcases hw3 with h | h
        · simp [Value.ownBlock] at h
          subst h
          exact own_at ho3 j u (by rw [List.getElem?_append_left (List.getElem?_eq_some_iff.1 hj).1]; exact hj)
        · rw [World.cell?_of_block (w := w2) (h.2 _ (by rw [add_block]; exact hrb.2))]; exact HC.out j u hj)
      have hgr3 : w.grownBy w3 (some g) := grown_own hg02 hg3 (fun b hb => by simp [Value.ownBlock] at hb; omega)
      have hR3 : Rd w3 g (q + 1) := hR2.keep fun k hk => hg3.block k (by omega) (fun e => by simp [Value.ownBlock] at e; omega)
      have D3 := Lib.hid d3
      clear d3 hg3 hw3 h1 HC HD hR2
      go_wp2_with (at_builtin; refine wpList_append_at2 _ rfl (.tmp 12) (.tmp 13) 34 rfl w.heap.size 23 i0 _ 1 24 Try.underlying34 hi hz0 hz1 hz2 rfl (by decide) _ _ _ rfl ho3 ⟨r, 0, none⟩ Ls.length cap xs rfl HX.out HC3.out HO.out (by unfold maxLen; omega) (by omega) (by omega) (by omega) ?_)
      intro v4 w4 ho4 hg4 hw4
      obtain ⟨r4, cap4, rfl, hr40, hr41⟩ := own_some ho4 (fun e => by rw [e] at hw4; simp [Value.ownBlock] at hw4)
      have d4 := D3.out.moved hg4 hw4
      have hgr4 : w.grownBy w4 (some g) := grown_own hgr3 hg4 (fun b hb => by simp [Value.ownBlock] at hb; omega)
      have hR4 : Rd w4 g (q + 1) := hR3.keep fun k hk => hg4.block k (by omega) (fun e => by simp [Value.ownBlock] at e; omega)
      have hp : OwnP g w.heap.size w4 (.slice (some ⟨r4, 0, none⟩) (Ls.length + Ls.length + Ls.length) cap4) (Ls ++ Ls ++ Ls) := ⟨_, by simpa only [List.length_append, List.append_assoc, Nat.add_assoc] using ho4, DecP.app (DecP.app d4 d4) d4⟩
      have hsz3 : sizeP (Ls ++ Ls ++ Ls) ≤ 9 * 2923 := Nat.le_trans (sizeP_le (M := 2922) fun L hL => by
        simp only [List.mem_append] at hL
        rcases hL with (h | h) | h <;> exact (hall L h).2) (by simp only [List.length_append]; omega)
      have HA := Lib.hid (show ProgsPost g p w (.returned (.slice (some ⟨r4, 0, none⟩) (Ls.length + Ls.length + Ls.length) cap4)) w4 from ⟨_, r4, _, cap4, q + 1, rfl, hp.ps hgl, by omega, by omega, by omega, hR4, hgr4⟩)
      clear ho3 ho4 hg4 hw4 d4 hp hsz3 hR3 D3 HC3
      go_wp2_with fail
      go_ret
      exact HA.out
    · have HA := Lib.hid (show ProgsPost g p w (.returned (.slice (some ⟨w2.heap.size, 0, none⟩) 0 0)) (w2.alloc (.cells #[] 23)) from ⟨[], w2.heap.size, 0, 0, q + 1, rfl, ⟨rfl, Nat.le_refl _, Nat.zero_le _, fun i h => by simp at h⟩, by simp [sizeP], by omega, by omega, hR2.alloc _, hg02.trans (World.grownBy_alloc w2 _ _)⟩)
      clear ho2
      go_wp2_with fail
      go_ret
      exact HA.out
    · cases Ls with
      | nil => simp at l1
      | cons L0 Ls =>
        obtain ⟨xs, h1, a0, c0, ys, rfl, hs0, hd⟩ := ho2
        have hrb := own_blocks h1 (b := r) rfl
        have hL0 := (hall L0 (List.mem_cons_self ..)).2
        have hcell : w2.cell? ⟨r, 0, none⟩ = some (.slice (some a0) L0.len c0) := h1.cellAt 0 (by simp)
        have hG : ∀ wx : World, w2.heap.size ≤ wx.heap.size → Reg (fun b => g < b ∧ b ≠ r) g wx := fun wx hx => ⟨fun b hb => Nat.ne_of_gt hb.1, fun b hb => ⟨by omega, by omega⟩⟩
        have hs0' : SlP w2 (fun b => (g < b ∧ b ≠ r) ∧ b < w2.heap.size) L0 (some a0) L0.len c0 := hs0.mono fun b hb => ⟨⟨hb.1, fun e => hb.2.2 (by rw [e]; rfl)⟩, hb.2.1⟩
        have H1 := Lib.hid h1
        have HD := Lib.hid hd
        clear h1 hd hs0
        go_wp2_with fail
        refine (bent (fun b => g < b ∧ b ≠ r) L0 g (q + 1) a0 _ c0 w2 (hG _ (Nat.le_refl _)) hs0' hR2 (by omega) (by omega) (by omega)).mono ?_
        rintro e w3 ⟨L3, a3, c3, q3, rfl, hs3, hz3, hl3, q30, q31, hR3, hg3⟩
        have z3 := hg3.size
        go_wp2_with fail
        refine (bent (fun b => g < b ∧ b ≠ r) L3 g q3 a3 _ c3 w3 (hG _ z3) hs3 hR3 (by omega) (by omega) (by omega)).mono ?_
        rintro e w4 ⟨L4, a4, c4, q4, rfl, hs4, hz4, hl4, q40, q41, hR4, hg4⟩
        have z4 := hg4.size
        go_wp2_with fail
        refine (bent (fun b => g < b ∧ b ≠ r) L4 g q4 a4 _ c4 w4 (hG _ (by omega)) hs4 hR4 (by omega) (by omega) (by omega)).mono ?_
        rintro e w5 ⟨L5, a5, c5, q5, rfl, hs5, hz5, hl5, q50, q51, hR5, hg5⟩
        have z5 := hg5.size
        go_wp2_with fail
        refine (bent (fun b => g < b ∧ b ≠ r) L5 g q5 a5 _ c5 w5 (hG _ (by omega)) hs5 hR5 (by omega) (by omega) (by omega)).mono ?_
        rintro e w6 ⟨L6, a6, c6, q6, rfl, hs6, hz6, hl6, q60, q61, hR6, hg6⟩
        have z6 := hg6.size
        have hg26 := ((hg3.trans hg4).trans hg5).trans hg6
        have h6 := H1.out.kept hg26 (.inr fun e => by simp [Value.ownBlock] at e; omega)
        have hd6 := HD.out.keep (grown_keep hg26 fun b hb => ⟨hb.2.1, fun e => by have := hb.1; injection e; omega⟩)
        have hcell6 : w6.cell? ⟨r, 0, none⟩ = some (.slice (some a0) L0.len c0) := h6.cellAt 0 (by simp)
        have hfr := h6.frozenAt 0
        obtain ⟨hRz, hgz⟩ := store_frame (j := 0) (u := .slice (some a6) L6.len c6) hR6 (hg02.trans hg26) hgl hrb.1
        obtain ⟨h7, hg7⟩ := h6.stored 0 (.slice (some a6) L6.len c6)
        have hk7 : ∀ p : Addr, p.block ≠ r → (w6.setCell ⟨r, 0, none⟩ (.slice (some a6) L6.len c6)).cell? p = w6.cell? p := fun p hp => World.cell?_of_block (Below.heap_setCell w6 ⟨r, 0, none⟩ _ p.block hp)
        have hp : OwnP g w.heap.size (w6.setCell ⟨r, 0, none⟩ (.slice (some a6) L6.len c6)) (.slice (some ⟨r, 0, none⟩) (L0 :: Ls).length cap) (L6 :: Ls) :=
          ⟨_, h7, a6, c6, ys, rfl, (hs6.keep fun p hp => hk7 p hp.1.2).mono fun b hb => ⟨hb.1.1, by rw [size_set]; exact hb.2, fun e => hb.1.2 (by simp [Value.ownBlock] at e; exact e.symm)⟩,
            (hd6.keep fun p hp => hk7 p fun e => hp.2.2 (by rw [e]; rfl)).mono fun b hb => ⟨hb.1, by rw [size_set]; omega, hb.2.2⟩⟩
        have hsz6 : sizeP (L6 :: Ls) ≤ 1048576 := by
          have h2 := sizeP_le (M := 2922) (Ls := Ls) fun K hK => (hall K (List.mem_cons_of_mem _ hK)).2
          simp only [List.length_cons] at l3
          have h3 : Ls.length * 2923 ≤ 2 * 2923 := Nat.mul_le_mul_right _ (by omega)
          simp only [sizeP]
          omega
        have HA := Lib.hid (show ProgsPost g p w (.returned (.slice (some ⟨r, 0, none⟩) (L0 :: Ls).length cap)) _ from ⟨_, r, _, cap, q6, rfl, hp.ps hgl, hsz6, by omega, by omega, hRz, hgz⟩)
        clear hp h7 hg7 hs6 hs5 hs4 hs3 hs0' hd6 H1 HD hRz hgz h6
        go_wp2_with fail
        go_ret
        exact HA.out
  · have n0 : k ≠ 0 := by omega
    have n1 : k ≠ 1 := by omega
    have n2 : k ≠ 2 := by omega
    clear hk
    have HA := Lib.hid (show ProgsPost g p w (.returned (.slice (some ⟨r, 0, none⟩) Ls.length cap)) w2 from ⟨_, r, _, cap, q + 1, rfl, ho2.ps hgl, by omega, by omega, by omega, hR2, hg02⟩)
    clear ho2
    go_wp2_with fail
    go_ret
    exact HA.out

def DrawnProg (w : World) (e : Ending) (w' : World) : Prop :=
  ∃ (Ls : List SL) (r n c : Nat), e = .returned (.slice (some ⟨r, 0, none⟩) n c) ∧ PsP w' (Born w w') Ls (some ⟨r, 0, none⟩) n c ∧ sizeP Ls ≤ 1048576 ∧ Below w.heap.size w w'

theorem PsP.mono {S T : Nat → Prop} {w : World} {Ls : List SL} {A : Option Addr} {n c : Nat} (h : PsP w S Ls A n c) (hT : ∀ b, S b → T b) : PsP w T Ls A n c :=
  ⟨h.len, h.le, h.top, fun i hi => by
    obtain ⟨a, A', c', h1, h2, h3, h4⟩ := h.at_ i hi
    exact ⟨a, A', c', h1, hT _ h2, h3, h4.mono hT⟩⟩

theorem drawProgOk (A : Option Addr) (n c : Nat) (w : World) (h : Bytes w A n) (hn : n ≤ c) (hc : c ≤ maxLen) :
    Calls Try.prog 20 #[.slice A n c] w (DrawnProg w) := by
  go_enter Try.func20, Try.ntmps20
  go_wp2_with fail
  refine (l11Open A n c _ h hn hc).mono ?_
  rintro e w1 ⟨rfl, hR, hb⟩
  go_wp2_with fail
  refine (progs_ _ 0 _ hR (by omega) (by omega)).mono ?_
  rintro e w2 ⟨Ls, r, m, c2, q, rfl, hs, hz, q0, q1, hR2, hg2⟩
  have HA := Lib.hid (show DrawnProg w (.returned (.slice (some ⟨r, 0, none⟩) m c2)) w2 from ⟨Ls, r, m, c2, rfl, hs.mono fun b hb => ⟨Nat.le_of_lt hb.1, hb.2⟩, hz, hb.trans (Below.of_grown hg2 (Nat.le_refl _) hR.lt)⟩)
  clear hs
  go_wp2_with fail
  go_ret
  exact HA.out
end Go.Proofs.Ytlmgbpbiljnohaa
