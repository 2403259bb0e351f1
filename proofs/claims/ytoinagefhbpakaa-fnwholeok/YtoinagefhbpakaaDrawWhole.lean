/- What the laws of chapter 6 draw: some program, most often tamed, and some rooms. -/
import Derived.Test.YtoinagefhbpakaaTame
import Derived.Test.YtoinagefhbpakaaDrawPG
import Derived.Test.YtoinagefhbpakaaBentWalk
namespace Go.Proofs.Ytoinagefhbpakaa
open Go.ChangeShapes Go.WideShapes Go.ChangeAt Go.RowKit

theorem info_Int6 : (Try.prog.info? 3).map (fun i => (i.zero, i.size, i.bytes)) = some (some (.int .i64 0), 1, 8) := by kernel_rfl

theorem sizeP_leW {M : Nat} {Ls : List SL} (h : ∀ L ∈ Ls, L.size ≤ M) : sizeP Ls ≤ Ls.length * (M + 1) := by
  induction Ls with
  | nil => simp [sizeP]
  | cons L Ls ih =>
    have h1 := h L (List.mem_cons_self ..)
    have h2 := ih fun K hK => h K (List.mem_cons_of_mem _ hK)
    simp only [sizeP, List.length_cons, Nat.add_mul]
    omega

/-- A list of a row that the call owns written anew. -/
theorem OwnP.set {g base r cap n : Nat} {w1 : World} {Xs Ys : List SL} {L M : SL} {a' : Addr} {c' : Nat} (ho : OwnP g base w1 (.slice (some ⟨r, 0, none⟩) n cap) (Xs ++ L :: Ys))
    (hM : SlP w1 (fun b => g < b ∧ b < w1.heap.size ∧ b ≠ r) M (some a') M.len c') :
    OwnP g base (w1.setCell ⟨r, Xs.length, none⟩ (.slice (some a') M.len c')) (.slice (some ⟨r, 0, none⟩) n cap) (Xs ++ M :: Ys) := by
  have hn := ho.n_eq
  obtain ⟨xs, h1, hd⟩ := ho
  rw [← hn] at h1
  have key : ∀ (Xs : List SL) (xs : List Value), DecP w1 (fun b => g < b ∧ b < w1.heap.size ∧ (Value.slice (some ⟨r, 0, none⟩) n cap).ownBlock ≠ some b) (Xs ++ L :: Ys) xs →
      DecP w1 (fun b => g < b ∧ b < w1.heap.size ∧ (Value.slice (some ⟨r, 0, none⟩) n cap).ownBlock ≠ some b) (Xs ++ M :: Ys) (xs.set Xs.length (.slice (some a') M.len c')) := by
    intro Xs
    induction Xs with
    | nil =>
      rintro xs ⟨a, c, ys, rfl, hs, hd⟩
      exact ⟨a', c', ys, rfl, hM.mono fun b hb => ⟨hb.1, hb.2.1, fun e => hb.2.2 (by simp [Value.ownBlock] at e; exact e.symm)⟩, hd⟩
    | cons X Xs ih =>
      rintro xs ⟨a, c, ys, rfl, hs, hd⟩
      exact ⟨a, c, ys.set Xs.length _, rfl, hs, ih ys hd⟩
  obtain ⟨h7, hg7⟩ := h1.stored Xs.length (.slice (some a') M.len c')
  have hl : n = (Xs ++ M :: Ys).length := by rw [hn]; simp
  refine ⟨_, (by rw [← hl]; exact h7), ((key Xs xs hd).keep fun p hp => World.cell?_of_block (Below.heap_setCell w1 ⟨r, Xs.length, none⟩ _ p.block (fun e => hp.2.2 (by rw [e]; rfl)))).mono fun b hb => ⟨hb.1, by rw [size_set]; exact hb.2.1, hb.2.2⟩⟩

theorem num_new1 (g : Nat) (p : Int) (w : World) (zs : List Int) (vs : Array Value) (t : TypeId) (n b : Nat) (hb : b = w.heap.size) (h : Rd w g p) (hp : 0 ≤ p) (hp' : p ≤ 1000000000000) (hvs : vs = (zs.map (Value.int .i64)).toArray) (hn : zs.length = n) (hl : 1 ≤ n) (hl' : n ≤ 1000000) :
    Calls Try.prog 51 #[.pointer (some ⟨g, 0, none⟩), .slice (some ⟨b, 0, none⟩) n n] (w.alloc (.cells vs t)) fun e w' => ∃ x : Int, x ∈ zs ∧ e = .returned (.int .i64 x) ∧ Rd w' g (p + 1) ∧ w.grownBy w' (some g) := by
  subst hb
  exact num_new g p w zs vs t n h hp hp' hvs hn hl hl'

/-- A row of lists that the call owns reads as a program, whatever its length is called. -/
theorem OwnP.psG {G base r cap n : Nat} {wr : World} {Ls : List SL} (ho : OwnP G base wr (.slice (some ⟨r, 0, none⟩) n cap) Ls) (hgl : G < base) : PsP wr (fun x => G < x ∧ x < wr.heap.size) Ls (some ⟨r, 0, none⟩) n cap := ho.ps hgl
theorem OwnP.blk {G base r cap n : Nat} {wr : World} {Ls : List SL} (ho : OwnP G base wr (.slice (some ⟨r, 0, none⟩) n cap) Ls) : base ≤ r ∧ r < wr.heap.size := by
  obtain ⟨xs, h1, _⟩ := ho
  exact own_blocks h1 (b := r) rfl
theorem PsP.mono {S T : Nat → Prop} {w : World} {Ls : List SL} {A : Option Addr} {n c : Nat} (h : PsP w S Ls A n c) (hT : ∀ b, S b → T b) : PsP w T Ls A n c :=
  ⟨h.len, h.le, h.top, fun i hi => by
    obtain ⟨a, A', c', h1, h2, h3, h4⟩ := h.at_ i hi
    exact ⟨a, A', c', h1, hT _ h2, h3, h4.mono hT⟩⟩
theorem PsP.keepB {G : Nat} {w w' : World} {Ls : List SL} {A : Option Addr} {n c : Nat} (h : PsP w (fun x => G < x ∧ x < w.heap.size) Ls A n c) (hc : ∀ p : Addr, (G < p.block ∧ p.block < w.heap.size) → w'.cell? p = w.cell? p) (hz : w'.heap.size = w.heap.size) : PsP w' (fun x => G < x ∧ x < w'.heap.size) Ls A n c :=
  ⟨h.len, h.le, h.top, fun i hi => by
    obtain ⟨a, A', c', h1, h2, h3, h4⟩ := h.at_ i hi
    exact ⟨a, A', c', h1, by rw [hz]; exact h2, by rw [hc _ (by rw [add_bl]; exact h2)]; exact h3, (h4.keep hc).mono fun b hb => by rw [hz]; exact hb⟩⟩
/-- A row of numbers that the call owns lies above the reader. -/
theorem fl_inB {w : World} {base m : Nat} {e : TypeId} {xs : List Int} {ro n c : Nat} {g : Nat} (hf : Fl w (fun _ => True) 1 xs (some ⟨ro, 0, none⟩) n c) (hb : ∀ b, (Value.slice (some ⟨ro, 0, none⟩) n c).ownBlock = some b → g < b ∧ b < w.heap.size) (_ : w.ownsRow base e 1 (.slice (some ⟨ro, 0, none⟩) n c) m (ints xs)) : Fl w (fun x => g < x ∧ x < w.heap.size) 1 xs (some ⟨ro, 0, none⟩) n c :=
  ⟨hf.len, hf.le, hf.top, hf.nil, fun a ha j hj => by
    obtain ⟨_, h2⟩ := hf.at_ a ha j hj
    injection ha with ha
    subst ha
    exact ⟨hb ro rfl, h2⟩⟩
theorem off_one (ro j : Nat) : (⟨ro, 1, none⟩ : Addr).add j = ⟨ro, j + 1, none⟩ := by
  unfold Addr.add
  split
  · rename_i h; simp_all
  · simp; omega
theorem fl_tailB {w : World} {xs : List Int} {ro c g : Nat} (hf : Fl w (fun _ => True) 1 xs (some ⟨ro, 0, none⟩) 5 c) (h5 : xs.length = 5) (h0 : g < ro) (h1 : ro < w.heap.size) : Fl w (fun x => g < x ∧ x < w.heap.size) 1 (xs.drop 1) (some ⟨ro, 1, none⟩) 4 (c - 1) := by
  have hle := hf.le
  have htop := hf.top
  refine ⟨by simp [h5], by omega, by omega, (fun h => by cases h), fun a ha j hj => ?_⟩
  injection ha with ha
  subst ha
  refine ⟨⟨h0, h1⟩, ?_⟩
  have hj' : j + 1 < xs.length := by simp at hj; omega
  have h2 := (hf.at_ _ rfl (j + 1) hj').2
  rw [add_off] at h2
  rw [off_one, h2]
  simp [List.getD_eq_getElem?_getD]

/-- The rooms: five numbers that the call owns. -/
def RoomsPost (g : Nat) (p : Int) (w : World) (v : Value) (wr : World) (k : Nat) : Prop :=
  ∃ xs : List Int, xs.length = k ∧ wr.ownsRow w.heap.size 3 1 v k (ints xs) ∧ Rd wr g (p + k) ∧ w.grownBy wr (some g)

/-- Some program and some rooms. -/
def SomeWPost (g : Nat) (w : World) (e : Ending) (w' : World) : Prop :=
  ∃ (Ls : List SL) (r n cap : Nat) (xs : List Int) (B : Option Addr) (b c' : Nat) (q : Int), e = .returned (.tuple #[.slice (some ⟨r, 0, none⟩) n cap, .slice B b c']) ∧ PsP w' (fun x => g < x ∧ x < w'.heap.size) Ls (some ⟨r, 0, none⟩) n cap ∧ sizeP Ls ≤ 1048576 ∧ Fl w' (fun x => g < x ∧ x < w'.heap.size) 1 xs B b c' ∧ q ≤ 300000000000 ∧ 0 ≤ q ∧ Rd w' g q ∧ w.grownBy w' (some g)

theorem tame_ (L : SL) (hok : okP L = true) (A : Option Addr) (n c N : Nat) (o : List Int) (B : Option Addr) (b c' : Nat) (S : Nat → Prop) (room : Int) (w : World) (h5 : o.length = 5) (hs : Sl w N L A n c) (hN : N ≤ w.heap.size) (ho : Fl w S 1 o B b c') :
    Calls Try.prog 64 #[.slice A n c, .slice B b c', .int .i64 room, .int .i64 3] w fun e w' => ∃ (a : Addr) (cap : Nat) (M : SL), e = .returned (.slice (some a) M.len cap) ∧ SlP w' (Born w w') M (some a) M.len cap ∧ M.size ≤ L.size ∧ Below w.heap.size w w' := by
  obtain ⟨h1, h2⟩ : L.size ≤ 14 ∧ okL L 3 (-1) = true := by
    unfold okP at hok
    rw [Bool.and_eq_true] at hok
    exact ⟨of_decide_eq_true hok.1, hok.2⟩
  refine (tame_any (L.size + 1) (by omega) L (by omega) 3 (-1) (by omega) (by omega) h2 room A n c N o B b c' S w h5 hs hN ho).mono ?_
  rintro e w' ⟨v, M, rfl, hown, hm, -, hv, hb⟩
  obtain ⟨xs, ho1, _⟩ := id hown
  obtain ⟨r, cap, rfl, _⟩ := own_someT ho1 hv
  obtain ⟨A', c2, e', hsl⟩ := hown.sl
  injection e' with e1 e2 e3
  subst e1 e3
  exact ⟨_, _, M, rfl, hsl, hm, hb⟩

theorem below_grown {w w' : World} (h : Below w.heap.size w w') (g : Nat) : w.grownBy w' (some g) := ⟨h.os, h.tape, h.output, h.size, fun k hk _ => h.block k hk⟩

set_option maxRecDepth 100000 in
set_option maxHeartbeats 8000000 in
theorem someW_ (g : Nat) (w : World) (hR : Rd w g 0) :
    Calls Try.prog 49 #[.pointer (some ⟨g, 0, none⟩)] w (SomeWPost g w) := by
  have hgl := hR.lt
  obtain ⟨i0, hi, hz0, hz1, hz2⟩ := info_parts info_Int6
  have b0 : w.grownBy (w.alloc (.cells #[] 3)) (some g) := World.grownBy_alloc w _ (some g)
  have own0 : (w.alloc (.cells #[] 3)).ownsRow w.heap.size 3 1 (.slice (some ⟨w.heap.size, 0, none⟩) 0 0) 0 (ints []) := World.ownsRow_lit (base := w.heap.size) (e := 3) (size := 1) w #[] 0 (Nat.le_refl _) (Nat.zero_le _) rfl
  have hR0 := hR.alloc (.cells #[] 3)
  go_enter Try.func49, Try.ntmps49
  go_wp2_with fail
  go_loopw [4, 5] (fun v i wr => ∃ k : Nat, k ≤ 5 ∧ i = .int .i64 k ∧ v ≠ .slice none 0 0 ∧ RoomsPost g 0 w v wr k) (fun _ i _ => 5 - (intOf i).toNat)
  case atStart => exact ⟨0, by omega, rfl, by simp, [], rfl, own0, by simpa using hR0, b0⟩
  case round =>
    clear own0 hR0 b0
    obtain ⟨k, hk, rfl, hvn, xs, hl, hown, hRk, hg⟩ := hrel
    have hsz := hg.size
    by_cases hlt : k < 5
    · have HL := Lib.hid hl
      clear hl hvn
      go_wp2_with fail
      refine (pick g (0 + (k : Int)) _ _ hRk (by omega) (by omega) (by omega)).mono ?_
      rintro e w2 ⟨y, y0, y1, rfl, hR3, hg3⟩
      have hown2 : w2.ownsRow w.heap.size 3 1 _ k (ints xs) := own_block hown fun b hb => hg3.block b (own_at hown hb).2 (fun e => by have := (own_at hown hb).1; injection e; omega)
      have hg2 := hg.trans hg3
      have hsz2 := hg2.size
      clear hown hRk hg hg3 hsz
      go_wp2_with (first | (at_builtin; refine wpList_append_own _ rfl _ _ 22 rfl w.heap.size 3 i0 (.int .i64 0) 1 8 Try.underlying22 hi hz0 hz1 hz2 rfl (by decide) _ _ _ rfl (hown2.alloc _) ⟨w2.heap.size, 0, none⟩ 1 1 [.int .i64 y] rfl rfl ?c1 ?c2 ?c3 ?c4 ?c5 ?_) | fail)
      case c1 =>
        intro j u hj
        match j, hj with
        | 0, hj => simp at hj; subst hj; simp [Addr.add]
      case c2 => intro u hu; simp at hu; subst hu; rfl
      case c3 => unfold maxLen; omega
      case c4 => omega
      case c5 => simp; omega
      intro v' w4 hown' hgrow hvn'
      have hbw : w.grownBy w4 (some g) := grown_own (hg2.trans (World.grownBy_alloc w2 _ (some g))) hgrow (fun b hb' => (own_at hown2 hb').1)
      have hR4 : Rd w4 g (0 + (k : Int) + 1) := (hR3.alloc _).grown hgrow (fun b hb' => by have := (own_at hown2 hb').1; omega)
      have e1 : ints xs ++ [Value.int .i64 y] = ints (xs ++ [y]) := by rw [ints_app]; rfl
      rw [e1] at hown'
      have HO := Lib.hid hown'
      have HV := Lib.hid hvn'
      clear hown' hown2 hgrow e1 hvn'
      go_wp2_with fail
      go_roundw
      case rel => exact ⟨k + 1, by omega, by go_num, HV.out, xs ++ [y], by simp [HL.out], HO.out, by rw [show (0 : Int) + ((k + 1 : Nat) : Int) = 0 + k + 1 by omega]; exact hR4, hbw⟩
      case measure => simp [intOf]; omega
    · obtain rfl : k = 5 := by omega
      obtain ⟨wz, hwz⟩ : ∃ z, z = wr := ⟨_, rfl⟩
      subst hwz
      obtain ⟨ro, co_, rfl, hro0, hro1⟩ := own_someT hown hvn
      have HL := Lib.hid hl
      clear hl hvn
      go_wp2_with fail
      refine (progG_ g (0 + ((5 : Nat) : Int)) wz hRk (by omega) (by omega)).mono ?_
      rintro e w1 ⟨Ls, r, cap, q, rfl, ho, l1, l3, hall, q0, q1, hR1, hg1⟩
      have hown1 := own_block hown fun b hb => hg1.block b (own_at hown hb).2 (fun e => by have := (own_at hown hb).1; injection e; omega)
      have hgw1 := hg.trans hg1
      have hrb := ho.blk
      clear hown hRk hg
      go_wp2_with fail
      refine (pick g q _ _ hR1 (by omega) (by omega) (by omega)).mono ?_
      rintro e w2 ⟨k, k0, k1, rfl, hR2, hg2⟩
      have ho2 := ho.keptG hg2 (by omega) (by omega)
      have hown2 := own_block hown1 fun b hb => hg2.block b (own_at hown1 hb).2 (fun e => by have := (own_at hown1 hb).1; injection e; omega)
      have hgw2 := hgw1.trans hg2
      have hz12 := hg2.size
      clear ho hown1 hR1 hgw1 hg2
      have hMz0 : sizeP Ls ≤ 8769 := by
        have h1 := sizeP_leW (M := 2922) (Ls := Ls) fun K hK => (hall K hK).2
        have h2 : Ls.length * 2923 ≤ 3 * 2923 := Nat.mul_le_mul_right _ (by omega)
        omega
      by_cases hk : 0 < k
      · go_wp2_with fail
        go_loopw [7] (fun i wr => ∃ (t : Nat) (Ts : List SL), t ≤ Ls.length ∧ i = .int .i64 t ∧ Ts.length = t ∧ Go.RowKit.Hid (∀ M ∈ Ts, M.size ≤ 2922) ∧ OwnP (wz.heap.size - 1) wz.heap.size wr (.slice (some ⟨r, 0, none⟩) Ls.length cap) (Ts ++ Ls.drop t) ∧ wr.ownsRow w.heap.size 3 1 (.slice (some ⟨ro, 0, none⟩) 5 co_) 5 (ints xs) ∧ Rd wr g (q + 1) ∧ w.grownBy wr (some g)) (fun i _ => Ls.length - (intOf i).toNat)
        case atStart => exact ⟨0, [], Nat.zero_le _, rfl, rfl, Lib.hid (by simp), by simpa using ho2, hown2, hR2, hgw2⟩
        case round =>
          clear ho2 hown2 hR2 hgw2
          obtain ⟨t, Ts, ht, rfl, hTl, HTS, hox, hownx, hRx, hgx⟩ := hrel
          have hzx := hgx.size
          have hblk := hox.blk
          have hobk := own_blocks hownx (b := ro) rfl
          by_cases htl : t < Ls.length
          · have hd : Ls.drop t = Ls[t] :: Ls.drop (t + 1) := List.drop_eq_getElem_cons htl
            rw [hd] at hox
            clear hd
            obtain ⟨a0, c0, hcell, hs0, hfr⟩ := hox.mid
            rw [hTl] at hcell hfr
            have hall' := hall Ls[t] (List.getElem_mem htl)
            generalize Ls[t] = L at *
            have HTL := Lib.hid hTl
            have HOX := Lib.hid hox
            have HWX := Lib.hid hownx
            clear hTl hox hownx
            go_wp2_with fail
            refine (tame_ L hall'.1 (some a0) _ c0 wr.heap.size xs (some ⟨ro, 0, none⟩) 5 co_ _ (-1) wr HL.out (hs0.sl fun b hb => hb.2.1) (Nat.le_refl _) (own_fl1 HWX.out)).mono ?_
            rintro e wy ⟨a', cap', M, rfl, hsM, hMs', hby⟩
            have hgy := below_grown hby g
            have hoy := HOX.out.keptG hgy (by omega) (by omega)
            have howny := own_below HWX.out hby
            have hzy := hby.size
            obtain ⟨a1, c1, hcell1, _, hfr1⟩ := hoy.mid
            rw [HTL.out] at hcell1 hfr1
            have hset := OwnP.set hoy (M := M) (a' := a') (c' := cap') (hsM.mono fun b hb => ⟨by have := hb.1; omega, hb.2, by have := hb.1; omega⟩)
            rw [HTL.out] at hset
            have hset' : OwnP (wz.heap.size - 1) wz.heap.size (wy.setCell ⟨r, t, none⟩ (.slice (some a') M.len cap')) (.slice (some ⟨r, 0, none⟩) Ls.length cap) ((Ts ++ [M]) ++ Ls.drop (t + 1)) := by simpa [List.append_assoc] using hset
            have hown8 : (wy.setCell ⟨r, t, none⟩ (.slice (some a') M.len cap')).ownsRow w.heap.size 3 1 (.slice (some ⟨ro, 0, none⟩) 5 co_) 5 (ints xs) := own_block howny fun b hb => Below.heap_setCell wy ⟨r, t, none⟩ _ b (show b ≠ r by simp [Value.ownBlock] at hb; omega)
            have hR8 : Rd (wy.setCell ⟨r, t, none⟩ (.slice (some a') M.len cap')) g (q + 1) := hRx.keep fun k hk => (Below.heap_setCell wy ⟨r, t, none⟩ _ k (show k ≠ r by omega)).trans (hby.block k (by omega))
            have hgr : wy.grownBy (wy.setCell ⟨r, t, none⟩ (.slice (some a') M.len cap')) (some r) := ⟨rfl, rfl, rfl, by rw [size_set]; exact Nat.le_refl _, fun k hk hne => Below.heap_setCell wy ⟨r, t, none⟩ _ k (fun e => hne (by rw [e]))⟩
            have hgr8 := grown_own (hgx.trans hgy) hgr (fun b hb => by injection hb; omega)
            have HT8 := Lib.hid (show ∀ K ∈ Ts ++ [M], K.size ≤ 2922 from fun K hK => by
              rcases List.mem_append.1 hK with h | h
              · exact HTS.out K h
              · rw [List.mem_singleton.1 h]; omega)
            have HS8 := Lib.hid hset'
            have HW8 := Lib.hid hown8
            have HR8 := Lib.hid hR8
            have HG8 := Lib.hid hgr8
            clear hset hset' hown8 hR8 hgr hgr8 hoy howny hsM hs0 hcell HOX HWX hRx
            go_wp2_with fail
            go_roundw
            case rel => exact ⟨t + 1, Ts ++ [M], by omega, by go_num, by simp [HTL.out], HT8, HS8.out, HW8.out, HR8.out, HG8.out⟩
            case measure => simp [intOf]; omega
          · have htn : t = Ls.length := by omega
            have hdn : Ls.drop t = [] := List.drop_of_length_le (by omega)
            rw [hdn, List.append_nil] at hox
            have HML := Lib.hid (show Ts.length = Ls.length by omega)
            clear hTl hdn
            obtain ⟨Ms, hMsT⟩ : ∃ Ms, Ms = Ts := ⟨_, rfl⟩
            rw [← hMsT] at hox HTS HML
            clear hMsT
            have HMS := HTS
            have hoP := hox
            have hownW := hownx
            have hRW := hRx
            have hgW := hgx
            have hMz : sizeP Ms ≤ 1048576 := by
              have h1 := sizeP_leW (M := 2922) (Ls := Ms) HMS.out
              have h2 := HML.out
              have h3 : Ms.length * 2923 ≤ 3 * 2923 := Nat.mul_le_mul_right _ (by omega)
              omega
            clear hox hownx hRx hgx
            go_wp2_with fail
            refine (pick g (q + 1) _ _ hRW (by omega) (by omega) (by omega)).mono ?_
            rintro e w4 ⟨z, z0, z1, rfl, hR4, hg4⟩
            have ho4 := hoP.keptG hg4 (by omega) (by omega)
            have hown4 := own_block hownW fun b hb => hg4.block b (own_at hownW hb).2 (fun e => by have := (own_at hownW hb).1; injection e; omega)
            have hgw4 := hgW.trans hg4
            have hsz4 := hgw4.size
            have zz4 := hg4.size
            clear hoP hownW hRW hgW hg4
            by_cases hz0' : z = 0
            · subst hz0'
              go_wp2_with fail
              refine (num_new1 g (q + 1 + 1) w4 [-1, 2] _ _ _ _ rfl hR4 (by omega) (by omega) rfl rfl (by decide) (by decide)).mono ?_
              rintro e w5 ⟨y, _, rfl, hR5, hg5⟩
              have ho5 := ho4.keptG hg5 (by omega) (by omega)
              have hown5 := own_block hown4 fun b hb => hg5.block b (own_at hown4 hb).2 (fun e => by have := (own_at hown4 hb).1; injection e; omega)
              have hgw5 := hgw4.trans hg5
              have c0 := hown5.cellAt 0 (by omega)
              rw [ints_get (by rw [HL.out]; omega)] at c0
              have f0 := hown5.frozenAt 0
              obtain ⟨hown6, hg6⟩ := hown5.stored 0 (.int .i64 y)
              rw [ints_set] at hown6
              have hfl := own_fl1 hown6
              have hg6' : w5.grownBy (w5.setCell ⟨ro, 0, none⟩ (.int .i64 y)) (some ro) := hg6
              have hps := (ho5.psG (by omega)).keepB (w' := w5.setCell ⟨ro, 0, none⟩ (.int .i64 y)) (fun p hp => World.cell?_of_block (Below.heap_setCell w5 ⟨ro, 0, none⟩ _ p.block (fun e => by have h1 := hp.1; have e' : p.block = ro := e; omega))) (by rw [size_set])
              have HA := Lib.hid (show SomeWPost g w (.returned (.tuple #[.slice (some ⟨r, 0, none⟩) Ls.length cap, .slice (some ⟨ro, 0, none⟩) 5 co_])) (w5.setCell ⟨ro, 0, none⟩ (.int .i64 y)) from
                ⟨_, r, Ls.length, cap, _, _, _, _, q + 1 + 1 + 1, rfl, hps.mono fun b hb => ⟨by have := hb.1; omega, hb.2⟩, hMz, fl_inB hfl (fun b hb => by have := own_at hown6 hb; omega) hown6, by omega, by omega, hR5.keep fun k hk => Below.heap_setCell w5 ⟨ro, 0, none⟩ _ k (show k ≠ ro by omega), grown_own hgw5 hg6' (fun b hb => by injection hb; omega)⟩)
              clear hps hfl hown6 hg6 hown5 ho5 ho4 hown4 hg6'
              go_wp2_with fail
              go_ret2
              exact HA.out
            · by_cases hz1' : z = 1
              · subst hz1'
                have hfl := own_fl hown4
                have hco5 : 5 ≤ co_ := (own_fl1 hown4).le
                have hcom : co_ ≤ maxLen := (own_fl1 hown4).top
                unfold maxLen at hcom
                have hfl4 : Fl w4 (fun x => g < x ∧ x < w4.heap.size) 1 (xs.drop 1) (some ⟨ro, 1, none⟩) 4 (co_ - 1) := fl_tailB (own_fl1 hown4) HL.out (by omega) (by omega)
                have hps := (ho4.psG (by omega)).mono (T := fun x => g < x ∧ x < w4.heap.size) fun b hb => ⟨by have := hb.1; omega, hb.2⟩
                have HA := Lib.hid (show ∀ m, SomeWPost g w (.returned (.tuple #[.slice (some ⟨r, 0, none⟩) Ls.length cap, .slice (some ⟨ro, 1, none⟩) 4 (co_ - 1)])) (w4.drewN m) from fun m =>
                  ⟨_, r, Ls.length, cap, _, _, _, _, q + 1 + 1, rfl, hps.keepB (w' := w4.drewN m) (fun p hp => rfl) rfl, hMz, hfl4.keep fun p hp => rfl, by omega, by omega, hR4.keep fun k hk => rfl, grown_own hgw4 (⟨rfl, rfl, rfl, Nat.le_refl _, fun _ _ _ => rfl⟩ : w4.grownBy (w4.drewN m) none) (fun b hb => by cases hb)⟩)
                clear hps hfl hfl4 ho4 hown4
                go_wp2_with fail
                go_quiet (fail)
                all_goals (try go_wp2_with fail)
                go_ret2
                exact HA.out _
              · by_cases hz2' : z = 2
                · subst hz2'
                  obtain ⟨L0, Ys, hM⟩ : ∃ L0 Ys, Ms = L0 :: Ys := by
                    cases Ms with
                    | nil => have := HML.out; simp at this; omega
                    | cons a b => exact ⟨a, b, rfl⟩
                  subst hM
                  obtain ⟨a0, c0, hcell, hs0, hfr⟩ := ho4.mid (Xs := [])
                  have hL0 := HMS.out L0 (List.mem_cons_self ..)
                  have hG : ∀ W : World, w4.heap.size ≤ W.heap.size → Reg (fun b => wz.heap.size - 1 < b ∧ b ≠ r) g W := fun W hx => ⟨fun b hb => by have := hb.1; omega, fun b hb => ⟨by omega, by omega⟩⟩
                  have hs0' : SlP w4 (fun b => (wz.heap.size - 1 < b ∧ b ≠ r) ∧ b < w4.heap.size) L0 (some a0) L0.len c0 := hs0.mono fun b hb => ⟨⟨hb.1, hb.2.2⟩, hb.2.1⟩
                  have HO4 := Lib.hid ho4
                  have HW4 := Lib.hid hown4
                  have hcell0 : w4.cell? ⟨r, 0, none⟩ = some (.slice (some a0) L0.len c0) := hcell
                  clear ho4 hown4 hs0 hcell hz0' hz1'
                  go_wp2_with fail
                  refine (bent (fun b => wz.heap.size - 1 < b ∧ b ≠ r) L0 g (q + 1 + 1) a0 _ c0 w4 (hG _ (Nat.le_refl _)) hs0' hR4 (by omega) (by omega) (by omega)).mono ?_
                  rintro e w5 ⟨L5, a5, c5, q5, rfl, hs5, hz5, hl5, q50, q51, hR5, hg5⟩
                  have z5 := hg5.size
                  go_wp2_with fail
                  refine (bent (fun b => wz.heap.size - 1 < b ∧ b ≠ r) L5 g q5 a5 _ c5 w5 (hG _ (by omega)) hs5 hR5 (by omega) (by omega) (by omega)).mono ?_
                  rintro e w6 ⟨L6, a6, c6, q6, rfl, hs6, hz6, hl6, q60, q61, hR6, hg6⟩
                  have z6 := hg6.size
                  go_wp2_with fail
                  refine (bent (fun b => wz.heap.size - 1 < b ∧ b ≠ r) L6 g q6 a6 _ c6 w6 (hG _ (by omega)) hs6 hR6 (by omega) (by omega) (by omega)).mono ?_
                  rintro e w7 ⟨L7, a7, c7, q7, rfl, hs7, hz7, hl7, q70, q71, hR7, hg7⟩
                  have z7 := hg7.size
                  have hg47 := (hg5.trans hg6).trans hg7
                  have ho7 := HO4.out.keptG hg47 (by omega) (by omega)
                  have hown7 := own_block HW4.out fun b hb => hg47.block b (own_at HW4.out hb).2 (fun e => by have := (own_at HW4.out hb).1; injection e; omega)
                  obtain ⟨a1, c1, hcell7', _, hfr7'⟩ := ho7.mid (Xs := [])
                  have hcell7 : w7.cell? ⟨r, 0, none⟩ = some (.slice (some a1) L0.len c1) := hcell7'
                  have hfr7 : w7.frozen? ⟨r, 0, none⟩ = false := hfr7'
                  have hset : OwnP (wz.heap.size - 1) wz.heap.size (w7.setCell ⟨r, 0, none⟩ (.slice (some a7) L7.len c7)) (.slice (some ⟨r, 0, none⟩) Ls.length cap) (L7 :: Ys) := OwnP.set (Xs := []) ho7 (hs7.mono fun b hb => ⟨hb.1.1, hb.2, hb.1.2⟩)
                  have hps := (hset.psG (by omega)).mono (T := fun x => g < x ∧ x < (w7.setCell ⟨r, 0, none⟩ (.slice (some a7) L7.len c7)).heap.size) fun b hb => ⟨by have := hb.1; omega, hb.2⟩
                  have hown8 : (w7.setCell ⟨r, 0, none⟩ (.slice (some a7) L7.len c7)).ownsRow w.heap.size 3 1 (.slice (some ⟨ro, 0, none⟩) 5 co_) 5 (ints xs) := own_block hown7 fun b hb => Below.heap_setCell w7 ⟨r, 0, none⟩ _ b (show b ≠ r by simp [Value.ownBlock] at hb; omega)
                  have hMz7 : sizeP (L7 :: Ys) ≤ 1048576 := by
                    have h2 := sizeP_leW (M := 2922) (Ls := Ys) fun K hK => HMS.out K (List.mem_cons_of_mem _ hK)
                    have h0 := HML.out
                    simp only [List.length_cons] at h0
                    have h3 : Ys.length * 2923 ≤ 2 * 2923 := Nat.mul_le_mul_right _ (by omega)
                    simp only [sizeP]
                    omega
                  have hgr : w7.grownBy (w7.setCell ⟨r, 0, none⟩ (.slice (some a7) L7.len c7)) (some r) := grownBy_setCell' w7 r _
                  have HA := Lib.hid (show SomeWPost g w (.returned (.tuple #[.slice (some ⟨r, 0, none⟩) Ls.length cap, .slice (some ⟨ro, 0, none⟩) 5 co_])) (w7.setCell ⟨r, 0, none⟩ (.slice (some a7) L7.len c7)) from
                    ⟨_, r, Ls.length, cap, _, _, _, _, q7, rfl, hps, hMz7, fl_inB (own_fl1 hown8) (fun b hb => by have := own_at hown8 hb; omega) hown8, by omega, by omega, hR7.keep fun k hk => Below.heap_setCell w7 ⟨r, 0, none⟩ _ k (show k ≠ r by omega), grown_own (hgw4.trans hg47) hgr (fun b hb => by injection hb; omega)⟩)
                  clear hps hown8 hown7 ho7 hset hgr hs7 hs6 hs5 hs0' hcell7' hfr7' HO4 HW4
                  go_wp2_with fail
                  go_ret2
                  exact HA.out
                · have n0 : (z == 0) = false := by simpa using hz0'
                  have n1 : (z == 1) = false := by simpa using hz1'
                  have n2 : (z == 2) = false := by simpa using hz2'
                  have hps := (ho4.psG (by omega)).mono (T := fun x => g < x ∧ x < w4.heap.size) fun b hb => ⟨by have := hb.1; omega, hb.2⟩
                  have HA := Lib.hid (show SomeWPost g w (.returned (.tuple #[.slice (some ⟨r, 0, none⟩) Ls.length cap, .slice (some ⟨ro, 0, none⟩) 5 co_])) w4 from
                    ⟨_, r, Ls.length, cap, _, _, _, _, q + 1 + 1, rfl, hps, hMz, fl_inB (own_fl1 hown4) (fun b hb => by have := own_at hown4 hb; omega) hown4, by omega, by omega, hR4, hgw4⟩)
                  clear hps ho4 hown4 hz0' hz1' hz2'
                  go_wp2_with fail
                  go_ret2
                  exact HA.out
      · have hk0 : k = 0 := by omega
        subst hk0
        obtain ⟨Ms, hMs⟩ : ∃ Ms, Ms = Ls := ⟨_, rfl⟩
        have hoP : OwnP (wz.heap.size - 1) wz.heap.size w2 (.slice (some ⟨r, 0, none⟩) Ls.length cap) Ms := by rw [hMs]; exact ho2
        have HML := Lib.hid (show Ms.length = Ls.length by rw [hMs])
        have HMS := Lib.hid (show ∀ M ∈ Ms, M.size ≤ 2922 by rw [hMs]; exact fun K hK => (hall K hK).2)
        have hMz : sizeP Ms ≤ 1048576 := by rw [hMs]; omega
        have hownW := hown2
        have hRW := hR2
        have hgW := hgw2
        clear ho2 hown2 hR2 hgw2 hMs
        go_wp2_with fail
        refine (pick g (q + 1) _ _ hRW (by omega) (by omega) (by omega)).mono ?_
        rintro e w4 ⟨z, z0, z1, rfl, hR4, hg4⟩
        have ho4 := hoP.keptG hg4 (by omega) (by omega)
        have hown4 := own_block hownW fun b hb => hg4.block b (own_at hownW hb).2 (fun e => by have := (own_at hownW hb).1; injection e; omega)
        have hgw4 := hgW.trans hg4
        have hsz4 := hgw4.size
        have zz4 := hg4.size
        clear hoP hownW hRW hgW hg4
        by_cases hz0' : z = 0
        · subst hz0'
          go_wp2_with fail
          refine (num_new1 g (q + 1 + 1) w4 [-1, 2] _ _ _ _ rfl hR4 (by omega) (by omega) rfl rfl (by decide) (by decide)).mono ?_
          rintro e w5 ⟨y, _, rfl, hR5, hg5⟩
          have ho5 := ho4.keptG hg5 (by omega) (by omega)
          have hown5 := own_block hown4 fun b hb => hg5.block b (own_at hown4 hb).2 (fun e => by have := (own_at hown4 hb).1; injection e; omega)
          have hgw5 := hgw4.trans hg5
          have c0 := hown5.cellAt 0 (by omega)
          rw [ints_get (by rw [HL.out]; omega)] at c0
          have f0 := hown5.frozenAt 0
          obtain ⟨hown6, hg6⟩ := hown5.stored 0 (.int .i64 y)
          rw [ints_set] at hown6
          have hfl := own_fl1 hown6
          have hg6' : w5.grownBy (w5.setCell ⟨ro, 0, none⟩ (.int .i64 y)) (some ro) := hg6
          have hps := (ho5.psG (by omega)).keepB (w' := w5.setCell ⟨ro, 0, none⟩ (.int .i64 y)) (fun p hp => World.cell?_of_block (Below.heap_setCell w5 ⟨ro, 0, none⟩ _ p.block (fun e => by have h1 := hp.1; have e' : p.block = ro := e; omega))) (by rw [size_set])
          have HA := Lib.hid (show SomeWPost g w (.returned (.tuple #[.slice (some ⟨r, 0, none⟩) Ls.length cap, .slice (some ⟨ro, 0, none⟩) 5 co_])) (w5.setCell ⟨ro, 0, none⟩ (.int .i64 y)) from
            ⟨_, r, Ls.length, cap, _, _, _, _, q + 1 + 1 + 1, rfl, hps.mono fun b hb => ⟨by have := hb.1; omega, hb.2⟩, hMz, fl_inB hfl (fun b hb => by have := own_at hown6 hb; omega) hown6, by omega, by omega, hR5.keep fun k hk => Below.heap_setCell w5 ⟨ro, 0, none⟩ _ k (show k ≠ ro by omega), grown_own hgw5 hg6' (fun b hb => by injection hb; omega)⟩)
          clear hps hfl hown6 hg6 hown5 ho5 ho4 hown4 hg6'
          go_wp2_with fail
          go_ret2
          exact HA.out
        · by_cases hz1' : z = 1
          · subst hz1'
            have hfl := own_fl hown4
            have hco5 : 5 ≤ co_ := (own_fl1 hown4).le
            have hcom : co_ ≤ maxLen := (own_fl1 hown4).top
            unfold maxLen at hcom
            have hfl4 : Fl w4 (fun x => g < x ∧ x < w4.heap.size) 1 (xs.drop 1) (some ⟨ro, 1, none⟩) 4 (co_ - 1) := fl_tailB (own_fl1 hown4) HL.out (by omega) (by omega)
            have hps := (ho4.psG (by omega)).mono (T := fun x => g < x ∧ x < w4.heap.size) fun b hb => ⟨by have := hb.1; omega, hb.2⟩
            have HA := Lib.hid (show ∀ m, SomeWPost g w (.returned (.tuple #[.slice (some ⟨r, 0, none⟩) Ls.length cap, .slice (some ⟨ro, 1, none⟩) 4 (co_ - 1)])) (w4.drewN m) from fun m =>
              ⟨_, r, Ls.length, cap, _, _, _, _, q + 1 + 1, rfl, hps.keepB (w' := w4.drewN m) (fun p hp => rfl) rfl, hMz, hfl4.keep fun p hp => rfl, by omega, by omega, hR4.keep fun k hk => rfl, grown_own hgw4 (⟨rfl, rfl, rfl, Nat.le_refl _, fun _ _ _ => rfl⟩ : w4.grownBy (w4.drewN m) none) (fun b hb => by cases hb)⟩)
            clear hps hfl hfl4 ho4 hown4
            go_wp2_with fail
            go_quiet (fail)
            all_goals (try go_wp2_with fail)
            go_ret2
            exact HA.out _
          · by_cases hz2' : z = 2
            · subst hz2'
              obtain ⟨L0, Ys, hM⟩ : ∃ L0 Ys, Ms = L0 :: Ys := by
                cases Ms with
                | nil => have := HML.out; simp at this; omega
                | cons a b => exact ⟨a, b, rfl⟩
              subst hM
              obtain ⟨a0, c0, hcell, hs0, hfr⟩ := ho4.mid (Xs := [])
              have hL0 := HMS.out L0 (List.mem_cons_self ..)
              have hG : ∀ W : World, w4.heap.size ≤ W.heap.size → Reg (fun b => wz.heap.size - 1 < b ∧ b ≠ r) g W := fun W hx => ⟨fun b hb => by have := hb.1; omega, fun b hb => ⟨by omega, by omega⟩⟩
              have hs0' : SlP w4 (fun b => (wz.heap.size - 1 < b ∧ b ≠ r) ∧ b < w4.heap.size) L0 (some a0) L0.len c0 := hs0.mono fun b hb => ⟨⟨hb.1, hb.2.2⟩, hb.2.1⟩
              have HO4 := Lib.hid ho4
              have HW4 := Lib.hid hown4
              have hcell0 : w4.cell? ⟨r, 0, none⟩ = some (.slice (some a0) L0.len c0) := hcell
              clear ho4 hown4 hs0 hcell hz0' hz1'
              go_wp2_with fail
              refine (bent (fun b => wz.heap.size - 1 < b ∧ b ≠ r) L0 g (q + 1 + 1) a0 _ c0 w4 (hG _ (Nat.le_refl _)) hs0' hR4 (by omega) (by omega) (by omega)).mono ?_
              rintro e w5 ⟨L5, a5, c5, q5, rfl, hs5, hz5, hl5, q50, q51, hR5, hg5⟩
              have z5 := hg5.size
              go_wp2_with fail
              refine (bent (fun b => wz.heap.size - 1 < b ∧ b ≠ r) L5 g q5 a5 _ c5 w5 (hG _ (by omega)) hs5 hR5 (by omega) (by omega) (by omega)).mono ?_
              rintro e w6 ⟨L6, a6, c6, q6, rfl, hs6, hz6, hl6, q60, q61, hR6, hg6⟩
              have z6 := hg6.size
              go_wp2_with fail
              refine (bent (fun b => wz.heap.size - 1 < b ∧ b ≠ r) L6 g q6 a6 _ c6 w6 (hG _ (by omega)) hs6 hR6 (by omega) (by omega) (by omega)).mono ?_
              rintro e w7 ⟨L7, a7, c7, q7, rfl, hs7, hz7, hl7, q70, q71, hR7, hg7⟩
              have z7 := hg7.size
              have hg47 := (hg5.trans hg6).trans hg7
              have ho7 := HO4.out.keptG hg47 (by omega) (by omega)
              have hown7 := own_block HW4.out fun b hb => hg47.block b (own_at HW4.out hb).2 (fun e => by have := (own_at HW4.out hb).1; injection e; omega)
              obtain ⟨a1, c1, hcell7', _, hfr7'⟩ := ho7.mid (Xs := [])
              have hcell7 : w7.cell? ⟨r, 0, none⟩ = some (.slice (some a1) L0.len c1) := hcell7'
              have hfr7 : w7.frozen? ⟨r, 0, none⟩ = false := hfr7'
              have hset : OwnP (wz.heap.size - 1) wz.heap.size (w7.setCell ⟨r, 0, none⟩ (.slice (some a7) L7.len c7)) (.slice (some ⟨r, 0, none⟩) Ls.length cap) (L7 :: Ys) := OwnP.set (Xs := []) ho7 (hs7.mono fun b hb => ⟨hb.1.1, hb.2, hb.1.2⟩)
              have hps := (hset.psG (by omega)).mono (T := fun x => g < x ∧ x < (w7.setCell ⟨r, 0, none⟩ (.slice (some a7) L7.len c7)).heap.size) fun b hb => ⟨by have := hb.1; omega, hb.2⟩
              have hown8 : (w7.setCell ⟨r, 0, none⟩ (.slice (some a7) L7.len c7)).ownsRow w.heap.size 3 1 (.slice (some ⟨ro, 0, none⟩) 5 co_) 5 (ints xs) := own_block hown7 fun b hb => Below.heap_setCell w7 ⟨r, 0, none⟩ _ b (show b ≠ r by simp [Value.ownBlock] at hb; omega)
              have hMz7 : sizeP (L7 :: Ys) ≤ 1048576 := by
                have h2 := sizeP_leW (M := 2922) (Ls := Ys) fun K hK => HMS.out K (List.mem_cons_of_mem _ hK)
                have h0 := HML.out
                simp only [List.length_cons] at h0
                have h3 : Ys.length * 2923 ≤ 2 * 2923 := Nat.mul_le_mul_right _ (by omega)
                simp only [sizeP]
                omega
              have hgr : w7.grownBy (w7.setCell ⟨r, 0, none⟩ (.slice (some a7) L7.len c7)) (some r) := grownBy_setCell' w7 r _
              have HA := Lib.hid (show SomeWPost g w (.returned (.tuple #[.slice (some ⟨r, 0, none⟩) Ls.length cap, .slice (some ⟨ro, 0, none⟩) 5 co_])) (w7.setCell ⟨r, 0, none⟩ (.slice (some a7) L7.len c7)) from
                ⟨_, r, Ls.length, cap, _, _, _, _, q7, rfl, hps, hMz7, fl_inB (own_fl1 hown8) (fun b hb => by have := own_at hown8 hb; omega) hown8, by omega, by omega, hR7.keep fun k hk => Below.heap_setCell w7 ⟨r, 0, none⟩ _ k (show k ≠ r by omega), grown_own (hgw4.trans hg47) hgr (fun b hb => by injection hb; omega)⟩)
              clear hps hown8 hown7 ho7 hset hgr hs7 hs6 hs5 hs0' hcell7' hfr7' HO4 HW4
              go_wp2_with fail
              go_ret2
              exact HA.out
            · have n0 : (z == 0) = false := by simpa using hz0'
              have n1 : (z == 1) = false := by simpa using hz1'
              have n2 : (z == 2) = false := by simpa using hz2'
              have hps := (ho4.psG (by omega)).mono (T := fun x => g < x ∧ x < w4.heap.size) fun b hb => ⟨by have := hb.1; omega, hb.2⟩
              have HA := Lib.hid (show SomeWPost g w (.returned (.tuple #[.slice (some ⟨r, 0, none⟩) Ls.length cap, .slice (some ⟨ro, 0, none⟩) 5 co_])) w4 from
                ⟨_, r, Ls.length, cap, _, _, _, _, q + 1 + 1, rfl, hps, hMz, fl_inB (own_fl1 hown4) (fun b hb => by have := own_at hown4 hb; omega) hown4, by omega, by omega, hR4, hgw4⟩)
              clear hps ho4 hown4 hz0' hz1' hz2'
              go_wp2_with fail
              go_ret2
              exact HA.out
end Go.Proofs.Ytoinagefhbpakaa
