/- A map from places to rooms that the call makes: what it holds as a plain function; its operations inside a fence. -/
import Derived.Test.YtogpfagdpkjmmaaReachP
import Derived.Test.YtogpfagdpkjmmaaFl
import Derived.Maps.OwnIn
import Derived.Maps.OwnSet
import Derived.RangeFuncOwn
namespace Go.Proofs.Ytogpfagdpkjmmaa
open Go.RowKit Go.Maps

abbrev keyN (k : Nat) : Lit := .int .i64 (k : Int)
abbrev litN (r : Int) : DataW Unit := .lit (.int .i64 r)

theorem keyedInt : Keyed Try.prog 3 := int_keyed Try.underlying3
theorem wfN {r : Int} (h0 : -1 ≤ r) (h1 : r ≤ 1000) : (Lit.int .i64 r).wf = true := by
  have a : IntKind.i64.min = -9223372036854775808 := by kernel_rfl
  have b : IntKind.i64.max = 9223372036854775807 := by kernel_rfl
  simp [Lit.wf, a, b]; omega
theorem keyN_of {k : Nat} (hk : k ≤ 100) : keyOf Try.prog 3 (.int .i64 (k : Int)) = some (keyN k) := keyOf_int_mk Try.underlying3 (wfN (by omega) (by omega))
theorem keyN_ne {i j : Nat} (h : i ≠ j) : keyN i ≠ keyN j := fun e => h (by simp at e; omega)
theorem keyN_key (k : Nat) : WideAt.IsKeyLit (keyN k) := trivial
theorem zeroI (w : World) : (zeroValue 3).run Try.prog w = .ok (.int .i64 0) w := by kernel_rfl

/-- Block b is a map of at most m entries, which holds ρ. -/
def MapIs (w : World) (b m : Nat) (ρ : Nat → Option Int) : Prop :=
  ∃ D : DataW Unit, w.ownsMap Try.prog 3 (plainElem Try.prog 3) b m D ∧ IsMap D ∧ ∀ k : Nat, Maps.has D (keyN k) = (ρ k).isSome ∧ ∀ r, ρ k = some r → ∀ z, D.atKey (keyN k) z = litN r

theorem MapIs.kept {w w' : World} {b m : Nat} {ρ : Nat → Option Int} (h : MapIs w b m ρ) {row : Option Nat} (hg : w.grownBy w' row) (hne : some b ≠ row) : MapIs w' b m ρ := by
  obtain ⟨D, h1, h2, h3⟩ := h
  exact ⟨D, h1.kept hg hne, h2, h3⟩
theorem MapIs.alloc {w : World} {b m : Nat} {ρ : Nat → Option Int} (h : MapIs w b m ρ) (o : Obj) : MapIs (w.alloc o) b m ρ := h.kept (World.grownBy_alloc w o none) (by simp)
theorem MapIs.mono {w : World} {b m m' : Nat} {ρ : Nat → Option Int} (h : MapIs w b m ρ) (hm : m ≤ m') : MapIs w b m' ρ := by
  obtain ⟨D, h1, h2, h3⟩ := h
  exact ⟨D, h1.mono hm, h2, h3⟩
theorem MapIs.made (w : World) : MapIs (w.alloc (.map #[] 0)) w.heap.size 0 (fun _ => none) :=
  ⟨.map [], World.ownsMap_made w Try.prog 3 _, isMap_empty, fun k => ⟨rfl, fun r h => by cases h⟩⟩
theorem MapIs.block {w w' : World} {b m : Nat} {ρ : Nat → Option Int} (h : MapIs w b m ρ) (hb : w'.heap[b]? = w.heap[b]?) : MapIs w' b m ρ := by
  obtain ⟨D, ⟨es, clock, a1, a2⟩, h2, h3⟩ := h
  exact ⟨D, ⟨es, clock, by rw [hb]; exact a1, a2⟩, h2, h3⟩
theorem MapIs.lt {w : World} {b m : Nat} {ρ : Nat → Option Int} (h : MapIs w b m ρ) : b < w.heap.size := by
  obtain ⟨D, h1, _⟩ := h
  exact h1.lt
theorem MapIs.notCells {w : World} {b m : Nat} {ρ : Nat → Option Int} (h : MapIs w b m ρ) {o : Obj} (ho : w.heap[b]? = some o) : o.isCells = false := by
  obtain ⟨D, ⟨es, clock, a1, _⟩, _⟩ := h
  rw [a1] at ho; injection ho with ho; subst ho; rfl
theorem put_upd {D : DataW Unit} {ρ : Nat → Option Int} (hD : IsMap D) (h : ∀ k : Nat, Maps.has D (keyN k) = (ρ k).isSome ∧ ∀ r, ρ k = some r → ∀ z, D.atKey (keyN k) z = litN r) (j : Nat) (r : Int) :
    ∀ k : Nat, Maps.has (D.put (keyN j) (litN r)) (keyN k) = (upd ρ j r k).isSome ∧ ∀ q, upd ρ j r k = some q → ∀ z, (D.put (keyN j) (litN r)).atKey (keyN k) z = litN q := by
  intro k
  by_cases e : k = j
  · subst e
    rw [upd_at]
    exact ⟨by rw [has_put_same hD (keyN_key _)]; rfl, fun q hq z => by injection hq with hq; subst hq; exact atKey_put_same hD (keyN_key _) _ _⟩
  · have hu : upd ρ j r k = ρ k := by unfold upd; rw [if_neg e]
    rw [hu, has_put_other (keyN_ne e)]
    exact ⟨(h k).1, fun q hq z => by rw [atKey_put_other (keyN_ne e)]; exact (h k).2 q hq z⟩

section
variable {F : Fence} {nF : Nat} {w : World} {ops : Array Oper} {rest : List Oper} {o : Oper} {a : Act} {Q : Exit → Act → World → Prop}

theorem wpListIn_put (hg : o.guard = none) (m x v : Operand) (hop : o.op = Op.mapUpdate 61 m x v ∨ o.op = Op.insert 61 m x v) (b n : Nat) (ρ : Nat → Option Int)
    (hm : a.eval m = .map (some b)) (hown : MapIs w b n ρ) (hn : n < 1000) (k : Nat) (r : Int) (hx : a.eval x = .int .i64 k) (hv : a.eval v = .int .i64 r) (hk : k ≤ 100) (h0 : -1 ≤ r) (h1 : r ≤ 1000)
    (hK : ∀ w', MapIs w' b (n + 1) (upd ρ k r) → w.grownBy w' (some b) → wpListIn F nF Try.prog ops Q rest (a.put o.dst undef) w') :
    wpListIn F nF Try.prog ops Q (o :: rest) a w := by
  obtain ⟨D, d1, d2, d3⟩ := hown
  obtain ⟨w', hrun, r1, r2⟩ := d1.update keyedInt Try.underlying61 (by unfold maxLen; omega) (keyN_of hk) (plainElem_int (H := Unit) Try.underlying3 (wfN h0 h1))
  have hK' := hK w' ⟨_, r1, d2.put _ _, put_upd d2 d3 k r⟩ r2
  refine wpListIn_plain hg fun K' hK2 => ?_
  unfold Oper.wpIn
  rcases hop with hop | hop
  · refine ⟨by simp [Oper.about, hop], ?_⟩
    rw [Oper.semAt_plain F _ _ (by rw [hop]; intro c hc'; cases hc')]
    simp [execOp, hop, hm, hx, hv, hrun, Result.andThen]
    exact hK2 _ _ hK'
  · refine ⟨by simp [Oper.about, hop], ?_⟩
    rw [Oper.semAt_plain F _ _ (by rw [hop]; intro c hc'; cases hc')]
    simp [execOp, hop, hm, hx, hv, hrun, Result.andThen]
    exact hK2 _ _ hK'

theorem wpListIn_look (hg : o.guard = none) (m x : Operand) (hop : o.op = Op.lookup 61 m x true) (b n : Nat) (ρ : Nat → Option Int)
    (hm : a.eval m = .map (some b)) (hown : MapIs w b n ρ) (k : Nat) (hx : a.eval x = .int .i64 k) (hk : k ≤ 100) (bs : Bool) (hbs : (ρ k).isSome = bs)
    (hK : ∀ c : Int, (∀ r, ρ k = some r → c = r) → wpListIn F nF Try.prog ops Q rest (a.put o.dst (.tuple #[.int .i64 c, .bool bs])) w) :
    wpListIn F nF Try.prog ops Q (o :: rest) a w := by
  obtain ⟨D, d1, d2, d3⟩ := hown
  refine wpListIn_lookup_own_ok_int w hg m x _ hop 3 3 .i64 keyedInt Try.underlying61 Try.underlying3 (zeroI w) b n D hm d1 _ _ hx (keyN_of hk) ?_
  intro c hat _
  rw [(d3 k).1, hbs]
  exact hK c fun r hr => by
    rw [(d3 k).2 r hr] at hat
    simpa using hat.symm

/-- What a look-up reads. -/
theorem MapIs.run {b n : Nat} {ρ : Nat → Option Int} (h : MapIs w b n ρ) {k : Nat} (hk : k ≤ 100) {r : Int} (hr : ρ k = some r) : (Instr.lookup 61 (.map (some b)) (.int .i64 k) false).run Try.prog w = .ok (.int .i64 r) w := by
  obtain ⟨D, d1, d2, d3⟩ := h
  obtain ⟨c, hrun, hat, _⟩ := d1.lookup_int keyedInt Try.underlying61 Try.underlying3 (zeroI w) (keyN_of hk)
  rw [(d3 k).2 r hr] at hat
  have : c = r := by simpa using hat.symm
  subst this
  exact hrun
end
end Go.Proofs.Ytogpfagdpkjmmaa
