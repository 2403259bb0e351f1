/- A map keyed by two addresses and a number: what is found in it, and what is laid into it. -/
import Derived.Test.YtlmgbpbiljnohaaRows
import Derived.WalkKit
import Derived.ProofKit
import Derived.OpenShut
import Derived.Below
import Derived.LaidEql
import Derived.Laws.StructEq
import Derived.Lib.Hide
namespace Go.Proofs.Ytlmgbpbiljnohaa
open Go.ChangeShapes Go.WideShapes Go.ChangeAt Go.RowKit

/-- The key of two lists. -/
def keyV (a b : Addr) (n : Int) : Value := .agg #[.pointer (some a), .pointer (some b), .int .i64 n]

/-- An address in a plain row. -/
def PlainAt (w : World) (a : Addr) : Prop := ∃ cs t, w.heap[a.block]? = some (.cells cs t (0, 0))

theorem fieldsKey : (Try.prog.fieldsOf 91).toList.map (fun f => (f.name, f.type, f.offset)) = [("a", 89, 0), ("b", 89, 1), ("many", 3, 2)] := by kernel_rfl
theorem underKey : Try.prog.underlying 91 = some (.struct (Try.prog.fieldsOf 91)) := by kernel_rfl
theorem stoodKey : Try.prog.stoodInHeld 91 = false := by kernel_rfl
theorem sizePtr : (Try.prog.info? 89).map (fun i => i.size) = some 1 := by kernel_rfl
theorem sizeInt : (Try.prog.info? 3).map (fun i => i.size) = some 1 := by kernel_rfl
theorem sizeSt : (Try.prog.info? 29).map (fun i => i.size) = some 6 := by kernel_rfl

theorem fields3 : ∃ f0 f1 f2 : Field, (Try.prog.fieldsOf 91).toList = [f0, f1, f2] ∧ f0.name ≠ "_" ∧ f1.name ≠ "_" ∧ f2.name ≠ "_" ∧ f0.type = 89 ∧ f1.type = 89 ∧ f2.type = 3 ∧ f0.offset = 0 ∧ f1.offset = 1 ∧ f2.offset = 2 := by
  have h := fieldsKey
  obtain ⟨f0, l1, h0, e0, h1⟩ := List.map_eq_cons_iff.1 h
  obtain ⟨f1, l2, rfl, e1, h2⟩ := List.map_eq_cons_iff.1 h1
  obtain ⟨f2, l3, rfl, e2, h3⟩ := List.map_eq_cons_iff.1 h2
  obtain rfl : l3 = [] := List.map_eq_nil_iff.1 h3
  simp only [Prod.mk.injEq] at e0 e1 e2
  exact ⟨f0, f1, f2, h0, by rw [e0.1]; decide, by rw [e1.1]; decide, by rw [e2.1]; decide, e0.2.1, e1.2.1, e2.2.1, e0.2.2, e1.2.2, e2.2.2⟩

theorem eqPtr (w : World) (d : Nat) (a b : Addr) (ha : PlainAt w a) (hb : PlainAt w b) : (Op.equalIn (d + 1) 89 (.pointer (some a)) (.pointer (some b))).run Try.prog w = .ok (decide (a = b)) w := by
  obtain ⟨i, hi, hs⟩ := Option.map_eq_some_iff.1 sizeSt
  obtain ⟨ca, ta, ha⟩ := ha
  obtain ⟨cb, tb, hb⟩ := hb
  have hu : Try.prog.underlying 89 = some (.pointer 29) := Try.underlying89
  by_cases e : a = b
  · subst e
    simp [Op.equalIn, run_underlying hu, sizeOf, typeInfo, hi, run_sameAddr_same]
  · simp [Op.equalIn, run_underlying hu, sizeOf, typeInfo, hi, hs, run_sameAddr_other w e ha hb, e]

theorem eqKey (w : World) (a b a' b' : Addr) (n n' : Int) (ha : PlainAt w a) (hb : PlainAt w b) (ha' : PlainAt w a') (hb' : PlainAt w b') :
    (Op.equal 91 (keyV a b n) (keyV a' b' n')).run Try.prog w = .ok (decide (a = a' ∧ b = b' ∧ n = n')) w := by
  obtain ⟨f0, f1, f2, hl, n0, n1, n2, t0, t1, t2, o0, o1, o2⟩ := fields3
  obtain ⟨ip, hip, hps⟩ := Option.map_eq_some_iff.1 sizePtr
  obtain ⟨ii, hii, his⟩ := Option.map_eq_some_iff.1 sizeInt
  show (Op.equalIn (9999 + 1) 91 (.agg _) (.agg _)).run Try.prog w = _
  rw [run_equalIn_agg w 9999 _ _ _ underKey stoodKey, hl]
  have e1 := eqPtr w 9998 a a' ha ha'
  have e2 := eqPtr w 9998 b b' hb hb'
  have e3 := run_equalIn_int (P := Try.prog) w 9998 3 .i64 .i64 n n' Try.underlying3
  simp [Op.eqFields, n0, n1, n2, t0, t1, t2, o0, o1, o2, part, sizeOf, typeInfo, hip, hps, hii, his, e1, e2, e3]
  by_cases h1 : a = a' <;> by_cases h2 : b = b' <;> by_cases h3 : n = n' <;> simp [h1, h2, h3]

/-- Such a key can be hashed. -/
theorem checkKeyV (w : World) (em : Bool) (a b : Addr) (n : Int) : (Instr.checkKey em 10000 91 (keyV a b n)).run Try.prog w = .ok () w := by
  obtain ⟨f0, f1, f2, hl, n0, n1, n2, t0, t1, t2, o0, o1, o2⟩ := fields3
  obtain ⟨ip, hip, hps⟩ := Option.map_eq_some_iff.1 sizePtr
  obtain ⟨ii, hii, his⟩ := Option.map_eq_some_iff.1 sizeInt
  have hf : Try.prog.fieldsOf 91 = #[f0, f1, f2] := by
    apply Array.toList_inj.1
    rw [hl]
  have hu := underKey
  rw [hf] at hu
  have q1 : ∀ d x, (Instr.checkKey em (d + 1) 89 (.pointer x)).run Try.prog w = .ok () w := fun d x => by
    simp [Instr.checkKey, run_underlying Try.underlying89]
  have q2 : ∀ d x, (Instr.checkKey em (d + 1) 3 (.int .i64 x)).run Try.prog w = .ok () w := fun d x => by
    simp [Instr.checkKey, run_underlying Try.underlying3]
  have p1 := q1 9998
  have p2 := q2 9998
  show (Instr.checkKey em (9999 + 1) 91 (.agg _)).run Try.prog w = _
  unfold Instr.checkKey
  simp [run_underlying hu, n0, n1, n2, t0, t1, t2, o0, o1, o2, part, sizeOf, typeInfo, hip, hps, hii, his, p1, p2]

/-- What the map's entries are. -/
def Ents (l : List MapEntry) (ks : List (Addr × Addr × Int)) : Prop := l.map (fun e => (e.key, e.val)) = ks.map (fun k => (keyV k.1 k.2.1 k.2.2, Value.bool true))
def AllPlain (w : World) (ks : List (Addr × Addr × Int)) : Prop := ∀ k ∈ ks, PlainAt w k.1 ∧ PlainAt w k.2.1

theorem findK (w : World) (a b : Addr) (n : Int) (ha : PlainAt w a) (hb : PlainAt w b) : ∀ (ks : List (Addr × Addr × Int)) (l : List MapEntry) (i : Nat), Ents l ks → AllPlain w ks →
    (∃ j, (Instr.findAsking 91 (keyV a b n) l i).run Try.prog w = .ok (some (j, .bool true)) w ∧ (a, b, n) ∈ ks) ∨ ((Instr.findAsking 91 (keyV a b n) l i).run Try.prog w = .ok none w ∧ (a, b, n) ∉ ks) := by
  intro ks
  induction ks with
  | nil =>
    intro l i hl _
    have : l = [] := by simpa [Ents] using hl
    subst this
    exact .inr ⟨by simp [Instr.findAsking], by simp⟩
  | cons k ks ih =>
    intro l i hl hp
    cases l with
    | nil => simp [Ents] at hl
    | cons e l =>
      simp only [Ents, List.map_cons, List.cons.injEq, Prod.mk.injEq] at hl
      obtain ⟨⟨hk, hv⟩, hl⟩ := hl
      have hpk := hp k (by simp)
      have he := eqKey w a b k.1 k.2.1 n k.2.2 ha hb hpk.1 hpk.2
      by_cases hm : a = k.1 ∧ b = k.2.1 ∧ n = k.2.2
      · left
        rw [show decide (a = k.1 ∧ b = k.2.1 ∧ n = k.2.2) = true from decide_eq_true hm] at he
        refine ⟨i, by simp [Instr.findAsking, hk, he, hv], ?_⟩
        obtain ⟨rfl, rfl, rfl⟩ := hm
        simp
      · rw [show decide (a = k.1 ∧ b = k.2.1 ∧ n = k.2.2) = false from decide_eq_false hm] at he
        have hne : (a, b, n) ≠ k := fun h => hm (by rw [← h]; exact ⟨rfl, rfl, rfl⟩)
        rcases ih l (i + 1) hl (fun q hq => hp q (by simp [hq])) with ⟨j, h1, h2⟩ | ⟨h1, h2⟩
        · exact .inl ⟨j, by simp [Instr.findAsking, hk, he, h1], by simp [h2]⟩
        · exact .inr ⟨by simp [Instr.findAsking, hk, he, h1], by simp [h2, hne]⟩

theorem findKey_asks (w : World) (v : Value) (l : List MapEntry) : (Instr.findKey 91 v l).run Try.prog w = (Instr.findAsking 91 v l).run Try.prog w := by
  cases l with
  | nil => simp [Instr.findKey, run_underlying underKey, Instr.findNow, Instr.findAsking]
  | cons e l => simp [Instr.findKey, run_underlying underKey, Instr.findNow, Instr.sameNow]

/-- The map in block r holds just these keys. -/
def MapIs (w : World) (r : Nat) (ks : List (Addr × Addr × Int)) : Prop := ∃ es clock, w.heap[r]? = some (.map es clock) ∧ Ents es.toList ks

theorem underMap : Try.prog.underlying 86 = some (.map 91 4) := by kernel_rfl

open Classical in
theorem lookK (w : World) (r : Nat) (ks : List (Addr × Addr × Int)) (a b : Addr) (n : Int) (hm : MapIs w r ks) (hp : AllPlain w ks) (ha : PlainAt w a) (hb : PlainAt w b) :
    (Instr.lookup 86 (.map (some r)) (keyV a b n) false).run Try.prog w = .ok (.bool (decide ((a, b, n) ∈ ks))) w := by
  obtain ⟨es, clock, hr, he⟩ := hm
  rcases findK w a b n ha hb ks es.toList 0 he hp with ⟨j, h1, h2⟩ | ⟨h1, h2⟩
  · simp [Instr.lookup, run_underlying underMap, MapKept.run_getObj_map hr, checkKeyV, findKey_asks, h1, h2]
  · simp [Instr.lookup, run_underlying underMap, MapKept.run_getObj_map hr, checkKeyV, findKey_asks, h1, h2]

theorem putK (w : World) (r : Nat) (ks : List (Addr × Addr × Int)) (a b : Addr) (n : Int) (hm : MapIs w r ks) (hp : AllPlain w ks) (ha : PlainAt w a) (hb : PlainAt w b) (hn : (a, b, n) ∉ ks) :
    ∃ w', (Instr.mapUpdate 86 (.map (some r)) (keyV a b n) (.bool true)).run Try.prog w = .ok () w' ∧ MapIs w' r (ks ++ [(a, b, n)]) ∧ w.grownBy w' (some r) ∧ w'.heap.size = w.heap.size := by
  obtain ⟨es, clock, hr, he⟩ := hm
  rcases findK w a b n ha hb ks es.toList 0 he hp with ⟨j, h1, h2⟩ | ⟨h1, h2⟩
  · exact absurd h2 hn
  · have hrun : (Instr.mapUpdate 86 (.map (some r)) (keyV a b n) (.bool true)).run Try.prog w = (setObj r (.map (es.push { key := keyV a b n, val := .bool true, born := clock }) (clock + 1))).run Try.prog w := by
      simp [Instr.mapUpdate, run_underlying underMap, MapKept.run_getObj_map hr, checkKeyV, findKey_asks, h1]
    rw [hrun, MapKept.run_setObj_map _ hr]
    have hlt := (Array.getElem?_eq_some_iff.1 hr).1
    refine ⟨{ w with heap := w.heap.setIfInBounds r (.map (es.push { key := keyV a b n, val := .bool true, born := clock }) (clock + 1)) }, rfl, ⟨es.push { key := keyV a b n, val := .bool true, born := clock }, clock + 1, ?_, ?_⟩, ⟨rfl, rfl, rfl, ?_, fun k _ hk => ?_⟩, ?_⟩
    · show (w.heap.setIfInBounds r _)[r]? = _
      rw [Array.getElem?_setIfInBounds, if_pos rfl, if_pos hlt]
    · unfold Ents at he ⊢
      rw [Array.toList_push, List.map_append, List.map_append, he]
      rfl
    · show w.heap.size ≤ (w.heap.setIfInBounds r _).size
      simp
    · show (w.heap.setIfInBounds r _)[k]? = _
      rw [Array.getElem?_setIfInBounds, if_neg (fun e => hk (by rw [e]))]
    · show (w.heap.setIfInBounds r _).size = _
      simp
end Go.Proofs.Ytlmgbpbiljnohaa
